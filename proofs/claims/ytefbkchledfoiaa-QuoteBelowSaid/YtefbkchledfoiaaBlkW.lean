/-
  The block of a wide number.
-/
import Derived.Test.YtefbkchledfoiaaBase
namespace Go.Proofs.Ytefbkchledfoiaa
open Go.RowKit Go.Shelf

/-- The block of a wide number. -/
abbrev BlkW (W : World) (B a0 a1 a2 a3 : Nat) : Prop := Blk W B 24 [.int .u64 (a0 : Int), .int .u64 (a1 : Int), .int .u64 (a2 : Int), .int .u64 (a3 : Int)]

end Go.Proofs.Ytefbkchledfoiaa
