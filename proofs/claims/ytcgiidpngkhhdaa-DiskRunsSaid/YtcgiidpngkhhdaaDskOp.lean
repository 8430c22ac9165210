/-
  Calls of a disk as plain things.
-/
import Derived.Test.YtcgiidpngkhhdaaDskM
namespace Go.Proofs.Ytcgiidpngkhhdaa
open Go.RowKit Go.Shelf

/-- Its kind, a number, octets: where they lie, and which they are. -/
structure Dop where
  kd : Int
  nn : Int
  da : Value
  ld : List UInt8
def opc (x : Dop) : List Value := [.int .i64 x.kd, .int .i64 x.nn, x.da]
abbrev opv (x : Dop) : Value := .agg (opc x).toArray
def noOp : Dop := ⟨0, 0, .slice none 0 0, []⟩
theorem opc_len (x : Dop) : (opc x).length = 3 := rfl
end Go.Proofs.Ytcgiidpngkhhdaa
