/-
  What wide's words are as values; what math/bits.Add64 and Sub64 give; a sequence of four words with their places.
-/
import Derived.RangeFuncNested
import Derived.RangeFuncBound
import Derived.RangeFuncCalls
import Derived.RangeFuncLeaves
import Derived.Shelf.Abstract
import Derived.Shelf.RegionOpen
import Derived.WalkKit
import Derived.OwnWalkIn
import Derived.TacticsInMore
import Derived.LoopNIn
import Derived.LoopIn
import Derived.Lib.Hide
import Derived.Shelf.Spec.BitsCarry
import Derived.Test.YtefbkchledfoiaaBase
namespace Go.Proofs.Ytefbkchledfoiaa
open Go.RowKit Go.Shelf

def addLo (x y c : Nat) : Nat := (x + y + c) % M
def addHi (x y c : Nat) : Nat := (x + y + c) / M
def subLo (x y b : Nat) : Nat := (x + M - y - b) % M
def subHi (x y b : Nat) : Nat := if x < y + b then 1 else 0

theorem run_bitsAdd64 (x y c : Nat) (hc : c ≤ 1) (w : World) :
    (callFunc 24 #[.int .u64 x, .int .u64 y, .int .u64 c]).run Try.prog w = .ok (.value (.tuple #[.int .u64 (addLo x y c : Nat), .int .u64 (addHi x y c : Nat)])) w := by
  rw [run_callFunc_extern Try.func24 (by kernel_rfl) (by kernel_rfl) (by kernel_rfl) (e := add64Entry) (by kernel_rfl), run_add64 x y c (by omega) (by omega) (by omega) (by omega)]
  simp only [Result.andThen, addLo, addHi, M]
  congr 5 <;> omega

theorem run_bitsSub64 (x y b : Nat) (hb : b ≤ 1) (w : World) :
    (callFunc 27 #[.int .u64 x, .int .u64 y, .int .u64 b]).run Try.prog w = .ok (.value (.tuple #[.int .u64 (subLo x y b : Nat), .int .u64 (subHi x y b : Nat)])) w := by
  rw [run_callFunc_extern Try.func27 (by kernel_rfl) (by kernel_rfl) (by kernel_rfl) (e := sub64Entry) (by kernel_rfl), run_sub64 x y b hb]
  rfl

theorem addHi_le {x y c : Nat} (hx : x < M) (hy : y < M) (hc : c ≤ 1) : addHi x y c ≤ 1 := by
  unfold addHi M at *; omega

end Go.Proofs.Ytefbkchledfoiaa
