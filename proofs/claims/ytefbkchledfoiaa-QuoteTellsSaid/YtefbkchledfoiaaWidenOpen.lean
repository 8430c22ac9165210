/-
  A wide number among the arguments, told by its number.
-/
import Derived.Test.YtefbkchledfoiaaWideOpen
import Derived.Test.YtefbkchledfoiaaPurseM
namespace Go.Proofs.Ytefbkchledfoiaa
open Go.RowKit Go.Shelf

set_option maxRecDepth 100000 in
theorem open_widen {H : Type} {enc : TypeId × Value → H} {r : Reach} {w : World} {b0 base : Nat} {spare : Nat → Bool} {held : Bool} {v : Value} {d : DataW H} {p : List MemPlace}
    (hv : Value.okWide Try.prog w r b0 24 v) (h : DataW.Trod enc Try.prog w base spare held 24 v d p) : ∃ n : Nat, n < M4 ∧ v = wn n := by
  obtain ⟨a0, a1, a2, a3, hk, rfl⟩ := open_wide hv h
  exact ⟨_, val_lt hk, wn_of hk rfl⟩
-- HERE
end Go.Proofs.Ytefbkchledfoiaa
