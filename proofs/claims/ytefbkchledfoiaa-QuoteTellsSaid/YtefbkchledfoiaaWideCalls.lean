/-
  wide.Of, Add, Sub as calls.
-/
import Derived.Test.YtefbkchledfoiaaWideEq
import Derived.Test.YtefbkchledfoiaaWideSub
namespace Go.Proofs.Ytefbkchledfoiaa
open Go.RowKit Go.Shelf

theorem add_any {a0 a1 a2 a3 b0 b1 b2 b3 : Nat} (ha : Ok4 a0 a1 a2 a3) (hb : Ok4 b0 b1 b2 b3) (w : World) :
    Calls Try.prog 20 #[wv a0 a1 a2 a3, wv b0 b1 b2 b3] w (AddW (val a0 a1 a2 a3 + val b0 b1 b2 b3) w) := callsIn_wide.1 (add_in 3 (by omega) ha hb w)
theorem sub_any {a0 a1 a2 a3 b0 b1 b2 b3 : Nat} (ha : Ok4 a0 a1 a2 a3) (hb : Ok4 b0 b1 b2 b3) (w : World) :
    Calls Try.prog 19 #[wv a0 a1 a2 a3, wv b0 b1 b2 b3] w (SubW (val a0 a1 a2 a3) (val b0 b1 b2 b3) w) := callsIn_wide.1 (sub_in 3 (by omega) ha hb w)

theorem Ok4.one {n : Nat} (h : n < M) : Ok4 n 0 0 0 := ⟨h, M_pos, M_pos, M_pos⟩
theorem val_one (n : Nat) : val n 0 0 0 = n := by simp [val]
end Go.Proofs.Ytefbkchledfoiaa
