/-
  wide.Of, Add, Sub as calls.
-/
import Derived.Test.YtcgfnppknldhbaaWideEq
import Derived.Test.YtcgfnppknldhbaaWideSub
namespace Go.Proofs.Ytcgfnppknldhbaa
open Go.RowKit Go.Shelf

set_option maxHeartbeats 1000000 in
theorem of_any (z : Int) (n : Nat) (h : z = n) (w : World) : Calls Try.prog 22 #[.int .u64 z] w fun e W' => e = .returned (wv n 0 0 0) ∧ Below w.heap.size w W' := by
  subst h
  go_enter Try.func22, Try.ntmps22
  go_wp2
  exact bodyPost_ret (v := wv n 0 0 0) (by simp [results, Try.f22, go_sem]) rfl ⟨rfl, (Below.refl _ _).alloc (Nat.le_refl _) _⟩

theorem add_any {a0 a1 a2 a3 b0 b1 b2 b3 : Nat} (ha : Ok4 a0 a1 a2 a3) (hb : Ok4 b0 b1 b2 b3) (w : World) :
    Calls Try.prog 17 #[wv a0 a1 a2 a3, wv b0 b1 b2 b3] w (AddW (val a0 a1 a2 a3 + val b0 b1 b2 b3) w) := callsIn_wide.1 (add_in 3 (by omega) ha hb w)
theorem sub_any {a0 a1 a2 a3 b0 b1 b2 b3 : Nat} (ha : Ok4 a0 a1 a2 a3) (hb : Ok4 b0 b1 b2 b3) (w : World) :
    Calls Try.prog 18 #[wv a0 a1 a2 a3, wv b0 b1 b2 b3] w (SubW (val a0 a1 a2 a3) (val b0 b1 b2 b3) w) := callsIn_wide.1 (sub_in 3 (by omega) ha hb w)

theorem Ok4.one {n : Nat} (h : n < M) : Ok4 n 0 0 0 := ⟨h, M_pos, M_pos, M_pos⟩
theorem val_one (n : Nat) : val n 0 0 0 = n := by simp [val]
end Go.Proofs.Ytcgfnppknldhbaa
