/-
  wide.Of; the law's own example.
-/
import Derived.Test.YteimghegjdjjfaaWideEq
namespace Go.Proofs.Yteimghegjdjjfaa
open Go.RowKit Go.Shelf

set_option maxHeartbeats 1000000 in
theorem of_any (z : Int) (n : Nat) (h : z = n) (w : World) : Calls Try.prog 17 #[.int .u64 z] w fun e W' => e = .returned (wv n 0 0 0) ∧ Below w.heap.size w W' := by
  subst h
  go_enter Try.func17, Try.ntmps17
  go_wp2
  exact bodyPost_ret (v := wv n 0 0 0) (by simp [results, Try.f17, go_sem]) rfl ⟨rfl, (Below.refl _ _).alloc (Nat.le_refl _) _⟩

theorem add_any {a0 a1 a2 a3 b0 b1 b2 b3 : Nat} (ha : Ok4 a0 a1 a2 a3) (hb : Ok4 b0 b1 b2 b3) (w : World) :
    Calls Try.prog 7 #[wv a0 a1 a2 a3, wv b0 b1 b2 b3] w (AddW (val a0 a1 a2 a3 + val b0 b1 b2 b3) w) := callsIn_wide.1 (add_in 3 (by omega) ha hb w)
theorem sub_any {a0 a1 a2 a3 b0 b1 b2 b3 : Nat} (ha : Ok4 a0 a1 a2 a3) (hb : Ok4 b0 b1 b2 b3) (w : World) :
    Calls Try.prog 8 #[wv a0 a1 a2 a3, wv b0 b1 b2 b3] w (SubW (val a0 a1 a2 a3) (val b0 b1 b2 b3) w) := callsIn_wide.1 (sub_in 3 (by omega) ha hb w)

theorem Ok4.one {n : Nat} (h : n < M) : Ok4 n 0 0 0 := ⟨h, M_pos, M_pos, M_pos⟩
theorem val_one (n : Nat) : val n 0 0 0 = n := by simp [val]

set_option maxHeartbeats 2000000 in
theorem alive_any (w : World) : Calls Try.prog 18 #[] w fun e W' => e = .returned (.bool true) ∧ Below w.heap.size w W' := by
  go_enter Try.func18, Try.ntmps18
  go_wp2_with fail
  refine (of_any 3 3 rfl _).mono ?_
  rintro e w1 ⟨rfl, hb1⟩
  go_wp2_with fail
  refine (of_any 5 5 rfl _).mono ?_
  rintro e w2 ⟨rfl, hb2⟩
  go_wp2_with fail
  refine (sub_any (a0 := 3) (a1 := 0) (a2 := 0) (a3 := 0) (b0 := 5) (b1 := 0) (b2 := 0) (b3 := 0) (Ok4.one (by unfold M; omega)) (Ok4.one (by unfold M; omega)) _).mono ?_
  rintro e w3 h
  rcases h with ⟨hle, _⟩ | ⟨_, rfl, hb3⟩
  · rw [val_one, val_one] at hle; omega
  go_wp2_with fail
  refine (of_any 3 3 rfl _).mono ?_
  rintro e w4 ⟨rfl, hb4⟩
  go_wp2_with fail
  refine (of_any 5 5 rfl _).mono ?_
  rintro e w5 ⟨rfl, hb5⟩
  go_wp2_with fail
  refine (add_any (a0 := 3) (a1 := 0) (a2 := 0) (a3 := 0) (b0 := 5) (b1 := 0) (b2 := 0) (b3 := 0) (Ok4.one (by unfold M; omega)) (Ok4.one (by unfold M; omega)) _).mono ?_
  rintro e w6 h
  rcases h with ⟨_, s0, s1, s2, s3, hs, hv, rfl, hb6⟩ | ⟨hle, _⟩
  case inr => rw [val_one, val_one] at hle; unfold M4 M at hle; omega
  obtain ⟨rfl, rfl, rfl, rfl⟩ := val_inj hs (Ok4.one (n := 8) (by unfold M; omega)) (by rw [hv]; simp only [val_one])
  clear hs hv
  have heq := run_equalIn_wide
  have hrefl := wEq_refl
  go_wp2_with fail
  go_ret
  exact ⟨rfl, chainA (chain (chain (chain (chainA (chain (chain hb1 hb2) hb3) _) hb4) hb5) hb6) _⟩
end Go.Proofs.Yteimghegjdjjfaa
