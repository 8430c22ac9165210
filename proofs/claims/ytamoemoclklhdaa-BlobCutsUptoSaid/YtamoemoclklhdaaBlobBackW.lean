/-
  The walk of BlobBack: it answers true at every number and every wide number.
-/
import Derived.Test.YtamoemoclklhdaaBlobAlive
import Derived.Test.YtamoemoclklhdaaBlobWide
import Derived.Test.YtamoemoclklhdaaUnwide
import Derived.Test.YtamoemoclklhdaaBlobInt
import Derived.Test.YtamoemoclklhdaaWideEq
namespace Go.Proofs.Ytamoemoclklhdaa
open Go.RowKit Go.Shelf

theorem wide8_length (a0 a1 a2 a3 : Nat) : (wide8 a0 a1 a2 a3).length = 32 := by simp [wide8, octs_length]
theorem uwd_wide8 {a0 a1 a2 a3 : Nat} (ha : Ok4 a0 a1 a2 a3) : uwd (wide8 a0 a1 a2 a3) 32 0 = a0 ∧ uwd (wide8 a0 a1 a2 a3) 32 1 = a1 ∧ uwd (wide8 a0 a1 a2 a3) 32 2 = a2 ∧ uwd (wide8 a0 a1 a2 a3) 32 3 = a3 := by
  obtain ⟨h0, h1, h2, h3⟩ := ha
  have hb : ∀ a, a < M → be (octs a 8) = a := fun a h => by
    rw [be_octs]
    exact Nat.mod_eq_of_lt (by unfold M at h; omega)
  have l8 : ∀ a, (octs a 8).length = 8 := fun a => octs_length a 8
  unfold uwd
  rw [List.take_of_length_le (l := wide8 a0 a1 a2 a3) (by rw [wide8_length]; omega)]
  unfold wide8
  refine ⟨?_, ?_, ?_, ?_⟩
  · rw [show 8 * (3 - 0) = 8 + (8 + 8) from rfl, ← List.drop_drop, ← List.drop_drop, List.drop_left' (l8 _), List.drop_left' (l8 _), List.drop_left' (l8 _), List.take_of_length_le (by rw [l8]; omega), hb _ h0]
  · rw [show 8 * (3 - 1) = 8 + 8 from rfl, ← List.drop_drop, List.drop_left' (l8 _), List.drop_left' (l8 _), List.take_left' (l8 _), hb _ h1]
  · rw [show 8 * (3 - 2) = 8 from rfl, List.drop_left' (l8 _), List.take_left' (l8 _), hb _ h2]
  · rw [show 8 * (3 - 3) = 0 from rfl, List.drop_zero, List.take_left' (l8 _), hb _ h3]

set_option maxRecDepth 100000 in
set_option maxHeartbeats 4000000 in
theorem blobBack_any {a0 a1 a2 a3 : Nat} (ha : Ok4 a0 a1 a2 a3) (n : Int) (hn : -9223372036854775808 ≤ n) (hn' : n ≤ 9223372036854775807) (w : World) :
    Calls Try.prog 4 #[.int .i64 n, wv a0 a1 a2 a3] w fun e W' => e = .returned (.bool true) ∧ Below w.heap.size w W' := by
  have heq := run_equalIn_wide
  have hrefl := wEq_refl
  go_enter Try.func4, Try.ntmps4
  go_wp2_with fail
  refine (blobAlive_any _).mono ?_
  rintro e w1 ⟨rfl, hb1⟩
  have kA : BlkW w1 w.heap.size a0 a1 a2 a3 := (Blk.new' rfl).below hb1 (by simp)
  have d1 := chain (chain0 w _) hb1
  clear hb1
  obtain ⟨x0, x1, x2, x3⟩ := kA.c4
  go_wp2_with fail
  refine (blobWide_any ha _).mono ?_
  clear x0 x1 x2 x3
  rintro e w2 ⟨sv, rfl, hsv, hb2⟩
  replace kA := kA.below hb2 kA.lt
  have d2 := chain d1 hb2
  clear hb2 d1
  go_wp2_with fail
  refine (unwide_any _ _ _ (hsv.mono (Nat.zero_le _) (Nat.le_refl _))).mono ?_
  rintro e w3 h
  rcases h with ⟨_, rfl, hb3⟩ | ⟨hne, _⟩
  case inr => exact absurd (wide8_length _ _ _ _) hne
  obtain ⟨u0, u1, u2, u3⟩ := uwd_wide8 ha
  rw [u0, u1, u2, u3]
  clear u0 u1 u2 u3 hsv
  replace kA := kA.below hb3 kA.lt
  have d3 := chain d2 hb3
  clear hb3 d2
  obtain ⟨x0, x1, x2, x3⟩ := kA.c4
  have lA := kA.lt
  by_cases h0 : n < 0
  · have h0' : decide (n < 0) = true := by simpa using h0
    go_wp2_with fail
    go_ret
    exact ⟨rfl, chainA d3 _⟩
  · by_cases h1 : 72057594037927936 ≤ n
    · have h1' : decide (72057594037927936 ≤ n) = true := by simpa using h1
      have h0' : decide (n < 0) = false := by simpa using h0
      go_wp2_with fail
      go_ret
      exact ⟨rfl, chainA d3 _⟩
    · have h1' : decide (72057594037927936 ≤ n) = false := by simpa using h1
      have h0' : decide (n < 0) = false := by simpa using h0
      go_wp2_with fail
      refine (num_any n 7 (by omega) (by omega) _).mono ?_
      rintro e w4 ⟨sv, rfl, hsv, hb4⟩
      go_wp2_with fail
      have hl : (octs (two n) (clamp 7)).length = 7 := by rw [octs_length]; decide
      refine (blobInt_any _ _ _ (by rw [hl]; omega) (hsv.mono (Nat.zero_le _) (Nat.le_refl _))).mono ?_
      rintro e w5 ⟨rfl, hb5⟩
      have hN : ((be ((octs (two n) (clamp 7)).take 7) : Nat) : Int) = n := by
        rw [List.take_of_length_le (by rw [hl]; omega), be_octs, show clamp 7 = 7 by decide]
        unfold two
        omega
      rw [hN]
      go_wp2_with fail
      go_ret
      exact ⟨rfl, chain (chain (chainA d3 _) hb4) hb5⟩

end Go.Proofs.Ytamoemoclklhdaa
