/-
  The reference's Bits tells how many bits a number has.
-/
import Derived.Test.YtacpagfocmhfeaaRefDigits
import Derived.Test.YtacpagfocmhfeaaRefMade
import Derived.Test.YtacpagfocmhfeaaRefMath
import Derived.Test.YtacpagfocmhfeaaWideSmall
import Derived.IntWalk
import Derived.Deep.QuietTactic
import Derived.BigQuiet
namespace Go.Proofs.Ytacpagfocmhfeaa
open Go.RowKit

theorem bitLen_zero : Lib.bitLen 0 = 0 := by decide
theorem bitLen_half' {x : Nat} (h0 : x ≠ 0) (h : x < 65536) : Lib.bitLen x = 1 + Lib.bitLen (x / 2) := Lib.bitLen_half x h0 (by omega)
theorem bitLen16 {x : Nat} (h : x < 65536) : Lib.bitLen x ≤ 16 := Lib.bitLen_le x 16 (by omega) (by omega)
theorem bitLen_word {x t : Nat} (hx : x < M) (ht : t < 4) (hd : sh x t % 65536 ≠ 0) (hz : ∀ s, t < s → s < 4 → sh x s % 65536 = 0) : x ≠ 0 ∧ Lib.bitLen x = 16 * t + Lib.bitLen (sh x t % 65536) := by
  have hw := word_digits hx
  have hx' : x < 18446744073709551616 := hx
  have h0 : t = 0 ∨ t = 1 ∨ t = 2 ∨ t = 3 := by omega
  rcases h0 with rfl | rfl | rfl | rfl
  · rw [hz 1 (by omega) (by omega), hz 2 (by omega) (by omega), hz 3 (by omega) (by omega)] at hw
    generalize sh x 0 % 65536 = d at *
    obtain rfl : x = d := by omega
    exact ⟨hd, by omega⟩
  · rw [hz 2 (by omega) (by omega), hz 3 (by omega) (by omega)] at hw
    have : sh x 0 % 65536 < 65536 := Nat.mod_lt _ (by omega)
    generalize sh x 0 % 65536 = d0 at *
    generalize sh x 1 % 65536 = d at *
    refine ⟨by omega, ?_⟩
    rw [Lib.bitLen_shift16 x (by omega) hx', show x / 65536 = d by omega]
  · rw [hz 3 (by omega) (by omega)] at hw
    have : sh x 0 % 65536 < 65536 := Nat.mod_lt _ (by omega)
    have : sh x 1 % 65536 < 65536 := Nat.mod_lt _ (by omega)
    generalize sh x 0 % 65536 = d0 at *
    generalize sh x 1 % 65536 = d1 at *
    generalize sh x 2 % 65536 = d at *
    refine ⟨by omega, ?_⟩
    rw [Lib.bitLen_shift32 x (by omega) hx', show x / 4294967296 = d by omega]
  · have : sh x 0 % 65536 < 65536 := Nat.mod_lt _ (by omega)
    have : sh x 1 % 65536 < 65536 := Nat.mod_lt _ (by omega)
    have : sh x 2 % 65536 < 65536 := Nat.mod_lt _ (by omega)
    generalize sh x 0 % 65536 = d0 at *
    generalize sh x 1 % 65536 = d1 at *
    generalize sh x 2 % 65536 = d2 at *
    generalize sh x 3 % 65536 = d at *
    refine ⟨by omega, ?_⟩
    rw [Lib.bitLen_shift48 x (by omega) hx', show x / 281474976710656 = d by omega]
theorem word_zero {x : Nat} (hx : x < M) (hz : ∀ s, s < 4 → sh x s % 65536 = 0) : x = 0 := by
  have hw := word_digits hx
  rw [hz 0 (by omega), hz 1 (by omega), hz 2 (by omega), hz 3 (by omega)] at hw
  omega
theorem wbits_dg {a0 a1 a2 a3 j : Nat} (ha : Ok4 a0 a1 a2 a3) (hj : j < 16) (hd : dg a0 a1 a2 a3 j ≠ 0) (hz : ∀ t, j < t → t < 16 → dg a0 a1 a2 a3 t = 0) : wbits a0 a1 a2 a3 = 16 * j + Lib.bitLen (dg a0 a1 a2 a3 j) := by
  obtain ⟨k, t, hk, ht, rfl⟩ : ∃ k t, k < 4 ∧ t < 4 ∧ j = 4 * k + t := ⟨j / 4, j % 4, by omega, by omega, by omega⟩
  have hw := word_lt ha.h0 ha.h1 ha.h2 ha.h3
  have hup : ∀ q, k < q → q < 4 → word a0 a1 a2 a3 q = 0 := fun q h1 h2 => word_zero (hw q) (fun s hs => by rw [← dg_at hs]; exact hz _ (by omega) (by omega))
  rw [dg_at ht] at hd ⊢
  obtain ⟨h0, hb⟩ := bitLen_word (hw k) ht hd (fun s h1 h2 => by rw [← dg_at h2]; exact hz _ (by omega) (by omega))
  have e : 16 * (4 * k + t) + Lib.bitLen (sh (word a0 a1 a2 a3 k) t % 65536) = 64 * k + Lib.bitLen (word a0 a1 a2 a3 k) := by omega
  rw [e]
  have hk' : k = 0 ∨ k = 1 ∨ k = 2 ∨ k = 3 := by omega
  unfold wbits
  rcases hk' with rfl | rfl | rfl | rfl
  · rw [if_neg (by have := hup 3 (by omega) (by omega); simpa [word] using this), if_neg (by have := hup 2 (by omega) (by omega); simpa [word] using this), if_neg (by have := hup 1 (by omega) (by omega); simpa [word] using this), if_pos (by simpa [word] using h0)]
    simp [word]
  · rw [if_neg (by have := hup 3 (by omega) (by omega); simpa [word] using this), if_neg (by have := hup 2 (by omega) (by omega); simpa [word] using this), if_pos (by simpa [word] using h0)]
    simp [word]
  · rw [if_neg (by have := hup 3 (by omega) (by omega); simpa [word] using this), if_pos (by simpa [word] using h0)]
    simp [word]
  · rw [if_pos (by simpa [word] using h0)]
    simp [word]
theorem wbits_none {a0 a1 a2 a3 : Nat} (ha : Ok4 a0 a1 a2 a3) (hz : ∀ t, t < 16 → dg a0 a1 a2 a3 t = 0) : wbits a0 a1 a2 a3 = 0 := by
  have hw := word_lt ha.h0 ha.h1 ha.h2 ha.h3
  have h : ∀ q, q < 4 → word a0 a1 a2 a3 q = 0 := fun q h2 => word_zero (hw q) (fun s hs => by rw [← dg_at hs]; exact hz _ (by omega))
  have h0 : a0 = 0 := h 0 (by omega)
  have h1 : a1 = 0 := h 1 (by omega)
  have h2 : a2 = 0 := h 2 (by omega)
  have h3 : a3 = 0 := h 3 (by omega)
  unfold wbits
  rw [if_neg (by omega), if_neg (by omega), if_neg (by omega), if_neg (by omega)]

set_option maxRecDepth 100000 in
set_option maxHeartbeats 4000000 in
theorem refBits_any {a0 a1 a2 a3 : Nat} (ha : Ok4 a0 a1 a2 a3) (w : World) :
    Calls Try.prog 16 #[wv a0 a1 a2 a3] w fun e W' => e = .returned (.int .i64 (wbits a0 a1 a2 a3 : Nat)) ∧ Below w.heap.size w W' := by
  go_enter Try.func16, Try.ntmps16
  go_wp2_with (refine (digits_any ha _).mono ?_; rintro e W1 ⟨g1, p1, rfl, hg1, hl1, hn1, hb1⟩)
  have d1 : Below w.heap.size w W1 := chain (chain0 _ _) hb1
  have hdl := dg_lt a0 a1 a2 a3
  have hbit : ∀ j, j < 16 → dg a0 a1 a2 a3 j ≠ 0 → (∀ t, j < t → t < 16 → dg a0 a1 a2 a3 t = 0) → wbits a0 a1 a2 a3 = 16 * j + Lib.bitLen (dg a0 a1 a2 a3 j) := fun j h1 h2 h3 => wbits_dg ha h1 h2 h3
  have hnone : (∀ t, t < 16 → dg a0 a1 a2 a3 t = 0) → wbits a0 a1 a2 a3 = 0 := wbits_none ha
  have HBIT := Lib.hid hbit
  have HNONE := Lib.hid hnone
  clear hbit hnone
  generalize dg a0 a1 a2 a3 = xs at *
  go_loopw [4] (fun i wr => ∃ k : Nat, k ≤ 16 ∧ i = .int .i64 (15 - (k : Int)) ∧ (∀ t, t < 16 → 16 ≤ t + k → xs t = 0) ∧ Below W1.heap.size W1 wr) (fun i _ => ((intOf i) + 1).toNat)
  case atStart => exact ⟨0, by omega, rfl, fun t h1 h2 => by omega, Below.refl _ _⟩
  case round =>
    obtain ⟨k, hk, rfl, hsame, hbel⟩ := hrel
    have HS := Lib.hid hsame
    clear hsame
    by_cases hlt : k < 16
    · obtain ⟨j, hj⟩ : ∃ j, j + k = 15 := ⟨15 - k, by omega⟩
      have hj16 : j < 16 := by omega
      have hji : (15 : Int) - (k : Int) = (j : Int) := by omega
      have hx := (hn1.below hbel hl1) j hj16
      have bx := hdl j
      rw [hji]
      have hj0 : (0 : Int) ≤ (j : Int) := by omega
      have hj1 : (j : Int) < 16 := by omega
      have HJ := Lib.hid hji
      clear hji
      have hHit : xs j ≠ 0 → wbits a0 a1 a2 a3 = 16 * j + Lib.bitLen (xs j) := fun h => HBIT.out j hj16 h (fun t h1 h2 => HS.out t h2 (by omega))
      have hMiss : xs j = 0 → ∀ t, t < 16 → 16 ≤ t + (k + 1) → xs t = 0 := fun e t h1 h2 => by
        by_cases ht : t = j
        · rw [ht]; exact e
        · exact HS.out t h1 (by omega)
      have HH := Lib.hid hHit
      have HM := Lib.hid hMiss
      clear hHit hMiss
      generalize xs j = x at *
      go_wp2_with fail
      go_loopw [5, 6] (fun n d wi => ∃ c y : Nat, y ≤ x ∧ n = .int .i64 c ∧ d = .int .i64 y ∧ c + Lib.bitLen y = Lib.bitLen x ∧ wi = wr) (fun _ d _ => (intOf d).toNat)
      case atStart => exact ⟨0, x, Nat.le_refl _, rfl, rfl, by omega, rfl⟩
      case round =>
        obtain ⟨c, y, hy, rfl, rfl, hc, rfl⟩ := hrel
        have hxl := bitLen16 bx
        by_cases hy0 : y = 0
        · subst hy0
          rw [bitLen_zero, Nat.add_zero] at hc
          subst hc
          by_cases hx0 : x = 0
          · have hb0 : Lib.bitLen x = 0 := by rw [hx0]; exact bitLen_zero
            have HE := Lib.hid (HM.out hx0)
            clear hx0
            have hb0' : ¬ (0 : Int) < (Lib.bitLen x : Int) := by omega
            go_wp2
            exact ⟨⟨k + 1, by omega, by rw [show (j : Int) - 1 = 15 - ((k + 1 : Nat) : Int) by omega], HE.out, hbel⟩, by simp [intOf]⟩
          · have hb0 : (0 : Int) < (Lib.bitLen x : Int) := by have := bitLen_pos hx0; omega
            have HE := Lib.hid (HH.out hx0)
            clear hx0
            go_wp2
            go_ret
            exact ⟨by rw [HE.out]; simp, d1.trans (hbel.mono d1.size)⟩
        · have hy1 : (0 : Int) < (y : Int) := by omega
          have hh := bitLen_half' hy0 (by omega)
          have HE := Lib.hid hh
          have HC := Lib.hid hc
          clear hh hc
          have hcl : c ≤ 16 := by have := HC.out; omega
          go_wp2
          exact ⟨⟨c + 1, y / 2, by omega, by simp, by simp, by have h1 := HE.out; have h2 := HC.out; omega, trivial⟩, by simp [intOf]; omega⟩
    · obtain rfl : k = 16 := by omega
      have HN := Lib.hid (HNONE.out (fun t h => HS.out t h (by omega)))
      go_wp2
      go_ret
      exact ⟨by rw [HN.out]; rfl, d1.trans (hbel.mono d1.size)⟩
end Go.Proofs.Ytacpagfocmhfeaa
