/-
  What digits of 16 bits come to, word by word.
-/
import Derived.Test.YtefbkchledfoiaaRefBase
namespace Go.Proofs.Ytefbkchledfoiaa
open Go.RowKit

/-- What the digits below place i come to, in word j. -/
def wdg (f : Nat → Nat) (i j : Nat) : Nat :=
  (if 4 * j < i then f (4 * j) else 0) + (if 4 * j + 1 < i then f (4 * j + 1) * 65536 else 0) + (if 4 * j + 2 < i then f (4 * j + 2) * 4294967296 else 0) + (if 4 * j + 3 < i then f (4 * j + 3) * 281474976710656 else 0)
def p16 : Nat → Nat | 0 => 1 | 1 => 65536 | 2 => 4294967296 | _ => 281474976710656

theorem p16_0 : p16 0 = 1 := rfl
theorem p16_1 : p16 1 = 65536 := rfl
theorem p16_2 : p16 2 = 4294967296 := rfl
theorem p16_3 : p16 3 = 281474976710656 := rfl
theorem wdg_zero (f : Nat → Nat) : wdg f 0 = fun _ => 0 := by funext j; simp [wdg]
theorem wdg_high (f : Nat → Nat) {i : Nat} (hi : 16 ≤ i) : ws (wdg f (i + 1)) = ws (wdg f i) := by
  have e : ∀ j, j < 4 → wdg f (i + 1) j = wdg f i j := fun j hj => by
    unfold wdg
    rw [if_pos (by omega), if_pos (by omega), if_pos (by omega), if_pos (by omega), if_pos (by omega), if_pos (by omega), if_pos (by omega), if_pos (by omega)]
  unfold ws
  rw [e 0 (by omega), e 1 (by omega), e 2 (by omega), e 3 (by omega)]
theorem wdg_0 (f : Nat → Nat) (q : Nat) : wdg f (4 * q) q = 0 := by
  unfold wdg; rw [if_neg (by omega), if_neg (by omega), if_neg (by omega), if_neg (by omega)]
theorem wdg_1 (f : Nat → Nat) (q : Nat) : wdg f (4 * q + 1) q = f (4 * q) := by
  unfold wdg; rw [if_pos (by omega), if_neg (by omega), if_neg (by omega), if_neg (by omega)]; omega
theorem wdg_2 (f : Nat → Nat) (q : Nat) : wdg f (4 * q + 2) q = f (4 * q) + f (4 * q + 1) * 65536 := by
  unfold wdg; rw [if_pos (by omega), if_pos (by omega), if_neg (by omega), if_neg (by omega)]; omega
theorem wdg_3 (f : Nat → Nat) (q : Nat) : wdg f (4 * q + 3) q = f (4 * q) + f (4 * q + 1) * 65536 + f (4 * q + 2) * 4294967296 := by
  unfold wdg; rw [if_pos (by omega), if_pos (by omega), if_pos (by omega), if_neg (by omega)]; omega
theorem wdg_4 (f : Nat → Nat) {i q : Nat} (h : 4 * q + 4 ≤ i) : wdg f i q = f (4 * q) + f (4 * q + 1) * 65536 + f (4 * q + 2) * 4294967296 + f (4 * q + 3) * 281474976710656 := by
  unfold wdg; rw [if_pos (by omega), if_pos (by omega), if_pos (by omega), if_pos (by omega)]
theorem wdg_step (f : Nat → Nat) (i : Nat) : wdg f (i + 1) = upd (wdg f i) (i / 4) (wdg f i (i / 4) + f i * p16 (i % 4)) := by
  funext j
  obtain ⟨q, r, hr, rfl⟩ : ∃ q r, r < 4 ∧ i = 4 * q + r := ⟨i / 4, i % 4, by omega, by omega⟩
  have e1 : (4 * q + r) / 4 = q := by omega
  have e2 : (4 * q + r) % 4 = r := by omega
  rw [e1, e2]
  unfold upd
  by_cases hj : j = q
  · subst hj
    rw [if_pos rfl]
    have : r = 0 ∨ r = 1 ∨ r = 2 ∨ r = 3 := by omega
    rcases this with rfl | rfl | rfl | rfl
    · simp only [Nat.add_zero]; rw [wdg_1, wdg_0, p16_0, Nat.zero_add, Nat.mul_one]
    · rw [wdg_2 f j, wdg_1, p16_1]
    · rw [wdg_3 f j, wdg_2, p16_2]
    · rw [wdg_4 f (i := 4 * j + 3 + 1) (by omega), wdg_3, p16_3]
  · rw [if_neg hj]
    unfold wdg
    have k : ∀ t, t < 4 → (4 * j + t < 4 * q + r + 1 ↔ 4 * j + t < 4 * q + r) := fun t ht => by omega
    have k0 := k 0 (by omega)
    simp only [Nat.add_zero] at k0
    simp only [k0, k 1 (by omega), k 2 (by omega), k 3 (by omega)]
theorem wdg_lt {f : Nat → Nat} {i : Nat} (hf : ∀ k, k ≤ i → f k < 65536) : wdg f i (i / 4) + f i * p16 (i % 4) ≤ 18446744073709551615 := by
  obtain ⟨q, r, hr, rfl⟩ : ∃ q r, r < 4 ∧ i = 4 * q + r := ⟨i / 4, i % 4, by omega, by omega⟩
  have e1 : (4 * q + r) / 4 = q := by omega
  have e2 : (4 * q + r) % 4 = r := by omega
  rw [e1, e2]
  have : r = 0 ∨ r = 1 ∨ r = 2 ∨ r = 3 := by omega
  rcases this with rfl | rfl | rfl | rfl
  · have h0 := hf (4 * q) (by omega)
    simp only [Nat.add_zero]; rw [wdg_0, p16_0]; omega
  · have h0 := hf (4 * q) (by omega)
    have h1 := hf (4 * q + 1) (by omega)
    rw [wdg_1, p16_1]; omega
  · have h0 := hf (4 * q) (by omega)
    have h1 := hf (4 * q + 1) (by omega)
    have h2 := hf (4 * q + 2) (by omega)
    rw [wdg_2, p16_2]; omega
  · have h0 := hf (4 * q) (by omega)
    have h1 := hf (4 * q + 1) (by omega)
    have h2 := hf (4 * q + 2) (by omega)
    have h3 := hf (4 * q + 3) (by omega)
    rw [wdg_3, p16_3]; omega
theorem p16_step {r : Nat} (h : r < 3) : p16 (r + 1) = p16 r * 65536 := by
  have : r = 0 ∨ r = 1 ∨ r = 2 := by omega
  rcases this with rfl | rfl | rfl
  · rw [p16_1, p16_0]
  · rw [p16_2, p16_1]
  · rw [p16_3, p16_2]
theorem p16_le (r : Nat) : p16 r ≤ 281474976710656 := by unfold p16; split <;> omega
theorem p16_le2 {r : Nat} (h : r < 3) : p16 r ≤ 4294967296 := by
  have : r = 0 ∨ r = 1 ∨ r = 2 := by omega
  rcases this with rfl | rfl | rfl
  · rw [p16_0]; omega
  · rw [p16_1]; omega
  · rw [p16_2]; omega

end Go.Proofs.Ytefbkchledfoiaa
