/-
  Long division by halves: what is asked and answered by each of the two loops of math/bits.Div64, and what the two digits come to.
-/
namespace Go.Proofs.Ytefbkchledfoiaa

/-- Two to the power of 32. -/
def H : Nat := 4294967296
theorem H_eq : H = 4294967296 := rfl

/-- A guess q of how often Y = y1 * H + y0 is in u * H + d, and what is left by its first half. -/
structure Guess (y1 y0 u d q r : Nat) : Prop where
  split : q * y1 + r = u
  low : (u * H + d) / (y1 * H + y0) ≤ q
  top : q ≤ H + 1

theorem guess_pos {y1 y0 : Nat} (h1 : 2147483648 ≤ y1) : 0 < y1 * H + y0 := by
  have : 1 * H ≤ y1 * H := Nat.mul_le_mul_right _ (by omega)
  rw [H_eq] at *; omega

/-- The first guess. -/
theorem guess_first {y1 y0 u d : Nat} (h1 : 2147483648 ≤ y1) (h2 : y0 < H) (hd : d < H) (hu : u < y1 * H + y0) : Guess y1 y0 u d (u / y1) (u % y1) := by
  have hy : 0 < y1 := by omega
  have hH : 0 < H := by rw [H_eq]; omega
  refine ⟨?_, ?_, ?_⟩
  · rw [Nat.mul_comm]; exact Nat.div_add_mod u y1
  · have e : u / y1 = (u * H + d) / (H * y1) := by
      rw [← Nat.div_div_eq_div_mul]
      congr 1
      rw [Nat.mul_comm, Nat.mul_add_div hH, Nat.div_eq_of_lt hd, Nat.add_zero]
    rw [e]
    refine Nat.div_le_div_left ?_ (Nat.mul_pos hH hy)
    rw [Nat.mul_comm H y1]; omega
  · have : u / y1 < H + 2 := by
      refine Nat.div_lt_of_lt_mul ?_
      rw [Nat.mul_add]
      have : H ≤ y1 * 2 := by rw [H_eq]; omega
      omega
    omega

theorem guess_lt {y1 y0 u d : Nat} (hd : d < H) (hu : u < y1 * H + y0) : (u * H + d) / (y1 * H + y0) < H := by
  refine Nat.div_lt_of_lt_mul ?_
  have h : (u + 1) * H ≤ (y1 * H + y0) * H := Nat.mul_le_mul_right _ hu
  rw [Nat.add_mul, Nat.one_mul] at h
  omega

/-- The guess is too great: the next one. -/
theorem guess_next {y1 y0 u d q r : Nat} (hd : d < H) (hu : u < y1 * H + y0) (g : Guess y1 y0 u d q r) (hc : H ≤ q ∨ H * r + d < q * y0) : 1 ≤ q ∧ Guess y1 y0 u d (q - 1) (r + y1) := by
  have hlt : (u * H + d) / (y1 * H + y0) < q := by
    rcases hc with hc | hc
    · exact Nat.lt_of_lt_of_le (guess_lt hd hu) hc
    · refine Nat.div_lt_of_lt_mul ?_
      have e : u * H = q * y1 * H + r * H := by rw [← Nat.add_mul, g.split]
      have f : (y1 * H + y0) * q = q * y1 * H + q * y0 := by rw [Nat.mul_comm, Nat.mul_add, Nat.mul_assoc]
      have k : H * r = r * H := Nat.mul_comm _ _
      omega
  refine ⟨Nat.lt_of_le_of_lt (Nat.zero_le _) hlt, ?_, Nat.le_sub_one_of_lt hlt, Nat.le_trans (Nat.sub_le _ _) g.top⟩
  obtain ⟨p, rfl⟩ : ∃ p, q = p + 1 := ⟨q - 1, (Nat.sub_add_cancel (Nat.lt_of_le_of_lt (Nat.zero_le _) hlt)).symm⟩
  have := g.split
  rw [Nat.add_mul, Nat.one_mul] at this
  rw [Nat.add_sub_cancel]
  omega

/-- The guess is not too great: it is how often. -/
theorem guess_done {y1 y0 u d q r : Nat} (h1 : 2147483648 ≤ y1) (h2 : y0 < H) (g : Guess y1 y0 u d q r) (hc : H ≤ r ∨ q * y0 ≤ H * r + d) : q = (u * H + d) / (y1 * H + y0) := by
  have hle : q * y0 ≤ H * r + d := by
    rcases hc with hc | hc
    · have a1 : q * y0 ≤ (H + 1) * (H - 1) := Nat.mul_le_mul g.top (by omega)
      have a2 : H * H ≤ H * r := Nat.mul_le_mul_left _ hc
      rw [H_eq] at *
      omega
    · exact hc
  refine Nat.le_antisymm ?_ g.low
  rw [Nat.le_div_iff_mul_le (guess_pos h1)]
  have e : u * H = q * y1 * H + r * H := by rw [← Nat.add_mul, g.split]
  have f : q * (y1 * H + y0) = q * y1 * H + q * y0 := by rw [Nat.mul_add, Nat.mul_assoc]
  have k : H * r = r * H := Nat.mul_comm _ _
  omega

/-- Two digits: how often Y is in U = u * H^2 + d1 * H + d0, and what is left. -/
theorem two_digits {Y u d1 d0 : Nat} (hY : 0 < Y) :
    ((u * H + d1) / Y * H + ((u * H + d1) % Y * H + d0) / Y = (u * H * H + d1 * H + d0) / Y) ∧ ((u * H + d1) % Y * H + d0) % Y = (u * H * H + d1 * H + d0) % Y := by
  have e1 : Y * ((u * H + d1) / Y) + (u * H + d1) % Y = u * H + d1 := Nat.div_add_mod _ _
  have e2 : u * H * H + d1 * H + d0 = Y * ((u * H + d1) / Y * H) + ((u * H + d1) % Y * H + d0) := by
    have e3 : (Y * ((u * H + d1) / Y) + (u * H + d1) % Y) * H = (u * H + d1) * H := by rw [e1]
    rw [Nat.add_mul, Nat.add_mul (u * H), Nat.mul_assoc Y] at e3
    rw [← e3]
    exact Nat.add_assoc _ _ _
  rw [e2, Nat.mul_add_div hY, Nat.mul_add_mod]
  exact ⟨rfl, rfl⟩

/-- A power of two on both sides. -/
theorem by_power {N y p : Nat} (hp : 0 < p) : N * p / (y * p) = N / y ∧ N * p % (y * p) / p = N % y := by
  refine ⟨Nat.mul_div_mul_right _ _ hp, ?_⟩
  rw [Nat.mul_mod_mul_right, Nat.mul_div_cancel _ hp]
end Go.Proofs.Ytefbkchledfoiaa
