/-
  math/bits.Div64 at every hi, lo and y with hi below y.
-/
import Derived.Lib.ItoaNum
import Derived.Deep.QuietTactic
import Derived.BigQuiet
import Derived.Test.YtefbkchledfoiaaDiv64
namespace Go.Proofs.Ytefbkchledfoiaa
open Go.RowKit Go.Shelf

/-- The divisor's highest bit, moved to the top. -/
theorem div_shift {y : Nat} (h0 : 0 < y) (hy : y < M) : ∃ s : Nat, s ≤ 63 ∧ 64 - (Lib.bitLen y : Int) = s ∧ 9223372036854775808 ≤ y * 2 ^ s ∧ y * 2 ^ s < M := by
  obtain ⟨h1, h2, h3⟩ := Lib.bitLenAux_bounds 64 y (by unfold M at hy; omega) (by omega)
  have h4 : Lib.bitLen y ≤ 64 := Lib.bitLen_le y 64 (by omega) (by unfold M at hy; omega)
  change 1 ≤ Lib.bitLen y at h1
  change 2 ^ (Lib.bitLen y - 1) ≤ y at h2
  change y < 2 ^ Lib.bitLen y at h3
  refine ⟨64 - Lib.bitLen y, by omega, by omega, ?_, ?_⟩
  · have := Nat.mul_le_mul_right (2 ^ (64 - Lib.bitLen y)) h2
    rw [← Nat.pow_add, show Lib.bitLen y - 1 + (64 - Lib.bitLen y) = 63 by omega] at this
    exact this
  · have := Nat.mul_lt_mul_of_pos_right h3 (Nat.two_pow_pos (64 - Lib.bitLen y))
    rw [← Nat.pow_add, show Lib.bitLen y + (64 - Lib.bitLen y) = 64 by omega] at this
    exact this

theorem wrap_three {a b c v : Nat} (h : a * 4294967296 + b = c + v) (hv : v < M) : IntKind.u64.wrap (IntKind.u64.wrap (IntKind.u64.wrap ((a : Int) * 4294967296) + (b : Int)) - IntKind.u64.wrap (c : Int)) = (v : Int) := by
  unfold M at hv
  rw [IntKind.wrap_u64, IntKind.wrap_u64, IntKind.wrap_u64, IntKind.wrap_u64]
  omega

theorem M_split {s : Nat} (hs : s ≤ 63) : M = 2 ^ (64 - s) * 2 ^ s := by
  rw [← Nat.pow_add, Nat.sub_add_cancel (by omega)]; rfl

theorem HH : H * H = M := by decide +kernel

theorem div64_pos (hi lo y : Nat) (hlo : lo < M) (hy : y < M) (hlt : hi < y) (hp : 0 < hi) (w : World) :
    Calls Try.prog 26 #[.int .u64 (hi : Int), .int .u64 (lo : Int), .int .u64 (y : Int)] w fun e w' => e = .returned (.tuple #[.int .u64 ((hi * M + lo) / y : Nat), .int .u64 ((hi * M + lo) % y : Nat)]) ∧ w' = w := by
  obtain ⟨s, hs, hlz, hlow, hY⟩ := div_shift (by omega) hy
  have hP : 0 < 2 ^ s := Nat.two_pow_pos s
  have hK : 0 < 2 ^ (64 - s) := Nat.two_pow_pos _
  have hM := M_split hs
  obtain ⟨Y, eY⟩ : ∃ Y, Y = y * 2 ^ s := ⟨_, rfl⟩
  rw [← eY] at hlow hY
  have hYpos : 0 < Y := by omega
  -- the dividend, moved as far
  have hlq : lo * 2 ^ s / M = lo / 2 ^ (64 - s) := by rw [hM, Nat.mul_div_mul_right _ _ hP]
  have hlb : lo / 2 ^ (64 - s) < 2 ^ s := Nat.div_lt_of_lt_mul (by rw [← hM]; exact hlo)
  obtain ⟨u, eu⟩ : ∃ u, u = hi * 2 ^ s + lo / 2 ^ (64 - s) := ⟨_, rfl⟩
  obtain ⟨L, eL⟩ : ∃ L, L = lo * 2 ^ s % M := ⟨_, rfl⟩
  have hL : L < M := by rw [eL]; exact Nat.mod_lt _ M_pos
  have hU : u * M + L = (hi * M + lo) * 2 ^ s := by
    have := Nat.div_add_mod (lo * 2 ^ s) M
    rw [hlq, ← eL] at this
    rw [eu, Nat.add_mul, Nat.add_mul, ← this, Nat.mul_right_comm, Nat.mul_comm M]
    exact Nat.add_assoc _ _ _
  have huY : u < Y := by
    have h1 : hi * 2 ^ s + 2 ^ s ≤ Y := by
      rw [eY, ← Nat.succ_mul]; exact Nat.mul_le_mul_right _ hlt
    omega
  obtain ⟨Y1, eY1⟩ : ∃ Y1, Y1 = Y / 4294967296 := ⟨_, rfl⟩
  obtain ⟨Y0, eY0⟩ : ∃ Y0, Y0 = Y % 4294967296 := ⟨_, rfl⟩
  obtain ⟨d1, ed1⟩ : ∃ d1, d1 = L / 4294967296 := ⟨_, rfl⟩
  obtain ⟨d0, ed0⟩ : ∃ d0, d0 = L % 4294967296 := ⟨_, rfl⟩
  have hMl := M_eq
  have hYY : Y1 * H + Y0 = Y := by rw [H_eq]; omega
  have hLL : d1 * H + d0 = L := by rw [H_eq]; omega
  have b1 : 2147483648 ≤ Y1 := by omega
  have b2 : Y1 ≤ 4294967295 := by omega
  have b3 : Y0 < H := by rw [H_eq]; omega
  have b4 : d1 < H := by rw [H_eq]; omega
  have b5 : d0 < H := by rw [H_eq]; omega
  have hy1 : 0 < Y1 := by omega
  obtain ⟨Q1, eQ1⟩ : ∃ Q1, Q1 = (u * H + d1) / Y := ⟨_, rfl⟩
  obtain ⟨v, ev⟩ : ∃ v, v = (u * H + d1) % Y := ⟨_, rfl⟩
  have hv : v < Y := by rw [ev]; exact Nat.mod_lt _ hYpos
  obtain ⟨Q0, eQ0⟩ : ∃ Q0, Q0 = (v * H + d0) / Y := ⟨_, rfl⟩
  obtain ⟨R, eR⟩ : ∃ R, R = (v * H + d0) % Y := ⟨_, rfl⟩
  have hR : R < Y := by rw [eR]; exact Nat.mod_lt _ hYpos
  have b6 : Q1 < H := by rw [eQ1, ← hYY]; exact guess_lt b4 (by rw [hYY]; exact huY)
  have b7 : Q0 < H := by rw [eQ0, ← hYY]; exact guess_lt b5 (by rw [hYY]; exact hv)
  have t1 := (two_digits (u := u) (d1 := d1) (d0 := d0) hYpos).1
  have t2 := (two_digits (u := u) (d1 := d1) (d0 := d0) hYpos).2
  rw [← ev, ← eQ1, ← eQ0] at t1
  rw [← ev, ← eR] at t2
  have hUU : u * H * H + d1 * H + d0 = (hi * M + lo) * 2 ^ s := by rw [← hU, Nat.mul_assoc, HH, ← hLL]; exact Nat.add_assoc _ _ _
  rw [hUU, eY, (by_power hP).1] at t1
  rw [hUU, eY] at t2
  have t3 : R / 2 ^ s = (hi * M + lo) % y := by rw [t2]; exact (by_power hP).2
  have c1 : Y * Q1 + v = u * H + d1 := by rw [eQ1, ev]; exact Nat.div_add_mod _ _
  have c2 : Y * Q0 + R = v * H + d0 := by rw [eQ0, eR]; exact Nat.div_add_mod _ _
  rw [Nat.mul_comm Y] at c1 c2
  have qa : u / Y1 ≤ u := Nat.div_le_self _ _
  have qb : v / Y1 ≤ v := Nat.div_le_self _ _
  have pa : u / Y1 * Y1 + u % Y1 = u := by rw [Nat.mul_comm]; exact Nat.div_add_mod _ _
  have pb : v / Y1 * Y1 + v % Y1 = v := by rw [Nat.mul_comm]; exact Nat.div_add_mod _ _
  have ra : u % Y1 < Y1 := Nat.mod_lt _ hy1
  have rb : v % Y1 < Y1 := Nat.mod_lt _ hy1
  have hhi : hi * 2 ^ s < M := by
    have : hi * 2 ^ s ≤ u := by rw [eu]; exact Nat.le_add_right _ _
    omega
  have hl64 : lo / 2 ^ (64 - s) < M := Nat.lt_of_le_of_lt (Nat.div_le_self _ _) hlo
  refine (div64_walk hi lo y s Y Y1 Y0 u L d1 d0 (u / Y1) (u % Y1) (u / Y1 * Y1) Q1 v (v / Y1) (v / Y1 * Y1) (v % Y1) Q0 R ((hi * M + lo) % y) hy hlt hp hs hlz
    ?e1 ?e2 ?e3 ?e4 ?e5 ?e6 ?e7 ?e8 ?e8' ?e9 ?e10 ?f1 ?f8 ?f8' ?f9 ?f10 ?f11 ?f12
    (by omega) (by omega) (by rw [H_eq] at b3; omega) (by rw [H_eq] at b4; omega) (by rw [H_eq] at b5; omega) (by rw [H_eq] at b6; omega) (by rw [H_eq] at b7; omega)
    (by rw [hYY]; exact huY) (by rw [hYY]; exact hv) (guess_first b1 b3 b4 (by rw [hYY]; exact huY)) (guess_first b1 b3 b5 (by rw [hYY]; exact hv)) (by rw [H_eq]; omega) (by rw [H_eq]; omega)
    (by rw [hYY]; exact eQ1.symm) (by rw [hYY]; exact eQ0.symm) w).mono ?_
  case e1 => rw [show ((y : Int) * 2 ^ s) = ((y * 2 ^ s : Nat) : Int) by push_cast; rfl, ← eY]; exact Mul64.wrapN _ (by omega)
  case e2 => rw [eY1]; exact Mul64.divN _
  case e3 => rw [eY0]; exact Mul64.maskN _ (by omega)
  case e4 =>
    rw [show ((hi : Int) * 2 ^ s) = ((hi * 2 ^ s : Nat) : Int) by push_cast; rfl, Mul64.wrapN _ (by omega), show (lo : Int) / 2 ^ (64 - s) = ((lo / 2 ^ (64 - s) : Nat) : Int) by push_cast; rfl,
      bits_or_u64_nat _ _ (by omega) (by omega), eu, Nat.mul_comm hi, ← Nat.two_pow_add_eq_or_of_lt hlb]
  case e5 => rw [show ((lo : Int) * 2 ^ s) = ((lo * 2 ^ s : Nat) : Int) by push_cast; rfl, eL]; exact Mul64.wrapM _
  case e6 => rw [ed1]; exact Mul64.divN _
  case e7 => rw [ed0]; exact Mul64.maskN _ (by omega)
  case e8 => exact (Int.natCast_ediv u Y1).symm
  case e8' => exact Mul64.wrapN _ (by omega)
  case e9 => rw [Mul64.mulN]; exact Mul64.wrapN _ (by omega)
  case e10 =>
    rw [show (u : Int) - ((u / Y1 * Y1 : Nat) : Int) = ((u % Y1 : Nat) : Int) by omega]
    exact Mul64.wrapN _ (by omega)
  case f1 => rw [Mul64.mulN]; exact wrap_three (by rw [← H_eq]; omega) (by omega)
  case f8 => exact (Int.natCast_ediv v Y1).symm
  case f8' => exact Mul64.wrapN _ (by omega)
  case f9 => rw [Mul64.mulN]; exact Mul64.wrapN _ (by omega)
  case f10 =>
    rw [show (v : Int) - ((v / Y1 * Y1 : Nat) : Int) = ((v % Y1 : Nat) : Int) by omega]
    exact Mul64.wrapN _ (by omega)
  case f11 => rw [Mul64.mulN]; exact wrap_three (by rw [← H_eq]; omega) (by omega)
  case f12 => rw [← t3]; push_cast; rfl
  rintro e w' ⟨rfl, rfl⟩
  refine ⟨?_, rfl⟩
  have hc : ((Q1 : Int) * 4294967296 + (Q0 : Int)) = ((Q1 * H + Q0 : Nat) : Int) := by rw [H_eq]; omega
  rw [← t1, hc]

set_option maxHeartbeats 1000000 in
theorem div64_zero (lo y : Nat) (hlo : lo < M) (_hy : y < M) (h0 : 0 < y) (w : World) :
    Calls Try.prog 26 #[.int .u64 0, .int .u64 (lo : Int), .int .u64 (y : Int)] w fun e w' => e = .returned (.tuple #[.int .u64 (lo / y : Nat), .int .u64 (lo % y : Nat)]) ∧ ∃ n, w' = w.drewN n := by
  have y0 : ((y : Int) == 0) = false := by simp; omega
  have y1 : decide ((y : Int) ≤ 0) = false := by simp; omega
  have y3 : ¬ (y : Int) = 0 := by omega
  have hb : lo / y ≤ lo := Nat.div_le_self _ _
  have hm : lo % y ≤ lo := Nat.mod_le _ _
  have hd1 : IntKind.u64.wrap ((lo : Int) / (y : Int)) = ((lo / y : Nat) : Int) := by
    rw [← Int.natCast_ediv]; exact Mul64.wrapN _ (by unfold M at hlo; omega)
  have hd2 : (lo : Int) % (y : Int) = ((lo % y : Nat) : Int) := (Int.natCast_emod lo y).symm
  clear hb hm
  go_enter Try.func26, Try.ntmps26
  go_wp2
  go_quiet (fail)
  go_wp2
  go_ret2
  exact ⟨rfl, nq, rfl⟩

/-- Every one. -/
theorem div64_any (hi lo y : Nat) (hlo : lo < M) (hy : y < M) (hlt : hi < y) (w : World) :
    Calls Try.prog 26 #[.int .u64 (hi : Int), .int .u64 (lo : Int), .int .u64 (y : Int)] w fun e w' => e = .returned (.tuple #[.int .u64 ((hi * M + lo) / y : Nat), .int .u64 ((hi * M + lo) % y : Nat)]) ∧ ∃ n, w' = w.drewN n := by
  rcases Nat.eq_zero_or_pos hi with rfl | hp
  · rw [Nat.zero_mul, Nat.zero_add]; exact div64_zero lo y hlo hy hlt w
  · exact (div64_pos hi lo y hlo hy hlt hp w).mono fun e w' ⟨he, hw⟩ => ⟨he, 0, hw⟩
end Go.Proofs.Ytefbkchledfoiaa
