/-
  Numbers of sixteen digits: what digits, sums and differences digit by digit come to.
-/
import Derived.Test.YtefbkchledfoiaaRefMadeMath
namespace Go.Proofs.Ytefbkchledfoiaa
open Go.RowKit

/-- What n digits come to. -/
def nv (f : Nat → Nat) : Nat → Nat
  | 0 => 0
  | n + 1 => nv f n + f n * 65536 ^ n

theorem nv_congr {f g : Nat → Nat} : ∀ {n : Nat}, (∀ k, k < n → f k = g k) → nv f n = nv g n
  | 0, _ => rfl
  | n + 1, h => by
    show nv f n + f n * 65536 ^ n = nv g n + g n * 65536 ^ n
    rw [nv_congr (fun k hk => h k (by omega)), h n (by omega)]
theorem nv_lt {f : Nat → Nat} : ∀ {n : Nat}, (∀ k, k < n → f k < 65536) → nv f n < 65536 ^ n
  | 0, _ => by simp [nv]
  | n + 1, h => by
    have h1 := nv_lt (n := n) (fun k hk => h k (by omega))
    have h2 := h n (by omega)
    have h3 : (f n + 1) * 65536 ^ n ≤ 65536 * 65536 ^ n := Nat.mul_le_mul_right _ (by omega)
    rw [Nat.add_mul] at h3
    show nv f n + f n * 65536 ^ n < 65536 ^ n * 65536
    omega

theorem pow16 : 65536 ^ 4 = M := by unfold M; decide
theorem pow_M4 : 65536 ^ 16 = M4 := by unfold M4 M; decide

theorem nv4 (f : Nat → Nat) (n : Nat) : nv f (n + 4) = nv f n + (f n + f (n + 1) * 65536 + f (n + 2) * 4294967296 + f (n + 3) * 281474976710656) * 65536 ^ n := by
  show nv f n + f n * 65536 ^ n + f (n + 1) * 65536 ^ (n + 1) + f (n + 2) * 65536 ^ (n + 2) + f (n + 3) * 65536 ^ (n + 3) = _
  rw [Nat.pow_add 65536 n 1, Nat.pow_add 65536 n 2, Nat.pow_add 65536 n 3]
  generalize 65536 ^ n = P
  have e1 : 65536 ^ 1 = 65536 := by decide
  have e2 : 65536 ^ 2 = 4294967296 := by decide
  have e3 : 65536 ^ 3 = 281474976710656 := by decide
  rw [e1, e2, e3, Nat.add_mul, Nat.add_mul, Nat.add_mul]
  rw [Nat.mul_comm P 65536, Nat.mul_comm P 4294967296, Nat.mul_comm P 281474976710656, ← Nat.mul_assoc, ← Nat.mul_assoc, ← Nat.mul_assoc]
  omega

theorem nv_val (f : Nat → Nat) {n : Nat} (hn : 16 ≤ n) : val (wdg f n 0) (wdg f n 1) (wdg f n 2) (wdg f n 3) = nv f 16 := by
  rw [wdg_4 f (q := 0) (by omega), wdg_4 f (q := 1) (by omega), wdg_4 f (q := 2) (by omega), wdg_4 f (q := 3) (by omega)]
  rw [show (16 : Nat) = 0 + 4 + 4 + 4 + 4 from rfl, nv4, nv4, nv4, nv4]
  have m0 : nv f 0 = 0 := rfl
  have p0 : 65536 ^ 0 = 1 := rfl
  have p4 : 65536 ^ (0 + 4) = M := pow16
  have p8 : 65536 ^ (0 + 4 + 4) = M * M := by rw [Nat.pow_add, p4]
  have p12 : 65536 ^ (0 + 4 + 4 + 4) = M * M * M := by rw [Nat.pow_add, p8, pow16]
  rw [m0, p0, p4, p8, p12]
  simp only [Nat.mul_zero, Nat.zero_add, Nat.mul_one, Nat.reduceMul, Nat.reduceAdd]
  generalize f 0 + f 1 * 65536 + f 2 * 4294967296 + f 3 * 281474976710656 = c0
  generalize f 4 + f 5 * 65536 + f 6 * 4294967296 + f 7 * 281474976710656 = c1
  generalize f 8 + f 9 * 65536 + f 10 * 4294967296 + f 11 * 281474976710656 = c2
  generalize f 12 + f 13 * 65536 + f 14 * 4294967296 + f 15 * 281474976710656 = c3
  unfold val
  rw [Nat.mul_add, Nat.mul_add, Nat.mul_add, Nat.mul_comm M c1, Nat.mul_comm c2 (M * M), Nat.mul_comm c3 (M * M * M)]
  simp only [Nat.mul_assoc, Nat.add_assoc]

theorem wdg_ok {f : Nat → Nat} {n : Nat} (hn : 16 ≤ n) (hf : ∀ k, k < 16 → f k < 65536) : Ok4 (wdg f n 0) (wdg f n 1) (wdg f n 2) (wdg f n 3) := by
  have h : ∀ j, j < 4 → wdg f n j < M := fun j hj => by
    have h0 := hf (4 * j) (by omega)
    have h1 := hf (4 * j + 1) (by omega)
    have h2 := hf (4 * j + 2) (by omega)
    have h3 := hf (4 * j + 3) (by omega)
    rw [wdg_4 f (by omega), M_eq]
    omega
  exact ⟨h 0 (by omega), h 1 (by omega), h 2 (by omega), h 3 (by omega)⟩

theorem word_digits {x : Nat} (h : x < M) : x = sh x 0 % 65536 + sh x 1 % 65536 * 65536 + sh x 2 % 65536 * 4294967296 + sh x 3 % 65536 * 281474976710656 := by
  have s0 : sh x 0 = x := rfl
  have s1 : sh x 1 = x / 65536 := rfl
  have s2 : sh x 2 = x / 65536 / 65536 := rfl
  have s3 : sh x 3 = x / 65536 / 65536 / 65536 := rfl
  rw [s0, s1, s2, s3]
  rw [M_eq] at h
  omega

theorem wdg_dg {a0 a1 a2 a3 : Nat} (ha : Ok4 a0 a1 a2 a3) {n : Nat} (hn : 16 ≤ n) (j : Nat) (hj : j < 4) : wdg (dg a0 a1 a2 a3) n j = word a0 a1 a2 a3 j := by
  rw [wdg_4 _ (by omega)]
  have e0 := dg_at (a0 := a0) (a1 := a1) (a2 := a2) (a3 := a3) (k := j) (t := 0) (by omega)
  rw [Nat.add_zero] at e0
  rw [e0, dg_at (t := 1) (by omega), dg_at (t := 2) (by omega), dg_at (t := 3) (by omega)]
  exact (word_digits (word_lt ha.h0 ha.h1 ha.h2 ha.h3 j)).symm

theorem nv_dg {a0 a1 a2 a3 : Nat} (ha : Ok4 a0 a1 a2 a3) : nv (dg a0 a1 a2 a3) 16 = val a0 a1 a2 a3 := by
  rw [← nv_val _ (Nat.le_refl 16), wdg_dg ha (by omega) 0 (by omega), wdg_dg ha (by omega) 1 (by omega), wdg_dg ha (by omega) 2 (by omega), wdg_dg ha (by omega) 3 (by omega)]
  rfl

theorem dg_lt (a0 a1 a2 a3 k : Nat) : dg a0 a1 a2 a3 k < 65536 := Nat.mod_lt _ (by omega)

/-! ### Adding -/
def cyA (x y : Nat → Nat) : Nat → Nat
  | 0 => 0
  | k + 1 => (cyA x y k + x k + y k) / 65536
def sdA (x y : Nat → Nat) (k : Nat) : Nat := if k = 16 then cyA x y 16 else (cyA x y k + x k + y k) % 65536
theorem cyA_le {x y : Nat → Nat} (hx : ∀ k, x k < 65536) (hy : ∀ k, y k < 65536) : ∀ k, cyA x y k ≤ 1
  | 0 => by simp [cyA]
  | k + 1 => by
    have := cyA_le hx hy k
    have := hx k
    have := hy k
    show (cyA x y k + x k + y k) / 65536 ≤ 1
    omega
theorem nv_add (x y : Nat → Nat) : ∀ n, nv (fun k => (cyA x y k + x k + y k) % 65536) n + cyA x y n * 65536 ^ n = nv x n + nv y n
  | 0 => by simp [nv, cyA]
  | n + 1 => by
    have ih := nv_add x y n
    show nv _ n + (cyA x y n + x n + y n) % 65536 * 65536 ^ n + (cyA x y n + x n + y n) / 65536 * 65536 ^ (n + 1) = nv x n + x n * 65536 ^ n + (nv y n + y n * 65536 ^ n)
    have e : (cyA x y n + x n + y n) % 65536 + 65536 * ((cyA x y n + x n + y n) / 65536) = cyA x y n + x n + y n := Nat.mod_add_div _ _
    generalize (cyA x y n + x n + y n) % 65536 = r at *
    generalize (cyA x y n + x n + y n) / 65536 = q at *
    have e2 : (r + 65536 * q) * 65536 ^ n = (cyA x y n + x n + y n) * 65536 ^ n := by rw [e]
    rw [Nat.add_mul, Nat.add_mul, Nat.add_mul] at e2
    rw [Nat.pow_succ]
    rw [show 65536 * q * 65536 ^ n = q * (65536 ^ n * 65536) by rw [Nat.mul_comm 65536 q, Nat.mul_assoc, Nat.mul_comm 65536 (65536 ^ n)]] at e2
    omega

theorem sum_digits {a0 a1 a2 a3 b0 b1 b2 b3 : Nat} (ha : Ok4 a0 a1 a2 a3) (hb : Ok4 b0 b1 b2 b3) :
    nv (sdA (dg a0 a1 a2 a3) (dg b0 b1 b2 b3)) 16 + cyA (dg a0 a1 a2 a3) (dg b0 b1 b2 b3) 16 * M4 = val a0 a1 a2 a3 + val b0 b1 b2 b3 := by
  rw [← nv_dg ha, ← nv_dg hb, ← pow_M4, ← nv_add]
  rw [nv_congr (f := sdA (dg a0 a1 a2 a3) (dg b0 b1 b2 b3)) (g := fun k => (cyA (dg a0 a1 a2 a3) (dg b0 b1 b2 b3) k + dg a0 a1 a2 a3 k + dg b0 b1 b2 b3 k) % 65536)]
  intro k hk
  unfold sdA
  rw [if_neg (by omega)]

/-! ### Which one is greater -/
def cmpN (a b : Nat) : Int := if a < b then -1 else if b < a then 1 else 0
theorem nv_less {x y : Nat → Nat} {j : Nat} (hx : ∀ k, x k < 65536) (h : x j < y j) : ∀ n, j < n → (∀ t, j < t → t < n → x t = y t) → nv x n < nv y n
  | 0, hj, _ => by omega
  | n + 1, hj, he => by
    show nv x n + x n * 65536 ^ n < nv y n + y n * 65536 ^ n
    by_cases e : n = j
    · subst e
      have h1 := nv_lt (f := x) (n := n) (fun k _ => hx k)
      have h2 : (x n + 1) * 65536 ^ n ≤ y n * 65536 ^ n := Nat.mul_le_mul_right _ h
      rw [Nat.add_mul] at h2
      omega
    · have ih := nv_less hx h n (by omega) (fun t h1 h2 => he t h1 (by omega))
      rw [he n (by omega) (by omega)]
      omega

/-! ### Taking away -/
def bwS (x y : Nat → Nat) : Nat → Nat
  | 0 => 0
  | k + 1 => if x k < y k + bwS x y k then 1 else 0
def sdS (x y : Nat → Nat) (k : Nat) : Nat := if x k < y k + bwS x y k then x k + 65536 - y k - bwS x y k else x k - y k - bwS x y k
theorem bwS_le (x y : Nat → Nat) : ∀ k, bwS x y k ≤ 1
  | 0 => by simp [bwS]
  | k + 1 => by
    show (if x k < y k + bwS x y k then 1 else 0) ≤ 1
    split <;> omega
theorem sdS_lt {x y : Nat → Nat} (hx : ∀ k, x k < 65536) (hy : ∀ k, y k < 65536) (k : Nat) : sdS x y k < 65536 := by
  have := hx k
  have := hy k
  unfold sdS
  split <;> omega
theorem nv_sub {x y : Nat → Nat} (hx : ∀ k, x k < 65536) (hy : ∀ k, y k < 65536) : ∀ n, nv (sdS x y) n + nv y n = nv x n + bwS x y n * 65536 ^ n
  | 0 => by simp [nv, bwS]
  | n + 1 => by
    have ih := nv_sub hx hy n
    have h1 := hx n
    have h2 := hy n
    have h3 := bwS_le x y n
    have e : sdS x y n + y n + bwS x y n = x n + 65536 * bwS x y (n + 1) := by
      show sdS x y n + y n + bwS x y n = x n + 65536 * (if x n < y n + bwS x y n then 1 else 0)
      unfold sdS
      split <;> omega
    show nv (sdS x y) n + sdS x y n * 65536 ^ n + (nv y n + y n * 65536 ^ n) = nv x n + x n * 65536 ^ n + bwS x y (n + 1) * 65536 ^ (n + 1)
    generalize bwS x y (n + 1) = q at *
    have e2 : (sdS x y n + y n + bwS x y n) * 65536 ^ n = (x n + 65536 * q) * 65536 ^ n := by rw [e]
    rw [Nat.add_mul, Nat.add_mul, Nat.add_mul] at e2
    rw [Nat.pow_succ]
    rw [show 65536 * q * 65536 ^ n = q * (65536 ^ n * 65536) by rw [Nat.mul_comm 65536 q, Nat.mul_assoc, Nat.mul_comm 65536 (65536 ^ n)]] at e2
    omega

end Go.Proofs.Ytefbkchledfoiaa
