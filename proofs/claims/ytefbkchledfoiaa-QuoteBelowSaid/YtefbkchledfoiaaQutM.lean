/-
  Spread, offer, cover: as numbers.
-/
import Derived.Test.YtefbkchledfoiaaWideK
namespace Go.Proofs.Ytefbkchledfoiaa
open Go.RowKit Go.Shelf

def clN (p : Int) : Nat := (min2I (max2I p 0) 10000).toNat
theorem clN_le (p : Int) : clN p ≤ 10000 := by unfold clN; rw [min2I_eq, max2I_eq]; omega
theorem clN_eq (p : Int) : min2I (max2I p 0) 10000 = ((clN p : Nat) : Int) := by unfold clN; rw [min2I_eq, max2I_eq]; omega
theorem clN_up {p q : Int} (h : p ≤ q) : clN p ≤ clN q := by unfold clN; rw [min2I_eq, max2I_eq, min2I_eq, max2I_eq]; omega
theorem clN_word (p : Int) : clN p < M := Nat.lt_of_le_of_lt (clN_le p) (by unfold M; decide)
theorem clN_wrap (p : Int) : IntKind.u64.wrap ((clN p : Nat) : Int) = ((clN p : Nat) : Int) := by
  have h := clN_le p
  exact IntWalk.u64_in _ (by omega)
def sprN (a : Nat) (p : Int) : Nat := mulN a (clN p) / 10000
def sprB (a : Nat) (p : Int) : Bool := mulB a (clN p)
def offN (a : Nat) (p : Int) : Nat := if sprB a p = true then a - sprN a p else 0
def offB (a : Nat) (p : Int) : Bool := sprB a p && !decide (a - sprN a p = 0)
def covB (v l a : Nat) : Bool := fitB l a && decide (cmpN (addN l a) v ≤ 0)
def ptsI (r : Int) : Int := if r = 2 then 30 else if r = 3 then 45 else 100
theorem sprN_lt {a : Nat} {p : Int} : sprN a p < M4 := div_lt4 mulN_lt
theorem offN_lt {a : Nat} {p : Int} (h : a < M4) : offN a p < M4 := by
  unfold offN; split
  · exact sub_lt4 h
  · exact M4_pos
theorem sprN_no {a : Nat} {p : Int} (h : sprB a p = false) : sprN a p = 0 := by unfold sprN; rw [(mulN_no h).1]
theorem sprN_yes {a : Nat} {p : Int} (h : sprB a p = true) : sprN a p = a * clN p / 10000 := by unfold sprN; rw [(mulN_yes h).1]
theorem sprN_le (a : Nat) (p : Int) : sprN a p ≤ a := by
  cases h : sprB a p with
  | false => rw [sprN_no h]; exact Nat.zero_le _
  | true =>
    rw [sprN_yes h]
    exact Nat.le_trans (Nat.div_le_div_right (Nat.mul_le_mul_left a (clN_le p))) (Nat.le_of_eq (Nat.mul_div_cancel _ (by decide)))
theorem sprB_up {a : Nat} {p q : Int} (h : p ≤ q) (hb : sprB a p = false) : sprB a q = false :=
  decide_eq_false (by have h1 := (mulN_no hb).2; have h2 := Nat.mul_le_mul_left a (clN_up h); omega)
theorem sprN_up {a : Nat} {p q : Int} (h : p ≤ q) (hp : sprB a p = true) (hb : sprB a q = true) : sprN a p ≤ sprN a q := by
  rw [sprN_yes hp, sprN_yes hb]
  exact Nat.div_le_div_right (Nat.mul_le_mul_left a (clN_up h))
theorem offN_yes {a : Nat} {p : Int} (h : sprB a p = true) : offN a p = a - sprN a p := if_pos h
theorem offN_no {a : Nat} {p : Int} (h : sprB a p = false) : offN a p = 0 := if_neg (by rw [h]; decide)
theorem offN_le (a : Nat) (p : Int) : offN a p ≤ a := by unfold offN; split <;> omega
theorem offB_no {a : Nat} {p : Int} (h : sprB a p = false) : offB a p = false := by unfold offB; rw [h]; rfl
theorem offB_zero {a : Nat} {p : Int} (h : offB a p = false) : offN a p = 0 := by
  cases hs : sprB a p with
  | false => exact offN_no hs
  | true =>
    unfold offB at h
    rw [hs, Bool.true_and] at h
    rw [offN_yes hs]
    cases hd : decide (a - sprN a p = 0) with
    | true => exact of_decide_eq_true hd
    | false => rw [hd] at h; exact absurd h (by decide)
theorem offB_some {a : Nat} {p : Int} (h : offB a p = true) : sprB a p = true ∧ offN a p ≠ 0 := by
  unfold offB at h
  rw [Bool.and_eq_true] at h
  refine ⟨h.1, ?_⟩
  rw [offN_yes h.1]
  have h2 := h.2
  simpa using h2
theorem offB_up {a : Nat} {p q : Int} (hle : p ≤ q) (h : offB a p = false) : offB a q = false := by
  cases hq : sprB a q with
  | false => exact offB_no hq
  | true =>
    cases hp : sprB a p with
    | false => rw [sprB_up hle hp] at hq; exact absurd hq (by decide)
    | true =>
      have h0 := offB_zero h
      rw [offN_yes hp] at h0
      have h1 := sprN_up hle hp hq
      unfold offB
      rw [hq, decide_eq_true (by omega)]; rfl
theorem offN_up {a : Nat} {p q : Int} (hle : p ≤ q) (h : offB a q = true) : offN a q ≤ offN a p := by
  have hq := (offB_some h).1
  cases hp : sprB a p with
  | false => rw [sprB_up hle hp] at hq; exact absurd hq (by decide)
  | true => rw [offN_yes hp, offN_yes hq]; have h1 := sprN_up hle hp hq; omega
/-- The part, times 10000, is no more than the product; what is left is less than 10000. -/
theorem part_ok {a : Nat} {p : Int} (h : sprB a p = true) : mulN (sprN a p) 10000 ≤ mulN a (clN p) ∧ mulN a (clN p) - mulN (sprN a p) 10000 < 10000 := by
  have h1 := mulN_yes h
  have h2 : sprN a p * 10000 ≤ a * clN p := by rw [sprN_yes h]; exact Nat.div_mul_le_self _ _
  have h3 : mulN (sprN a p) 10000 = sprN a p * 10000 := if_pos (Nat.lt_of_le_of_lt h2 h1.2)
  rw [h1.1, h3]
  refine ⟨h2, ?_⟩
  rw [sprN_yes h]
  omega
theorem cov_eq (v l a : Nat) (hv : v < M4) : covB v l a = decide (l + a ≤ v) := by
  unfold covB
  cases h : fitB l a with
  | false =>
    have h1 := of_decide_eq_false h
    rw [Bool.false_and, decide_eq_false (by omega)]
  | true =>
    have h1 := of_decide_eq_true h
    rw [Bool.true_and, cmp_le_eq, show addN l a = l + a from if_pos h1]
end Go.Proofs.Ytefbkchledfoiaa
