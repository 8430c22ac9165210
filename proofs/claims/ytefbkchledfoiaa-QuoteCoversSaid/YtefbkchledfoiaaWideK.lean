/-
  Products, parts and which is greater, told by numbers alone: of the program, and of the plain digits.
-/
import Derived.Test.YtefbkchledfoiaaWideN
import Derived.Test.YtefbkchledfoiaaWideMul
import Derived.Test.YtefbkchledfoiaaWideDiv
import Derived.Test.YtefbkchledfoiaaWideCmp
import Derived.Test.YtefbkchledfoiaaRefMul
import Derived.Test.YtefbkchledfoiaaRefCmp
import Derived.Test.YtefbkchledfoiaaKit
import Derived.Test.YtefbkchledfoiaaSepK
namespace Go.Proofs.Ytefbkchledfoiaa
open Go.RowKit Go.Shelf

/-- The cells of a wide number. -/
abbrev wnc (n : Nat) : List Value := ws (nw n)
theorem M4_pos : 0 < M4 := by unfold M4 M; decide
theorem word_lt4 {n : Nat} (h : n < M) : n < M4 := Nat.lt_of_lt_of_le h (by unfold M4 M; decide)
theorem sub_lt4 {x y : Nat} (h : x < M4) : x - y < M4 := Nat.lt_of_le_of_lt (Nat.sub_le _ _) h
theorem div_lt4 {x y : Nat} (h : x < M4) : x / y < M4 := Nat.lt_of_le_of_lt (Nat.div_le_self _ _) h
/-- The product, or nothing. -/
def mulN (x y : Nat) : Nat := if x * y < M4 then x * y else 0
def mulB (x y : Nat) : Bool := decide (x * y < M4)
theorem mulN_lt {x y : Nat} : mulN x y < M4 := by
  unfold mulN; split
  · assumption
  · exact M4_pos
theorem mulN_yes {x y : Nat} (h : mulB x y = true) : mulN x y = x * y ∧ x * y < M4 := ⟨if_pos (of_decide_eq_true h), of_decide_eq_true h⟩
theorem mulN_no {x y : Nat} (h : mulB x y = false) : mulN x y = 0 ∧ M4 ≤ x * y := ⟨if_neg (of_decide_eq_false h), Nat.le_of_not_lt (of_decide_eq_false h)⟩
theorem retN_of_mul {x y : Nat} {w : World} {e : Ending} {W' : World} (h : AddW (x * y) w e W') : RetN (mulN x y) (mulB x y) w e W' := by
  rcases h with ⟨hl, s0, s1, s2, s3, hs, hv, rfl, hb⟩ | ⟨hg, rfl, hb⟩
  · refine ⟨?_, hb⟩
    rw [wn_of hs hv, show mulN x y = x * y from if_pos hl, show mulB x y = true from decide_eq_true hl]
  · refine ⟨?_, hb⟩
    rw [show mulN x y = 0 from if_neg (by omega), show mulB x y = false from decide_eq_false (by omega), wn_zero]
theorem mulN_any {x m : Nat} (hx : x < M4) (hm : m < M) (w : World) :
    Calls Try.prog 17 #[wn x, .int .u64 (m : Int)] w (RetN (mulN x m) (mulB x m) w) :=
  (callsIn_wide.1 (mul_in 3 (by omega) (nw_ok x) hm w)).mono fun _ _ h => retN_of_mul (by rw [nw_val hx] at h; exact h)
theorem refMulN_any {x m : Nat} (hx : x < M4) (hm : m < M) (w : World) :
    Calls Try.prog 7 #[wn x, .int .u64 (m : Int)] w (RetN (mulN x m) (mulB x m) w) :=
  (refMul_any (nw_ok x) hm w).mono fun _ _ h => retN_of_mul (by rw [nw_val hx] at h; exact h)
theorem divN_any {x m : Nat} (hx : x < M4) (hm : m < M) (hp : 0 < m) (w : World) :
    Calls Try.prog 18 #[wn x, .int .u64 (m : Int)] w fun e W' => e = .returned (.tuple #[wn (x / m), .int .u64 ((x % m : Nat) : Int), .bool true]) ∧ Below w.heap.size w W' :=
  (div_any (nw_ok x) hm hp w).mono fun _ _ ⟨s0, s1, s2, s3, r, hs, hr, hv, he, hb⟩ => by
    rw [nw_val hx] at hv
    have hq : val s0 s1 s2 s3 = x / m := by
      rw [← hv, Nat.add_comm, Nat.add_mul_div_right _ _ hp, Nat.div_eq_of_lt hr, Nat.zero_add]
    have hz : r = x % m := by
      rw [← hv, Nat.add_comm, Nat.add_mul_mod_self_right, Nat.mod_eq_of_lt hr]
    refine ⟨?_, hb⟩
    rw [he, wn_of hs hq, hz]
theorem cmpWn_any {x y : Nat} (hx : x < M4) (hy : y < M4) (w : World) :
    Calls Try.prog 21 #[wn x, wn y] w fun e W' => e = .returned (.int .i64 (cmpN x y)) ∧ Below w.heap.size w W' :=
  (cmp_any (nw_ok x) (nw_ok y) w).mono fun _ _ h => by rw [nw_val hx, nw_val hy] at h; exact h
theorem refCmpN_any {x y : Nat} (hx : x < M4) (hy : y < M4) (w : World) :
    Calls Try.prog 12 #[wn x, wn y] w fun e W' => e = .returned (.int .i64 (cmpN x y)) ∧ Below w.heap.size w W' :=
  (refCmp_any (nw_ok x) (nw_ok y) w).mono fun _ _ h => by rw [nw_val hx, nw_val hy] at h; exact h
theorem cmp_le {x y : Nat} (h : x ≤ y) : decide (cmpN x y ≤ 0) = true := decide_eq_true (by unfold cmpN; split; omega; rw [if_neg (by omega)]; omega)
theorem cmp_nle {x y : Nat} (h : y < x) : decide (cmpN x y ≤ 0) = false := decide_eq_false (by unfold cmpN; rw [if_neg (by omega), if_pos h]; omega)
theorem cmp_nge {x y : Nat} (h : x < y) : decide (0 ≤ cmpN x y) = false := decide_eq_false (by unfold cmpN; rw [if_pos h]; omega)
theorem cmp_ge {x y : Nat} (h : y ≤ x) : decide (0 ≤ cmpN x y) = true := decide_eq_true (by unfold cmpN; rw [if_neg (by omega)]; split <;> omega)
theorem cmp_le_eq (x y : Nat) : decide (cmpN x y ≤ 0) = decide (x ≤ y) := by
  by_cases h : x ≤ y
  · rw [cmp_le h, decide_eq_true h]
  · rw [cmp_nle (by omega), decide_eq_false h]
/-- '==' of wide numbers, as an operation meets it. -/
theorem run_eqN {n m : Nat} (hn : n < M4) (hm : m < M4) (w : World) : (Op.equalIn 10000 24 (wn n) (wn m)).run Try.prog w = .ok (decide (n = m)) w := by
  rw [run_equalIn_wide, wEq_nw hn hm]
theorem lv_wd {W : World} {B : Nat} {T : TypeId} {n : Nat} (h : Blk W B T (wnc n)) : (loadVar 24 ⟨B, 0, none⟩).run Try.prog W = .ok (wn n) W := run_loadVar_row W B T _ (wnc n).toArray (0, 0) _ h Try.underlying24 rfl (by kernel_rfl)
end Go.Proofs.Ytefbkchledfoiaa
