/-
  '==' and '!=' of two wide numbers are those of their words.
-/
import Derived.Test.YtefbkchledfoiaaBase
import Derived.Laws.StructEq
namespace Go.Proofs.Ytefbkchledfoiaa
open Go.RowKit Go.Shelf

/-- The same words. -/
def wEq (a0 a1 a2 a3 b0 b1 b2 b3 : Int) : Bool := decide (a0 = b0 ∧ a1 = b1 ∧ a2 = b2 ∧ a3 = b3)
theorem wEq_refl (a0 a1 a2 a3 : Int) : wEq a0 a1 a2 a3 a0 a1 a2 a3 = true := by simp [wEq]
theorem wEq_of {a0 a1 a2 a3 b0 b1 b2 b3 : Int} (h : a0 = b0 ∧ a1 = b1 ∧ a2 = b2 ∧ a3 = b3) : wEq a0 a1 a2 a3 b0 b1 b2 b3 = true := decide_eq_true h
theorem wEq_not {a0 a1 a2 a3 b0 b1 b2 b3 : Int} (h : ¬ (a0 = b0 ∧ a1 = b1 ∧ a2 = b2 ∧ a3 = b3)) : wEq a0 a1 a2 a3 b0 b1 b2 b3 = false := decide_eq_false h

theorem run_equalIn_wide' (d : Nat) (a0 a1 a2 a3 b0 b1 b2 b3 : Int) (w : World) :
    (Op.equalIn (d + 2) 24 (.agg #[.int .u64 a0, .int .u64 a1, .int .u64 a2, .int .u64 a3]) (.agg #[.int .u64 b0, .int .u64 b1, .int .u64 b2, .int .u64 b3])).run Try.prog w = .ok (wEq a0 a1 a2 a3 b0 b1 b2 b3) w := by
  have e : ∀ a b : Int, (Op.equalIn (d + 1) 22 (.int .u64 a) (.int .u64 b)).run Try.prog w = .ok (a == b) w := fun a b => run_equalIn_int w d 22 .u64 .u64 a b Try.underlying22
  rw [show d + 2 = (d + 1) + 1 from rfl]
  unfold Op.equalIn
  by_cases h0 : a0 = b0
  · subst h0
    by_cases h1 : a1 = b1
    · subst h1
      by_cases h2 : a2 = b2
      · subst h2
        by_cases h3 : a3 = b3
        · subst h3
          simp [run_underlying Try.underlying24, List.range', part, e, Result.andThen, wEq]
        · simp [run_underlying Try.underlying24, List.range', part, e, Result.andThen, wEq, h3]
      · simp [run_underlying Try.underlying24, List.range', part, e, Result.andThen, wEq, h2]
    · simp [run_underlying Try.underlying24, List.range', part, e, Result.andThen, wEq, h1]
  · simp [run_underlying Try.underlying24, List.range', part, e, Result.andThen, wEq, h0]

/-- As the walk meets it. -/
theorem run_equalIn_wide (a0 a1 a2 a3 b0 b1 b2 b3 : Int) (w : World) :
    (Op.equalIn 10000 24 (.agg #[.int .u64 a0, .int .u64 a1, .int .u64 a2, .int .u64 a3]) (.agg #[.int .u64 b0, .int .u64 b1, .int .u64 b2, .int .u64 b3])).run Try.prog w = .ok (wEq a0 a1 a2 a3 b0 b1 b2 b3) w :=
  run_equalIn_wide' 9998 a0 a1 a2 a3 b0 b1 b2 b3 w

end Go.Proofs.Ytefbkchledfoiaa
