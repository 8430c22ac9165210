/-
  Three words or-ed are 0 just if all are.
-/
import Derived.Test.YtacpagfocmhfeaaWideMath
import Derived.Lib.EndianBits
namespace Go.Proofs.Ytacpagfocmhfeaa
open Go.RowKit

theorem or64 {a b : Nat} (ha : a < M) (hb : b < M) : bits .or .u64 (a : Int) (b : Int) = ((a ||| b : Nat) : Int) ∧ a ||| b < M := by
  have ha' : a < 2 ^ 64 := by unfold M at ha; simpa using ha
  have hb' : b < 2 ^ 64 := by unfold M at hb; simpa using hb
  refine ⟨(Go.bits_nat .u64 64 (by decide) (fun n h0 h1 => wraps_u64 n h0 h1) a b ha' hb').2, ?_⟩
  have := Nat.or_lt_two_pow ha' hb'
  unfold M
  simpa using this

theorem or3_zero : (bits .or .u64 (bits .or .u64 0 0) 0 == 0) = true := by decide
theorem or3_not {a b c : Nat} (ha : a < M) (hb : b < M) (hc : c < M) (h : ¬ (a = 0 ∧ b = 0 ∧ c = 0)) : (bits .or .u64 (bits .or .u64 (a : Int) (b : Int)) (c : Int) == 0) = false := by
  obtain ⟨e1, l1⟩ := or64 ha hb
  rw [e1, (or64 l1 hc).1]
  have : (a ||| b) ||| c ≠ 0 := by
    intro e
    rw [Nat.or_eq_zero_iff, Nat.or_eq_zero_iff] at e
    exact h ⟨e.1.1, e.1.2, e.2⟩
  simp only [beq_eq_false_iff_ne]
  omega
end Go.Proofs.Ytacpagfocmhfeaa
