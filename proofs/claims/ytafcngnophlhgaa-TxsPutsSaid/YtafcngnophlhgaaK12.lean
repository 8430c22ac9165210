/-
  The words of a wide number's 32 octets.
-/
import Derived.Test.YtafcngnophlhgaaK11
namespace Go.Proofs.Ytafcngnophlhgaa
open Go.RowKit Go.Shelf

theorem wide8_length (a0 a1 a2 a3 : Nat) : (wide8 a0 a1 a2 a3).length = 32 := by simp [wide8, octs_length]
theorem uwd_wide8 {a0 a1 a2 a3 : Nat} (ha : Ok4 a0 a1 a2 a3) : uwd (wide8 a0 a1 a2 a3) 32 0 = a0 ∧ uwd (wide8 a0 a1 a2 a3) 32 1 = a1 ∧ uwd (wide8 a0 a1 a2 a3) 32 2 = a2 ∧ uwd (wide8 a0 a1 a2 a3) 32 3 = a3 := by
  obtain ⟨h0, h1, h2, h3⟩ := ha
  have hb : ∀ a, a < M → be (octs a 8) = a := fun a h => by
    rw [be_octs]
    exact Nat.mod_eq_of_lt (by unfold M at h; omega)
  have l8 : ∀ a, (octs a 8).length = 8 := fun a => octs_length a 8
  unfold uwd
  rw [List.take_of_length_le (l := wide8 a0 a1 a2 a3) (by rw [wide8_length]; omega)]
  unfold wide8
  refine ⟨?_, ?_, ?_, ?_⟩
  · rw [show 8 * (3 - 0) = 8 + (8 + 8) from rfl, ← List.drop_drop, ← List.drop_drop, List.drop_left' (l8 _), List.drop_left' (l8 _), List.drop_left' (l8 _), List.take_of_length_le (by rw [l8]; omega), hb _ h0]
  · rw [show 8 * (3 - 1) = 8 + 8 from rfl, ← List.drop_drop, List.drop_left' (l8 _), List.drop_left' (l8 _), List.take_left' (l8 _), hb _ h1]
  · rw [show 8 * (3 - 2) = 8 from rfl, List.drop_left' (l8 _), List.take_left' (l8 _), hb _ h2]
  · rw [show 8 * (3 - 3) = 0 from rfl, List.drop_zero, List.take_left' (l8 _), hb _ h3]
end Go.Proofs.Ytafcngnophlhgaa
