/-
  '==' of two arrays is that of their elements, one by one.
-/
import Derived.Test.YtcgfnppknldhbaaWideEq
namespace Go.Proofs.Ytcgfnppknldhbaa
open Go.RowKit Go.Shelf

theorem run_equalIn_arr {P : Program} (w : World) (d : Nat) (t elem : TypeId) (len n : Nat) (xs ys : Array Value) (f : Nat → Bool) (ht : P.underlying t = some (.array len elem)) (hs : (sizeOf elem).run P w = .ok n w)
    (h : ∀ i, i < len → ∃ a b, (part elem xs (i * n)).run P w = .ok a w ∧ (part elem ys (i * n)).run P w = .ok b w ∧ (Op.equalIn d elem a b).run P w = .ok (f i) w) :
    (Op.equalIn (d + 1) t (.agg xs) (.agg ys)).run P w = .ok ((List.range len).all f) w := by
  simp only [Op.equalIn, Sem.run_bind, run_underlying ht, Result.andThen_ok, hs, Std.Legacy.Range.forIn_eq_forIn_range', Std.Legacy.Range.size, Nat.sub_zero, Nat.add_sub_cancel, Nat.div_one]
  rw [List.range_eq_range']
  have hL : ∀ i ∈ List.range' 0 len 1, i < len := fun i hi => by simpa using (List.mem_range'_1.1 hi).2
  generalize List.range' 0 len 1 = is at *
  clear ht
  induction is with
  | nil => simp
  | cons i is ih =>
    obtain ⟨a, b, h1, h2, h3⟩ := h i (hL i (List.mem_cons_self ..))
    simp only [List.forIn_cons, Sem.run_bind, h1, h2, h3, Result.andThen_ok, List.all_cons]
    cases hf : f i
    · simp
    · simpa using ih (fun j hj => hL j (List.mem_cons_of_mem _ hj))
end Go.Proofs.Ytcgfnppknldhbaa
