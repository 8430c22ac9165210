/-
  Parts of a slice: its first k, those from the k-th one on.
-/
import Derived.Test.YtakeickgjplahaaRsl
import Derived.Test.YtakeickgjplahaaMem
namespace Go.Proofs.Ytakeickgjplahaa
open Go.RowKit Go.Shelf

section
variable {α : Type} {f : α → List Value} {n : Nat}
theorem flatR_take' (l : List α) (k : Nat) : ∃ r, flatR f l = flatR f (l.take k) ++ r := ⟨flatR f (l.drop k), by rw [← flat_app, List.take_append_drop]⟩
/-- The first k of a slice. -/
theorem RSl.low {lo hi : Nat} {W : World} {a : Option Addr} {cap : Nat} {l : List α} (h : RSl f lo hi W (.slice a l.length cap) l) {k : Nat} (hk : k ≤ l.length) {ty e : TypeId} (hu : Try.prog.underlying ty = some (.slice e)) (he : Try.prog.elem ty = e) (hs : ∀ W, (sizeOf e).run Try.prog W = .ok n W) :
    ∃ v, (∀ W', (Instr.sliceAt ty (.slice a l.length cap) none (some (.int .i64 (k : Int))) none).run Try.prog W' = .ok v W') ∧ RSl f lo hi W v (l.take k) := by
  subst he
  obtain ⟨a', cap', e', hc, hm, h0⟩ := h
  cases e'
  refine ⟨sliced a 0 k cap n, fun W' => ?_, ?_⟩
  · rw [run_sliceAt_slice W' ty _ _ _ _ hu, run_slice_h W' ty a l.length cap hu .i64 (k : Int) (by omega) (by omega), hs W']
    rfl
  · have hl : (l.take k).length = k := List.length_take_of_le hk
    refine ⟨_, cap, by unfold sliced; rw [hl, Nat.sub_zero, Nat.sub_zero], by omega, hm, ?_⟩
    rcases h0 with h0 | ⟨b, off, ha, h1, h2, h3⟩
    · exact .inl (by rw [h0, List.take_nil])
    · subst ha
      refine .inr ⟨b, off, ?_, h1, h2, ?_⟩
      · split
        · rfl
        · simp [Addr.add]
      · obtain ⟨r, hr⟩ := flatR_take' (f := f) l k
        intro j u hj
        exact h3 j u (by rw [hr, List.getElem?_append_left (List.getElem?_eq_some_iff.1 hj).1]; exact hj)
/-- From the k-th one on. -/
theorem RSl.high {lo hi : Nat} {W : World} {a : Option Addr} {cap : Nat} {l : List α} (h : RSl f lo hi W (.slice a l.length cap) l) (hn : ∀ x, (f x).length = n) {k : Nat} (hk : k ≤ l.length) {ty e : TypeId} (hu : Try.prog.underlying ty = some (.slice e)) (he : Try.prog.elem ty = e) (hs : ∀ W, (sizeOf e).run Try.prog W = .ok n W) :
    ∃ v, (∀ W', (Instr.sliceAt ty (.slice a l.length cap) (some (.int .i64 (k : Int))) none none).run Try.prog W' = .ok v W') ∧ RSl f lo hi W v (l.drop k) := by
  subst he
  obtain ⟨a', cap', e', hc, hm, h0⟩ := h
  cases e'
  refine ⟨sliced a k l.length cap n, fun W' => ?_, ?_⟩
  · rw [run_sliceAt_slice W' ty _ _ _ _ hu, run_slice_l W' ty a l.length cap hu .i64 (k : Int) (by omega) (by omega), hs W']
    rfl
  · have hl : (l.drop k).length = l.length - k := List.length_drop
    refine ⟨_, cap - k, by unfold sliced; rw [hl], by omega, by omega, ?_⟩
    by_cases hd : l.drop k = []
    · exact .inl hd
    · rcases h0 with h0 | ⟨b, off, ha, h1, h2, h3⟩
      · exact .inl (by rw [h0, List.drop_nil])
      · subst ha
        have hne : cap ≠ k := fun e => hd (List.drop_eq_nil_of_le (by omega))
        refine .inr ⟨b, off + k * n, by rw [if_neg hne]; simp [Addr.add], h1, h2, ?_⟩
        rw [← flat_drop hn]
        intro j u hj
        rw [List.getElem?_drop] at hj
        rw [Nat.add_assoc]
        exact h3 _ u hj
end
end Go.Proofs.Ytakeickgjplahaa
