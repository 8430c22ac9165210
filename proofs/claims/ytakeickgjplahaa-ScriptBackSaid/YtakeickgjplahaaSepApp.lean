/-
  A row of the call's own grows: by one element, by all of another row.
-/
import Derived.Test.YtakeickgjplahaaSep
import Derived.Maps.AppendAt
import Derived.OwnWalk
namespace Go.Proofs.Ytakeickgjplahaa
open Go.RowKit Go.Shelf

section
variable {α : Type} {f : α → List Value} {e S : TypeId} {n bytes : Nat} {z : Value} {v : Value} {l : List α} {W : World}
theorem turn_refl {r : Res} (h : ROk r W) : RTurn r r W W := turn_below h (Below.refl _ W)
theorem own_apps (hi0 : (Try.prog.info? e).map (fun i => (i.zero, i.size, i.bytes)) = some (some z, n, bytes)) (hzs : z.cells.size = n) (h0 : 0 < n) (hu : Try.prog.underlying S = some (.slice e)) (hn : ∀ x, (f x).length = n) (h1 : ∀ x, ∀ u ∈ f x, u.oneCell' = true)
    (h : ROk (.own f e n v l) W) (ys : List α) (a : Addr) (c : Nat) (hnews : ∀ j u, (flatR f ys)[j]? = some u → W.cell? (a.add j) = some u) (hb0 : 0 < bytes) (hr : (l.length + ys.length) * bytes ≤ 140737488355328) (ty : TypeId) :
    ∃ v' W', (Builtin.append_ #[S, S] ty #[v, .slice (some a) ys.length c]).run Try.prog W = .ok v' W' ∧ RTurn (.own f e n v l) (.own f e n v' (l ++ ys)) W W' := by
  obtain ⟨i0, hi, hz0, hz1, hz2⟩ := info_parts hi0
  have hlen : l.length + ys.length ≤ 140737488355328 := Nat.le_trans (Nat.le_mul_of_pos_right _ hb0) hr
  obtain ⟨v', W', hrun, h2, h3, _, h4⟩ := run_append_own_at (P := Try.prog) W 0 S ty e i0 z n bytes hu hi hz0 hz1 hz2 hzs h0 v l.length (flatR f l) h.h a ys.length c (flatR f ys) (flat_len hn ys) hnews
    (fun u hu' => by obtain ⟨x, _, hx⟩ := List.mem_flatMap.1 hu'; exact h1 x u hx) (by unfold maxLen; omega) hr (Nat.zero_le _)
  refine ⟨v', W', hrun, turn_own (by rw [List.length_append, flat_app]; exact h2) h3 (fun k hk => ?_)⟩
  rcases h4 with h4 | h4
  · exact .inl (h4 ▸ hk)
  · rw [h4] at hk
    exact .inr (Nat.le_of_eq (Option.some.inj hk))
/-- One element, which lies in a block of its own. -/
theorem own_app1 (hi0 : (Try.prog.info? e).map (fun i => (i.zero, i.size, i.bytes)) = some (some z, n, bytes)) (hzs : z.cells.size = n) (h0 : 0 < n) (hu : Try.prog.underlying S = some (.slice e)) (hn : ∀ x, (f x).length = n) (h1 : ∀ x, ∀ u ∈ f x, u.oneCell' = true)
    (h : ROk (.own f e n v l) W) (x : α) {N : Nat} {T : TypeId} (hN : Blk W N T (f x)) (hb0 : 0 < bytes) (hr : (l.length + 1) * bytes ≤ 140737488355328) (ty : TypeId) :
    ∃ v' W', (Builtin.append_ #[S, S] ty #[v, .slice (some ⟨N, 0, none⟩) 1 1]).run Try.prog W = .ok v' W' ∧ RTurn (.own f e n v l) (.own f e n v' (l ++ [x])) W W' :=
  own_apps hi0 hzs h0 hu hn h1 h [x] ⟨N, 0, none⟩ 1 (fun j u hj => by rw [flat_one] at hj; rw [addr_add, Nat.zero_add]; exact (hN.cell j).trans hj) hb0 hr ty
/-- All of another row. -/
theorem own_appR (hi0 : (Try.prog.info? e).map (fun i => (i.zero, i.size, i.bytes)) = some (some z, n, bytes)) (hzs : z.cells.size = n) (h0 : 0 < n) (hu : Try.prog.underlying S = some (.slice e)) (hn : ∀ x, (f x).length = n) (h1 : ∀ x, ∀ u ∈ f x, u.oneCell' = true)
    (h : ROk (.own f e n v l) W) {x : Value} {ys : List α} {lo hi : Nat} (hx : RSl f lo hi W x ys) (hb0 : 0 < bytes) (hr : (l.length + ys.length) * bytes ≤ 140737488355328) (ty : TypeId) :
    ∃ v' W', (Builtin.append_ #[S, S] ty #[v, x]).run Try.prog W = .ok v' W' ∧ RTurn (.own f e n v l) (.own f e n v' (l ++ ys)) W W' := by
  obtain ⟨a, c, rfl⟩ := hx.slice
  cases a with
  | some a => exact own_apps hi0 hzs h0 hu hn h1 h ys a c hx.cells hb0 hr ty
  | none =>
    obtain ⟨a', c', e', _, _, h0' | ⟨b, off, ha, _⟩⟩ := hx
    · subst h0'
      obtain ⟨i0, hi, hz0, hz1, hz2⟩ := info_parts hi0
      refine ⟨v, W, ?_, by rw [List.append_nil]; exact turn_refl h⟩
      rcases h.h.2 with ⟨rfl, hl0⟩ | ⟨g, cap, cur, rfl, _, hg, hnc, hcm, hcs, _⟩
      · simp [Builtin.append_, run_underlying hu, sizeOf, typeInfo, hi, Builtin.lenOf, Builtin.firstCells]
      · simp [Builtin.append_, run_underlying hu, sizeOf, typeInfo, hi, Builtin.lenOf, Builtin.firstCells, loadCells, hnc, storeCells]
    · cases e'
      cases ha
end
end Go.Proofs.Ytakeickgjplahaa
