/-
  The builtin copy as an operation of a region in order; append behind a slice without room, whatever the elements.
-/
import Derived.Test.YtakeickgjplahaaSepW
import Derived.Test.YtakeickgjplahaaSepK
import Derived.Laws.IdiomCopy
import Derived.ArgAppend
namespace Go.Proofs.Ytakeickgjplahaa
open Go.RowKit Go.Shelf

section
variable {P : Program} {ops : Array Oper} {Q : Exit → Act → World → Prop}
/-- A copy's operands. -/
def cpAt (ops : Array Oper) (i : Nat) (a : Act) : Option (Bool × Option Tmp × Option (TypeId × TypeId × TypeId × Value × Value)) := (ops[i]?).map fun o => (Region.wanted o (yielded ops a.tmps), o.dst, match o.op with | .call ⟨.builtin .copy, ⟨[s, x]⟩, ⟨[t, t']⟩⟩ => some (t, t', o.type, a.eval s, a.eval x) | _ => none)
theorem op_copy {i : Nat} {o : Oper} {a : Act} {w w' : World} {d : Option Tmp} {t t' ty : TypeId} {v x u : Value} {K : Act → World → Prop} (ho : ops[i]? = some o) (hr : cpAt ops i a = some (true, d, some (t, t', ty, v, x))) (hst : (Builtin.copy_ #[t, t'] ty #[v, x]).run P w = .ok u w') (hc : K (a.put d u) w') :
    if Region.wanted o (yielded ops a.tmps) = true then o.wp P a w K Q else K (a.put o.dst undef) w := by
  unfold cpAt at hr
  rw [ho] at hr
  have h := Option.some.inj hr
  have h1 : Region.wanted o (yielded ops a.tmps) = true := congrArg Prod.fst h
  have h2 : o.dst = d := congrArg (fun x => x.2.1) h
  have h3 := congrArg (fun x => x.2.2) h
  rw [if_pos h1]
  dsimp only at h3
  split at h3
  · rename_i s y t1 t2 hop
    obtain ⟨rfl, rfl, rfl, rfl, rfl⟩ := by simpa using h3
    unfold Oper.wp execOp
    simp only [hop, resolve, invoke, builtin, Sem.run_bind, Sem.run_pure, Result.andThen_ok, List.map_toArray, List.map_cons, List.map_nil, hst]
    have : K (a.put o.dst u) w' := by rw [h2]; exact hc
    exact this
  · cases h3
theorem cpF (t t' ty : TypeId) (d : Option Tmp) (v x u : Value) {k : Nat} {a : Act} {w w' : World} (hst : (Builtin.copy_ #[t, t'] ty #[v, x]).run P w = .ok u w') (h : wpFrom P ops Q (k + 1) (a.put d u) w') (hr : cpAt ops k a = some (true, d, some (t, t', ty, v, x)) := by kernel_rfl) : wpFrom P ops Q k a w := by
  obtain ⟨o, ho⟩ := some_of hr
  exact wpFrom_step ho fun K hK => op_copy ho hr hst (hK _ _ h)
end
section
variable {α : Type} {f : α → List Value} {e S : TypeId} {n bytes : Nat} {z : Value} {l : List α} {W : World} {pa : Option Addr} {pc : Nat}
/-- Behind a slice without room: a new row. -/
theorem own_clip1 (hi0 : (Try.prog.info? e).map (fun i => (i.zero, i.size, i.bytes)) = some (some z, n, bytes)) (hzs : z.cells.size = n) (h0 : 0 < n) (hu : Try.prog.underlying S = some (.slice e)) (hn : ∀ x, (f x).length = n) (h1 : ∀ x, ∀ u ∈ f x, u.oneCell' = true)
    (h : ROk (.own f e n (.slice pa l.length pc) l) W) (x : α) {N : Nat} {T : TypeId} (hN : Blk W N T (f x)) (hb0 : 0 < bytes) (hr : (l.length + 1) * bytes ≤ 70368744177664) (ty : TypeId) :
    ∃ v' W', (Builtin.append_ #[S, S] ty #[.slice pa l.length l.length, .slice (some ⟨N, 0, none⟩) 1 1]).run Try.prog W = .ok v' W' ∧ RTurn (.own f e n (.slice pa l.length pc) l) (.own f e n v' (l ++ [x])) W W' := by
  obtain ⟨i0, hi, hz0, hz1, hz2⟩ := info_parts hi0
  have hlen : l.length + 1 ≤ 70368744177664 := Nat.le_trans (Nat.le_mul_of_pos_right _ hb0) hr
  have hnews : ∀ j u, (f x)[j]? = some u → W.cell? ((⟨N, 0, none⟩ : Addr).add j) = some u := fun j u hj => by rw [addr_add, Nat.zero_add]; exact (hN.cell j).trans hj
  have hfin : ∀ {v' : Value} {W' : World}, W'.ownsRow W.heap.size e n v' (l ++ [x]).length (flatR f (l ++ [x])) → Below W.heap.size W W' → RTurn (.own f e n (.slice pa l.length pc) l) (.own f e n v' (l ++ [x])) W W' := fun {v' W'} hO hb => by
    have hl := World.ownsRow.lt hO
    have hm : ∀ k ∈ v'.ownBlock.toList, v'.ownBlock = some k := fun k hk => by simpa using hk
    exact ⟨⟨⟨hO.1, hO.2.elim .inl fun ⟨g, cap, cur, hv, _, hx⟩ => .inr ⟨g, cap, cur, hv, Nat.zero_le _, hx⟩⟩, fun k hk => (hl k (hm k hk)).2⟩, Out.of_below hb, fun k hk => .inr (hl k (hm k hk)).1⟩
  rw [List.length_append, List.length_singleton, flat_app, flat_one] at hfin
  cases pa with
  | some ad =>
    have hs := h.rsl hn
    obtain ⟨v', W', g1, g2, hg⟩ := run_append_arg_grows (P := Try.prog) W S S e i0 z n bytes hu hi hz0 hz1 hz2 hzs h0 ad l.length l.length (flatR f l) (flat_len hn l) hs.cells ⟨N, 0, none⟩ 1 1 (f x) (by rw [hn, Nat.one_mul]) hnews (by omega) (by unfold maxLen; omega) (by omega)
    exact ⟨v', W', g1, hfin g2 ⟨hg.os, hg.tape, hg.output, hg.size, fun k hk => hg.block k hk (by simp)⟩⟩
  | none =>
    have hl0 : l = [] := by
      rcases h.h.2 with ⟨_, h0⟩ | ⟨_, _, _, e', _⟩
      · exact List.length_eq_zero_iff.1 h0
      · cases e'
    subst hl0
    obtain ⟨v', W', g1, g2, hg, _⟩ := run_append_own (P := Try.prog) W W.heap.size S S e i0 z n bytes hu hi hz0 hz1 hz2 hzs h0 (.slice none 0 0) 0 [] (World.ownsRow_nil _ _ _ _) ⟨N, 0, none⟩ 1 1 (f x) (by rw [hn, Nat.one_mul]) hnews (fun u hu => h1 x u hu) (by unfold maxLen; omega) (by simp at hr ⊢; omega) (Nat.le_refl _)
    exact ⟨v', W', g1, hfin g2 ⟨hg.os, hg.tape, hg.output, hg.size, fun k hk => hg.block k hk (by simp [Value.ownBlock])⟩⟩
end
/-- A slice of a whole array of two. -/
theorem slice_arr2 {ty e c : TypeId} (hu : Try.prog.underlying ty = some (.array 2 e)) (hs : ∀ W, (sizeOf e).run Try.prog W = .ok c W) (b o : Nat) (W : World) : (Instr.sliceAt ty (.pointer (some ⟨b, o, none⟩)) none none none).run Try.prog W = .ok (.slice (some ⟨b, o, none⟩) 2 2) W := by
  simp [Instr.sliceAt, Instr.sliceBounds, Instr.sureAddr, run_underlying hu, hs W, go_sem]
-- HERE
end Go.Proofs.Ytakeickgjplahaa
