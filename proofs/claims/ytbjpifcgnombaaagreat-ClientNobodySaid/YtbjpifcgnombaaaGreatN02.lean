/-
  Slices of values of one cell each that are read; A whole row is stored: what becomes of blocks; A part of a block that is known whole is loaded, or stored: one step; Slices of elements of n cells each: what is read of them, what the call's own are; What a call knows of memory, as one fact: some blocks, each known whole and made by the call (or one that was handed in, in which it writes), and that 
-/
import Derived.WalkSpells
import Derived.Laws.CopyOwn
import Derived.Laws.Rows
import Derived.Laws.CopyRow
import Derived.Laws.OwnMore
import Derived.Deep.WholeRow
import Derived.Laws.StructEq
import Derived.Outline
import Derived.Deep.Cut
import Derived.Deep.CutRange
import Derived.Deep.DeepCutAuto
import Derived.Deep.CutBlock
import Derived.LoopTactic
import Derived.Test.YtbjpifcgnombaaaGreatN01
namespace Go.Proofs.YtbjpifcgnombaaaGreat
open Go.RowKit Go.Shelf
abbrev iv (x : Int) : Value := .int .i64 x
abbrev tv (s : ByteArray) : Value := .string s
def Row (W : World) (b off : Nat) (vs : List Value) : Prop := ∀ k v, vs[k]? = some v → W.cell? ⟨b, off + k, none⟩ = some v
theorem Row.below {W W' : World} {n b off : Nat} {vs : List Value} (h : Row W b off vs) (hb : Below n W W') (hlt : b < n) : Row W' b off vs := fun k x hx => (hb.cell (p := ⟨b, _, none⟩) hlt).trans (h k x hx)
theorem Row.kept {W W' : World} {row : Option Nat} {b off : Nat} {vs : List Value} (h : Row W b off vs) (hb : b < W.heap.size) (hg : W.grownBy W' row) (hne : some b ≠ row) : Row W' b off vs := fun k x hx =>
  (World.cell?_of_block (a := ⟨b, _, none⟩) (hg.block b hb hne)).trans (h k x hx)
theorem Row.own {W W' : World} {row : Option Nat} {b off : Nat} {vs : List Value} (h : Row W b off vs) (hb : b < W.heap.size) (hg : W.grownBy W' row) (hr : ∀ r, row = some r → ∃ o : Obj, W.heap[r]? = some o ∧ o.isCells = false) : Row W' b off vs := fun k x hx => by
  have hc := h k x hx
  refine (World.cell?_of_block (a := ⟨b, _, none⟩) (hg.block b hb (fun e => ?_))).trans hc
  obtain ⟨o, ho, hoc⟩ := hr b e.symm
  simp only [World.cell?, ho] at hc
  cases o <;> first | (cases hoc; done) | (simp at hc)
def VSl (lo hi : Nat) (W : World) (sv : Value) (vs : List Value) : Prop :=
  ∃ a cap, sv = .slice a vs.length cap ∧ vs.length ≤ cap ∧ (vs = [] ∨ ∃ b off, a = some ⟨b, off, none⟩ ∧ lo ≤ b ∧ b < hi ∧ Row W b off vs)
theorem VSl.mono {lo hi lo' hi' : Nat} {W : World} {sv : Value} {vs : List Value} (h : VSl lo hi W sv vs) (h1 : lo' ≤ lo) (h2 : hi ≤ hi') : VSl lo' hi' W sv vs := by
  obtain ⟨a, cap, e, hc, h0 | ⟨b, off, ha, hl, hh, ho⟩⟩ := h
  · exact ⟨a, cap, e, hc, .inl h0⟩
  · exact ⟨a, cap, e, hc, .inr ⟨b, off, ha, by omega, by omega, ho⟩⟩
theorem VSl.below {lo hi m : Nat} {W W' : World} {sv : Value} {vs : List Value} (h : VSl lo hi W sv vs) (hb : Below m W W') (hm : hi ≤ m) : VSl lo hi W' sv vs := by
  obtain ⟨a, cap, e, hc, h0 | ⟨b, off, ha, hl, hh, ho⟩⟩ := h
  · exact ⟨a, cap, e, hc, .inl h0⟩
  · exact ⟨a, cap, e, hc, .inr ⟨b, off, ha, hl, hh, ho.below hb (by omega)⟩⟩
theorem VSl.nil (lo hi : Nat) (W : World) : VSl lo hi W (.slice none 0 0) [] := ⟨none, 0, rfl, Nat.le_refl _, .inl rfl⟩
theorem VSl.of_own {W : World} {lo : Nat} {e : TypeId} {v : Value} {vs : List Value} (h : W.ownsRow lo e 1 v vs.length vs) : VSl lo W.heap.size W v vs := by
  rcases Nat.eq_zero_or_pos vs.length with h0 | h0
  · have hl : vs = [] := List.eq_nil_of_length_eq_zero h0
    subst hl
    rcases h.2 with ⟨rfl, _⟩ | ⟨g, cap, cur, rfl, _, _, hnc, _⟩
    · exact VSl.nil _ _ _
    · exact ⟨_, cap, rfl, hnc, .inl rfl⟩
  · obtain ⟨hl, ⟨_, h1⟩ | ⟨g, cap, cur, rfl, hg, hb, hnc, hcm, hsz, htake⟩⟩ := h
    · omega
    · refine ⟨_, cap, rfl, hnc, .inr ⟨g, 0, rfl, hg, (Array.getElem?_eq_some_iff.1 hb).1, fun k x hk => ?_⟩⟩
      have hkl : k < vs.length := (List.getElem?_eq_some_iff.1 hk).1
      have e' : cur[k]? = (cur.toList.take (vs.length * 1))[k]? := by
        rw [List.getElem?_take_of_lt (by omega)]
        simp
      simp only [World.cell?, hb, Nat.zero_add]
      rw [show (if (none : Option Nat).isSome = true then (none : Option Value) else cur[k]?) = cur[k]? from rfl, e', htake]
      exact hk
theorem VSl.slice {lo hi : Nat} {W : World} {sv : Value} {vs : List Value} (h : VSl lo hi W sv vs) : ∃ a c, sv = .slice a vs.length c := by
  obtain ⟨a, c, e, _⟩ := h
  exact ⟨a, c, e⟩
end Go.Proofs.YtbjpifcgnombaaaGreat
namespace Go.Proofs.YtbjpifcgnombaaaGreat
open Go.RowKit Go.Shelf
theorem Blk.row {w : World} {g : Nat} {t : TypeId} {old : List Value} (hg : Blk w g t old) (vs : List Value) : Blk (w.setRow g vs.toArray) g t vs := setRow_heap w g _ _ t _ hg
end Go.Proofs.YtbjpifcgnombaaaGreat
namespace Go.Proofs.YtbjpifcgnombaaaGreat
open Go.RowKit Go.Shelf
theorem addr_add (B o j : Nat) : (⟨B, o, none⟩ : Addr).add j = ⟨B, o + j, none⟩ := by unfold Addr.add; split <;> simp_all
theorem load_part {W : World} {B : Nat} {T : TypeId} {vs : List Value} (h : Blk W B T vs) (o : Nat) (ns : List Value) (hn : (vs.drop o).take ns.length = ns) (ty : TypeId) (d : TypeDesc) (hu : Tryz.prog.underlying ty = some d)
    (hd : (match d with | .struct _ | .array _ _ => true | _ => false) = true) (hi : (Tryz.prog.info? ty).map (·.size) = some ns.length) :
    (Instr.loadAt ty (.pointer (some ⟨B, o, none⟩))).run Tryz.prog W = .ok (.agg ns.toArray) W := by
  have hl : (loadCells ⟨B, o, none⟩ ns.length).run Tryz.prog W = .ok ns.toArray W :=
    run_loadCells_list (P := Tryz.prog) W ⟨B, o, none⟩ ns (fun j v hv => by
      rw [addr_add, h.cell]
      rw [← hn, List.getElem?_take] at hv
      split at hv
      · simpa using hv
      · cases hv)
  cases hq : Tryz.prog.info? ty with
  | none => simp [hq] at hi
  | some i =>
    have hs : i.size = ns.length := by simpa [hq] using hi
    have hagg : (isAgg ty).run Tryz.prog W = .ok true W := by
      unfold isAgg
      rw [Sem.run_bind, run_underlying hu W]
      cases d <;> simp_all
    simp [Instr.loadAt, Instr.sureAddr, loadVar, Sem.run_bind, hagg, sizeOf, typeInfo, hq, hs, hl]
def laid (vs : List Value) (o : Nat) (ns : List Value) : List Value := vs.take o ++ ns ++ vs.drop (o + ns.length)
theorem run_store_part {W : World} {B : Nat} {T : TypeId} {vs : List Value} (h : Blk W B T vs) (o : Nat) (v : Value) (ty : TypeId) (hi : (Tryz.prog.info? ty).map (·.size) = some v.cells.size) (hle : o + v.cells.size ≤ vs.length) (h1 : v.cells.all (·.oneCell') = true) :
    (Instr.storeAt ty (.pointer (some ⟨B, o, none⟩)) v).run Tryz.prog W = .ok () (W.setRow B (laid vs o v.cells.toList).toArray) := by
  have hs := run_storeCells_at (P := Tryz.prog) B o T v.cells.toList 0 vs.toArray W h (by simpa using hle) (fun x hx => (Array.all_eq_true_iff_forall_mem.1 h1) x (by simpa using hx))
  cases hq : Tryz.prog.info? ty with
  | none => simp [hq] at hi
  | some i =>
    have hz : v.cells.size = i.size := by simp [hq] at hi; omega
    have hs2 : (storeCells ⟨B, o, none⟩ v.cells.toList).run Tryz.prog W = .ok () (W.setRow B (laid vs o v.cells.toList).toArray) := by simpa only [laid, Nat.add_zero] using hs
    simp only [Instr.storeAt, Instr.sureAddr, Sem.run_bind, Sem.run_pure, Result.andThen_ok]
    generalize hc : v.cells = c at *
    simp [storeVar, sizeOf, typeInfo, hq, hz, hc, hs2]
theorem grownBy_row (W : World) (B : Nat) (cs : Array Value) : W.grownBy (W.setRow B cs) (some B) := ⟨rfl, rfl, rfl, by simp, fun k _ hr => setRow_other W B k cs (fun e => hr (by rw [e]))⟩
end Go.Proofs.YtbjpifcgnombaaaGreat
namespace Go.Proofs.YtbjpifcgnombaaaGreat
open Go.RowKit Go.Shelf
section
variable {α : Type} {f : α → List Value} {n : Nat}
def flatR (f : α → List Value) (l : List α) : List Value := l.flatMap f
theorem flat_cons (x : α) (l : List α) : flatR f (x :: l) = f x ++ flatR f l := rfl
theorem flat_len (hn : ∀ x, (f x).length = n) (l : List α) : (flatR f l).length = l.length * n := by
  induction l with
  | nil => simp [flatR]
  | cons x l ih => rw [flat_cons, List.length_append, ih, hn, List.length_cons, Nat.succ_mul]; omega
def RSl (f : α → List Value) (lo hi : Nat) (W : World) (sv : Value) (l : List α) : Prop :=
  ∃ a cap, sv = .slice a l.length cap ∧ l.length ≤ cap ∧ cap ≤ maxLen ∧ (l = [] ∨ ∃ b off, a = some ⟨b, off, none⟩ ∧ lo ≤ b ∧ b < hi ∧ Row W b off (flatR f l))
theorem RSl.mono {lo hi lo' hi' : Nat} {W : World} {sv : Value} {l : List α} (h : RSl f lo hi W sv l) (h1 : lo' ≤ lo) (h2 : hi ≤ hi') : RSl f lo' hi' W sv l := by
  obtain ⟨a, cap, e, hc, hm, h0 | ⟨b, off, ha, hl, hh, ho⟩⟩ := h
  · exact ⟨a, cap, e, hc, hm, .inl h0⟩
  · exact ⟨a, cap, e, hc, hm, .inr ⟨b, off, ha, by omega, by omega, ho⟩⟩
theorem RSl.below {lo hi m : Nat} {W W' : World} {sv : Value} {l : List α} (h : RSl f lo hi W sv l) (hb : Below m W W') (hm : hi ≤ m) : RSl f lo hi W' sv l := by
  obtain ⟨a, cap, e, hc, hx, h0 | ⟨b, off, ha, hl, hh, ho⟩⟩ := h
  · exact ⟨a, cap, e, hc, hx, .inl h0⟩
  · exact ⟨a, cap, e, hc, hx, .inr ⟨b, off, ha, hl, hh, ho.below hb (by omega)⟩⟩
theorem RSl.up {W W' : World} {sv : Value} {l : List α} (h : RSl f 0 W.heap.size W sv l) (hb : Below W.heap.size W W') : RSl f 0 W'.heap.size W' sv l := (h.below hb (Nat.le_refl _)).mono (Nat.le_refl _) hb.size
theorem RSl.kept {lo hi : Nat} {W W' : World} {row : Option Nat} {sv : Value} {l : List α} (h : RSl f lo hi W sv l) (hi' : hi ≤ W.heap.size) (hg : W.grownBy W' row) (hne : ∀ r, row = some r → r < lo ∨ hi ≤ r) : RSl f lo hi W' sv l := by
  obtain ⟨a, cap, e, hc, hx, h0 | ⟨b, off, ha, hl, hh, ho⟩⟩ := h
  · exact ⟨a, cap, e, hc, hx, .inl h0⟩
  · exact ⟨a, cap, e, hc, hx, .inr ⟨b, off, ha, hl, hh, ho.kept (by omega) hg (fun e => by have := hne b e.symm; omega)⟩⟩
theorem RSl.nil (lo hi : Nat) (W : World) : RSl f lo hi W (.slice none 0 0) [] := ⟨none, 0, rfl, Nat.le_refl _, Nat.zero_le _, .inl rfl⟩
theorem RSl.slice {lo hi : Nat} {W : World} {sv : Value} {l : List α} (h : RSl f lo hi W sv l) : ∃ a c, sv = .slice a l.length c := by
  obtain ⟨a, c, e, _⟩ := h
  exact ⟨a, c, e⟩
theorem RSl.at {lo hi : Nat} {W : World} {a : Option Addr} {len cap : Nat} {l : List α} (h : RSl f lo hi W (.slice a len cap) l) (hl : l ≠ []) : len = l.length ∧ len ≤ cap ∧ ∃ b off, a = some ⟨b, off, none⟩ ∧ lo ≤ b ∧ b < hi ∧ Row W b off (flatR f l) := by
  obtain ⟨a', c', e, hc, _, h0 | ⟨b, off, ha, h1, h2, h3⟩⟩ := h
  · exact absurd h0 hl
  · cases e
    exact ⟨rfl, hc, b, off, ha, h1, h2, h3⟩
theorem RSl.of_own {W : World} {lo : Nat} {e : TypeId} {v : Value} {l : List α} (hn : ∀ x, (f x).length = n) (h : W.ownsRow lo e n v l.length (flatR f l)) : RSl f lo W.heap.size W v l := by
  rcases h.2 with ⟨rfl, h0⟩ | ⟨g, cap, cur, rfl, hg, hb, hnc, hcm, hsz, htake⟩
  · have hl : l = [] := List.eq_nil_of_length_eq_zero h0
    subst hl
    exact RSl.nil _ _ _
  · refine ⟨_, cap, rfl, hnc, hcm, .inr ⟨g, 0, rfl, hg, (Array.getElem?_eq_some_iff.1 hb).1, fun k x hk => ?_⟩⟩
    have hkl : k < (flatR f l).length := (List.getElem?_eq_some_iff.1 hk).1
    rw [flat_len hn] at hkl
    have e' : cur[k]? = (cur.toList.take (l.length * n))[k]? := by
      rw [List.getElem?_take_of_lt hkl]
      simp
    simp only [World.cell?, hb, Nat.zero_add]
    rw [show (if (none : Option Nat).isSome = true then (none : Option Value) else cur[k]?) = cur[k]? from rfl, e', htake]
    exact hk
theorem RSl.cells {lo hi : Nat} {W : World} {a : Addr} {len cap : Nat} {l : List α} (h : RSl f lo hi W (.slice (some a) len cap) l) : ∀ j u, (flatR f l)[j]? = some u → W.cell? (a.add j) = some u := by
  obtain ⟨a', c', e, _, _, h0 | ⟨b, off, ha, _, _, hr⟩⟩ := h
  · subst h0; intro j u hj; simp [flatR] at hj
  · cases e
    obtain rfl := Option.some.inj ha
    intro j u hj
    rw [addr_add]
    exact hr j u hj
end
end Go.Proofs.YtbjpifcgnombaaaGreat
namespace Go.Proofs.YtbjpifcgnombaaaGreat
open Go.RowKit Go.Shelf
abbrev MB := Nat × TypeId × List Value
def Mem (w : World) (row : Option Nat) (l : List MB) (W : World) : Prop :=
  (∀ x ∈ l, Blk W x.1 x.2.1 x.2.2 ∧ (w.heap.size ≤ x.1 ∨ some x.1 = row)) ∧ l.Pairwise (fun x y => y.1 < x.1) ∧ w.grownBy W row
section
variable {w W W' : World} {row : Option Nat} {l : List MB}
theorem grownBy_refl (w : World) (row : Option Nat) : w.grownBy w row := ⟨rfl, rfl, rfl, Nat.le_refl _, fun _ _ _ => rfl⟩
theorem Mem.start (w : World) : Mem w none [] w := ⟨fun _ hx => (List.not_mem_nil hx).elim, List.Pairwise.nil, grownBy_refl w none⟩
theorem Mem.at (h : Mem w row l W) (i : Nat) {B : Nat} {T : TypeId} {cs : List Value} (hi : l[i]? = some (B, T, cs)) : Blk W B T cs := (h.1 _ (List.mem_of_getElem? hi)).1
theorem Mem.lt (h : Mem w row l W) {x : MB} (hx : x ∈ l) : x.1 < W.heap.size := (h.1 x hx).1.lt
theorem Mem.g (h : Mem w row l W) : w.grownBy W row := h.2.2
theorem Mem.size (h : Mem w row l W) : w.heap.size ≤ W.heap.size := h.2.2.size
theorem Mem.b (h : Mem w none l W) : Below w.heap.size w W := ⟨h.2.2.os, h.2.2.tape, h.2.2.output, h.2.2.size, fun k hk => h.2.2.block k hk (by simp)⟩
theorem Mem.drew (h : Mem w row l W) : Mem w row l W.drew := ⟨h.1, h.2.1, ⟨h.2.2.os, h.2.2.tape, h.2.2.output, h.2.2.size, h.2.2.block⟩⟩
theorem grownBy_trans_below {row : Option Nat} (h : w.grownBy W row) (hb : Below W.heap.size W W') : w.grownBy W' row :=
  ⟨hb.os.trans h.os, hb.tape.trans h.tape, hb.output.trans h.output, Nat.le_trans h.size hb.size, fun k hk hr => (hb.block k (Nat.lt_of_lt_of_le hk h.size)).trans (h.block k hk hr)⟩
theorem Mem.below (h : Mem w row l W) (hb : Below W.heap.size W W') : Mem w row l W' :=
  ⟨fun x hx => ⟨(h.1 x hx).1.below hb (h.lt hx), (h.1 x hx).2⟩, h.2.1, grownBy_trans_below h.2.2 hb⟩
theorem Mem.alloc (h : Mem w row l W) (T : TypeId) (cs : List Value) : Mem w row ((W.heap.size, T, cs) :: l) (W.alloc (.cells cs.toArray T)) := by
  refine ⟨fun x hx => ?_, List.pairwise_cons.2 ⟨fun y hy => h.lt hy, h.2.1⟩, grownBy_trans_below h.2.2 ((Below.refl _ W).alloc (Nat.le_refl _) _)⟩
  rcases List.mem_cons.1 hx with rfl | hx
  · exact ⟨Blk.new W T cs, .inl h.size⟩
  · exact ⟨(h.1 x hx).1.alloc _, (h.1 x hx).2⟩
theorem Mem.other (h : Mem w row l W) (o : Obj) : Mem w row l (W.alloc o) := h.below ((Below.refl _ W).alloc (Nat.le_refl _) _)
theorem Mem.call (h : Mem w row l W) (i : Nat) {B : Nat} {T : TypeId} {cs cs' : List Value} {l' : List MB} (hi : l[i]? = some (B, T, cs)) (hl : l.set i (B, T, cs') = l') (hb : W.grownBy W' (some B)) (hB : Blk W' B T cs') : Mem w row l' W' := by
  subst hl
  have hlt : i < l.length := (List.getElem?_eq_some_iff.1 hi).1
  have hne : ∀ j y, l[j]? = some y → j ≠ i → y.1 ≠ B := fun j y hy hji => by
    obtain ⟨hj, hy'⟩ := List.getElem?_eq_some_iff.1 hy
    obtain ⟨_, hi'⟩ := List.getElem?_eq_some_iff.1 hi
    rcases Nat.lt_or_gt_of_ne hji with hl | hl
    · have := List.pairwise_iff_getElem.1 h.2.1 j i hj hlt hl
      rw [hy', hi'] at this
      exact Nat.ne_of_gt this
    · have := List.pairwise_iff_getElem.1 h.2.1 i j hlt hj hl
      rw [hy', hi'] at this
      exact Nat.ne_of_lt this
  have hi0 := h.1 _ (List.mem_of_getElem? hi)
  refine ⟨fun x hx => ?_, ?_, ?_⟩
  · obtain ⟨j, hj⟩ := List.mem_iff_getElem?.1 hx
    rw [List.getElem?_set] at hj
    by_cases e : i = j
    · subst e
      rw [if_pos rfl, if_pos hlt] at hj
      obtain rfl := Option.some.inj hj
      exact ⟨hB, hi0.2⟩
    · rw [if_neg e] at hj
      have hx' := h.1 x (List.mem_of_getElem? hj)
      have hn := hne j x hj (fun e' => e e'.symm)
      exact ⟨hx'.1.kept hb (fun e' => hn (Option.some.inj e')), hx'.2⟩
  · have key : (l.set i (B, T, cs')).map (·.1) = l.map (·.1) := by
      rw [List.map_set]
      obtain ⟨_, hi'⟩ := List.getElem?_eq_some_iff.1 hi
      apply List.ext_getElem?
      intro j
      rw [List.getElem?_set]
      by_cases e : i = j
      · subst e
        rw [if_pos rfl, if_pos (by simpa using hlt), List.getElem?_map, hi]; rfl
      · rw [if_neg e]
    have h1 := h.2.1
    rw [← List.pairwise_map (f := fun x : MB => x.1) (R := fun a b => b < a)] at h1 ⊢
    rw [key]; exact h1
  · refine ⟨hb.os.trans h.2.2.os, hb.tape.trans h.2.2.tape, hb.output.trans h.2.2.output, Nat.le_trans h.2.2.size hb.size, fun k hk hr => (hb.block k (Nat.lt_of_lt_of_le hk h.2.2.size) (fun e => ?_)).trans (h.2.2.block k hk hr)⟩
    obtain rfl := Option.some.inj e
    rcases hi0.2 with hg | hg
    · exact absurd hk (Nat.not_lt.2 hg)
    · exact hr hg
theorem Mem.set (h : Mem w row l W) (i : Nat) {B : Nat} {T : TypeId} {cs cs' : List Value} {l' : List MB} (hi : l[i]? = some (B, T, cs)) (hl : l.set i (B, T, cs') = l') : Mem w row l' (W.setRow B cs'.toArray) :=
  h.call i hi hl (grownBy_row W B _) ((h.at i hi).row cs')
end
theorem ld_any {W : World} {B : Nat} {T : TypeId} {vs : List Value} (ty : TypeId) (d : TypeDesc) (hu : Tryz.prog.underlying ty = some d) (hd : (match d with | .struct _ | .array _ _ => false | _ => true) = true) (h : Blk W B T vs) (i : Nat) {v : Value} (hv : vs[i]? = some v) :
    (Instr.loadAt ty (.pointer (some ⟨B, i, none⟩))).run Tryz.prog W = .ok v W := by
  have hc := (h.cell i).trans hv
  have hagg : (isAgg ty).run Tryz.prog W = .ok false W := by
    unfold isAgg
    rw [Sem.run_bind, run_underlying hu W]
    cases d <;> simp_all
  simp [Instr.loadAt, Instr.sureAddr, loadVar, Sem.run_bind, hagg, hc]
end Go.Proofs.YtbjpifcgnombaaaGreat
namespace Go.Proofs.YtbjpifcgnombaaaGreat
open Go.RowKit Go.Shelf
attribute [local irreducible] wpFrom
section
variable {W : World} {B : Nat} {T : TypeId}
theorem sto_part {vs : List Value} (us : List Value) (h : Blk W B T vs) (o : Nat) (ty : TypeId) (x : Value) (ns : List Value) (hx : x.cells.toList = ns) (hi : (Tryz.prog.info? ty).map (·.size) = some ns.length) (hle : o + ns.length ≤ vs.length) (h1 : ns.all (·.oneCell') = true) (hl : laid vs o ns = us) :
    (Instr.storeAt ty (.pointer (some ⟨B, o, none⟩)) x).run Tryz.prog W = .ok () (W.setRow B us.toArray) := by
  subst hx; subst hl
  exact run_store_part h o x ty (by simpa using hi) (by simpa using hle) (by rw [← Array.all_toList]; exact h1)
theorem idx_sl {W : World} {ty e c : Nat} (hu : Tryz.prog.underlying ty = some (.slice e)) (hs : (sizeOf e).run Tryz.prog W = .ok c W) {b off len cap : Nat} {k : Nat} (hk : k < len) :
    (Instr.indexAt ty (.slice (some ⟨b, off, none⟩) len cap) (.int .i64 (k : Int))).run Tryz.prog W = .ok (.pointer (some ⟨b, off + k * c, none⟩)) W := by
  have h1 : (0 : Int) ≤ (k : Int) ∧ (k : Int) < len := ⟨by omega, by omega⟩
  simp [Instr.indexAt, run_underlying hu, asIntOf, h1, hs, go_sem]
  intro h
  omega
theorem RSl.wide {α : Type} {f : α → List Value} {lo hi : Nat} {W : World} {v : Value} {l : List α} (h : RSl f lo hi W v l) (hi' : hi ≤ W.heap.size) : RSl f lo W.heap.size W v l := h.mono (Nat.le_refl _) hi'
theorem res_two {fn : Func} {p q : Tmp} {ty : TypeId} (h : fn.results = #[.cell p ty, .tmp q]) (tmps : Array Value) {w : World} {g : Nat} {c a : Value} (hp : tmps.getD p undef = .pointer (some ⟨g, 0, none⟩)) (hq : tmps.getD q undef = a) (hl : (loadVar ty ⟨g, 0, none⟩).run Tryz.prog w = .ok c w) :
    (results fn tmps).run Tryz.prog w = .ok (.tuple #[c, a]) w := by
  have hp' : tmps[p]?.getD undef = .pointer (some ⟨g, 0, none⟩) := by simpa using hp
  have hq' : tmps[q]?.getD undef = a := by simpa using hq
  simp [results, h, hp', hq', asAddr, hl]
end
section
variable {A B C : List Value} {m : Nat}
end
section
variable {ops : Array Oper} {Q : Exit → Act → World → Prop}
theorem op_at {P : Program} {k : Nat} {a : Act} {b : Bool} {d : Option Tmp} {op : Op} (h : (ops[k]?).map (fun o => (Region.wanted o (yielded ops a.tmps), o.dst, o.op)) = some (b, d, op)) : ∃ o, ops[k]? = some o ∧ Region.wanted o (yielded ops a.tmps) = b ∧ o.dst = d ∧ o.op = op ∧ ∀ w, runAt P ops k a w = some (b, d, (execOp a.eval o).run P w) := by
  cases ho : ops[k]? with
  | none => rw [ho] at h; cases h
  | some o =>
    rw [ho, Option.map_some, Option.some.injEq, Prod.mk.injEq, Prod.mk.injEq] at h
    obtain ⟨h1, h2, h3⟩ := h
    exact ⟨o, rfl, h1, h2, h3, fun w => by unfold runAt; rw [ho, Option.map_some, h1, h2]⟩
end
section
variable {ops : Array Oper} {Q : Exit → Act → World → Prop} {md : Region.Mode} {S : World → Prop}
end
section
end
end Go.Proofs.YtbjpifcgnombaaaGreat
