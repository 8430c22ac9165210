/-
  What a call knows of memory, as one fact: some blocks, each known whole and made by the call (or one that was handed in, in which it writes), and that nothing else has turned; Words for walks by Takes over parts of memory: loads, stores, elements, comparisons, operations that are not wanted; An element of a row of the call's own; A store into an element of a row of the call's own; Words for parts 
-/
import Derived.Deep.WholeRow
import Derived.Deep.Cut
import Derived.Deep.CutRange
import Derived.Deep.DeepCutAuto
import Derived.Deep.CutBlock
import Derived.LoopTactic
import Derived.IntWalk
import Derived.Lib.Hide
import Derived.Test.YtemknjnljciioaaGreatK02
namespace Go.Proofs.YtemknjnljciioaaGreat
open Go.RowKit Go.Shelf
abbrev MB := Nat × TypeId × List Value
def Mem (w : World) (row : Option Nat) (l : List MB) (W : World) : Prop :=
  (∀ x ∈ l, Blk W x.1 x.2.1 x.2.2 ∧ (w.heap.size ≤ x.1 ∨ some x.1 = row)) ∧ l.Pairwise (fun x y => y.1 < x.1) ∧ w.grownBy W row
section
variable {w W W' : World} {row : Option Nat} {l : List MB}
theorem grownBy_refl (w : World) (row : Option Nat) : w.grownBy w row := ⟨rfl, rfl, rfl, Nat.le_refl _, fun _ _ _ => rfl⟩
theorem Mem.start (w : World) : Mem w none [] w := ⟨fun _ hx => (List.not_mem_nil hx).elim, List.Pairwise.nil, grownBy_refl w none⟩
theorem Mem.at (h : Mem w row l W) (i : Nat) {B : Nat} {T : TypeId} {cs : List Value} (hi : l[i]? = some (B, T, cs)) : Blk W B T cs := (h.1 _ (List.mem_of_getElem? hi)).1
theorem Mem.lt (h : Mem w row l W) {x : MB} (hx : x ∈ l) : x.1 < W.heap.size := (h.1 x hx).1.lt
theorem Mem.g (h : Mem w row l W) : w.grownBy W row := h.2.2
theorem Mem.size (h : Mem w row l W) : w.heap.size ≤ W.heap.size := h.2.2.size
theorem Mem.b (h : Mem w none l W) : Below w.heap.size w W := ⟨h.2.2.os, h.2.2.tape, h.2.2.output, h.2.2.size, fun k hk => h.2.2.block k hk (by simp)⟩
theorem Mem.drew (h : Mem w row l W) : Mem w row l W.drew := ⟨h.1, h.2.1, ⟨h.2.2.os, h.2.2.tape, h.2.2.output, h.2.2.size, h.2.2.block⟩⟩
theorem grownBy_trans_below {row : Option Nat} (h : w.grownBy W row) (hb : Below W.heap.size W W') : w.grownBy W' row :=
  ⟨hb.os.trans h.os, hb.tape.trans h.tape, hb.output.trans h.output, Nat.le_trans h.size hb.size, fun k hk hr => (hb.block k (Nat.lt_of_lt_of_le hk h.size)).trans (h.block k hk hr)⟩
theorem Mem.below (h : Mem w row l W) (hb : Below W.heap.size W W') : Mem w row l W' :=
  ⟨fun x hx => ⟨(h.1 x hx).1.below hb (h.lt hx), (h.1 x hx).2⟩, h.2.1, grownBy_trans_below h.2.2 hb⟩
theorem Mem.alloc (h : Mem w row l W) (T : TypeId) (cs : List Value) : Mem w row ((W.heap.size, T, cs) :: l) (W.alloc (.cells cs.toArray T)) := by
  refine ⟨fun x hx => ?_, List.pairwise_cons.2 ⟨fun y hy => h.lt hy, h.2.1⟩, grownBy_trans_below h.2.2 ((Below.refl _ W).alloc (Nat.le_refl _) _)⟩
  rcases List.mem_cons.1 hx with rfl | hx
  · exact ⟨Blk.new W T cs, .inl h.size⟩
  · exact ⟨(h.1 x hx).1.alloc _, (h.1 x hx).2⟩
theorem Mem.other (h : Mem w row l W) (o : Obj) : Mem w row l (W.alloc o) := h.below ((Below.refl _ W).alloc (Nat.le_refl _) _)
theorem Mem.call (h : Mem w row l W) (i : Nat) {B : Nat} {T : TypeId} {cs cs' : List Value} {l' : List MB} (hi : l[i]? = some (B, T, cs)) (hl : l.set i (B, T, cs') = l') (hb : W.grownBy W' (some B)) (hB : Blk W' B T cs') : Mem w row l' W' := by
  subst hl
  have hlt : i < l.length := (List.getElem?_eq_some_iff.1 hi).1
  have hne : ∀ j y, l[j]? = some y → j ≠ i → y.1 ≠ B := fun j y hy hji => by
    obtain ⟨hj, hy'⟩ := List.getElem?_eq_some_iff.1 hy
    obtain ⟨_, hi'⟩ := List.getElem?_eq_some_iff.1 hi
    rcases Nat.lt_or_gt_of_ne hji with hl | hl
    · have := List.pairwise_iff_getElem.1 h.2.1 j i hj hlt hl
      rw [hy', hi'] at this
      exact Nat.ne_of_gt this
    · have := List.pairwise_iff_getElem.1 h.2.1 i j hlt hj hl
      rw [hy', hi'] at this
      exact Nat.ne_of_lt this
  have hi0 := h.1 _ (List.mem_of_getElem? hi)
  refine ⟨fun x hx => ?_, ?_, ?_⟩
  · obtain ⟨j, hj⟩ := List.mem_iff_getElem?.1 hx
    rw [List.getElem?_set] at hj
    by_cases e : i = j
    · subst e
      rw [if_pos rfl, if_pos hlt] at hj
      obtain rfl := Option.some.inj hj
      exact ⟨hB, hi0.2⟩
    · rw [if_neg e] at hj
      have hx' := h.1 x (List.mem_of_getElem? hj)
      have hn := hne j x hj (fun e' => e e'.symm)
      exact ⟨hx'.1.kept hb (fun e' => hn (Option.some.inj e')), hx'.2⟩
  · have key : (l.set i (B, T, cs')).map (·.1) = l.map (·.1) := by
      rw [List.map_set]
      obtain ⟨_, hi'⟩ := List.getElem?_eq_some_iff.1 hi
      apply List.ext_getElem?
      intro j
      rw [List.getElem?_set]
      by_cases e : i = j
      · subst e
        rw [if_pos rfl, if_pos (by simpa using hlt), List.getElem?_map, hi]; rfl
      · rw [if_neg e]
    have h1 := h.2.1
    rw [← List.pairwise_map (f := fun x : MB => x.1) (R := fun a b => b < a)] at h1 ⊢
    rw [key]; exact h1
  · refine ⟨hb.os.trans h.2.2.os, hb.tape.trans h.2.2.tape, hb.output.trans h.2.2.output, Nat.le_trans h.2.2.size hb.size, fun k hk hr => (hb.block k (Nat.lt_of_lt_of_le hk h.2.2.size) (fun e => ?_)).trans (h.2.2.block k hk hr)⟩
    obtain rfl := Option.some.inj e
    rcases hi0.2 with hg | hg
    · exact absurd hk (Nat.not_lt.2 hg)
    · exact hr hg
theorem Mem.set (h : Mem w row l W) (i : Nat) {B : Nat} {T : TypeId} {cs cs' : List Value} {l' : List MB} (hi : l[i]? = some (B, T, cs)) (hl : l.set i (B, T, cs') = l') : Mem w row l' (W.setRow B cs'.toArray) :=
  h.call i hi hl (grownBy_row W B _) ((h.at i hi).row cs')
end
theorem ld_any {W : World} {B : Nat} {T : TypeId} {vs : List Value} (ty : TypeId) (d : TypeDesc) (hu : Tryz.prog.underlying ty = some d) (hd : (match d with | .struct _ | .array _ _ => false | _ => true) = true) (h : Blk W B T vs) (i : Nat) {v : Value} (hv : vs[i]? = some v) :
    (Instr.loadAt ty (.pointer (some ⟨B, i, none⟩))).run Tryz.prog W = .ok v W := by
  have hc := (h.cell i).trans hv
  have hagg : (isAgg ty).run Tryz.prog W = .ok false W := by
    unfold isAgg
    rw [Sem.run_bind, run_underlying hu W]
    cases d <;> simp_all
  simp [Instr.loadAt, Instr.sureAddr, loadVar, Sem.run_bind, hagg, hc]
theorem ld_int {W : World} {B : Nat} {T : TypeId} {vs : List Value} (h : Blk W B T vs) (i : Nat) {v : Value} (hv : vs[i]? = some v) : (Instr.loadAt 3 (.pointer (some ⟨B, i, none⟩))).run Tryz.prog W = .ok v W := ld_any _ _ Tryz.underlying3 rfl h i hv
end Go.Proofs.YtemknjnljciioaaGreat
namespace Go.Proofs.YtemknjnljciioaaGreat
open Go.RowKit Go.Shelf
attribute [local irreducible] wpFrom
section
variable {W : World} {B : Nat} {T : TypeId}
theorem sto_part {vs : List Value} (us : List Value) (h : Blk W B T vs) (o : Nat) (ty : TypeId) (x : Value) (ns : List Value) (hx : x.cells.toList = ns) (hi : (Tryz.prog.info? ty).map (·.size) = some ns.length) (hle : o + ns.length ≤ vs.length) (h1 : ns.all (·.oneCell') = true) (hl : laid vs o ns = us) :
    (Instr.storeAt ty (.pointer (some ⟨B, o, none⟩)) x).run Tryz.prog W = .ok () (W.setRow B us.toArray) := by
  subst hx; subst hl
  exact run_store_part h o x ty (by simpa using hi) (by simpa using hle) (by rw [← Array.all_toList]; exact h1)
theorem idx_sl {W : World} {ty e c : Nat} (hu : Tryz.prog.underlying ty = some (.slice e)) (hs : (sizeOf e).run Tryz.prog W = .ok c W) {b off len cap : Nat} {k : Nat} (hk : k < len) :
    (Instr.indexAt ty (.slice (some ⟨b, off, none⟩) len cap) (.int .i64 (k : Int))).run Tryz.prog W = .ok (.pointer (some ⟨b, off + k * c, none⟩)) W := by
  have h1 : (0 : Int) ≤ (k : Int) ∧ (k : Int) < len := ⟨by omega, by omega⟩
  simp [Instr.indexAt, run_underlying hu, asIntOf, h1, hs, go_sem]
  intro h
  omega
theorem RSl.elem {α : Type} {f : α → List Value} {n lo hi : Nat} {W : World} {v : Value} {l : List α} (h : RSl f lo hi W v l) (hn : ∀ x, (f x).length = n) {k : Nat} {x : α} (hx : l[k]? = some x) {ty e : TypeId} (hu : Tryz.prog.underlying ty = some (.slice e)) (hs : ∀ W, (sizeOf e).run Tryz.prog W = .ok n W) :
    ∃ b o, lo ≤ b ∧ b < hi ∧ (∀ W', (Instr.indexAt ty v (.int .i64 (k : Int))).run Tryz.prog W' = .ok (.pointer (some ⟨b, o, none⟩)) W') ∧ ∀ W', RSl f lo hi W' v l → ∀ j u, (f x)[j]? = some u → W'.cell? ⟨b, o + j, none⟩ = some u := by
  have hk : k < l.length := (List.getElem?_eq_some_iff.1 hx).1
  have hne : l ≠ [] := fun e => by subst e; simp at hk
  obtain ⟨a, cap, rfl, _, _, h0 | ⟨b, off, rfl, h1, h2, h3⟩⟩ := h
  · exact absurd h0 hne
  · refine ⟨b, off + k * n, h1, h2, fun W' => idx_sl hu (hs W') hk, fun W' h' j u hj => ?_⟩
    obtain ⟨_, _, b', off', e, _, _, hr⟩ := h'.at hne
    cases e
    have hj' : j < n := by have := (List.getElem?_eq_some_iff.1 hj).1; rwa [hn] at this
    rw [hr.elem hn hx hj', hj]
theorem ld_cell {W : World} {b o : Nat} (ty : TypeId) (d : TypeDesc) (hu : Tryz.prog.underlying ty = some d) (hd : (match d with | .struct _ | .array _ _ => false | _ => true) = true) {v : Value} (hc : W.cell? ⟨b, o, none⟩ = some v) :
    (Instr.loadAt ty (.pointer (some ⟨b, o, none⟩))).run Tryz.prog W = .ok v W := by
  have hagg : (isAgg ty).run Tryz.prog W = .ok false W := by
    unfold isAgg
    rw [Sem.run_bind, run_underlying hu W]
    cases d <;> simp_all
  simp [Instr.loadAt, Instr.sureAddr, loadVar, Sem.run_bind, hagg, hc]
theorem ld_cells {W : World} {b o : Nat} (ns : List Value) (ty : TypeId) (d : TypeDesc) (hu : Tryz.prog.underlying ty = some d) (hd : (match d with | .struct _ | .array _ _ => true | _ => false) = true) (hi : (Tryz.prog.info? ty).map (·.size) = some ns.length) (hc : ∀ j u, ns[j]? = some u → W.cell? ⟨b, o + j, none⟩ = some u) :
    (Instr.loadAt ty (.pointer (some ⟨b, o, none⟩))).run Tryz.prog W = .ok (.agg ns.toArray) W := by
  have hl : (loadCells ⟨b, o, none⟩ ns.length).run Tryz.prog W = .ok ns.toArray W :=
    run_loadCells_list (P := Tryz.prog) W ⟨b, o, none⟩ ns (fun j v hv => by rw [addr_add]; exact hc j v hv)
  cases hq : Tryz.prog.info? ty with
  | none => simp [hq] at hi
  | some i =>
    have hs : i.size = ns.length := by simpa [hq] using hi
    have hagg : (isAgg ty).run Tryz.prog W = .ok true W := by
      unfold isAgg
      rw [Sem.run_bind, run_underlying hu W]
      cases d <;> simp_all
    simp [Instr.loadAt, Instr.sureAddr, loadVar, Sem.run_bind, hagg, sizeOf, typeInfo, hq, hs, hl]
theorem RSl.wide {α : Type} {f : α → List Value} {lo hi : Nat} {W : World} {v : Value} {l : List α} (h : RSl f lo hi W v l) (hi' : hi ≤ W.heap.size) : RSl f lo W.heap.size W v l := h.mono (Nat.le_refl _) hi'
theorem idx_arr {W : World} {ty : TypeId} {n e c : Nat} (hu : Tryz.prog.underlying ty = some (.array n e)) (hs : (sizeOf e).run Tryz.prog W = .ok c W) {B o : Nat} {k : Nat} (hk : k < n) :
    (Instr.indexAt ty (.pointer (some ⟨B, o, none⟩)) (.int .i64 (k : Int))).run Tryz.prog W = .ok (.pointer (some ⟨B, o + k * c, none⟩)) W := by
  have h1 : (0 : Int) ≤ (k : Int) ∧ (k : Int) < n := ⟨by omega, by omega⟩
  simp [Instr.indexAt, run_underlying hu, asIntOf, h1, hs, go_sem]
  intro h
  omega
theorem grownBy_trans {w W W' : World} {row : Option Nat} (h : w.grownBy W row) (h' : W.grownBy W' row) : w.grownBy W' row :=
  ⟨h'.os.trans h.os, h'.tape.trans h.tape, h'.output.trans h.output, Nat.le_trans h.size h'.size, fun k hk hr => (h'.block k (Nat.lt_of_lt_of_le hk h.size) hr).trans (h.block k hk hr)⟩
theorem res_two {fn : Func} {p q : Tmp} {ty : TypeId} (h : fn.results = #[.cell p ty, .tmp q]) (tmps : Array Value) {w : World} {g : Nat} {c a : Value} (hp : tmps.getD p undef = .pointer (some ⟨g, 0, none⟩)) (hq : tmps.getD q undef = a) (hl : (loadVar ty ⟨g, 0, none⟩).run Tryz.prog w = .ok c w) :
    (results fn tmps).run Tryz.prog w = .ok (.tuple #[c, a]) w := by
  have hp' : tmps[p]?.getD undef = .pointer (some ⟨g, 0, none⟩) := by simpa using hp
  have hq' : tmps[q]?.getD undef = a := by simpa using hq
  simp [results, h, hp', hq', asAddr, hl]
end
section
variable {A B C : List Value} {m : Nat}
theorem laid_in (hA : A.length = m) (ns : List Value) (o : Nat) (h : o + ns.length ≤ B.length) : laid (A ++ (B ++ C)) (m + o) ns = A ++ (laid B o ns ++ C) := by
  subst hA
  unfold laid
  rw [List.take_length_add_append, List.take_append_of_le_length (by omega), Nat.add_assoc, List.drop_length_add_append, List.drop_append_of_le_length (by omega)]
  simp only [List.append_assoc]
theorem cell_in (hA : A.length = m) (i : Nat) (h : i < B.length) : (A ++ (B ++ C))[m + i]? = B[i]? := by
  subst hA
  rw [List.getElem?_append_right (by omega), Nat.add_sub_cancel_left, List.getElem?_append_left h]
end
section
variable {ops : Array Oper} {Q : Exit → Act → World → Prop}
theorem op_at {P : Program} {k : Nat} {a : Act} {b : Bool} {d : Option Tmp} {op : Op} (h : (ops[k]?).map (fun o => (Region.wanted o (yielded ops a.tmps), o.dst, o.op)) = some (b, d, op)) : ∃ o, ops[k]? = some o ∧ Region.wanted o (yielded ops a.tmps) = b ∧ o.dst = d ∧ o.op = op ∧ ∀ w, runAt P ops k a w = some (b, d, (execOp a.eval o).run P w) := by
  cases ho : ops[k]? with
  | none => rw [ho] at h; cases h
  | some o =>
    rw [ho, Option.map_some, Option.some.injEq, Prod.mk.injEq, Prod.mk.injEq] at h
    obtain ⟨h1, h2, h3⟩ := h
    exact ⟨o, rfl, h1, h2, h3, fun w => by unfold runAt; rw [ho, Option.map_some, h1, h2]⟩
end
section
variable {ops : Array Oper} {Q : Exit → Act → World → Prop} {md : Region.Mode} {S : World → Prop}
end
section
theorem wpFrom_not {P : Program} {ops : Array Oper} {Q : Exit → Act → World → Prop} {k : Nat} {a : Act} {w : World} {d : Option Tmp} (hr : (ops[k]?).map (fun o => (Region.wanted o (yielded ops a.tmps), o.dst)) = some (false, d)) (h : wpFrom P ops Q (k + 1) (a.put d undef) w) : wpFrom P ops Q k a w := by
  obtain ⟨o, ho⟩ := some_of hr
  rw [ho] at hr
  have h0 := Option.some.inj hr
  have h1 : Region.wanted o (yielded ops a.tmps) = false := congrArg Prod.fst h0
  have h2 : o.dst = d := congrArg Prod.snd h0
  refine wpFrom_step ho fun K hK => ?_
  rw [if_neg (by rw [h1]; decide), h2]
  exact hK _ _ h
end
end Go.Proofs.YtemknjnljciioaaGreat
namespace Go.Proofs.YtemknjnljciioaaGreat
open Go.RowKit Go.Shelf
theorem ROk.elem {α : Type} {f : α → List Value} {n : Nat} {W : World} {v : Value} {l : List α} {e : TypeId} (h : ROk (.own f e n v l) W) (hn : ∀ x, (f x).length = n) {k : Nat} {x : α} (hx : l[k]? = some x) {ty e' : TypeId} (hu : Tryz.prog.underlying ty = some (.slice e')) (hs : ∀ W, (sizeOf e').run Tryz.prog W = .ok n W) :
    ∃ b o, (∀ W', (Instr.indexAt ty v (.int .i64 (k : Int))).run Tryz.prog W' = .ok (.pointer (some ⟨b, o, none⟩)) W') ∧ ∀ W', ROk (.own f e n v l) W' → ∀ j u, (f x)[j]? = some u → W'.cell? ⟨b, o + j, none⟩ = some u := by
  obtain ⟨b, o, _, _, hi, _⟩ := RSl.elem (h.rsl hn) hn hx hu hs
  refine ⟨b, o, hi, fun W' h' => ?_⟩
  obtain ⟨b', o', _, _, hi', hc'⟩ := RSl.elem (h'.rsl hn) hn hx hu hs
  have hq := (hi' W).symm.trans (hi W)
  obtain ⟨rfl, rfl⟩ : b' = b ∧ o' = o := by simpa using hq
  exact hc' W' (h'.rsl hn)
theorem ROk.slice {α : Type} {f : α → List Value} {n : Nat} {W : World} {v : Value} {l : List α} {e : TypeId} (h : ROk (.own f e n v l) W) (hn : ∀ x, (f x).length = n) : ∃ a c, v = .slice a l.length c := (h.rsl hn).slice
theorem ROk.one {α : Type} {f : α → List Value} {n : Nat} {W : World} {v : Value} {l : List α} {e : TypeId} (h : ROk (.own f e n v l) W) (hn : ∀ x, (f x).length = n) : v.oneCell' = true := by
  obtain ⟨a, c, rfl⟩ := h.slice hn
  rfl
end Go.Proofs.YtemknjnljciioaaGreat
namespace Go.Proofs.YtemknjnljciioaaGreat
open Go.RowKit Go.Shelf
theorem flat_laid {α : Type} {f : α → List Value} {n : Nat} (hn : ∀ x, (f x).length = n) {l : List α} {k j : Nat} {x y : α} {ns : List Value} (hx : l[k]? = some x) (hle : j + ns.length ≤ n) (hy : laid (f x) j ns = f y) : laid (flatR f l) (k * n + j) ns = flatR f (l.set k y) := by
  obtain ⟨hk, rfl⟩ := List.getElem?_eq_some_iff.1 hx
  have e1 : flatR f l = flatR f (l.take k) ++ (f l[k] ++ flatR f (l.drop (k + 1))) := by
    rw [← flat_cons, List.getElem_cons_drop, ← flat_app, List.take_append_drop]
  have e2 : flatR f (l.set k y) = flatR f (l.take k) ++ (f y ++ flatR f (l.drop (k + 1))) := by
    rw [List.set_eq_take_append_cons_drop, if_pos hk, flat_app, flat_cons]
  rw [e1, e2, laid_in (by rw [flat_len hn, List.length_take, Nat.min_eq_left (Nat.le_of_lt hk)]) ns j (by rw [hn]; exact hle), hy]
theorem laid_take {vs : List Value} {o m : Nat} {ns : List Value} (h : o + ns.length ≤ m) (hm : m ≤ vs.length) : (laid vs o ns).take m = laid (vs.take m) o ns := by
  obtain ⟨d, rfl⟩ : ∃ d, m = o + ns.length + d := ⟨m - (o + ns.length), by omega⟩
  have hA : (vs.take o ++ ns).length = o + ns.length := by rw [List.length_append, List.length_take]; omega
  have e1 : ∀ C : List Value, (vs.take o ++ ns ++ C).take (o + ns.length + d) = vs.take o ++ ns ++ C.take d := fun C => by
    rw [← hA]
    exact List.take_length_add_append _
  unfold laid
  rw [e1, List.take_take, Nat.min_eq_left (by omega), List.drop_take, Nat.add_sub_cancel_left]
theorem own_store {α : Type} {f : α → List Value} {e : TypeId} {n : Nat} {v : Value} {l : List α} {W W0 : World} (h : ROk (.own f e n v l) W) (hn : ∀ x, (f x).length = n) {k : Nat} {x : α} (hx : l[k]? = some x) {ty e' : TypeId} (hu : Tryz.prog.underlying ty = some (.slice e')) (hs : ∀ W, (sizeOf e').run Tryz.prog W = .ok n W)
    {b o : Nat} (hi : (Instr.indexAt ty v (.int .i64 (k : Int))).run Tryz.prog W0 = .ok (.pointer (some ⟨b, o, none⟩)) W0) (y : α) (j : Nat) (tv : TypeId) (val : Value) (hinf : (Tryz.prog.info? tv).map (·.size) = some val.cells.size) (hle : j + val.cells.size ≤ n) (h1 : val.cells.all (·.oneCell') = true) (hy : laid (f x) j val.cells.toList = f y) :
    ∃ W', (Instr.storeAt tv (.pointer (some ⟨b, o + j, none⟩)) val).run Tryz.prog W = .ok () W' ∧ RTurn (.own f e n v l) (.own f e n v (l.set k y)) W W' := by
  have hk : k < l.length := (List.getElem?_eq_some_iff.1 hx).1
  rcases h.h.2 with ⟨_, h0⟩ | ⟨g, cap, cur, rfl, hg, hc, hnc, hm, hsz, ht⟩
  · omega
  · have hB : Blk W g e cur.toList := hc
    have hi2 := idx_sl (W := W0) (b := g) (off := 0) (len := l.length) (cap := cap) (c := n) hu (hs W0) hk
    rw [Nat.zero_add] at hi2
    obtain ⟨rfl, rfl⟩ : g = b ∧ k * n = o := by simpa using hi2.symm.trans hi
    have hkn : (k + 1) * n ≤ l.length * n := Nat.mul_le_mul_right _ hk
    have hcn : l.length * n ≤ cap * n := Nat.mul_le_mul_right _ hnc
    rw [Nat.succ_mul] at hkn
    have hcl : cur.toList.length = cap * n := (Array.length_toList).trans hsz
    have hvl : val.cells.toList.length = val.cells.size := Array.length_toList
    have hlen : k * n + j + val.cells.size ≤ cur.toList.length := by omega
    refine ⟨_, run_store_part hB (k * n + j) val tv hinf hlen h1, turn_own ⟨?_, .inr ⟨g, cap, (laid cur.toList (k * n + j) val.cells.toList).toArray, by rw [List.length_set], hg, hB.row _, by rw [List.length_set]; exact hnc, hm, ?_, ?_⟩⟩ (by exact grownBy_row W g _) (fun q hq => .inl hq)⟩
    · rw [flat_len hn]
    · rw [List.size_toArray]
      unfold laid
      rw [List.length_append, List.length_append, List.length_take, List.length_drop]
      omega
    · rw [List.toList_toArray, List.length_set, laid_take (by omega) (by omega), ht]
      exact flat_laid hn hx (by omega) hy
end Go.Proofs.YtemknjnljciioaaGreat
namespace Go.Proofs.YtemknjnljciioaaGreat
open Go.RowKit Go.Shelf
theorem Sep.gain {w W W' : World} {F : List Nat} {l : List Res} {r : Res} (h : Sep w F l W) (h' : Sep W [] [r] W') : Sep w F (r :: l) W' :=
  h.add h'.b (h'.ok r (List.mem_singleton.2 rfl)) (fun k hk => (h'.new r (List.mem_singleton.2 rfl) k hk).elim (fun e => (List.not_mem_nil e).elim) id)
theorem remF {ops : Array Oper} {Q : Exit → Act → World → Prop} (x y : Operand) (T z : TypeId) (d : Option Tmp) (a b c : Int) {k : Nat} {A : Act} {w : World} (hb : b ≠ 0) (hc : Int.tmod a b = c) (h : wpFrom Tryz.prog ops Q (k + 1) (A.put d (.int .i64 c)) w)
    (hk : (ops[k]?).map (fun o => (Region.wanted o (yielded ops A.tmps), o.dst, o.op)) = some (true, d, .binOp .rem T x y z) := by kernel_rfl) (hx : A.eval x = .int .i64 a := by kernel_rfl) (hy : A.eval y = .int .i64 b := by kernel_rfl) : wpFrom Tryz.prog ops Q k A w := by
  subst hc
  obtain ⟨o, _, _, _, hop, hr⟩ := op_at (P := Tryz.prog) hk
  refine wpFrom_run ((hr w).trans ?_) h
  unfold execOp
  simp only [hop, hx, hy, Sem.run_bind, eqGuard_rem, binOp_rem, Op.intDiv, if_neg hb, Sem.run_pure, Result.andThen_ok]
def idxG {α : Type} (p : α → Bool) (l : List α) : Int := match l.findIdx? p with | none => -1 | some i => i
theorem idxG_at {α : Type} {p : α → Bool} {l : List α} {j : Nat} {x : α} (hx : l[j]? = some x) (hp : p x = true) (hno : (l.take j).any p = false) : idxG p l = j := by
  obtain ⟨hj, rfl⟩ := List.getElem?_eq_some_iff.1 hx
  have : l.findIdx? p = some j := List.findIdx?_eq_some_iff_getElem.2 ⟨hj, hp, fun n hn => by
    have h := List.any_eq_false.1 hno l[n] (List.mem_take_iff_getElem.2 ⟨n, by omega, rfl⟩)
    exact h⟩
  unfold idxG
  rw [this]
theorem idxG_not {α : Type} {p : α → Bool} {l : List α} (hno : (l.take l.length).any p = false) : idxG p l = -1 := by
  rw [List.take_length] at hno
  have : l.findIdx? p = none := List.findIdx?_eq_none_iff.2 fun x hx => by
    have h := List.any_eq_false.1 hno x hx
    simpa using h
  unfold idxG
  rw [this]
theorem take_oneG {α : Type} {l : List α} {k : Nat} {x : α} (hx : l[k]? = some x) : l.take (k + 1) = l.take k ++ [x] := by
  obtain ⟨hk, rfl⟩ := List.getElem?_eq_some_iff.1 hx
  exact List.take_succ_eq_append_getElem hk
theorem take_anyG {α : Type} {l : List α} {k : Nat} {x : α} {p : α → Bool} (hx : l[k]? = some x) : (l.take (k + 1)).any p = ((l.take k).any p || p x) := by
  rw [take_oneG hx, List.any_append]
  simp
theorem rsl_blk {α : Type} {f : α → List Value} {W : World} {N : Nat} {T : TypeId} {x : α} (h : Blk W N T (f x)) : RSl f 0 W.heap.size W (.slice (some ⟨N, 0, none⟩) 1 1) [x] :=
  ⟨_, 1, rfl, Nat.le_refl _, by unfold maxLen; omega, .inr ⟨N, 0, rfl, Nat.zero_le _, h.lt, fun j u hj => by rw [flat_one] at hj; rw [Nat.zero_add]; exact (h.cell j).trans hj⟩⟩
section
variable {w W : World} {F : List Nat} {l : List Res}
theorem apart_symm {r s : Res} (h : Apart r s) : Apart s r := fun k hk e => h k e hk
theorem Sep.pick (h : Sep w F l W) (is : List Nat) {l' : List Res} (hn : is.Nodup) (hl : is.map (fun i => l[i]?) = l'.map some) : Sep w F l' W := by
  have hlen : is.length = l'.length := by have := congrArg List.length hl; rwa [List.length_map, List.length_map] at this
  have get : ∀ j (hj : j < l'.length), l[is[j]'(by omega)]? = some l'[j] := fun j hj => by
    have := congrArg (fun x => x[j]?) hl
    simp only [List.getElem?_map, List.getElem?_eq_getElem hj, List.getElem?_eq_getElem (show j < is.length by omega), Option.map_some, Option.some.injEq] at this
    exact this
  have mem : ∀ r ∈ l', r ∈ l := fun r hr => by
    obtain ⟨j, hj, rfl⟩ := List.mem_iff_getElem.1 hr
    exact List.mem_of_getElem? (get j hj)
  refine ⟨fun r hr => h.ok r (mem r hr), fun r hr => h.new r (mem r hr), List.pairwise_iff_getElem.2 fun i j hi hj hij => ?_, h.out⟩
  obtain ⟨hi1, hi2⟩ := List.getElem?_eq_some_iff.1 (get i hi)
  obtain ⟨hj1, hj2⟩ := List.getElem?_eq_some_iff.1 (get j hj)
  have hne : is[i]'(by omega) ≠ is[j]'(by omega) := fun e => by
    have := (List.nodup_iff_pairwise_ne.1 hn)
    exact List.pairwise_iff_getElem.1 this i j (by omega) (by omega) hij e
  rw [← hi2, ← hj2]
  rcases Nat.lt_or_gt_of_ne hne with k | k
  · exact List.pairwise_iff_getElem.1 h.apart _ _ hi1 hj1 k
  · exact apart_symm (List.pairwise_iff_getElem.1 h.apart _ _ hj1 hi1 k)
theorem Sep.conv {r r' : Res} (h : Sep w F (r :: l) W) (hh : r.holds W → r'.holds W) (hf : ∀ k ∈ r'.foot, k ∈ r.foot) : Sep w F (r' :: l) W := by
  have hr := h.ok r (List.mem_cons_self ..)
  refine ⟨fun s hs => ?_, fun s hs k hk => ?_, List.pairwise_cons.2 ⟨fun s hs k hk e => ?_, (List.pairwise_cons.1 h.apart).2⟩, h.out⟩
  · rcases List.mem_cons.1 hs with rfl | hs
    · exact ⟨hh hr.h, fun k hk => hr.lt k (hf k hk)⟩
    · exact h.ok s (List.mem_cons_of_mem _ hs)
  · rcases List.mem_cons.1 hs with rfl | hs
    · exact h.new r (List.mem_cons_self ..) k (hf k hk)
    · exact h.new s (List.mem_cons_of_mem _ hs) k hk
  · exact (List.pairwise_cons.1 h.apart).1 s hs k (hf k hk) e
end
-- HERE
end Go.Proofs.YtemknjnljciioaaGreat
namespace Go.Proofs.YtemknjnljciioaaGreat
open Go.RowKit Go.Shelf
structure Ev where
  tm : Int
  cd : Int
  tx : Tr
def evc (x : Ev) : List Value := .int .i64 x.tm :: .int .i64 x.cd :: txc x.tx
theorem evc_len (x : Ev) : (evc x).length = 27 := rfl
theorem evc_one (x : Ev) : ∀ u ∈ evc x, u.oneCell' = true := by
  intro u hu
  unfold evc at hu
  simp only [List.mem_cons, List.not_mem_nil, or_false] at hu
  rcases hu with rfl | rfl | rfl | rfl | rfl | rfl | rfl | rfl | rfl | rfl | rfl | rfl | rfl | rfl | rfl | rfl | rfl | rfl | rfl | rfl | rfl | rfl | rfl | rfl | rfl | rfl | rfl <;> rfl
theorem infoEv : (Tryz.prog.info? 160).map (fun i => (i.zero, i.size, i.bytes)) = some (some (.agg (evc ⟨0, 0, noT⟩).toArray), 27, 240) := by kernel_rfl
theorem evc_all (x : Ev) : (Value.agg (evc x).toArray).cells.all (·.oneCell') = true := by
  show ((evc x).toArray.all (·.oneCell')) = true
  rw [← Array.all_toList]
  exact List.all_eq_true.2 (evc_one x)
theorem ev_laid (y x : Ev) : laid (evc y) 0 (Value.agg (evc x).toArray).cells.toList = evc x := rfl
theorem txc_25 (t : Tr) : (txc t).length = 25 := rfl
def RowE (l : List Ev) (w : World) (e : Ending) (W' : World) : Prop := ∃ v, e = .returned v ∧ Sep w [] [.own evc 160 27 v l] W'
-- HERE
end Go.Proofs.YtemknjnljciioaaGreat
namespace Go.Proofs.YtemknjnljciioaaGreat
open Go.RowKit Go.Shelf
def nw (n : Nat) : Nat → Nat := fun k => n / M ^ k % M
theorem nw_ok (n : Nat) : Ok4 (nw n 0) (nw n 1) (nw n 2) (nw n 3) := ⟨Nat.mod_lt _ M_pos, Nat.mod_lt _ M_pos, Nat.mod_lt _ M_pos, Nat.mod_lt _ M_pos⟩
theorem nw_val {n : Nat} (h : n < M4) : val (nw n 0) (nw n 1) (nw n 2) (nw n 3) = n := by
  unfold val nw
  have e1 : n / M ^ 1 = n / M := by rw [Nat.pow_one]
  have e2 : n / M ^ 2 = n / M / M := by rw [Nat.div_div_eq_div_mul, Nat.pow_two]
  have e3 : n / M ^ 3 = n / M / M / M := by rw [Nat.div_div_eq_div_mul, Nat.div_div_eq_div_mul, Nat.pow_succ, Nat.pow_two, Nat.mul_assoc]
  rw [e1, e2, e3, Nat.pow_zero, Nat.div_one]
  have h4 : n / M / M / M < M := by
    rw [Nat.div_div_eq_div_mul, Nat.div_div_eq_div_mul]
    exact Nat.div_lt_of_lt_mul (by unfold M4 at h; exact h)
  rw [Nat.mod_eq_of_lt h4]
  have d0 := Nat.mod_add_div n M
  have d1 := Nat.mod_add_div (n / M) M
  have d2 := Nat.mod_add_div (n / M / M) M
  rw [d2, d1, d0]
theorem nw_of {s0 s1 s2 s3 n : Nat} (h : Ok4 s0 s1 s2 s3) (e : val s0 s1 s2 s3 = n) : s0 = nw n 0 ∧ s1 = nw n 1 ∧ s2 = nw n 2 ∧ s3 = nw n 3 := by
  have hn : n < M4 := by rw [← e]; exact val_lt h
  exact val_inj h (nw_ok n) (by rw [e, nw_val hn])
theorem nw_zero (k : Nat) : nw 0 k = 0 := by unfold nw; simp
theorem nw_word {n : Nat} (h : n < M) : nw n 0 = n ∧ nw n 1 = 0 ∧ nw n 2 = 0 ∧ nw n 3 = 0 := by
  have e : val n 0 0 0 = n := by simp [val]
  obtain ⟨a, b, c, d⟩ := nw_of (s0 := n) (s1 := 0) (s2 := 0) (s3 := 0) ⟨h, M_pos, M_pos, M_pos⟩ e
  exact ⟨a.symm, b.symm, c.symm, d.symm⟩
abbrev wn (n : Nat) : Value := wv (nw n 0) (nw n 1) (nw n 2) (nw n 3)
abbrev Bk := Nat → Nat
def rowB (b : Bk) : Nat → Nat → List Value
  | _, 0 => []
  | s, n + 1 => ws (nw (b s)) ++ rowB b (s + 1) n
theorem ws_len (s : Nat → Nat) : (ws s).length = 4 := rfl
theorem rowB_len (b : Bk) (s n : Nat) : (rowB b s n).length = 4 * n := by
  induction n generalizing s with
  | zero => rfl
  | succ n ih => rw [rowB, List.length_append, ih, ws_len]; omega
theorem rowB_drop (b : Bk) (s n : Nat) {j : Nat} (hj : j ≤ n) : (rowB b s n).drop (4 * j) = rowB b (s + j) (n - j) := by
  induction j generalizing s n with
  | zero => rfl
  | succ j ih =>
    match n, hj with
    | n + 1, hj =>
      rw [rowB, show 4 * (j + 1) = (ws (nw (b s))).length + 4 * j by rw [ws_len]; omega, List.drop_length_add_append, ih (s + 1) n (by omega), show s + 1 + j = s + (j + 1) by omega, show n + 1 - (j + 1) = n - j by omega]
theorem rowB_take (b : Bk) (s n : Nat) {j : Nat} (hj : j ≤ n) : (rowB b s n).take (4 * j) = rowB b s j := by
  induction j generalizing s n with
  | zero => rfl
  | succ j ih =>
    match n, hj with
    | n + 1, hj =>
      rw [rowB, rowB, show 4 * (j + 1) = (ws (nw (b s))).length + 4 * j by rw [ws_len]; omega, List.take_length_add_append, ih (s + 1) n (by omega)]
theorem rowB_ext {b c : Bk} {s n : Nat} (h : ∀ j, s ≤ j → j < s + n → b j = c j) : rowB b s n = rowB c s n := by
  induction n generalizing s with
  | zero => rfl
  | succ n ih => rw [rowB, rowB, h s (Nat.le_refl _) (by omega), ih (fun j h1 h2 => h j (by omega) (by omega))]
def bkc (b : Bk) : List Value := rowB b 0 16
abbrev bkv (b : Bk) : Value := .agg (bkc b).toArray
theorem bkc_len (b : Bk) : (bkc b).length = 64 := rowB_len b 0 16
theorem bkc_row (b : Bk) {a : Nat} (ha : a < 8) : ((bkc b).drop (8 * a)).take 8 = ws (nw (b (2 * a))) ++ ws (nw (b (2 * a + 1))) := by
  unfold bkc
  rw [show 8 * a = 4 * (2 * a) by omega, rowB_drop b 0 16 (by omega), Nat.zero_add, show 8 = 4 * 2 from rfl, rowB_take b (2 * a) (16 - 2 * a) (by omega), rowB, rowB, rowB, List.append_nil]
def updB (b : Bk) (j n : Nat) : Bk := fun i => if i = j then n else b i
theorem updB_at (b : Bk) (j n : Nat) : updB b j n j = n := if_pos rfl
theorem updB_ne (b : Bk) {j i : Nat} (n : Nat) (h : i ≠ j) : updB b j n i = b i := if_neg h
theorem bkc_set (b : Bk) (n : Nat) {j : Nat} (hj : j < 16) : laid (bkc b) (4 * j) (ws (nw n)) = bkc (updB b j n) := by
  unfold laid bkc
  have h1 : (rowB b 0 16).take (4 * j) = rowB (updB b j n) 0 j := by
    rw [rowB_take b 0 16 (by omega)]
    exact rowB_ext fun i _ hi => by rw [updB_ne b n (by omega)]
  have h2 : (rowB b 0 16).drop (4 * j + (ws (nw n)).length) = rowB (updB b j n) (j + 1) (16 - (j + 1)) := by
    rw [ws_len, show 4 * j + 4 = 4 * (j + 1) by omega, rowB_drop b 0 16 (by omega), Nat.zero_add]
    exact rowB_ext fun i hi _ => by rw [updB_ne b n (by omega)]
  have h3 : rowB (updB b j n) 0 16 = (rowB (updB b j n) 0 16).take (4 * j) ++ (rowB (updB b j n) 0 16).drop (4 * j) := (List.take_append_drop _ _).symm
  rw [h1, h2, h3, rowB_take _ 0 16 (by omega), rowB_drop _ 0 16 (by omega), Nat.zero_add, List.append_assoc]
  congr 1
  obtain ⟨m, hm⟩ : ∃ m, 16 - j = m + 1 := ⟨16 - j - 1, by omega⟩
  rw [hm, rowB, updB_at, show 16 - (j + 1) = m by omega]
theorem bkc_ext {b c : Bk} (h : ∀ j, j < 16 → b j = c j) : bkc b = bkc c := rowB_ext fun j _ hj => h j (by omega)
def atS (a s : Int) : Prop := (0 ≤ a ∧ a < 8) ∧ 0 ≤ s ∧ s < 2
instance (a s : Int) : Decidable (atS a s) := by unfold atS; infer_instance
end Go.Proofs.YtemknjnljciioaaGreat
namespace Go.Proofs.YtemknjnljciioaaGreat
open Go.RowKit Go.Shelf
structure Lk where
  ke : ByteArray
  dg : ByteArray
  st : Int
structure Es where
  sd : Int
  tm : Int
  pu : Bk
  va : Bk
  no : Nat → Int
  he : Nat → Nat
  bu : Nat
  lk : List Lk
end Go.Proofs.YtemknjnljciioaaGreat
namespace Go.Proofs.YtemknjnljciioaaGreat
open Go.RowKit Go.Shelf
section
variable {A B C : List Value} {m : Nat}
end
def noc (f : Nat → Int) : List Value := [.int .i64 (f 0), .int .i64 (f 1), .int .i64 (f 2), .int .i64 (f 3), .int .i64 (f 4), .int .i64 (f 5), .int .i64 (f 6), .int .i64 (f 7)]
theorem noc_len (f : Nat → Int) : (noc f).length = 8 := rfl
def hec (h : Bk) : List Value := rowB h 0 2
theorem hec_len (h : Bk) : (hec h).length = 8 := rowB_len h 0 2
def stc (s : Es) (v : Value) : List Value := [.int .i64 s.sd, .int .i64 s.tm] ++ (bkc s.pu ++ (bkc s.va ++ (noc s.no ++ (hec s.he ++ (ws (nw s.bu) ++ [v])))))
theorem stc_len (s : Es) (v : Value) : (stc s v).length = 151 := by
  unfold stc
  simp only [List.length_append, bkc_len, noc_len, hec_len, ws_len, List.length_cons, List.length_nil]
abbrev stv (s : Es) (v : Value) : Value := .agg (stc s v).toArray
theorem stc_one (s : Es) (v : Value) (hv : v.oneCell' = true) : (stc s v).all (·.oneCell') = true := by
  have hb : ∀ b : Bk, (bkc b).all (·.oneCell') = true := fun b => by
    have h : ∀ s n, (rowB b s n).all (·.oneCell') = true := fun s n => by
      induction n generalizing s with
      | zero => rfl
      | succ n ih => rw [rowB, List.all_append, ih]; rfl
    exact h 0 16
  have hh : (hec s.he).all (·.oneCell') = true := rfl
  have hn : (noc s.no).all (·.oneCell') = true := rfl
  have hw : (ws (nw s.bu)).all (·.oneCell') = true := rfl
  unfold stc
  simp only [List.all_append, hb, hh, hn, hw, List.all_cons, List.all_nil, hv, Bool.and_true]
  rfl
end Go.Proofs.YtemknjnljciioaaGreat
