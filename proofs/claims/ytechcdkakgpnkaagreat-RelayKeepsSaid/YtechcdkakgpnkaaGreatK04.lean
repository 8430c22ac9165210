/-
  What a call knows of memory, as one fact: some blocks, each known whole and made by the call (or one that was handed in, in which it writes), and that nothing else has turned; Words for walks by Takes over parts of memory: loads, stores, elements, comparisons, operations that are not wanted; Parts of memory that stand beside one another: what is known of some blocks stays known, whatever is done t
-/
import Derived.Deep.WholeRow
import Derived.Deep.Cut
import Derived.Deep.CutRange
import Derived.Deep.DeepCutAuto
import Derived.Deep.CutBlock
import Derived.LoopTactic
import Derived.Maps.AppendAt
import Derived.OwnWalk
import Derived.IntWalk
import Derived.Lib.Hide
import Derived.Outline
import Derived.Great.BuildSlice
import Derived.WalkSpells
import Derived.Laws.CopyOwn
import Derived.RangeFuncNested
import Derived.RangeFuncCalls
import Derived.RangeFuncIn
import Derived.WalkKit
import Derived.Test.YtechcdkakgpnkaaGreatProg
import Derived.Test.YtechcdkakgpnkaaGreatK03
namespace Go.Proofs.YtechcdkakgpnkaaGreat
open Go.RowKit Go.Shelf
abbrev MB := Nat × TypeId × List Value
def Mem (w : World) (row : Option Nat) (l : List MB) (W : World) : Prop :=
  (∀ x ∈ l, Blk W x.1 x.2.1 x.2.2 ∧ (w.heap.size ≤ x.1 ∨ some x.1 = row)) ∧ l.Pairwise (fun x y => y.1 < x.1) ∧ w.grownBy W row
section
variable {w W W' : World} {row : Option Nat} {l : List MB}
theorem grownBy_refl (w : World) (row : Option Nat) : w.grownBy w row := ⟨rfl, rfl, rfl, Nat.le_refl _, fun _ _ _ => rfl⟩
theorem Mem.start (w : World) : Mem w none [] w := ⟨fun _ hx => (List.not_mem_nil hx).elim, List.Pairwise.nil, grownBy_refl w none⟩
theorem Mem.at (h : Mem w row l W) (i : Nat) {B : Nat} {T : TypeId} {cs : List Value} (hi : l[i]? = some (B, T, cs)) : Blk W B T cs := (h.1 _ (List.mem_of_getElem? hi)).1
theorem Mem.lt (h : Mem w row l W) {x : MB} (hx : x ∈ l) : x.1 < W.heap.size := (h.1 x hx).1.lt
theorem Mem.g (h : Mem w row l W) : w.grownBy W row := h.2.2
theorem Mem.size (h : Mem w row l W) : w.heap.size ≤ W.heap.size := h.2.2.size
theorem Mem.b (h : Mem w none l W) : Below w.heap.size w W := ⟨h.2.2.os, h.2.2.tape, h.2.2.output, h.2.2.size, fun k hk => h.2.2.block k hk (by simp)⟩
theorem Mem.drew (h : Mem w row l W) : Mem w row l W.drew := ⟨h.1, h.2.1, ⟨h.2.2.os, h.2.2.tape, h.2.2.output, h.2.2.size, h.2.2.block⟩⟩
theorem grownBy_trans_below {row : Option Nat} (h : w.grownBy W row) (hb : Below W.heap.size W W') : w.grownBy W' row :=
  ⟨hb.os.trans h.os, hb.tape.trans h.tape, hb.output.trans h.output, Nat.le_trans h.size hb.size, fun k hk hr => (hb.block k (Nat.lt_of_lt_of_le hk h.size)).trans (h.block k hk hr)⟩
theorem Mem.below (h : Mem w row l W) (hb : Below W.heap.size W W') : Mem w row l W' :=
  ⟨fun x hx => ⟨(h.1 x hx).1.below hb (h.lt hx), (h.1 x hx).2⟩, h.2.1, grownBy_trans_below h.2.2 hb⟩
theorem Mem.alloc (h : Mem w row l W) (T : TypeId) (cs : List Value) : Mem w row ((W.heap.size, T, cs) :: l) (W.alloc (.cells cs.toArray T)) := by
  refine ⟨fun x hx => ?_, List.pairwise_cons.2 ⟨fun y hy => h.lt hy, h.2.1⟩, grownBy_trans_below h.2.2 ((Below.refl _ W).alloc (Nat.le_refl _) _)⟩
  rcases List.mem_cons.1 hx with rfl | hx
  · exact ⟨Blk.new W T cs, .inl h.size⟩
  · exact ⟨(h.1 x hx).1.alloc _, (h.1 x hx).2⟩
theorem Mem.other (h : Mem w row l W) (o : Obj) : Mem w row l (W.alloc o) := h.below ((Below.refl _ W).alloc (Nat.le_refl _) _)
theorem Mem.call (h : Mem w row l W) (i : Nat) {B : Nat} {T : TypeId} {cs cs' : List Value} {l' : List MB} (hi : l[i]? = some (B, T, cs)) (hl : l.set i (B, T, cs') = l') (hb : W.grownBy W' (some B)) (hB : Blk W' B T cs') : Mem w row l' W' := by
  subst hl
  have hlt : i < l.length := (List.getElem?_eq_some_iff.1 hi).1
  have hne : ∀ j y, l[j]? = some y → j ≠ i → y.1 ≠ B := fun j y hy hji => by
    obtain ⟨hj, hy'⟩ := List.getElem?_eq_some_iff.1 hy
    obtain ⟨_, hi'⟩ := List.getElem?_eq_some_iff.1 hi
    rcases Nat.lt_or_gt_of_ne hji with hl | hl
    · have := List.pairwise_iff_getElem.1 h.2.1 j i hj hlt hl
      rw [hy', hi'] at this
      exact Nat.ne_of_gt this
    · have := List.pairwise_iff_getElem.1 h.2.1 i j hlt hj hl
      rw [hy', hi'] at this
      exact Nat.ne_of_lt this
  have hi0 := h.1 _ (List.mem_of_getElem? hi)
  refine ⟨fun x hx => ?_, ?_, ?_⟩
  · obtain ⟨j, hj⟩ := List.mem_iff_getElem?.1 hx
    rw [List.getElem?_set] at hj
    by_cases e : i = j
    · subst e
      rw [if_pos rfl, if_pos hlt] at hj
      obtain rfl := Option.some.inj hj
      exact ⟨hB, hi0.2⟩
    · rw [if_neg e] at hj
      have hx' := h.1 x (List.mem_of_getElem? hj)
      have hn := hne j x hj (fun e' => e e'.symm)
      exact ⟨hx'.1.kept hb (fun e' => hn (Option.some.inj e')), hx'.2⟩
  · have key : (l.set i (B, T, cs')).map (·.1) = l.map (·.1) := by
      rw [List.map_set]
      obtain ⟨_, hi'⟩ := List.getElem?_eq_some_iff.1 hi
      apply List.ext_getElem?
      intro j
      rw [List.getElem?_set]
      by_cases e : i = j
      · subst e
        rw [if_pos rfl, if_pos (by simpa using hlt), List.getElem?_map, hi]; rfl
      · rw [if_neg e]
    have h1 := h.2.1
    rw [← List.pairwise_map (f := fun x : MB => x.1) (R := fun a b => b < a)] at h1 ⊢
    rw [key]; exact h1
  · refine ⟨hb.os.trans h.2.2.os, hb.tape.trans h.2.2.tape, hb.output.trans h.2.2.output, Nat.le_trans h.2.2.size hb.size, fun k hk hr => (hb.block k (Nat.lt_of_lt_of_le hk h.2.2.size) (fun e => ?_)).trans (h.2.2.block k hk hr)⟩
    obtain rfl := Option.some.inj e
    rcases hi0.2 with hg | hg
    · exact absurd hk (Nat.not_lt.2 hg)
    · exact hr hg
theorem Mem.set (h : Mem w row l W) (i : Nat) {B : Nat} {T : TypeId} {cs cs' : List Value} {l' : List MB} (hi : l[i]? = some (B, T, cs)) (hl : l.set i (B, T, cs') = l') : Mem w row l' (W.setRow B cs'.toArray) :=
  h.call i hi hl (grownBy_row W B _) ((h.at i hi).row cs')
end
theorem ld_any {W : World} {B : Nat} {T : TypeId} {vs : List Value} (ty : TypeId) (d : TypeDesc) (hu : Tryz.prog.underlying ty = some d) (hd : (match d with | .struct _ | .array _ _ => false | _ => true) = true) (h : Blk W B T vs) (i : Nat) {v : Value} (hv : vs[i]? = some v) :
    (Instr.loadAt ty (.pointer (some ⟨B, i, none⟩))).run Tryz.prog W = .ok v W := by
  have hc := (h.cell i).trans hv
  have hagg : (isAgg ty).run Tryz.prog W = .ok false W := by
    unfold isAgg
    rw [Sem.run_bind, run_underlying hu W]
    cases d <;> simp_all
  simp [Instr.loadAt, Instr.sureAddr, loadVar, Sem.run_bind, hagg, hc]
end Go.Proofs.YtechcdkakgpnkaaGreat
namespace Go.Proofs.YtechcdkakgpnkaaGreat
open Go.RowKit Go.Shelf
attribute [local irreducible] wpFrom
section
variable {W : World} {B : Nat} {T : TypeId}
theorem sto_part {vs : List Value} (us : List Value) (h : Blk W B T vs) (o : Nat) (ty : TypeId) (x : Value) (ns : List Value) (hx : x.cells.toList = ns) (hi : (Tryz.prog.info? ty).map (·.size) = some ns.length) (hle : o + ns.length ≤ vs.length) (h1 : ns.all (·.oneCell') = true) (hl : laid vs o ns = us) :
    (Instr.storeAt ty (.pointer (some ⟨B, o, none⟩)) x).run Tryz.prog W = .ok () (W.setRow B us.toArray) := by
  subst hx; subst hl
  exact run_store_part h o x ty (by simpa using hi) (by simpa using hle) (by rw [← Array.all_toList]; exact h1)
theorem idx_sl {W : World} {ty e c : Nat} (hu : Tryz.prog.underlying ty = some (.slice e)) (hs : (sizeOf e).run Tryz.prog W = .ok c W) {b off len cap : Nat} {k : Nat} (hk : k < len) :
    (Instr.indexAt ty (.slice (some ⟨b, off, none⟩) len cap) (.int .i64 (k : Int))).run Tryz.prog W = .ok (.pointer (some ⟨b, off + k * c, none⟩)) W := by
  have h1 : (0 : Int) ≤ (k : Int) ∧ (k : Int) < len := ⟨by omega, by omega⟩
  simp [Instr.indexAt, run_underlying hu, asIntOf, h1, hs, go_sem]
  intro h
  omega
theorem RSl.elem {α : Type} {f : α → List Value} {n lo hi : Nat} {W : World} {v : Value} {l : List α} (h : RSl f lo hi W v l) (hn : ∀ x, (f x).length = n) {k : Nat} {x : α} (hx : l[k]? = some x) {ty e : TypeId} (hu : Tryz.prog.underlying ty = some (.slice e)) (hs : ∀ W, (sizeOf e).run Tryz.prog W = .ok n W) :
    ∃ b o, lo ≤ b ∧ b < hi ∧ (∀ W', (Instr.indexAt ty v (.int .i64 (k : Int))).run Tryz.prog W' = .ok (.pointer (some ⟨b, o, none⟩)) W') ∧ ∀ W', RSl f lo hi W' v l → ∀ j u, (f x)[j]? = some u → W'.cell? ⟨b, o + j, none⟩ = some u := by
  have hk : k < l.length := (List.getElem?_eq_some_iff.1 hx).1
  have hne : l ≠ [] := fun e => by subst e; simp at hk
  obtain ⟨a, cap, rfl, _, _, h0 | ⟨b, off, rfl, h1, h2, h3⟩⟩ := h
  · exact absurd h0 hne
  · refine ⟨b, off + k * n, h1, h2, fun W' => idx_sl hu (hs W') hk, fun W' h' j u hj => ?_⟩
    obtain ⟨_, _, b', off', e, _, _, hr⟩ := h'.at hne
    cases e
    have hj' : j < n := by have := (List.getElem?_eq_some_iff.1 hj).1; rwa [hn] at this
    rw [hr.elem hn hx hj', hj]
theorem ld_cells {W : World} {b o : Nat} (ns : List Value) (ty : TypeId) (d : TypeDesc) (hu : Tryz.prog.underlying ty = some d) (hd : (match d with | .struct _ | .array _ _ => true | _ => false) = true) (hi : (Tryz.prog.info? ty).map (·.size) = some ns.length) (hc : ∀ j u, ns[j]? = some u → W.cell? ⟨b, o + j, none⟩ = some u) :
    (Instr.loadAt ty (.pointer (some ⟨b, o, none⟩))).run Tryz.prog W = .ok (.agg ns.toArray) W := by
  have hl : (loadCells ⟨b, o, none⟩ ns.length).run Tryz.prog W = .ok ns.toArray W :=
    run_loadCells_list (P := Tryz.prog) W ⟨b, o, none⟩ ns (fun j v hv => by rw [addr_add]; exact hc j v hv)
  cases hq : Tryz.prog.info? ty with
  | none => simp [hq] at hi
  | some i =>
    have hs : i.size = ns.length := by simpa [hq] using hi
    have hagg : (isAgg ty).run Tryz.prog W = .ok true W := by
      unfold isAgg
      rw [Sem.run_bind, run_underlying hu W]
      cases d <;> simp_all
    simp [Instr.loadAt, Instr.sureAddr, loadVar, Sem.run_bind, hagg, sizeOf, typeInfo, hq, hs, hl]
theorem RSl.wide {α : Type} {f : α → List Value} {lo hi : Nat} {W : World} {v : Value} {l : List α} (h : RSl f lo hi W v l) (hi' : hi ≤ W.heap.size) : RSl f lo W.heap.size W v l := h.mono (Nat.le_refl _) hi'
end
section
variable {A B C : List Value} {m : Nat}
end
section
variable {ops : Array Oper} {Q : Exit → Act → World → Prop}
theorem op_at {P : Program} {k : Nat} {a : Act} {b : Bool} {d : Option Tmp} {op : Op} (h : (ops[k]?).map (fun o => (Region.wanted o (yielded ops a.tmps), o.dst, o.op)) = some (b, d, op)) : ∃ o, ops[k]? = some o ∧ Region.wanted o (yielded ops a.tmps) = b ∧ o.dst = d ∧ o.op = op ∧ ∀ w, runAt P ops k a w = some (b, d, (execOp a.eval o).run P w) := by
  cases ho : ops[k]? with
  | none => rw [ho] at h; cases h
  | some o =>
    rw [ho, Option.map_some, Option.some.injEq, Prod.mk.injEq, Prod.mk.injEq] at h
    obtain ⟨h1, h2, h3⟩ := h
    exact ⟨o, rfl, h1, h2, h3, fun w => by unfold runAt; rw [ho, Option.map_some, h1, h2]⟩
theorem neA {T : TypeId} (x y : Operand) (z : TypeId) (d : Option Tmp) (xs ys : Array Value) (b : Bool) {k : Nat} {a : Act} {w : World} (he : (Op.equalIn 10000 T (.agg xs) (.agg ys)).run Tryz.prog w = .ok b w) (h : wpFrom Tryz.prog ops Q (k + 1) (a.put d (.bool (!b))) w)
    (hm : Tryz.prog.eqGuardType Tryz.prog.depth T = false := by kernel_rfl) (hk : (ops[k]?).map (fun o => (Region.wanted o (yielded ops a.tmps), o.dst, o.op)) = some (true, d, .binOp .neq T x y z) := by kernel_rfl) (hx : a.eval x = .agg xs := by kernel_rfl) (hy : a.eval y = .agg ys := by kernel_rfl) : wpFrom Tryz.prog ops Q k a w := by
  obtain ⟨o, _, _, _, hop, hr⟩ := op_at (P := Tryz.prog) hk
  refine wpFrom_run ((hr w).trans ?_) h
  unfold execOp
  simp only [hop, hx, hy, Sem.run_bind, run_eqGuard_agg w .neq T x y _ _ hm, run_neq_struct, he, Result.andThen_ok]
  rfl
theorem eqA {T : TypeId} (x y : Operand) (z : TypeId) (d : Option Tmp) (xs ys : Array Value) (b : Bool) {k : Nat} {a : Act} {w : World} (he : (Op.equalIn 10000 T (.agg xs) (.agg ys)).run Tryz.prog w = .ok b w) (h : wpFrom Tryz.prog ops Q (k + 1) (a.put d (.bool b)) w)
    (hm : Tryz.prog.eqGuardType Tryz.prog.depth T = false := by kernel_rfl) (hk : (ops[k]?).map (fun o => (Region.wanted o (yielded ops a.tmps), o.dst, o.op)) = some (true, d, .binOp .eql T x y z) := by kernel_rfl) (hx : a.eval x = .agg xs := by kernel_rfl) (hy : a.eval y = .agg ys := by kernel_rfl) : wpFrom Tryz.prog ops Q k a w := by
  obtain ⟨o, _, _, _, hop, hr⟩ := op_at (P := Tryz.prog) hk
  refine wpFrom_run ((hr w).trans ?_) h
  unfold execOp
  simp only [hop, hx, hy, Sem.run_bind, run_eqGuard_agg w .eql T x y _ _ hm, run_eql_struct, he, Result.andThen_ok]
  rfl
end
section
variable {ops : Array Oper} {Q : Exit → Act → World → Prop} {md : Region.Mode} {S : World → Prop}
end
section
theorem wpFrom_not {P : Program} {ops : Array Oper} {Q : Exit → Act → World → Prop} {k : Nat} {a : Act} {w : World} {d : Option Tmp} (hr : (ops[k]?).map (fun o => (Region.wanted o (yielded ops a.tmps), o.dst)) = some (false, d)) (h : wpFrom P ops Q (k + 1) (a.put d undef) w) : wpFrom P ops Q k a w := by
  obtain ⟨o, ho⟩ := some_of hr
  rw [ho] at hr
  have h0 := Option.some.inj hr
  have h1 : Region.wanted o (yielded ops a.tmps) = false := congrArg Prod.fst h0
  have h2 : o.dst = d := congrArg Prod.snd h0
  refine wpFrom_step ho fun K hK => ?_
  rw [if_neg (by rw [h1]; decide), h2]
  exact hK _ _ h
end
end Go.Proofs.YtechcdkakgpnkaaGreat
namespace Go.Proofs.YtechcdkakgpnkaaGreat
open Go.RowKit Go.Shelf
structure Out (F : List Nat) (w W : World) : Prop where
  os : W.os = w.os
  tape : W.tape = w.tape
  output : W.output = w.output
  size : w.heap.size ≤ W.heap.size
  block : ∀ k, k < w.heap.size → k ∉ F → W.heap[k]? = w.heap[k]?
theorem Out.refl (F : List Nat) (w : World) : Out F w w := ⟨rfl, rfl, rfl, Nat.le_refl _, fun _ _ _ => rfl⟩
theorem Out.of_below {F : List Nat} {w W : World} (h : Below w.heap.size w W) : Out F w W := ⟨h.os, h.tape, h.output, h.size, fun k hk _ => h.block k hk⟩
theorem Out.below {w W : World} (h : Out [] w W) : Below w.heap.size w W := ⟨h.os, h.tape, h.output, h.size, fun k hk => h.block k hk (by simp)⟩
theorem Out.of_grown {F : List Nat} {row : Option Nat} {w W : World} (h : w.grownBy W row) (hr : ∀ k, row = some k → k ∈ F) : Out F w W :=
  ⟨h.os, h.tape, h.output, h.size, fun k hk hF => h.block k hk (fun e => hF (hr k e.symm))⟩
theorem Out.trans {F G : List Nat} {w W W' : World} (h : Out F w W) (h' : Out G W W') (hG : ∀ k ∈ G, k ∈ F ∨ w.heap.size ≤ k) : Out F w W' :=
  ⟨h'.os.trans h.os, h'.tape.trans h.tape, h'.output.trans h.output, Nat.le_trans h.size h'.size, fun k hk hF =>
    (h'.block k (Nat.lt_of_lt_of_le hk h.size) (fun e => (hG k e).elim hF (fun e => absurd hk (Nat.not_lt.2 e)))).trans (h.block k hk hF)⟩
theorem Out.drew {F : List Nat} {w W : World} (h : Out F w W) : Out F w W.drew := ⟨h.os, h.tape, h.output, h.size, h.block⟩
structure Res where
  foot : List Nat
  holds : World → Prop
  stab : ∀ {W W' : World}, (∀ k ∈ foot, W'.heap[k]? = W.heap[k]?) → holds W → holds W'
def Res.blk (B : Nat) (T : TypeId) (cs : List Value) : Res where
  foot := [B]
  holds := fun W => Blk W B T cs
  stab := fun h hB => (h B (List.mem_singleton.2 rfl)).trans hB
def Res.own {α : Type} (f : α → List Value) (e : TypeId) (n : Nat) (v : Value) (l : List α) : Res where
  foot := v.ownBlock.toList
  holds := fun W => W.ownsRow 0 e n v l.length (flatR f l)
  stab := fun {W W'} h hr => by
    refine ⟨hr.1, hr.2.elim .inl fun ⟨g, cap, cur, hv, hg, hb, hx⟩ => .inr ⟨g, cap, cur, hv, hg, ?_, hx⟩⟩
    subst hv
    exact (h g (by simp [Value.ownBlock])).trans hb
structure ROk (r : Res) (W : World) : Prop where
  h : r.holds W
  lt : ∀ k ∈ r.foot, k < W.heap.size
structure RTurn (r r' : Res) (W W' : World) : Prop where
  ok : ROk r' W'
  out : Out r.foot W W'
  foot : ∀ k ∈ r'.foot, k ∈ r.foot ∨ W.heap.size ≤ k
abbrev Apart (r s : Res) : Prop := ∀ k ∈ r.foot, k ∉ s.foot
structure Sep (w : World) (F : List Nat) (l : List Res) (W : World) : Prop where
  ok : ∀ r ∈ l, ROk r W
  new : ∀ r ∈ l, ∀ k ∈ r.foot, k ∈ F ∨ w.heap.size ≤ k
  apart : l.Pairwise Apart
  out : Out F w W
section
variable {w W W' : World} {F : List Nat} {l : List Res} {r r' : Res}
theorem Sep.start (w : World) : Sep w [] [] w := ⟨fun _ h => (List.not_mem_nil h).elim, fun _ h => (List.not_mem_nil h).elim, List.Pairwise.nil, Out.refl _ _⟩
theorem Sep.b (h : Sep w [] l W) : Below w.heap.size w W := h.out.below
theorem Sep.size (h : Sep w F l W) : w.heap.size ≤ W.heap.size := h.out.size
theorem Sep.oka (h : Sep w F l W) (i : Nat) (hi : l[i]? = some r) : ROk r W := h.ok _ (List.mem_of_getElem? hi)
theorem Sep.at (h : Sep w F l W) (i : Nat) {B : Nat} {T : TypeId} {cs : List Value} (hi : l[i]? = some (.blk B T cs)) : Blk W B T cs := (h.oka i hi).h
theorem Sep.drew (h : Sep w F l W) : Sep w F l W.drew := ⟨fun r hr => ⟨r.stab (W := W) (W' := W.drew) (fun _ _ => rfl) (h.ok r hr).h, (h.ok r hr).lt⟩, h.new, h.apart, h.out.drew⟩
theorem Sep.sub (h : Sep w F l W) {l' : List Res} (hs : l'.Sublist l) : Sep w F l' W := ⟨fun r hr => h.ok r (hs.mem hr), fun r hr => h.new r (hs.mem hr), h.apart.sublist hs, h.out⟩
theorem ROk.stay (h : ROk r W) {G : List Nat} (ho : Out G W W') (hd : ∀ k ∈ G, k ∉ r.foot) : ROk r W' :=
  ⟨r.stab (fun k hk => ho.block k (h.lt k hk) (fun e => hd k e hk)) h.h, fun k hk => Nat.lt_of_lt_of_le (h.lt k hk) ho.size⟩
theorem Sep.below (h : Sep w F l W) (hb : Below W.heap.size W W') : Sep w F l W' :=
  ⟨fun r hr => (h.ok r hr).stay (G := []) (Out.of_below hb) (fun _ e => (List.not_mem_nil e).elim), h.new, h.apart, h.out.trans (Out.of_below (F := []) hb) (fun _ e => (List.not_mem_nil e).elim)⟩
theorem Sep.add (h : Sep w F l W) (hb : Below W.heap.size W W') (hr : ROk r W') (hf : ∀ k ∈ r.foot, W.heap.size ≤ k) : Sep w F (r :: l) W' := by
  have h' := h.below hb
  refine ⟨fun s hs => ?_, fun s hs k hk => ?_, List.pairwise_cons.2 ⟨fun s hs k hk e => ?_, h'.apart⟩, h'.out⟩
  · rcases List.mem_cons.1 hs with rfl | hs
    · exact hr
    · exact h'.ok s hs
  · rcases List.mem_cons.1 hs with rfl | hs
    · exact .inr (Nat.le_trans h.size (hf k hk))
    · exact h.new s hs k hk
  · exact absurd ((h.ok s hs).lt k e) (Nat.not_lt.2 (hf k hk))
theorem Sep.alloc (h : Sep w F l W) (T : TypeId) (cs : List Value) : Sep w F (.blk W.heap.size T cs :: l) (W.alloc (.cells cs.toArray T)) :=
  h.add ((Below.refl _ W).alloc (Nat.le_refl _) _) ⟨Blk.new W T cs, fun k hk => by obtain rfl := List.mem_singleton.1 hk; exact (Blk.new W T cs).lt⟩ (fun _ hk => by obtain rfl := List.mem_singleton.1 hk; exact Nat.le_refl _)
theorem Sep.other (h : Sep w F l W) (o : Obj) : Sep w F l (W.alloc o) := h.below ((Below.refl _ W).alloc (Nat.le_refl _) _)
theorem Sep.row {α : Type} {f : α → List Value} {e : TypeId} {n : Nat} {v : Value} {x : List α} (h : Sep w F l W) (hO : W'.ownsRow W.heap.size e n v x.length (flatR f x)) (hb : Below W.heap.size W W') : Sep w F (.own f e n v x :: l) W' := by
  have hl := World.ownsRow.lt hO
  have hm : ∀ k ∈ v.ownBlock.toList, v.ownBlock = some k := fun k hk => by simpa using hk
  refine h.add hb ⟨⟨hO.1, hO.2.elim .inl fun ⟨g, cap, cur, hv, _, hx⟩ => .inr ⟨g, cap, cur, hv, Nat.zero_le _, hx⟩⟩, fun k hk => (hl k (hm k hk)).2⟩ (fun k hk => (hl k (hm k hk)).1)
theorem Sep.nil {α : Type} (f : α → List Value) (e : TypeId) (n : Nat) (h : Sep w F l W) : Sep w F (.own f e n (.slice none 0 0) [] :: l) W :=
  h.add (Below.refl _ W) ⟨World.ownsRow_nil _ _ _ _, fun _ hk => (List.not_mem_nil hk).elim⟩ (fun _ hk => (List.not_mem_nil hk).elim)
theorem out_turn (h : Sep w F l W) (hi : r ∈ l) (ht : RTurn r r' W W') : Out F w W' := h.out.trans ht.out (h.new r hi)
theorem Sep.turn (h : Sep w F l W) (i : Nat) (hi : l[i]? = some r) (ht : RTurn r r' W W') {l' : List Res} (hl : l.set i r' = l') : Sep w F l' W' := by
  subst hl
  have hlt : i < l.length := (List.getElem?_eq_some_iff.1 hi).1
  have hmem := List.mem_of_getElem? hi
  have ap : ∀ j s, l[j]? = some s → j ≠ i → ∀ k ∈ r.foot, k ∉ s.foot := fun j s hs hji k hk hks => by
    obtain ⟨hj, hs'⟩ := List.getElem?_eq_some_iff.1 hs
    obtain ⟨_, hi'⟩ := List.getElem?_eq_some_iff.1 hi
    rcases Nat.lt_or_gt_of_ne hji with hl | hl
    · have := List.pairwise_iff_getElem.1 h.apart j i hj hlt hl
      rw [hs', hi'] at this
      exact this k hks hk
    · have := List.pairwise_iff_getElem.1 h.apart i j hlt hj hl
      rw [hs', hi'] at this
      exact this k hk hks
  have ok' : ∀ j s, l[j]? = some s → j ≠ i → ROk s W' := fun j s hs hji => (h.oka j hs).stay ht.out (ap j s hs hji)
  have far : ∀ j s, l[j]? = some s → j ≠ i → ∀ k ∈ r'.foot, k ∉ s.foot := fun j s hs hji k hk hks => by
    rcases ht.foot k hk with e | e
    · exact ap j s hs hji k e hks
    · exact absurd ((h.oka j hs).lt k hks) (Nat.not_lt.2 e)
  have get : ∀ j s, (l.set i r')[j]? = some s → (j = i ∧ s = r') ∨ (j ≠ i ∧ l[j]? = some s) := fun j s hs => by
    rw [List.getElem?_set] at hs
    by_cases e : i = j
    · subst e
      rw [if_pos rfl, if_pos hlt] at hs
      exact .inl ⟨rfl, (Option.some.inj hs).symm⟩
    · rw [if_neg e] at hs
      exact .inr ⟨fun x => e x.symm, hs⟩
  refine ⟨fun s hs => ?_, fun s hs k hk => ?_, List.pairwise_iff_getElem.2 fun a b ha hb hab k hk hkb => ?_, out_turn h hmem ht⟩
  · obtain ⟨j, hj⟩ := List.mem_iff_getElem?.1 hs
    rcases get j s hj with ⟨_, rfl⟩ | ⟨hne, hj⟩
    · exact ht.ok
    · exact ok' j s hj hne
  · obtain ⟨j, hj⟩ := List.mem_iff_getElem?.1 hs
    rcases get j s hj with ⟨_, rfl⟩ | ⟨hne, hj⟩
    · rcases ht.foot k hk with e | e
      · exact h.new r hmem k e
      · exact .inr (Nat.le_trans h.size e)
    · exact h.new s (List.mem_of_getElem? hj) k hk
  · have ea := get a _ (List.getElem?_eq_getElem ha)
    have eb := get b _ (List.getElem?_eq_getElem hb)
    rcases ea with ⟨ha1, ha2⟩ | ⟨ha1, ha2⟩ <;> rcases eb with ⟨hb1, hb2⟩ | ⟨hb1, hb2⟩
    · omega
    · rw [ha2] at hk
      exact far b _ hb2 hb1 k hk hkb
    · rw [hb2] at hkb
      exact far a _ ha2 ha1 k hkb hk
    · obtain ⟨hal, ha'⟩ := List.getElem?_eq_some_iff.1 ha2
      obtain ⟨hbl, hb'⟩ := List.getElem?_eq_some_iff.1 hb2
      have := List.pairwise_iff_getElem.1 h.apart a b hal hbl hab
      rw [ha', hb'] at this
      exact this k hk hkb
theorem turn_blk {B : Nat} {T : TypeId} {cs cs' : List Value} (h : W.grownBy W' (some B)) (hB : Blk W' B T cs') : RTurn (.blk B T cs) (.blk B T cs') W W' :=
  ⟨⟨hB, fun k hk => by obtain rfl := List.mem_singleton.1 hk; exact hB.lt⟩, Out.of_grown h (fun _ e => by obtain rfl := Option.some.inj e; exact List.mem_singleton.2 rfl), fun _ hk => .inl hk⟩
theorem Sep.set (h : Sep w F l W) (i : Nat) {B : Nat} {T : TypeId} {cs cs' : List Value} (hi : l[i]? = some (.blk B T cs)) {l' : List Res} (hl : l.set i (.blk B T cs') = l') : Sep w F l' (W.setRow B cs'.toArray) :=
  h.turn i hi (turn_blk (grownBy_row W B _) (Blk.row (show Blk W B T cs from (h.oka i hi).h) cs')) hl
theorem turn_own {α : Type} {f : α → List Value} {e : TypeId} {n : Nat} {v v' : Value} {x x' : List α} (hO : W'.ownsRow 0 e n v' x'.length (flatR f x')) (hg : W.grownBy W' v.ownBlock) (hv : ∀ k, v'.ownBlock = some k → v.ownBlock = some k ∨ W.heap.size ≤ k) : RTurn (.own f e n v x) (.own f e n v' x') W W' :=
  ⟨⟨hO, fun k hk => (World.ownsRow.lt hO k (by simpa [Res.own] using hk)).2⟩, Out.of_grown hg (fun k e => by show k ∈ v.ownBlock.toList; rw [e]; exact List.mem_singleton.2 rfl), fun k hk => (hv k (by simpa [Res.own] using hk)).imp (fun e => by show k ∈ v.ownBlock.toList; rw [e]; exact List.mem_singleton.2 rfl) id⟩
theorem ROk.rsl {α : Type} {f : α → List Value} {e : TypeId} {n : Nat} {v : Value} {x : List α} (h : ROk (.own f e n v x) W) (hn : ∀ y, (f y).length = n) : RSl f 0 W.heap.size W v x := RSl.of_own hn h.h
end
def Res.join (l : List Res) : Res where
  foot := l.flatMap (·.foot)
  holds := fun W => (∀ r ∈ l, r.holds W) ∧ l.Pairwise Apart
  stab := fun h hl => ⟨fun r hr => r.stab (fun k hk => h k (List.mem_flatMap.2 ⟨r, hr, hk⟩)) (hl.1 r hr), hl.2⟩
section
variable {w W W' : World} {F : List Nat} {l ps qs : List Res} {r r' : Res}
theorem join_mem {k : Nat} (h : r ∈ ps) (hk : k ∈ r.foot) : k ∈ (Res.join ps).foot := List.mem_flatMap.2 ⟨r, h, hk⟩
theorem Sep.begin (h : ROk (.join ps) w) : Sep w (Res.join ps).foot ps w :=
  ⟨fun r hr => ⟨h.h.1 r hr, fun k hk => h.lt k (join_mem hr hk)⟩, fun _ hr _ hk => .inl (join_mem hr hk), h.h.2, Out.refl _ _⟩
theorem Sep.fin (h : Sep w (Res.join ps).foot l W) (hs : qs.Sublist l) : RTurn (.join ps) (.join qs) w W :=
  ⟨⟨⟨fun r hr => (h.ok r (hs.mem hr)).h, h.apart.sublist hs⟩, fun k hk => by obtain ⟨r, hr, hk⟩ := List.mem_flatMap.1 hk; exact (h.ok r (hs.mem hr)).lt k hk⟩, h.out,
    fun k hk => by obtain ⟨r, hr, hk⟩ := List.mem_flatMap.1 hk; exact h.new r (hs.mem hr) k hk⟩
theorem Sep.close (h : Sep w F (ps ++ l) W) : Sep w F (.join ps :: l) W := by
  refine ⟨fun r hr => ?_, fun r hr k hk => ?_, List.pairwise_cons.2 ⟨fun s hs k hk e => ?_, (List.pairwise_append.1 h.apart).2.1⟩, h.out⟩
  · rcases List.mem_cons.1 hr with rfl | hr
    · exact ⟨⟨fun r hr => (h.ok r (List.mem_append_left _ hr)).h, (List.pairwise_append.1 h.apart).1⟩, fun k hk => by obtain ⟨r, hr, hk⟩ := List.mem_flatMap.1 hk; exact (h.ok r (List.mem_append_left _ hr)).lt k hk⟩
    · exact h.ok r (List.mem_append_right _ hr)
  · rcases List.mem_cons.1 hr with rfl | hr
    · obtain ⟨r, hr, hk⟩ := List.mem_flatMap.1 hk
      exact h.new r (List.mem_append_left _ hr) k hk
    · exact h.new r (List.mem_append_right _ hr) k hk
  · obtain ⟨r, hr, hk⟩ := List.mem_flatMap.1 hk
    exact (List.pairwise_append.1 h.apart).2.2 r hr s hs k hk e
theorem RTurn.trans {r1 r2 r3 : Res} {W1 W2 W3 : World} (h : RTurn r1 r2 W1 W2) (h' : RTurn r2 r3 W2 W3) : RTurn r1 r3 W1 W3 :=
  ⟨h'.ok, h.out.trans h'.out h.foot, fun k hk => (h'.foot k hk).elim (h.foot k) (fun e => .inr (Nat.le_trans h.out.size e))⟩
end
end Go.Proofs.YtechcdkakgpnkaaGreat
namespace Go.Proofs.YtechcdkakgpnkaaGreat
open Go.RowKit Go.Shelf
section
variable {α : Type} {f : α → List Value} {e S : TypeId} {n bytes : Nat} {z : Value} {v : Value} {l : List α} {W : World}
theorem own_apps (hi0 : (Tryz.prog.info? e).map (fun i => (i.zero, i.size, i.bytes)) = some (some z, n, bytes)) (hzs : z.cells.size = n) (h0 : 0 < n) (hu : Tryz.prog.underlying S = some (.slice e)) (hn : ∀ x, (f x).length = n) (h1 : ∀ x, ∀ u ∈ f x, u.oneCell' = true)
    (h : ROk (.own f e n v l) W) (ys : List α) (a : Addr) (c : Nat) (hnews : ∀ j u, (flatR f ys)[j]? = some u → W.cell? (a.add j) = some u) (hb0 : 0 < bytes) (hr : (l.length + ys.length) * bytes ≤ 140737488355328) (ty : TypeId) :
    ∃ v' W', (Builtin.append_ #[S, S] ty #[v, .slice (some a) ys.length c]).run Tryz.prog W = .ok v' W' ∧ RTurn (.own f e n v l) (.own f e n v' (l ++ ys)) W W' := by
  obtain ⟨i0, hi, hz0, hz1, hz2⟩ := info_parts hi0
  have hlen : l.length + ys.length ≤ 140737488355328 := Nat.le_trans (Nat.le_mul_of_pos_right _ hb0) hr
  obtain ⟨v', W', hrun, h2, h3, _, h4⟩ := run_append_own_at (P := Tryz.prog) W 0 S ty e i0 z n bytes hu hi hz0 hz1 hz2 hzs h0 v l.length (flatR f l) h.h a ys.length c (flatR f ys) (flat_len hn ys) hnews
    (fun u hu' => by obtain ⟨x, _, hx⟩ := List.mem_flatMap.1 hu'; exact h1 x u hx) (by unfold maxLen; omega) hr (Nat.zero_le _)
  refine ⟨v', W', hrun, turn_own (by rw [List.length_append, flat_app]; exact h2) h3 (fun k hk => ?_)⟩
  rcases h4 with h4 | h4
  · exact .inl (h4 ▸ hk)
  · rw [h4] at hk
    exact .inr (Nat.le_of_eq (Option.some.inj hk))
theorem own_app1 (hi0 : (Tryz.prog.info? e).map (fun i => (i.zero, i.size, i.bytes)) = some (some z, n, bytes)) (hzs : z.cells.size = n) (h0 : 0 < n) (hu : Tryz.prog.underlying S = some (.slice e)) (hn : ∀ x, (f x).length = n) (h1 : ∀ x, ∀ u ∈ f x, u.oneCell' = true)
    (h : ROk (.own f e n v l) W) (x : α) {N : Nat} {T : TypeId} (hN : Blk W N T (f x)) (hb0 : 0 < bytes) (hr : (l.length + 1) * bytes ≤ 140737488355328) (ty : TypeId) :
    ∃ v' W', (Builtin.append_ #[S, S] ty #[v, .slice (some ⟨N, 0, none⟩) 1 1]).run Tryz.prog W = .ok v' W' ∧ RTurn (.own f e n v l) (.own f e n v' (l ++ [x])) W W' :=
  own_apps hi0 hzs h0 hu hn h1 h [x] ⟨N, 0, none⟩ 1 (fun j u hj => by rw [flat_one] at hj; rw [addr_add, Nat.zero_add]; exact (hN.cell j).trans hj) hb0 hr ty
end
end Go.Proofs.YtechcdkakgpnkaaGreat
namespace Go.Proofs.YtechcdkakgpnkaaGreat
open Go.RowKit Go.Shelf
theorem ROk.elem {α : Type} {f : α → List Value} {n : Nat} {W : World} {v : Value} {l : List α} {e : TypeId} (h : ROk (.own f e n v l) W) (hn : ∀ x, (f x).length = n) {k : Nat} {x : α} (hx : l[k]? = some x) {ty e' : TypeId} (hu : Tryz.prog.underlying ty = some (.slice e')) (hs : ∀ W, (sizeOf e').run Tryz.prog W = .ok n W) :
    ∃ b o, (∀ W', (Instr.indexAt ty v (.int .i64 (k : Int))).run Tryz.prog W' = .ok (.pointer (some ⟨b, o, none⟩)) W') ∧ ∀ W', ROk (.own f e n v l) W' → ∀ j u, (f x)[j]? = some u → W'.cell? ⟨b, o + j, none⟩ = some u := by
  obtain ⟨b, o, _, _, hi, _⟩ := RSl.elem (h.rsl hn) hn hx hu hs
  refine ⟨b, o, hi, fun W' h' => ?_⟩
  obtain ⟨b', o', _, _, hi', hc'⟩ := RSl.elem (h'.rsl hn) hn hx hu hs
  have hq := (hi' W).symm.trans (hi W)
  obtain ⟨rfl, rfl⟩ : b' = b ∧ o' = o := by simpa using hq
  exact hc' W' (h'.rsl hn)
theorem ROk.slice {α : Type} {f : α → List Value} {n : Nat} {W : World} {v : Value} {l : List α} {e : TypeId} (h : ROk (.own f e n v l) W) (hn : ∀ x, (f x).length = n) : ∃ a c, v = .slice a l.length c := (h.rsl hn).slice
end Go.Proofs.YtechcdkakgpnkaaGreat
namespace Go.Proofs.YtechcdkakgpnkaaGreat
open Go.RowKit Go.Shelf
theorem Sep.gain {w W W' : World} {F : List Nat} {l : List Res} {r : Res} (h : Sep w F l W) (h' : Sep W [] [r] W') : Sep w F (r :: l) W' :=
  h.add h'.b (h'.ok r (List.mem_singleton.2 rfl)) (fun k hk => (h'.new r (List.mem_singleton.2 rfl) k hk).elim (fun e => (List.not_mem_nil e).elim) id)
theorem remF {ops : Array Oper} {Q : Exit → Act → World → Prop} (x y : Operand) (T z : TypeId) (d : Option Tmp) (a b c : Int) {k : Nat} {A : Act} {w : World} (hb : b ≠ 0) (hc : Int.tmod a b = c) (h : wpFrom Tryz.prog ops Q (k + 1) (A.put d (.int .i64 c)) w)
    (hk : (ops[k]?).map (fun o => (Region.wanted o (yielded ops A.tmps), o.dst, o.op)) = some (true, d, .binOp .rem T x y z) := by kernel_rfl) (hx : A.eval x = .int .i64 a := by kernel_rfl) (hy : A.eval y = .int .i64 b := by kernel_rfl) : wpFrom Tryz.prog ops Q k A w := by
  subst hc
  obtain ⟨o, _, _, _, hop, hr⟩ := op_at (P := Tryz.prog) hk
  refine wpFrom_run ((hr w).trans ?_) h
  unfold execOp
  simp only [hop, hx, hy, Sem.run_bind, eqGuard_rem, binOp_rem, Op.intDiv, if_neg hb, Sem.run_pure, Result.andThen_ok]
def min2I (x y : Int) : Int := if y < x then y else x
theorem take_oneG {α : Type} {l : List α} {k : Nat} {x : α} (hx : l[k]? = some x) : l.take (k + 1) = l.take k ++ [x] := by
  obtain ⟨hk, rfl⟩ := List.getElem?_eq_some_iff.1 hx
  exact List.take_succ_eq_append_getElem hk
theorem take_filG {α : Type} {l : List α} {k : Nat} {x : α} {p : α → Bool} (hx : l[k]? = some x) : (l.take (k + 1)).filter p = (l.take k).filter p ++ (if p x = true then [x] else []) := by
  rw [take_oneG hx, List.filter_append, List.filter_cons, List.filter_nil]
theorem bne_self_b (b : Bool) : (b != b) = false := by cases b <;> rfl
section
variable {w W : World} {F : List Nat} {l : List Res}
theorem apart_symm {r s : Res} (h : Apart r s) : Apart s r := fun k hk e => h k e hk
theorem Sep.pick (h : Sep w F l W) (is : List Nat) {l' : List Res} (hn : is.Nodup) (hl : is.map (fun i => l[i]?) = l'.map some) : Sep w F l' W := by
  have hlen : is.length = l'.length := by have := congrArg List.length hl; rwa [List.length_map, List.length_map] at this
  have get : ∀ j (hj : j < l'.length), l[is[j]'(by omega)]? = some l'[j] := fun j hj => by
    have := congrArg (fun x => x[j]?) hl
    simp only [List.getElem?_map, List.getElem?_eq_getElem hj, List.getElem?_eq_getElem (show j < is.length by omega), Option.map_some, Option.some.injEq] at this
    exact this
  have mem : ∀ r ∈ l', r ∈ l := fun r hr => by
    obtain ⟨j, hj, rfl⟩ := List.mem_iff_getElem.1 hr
    exact List.mem_of_getElem? (get j hj)
  refine ⟨fun r hr => h.ok r (mem r hr), fun r hr => h.new r (mem r hr), List.pairwise_iff_getElem.2 fun i j hi hj hij => ?_, h.out⟩
  obtain ⟨hi1, hi2⟩ := List.getElem?_eq_some_iff.1 (get i hi)
  obtain ⟨hj1, hj2⟩ := List.getElem?_eq_some_iff.1 (get j hj)
  have hne : is[i]'(by omega) ≠ is[j]'(by omega) := fun e => by
    have := (List.nodup_iff_pairwise_ne.1 hn)
    exact List.pairwise_iff_getElem.1 this i j (by omega) (by omega) hij e
  rw [← hi2, ← hj2]
  rcases Nat.lt_or_gt_of_ne hne with k | k
  · exact List.pairwise_iff_getElem.1 h.apart _ _ hi1 hj1 k
  · exact apart_symm (List.pairwise_iff_getElem.1 h.apart _ _ hj1 hi1 k)
end
-- HERE
end Go.Proofs.YtechcdkakgpnkaaGreat
namespace Go.Proofs.YtechcdkakgpnkaaGreat
open Go.RowKit Go.Shelf
abbrev wnc (n : Nat) : List Value := ws (nw n)
-- HERE
end Go.Proofs.YtechcdkakgpnkaaGreat
namespace Go.Proofs.YtechcdkakgpnkaaGreat
open Go.RowKit Go.Shelf
abbrev rlc (b : Bool) (v : Value) : List Value := [.bool b, v]
def RLR (B : Nat) (l : List Ms) (v : Value) : List Res := [.blk B 74 (rlc true v), .own msc 34 43 v l]
def RlR (B : Nat) (r : Res) (l : List Ms) (a : Value) (W : World) (e : Ending) (W' : World) : Prop := e = .returned a ∧ ∃ v, RTurn r (.join (RLR B l v)) W W'
def NewRl (w : World) (e : Ending) (W' : World) : Prop := ∃ B v, e = .returned (.pointer (some ⟨B, 0, none⟩)) ∧ Sep w [] (RLR B [] v) W'
theorem msc_len (m : Ms) : (msc m).length = 43 := rfl
theorem msc_one (m : Ms) : ∀ u ∈ msc m, u.oneCell' = true := by simp [msc, Value.oneCell']
theorem infoMs : (Tryz.prog.info? 34).map (fun i => (i.zero, i.size, i.bytes)) = some (some (.agg (msc noM).toArray), 43, 392) := by kernel_rfl
def feZ (m : Ms) : Bool := wEq (m.f0 : Nat) (m.f1 : Nat) (m.f2 : Nat) (m.f3 : Nat) (nw 0 0 : Nat) (nw 0 1 : Nat) (nw 0 2 : Nat) (nw 0 3 : Nat)
abbrev fec (m : Ms) : List Value := [.int .u64 (m.f0 : Nat), .int .u64 (m.f1 : Nat), .int .u64 (m.f2 : Nat), .int .u64 (m.f3 : Nat)]
theorem run_feZ (m : Ms) (w : World) : (Op.equalIn 10000 24 (.agg (fec m).toArray) (wn 0)).run Tryz.prog w = .ok (feZ m) w := run_equalIn_wide ..
def isM (m x : Ms) : Bool := eqM x m
def hearM (l : List Ms) (m : Ms) (c : Int) : List Ms × Bool :=
  if 16 ≤ l.length then (l, false) else if c ≠ 0 then (l, false) else if m.kd ≠ 3 then (l, false) else if feZ m = true then (l, false)
  else if 0 < (l.filter (isM m)).length then (l, false) else (l ++ [m], true)
section
variable {l : List Ms} {m : Ms} {c : Int}
theorem hear_full (h : decide (16 ≤ (l.length : Int)) = true) : hearM l m c = (l, false) := if_pos (by have h := of_decide_eq_true h; omega)
theorem hear_err (h : decide (16 ≤ (l.length : Int)) = false) (h1 : (c != 0) = true) : hearM l m c = (l, false) := by
  unfold hearM; rw [if_neg (by have h := of_decide_eq_false h; omega), if_pos (bne_iff_ne.1 h1)]
theorem hear_kd (h : decide (16 ≤ (l.length : Int)) = false) (h1 : (c != 0) = false) (h2 : (m.kd != 3) = true) : hearM l m c = (l, false) := by
  unfold hearM; rw [if_neg (by have h := of_decide_eq_false h; omega), if_neg (by simpa using h1), if_pos (bne_iff_ne.1 h2)]
theorem hear_fee (h : decide (16 ≤ (l.length : Int)) = false) (h1 : (c != 0) = false) (h2 : (m.kd != 3) = false) (h3 : feZ m = true) : hearM l m c = (l, false) := by
  unfold hearM; rw [if_neg (by have h := of_decide_eq_false h; omega), if_neg (by simpa using h1), if_neg (by simpa using h2), if_pos h3]
theorem hear_has (h : decide (16 ≤ (l.length : Int)) = false) (h1 : (c != 0) = false) (h2 : (m.kd != 3) = false) (h3 : feZ m = false) (h4 : decide (0 < ((l.filter (isM m)).length : Int)) = true) : hearM l m c = (l, false) := by
  unfold hearM; rw [if_neg (by have h := of_decide_eq_false h; omega), if_neg (by simpa using h1), if_neg (by simpa using h2), if_neg (by rw [h3]; decide), if_pos (by have h := of_decide_eq_true h4; omega)]
theorem hear_yes (h : decide (16 ≤ (l.length : Int)) = false) (h1 : (c != 0) = false) (h2 : (m.kd != 3) = false) (h3 : feZ m = false) (h4 : decide (0 < ((l.filter (isM m)).length : Int)) = false) : hearM l m c = (l ++ [m], true) := by
  unfold hearM; rw [if_neg (by have h := of_decide_eq_false h; omega), if_neg (by simpa using h1), if_neg (by simpa using h2), if_neg (by rw [h3]; decide), if_neg (by have h := of_decide_eq_false h4; omega)]
end
end Go.Proofs.YtechcdkakgpnkaaGreat
namespace Go.Proofs.YtechcdkakgpnkaaGreat
open Go.RowKit Go.Shelf
theorem wide8_length (a0 a1 a2 a3 : Nat) : (wide8 a0 a1 a2 a3).length = 32 := by simp [wide8, octs_length]
theorem uwd_wide8 {a0 a1 a2 a3 : Nat} (ha : Ok4 a0 a1 a2 a3) : uwd (wide8 a0 a1 a2 a3) 32 0 = a0 ∧ uwd (wide8 a0 a1 a2 a3) 32 1 = a1 ∧ uwd (wide8 a0 a1 a2 a3) 32 2 = a2 ∧ uwd (wide8 a0 a1 a2 a3) 32 3 = a3 := by
  obtain ⟨h0, h1, h2, h3⟩ := ha
  have hb : ∀ a, a < M → be (octs a 8) = a := fun a h => by
    rw [be_octs]
    exact Nat.mod_eq_of_lt (by unfold M at h; omega)
  have l8 : ∀ a, (octs a 8).length = 8 := fun a => octs_length a 8
  unfold uwd
  rw [List.take_of_length_le (l := wide8 a0 a1 a2 a3) (by rw [wide8_length]; omega)]
  unfold wide8
  refine ⟨?_, ?_, ?_, ?_⟩
  · rw [show 8 * (3 - 0) = 8 + (8 + 8) from rfl, ← List.drop_drop, ← List.drop_drop, List.drop_left' (l8 _), List.drop_left' (l8 _), List.drop_left' (l8 _), List.take_of_length_le (by rw [l8]; omega), hb _ h0]
  · rw [show 8 * (3 - 1) = 8 + 8 from rfl, ← List.drop_drop, List.drop_left' (l8 _), List.drop_left' (l8 _), List.take_left' (l8 _), hb _ h1]
  · rw [show 8 * (3 - 2) = 8 from rfl, List.drop_left' (l8 _), List.take_left' (l8 _), hb _ h2]
  · rw [show 8 * (3 - 3) = 0 from rfl, List.drop_zero, List.take_left' (l8 _), hb _ h3]
end Go.Proofs.YtechcdkakgpnkaaGreat
namespace Go.Proofs.YtechcdkakgpnkaaGreat
open Go.RowKit Go.Shelf
theorem be_six {n : Int} (h0 : 0 ≤ n) (h1 : n ≤ 1099511627776) : (be (octs (two n) 6) : Int) = n := by
  rw [be_octs]
  unfold two
  omega
theorem be_two {n : Nat} (h : n ≤ 1024) : be (octs n 2) = n := by rw [be_octs]; omega
theorem mostS_ok {x R : List UInt8} {k : Nat} (hk : x.length = k) (h7 : k ≤ 7) {m : Int} (hm : (be x : Int) ≤ m) : mostS (x ++ R, 0) k m = (be x, (R, 0)) := by
  have e : takeS (x ++ R, 0) k = (x, (R, 0)) := by
    rw [takeS_ok rfl (by simp only [List.length_append]; omega), List.take_left' hk, List.drop_left' hk]
  unfold mostS
  rw [e]
  dsimp only
  rw [List.take_of_length_le (by omega), if_neg (by intro h; have := h.2; omega)]
theorem rd_num {n : Int} (h0 : 0 ≤ n) (h1 : n ≤ 1099511627776) {m : Int} (hm : n ≤ m) (R : List UInt8) : mostS (octs (two n) 6 ++ R, 0) 6 m = (be (octs (two n) 6), (R, 0)) ∧ (be (octs (two n) 6) : Int) = n := by
  have hb := be_six h0 h1
  exact ⟨mostS_ok (octs_length _ _) (by omega) (by omega), hb⟩
theorem rd_txt {t : ByteArray} (h1 : t.size ≤ 1024) {m : Int} (hm : (t.size : Int) ≤ m) (R : List UInt8) : gtxtS (octs t.size 2 ++ (t.data.toList ++ R), 0) m = (t.data.toList, (R, 0)) := by
  have hb := be_two h1
  have hl : t.data.toList.length = t.size := by rw [Array.length_toList]; rfl
  unfold gtxtS
  rw [mostS_ok (octs_length _ _) (by omega) (by omega), hb]
  rw [takeS_ok rfl (by simp only [List.length_append]; omega), List.take_left' hl, List.drop_left' hl]
theorem rd_wide {a0 a1 a2 a3 : Nat} (h4 : Ok4 a0 a1 a2 a3) (R : List UInt8) : takeS (wide8 a0 a1 a2 a3 ++ R, 0) 32 = (wide8 a0 a1 a2 a3, (R, 0)) ∧ wdS (wide8 a0 a1 a2 a3) 0 = a0 ∧ wdS (wide8 a0 a1 a2 a3) 1 = a1 ∧ wdS (wide8 a0 a1 a2 a3) 2 = a2 ∧ wdS (wide8 a0 a1 a2 a3) 3 = a3 := by
  have hl := wide8_length a0 a1 a2 a3
  obtain ⟨q0, q1, q2, q3⟩ := uwd_wide8 h4
  refine ⟨?_, ?_⟩
  · rw [takeS_ok rfl (by simp only [List.length_append]; omega), List.take_left' hl, List.drop_left' hl]
  · unfold wdS
    simp only [hl, if_true]
    exact ⟨q0, q1, q2, q3⟩
end Go.Proofs.YtechcdkakgpnkaaGreat
namespace Go.Proofs.YtechcdkakgpnkaaGreat
open Go.RowKit Go.Shelf
theorem add_ok {l x : List UInt8} (h : l.length + x.length ≤ 8192) : addS (l, 0) x = (l ++ x, 0) := by
  unfold addS; rw [if_pos rfl, if_pos h]
theorem num_ok {l : List UInt8} {n : Int} (h0 : 0 ≤ n) (h1 : n ≤ 1099511627776) (h : l.length ≤ 8000) : numS (l, 0) n = (l ++ octs (two n) 6, 0) := by
  unfold numS; rw [if_pos ⟨h0, h1⟩, add_ok (by rw [octs_length]; omega)]
theorem wide_ok {l : List UInt8} {a0 a1 a2 a3 : Nat} (h : l.length ≤ 8000) : wideS (l, 0) a0 a1 a2 a3 = (l ++ wide8 a0 a1 a2 a3, 0) := by
  unfold wideS; rw [add_ok (by rw [wide8_length]; omega)]
def encT (t : ByteArray) : List UInt8 := octs t.size 2 ++ t.data.toList
theorem encT_length (t : ByteArray) : (encT t).length = t.size + 2 := by
  have hl : t.data.toList.length = t.size := by rw [Array.length_toList]; rfl
  rw [encT, List.length_append, octs_length, hl]; omega
def encN (n : Int) : List UInt8 := octs (two n) 6
theorem encN_length (n : Int) : (encN n).length = 6 := octs_length _ _
theorem rdT {t : ByteArray} {m : Int} (h1 : t.size ≤ 1024) (hm : (t.size : Int) ≤ m) (R : List UInt8) : gtxtS (encT t ++ R, 0) m = (t.data.toList, (R, 0)) := by
  rw [encT, List.append_assoc]; exact rd_txt h1 hm R
theorem rdN {n : Int} (h0 : 0 ≤ n) (h1 : n ≤ 1099511627776) (R : List UInt8) : ∃ k : Nat, mostS (encN n ++ R, 0) 6 1099511627776 = (k, (R, 0)) ∧ (k : Int) = n := by
  obtain ⟨h, e⟩ := rd_num h0 h1 h1 R
  exact ⟨_, h, e⟩
theorem str_of_list (t : ByteArray) : str t.data.toList = t := by cases t; rfl
end Go.Proofs.YtechcdkakgpnkaaGreat
namespace Go.Proofs.YtechcdkakgpnkaaGreat
open Go.RowKit Go.Shelf
def encA (a : Ak) : List UInt8 := encN a.us ++ (encN a.se ++ (encN a.re ++ (encN a.to ++ (wide8 a.a0 a.a1 a.a2 a.a3 ++ encT a.id))))
theorem encA_length {a : Ak} (h : maybeA a) : (encA a).length ≤ 100 := by
  obtain ⟨_, _, _, _, _, _, h5'⟩ := h
  simp only [encA, List.length_append, encT_length, encN_length, wide8_length]; omega
theorem getA_ok {a : Ak} (h : maybeA a) (h4 : Ok4 a.a0 a.a1 a.a2 a.a3) (R : List UInt8) : getA (encA a ++ R, 0) = (a, (R, 0)) := by
  have h' := h
  obtain ⟨⟨h0, h0'⟩, ⟨h1, h1'⟩, ⟨h2, h2'⟩, ⟨h3, h3'⟩, _, h5, h5'⟩ := h
  have hE : encA a ++ R = encN a.us ++ (encN a.se ++ (encN a.re ++ (encN a.to ++ (wide8 a.a0 a.a1 a.a2 a.a3 ++ (encT a.id ++ R))))) := by
    unfold encA; simp only [List.append_assoc]
  rw [hE]
  obtain ⟨k0, e0, q0⟩ := rdN h0 (by omega) (encN a.se ++ (encN a.re ++ (encN a.to ++ (wide8 a.a0 a.a1 a.a2 a.a3 ++ (encT a.id ++ R)))))
  obtain ⟨k1, e1, q1⟩ := rdN h1 (by omega) (encN a.re ++ (encN a.to ++ (wide8 a.a0 a.a1 a.a2 a.a3 ++ (encT a.id ++ R))))
  obtain ⟨k2, e2, q2⟩ := rdN h2 (by omega) (encN a.to ++ (wide8 a.a0 a.a1 a.a2 a.a3 ++ (encT a.id ++ R)))
  obtain ⟨k3, e3, q3⟩ := rdN h3 (by omega) (wide8 a.a0 a.a1 a.a2 a.a3 ++ (encT a.id ++ R))
  obtain ⟨e4, w0, w1, w2, w3⟩ := rd_wide h4 (encT a.id ++ R)
  have e5 : gtxtS (encT a.id ++ R, 0) 16 = _ := rdT (by omega) (by omega) _
  generalize hS : (encN a.us ++ (encN a.se ++ (encN a.re ++ (encN a.to ++ (wide8 a.a0 a.a1 a.a2 a.a3 ++ (encT a.id ++ R))))), (0 : Int)) = S at *
  have f0 := (rfl : ad0 S = mostS S 6 big).trans e0
  have f1 := (rfl : ad1 S = mostS (ad0 S).2 6 big).trans ((congrArg (fun x : Nat × St => mostS x.2 6 big) f0).trans e1)
  have f2 := (rfl : ad2 S = mostS (ad1 S).2 6 big).trans ((congrArg (fun x : Nat × St => mostS x.2 6 big) f1).trans e2)
  have f3 := (rfl : ad3 S = mostS (ad2 S).2 6 big).trans ((congrArg (fun x : Nat × St => mostS x.2 6 big) f2).trans e3)
  have f4 := (rfl : ad4 S = takeS (ad3 S).2 32).trans ((congrArg (fun x : Nat × St => takeS x.2 32) f3).trans e4)
  have f5 := (rfl : ad5 S = gtxtS (ad4 S).2 16).trans ((congrArg (fun x : List UInt8 × St => gtxtS x.2 16) f4).trans e5)
  have hraw : rawA S = a := by
    unfold rawA
    rw [f0, f1, f2, f3, f4, f5, str_of_list]
    simp only [q0, q1, q2, q3, w0, w1, w2, w3]
  rw [getA_yes (by rw [f5]) (by rw [hraw]; exact h'), hraw, f5]
end Go.Proofs.YtechcdkakgpnkaaGreat
namespace Go.Proofs.YtechcdkakgpnkaaGreat
open Go.RowKit Go.Shelf
def holdB (n l m : Int) : Bool := decide (l ≤ n ∧ n ≤ m)
theorem hold_yes {n l m : Int} (h1 : l ≤ n) (h2 : n ≤ m) : holdB n l m = true := decide_eq_true ⟨h1, h2⟩
theorem hold_no {n l m : Int} (h : ¬ (l ≤ n ∧ n ≤ m)) : holdB n l m = false := decide_eq_false h
theorem holds_any (n l m : Int) (w : World) :
    Calls Tryz.prog 106 #[.agg #[.int .i64 n, .int .i64 l, .int .i64 m]] w fun e W' => e = .returned (.bool (holdB n l m)) ∧ Below w.heap.size w W' := by
  by_cases h1 : l ≤ n
  · by_cases h2 : n ≤ m
    · rw [hold_yes h1 h2]
      go_enter Tryz.func106, Tryz.ntmps106
      go_wp2
      go_ret
      exact ⟨rfl, chain0 _ _⟩
    · rw [hold_no (by omega)]
      go_enter Tryz.func106, Tryz.ntmps106
      go_wp2
      go_ret
      exact ⟨rfl, chain0 _ _⟩
  · rw [hold_no (by omega)]
    go_enter Tryz.func106, Tryz.ntmps106
    go_wp2
    go_ret
    exact ⟨rfl, chain0 _ _⟩
abbrev bndc (i : Trf) : Array Value := #[.int .i64 i.us, .int .i64 0, .int .i64 1, .int .i64 (i.rt.size : Nat), .int .i64 8, .int .i64 8, .int .i64 i.ro, .int .i64 2, .int .i64 3, .int .i64 i.se, .int .i64 0, .int .i64 1, .int .i64 i.re, .int .i64 0, .int .i64 1, .int .i64 i.to, .int .i64 0, .int .i64 7, .int .i64 (i.id.size : Nat), .int .i64 1, .int .i64 16]
abbrev bndv (i : Trf) : Value := .agg (bndc i)
def z21 : List Value := [.int .i64 0, .int .i64 0, .int .i64 0, .int .i64 0, .int .i64 0, .int .i64 0, .int .i64 0, .int .i64 0, .int .i64 0, .int .i64 0, .int .i64 0, .int .i64 0, .int .i64 0, .int .i64 0, .int .i64 0, .int .i64 0, .int .i64 0, .int .i64 0, .int .i64 0, .int .i64 0, .int .i64 0]
set_option maxRecDepth 100000 in
theorem bounds_any (i : Trf) (w : World) :
    Calls Tryz.prog 109 #[ivv i] w fun e W' => e = .returned (bndv i) ∧ Below w.heap.size w W' := by
  have HB := Lib.hid (fun (W : World) (hz : W.heap.size = w.heap.size + 1) => Blk.new' (vs := z21) (t := 177) hz)
  go_enter Tryz.func109, Tryz.ntmps109
  go_wp2_with (refine wpList_buildTo rfl 177 _ rfl (some 26) rfl (bndc i) (by kernel_rfl) ?_; go_must (refine wpList_store_rowTo rfl 177 (.tmp 2) (.tmp 26) rfl rfl (w.heap.size + 1) (bndc i) rfl rfl 177 z21.toArray (HB.out _ (by simp)) (by kernel_rfl) rfl (by simp [bndc, Value.oneCell']) ?_))
  have hg := setRow_heap _ _ _ (bndc i) _ _ (HB.out (w.alloc (.cells #[.int .i64 i.us, .string i.rt, .int .i64 i.ro, .int .i64 i.se, .int .i64 i.re, .int .i64 i.to, .string i.id] 30)) (by simp))
  have hr := fun tmps hp => results_cell_row (P := Tryz.prog) (fn := Tryz.f109) (p := 2) (ty := 177) rfl tmps _ (w.heap.size + 1) _ (bndc i) (0, 0) _ hp hg Tryz.underlying177 rfl (by kernel_rfl)
  exact bodyPost_ret (v := bndv i) (hr _ rfl) rfl ⟨rfl, below_setRow (chainA (chain0 w _) _) (Nat.le_add_right _ 1) _⟩
def bN (i : Trf) (k : Nat) : Int := match k with | 0 => i.us | 1 => i.rt.size | 2 => i.ro | 3 => i.se | 4 => i.re | 5 => i.to | _ => i.id.size
def bL (k : Nat) : Int := match k with | 0 => 0 | 1 => 8 | 2 => 2 | 3 => 0 | 4 => 0 | 5 => 0 | _ => 1
def bM (k : Nat) : Int := match k with | 0 => 1 | 1 => 8 | 2 => 3 | 3 => 1 | 4 => 1 | 5 => 7 | _ => 16
def bOk (i : Trf) (k : Nat) : Bool := holdB (bN i k) (bL k) (bM k)
theorem may_of {i : Trf} (h : ∀ j, j < 7 → bOk i j = true) : maybeI i := by
  have g := fun j hj => of_decide_eq_true (h j hj)
  have h0 : 0 ≤ i.us ∧ i.us ≤ 1 := g 0 (by omega)
  have h1 : 8 ≤ (i.rt.size : Int) ∧ (i.rt.size : Int) ≤ 8 := g 1 (by omega)
  have h2 : 2 ≤ i.ro ∧ i.ro ≤ 3 := g 2 (by omega)
  have h3 : 0 ≤ i.se ∧ i.se ≤ 1 := g 3 (by omega)
  have h4 : 0 ≤ i.re ∧ i.re ≤ 1 := g 4 (by omega)
  have h5 : 0 ≤ i.to ∧ i.to ≤ 7 := g 5 (by omega)
  have h6 : 1 ≤ (i.id.size : Int) ∧ (i.id.size : Int) ≤ 16 := g 6 (by omega)
  exact ⟨h0, by omega, h2, h3, h4, h5, by omega, by omega⟩
theorem may_not {i : Trf} {j : Nat} (hj : j < 7) (h : bOk i j = false) : ¬ maybeI i := by
  intro ⟨h0, h1, h2, h3, h4, h5, h6, h7⟩
  have g := of_decide_eq_false h
  apply g
  match j, hj with
  | 0, _ => exact h0
  | 1, _ => exact ⟨show (8 : Int) ≤ (i.rt.size : Int) by omega, show (i.rt.size : Int) ≤ 8 by omega⟩
  | 2, _ => exact h2
  | 3, _ => exact h3
  | 4, _ => exact h4
  | 5, _ => exact h5
  | 6, _ => exact ⟨show (1 : Int) ≤ (i.id.size : Int) by omega, show (i.id.size : Int) ≤ 16 by omega⟩
set_option maxRecDepth 100000 in
theorem idx_bound (i : Trf) (w : World) {k : Nat} (hk : k < 7) :
    (Instr.index 177 (bndv i) (.int .i64 k)).run Tryz.prog w = .ok (.agg #[.int .i64 (bN i k), .int .i64 (bL k), .int .i64 (bM k)]) w := by
  have hs : ∀ j : Nat, (sizeOf 174).run Tryz.prog w = .ok 3 w := fun _ => by kernel_rfl
  have e1 : (Instr.index 177 (bndv i) (.int .i64 k)).run Tryz.prog w = .ok (.agg (List.take 3 (List.drop (k * 3) (bndc i).toList)).toArray) w := by
    have h1 : (0 : Int) ≤ (k : Int) ∧ (k : Int) < 7 := ⟨by omega, by omega⟩
    simp [Instr.index, run_underlying Tryz.underlying177, asIntOf, h1, hs 0, go_sem]
    exact fun h => absurd h (by omega)
  rw [e1]
  match k, hk with
  | 0, _ => rfl
  | 1, _ => rfl
  | 2, _ => rfl
  | 3, _ => rfl
  | 4, _ => rfl
  | 5, _ => rfl
  | 6, _ => rfl
set_option maxRecDepth 100000 in
set_option maxHeartbeats 1000000 in
theorem check_any (i : Trf) (w : World) :
    Calls Tryz.prog 59 #[ivv i] w fun e W' => e = .returned (.int .i64 (errI i)) ∧ Below w.heap.size w W' := by
  have HB := Lib.hid (bounds_any i)
  go_enter Tryz.func59, Tryz.ntmps59
  go_wp2_with (go_at_call 109; refine (HB.out _).mono ?_; rintro e w1 ⟨rfl, hb1⟩)
  have hB := chain (chain0 w _) hb1
  go_loopw [7] (fun n wr => ∃ k : Nat, k ≤ 7 ∧ n = .int .i64 k ∧ (∀ j, j < k → bOk i j = true) ∧ Below w.heap.size w wr) (fun n _ => 7 - (intOf n).toNat)
  case atStart => exact ⟨0, by omega, rfl, fun j hj => absurd hj (by omega), hB⟩
  case round =>
    clear hb1 hB
    obtain ⟨k, hk, rfl, hall, hB⟩ := hrel
    have HA := Lib.hid hall
    clear hall
    by_cases hlt : k < 7
    · have hlt' : (k : Int) < 7 := by omega
      have HI := Lib.hid (fun W => idx_bound i W hlt)
      have H0 := holds_any (bN i k) (bL k) (bM k)
      by_cases hb : bOk i k = true
      · have HN : Hid (∀ j, j < k + 1 → bOk i j = true) := Lib.hid fun j hj => by
          by_cases hjk : j < k
          · exact HA.out j hjk
          · obtain rfl : j = k := by omega
            exact hb
        rw [show holdB (bN i k) (bL k) (bM k) = true from hb] at H0
        have H1 := Lib.hid H0
        clear H0 hb HA HB
        generalize bN i k = x0 at *
        generalize bL k = x1 at *
        generalize bM k = x2 at *
        go_wp2_with (first
          | (go_at_call 106; refine (H1.out _).mono ?_; rintro e w2 ⟨rfl, hb2⟩)
          | (refine wpList_indexTo rfl 177 (.tmp 6) (.tmp 7) rfl (some 9) rfl _ (HI.out _) ?_))
        go_roundw
        case rel => exact ⟨k + 1, by omega, by go_num, HN.out, chain (chainA hB _) hb2⟩
        case measure => simp [intOf]; omega
      · replace hb : bOk i k = false := by simpa using hb
        have HN := Lib.hid (may_not hlt hb)
        rw [show holdB (bN i k) (bL k) (bM k) = false from hb] at H0
        have H1 := Lib.hid H0
        clear H0 hb HA HB
        generalize bN i k = x0 at *
        generalize bL k = x1 at *
        generalize bM k = x2 at *
        go_wp2_with (first
          | (go_at_call 106; refine (H1.out _).mono ?_; rintro e w2 ⟨rfl, hb2⟩)
          | (refine wpList_indexTo rfl 177 (.tmp 6) (.tmp 7) rfl (some 9) rfl _ (HI.out _) ?_))
        go_ret
        exact ⟨by rw [errI, if_neg HN.out]; rfl, chain (chainA hB _) hb2⟩
    · obtain rfl : k = 7 := by omega
      go_wp2
      go_ret
      exact ⟨by rw [errI, if_pos (may_of HA.out)]; rfl, hB⟩
set_option maxRecDepth 100000 in
theorem sound_any (v : Sid) (w : World) :
    Calls Tryz.prog 115 #[svv v] w fun e W' => e = .returned (.int .i64 (errV v)) ∧ Below w.heap.size w W' := by
  have hweq := @run_equalIn_wide
  by_cases h0 : v.a0 = 0 ∧ v.a1 = 0 ∧ v.a2 = 0 ∧ v.a3 = 0
  · have hE : errV v = 36 := if_neg fun h => h.1 h0
    rw [hE]
    have hq : wEq (v.a0 : Nat) (v.a1 : Nat) (v.a2 : Nat) (v.a3 : Nat) 0 0 0 0 = true := by
      obtain ⟨e0, e1, e2, e3⟩ := h0
      rw [e0, e1, e2, e3]; rfl
    clear hE h0
    go_enter Tryz.func115, Tryz.ntmps115
    go_wp2
    go_ret
    exact ⟨rfl, chainA (chain0 w _) _⟩
  · have hq : wEq (v.a0 : Nat) (v.a1 : Nat) (v.a2 : Nat) (v.a3 : Nat) 0 0 0 0 = false := wEq_not (by omega)
    have H0 := holds_any v.x 0 1099511627776
    by_cases hx : 0 ≤ v.x ∧ v.x ≤ 1099511627776
    · have hE : errV v = 0 := if_pos ⟨h0, hx⟩
      rw [hold_yes hx.1 hx.2] at H0
      rw [hE]
      have H1 := Lib.hid H0
      clear H0 h0 hx hE
      go_enter Tryz.func115, Tryz.ntmps115
      go_wp2_with (go_at_call 106; refine (H1.out _).mono ?_; rintro e w2 ⟨rfl, hb2⟩)
      go_ret
      exact ⟨rfl, chain (chainA (chain0 w _) _) hb2⟩
    · have hE : errV v = 36 := if_neg fun h => hx h.2
      rw [hold_no hx] at H0
      rw [hE]
      have H1 := Lib.hid H0
      clear H0 h0 hx hE
      go_enter Tryz.func115, Tryz.ntmps115
      go_wp2_with (go_at_call 106; refine (H1.out _).mono ?_; rintro e w2 ⟨rfl, hb2⟩)
      go_ret
      exact ⟨rfl, chain (chainA (chain0 w _) _) hb2⟩
end Go.Proofs.YtechcdkakgpnkaaGreat
namespace Go.Proofs.YtechcdkakgpnkaaGreat
open Go.RowKit Go.Shelf
theorem Blk.c7 {W : World} {B : Nat} {t : TypeId} {v0 v1 v2 v3 v4 v5 v6 : Value} (h : Blk W B t [v0, v1, v2, v3, v4, v5, v6]) :
    W.cell? ⟨B, 0, none⟩ = some v0 ∧ W.cell? ⟨B, 1, none⟩ = some v1 ∧ W.cell? ⟨B, 2, none⟩ = some v2 ∧ W.cell? ⟨B, 3, none⟩ = some v3 ∧ W.cell? ⟨B, 4, none⟩ = some v4 ∧ W.cell? ⟨B, 5, none⟩ = some v5 ∧ W.cell? ⟨B, 6, none⟩ = some v6 :=
  ⟨h.cell 0, h.cell 1, h.cell 2, h.cell 3, h.cell 4, h.cell 5, h.cell 6⟩
theorem Blk.c5 {W : World} {B : Nat} {t : TypeId} {v0 v1 v2 v3 v4 : Value} (h : Blk W B t [v0, v1, v2, v3, v4]) :
    W.cell? ⟨B, 0, none⟩ = some v0 ∧ W.cell? ⟨B, 1, none⟩ = some v1 ∧ W.cell? ⟨B, 2, none⟩ = some v2 ∧ W.cell? ⟨B, 3, none⟩ = some v3 ∧ W.cell? ⟨B, 4, none⟩ = some v4 :=
  ⟨h.cell 0, h.cell 1, h.cell 2, h.cell 3, h.cell 4⟩
theorem Blk.c6 {W : World} {B : Nat} {t : TypeId} {v0 v1 v2 v3 v4 v5 : Value} (h : Blk W B t [v0, v1, v2, v3, v4, v5]) :
    W.cell? ⟨B, 0, none⟩ = some v0 ∧ W.cell? ⟨B, 1, none⟩ = some v1 ∧ W.cell? ⟨B, 2, none⟩ = some v2 ∧ W.cell? ⟨B, 3, none⟩ = some v3 ∧ W.cell? ⟨B, 4, none⟩ = some v4 ∧ W.cell? ⟨B, 5, none⟩ = some v5 :=
  ⟨h.cell 0, h.cell 1, h.cell 2, h.cell 3, h.cell 4, h.cell 5⟩
theorem Blk.c9 {W : World} {B : Nat} {t : TypeId} {v0 v1 v2 v3 v4 v5 v6 v7 v8 : Value} (h : Blk W B t [v0, v1, v2, v3, v4, v5, v6, v7, v8]) :
    W.cell? ⟨B, 0, none⟩ = some v0 ∧ W.cell? ⟨B, 1, none⟩ = some v1 ∧ W.cell? ⟨B, 2, none⟩ = some v2 ∧ W.cell? ⟨B, 3, none⟩ = some v3 ∧ W.cell? ⟨B, 4, none⟩ = some v4 ∧ W.cell? ⟨B, 5, none⟩ = some v5 ∧ W.cell? ⟨B, 6, none⟩ = some v6 ∧ W.cell? ⟨B, 7, none⟩ = some v7 ∧ W.cell? ⟨B, 8, none⟩ = some v8 :=
  ⟨h.cell 0, h.cell 1, h.cell 2, h.cell 3, h.cell 4, h.cell 5, h.cell 6, h.cell 7, h.cell 8⟩
theorem Blk.c16 {W : World} {B : Nat} {t : TypeId} {v0 v1 v2 v3 v4 v5 v6 v7 v8 v9 v10 v11 v12 v13 v14 v15 : Value} (h : Blk W B t [v0, v1, v2, v3, v4, v5, v6, v7, v8, v9, v10, v11, v12, v13, v14, v15]) :
    W.cell? ⟨B, 0, none⟩ = some v0 ∧ W.cell? ⟨B, 1, none⟩ = some v1 ∧ W.cell? ⟨B, 2, none⟩ = some v2 ∧ W.cell? ⟨B, 3, none⟩ = some v3 ∧ W.cell? ⟨B, 4, none⟩ = some v4 ∧ W.cell? ⟨B, 5, none⟩ = some v5 ∧ W.cell? ⟨B, 6, none⟩ = some v6 ∧ W.cell? ⟨B, 7, none⟩ = some v7 ∧ W.cell? ⟨B, 8, none⟩ = some v8 ∧ W.cell? ⟨B, 9, none⟩ = some v9 ∧ W.cell? ⟨B, 10, none⟩ = some v10 ∧ W.cell? ⟨B, 11, none⟩ = some v11 ∧ W.cell? ⟨B, 12, none⟩ = some v12 ∧ W.cell? ⟨B, 13, none⟩ = some v13 ∧ W.cell? ⟨B, 14, none⟩ = some v14 ∧ W.cell? ⟨B, 15, none⟩ = some v15 :=
  ⟨h.cell 0, h.cell 1, h.cell 2, h.cell 3, h.cell 4, h.cell 5, h.cell 6, h.cell 7, h.cell 8, h.cell 9, h.cell 10, h.cell 11, h.cell 12, h.cell 13, h.cell 14, h.cell 15⟩
end Go.Proofs.YtechcdkakgpnkaaGreat
namespace Go.Proofs.YtechcdkakgpnkaaGreat
open Go.RowKit Go.Shelf
attribute [local go_sem] Oper.semAt_some
set_option maxRecDepth 100000 in
set_option maxHeartbeats 4000000 in
theorem numO_in (m : Nat) (hm : 3 ≤ m) (n size : Int) (hs : -9223372036854775808 ≤ size) (hs' : size ≤ 9223372036854775807) (w : World) :
    CallsIn Fence.wide m Tryz.prog 68 #[.int .i64 n, .int .i64 size] w (ByO (octs (two n) (clamp size)) w) := by
  have h1 : 1 ≤ m := by omega
  refine callsIn_of_wp_marks Tryz.func68 rfl trivial ?_ rfl
  simp only [Tryz.ntmps68, List.size_toArray, List.length_cons, List.length_nil, Nat.reduceAdd, Nat.reduceSub, Array.replicate_succ, Array.replicate_zero, List.push_toArray, List.append_toArray, List.nil_append, List.cons_append]
  obtain ⟨i0, hi, hz0, hz1, hz2⟩ := info_parts Tryz.infoByte
  have hU : IntKind.u64.wrap n = (two n : Nat) := wrap_two n
  have hx : two n < M := by unfold two M; omega
  generalize two n = x at *
  have H8 := clamp_le size
  have hCC := clamp_cases size
  generalize clamp size = s at *
  rcases hCC with ⟨hc0, hC⟩ | ⟨hc0, hc8, hC⟩ | ⟨hc8, hC⟩
  all_goals
    have HC := Lib.hid hC
    clear hC
    gi_wp2_with (refine ⟨trivial, ?_⟩; gi_at_call 116; refine (octets_in Fence.wide (m - 1) trivial rfl _ _ _).mono ?_; rintro e w' ⟨rfl, rfl⟩)
    generalize hW5 : World.alloc _ _ = W5
    have k0 : Boxed W5 w.heap.size 35 (.slice none 0 0) := by rw [← hW5]; exact ((Boxed.new _ _ _).alloc _).alloc _
    have k1 : Boxed W5 (w.heap.size + 1) 22 (.int .u64 (x : Nat)) := by rw [← hW5]; exact (Blk.new' (vs := [.int .u64 (x : Nat)]) (by simp)).alloc _
    have k2 : Boxed W5 (w.heap.size + 1 + 1) 3 (.int .i64 (s : Nat)) := by rw [HC.out, ← hW5]; exact Blk.new' (vs := [.int .i64 _]) (by simp)
    have hB0 : Below w.heap.size w W5 := by rw [← hW5]; exact chainA (chainA (chain0 _ _) _) _
    have hz : W5.heap.size = w.heap.size + 3 := by rw [← hW5]; simp
    clear hW5
    refine wpIn_rangeFunc_ownF (S := fun ys => ys = octs x s) rfl h1 (gf := 163) (lb := #[.pointer (some ⟨w.heap.size + 1 + 1, 0, none⟩), .pointer (some ⟨w.heap.size + 1, 0, none⟩)]) rfl trivial (enters_of Tryz.func163 (by kernel_rfl) rfl)
      (octets1_stops Fence.wide (m - 1) trivial rfl (by omega) x s H8 (w.heap.size + 1) (w.heap.size + 1 + 1) W5 k1.lt k2.lt (k1.cell) k2.cell (KeepB (w.heap.size + 1)) (fun A B h => World.cell?_of_block h)) KeepB.t (KeepB.b k1.lt) (Below.refl _ _) (fun _ => rfl)
      (NumI w.heap.size (w.heap.size + 1) x w) (fun _ _ _ => False) (numI_own (Nat.le_refl _) (by omega)) (fun _ _ _ _ _ hs _ _ => hs)
      ⟨⟨⟨_, k0, World.ownsRow_nil _ _ _ _, trivial⟩, k1⟩, hB0⟩ ?_ ?_ ?_ ?_ ?_
    rotate_left
    · intro l x W K hK
      gi_wp2
      exact hK
    · rintro l pre o W ⟨⟨⟨v, kv, hown, _⟩, kn⟩, hB⟩ hlt
      have ko := kv.cell
      have kf := kv.frozen
      have hNW : w.heap.size ≤ W.heap.size := hB.size
      gi_wp2_with (gi_at_builtin; refine wpListIn_append_own _ rfl _ _ 35 rfl w.heap.size 5 i0 (.int .u8 0) 1 1 Tryz.underlying35 hi hz0 hz1 hz2 rfl (by decide) v pre.length (pre.map bv) rfl (hown.alloc _) ⟨W.heap.size, 0, none⟩ 1 1 [bv o] rfl rfl (cell_one_new _ _ _) (by simp [Value.oneCell']) (by unfold maxLen; omega) (by omega) (by simp; omega) ?_; intro v' w1 hown' hgrow _; obtain ⟨g, cap, rfl⟩ := ownsRow_succ hown'; obtain ⟨hv1, kv', hrow', hk3, hbw⟩ := kv.appended (by decide) hown hNW (Nat.le_refl _) hown' hgrow; have ko1 := hv1.cell; have kf1 := hv1.frozen)
      have hn1 : W.heap.size ≤ w1.heap.size := Nat.le_trans (by simp) hgrow.size
      have kn1 : Boxed w1 (w.heap.size + 1) 22 (.int .u64 (x : Nat)) := (kn.alloc _).kept hgrow (Boxed.not_row kn (by decide) hown)
      have kn3 := kn1.kept (grownBy_setCell' w1 w.heap.size (.slice (some ⟨g, 0, none⟩) (pre.length + 1) cap)) (by simp)
      exact ⟨hk3, kn3.trans kn.symm, ⟨⟨_, kv', by simpa using hrow', trivial⟩, kn3⟩, hB.trans hbw⟩
    · rintro D ys W hD rfl ⟨⟨⟨v, kv, hown, _⟩, kn⟩, hB⟩ hK
      have ko := kv.cell
      have HZ := Lib.hid hz
      clear hz
      gi_wp2
      have hB' := hB.trans (belowK_b (w := w) (Nat.le_refl _) _ D _ (.deferred none) (by have := HZ.out; omega) hK rfl rfl)
      have hown3 := ownsRow_putObj hown (.deferred none) hK rfl
      refine ⟨by simp, .inl ⟨_, _, rfl, run_takeDeferred hK, ?_⟩⟩
      refine ⟨v, ?_, ?_⟩
      · simp [results, Tryz.f68, go_sem]
      · exact ⟨v, rfl, hown3, hB'⟩
    · rintro D c pre W _ _ h _
      exact h.elim
theorem numO_any (n size : Int) (hs : -9223372036854775808 ≤ size) (hs' : size ≤ 9223372036854775807) (w : World) :
    Calls Tryz.prog 68 #[.int .i64 n, .int .i64 size] w (ByO (octs (two n) (clamp size)) w) := callsIn_wide.1 (numO_in 3 (by omega) n size hs hs' w)
end Go.Proofs.YtechcdkakgpnkaaGreat
namespace Go.Proofs.YtechcdkakgpnkaaGreat
open Go.RowKit
variable {F : Fence} {n : Nat} {P : Program}
def SeqAll {α : Type} (F : Fence) (n : Nat) (P : Program) (g : Nat) (lb : Array Value) (encs : α → Array Value) (Kp : Nat → World → World → Prop) (ys : List α) (w : World) : Prop :=
  ∀ (l : Nat) (J : Nat → World → Prop) (W : World), Below w.heap.size w W → w.heap.size ≤ l → l < W.heap.size → OwnFrom W.heap.size J →
    (∀ k x W1, ys[k]? = some x → J k W1 → YieldAt F (n - 1) P l (encs x) W1 fun e W' => e = .returned (.bool true) ∧ J (k + 1) W' ∧ Kp l W1 W') →
    J 0 W → CallsIn F n P g (#[.func (.yield l) #[] #[]] ++ lb) W fun e W' => (∃ v, e = .returned v) ∧ J ys.length W'
def goesOn (B : Nat) (Kp : World → World → Prop) (I : World → Prop) (W : World) : Exit → Act → World → Prop
  | .normal, _, W' => KeepsFrom B W W' ∧ Kp W W' ∧ I W'
  | _, _, _ => False
theorem wpIn_rangeFunc_all {α : Type} {g : Operand} {ps : Array Tmp} {assign body : Code} {Q : Exit → Act → World → Prop} {a : Act} {w : World}
    (hro : F.round = none) (h1 : 1 ≤ n) {gf : Nat} {lb : Array Value} (hg : a.eval g = .func (.func gf) #[] lb) (hFg : F.fn gf) (eg : ∀ args w, (callFunc gf args).run P w = .ok (.enter gf args) w)
    {encs : α → Array Value} {Kp : Nat → World → World → Prop} {ys : List α} {w0 : World} (hseq : SeqAll F (n - 1) P gf lb encs Kp ys w0)
    (hKt : ∀ {A B C : World}, Kp (w.heap.size + 1) A B → Kp (w.heap.size + 1) B C → Kp (w.heap.size + 1) A C) (hKb : ∀ (W : World) (o o' : Obj), W.heap[w.heap.size + 1]? = some o → o.isCells = false → o.isWalk = false → Kp (w.heap.size + 1) W (W.putObj (w.heap.size + 1) o')) (hb0 : Below w0.heap.size w0 w) (hps : ∀ x, (encs x).size = ps.size)
    (I : Nat → World → Prop) (hI : OwnFrom w.heap.size I) (h0 : I 0 w) (Ax : α → Act → World → Prop) (hAx : ∀ x a', OwnFrom w.heap.size (fun (_ : Unit) W => Ax x a' W))
    (hassign : ∀ (l k : Nat) (x : α) (W : World) (K : Act → World → Prop), I k W → (∀ a' W', KeepsFrom w.heap.size W W' → Kp (w.heap.size + 1) W W' → I k W' → Ax x a' W' → K a' W') →
      assign.wpIn (F.inRound l) (n - 1 - 1) P (Exit.then K (fun _ _ _ => False)) { tmps := (ps.zip (encs x)).foldl (fun t (p, v) => t.setIfInBounds p v) a.tmps, defers := [] } W)
    (hbody : ∀ (l k : Nat) (x : α) (a' : Act) (W : World), ys[k]? = some x → I k W → Ax x a' W → body.wpIn (F.inRound l) (n - 1 - 1) P (goesOn w.heap.size (Kp (w.heap.size + 1)) (I (k + 1)) W) a' W)
    (hdone : ∀ (D : Nat) (W : World), w.heap.size ≤ D → I ys.length W → W.heap[D]? = some (.deferred (some [])) → Q .normal { a with defers := { target := .collected D, args := #[] } :: a.defers } W) :
    (Code.rangeFunc g ps assign body).wpIn F n P Q a w := by
  refine wpIn_rangeFunc fun fn hfn => ?_
  rw [hro]
  have hZ : w.heap.size < w.heap.size + 1 := Nat.lt_succ_self _
  have R0 : { r : Loop // r.state = .ready ∧ r.pending = none ∧ r = { state := .ready, pending := none, fn, tmps := a.tmps, params := ps, assign, body, defers := w.heap.size } } := ⟨_, rfl, rfl, rfl⟩
  obtain ⟨r, hr1, hr2, hre⟩ := R0
  have hrun := run_enterLoop_outer (P := P) (w := w) fn a.tmps ps assign body
  rw [← hre] at hrun
  generalize hW1 : (w.alloc (.deferred (some []))).alloc (.loop r) = W1 at hrun
  have hsz : W1.heap.size = w.heap.size + 2 := by rw [← hW1]; simp
  have gw : w.grownBy (w.alloc (.deferred (some []))) none := World.grownBy_alloc _ _ _
  have hl1 : W1.heap[w.heap.size + 1]? = some (.loop r) := by
    rw [← hW1]; simpa using World.alloc_heap_new (w.alloc (.deferred (some []))) (.loop r)
  have hd1 : W1.heap[w.heap.size]? = some (.deferred (some [])) := by
    rw [← hW1]; exact (Below.heap_alloc _ _ _ (by simp)).trans (World.alloc_heap_new _ _)
  have hi1 : I 0 W1 := by rw [← hW1]; exact hI.alloc _ (hI.alloc _ h0)
  have hB1 : Below w0.heap.size w0 W1 := by
    rw [← hW1]; exact hb0.trans (((Below.refl w.heap.size w).alloc (Nat.le_refl _) _).alloc (by simp) _ |>.mono hb0.size)
  refine ⟨_, _, W1, { target := .fn (.func gf) lb, args := #[.func (.yield (w.heap.size + 1)) #[] #[]] }, W1, gf, #[.func (.yield (w.heap.size + 1)) #[] #[]] ++ lb, W1, hrun, by simp only [resolve, hg]; simp [go_sem], fun f' hf' => ?_, by simp [invoke, go_sem, eg], fun _ => h1, ?_⟩
  · simp [Target.leads] at hf'; subst hf'; exact hFg
  refine (hseq (w.heap.size + 1) (fun k W => I k W ∧ W.heap[w.heap.size + 1]? = some (.loop r) ∧ W.heap[w.heap.size]? = some (.deferred (some []))) W1 hB1 (by have := hb0.size; omega) (by omega)
    (fun s A B row ⟨hi, hl, hd⟩ hg' hrow => ⟨hI s A B row hi hg' (fun q e => ⟨by have := (hrow q e).1; omega, (hrow q e).2⟩),
      (hg'.block _ (Array.getElem?_eq_some_iff.1 hl).1 (fun e => by have := (hrow _ e.symm).1; omega)).trans hl,
      (hg'.block _ (Array.getElem?_eq_some_iff.1 hd).1 (fun e => by have := (hrow _ e.symm).1; omega)).trans hd⟩) ?_ ⟨hi1, hl1, hd1⟩).mono ?_
  · rintro k x W hx ⟨hi, hl, hd⟩
    have hy := run_yield (P := P) (args := encs x) hl (by rw [hre]; exact hps x)
    have hy' := hy
    rw [hre] at hy'
    refine ⟨_, _, _, _, hy', roundIn_of_wpIn hfn (hassign _ k x W _ hi fun a' Wa hkf hkp hia hax => ?_)⟩
    have hla := hkf.same _ _ (by omega) hl rfl
    have hda := hkf.same _ _ (Nat.le_refl _) hd rfl
    have hlt := (Array.getElem?_eq_some_iff.1 hla).1
    refine ⟨_, run_beginRound hla hr1, ?_⟩
    have hlb : (Wa.putObj (w.heap.size + 1) (.loop { r with state := .busy })).heap[w.heap.size + 1]? = some (.loop { r with state := .busy }) := World.putObj_heap_same hlt
    have hdb : (Wa.putObj (w.heap.size + 1) (.loop { r with state := .busy })).heap[w.heap.size]? = some (.deferred (some [])) := (World.putObj_heap_other (by omega)).trans hda
    have hkb := hKb Wa _ (.loop { r with state := .busy }) hla rfl rfl
    refine wpIn_mono (hbody _ k x a' _ hx (hI.putObj _ hia (by omega) hla rfl) ((hAx x a').putObj (s := ()) _ hax (by omega) hla rfl)) ?_
    rintro e a3 W3 hp
    cases e with
    | normal =>
      obtain ⟨hk3, hkp3, hi3⟩ := hp
      have hl3 := hk3.same _ _ (by omega) hlb rfl
      have hd3 := hk3.same _ _ (Nat.le_refl _) hdb rfl
      have hend := run_endRound (P := P) none hl3
      have hr' : ({ { r with state := .busy } with state := if (none : Option Code).isNone then .ready else .done, pending := none } : Loop) = r := by
        rw [hre]; simp
      rw [hr'] at hend
      refine ⟨_, _, hend, rfl, ⟨hI.putObj _ hi3 (by omega) hl3 rfl, World.putObj_heap_same (Array.getElem?_eq_some_iff.1 hl3).1, (World.putObj_heap_other (by omega)).trans hd3⟩, ?_⟩
      exact hKt hkp (hKt hkb (hKt hkp3 (hKb _ _ _ hl3 rfl rfl)))
    | ret => exact hp.elim
    | exit id => exact hp.elim
    | goto t => exact hp.elim
    | panic c => exact hp.elim
    | outgrown => exact hp.elim
  · rintro e W2 ⟨⟨v, rfl⟩, hi, hl, hd⟩
    have hend := run_endLoop (P := P) hl (by rw [hr1]; simp)
    rw [hr2] at hend
    exact ⟨none, _, hend, hdone _ _ (Nat.le_refl _) (hI.putObj _ hi (by omega) hl rfl) ((World.putObj_heap_other (by omega)).trans hd)⟩
theorem wpIn_rangeFunc_allA {α : Type} {g : Operand} {ps : Array Tmp} {assign body : Code} {Q : Exit → Act → World → Prop} {a : Act} {w : World}
    (hro : F.round = none) (h1 : 1 ≤ n) {gf : Nat} {lb : Array Value} (hg : a.eval g = .func (.func gf) #[] lb) (hFg : F.fn gf) (eg : ∀ args w, (callFunc gf args).run P w = .ok (.enter gf args) w)
    {encs : α → Array Value} {Kp : Nat → World → World → Prop} {ys : List α} {w0 : World} (hseq : SeqAll F (n - 1) P gf lb encs Kp ys w0)
    (hKt : ∀ {A B C : World}, Kp (w.heap.size + 1) A B → Kp (w.heap.size + 1) B C → Kp (w.heap.size + 1) A C) (hKb : ∀ (W : World) (o o' : Obj), W.heap[w.heap.size + 1]? = some o → o.isCells = false → o.isWalk = false → Kp (w.heap.size + 1) W (W.putObj (w.heap.size + 1) o')) (hKr : ∀ W, Kp (w.heap.size + 1) W W) (hb0 : Below w0.heap.size w0 w) (hps : ∀ x, (encs x).size = ps.size)
    (I : Nat → World → Prop) (hI : OwnFrom w.heap.size I) (h0 : I 0 w) (a₁ : α → Act)
    (hassign : ∀ (l : Nat) (x : α) (W : World) (K : Act → World → Prop), K (a₁ x) W →
      assign.wpIn (F.inRound l) (n - 1 - 1) P (Exit.then K (fun _ _ _ => False)) { tmps := (ps.zip (encs x)).foldl (fun t (p, v) => t.setIfInBounds p v) a.tmps, defers := [] } W)
    (hbody : ∀ (l k : Nat) (x : α) (W : World), ys[k]? = some x → I k W → body.wpIn (F.inRound l) (n - 1 - 1) P (goesOn w.heap.size (Kp (w.heap.size + 1)) (I (k + 1)) W) (a₁ x) W)
    (hdone : ∀ (D : Nat) (W : World), w.heap.size ≤ D → I ys.length W → W.heap[D]? = some (.deferred (some [])) → Q .normal { a with defers := { target := .collected D, args := #[] } :: a.defers } W) :
    (Code.rangeFunc g ps assign body).wpIn F n P Q a w :=
  wpIn_rangeFunc_all hro h1 hg hFg eg hseq (fun h k => hKt h k) hKb hb0 hps I hI h0 (fun x a' _ => a' = a₁ x) (fun _ _ _ _ _ _ hs _ _ => hs)
    (fun l k x W K hi hK => hassign l x W K (hK _ _ (KeepsFrom.refl _ _) (hKr W) hi rfl)) (fun l k x a' W hx hi e => by subst e; exact hbody l k x W hx hi) hdone
def AllBut (B l : Nat) (W W' : World) : Prop := W.heap.size ≤ W'.heap.size ∧ ∀ k, k < W.heap.size → k ≠ B → k ≠ l → W'.heap[k]? = W.heap[k]?
theorem AllBut.refl (B l : Nat) (W : World) : AllBut B l W W := ⟨Nat.le_refl _, fun _ _ _ _ => rfl⟩
theorem AllBut.t {B l : Nat} {X Y Z : World} (h : AllBut B l X Y) (k : AllBut B l Y Z) : AllBut B l X Z :=
  ⟨Nat.le_trans h.1 k.1, fun j hj h1 h2 => (k.2 j (Nat.lt_of_lt_of_le hj h.1) h1 h2).trans (h.2 j hj h1 h2)⟩
theorem AllBut.b (B l : Nat) (W : World) (o' : Obj) : AllBut B l W (W.putObj l o') := ⟨by simp, fun j _ _ h2 => World.putObj_heap_other h2⟩
theorem AllBut.of_below {B l : Nat} {W W' : World} (h : Below W.heap.size W W') : AllBut B l W W' := ⟨h.size, fun j hj _ _ => h.block j hj⟩
theorem AllBut.of_grown {B l : Nat} {W W' : World} (h : W.grownBy W' (some B)) : AllBut B l W W' := ⟨h.size, fun j hj h1 _ => h.block j hj (fun e => h1 (Option.some.inj e))⟩
theorem grown_of_below {W W' : World} (h : Below W.heap.size W W') : W.grownBy W' none := ⟨h.os, h.tape, h.output, h.size, fun j hj _ => h.block j hj⟩
theorem roundIn_any {l' m m' : Nat} {P : Program} {l : Nat} {f : FuncId} {tmps : Array Value} {assign body : Code} {w : World} {R : Ending → World → Prop} (h : RoundIn Fence.wide m P l f tmps assign body w R) : RoundIn (Fence.wide.inRound l') m' P l f tmps assign body w R :=
  ⟨h.1, fun c cs _ => h.2 c cs (room_wide _)⟩
end Go.Proofs.YtechcdkakgpnkaaGreat
