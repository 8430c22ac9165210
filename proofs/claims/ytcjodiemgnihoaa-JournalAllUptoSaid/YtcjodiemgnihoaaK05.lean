/-
  What a call knows of memory, as one fact: some blocks, each known whole and made by the call (or one that was handed in, in which it writes), and that nothing else has turned; Words for walks by Takes over parts of memory: loads, stores, elements, comparisons, operations that are not wanted; An element of a row of the call's own; Words for parts of memory: what came back is one's own, parts in any
-/
import Derived.Deep.WholeRow
import Derived.Laws.StructEq
import Derived.Outline
import Derived.Deep.Cut
import Derived.Deep.CutRange
import Derived.Deep.DeepCutAuto
import Derived.Deep.CutBlock
import Derived.LoopTactic
import Derived.IntWalk
import Derived.Lib.Hide
import Derived.Lib.ConvBytes
import Derived.Laws.AppendOwn
import Derived.Deep.Upon
import Derived.Lib.SlBytesConst
import Derived.Laws.Concat
import Derived.Test.YtcjodiemgnihoaaK04
namespace Go.Proofs.Ytcjodiemgnihoaa
open Go.RowKit Go.Shelf
abbrev MB := Nat × TypeId × List Value
def Mem (w : World) (row : Option Nat) (l : List MB) (W : World) : Prop :=
  (∀ x ∈ l, Blk W x.1 x.2.1 x.2.2 ∧ (w.heap.size ≤ x.1 ∨ some x.1 = row)) ∧ l.Pairwise (fun x y => y.1 < x.1) ∧ w.grownBy W row
section
variable {w W W' : World} {row : Option Nat} {l : List MB}
theorem grownBy_refl (w : World) (row : Option Nat) : w.grownBy w row := ⟨rfl, rfl, rfl, Nat.le_refl _, fun _ _ _ => rfl⟩
theorem Mem.start (w : World) : Mem w none [] w := ⟨fun _ hx => (List.not_mem_nil hx).elim, List.Pairwise.nil, grownBy_refl w none⟩
theorem Mem.at (h : Mem w row l W) (i : Nat) {B : Nat} {T : TypeId} {cs : List Value} (hi : l[i]? = some (B, T, cs)) : Blk W B T cs := (h.1 _ (List.mem_of_getElem? hi)).1
theorem Mem.lt (h : Mem w row l W) {x : MB} (hx : x ∈ l) : x.1 < W.heap.size := (h.1 x hx).1.lt
theorem Mem.g (h : Mem w row l W) : w.grownBy W row := h.2.2
theorem Mem.size (h : Mem w row l W) : w.heap.size ≤ W.heap.size := h.2.2.size
theorem Mem.b (h : Mem w none l W) : Below w.heap.size w W := ⟨h.2.2.os, h.2.2.tape, h.2.2.output, h.2.2.size, fun k hk => h.2.2.block k hk (by simp)⟩
theorem Mem.drew (h : Mem w row l W) : Mem w row l W.drew := ⟨h.1, h.2.1, ⟨h.2.2.os, h.2.2.tape, h.2.2.output, h.2.2.size, h.2.2.block⟩⟩
theorem grownBy_trans_below {row : Option Nat} (h : w.grownBy W row) (hb : Below W.heap.size W W') : w.grownBy W' row :=
  ⟨hb.os.trans h.os, hb.tape.trans h.tape, hb.output.trans h.output, Nat.le_trans h.size hb.size, fun k hk hr => (hb.block k (Nat.lt_of_lt_of_le hk h.size)).trans (h.block k hk hr)⟩
theorem Mem.below (h : Mem w row l W) (hb : Below W.heap.size W W') : Mem w row l W' :=
  ⟨fun x hx => ⟨(h.1 x hx).1.below hb (h.lt hx), (h.1 x hx).2⟩, h.2.1, grownBy_trans_below h.2.2 hb⟩
theorem Mem.alloc (h : Mem w row l W) (T : TypeId) (cs : List Value) : Mem w row ((W.heap.size, T, cs) :: l) (W.alloc (.cells cs.toArray T)) := by
  refine ⟨fun x hx => ?_, List.pairwise_cons.2 ⟨fun y hy => h.lt hy, h.2.1⟩, grownBy_trans_below h.2.2 ((Below.refl _ W).alloc (Nat.le_refl _) _)⟩
  rcases List.mem_cons.1 hx with rfl | hx
  · exact ⟨Blk.new W T cs, .inl h.size⟩
  · exact ⟨(h.1 x hx).1.alloc _, (h.1 x hx).2⟩
theorem Mem.other (h : Mem w row l W) (o : Obj) : Mem w row l (W.alloc o) := h.below ((Below.refl _ W).alloc (Nat.le_refl _) _)
theorem Mem.call (h : Mem w row l W) (i : Nat) {B : Nat} {T : TypeId} {cs cs' : List Value} {l' : List MB} (hi : l[i]? = some (B, T, cs)) (hl : l.set i (B, T, cs') = l') (hb : W.grownBy W' (some B)) (hB : Blk W' B T cs') : Mem w row l' W' := by
  subst hl
  have hlt : i < l.length := (List.getElem?_eq_some_iff.1 hi).1
  have hne : ∀ j y, l[j]? = some y → j ≠ i → y.1 ≠ B := fun j y hy hji => by
    obtain ⟨hj, hy'⟩ := List.getElem?_eq_some_iff.1 hy
    obtain ⟨_, hi'⟩ := List.getElem?_eq_some_iff.1 hi
    rcases Nat.lt_or_gt_of_ne hji with hl | hl
    · have := List.pairwise_iff_getElem.1 h.2.1 j i hj hlt hl
      rw [hy', hi'] at this
      exact Nat.ne_of_gt this
    · have := List.pairwise_iff_getElem.1 h.2.1 i j hlt hj hl
      rw [hy', hi'] at this
      exact Nat.ne_of_lt this
  have hi0 := h.1 _ (List.mem_of_getElem? hi)
  refine ⟨fun x hx => ?_, ?_, ?_⟩
  · obtain ⟨j, hj⟩ := List.mem_iff_getElem?.1 hx
    rw [List.getElem?_set] at hj
    by_cases e : i = j
    · subst e
      rw [if_pos rfl, if_pos hlt] at hj
      obtain rfl := Option.some.inj hj
      exact ⟨hB, hi0.2⟩
    · rw [if_neg e] at hj
      have hx' := h.1 x (List.mem_of_getElem? hj)
      have hn := hne j x hj (fun e' => e e'.symm)
      exact ⟨hx'.1.kept hb (fun e' => hn (Option.some.inj e')), hx'.2⟩
  · have key : (l.set i (B, T, cs')).map (·.1) = l.map (·.1) := by
      rw [List.map_set]
      obtain ⟨_, hi'⟩ := List.getElem?_eq_some_iff.1 hi
      apply List.ext_getElem?
      intro j
      rw [List.getElem?_set]
      by_cases e : i = j
      · subst e
        rw [if_pos rfl, if_pos (by simpa using hlt), List.getElem?_map, hi]; rfl
      · rw [if_neg e]
    have h1 := h.2.1
    rw [← List.pairwise_map (f := fun x : MB => x.1) (R := fun a b => b < a)] at h1 ⊢
    rw [key]; exact h1
  · refine ⟨hb.os.trans h.2.2.os, hb.tape.trans h.2.2.tape, hb.output.trans h.2.2.output, Nat.le_trans h.2.2.size hb.size, fun k hk hr => (hb.block k (Nat.lt_of_lt_of_le hk h.2.2.size) (fun e => ?_)).trans (h.2.2.block k hk hr)⟩
    obtain rfl := Option.some.inj e
    rcases hi0.2 with hg | hg
    · exact absurd hk (Nat.not_lt.2 hg)
    · exact hr hg
theorem Mem.set (h : Mem w row l W) (i : Nat) {B : Nat} {T : TypeId} {cs cs' : List Value} {l' : List MB} (hi : l[i]? = some (B, T, cs)) (hl : l.set i (B, T, cs') = l') : Mem w row l' (W.setRow B cs'.toArray) :=
  h.call i hi hl (grownBy_row W B _) ((h.at i hi).row cs')
end
theorem ld_any {W : World} {B : Nat} {T : TypeId} {vs : List Value} (ty : TypeId) (d : TypeDesc) (hu : Try.prog.underlying ty = some d) (hd : (match d with | .struct _ | .array _ _ => false | _ => true) = true) (h : Blk W B T vs) (i : Nat) {v : Value} (hv : vs[i]? = some v) :
    (Instr.loadAt ty (.pointer (some ⟨B, i, none⟩))).run Try.prog W = .ok v W := by
  have hc := (h.cell i).trans hv
  have hagg : (isAgg ty).run Try.prog W = .ok false W := by
    unfold isAgg
    rw [Sem.run_bind, run_underlying hu W]
    cases d <;> simp_all
  simp [Instr.loadAt, Instr.sureAddr, loadVar, Sem.run_bind, hagg, hc]
end Go.Proofs.Ytcjodiemgnihoaa
namespace Go.Proofs.Ytcjodiemgnihoaa
open Go.RowKit Go.Shelf
attribute [local irreducible] wpFrom
section
variable {W : World} {B : Nat} {T : TypeId}
theorem sto_part {vs : List Value} (us : List Value) (h : Blk W B T vs) (o : Nat) (ty : TypeId) (x : Value) (ns : List Value) (hx : x.cells.toList = ns) (hi : (Try.prog.info? ty).map (·.size) = some ns.length) (hle : o + ns.length ≤ vs.length) (h1 : ns.all (·.oneCell') = true) (hl : laid vs o ns = us) :
    (Instr.storeAt ty (.pointer (some ⟨B, o, none⟩)) x).run Try.prog W = .ok () (W.setRow B us.toArray) := by
  subst hx; subst hl
  exact run_store_part h o x ty (by simpa using hi) (by simpa using hle) (by rw [← Array.all_toList]; exact h1)
theorem idx_sl {W : World} {ty e c : Nat} (hu : Try.prog.underlying ty = some (.slice e)) (hs : (sizeOf e).run Try.prog W = .ok c W) {b off len cap : Nat} {k : Nat} (hk : k < len) :
    (Instr.indexAt ty (.slice (some ⟨b, off, none⟩) len cap) (.int .i64 (k : Int))).run Try.prog W = .ok (.pointer (some ⟨b, off + k * c, none⟩)) W := by
  have h1 : (0 : Int) ≤ (k : Int) ∧ (k : Int) < len := ⟨by omega, by omega⟩
  simp [Instr.indexAt, run_underlying hu, asIntOf, h1, hs, go_sem]
  intro h
  omega
theorem beqB (a b : ByteArray) : (a.toList == b.toList) = decide (a = b) := by
  by_cases h : a = b
  · subst h; simp
  · rw [decide_eq_false h]
    have h1 : ¬ a.toList = b.toList := fun e => h (by
      rw [ByteArray.toList_eq, ByteArray.toList_eq] at e
      exact ByteArray.ext (Array.toList_inj.1 e))
    simpa using h1
theorem RSl.elem {α : Type} {f : α → List Value} {n lo hi : Nat} {W : World} {v : Value} {l : List α} (h : RSl f lo hi W v l) (hn : ∀ x, (f x).length = n) {k : Nat} {x : α} (hx : l[k]? = some x) {ty e : TypeId} (hu : Try.prog.underlying ty = some (.slice e)) (hs : ∀ W, (sizeOf e).run Try.prog W = .ok n W) :
    ∃ b o, lo ≤ b ∧ b < hi ∧ (∀ W', (Instr.indexAt ty v (.int .i64 (k : Int))).run Try.prog W' = .ok (.pointer (some ⟨b, o, none⟩)) W') ∧ ∀ W', RSl f lo hi W' v l → ∀ j u, (f x)[j]? = some u → W'.cell? ⟨b, o + j, none⟩ = some u := by
  have hk : k < l.length := (List.getElem?_eq_some_iff.1 hx).1
  have hne : l ≠ [] := fun e => by subst e; simp at hk
  obtain ⟨a, cap, rfl, _, _, h0 | ⟨b, off, rfl, h1, h2, h3⟩⟩ := h
  · exact absurd h0 hne
  · refine ⟨b, off + k * n, h1, h2, fun W' => idx_sl hu (hs W') hk, fun W' h' j u hj => ?_⟩
    obtain ⟨_, _, b', off', e, _, _, hr⟩ := h'.at hne
    cases e
    have hj' : j < n := by have := (List.getElem?_eq_some_iff.1 hj).1; rwa [hn] at this
    rw [hr.elem hn hx hj', hj]
theorem ld_cell {W : World} {b o : Nat} (ty : TypeId) (d : TypeDesc) (hu : Try.prog.underlying ty = some d) (hd : (match d with | .struct _ | .array _ _ => false | _ => true) = true) {v : Value} (hc : W.cell? ⟨b, o, none⟩ = some v) :
    (Instr.loadAt ty (.pointer (some ⟨b, o, none⟩))).run Try.prog W = .ok v W := by
  have hagg : (isAgg ty).run Try.prog W = .ok false W := by
    unfold isAgg
    rw [Sem.run_bind, run_underlying hu W]
    cases d <;> simp_all
  simp [Instr.loadAt, Instr.sureAddr, loadVar, Sem.run_bind, hagg, hc]
theorem RSl.wide {α : Type} {f : α → List Value} {lo hi : Nat} {W : World} {v : Value} {l : List α} (h : RSl f lo hi W v l) (hi' : hi ≤ W.heap.size) : RSl f lo W.heap.size W v l := h.mono (Nat.le_refl _) hi'
end
section
variable {A B C : List Value} {m : Nat}
end
section
variable {ops : Array Oper} {Q : Exit → Act → World → Prop}
theorem op_at {P : Program} {k : Nat} {a : Act} {b : Bool} {d : Option Tmp} {op : Op} (h : (ops[k]?).map (fun o => (Region.wanted o (yielded ops a.tmps), o.dst, o.op)) = some (b, d, op)) : ∃ o, ops[k]? = some o ∧ Region.wanted o (yielded ops a.tmps) = b ∧ o.dst = d ∧ o.op = op ∧ ∀ w, runAt P ops k a w = some (b, d, (execOp a.eval o).run P w) := by
  cases ho : ops[k]? with
  | none => rw [ho] at h; cases h
  | some o =>
    rw [ho, Option.map_some, Option.some.injEq, Prod.mk.injEq, Prod.mk.injEq] at h
    obtain ⟨h1, h2, h3⟩ := h
    exact ⟨o, rfl, h1, h2, h3, fun w => by unfold runAt; rw [ho, Option.map_some, h1, h2]⟩
end
section
variable {ops : Array Oper} {Q : Exit → Act → World → Prop} {md : Region.Mode} {S : World → Prop}
end
section
theorem stepH_not {P : Program} {md : Region.Mode} {ops : Array Oper} {Q : Exit → Act → World → Prop} {S : World → Prop} {m i : Nat} {listed : Array Bool} {a : Act} {w : World} {d : Option Tmp} (hr : (ops[i]?).map (fun o => (Region.wanted o (yielded ops a.tmps), o.dst)) = some (false, d)) (h : S w ∧ wpAnyH P md ops Q S m (listed.setIfInBounds i true) (a.put d undef) w) : StepH P md ops Q S m listed a w i := by
  obtain ⟨o, ho⟩ := some_of hr
  rw [ho] at hr
  have h0 := Option.some.inj hr
  have h1 : Region.wanted o (yielded ops a.tmps) = false := congrArg Prod.fst h0
  have h2 : o.dst = d := congrArg Prod.snd h0
  refine stepH_of ho ?_
  rw [if_neg (by rw [h1]; decide), h2]
  exact h
theorem wpFrom_not {P : Program} {ops : Array Oper} {Q : Exit → Act → World → Prop} {k : Nat} {a : Act} {w : World} {d : Option Tmp} (hr : (ops[k]?).map (fun o => (Region.wanted o (yielded ops a.tmps), o.dst)) = some (false, d)) (h : wpFrom P ops Q (k + 1) (a.put d undef) w) : wpFrom P ops Q k a w := by
  obtain ⟨o, ho⟩ := some_of hr
  rw [ho] at hr
  have h0 := Option.some.inj hr
  have h1 : Region.wanted o (yielded ops a.tmps) = false := congrArg Prod.fst h0
  have h2 : o.dst = d := congrArg Prod.snd h0
  refine wpFrom_step ho fun K hK => ?_
  rw [if_neg (by rw [h1]; decide), h2]
  exact hK _ _ h
end
end Go.Proofs.Ytcjodiemgnihoaa
namespace Go.Proofs.Ytcjodiemgnihoaa
open Go.RowKit Go.Shelf
theorem ROk.elem {α : Type} {f : α → List Value} {n : Nat} {W : World} {v : Value} {l : List α} {e : TypeId} (h : ROk (.own f e n v l) W) (hn : ∀ x, (f x).length = n) {k : Nat} {x : α} (hx : l[k]? = some x) {ty e' : TypeId} (hu : Try.prog.underlying ty = some (.slice e')) (hs : ∀ W, (sizeOf e').run Try.prog W = .ok n W) :
    ∃ b o, (∀ W', (Instr.indexAt ty v (.int .i64 (k : Int))).run Try.prog W' = .ok (.pointer (some ⟨b, o, none⟩)) W') ∧ ∀ W', ROk (.own f e n v l) W' → ∀ j u, (f x)[j]? = some u → W'.cell? ⟨b, o + j, none⟩ = some u := by
  obtain ⟨b, o, _, _, hi, _⟩ := RSl.elem (h.rsl hn) hn hx hu hs
  refine ⟨b, o, hi, fun W' h' => ?_⟩
  obtain ⟨b', o', _, _, hi', hc'⟩ := RSl.elem (h'.rsl hn) hn hx hu hs
  have hq := (hi' W).symm.trans (hi W)
  obtain ⟨rfl, rfl⟩ : b' = b ∧ o' = o := by simpa using hq
  exact hc' W' (h'.rsl hn)
theorem ROk.slice {α : Type} {f : α → List Value} {n : Nat} {W : World} {v : Value} {l : List α} {e : TypeId} (h : ROk (.own f e n v l) W) (hn : ∀ x, (f x).length = n) : ∃ a c, v = .slice a l.length c := (h.rsl hn).slice
theorem ROk.one {α : Type} {f : α → List Value} {n : Nat} {W : World} {v : Value} {l : List α} {e : TypeId} (h : ROk (.own f e n v l) W) (hn : ∀ x, (f x).length = n) : v.oneCell' = true := by
  obtain ⟨a, c, rfl⟩ := h.slice hn
  rfl
end Go.Proofs.Ytcjodiemgnihoaa
namespace Go.Proofs.Ytcjodiemgnihoaa
open Go.RowKit Go.Shelf
theorem Sep.gain {w W W' : World} {F : List Nat} {l : List Res} {r : Res} (h : Sep w F l W) (h' : Sep W [] [r] W') : Sep w F (r :: l) W' :=
  h.add h'.b (h'.ok r (List.mem_singleton.2 rfl)) (fun k hk => (h'.new r (List.mem_singleton.2 rfl) k hk).elim (fun e => (List.not_mem_nil e).elim) id)
theorem remF {ops : Array Oper} {Q : Exit → Act → World → Prop} (x y : Operand) (T z : TypeId) (d : Option Tmp) (a b c : Int) {k : Nat} {A : Act} {w : World} (hb : b ≠ 0) (hc : Int.tmod a b = c) (h : wpFrom Try.prog ops Q (k + 1) (A.put d (.int .i64 c)) w)
    (hk : (ops[k]?).map (fun o => (Region.wanted o (yielded ops A.tmps), o.dst, o.op)) = some (true, d, .binOp .rem T x y z) := by kernel_rfl) (hx : A.eval x = .int .i64 a := by kernel_rfl) (hy : A.eval y = .int .i64 b := by kernel_rfl) : wpFrom Try.prog ops Q k A w := by
  subst hc
  obtain ⟨o, _, _, _, hop, hr⟩ := op_at (P := Try.prog) hk
  refine wpFrom_run ((hr w).trans ?_) h
  unfold execOp
  simp only [hop, hx, hy, Sem.run_bind, eqGuard_rem, binOp_rem, Op.intDiv, if_neg hb, Sem.run_pure, Result.andThen_ok]
def max2I (x y : Int) : Int := if y > x then y else x
def min2I (x y : Int) : Int := if y < x then y else x
theorem max2I_eq (x y : Int) : max2I x y = max x y := by unfold max2I; split <;> omega
theorem min2I_eq (x y : Int) : min2I x y = min x y := by unfold min2I; split <;> omega
theorem take_oneG {α : Type} {l : List α} {k : Nat} {x : α} (hx : l[k]? = some x) : l.take (k + 1) = l.take k ++ [x] := by
  obtain ⟨hk, rfl⟩ := List.getElem?_eq_some_iff.1 hx
  exact List.take_succ_eq_append_getElem hk
def atC (i : Int) (n : Nat) : Nat := (Int.tmod (Int.tmod i n + n) n).toNat
theorem atC_lt (i : Int) {n : Nat} (h : 0 < n) : atC i n < n := by
  unfold atC
  have h0 : (0 : Int) < n := by omega
  have h1 := Int.lt_tmod_of_pos i h0
  have h2 := Int.tmod_nonneg (a := Int.tmod i n + n) n (by omega)
  have h3 := Int.tmod_lt_of_pos (Int.tmod i n + n) h0
  omega
theorem tmod_up (i : Int) {n : Nat} (h : 0 < n) : 0 ≤ Int.tmod i n + n := by
  have h0 : (0 : Int) < n := by omega
  have h1 := Int.lt_tmod_of_pos i h0
  omega
theorem atC_eq (i : Int) {n : Nat} (h : 0 < n) : Int.tmod (Int.tmod i n + n) n = ((atC i n) : Int) := (Int.toNat_of_nonneg (Int.tmod_nonneg (a := Int.tmod i n + n) n (tmod_up i h))).symm
theorem atC_sum (i : Int) {n : Nat} (h : 0 < n) (hn : n ≤ 4611686018427387903) : IntKind.i64.wrap (Int.tmod i n + n) = Int.tmod i n + n := by
  have h0 : (0 : Int) < n := by omega
  have h1 := Int.lt_tmod_of_pos i h0
  have h2 := Int.tmod_lt_of_pos i h0
  exact IntWalk.i64_in _ (by omega)
section
variable {w W : World} {F : List Nat} {l : List Res}
theorem apart_symm {r s : Res} (h : Apart r s) : Apart s r := fun k hk e => h k e hk
theorem Sep.pick (h : Sep w F l W) (is : List Nat) {l' : List Res} (hn : is.Nodup) (hl : is.map (fun i => l[i]?) = l'.map some) : Sep w F l' W := by
  have hlen : is.length = l'.length := by have := congrArg List.length hl; rwa [List.length_map, List.length_map] at this
  have get : ∀ j (hj : j < l'.length), l[is[j]'(by omega)]? = some l'[j] := fun j hj => by
    have := congrArg (fun x => x[j]?) hl
    simp only [List.getElem?_map, List.getElem?_eq_getElem hj, List.getElem?_eq_getElem (show j < is.length by omega), Option.map_some, Option.some.injEq] at this
    exact this
  have mem : ∀ r ∈ l', r ∈ l := fun r hr => by
    obtain ⟨j, hj, rfl⟩ := List.mem_iff_getElem.1 hr
    exact List.mem_of_getElem? (get j hj)
  refine ⟨fun r hr => h.ok r (mem r hr), fun r hr => h.new r (mem r hr), List.pairwise_iff_getElem.2 fun i j hi hj hij => ?_, h.out⟩
  obtain ⟨hi1, hi2⟩ := List.getElem?_eq_some_iff.1 (get i hi)
  obtain ⟨hj1, hj2⟩ := List.getElem?_eq_some_iff.1 (get j hj)
  have hne : is[i]'(by omega) ≠ is[j]'(by omega) := fun e => by
    have := (List.nodup_iff_pairwise_ne.1 hn)
    exact List.pairwise_iff_getElem.1 this i j (by omega) (by omega) hij e
  rw [← hi2, ← hj2]
  rcases Nat.lt_or_gt_of_ne hne with k | k
  · exact List.pairwise_iff_getElem.1 h.apart _ _ hi1 hj1 k
  · exact apart_symm (List.pairwise_iff_getElem.1 h.apart _ _ hj1 hi1 k)
theorem Sep.conv {r r' : Res} (h : Sep w F (r :: l) W) (hh : r.holds W → r'.holds W) (hf : ∀ k ∈ r'.foot, k ∈ r.foot) : Sep w F (r' :: l) W := by
  have hr := h.ok r (List.mem_cons_self ..)
  refine ⟨fun s hs => ?_, fun s hs k hk => ?_, List.pairwise_cons.2 ⟨fun s hs k hk e => ?_, (List.pairwise_cons.1 h.apart).2⟩, h.out⟩
  · rcases List.mem_cons.1 hs with rfl | hs
    · exact ⟨hh hr.h, fun k hk => hr.lt k (hf k hk)⟩
    · exact h.ok s (List.mem_cons_of_mem _ hs)
  · rcases List.mem_cons.1 hs with rfl | hs
    · exact h.new r (List.mem_cons_self ..) k (hf k hk)
    · exact h.new s (List.mem_cons_of_mem _ hs) k hk
  · exact (List.pairwise_cons.1 h.apart).1 s hs k (hf k hk) e
end
-- HERE
end Go.Proofs.Ytcjodiemgnihoaa
namespace Go.Proofs.Ytcjodiemgnihoaa
open Go.RowKit Go.Shelf
def Res.oct (v : Value) (l : List UInt8) : Res where
  foot := if l.isEmpty then [] else v.ownBlock.toList
  holds := fun W => ∃ hi, BSl 0 hi W v l
  stab := fun {W W'} h ⟨hi, a, cap, e, hc, h0⟩ => by
    refine ⟨hi, a, cap, e, hc, ?_⟩
    rcases h0 with h0 | ⟨b, off, ha, hl, hh, ho⟩
    · exact .inl h0
    · subst e ha
      cases l with
      | nil => exact .inl rfl
      | cons x l => exact .inr ⟨b, off, rfl, hl, hh, fun k x hx => (World.cell?_of_block (a := ⟨b, _, none⟩) (h b (by simp [Value.ownBlock]))).trans (ho k x hx)⟩
theorem ROk.octs {W : World} {v : Value} {l : List UInt8} (h : ROk (.oct v l) W) : BSl 0 W.heap.size W v l := by
  obtain ⟨hi, a, cap, e, hc, h0 | ⟨b, off, ha, hl, hh, ho⟩⟩ := h.h
  · exact ⟨a, cap, e, hc, .inl h0⟩
  · subst e ha
    cases l with
    | nil => exact ⟨_, cap, rfl, hc, .inl rfl⟩
    | cons x l => exact ⟨_, cap, rfl, hc, .inr ⟨b, off, rfl, hl, h.lt b (by simp [Res.oct, Value.ownBlock]), ho⟩⟩
theorem BSl.wide {W : World} {lo hi lo' : Nat} {v : Value} {l : List UInt8} (h : BSl lo hi W v l) (h1 : lo' ≤ lo) : BSl lo' hi W v l := h.mono h1 (Nat.le_refl _)
theorem oct_foot {W : World} {lo hi : Nat} {v : Value} {l : List UInt8} (h : BSl lo hi W v l) : ∀ k ∈ (Res.oct v l).foot, lo ≤ k ∧ k < hi := by
  obtain ⟨a, cap, e, hc, h0 | ⟨b, off, ha, hl, hh, ho⟩⟩ := h
  · subst h0
    exact fun k hk => (List.not_mem_nil hk).elim
  · subst e ha
    intro k hk
    cases l with
    | nil => exact (List.not_mem_nil hk).elim
    | cons x l =>
      obtain rfl : k = b := by simpa [Res.oct, Value.ownBlock] using hk
      exact ⟨hl, hh⟩
theorem ROk.of_bsl {W : World} {lo hi : Nat} {v : Value} {l : List UInt8} (h : BSl lo hi W v l) (hh : hi ≤ W.heap.size) : ROk (.oct v l) W :=
  ⟨⟨hi, h.wide (Nat.zero_le _)⟩, fun k hk => Nat.lt_of_lt_of_le (oct_foot h k hk).2 hh⟩
theorem Sep.octN {w W W' : World} {F : List Nat} {l : List Res} (h : Sep w F l W) {v : Value} {x : List UInt8} (hs : BSl W.heap.size W'.heap.size W' v x) (hb : Below W.heap.size W W') : Sep w F (.oct v x :: l) W' :=
  h.add hb (.of_bsl hs (Nat.le_refl _)) (fun k hk => (oct_foot hs k hk).1)
theorem turn_oct {W W' : World} {r : Res} {v : Value} {l : List UInt8} (hb : Below W.heap.size W W') (hs : BSl W.heap.size W'.heap.size W' v l) : RTurn r (.oct v l) W W' :=
  ⟨.of_bsl hs (Nat.le_refl _), Out.of_below hb, fun k hk => .inr (oct_foot hs k hk).1⟩
def BF (F : List Nat) (W : World) (v : Value) (l : List UInt8) : Prop := ∃ lo hi, BSl lo hi W v l ∧ hi ≤ W.heap.size ∧ ∀ k ∈ F, k < lo ∨ hi ≤ k
theorem BF.bsl {F : List Nat} {W : World} {v : Value} {l : List UInt8} (h : BF F W v l) : BSl 0 W.heap.size W v l := by
  obtain ⟨lo, hi, h1, h2, _⟩ := h
  exact h1.mono (Nat.zero_le _) h2
theorem BF.out {F : List Nat} {w W : World} {v : Value} {l : List UInt8} (h : BF F w v l) (ho : Out F w W) : BF F W v l := by
  obtain ⟨lo, hi, ⟨a, cap, e, hc, h0⟩, h2, h3⟩ := h
  refine ⟨lo, hi, ⟨a, cap, e, hc, h0.imp id fun ⟨b, off, ha, hl, hh, hx⟩ => ⟨b, off, ha, hl, hh, fun k x hk => ?_⟩⟩, Nat.le_trans h2 ho.size, h3⟩
  refine (World.cell?_of_block (a := ⟨b, _, none⟩) (ho.block b (by omega) fun hF => ?_)).trans (hx k x hk)
  have := h3 b hF
  omega
theorem BF.new {W W' : World} {r : Res} {v : Value} {l : List UInt8} (h : ROk r W) (hs : BSl W.heap.size W'.heap.size W' v l) : BF r.foot W' v l := ⟨_, _, hs, Nat.le_refl _, fun k hk => .inl (h.lt k hk)⟩
theorem BF.arg {w W : World} {r : Res} {L : List Res} {lo hi : Nat} {v : Value} {l : List UInt8} (h : Sep w [] L W) (hr : r ∈ L) (hs : BSl lo hi w v l) (hh : hi ≤ w.heap.size) : BF r.foot W v l :=
  ⟨lo, hi, hs.below h.b hh, Nat.le_trans hh h.size, fun k hk => .inr (Nat.le_trans hh ((h.new r hr k hk).elim (fun e => (List.not_mem_nil e).elim) id))⟩
theorem BSl.slice {W : World} {lo hi : Nat} {v : Value} {l : List UInt8} (h : BSl lo hi W v l) : ∃ a c, v = .slice a l.length c ∧ l.length ≤ c := by
  obtain ⟨a, cap, e, hc, _⟩ := h
  exact ⟨a, cap, e, hc⟩
theorem BSl.lend {W : World} {lo hi : Nat} {a : Option Addr} {c : Nat} {l : List UInt8} (h : BSl lo hi W (.slice a l.length c) l) {k : Nat} (hk : k ≤ l.length) : BSl lo hi W (.slice a k k) (l.take k) := by
  obtain ⟨a', c', e', hc, h0⟩ := h
  cases e'
  have hl : (l.take k).length = k := List.length_take_of_le hk
  refine ⟨a, k, by rw [hl], by omega, ?_⟩
  rcases h0 with rfl | ⟨b, off, ha, h1, h2, h3⟩
  · exact .inl List.take_nil
  · exact .inr ⟨b, off, ha, h1, h2, fun j x hj => h3 j x (by have hlt := (List.getElem?_eq_some_iff.1 hj).1; rw [List.getElem?_take_of_lt (by omega)] at hj; exact hj)⟩
theorem BSl.cap {W : World} {lo hi : Nat} {a : Option Addr} {c : Nat} {l : List UInt8} (h : BSl lo hi W (.slice a l.length c) l) : BSl lo hi W (.slice a l.length l.length) l := by
  obtain ⟨a', c', e', hc, h0⟩ := h
  cases e'
  exact ⟨a, _, rfl, Nat.le_refl _, h0⟩
theorem slice_hm {W0 : World} {lo hi : Nat} {a : Option Addr} {c : Nat} {l : List UInt8} (h : BSl lo hi W0 (.slice a l.length c) l) {k : Nat} (hk : k ≤ l.length) (W : World) :
    (Instr.sliceAt 22 (.slice a l.length c) none (some (.int .i64 (k : Int))) (some (.int .i64 (k : Int)))).run Try.prog W = .ok (.slice a k k) W := by
  obtain ⟨a', c', e', hc, h0⟩ := h
  cases e'
  have he : Try.prog.elem 22 = 5 := by kernel_rfl
  have hu : Try.prog.underlying 22 = some (.slice (Try.prog.elem 22)) := by rw [he]; exact Try.underlying22
  have hs : (sizeOf (Try.prog.elem 22)).run Try.prog W = .ok 1 W := by rw [he]; kernel_rfl
  rw [run_sliceAt_slice W 22 _ _ _ _ hu, run_slice_hm W 22 a l.length c hu .i64 .i64 (k : Int) (k : Int) (by omega) (by omega) (by omega), hs]
  show Result.ok (sliced a 0 k k 1) W = _
  unfold sliced
  rw [Nat.sub_zero]
  split
  · rfl
  · next hne =>
    rcases h0 with rfl | ⟨b, off, rfl, _⟩
    · exact absurd (Nat.le_zero.1 hk) hne
    · simp [Addr.add]
theorem addr_add' (b o j : Nat) : (⟨b, o, none⟩ : Addr).add j = ⟨b, o + j, none⟩ := by cases j <;> simp [Addr.add]
theorem firstB {W : World} {lo hi : Nat} {a : Option Addr} {c : Nat} {l : List UInt8} (h : BSl lo hi W (.slice a l.length c) l) : (Builtin.firstCells 1 l.length (.slice a l.length c)).run Try.prog W = .ok (l.map bv).toArray W := by
  obtain ⟨a', c', e', _, h0⟩ := h
  cases e'
  cases a with
  | none =>
    obtain rfl : l = [] := by
      rcases h0 with h0 | ⟨_, _, ha, _⟩
      · exact h0
      · cases ha
    exact run_firstCells_none W 1 0 0 c
  | some ad =>
    refine run_firstCells_some W 1 l.length ad l.length c (l.map bv) (by simp) fun j v hj => ?_
    rcases h0 with rfl | ⟨b, off, ha, _, _, ho⟩
    · simp at hj
    · cases ha
      rw [List.getElem?_map] at hj
      obtain ⟨y, hy, rfl⟩ := Option.map_eq_some_iff.1 hj
      rw [addr_add']
      exact ho j y hy
theorem srcB {W : World} {lo hi : Nat} {a : Option Addr} {c : Nat} {l : List UInt8} (h : BSl lo hi W (.slice a l.length c) l) : Src Try.prog 1 22 (.slice a l.length c) l.length (l.map bv) W :=
  ⟨.inl ⟨_, Try.underlying22⟩, fun _ => rfl, firstB h, firstB (W := W.drew) h, by simp, fun u hu => by obtain ⟨_, _, rfl⟩ := List.mem_map.1 hu; rfl⟩
theorem infoOct1 : (Try.prog.info? 5).map (fun i => (i.zero, i.size, i.bytes)) = some (some (.int .u8 0), 1, 1) := by kernel_rfl
theorem app_cap {W : World} {lo hi lo' hi' : Nat} {a : Option Addr} {c : Nat} {l : List UInt8} (h0 : BSl lo hi W (.slice a l.length c) l) {x : Value} {ys : List UInt8} (hx : BSl lo' hi' W x ys) (hh : hi ≤ W.heap.size) (hr : l.length + ys.length ≤ 140737488355328) (ty : TypeId) :
    ∃ v' W', (Builtin.append_ #[22, 22] ty #[.slice a l.length l.length, x]).run Try.prog W = .ok v' W' ∧ RTurn (.oct (.slice a l.length c) l) (.oct v' (l ++ ys)) W W' := by
  have h := h0.cap
  obtain ⟨i0, hi0, hz0, hz1, hz2⟩ := info_parts infoOct1
  obtain ⟨b, c', rfl, hc⟩ := hx.slice
  have hsr := srcB hx
  cases ys with
  | nil =>
    refine ⟨_, W, run_append_nothing W 22 22 ty 5 i0 Try.underlying22 hi0 a _ _ (Nat.le_refl _) _ (by rw [hz1]; exact hsr), ?_⟩
    rw [List.append_nil]
    exact ⟨.of_bsl h hh, Out.refl _ _, fun k hk => .inl (by cases a <;> exact hk)⟩
  | cons y ys =>
    have hrun := run_append_grow_src (P := Try.prog) W 22 22 ty 5 i0 (.int .u8 0) Try.underlying22 hi0 hz0 a l.length l.length (l.map bv) (by rw [hz1]; exact firstB (W := W.drew) h) _ _ _ (by rw [hz1]; exact hsr) (by simp) (by simp only [List.length_cons] at hr ⊢; omega)
      (growslice_fits (by simp) (by rw [hz2]; simp only [List.length_cons] at hr ⊢; omega))
    refine ⟨_, _, hrun, turn_oct ((Below.refl _ W).drew.alloc (Nat.le_refl _) _) ⟨_, _, by rw [List.length_append], by rw [List.length_append]; exact grownCap_ge _ _ _ _, .inr ⟨W.heap.size, 0, rfl, Nat.le_refl _, (by show W.heap.size < (W.heap.push _).size; rw [Array.size_push]; exact Nat.lt_succ_self _), fun k z hz => ?_⟩⟩⟩
    rw [Nat.zero_add]
    refine (cell_of_row _ W.heap.size k _ 5 (0, 0) (heap_alloc_new W.drew _)).trans ?_
    rw [← List.map_append, ← Array.getElem?_toList, Array.toList_append, List.getElem?_append_left (by simpa using (List.getElem?_eq_some_iff.1 hz).1)]
    simp only [List.getElem?_map, hz, Option.map_some]
def txB (l : List UInt8) : ByteArray := ⟨l.toArray⟩
theorem cvT {W : World} {lo hi : Nat} {v : Value} {l : List UInt8} (h : BSl lo hi W v l) : (convert 22 9 v).run Try.prog W = .ok (.string (txB l)) W := run_string _ 5 _ Try.underlying22 Try.underlying5 Try.underlying9 W h
section
variable {ops : Array Oper} {Q : Exit → Act → World → Prop}
theorem cvF {s t : TypeId} (x : Operand) (d : Option Tmp) (v u : Value) {k : Nat} {a : Act} {w w' : World} (he : (convert s t v).run Try.prog w = .ok u w') (h : wpFrom Try.prog ops Q (k + 1) (a.put d u) w')
    (hk : (ops[k]?).map (fun o => (Region.wanted o (yielded ops a.tmps), o.dst, o.op)) = some (true, d, .convert s t x) := by kernel_rfl) (hx : a.eval x = v := by kernel_rfl) : wpFrom Try.prog ops Q k a w := by
  obtain ⟨o, _, _, _, hop, hr⟩ := op_at (P := Try.prog) hk
  refine wpFrom_run ((hr w).trans ?_) h
  unfold execOp
  simp only [hop, hx, Sem.run_bind, he, Result.andThen_ok]
  rfl
theorem cvD {md : Region.Mode} {S : World → Prop} {s t : TypeId} (x : Operand) (d : Option Tmp) (v u : Value) {m i : Nat} {listed : Array Bool} {a : Act} {w w' : World} (he : (convert s t v).run Try.prog w = .ok u w') (hS : S w') (h : wpAnyH Try.prog md ops Q S m (listed.setIfInBounds i true) (a.put d u) w')
    (hk : (ops[i]?).map (fun o => (Region.wanted o (yielded ops a.tmps), o.dst, o.op)) = some (true, d, .convert s t x) := by kernel_rfl) (hx : a.eval x = v := by kernel_rfl) : StepH Try.prog md ops Q S m listed a w i := by
  obtain ⟨o, _, _, _, hop, hr⟩ := op_at (P := Try.prog) hk
  refine stepH_run ((hr w).trans ?_) hS h
  unfold execOp
  simp only [hop, hx, Sem.run_bind, he, Result.andThen_ok]
  rfl
end
theorem cvL (W : World) (l : List UInt8) : ∃ W', (convert 22 22 (.slice (some ⟨W.heap.size, 0, none⟩) l.length l.length)).run Try.prog (W.alloc (.cells (l.map bv).toArray 5)) = .ok (.slice (some ⟨W.heap.size, 0, none⟩) l.length l.length) W' ∧
    Below W.heap.size W W' ∧ BSl W.heap.size W'.heap.size W' (.slice (some ⟨W.heap.size, 0, none⟩) l.length l.length) l := by
  refine ⟨_, Lib.run_convert_bytes_const (P := Try.prog) W 22 5 (l.map bv).toArray l.length l.length Try.underlying22 Try.underlying5, (Below.refl _ W).alloc (Nat.le_refl _) _, ⟨_, l.length, rfl, Nat.le_refl _, .inr ⟨W.heap.size, 0, rfl, Nat.le_refl _, (by show W.heap.size < (W.heap.push _).size; rw [Array.size_push]; exact Nat.lt_succ_self _), fun k x hx => ?_⟩⟩⟩
  rw [Nat.zero_add]
  refine (cell_of_row _ W.heap.size k _ 5 _ (heap_alloc_new W _)).trans ?_
  simp [hx]
-- HERE
end Go.Proofs.Ytcjodiemgnihoaa
namespace Go.Proofs.Ytcjodiemgnihoaa
open Go.RowKit Go.Shelf
structure Dk where
  rm : Nat
  o : List UInt8
  su : Nat
structure OkD (D : Dk) : Prop where
  room : D.rm ≤ 65536
  len : D.o.length ≤ D.rm
  sure : D.su ≤ D.o.length
def dkc (b : Bool) (r : Int) (v : Value) (s : Int) : List Value := [.bool b, .int .i64 r, v, .int .i64 s]
def DKR (B : Nat) (D : Dk) (v : Value) : List Res := [.blk B 57 (dkc true (D.rm : Int) v (D.su : Int)), .oct v D.o]
def DkR (B : Nat) (r : Res) (D : Dk) (a : Value) (W : World) (e : Ending) (W' : World) : Prop := e = .returned a ∧ ∃ v, RTurn r (.join (DKR B D v)) W W'
structure DkV (W : World) (B : Nat) (D : Dk) (v : Value) : Prop where
  b : Blk W B 57 (dkc true (D.rm : Int) v (D.su : Int))
  o : BSl 0 W.heap.size W v D.o
theorem DkV.of {W : World} {B : Nat} {D : Dk} {v : Value} (h : ROk (.join (DKR B D v)) W) : DkV W B D v := by
  have hs := Sep.begin h
  exact ⟨hs.at 0 rfl, (hs.oka 1 rfl).octs⟩
theorem DkV.below {W W' : World} {B : Nat} {D : Dk} {v : Value} (h : DkV W B D v) (hb : Below W.heap.size W W') : DkV W' B D v := ⟨h.b.below hb h.b.lt, (h.o.below hb (Nat.le_refl _)).mono (Nat.le_refl _) hb.size⟩
def NoD (W : World) (p : Value) : Prop := p = .pointer none ∨ ∃ B, p = .pointer (some ⟨B, 0, none⟩) ∧ Blk W B 57 (dkc false 0 (.slice none 0 0) 0)
theorem NoD.below {W W' : World} {p : Value} (h : NoD W p) (hb : Below W.heap.size W W') : NoD W' p := by
  rcases h with h | ⟨B, h1, h2⟩
  · exact .inl h
  · exact .inr ⟨B, h1, h2.below hb h2.lt⟩
def roomN (n : Int) : Nat := (max 0 (min n 65536)).toNat
def newD (n : Int) : Dk := ⟨roomN n, [], 0⟩
def putD (D : Dk) (l : List UInt8) : Dk := { D with o := D.o ++ l }
def sureD (D : Dk) : Dk := { D with su := D.o.length }
def leaveD (D : Dk) (k : Nat) : Dk := { D with o := D.o.take k, su := k }
def keepN (D : Dk) (n : Int) : Nat := D.su + (max 0 (min n ((D.o.length : Int) - (D.su : Int)))).toNat
def writeD (D : Dk) (l : List UInt8) : Dk × Int := if D.rm - D.o.length < l.length then (D, 10) else (putD D l, 0)
def trimD (D : Dk) (n : Int) : Dk × Int := if n < 0 ∨ (D.o.length : Int) < n then (D, 4) else (leaveD D n.toNat, 0)
theorem new_ok (n : Int) : OkD (newD n) := ⟨by show roomN n ≤ 65536; unfold roomN; omega, Nat.zero_le _, Nat.le_refl _⟩
theorem sure_ok {D : Dk} (h : OkD D) : OkD (sureD D) := ⟨h.room, h.len, Nat.le_refl _⟩
theorem leave_ok {D : Dk} (h : OkD D) {k : Nat} (hk : k ≤ D.o.length) : OkD (leaveD D k) := ⟨h.room, by show (D.o.take k).length ≤ D.rm; rw [List.length_take]; have := h.len; omega, by show k ≤ (D.o.take k).length; rw [List.length_take]; omega⟩
theorem keep_le {D : Dk} (h : OkD D) (n : Int) : keepN D n ≤ D.o.length := by have := h.sure; unfold keepN; omega
theorem keep_ge (D : Dk) (n : Int) : D.su ≤ keepN D n := by unfold keepN; omega
theorem write_ok {D : Dk} (h : OkD D) (l : List UInt8) : OkD (writeD D l).1 := by
  unfold writeD
  split
  · exact h
  · exact ⟨h.room, by show (D.o ++ l).length ≤ D.rm; rw [List.length_append]; have := h.len; omega, by show D.su ≤ (D.o ++ l).length; rw [List.length_append]; have := h.sure; omega⟩
-- HERE
end Go.Proofs.Ytcjodiemgnihoaa
namespace Go.Proofs.Ytcjodiemgnihoaa
open Go.RowKit Go.Shelf
theorem octs_beJ (l : List UInt8) : octs (be l) l.length = l := by
  have h : ∀ (n : Nat) (l : List UInt8), l.length = n → octs (be l) n = l := by
    intro n
    induction n with
    | zero => intro l hl; rw [List.length_eq_zero_iff.1 hl]; rfl
    | succ n ih =>
      intro l hl
      have hne : l ≠ [] := fun e => by rw [e] at hl; simp at hl
      obtain ⟨r, x, rfl⟩ : ∃ r x, l = r ++ [x] := ⟨l.dropLast, l.getLast hne, (List.dropLast_concat_getLast hne).symm⟩
      have hr : r.length = n := by simpa using hl
      have hx := x.toNat_lt
      rw [octs_snoc, be_snoc]
      have h1 : (be r * 256 + x.toNat) / 256 = be r := by omega
      have h2 : oct (be r * 256 + x.toNat) 0 = x := by
        unfold oct
        rw [show (be r * 256 + x.toNat) / 2 ^ (0 * 8) = be r * 256 + x.toNat by simp]
        apply UInt8.toNat_inj.1
        rw [UInt8.toNat_ofNat']
        omega
      rw [h1, h2, ih r hr]
  exact h l.length l rfl
def hd4 (l : List UInt8) : List UInt8 := (sumL cb sq l).take 4
theorem sumL_len (l : List UInt8) : (sumL cb sq l).length = 32 := by
  unfold sumL
  rw [sumTo_length]
theorem hd4_len (l : List UInt8) : (hd4 l).length = 4 := by
  unfold hd4
  rw [List.length_take, sumL_len]
  rfl
def frameL (l : List UInt8) : List UInt8 := octs l.length 2 ++ (hd4 l ++ l)
theorem frame_len (l : List UInt8) : (frameL l).length = 6 + l.length := by
  unfold frameL
  rw [List.length_append, List.length_append, octs_length, hd4_len]
  omega
def framesL (ls : List (List UInt8)) : List UInt8 := (ls.map frameL).flatten
theorem frames_nil : framesL [] = [] := rfl
theorem frames_cons (r : List UInt8) (ls : List (List UInt8)) : framesL (r :: ls) = frameL r ++ framesL ls := rfl
theorem frames_app (a b : List (List UInt8)) : framesL (a ++ b) = framesL a ++ framesL b := by
  unfold framesL
  rw [List.map_append, List.flatten_append]
theorem frames_one (r : List UInt8) : framesL [r] = frameL r := by rw [frames_cons, frames_nil, List.append_nil]
theorem frames_snoc (a : List (List UInt8)) (r : List UInt8) : framesL (a ++ [r]) = framesL a ++ frameL r := by rw [frames_app, frames_one]
def firstN (b : List UInt8) : Nat :=
  if 6 ≤ b.length ∧ 6 + be (b.take 2) ≤ b.length ∧ be (b.take 2) ≤ 1024 ∧ hd4 ((b.drop 6).take (be (b.take 2))) = (b.drop 2).take 4 then 6 + be (b.take 2) else 0
theorem parts6 (b : List UInt8) (n : Nat) : b.take (6 + n) = b.take 2 ++ ((b.drop 2).take 4 ++ (b.drop 6).take n) := by
  rw [show 6 + n = 2 + (4 + n) by omega, List.take_add, List.take_add, List.drop_drop]
theorem frame_at {b : List UInt8} (h6 : 6 ≤ b.length) (hn : 6 + be (b.take 2) ≤ b.length) :
    frameL ((b.drop 6).take (be (b.take 2))) = b.take (6 + be (b.take 2)) ↔ hd4 ((b.drop 6).take (be (b.take 2))) = (b.drop 2).take 4 := by
  have hl : ((b.drop 6).take (be (b.take 2))).length = be (b.take 2) := by rw [List.length_take, List.length_drop]; omega
  have h2 : octs (be (b.take 2)) 2 = b.take 2 := by
    have h := octs_beJ (b.take 2)
    rwa [List.length_take, Nat.min_eq_left (by omega)] at h
  have h4 : ((b.drop 2).take 4).length = 4 := by rw [List.length_take, List.length_drop]; omega
  rw [parts6]
  generalize hq : (b.drop 6).take (be (b.take 2)) = q at *
  unfold frameL
  rw [hl, h2, List.append_cancel_left_eq]
  exact ⟨fun h => (List.append_inj h (by rw [hd4_len, h4])).1, fun h => by rw [h]⟩
theorem first_frame {r : List UInt8} (hr : r.length ≤ 1024) (s : List UInt8) : firstN (frameL r ++ s) = 6 + r.length := by
  have h2 : (frameL r ++ s).take 2 = octs r.length 2 := by
    unfold frameL
    rw [List.append_assoc, List.take_left' (octs_length _ _)]
  have hb : be ((frameL r ++ s).take 2) = r.length := by rw [h2, be_octs]; omega
  have hl := frame_len r
  have e4 := hd4_len r
  have e2 := octs_length r.length 2
  have d2 : (frameL r ++ s).drop 2 = hd4 r ++ (r ++ s) := by unfold frameL; rw [List.append_assoc, List.drop_left' e2, List.append_assoc]
  have d6 : (frameL r ++ s).drop 6 = r ++ s := by rw [show 6 = 2 + 4 from rfl, ← List.drop_drop, d2, List.drop_left' e4]
  have hc : hd4 (((frameL r ++ s).drop 6).take r.length) = ((frameL r ++ s).drop 2).take 4 := by rw [d6, d2, List.take_left' rfl, List.take_left' e4]
  unfold firstN
  rw [hb, if_pos ⟨by rw [List.length_append]; omega, by rw [List.length_append]; omega, hr, hc⟩]
theorem first_short {b : List UInt8} (h : b.length < 6) : firstN b = 0 := by
  unfold firstN
  rw [if_neg (fun x => by omega)]
theorem first_torn {r : List UInt8} (hr : r.length ≤ 1024) (s : List UInt8) {m : Nat} (hm : m < 6 + r.length) : firstN ((frameL r ++ s).take m) = 0 := by
  have hl := frame_len r
  by_cases h6 : m < 6
  · exact first_short (by rw [List.length_take]; omega)
  · have h2 : ((frameL r ++ s).take m).take 2 = octs r.length 2 := by
      unfold frameL
      rw [List.take_take, Nat.min_eq_left (by omega), List.append_assoc, List.take_left' (octs_length _ _)]
    have hb : be (((frameL r ++ s).take m).take 2) = r.length := by rw [h2, be_octs]; omega
    unfold firstN
    rw [hb, if_neg (fun x => by have := x.2.1; rw [List.length_take] at this; omega)]
theorem first_le (b : List UInt8) : firstN b ≤ b.length := by
  unfold firstN
  split
  · next h => exact h.2.1
  · exact Nat.zero_le _
theorem first_is {b : List UInt8} (h : firstN b ≠ 0) : ∃ r, r = (b.drop 6).take (firstN b - 6) ∧ r.length ≤ 1024 ∧ firstN b = 6 + r.length ∧ b.take (firstN b) = frameL r := by
  unfold firstN at h ⊢
  split
  · next hc =>
    have hf := (frame_at hc.1 hc.2.1).2 hc.2.2.2
    have hl : ((b.drop 6).take (be (b.take 2))).length = be (b.take 2) := by rw [List.length_take, List.length_drop]; have := hc.2.1; omega
    refine ⟨_, rfl, ?_, ?_, ?_⟩
    · rw [Nat.add_sub_cancel_left, hl]; exact hc.2.2.1
    · rw [Nat.add_sub_cancel_left, hl]
    · rw [Nat.add_sub_cancel_left]; exact hf.symm
  · next hc => rw [if_neg hc] at h; exact absurd rfl h
def Fits (ls : List (List UInt8)) : Prop := ∀ r ∈ ls, r.length ≤ 1024
structure Spl (b : List UInt8) (rs : List (List UInt8)) (n : Nat) : Prop where
  fits : Fits rs
  len : n = (framesL rs).length
  le : n ≤ b.length
  is : b.take n = framesL rs
  stop : firstN (b.drop n) = 0
theorem spl_one {b : List UInt8} {rs : List (List UInt8)} {n : Nat} (h : Spl b rs n) : ∀ {rs' : List (List UInt8)} {n' : Nat}, Spl b rs' n' → rs = rs' ∧ n = n' := by
  have key : ∀ (rs : List (List UInt8)) (b : List UInt8) (n : Nat) (rs' : List (List UInt8)) (n' : Nat), Spl b rs n → Spl b rs' n' → rs = rs' := by
    intro rs
    induction rs with
    | nil =>
      intro b n rs' n' h h'
      cases rs' with
      | nil => rfl
      | cons r rs' =>
        exfalso
        have e0 : n = 0 := h.len
        have hst := h.stop
        rw [e0, List.drop_zero] at hst
        have e : b = frameL r ++ (framesL rs' ++ b.drop n') := by
          have := h'.is
          rw [frames_cons] at this
          rw [← List.append_assoc, ← this, List.take_append_drop]
        rw [e, first_frame (h'.fits r (List.mem_cons_self ..))] at hst
        omega
    | cons r rs ih =>
      intro b n rs' n' h h'
      have e : b = frameL r ++ (framesL rs ++ b.drop n) := by
        have := h.is
        rw [frames_cons] at this
        rw [← List.append_assoc, ← this, List.take_append_drop]
      cases rs' with
      | nil =>
        exfalso
        have e0 : n' = 0 := h'.len
        have hst := h'.stop
        rw [e0, List.drop_zero, e, first_frame (h.fits r (List.mem_cons_self ..))] at hst
        omega
      | cons r' rs' =>
        have e' : b = frameL r' ++ (framesL rs' ++ b.drop n') := by
          have := h'.is
          rw [frames_cons] at this
          rw [← List.append_assoc, ← this, List.take_append_drop]
        have hlen : r.length = r'.length := by
          have h1 := first_frame (h.fits r (List.mem_cons_self ..)) (framesL rs ++ b.drop n)
          have h2 := first_frame (h'.fits r' (List.mem_cons_self ..)) (framesL rs' ++ b.drop n')
          rw [← e] at h1
          rw [← e'] at h2
          omega
        have hf := List.append_inj (e.symm.trans e') (by rw [frame_len, frame_len, hlen])
        have hr : r = r' := by
          have := hf.1
          unfold frameL at this
          have h1 := (List.append_inj this (by rw [octs_length, octs_length])).2
          exact (List.append_inj h1 (by rw [hd4_len, hd4_len])).2
        subst hr
        have sub : ∀ {rs n}, Spl b (r :: rs) n → Spl (b.drop (frameL r).length) rs (n - (frameL r).length) := fun {rs n} h => by
          have hn := h.len
          rw [frames_cons, List.length_append] at hn
          have hle := h.le
          refine ⟨fun x hx => h.fits x (List.mem_cons_of_mem _ hx), by omega, by rw [List.length_drop]; omega, ?_, ?_⟩
          · have := h.is
            rw [frames_cons] at this
            have hd : (b.take n).drop (frameL r).length = framesL rs := by rw [this, List.drop_left' rfl]
            rw [← hd, List.drop_take]
          · rw [List.drop_drop, show (frameL r).length + (n - (frameL r).length) = n by omega]
            exact h.stop
        rw [ih _ _ _ _ (sub h) (sub h')]
  intro rs' n' h'
  have e := key rs b n rs' n' h h'
  subst e
  exact ⟨rfl, h.len.trans h'.len.symm⟩
theorem spl_begin (b : List UInt8) (h : firstN b = 0) : Spl b [] 0 := ⟨fun _ h => (List.not_mem_nil h).elim, rfl, Nat.zero_le _, by rw [List.take_zero]; rfl, by rw [List.drop_zero]; exact h⟩
theorem spl_cut : ∀ (ls : List (List UInt8)) (m : Nat), Fits ls → ∃ j, j ≤ ls.length ∧ Spl ((framesL ls).take m) (ls.take j) (framesL (ls.take j)).length ∧ ∀ q, q ≤ ls.length → (framesL (ls.take q)).length ≤ m → q ≤ j
  | [], m, _ => ⟨0, Nat.le_refl _, by rw [frames_nil, List.take_nil]; exact spl_begin [] (first_short (by decide)), fun q hq _ => hq⟩
  | r :: ls, m, hf => by
    have hr := hf r (List.mem_cons_self ..)
    have hl := frame_len r
    by_cases hm : m < 6 + r.length
    · refine ⟨0, Nat.zero_le _, ?_, fun q hq hqm => ?_⟩
      · rw [List.take_zero]
        exact spl_begin _ (by rw [frames_cons]; exact first_torn hr _ hm)
      · cases q with
        | zero => exact Nat.le_refl _
        | succ q =>
          rw [List.take_succ_cons, frames_cons, List.length_append] at hqm
          omega
    · obtain ⟨j, hj, hs, hq⟩ := spl_cut ls (m - (6 + r.length)) (fun x hx => hf x (List.mem_cons_of_mem _ hx))
      have e : (framesL (r :: ls)).take m = frameL r ++ (framesL ls).take (m - (6 + r.length)) := by
        rw [frames_cons, List.take_append, hl, List.take_of_length_le (by omega)]
      refine ⟨j + 1, by simpa using hj, ?_, fun q hq' hqm => ?_⟩
      · rw [e, List.take_succ_cons, frames_cons, List.length_append]
        refine ⟨fun x hx => ?_, by rw [frames_cons, List.length_append], by rw [List.length_append]; have := hs.le; omega, ?_, ?_⟩
        · rcases List.mem_cons.1 hx with rfl | hx
          · exact hr
          · exact hs.fits x hx
        · rw [List.take_length_add_append, hs.is, frames_cons]
        · rw [List.drop_length_add_append]
          exact hs.stop
      · cases q with
        | zero => exact Nat.zero_le _
        | succ q =>
          rw [List.take_succ_cons, frames_cons, List.length_append] at hqm
          have := hq q (by simpa using hq') (by omega)
          omega
theorem spl_all {ls : List (List UInt8)} (h : Fits ls) : Spl (framesL ls) ls (framesL ls).length := by
  obtain ⟨j, hj, hs, hq⟩ := spl_cut ls (framesL ls).length h
  have := hq ls.length (Nat.le_refl _) (by rw [List.take_length]; exact Nat.le_refl _)
  rw [show j = ls.length by omega, List.take_length, List.take_length] at hs
  exact hs
theorem spl_more {b : List UInt8} {rs : List (List UInt8)} {n : Nat} (h0 : Fits rs) (h1 : n = (framesL rs).length) (h2 : n ≤ b.length) (h3 : b.take n = framesL rs) (hs : firstN (b.drop n) ≠ 0) :
    let r := ((b.drop n).drop 6).take (firstN (b.drop n) - 6)
    Fits (rs ++ [r]) ∧ n + firstN (b.drop n) = (framesL (rs ++ [r])).length ∧ n + firstN (b.drop n) ≤ b.length ∧ b.take (n + firstN (b.drop n)) = framesL (rs ++ [r]) := by
  obtain ⟨r, hr, hl, hn, ht⟩ := first_is hs
  intro r'
  obtain rfl : r' = r := hr.symm
  have hle := first_le (b.drop n)
  rw [List.length_drop] at hle
  refine ⟨fun x hx => ?_, ?_, by omega, ?_⟩
  · rcases List.mem_append.1 hx with hx | hx
    · exact h0 x hx
    · rw [List.mem_singleton.1 hx]
      exact hl
  · rw [frames_snoc, List.length_append, frame_len, ← h1, hn]
  · rw [List.take_add, h3, frames_snoc, ht]
theorem frames_len_ge (ls : List (List UInt8)) : 6 * ls.length ≤ (framesL ls).length := by
  induction ls with
  | nil => exact Nat.zero_le _
  | cons r ls ih =>
    rw [frames_cons, List.length_append, frame_len, List.length_cons]
    omega
theorem frames_len (ls : List (List UInt8)) : (framesL ls).length = 6 * ls.length + ls.flatten.length := by
  induction ls with
  | nil => rfl
  | cons r ls ih =>
    rw [frames_cons, List.length_append, frame_len, List.length_cons, List.flatten_cons, List.length_append, ih]
    omega
def longB (ls : List (List UInt8)) : Bool := ls.any fun r => decide (1024 < r.length)
theorem long_no {ls : List (List UInt8)} (h : longB ls = false) : Fits ls := fun r hr => by
  have := List.any_eq_false.1 h r hr
  simpa using this
theorem long_of {ls : List (List UInt8)} (h : Fits ls) : longB ls = false := List.any_eq_false.2 fun r hr => by
  have := h r hr
  simpa using this
def appJ (D : Dk) (ls : List (List UInt8)) : Dk × Int := if longB ls then (D, 5) else writeD D (framesL ls)
theorem app_ok {D : Dk} (h : OkD D) (ls : List (List UInt8)) : OkD (appJ D ls).1 := by
  unfold appJ
  split
  · exact h
  · exact write_ok h _
theorem app_cases {D : Dk} (h : OkD D) (ls : List (List UInt8)) : (Fits ls ∧ D.o.length + (framesL ls).length ≤ D.rm ∧ appJ D ls = (putD D (framesL ls), 0)) ∨ ((appJ D ls).1 = D ∧ ((appJ D ls).2 = 5 ∨ (appJ D ls).2 = 10)) := by
  have h1 := h.len
  unfold appJ
  split
  · exact .inr ⟨rfl, .inl rfl⟩
  · next hl =>
    unfold writeD
    split
    · exact .inr ⟨rfl, .inr rfl⟩
    · exact .inl ⟨long_no (by simpa using hl), by omega, rfl⟩
-- HERE
end Go.Proofs.Ytcjodiemgnihoaa
namespace Go.Proofs.Ytcjodiemgnihoaa
open Go.RowKit Go.Shelf
structure Zs where
  a : Option Addr
  c : Nat
  l : List UInt8
abbrev Zs.v (z : Zs) : Value := .slice z.a z.l.length z.c
def zsc (z : Zs) : List Value := [.slice z.a z.l.length z.c]
theorem zsc_len (z : Zs) : (zsc z).length = 1 := rfl
theorem zsc_one (z : Zs) : ∀ u ∈ zsc z, u.oneCell' = true := fun u hu => by obtain rfl := List.mem_singleton.1 hu; rfl
theorem infoZs : (Try.prog.info? 22).map (fun i => (i.zero, i.size, i.bytes)) = some (some (.slice none 0 0), 1, 24) := by kernel_rfl
def textsZ (zs : List Zs) : List (List UInt8) := zs.map (·.l)
theorem textsZ_len (zs : List Zs) : (textsZ zs).length = zs.length := List.length_map ..
theorem textsZ_app (a b : List Zs) : textsZ (a ++ b) = textsZ a ++ textsZ b := List.map_append
theorem textsZ_take (zs : List Zs) (k : Nat) : textsZ (zs.take k) = (textsZ zs).take k := List.map_take
theorem textsZ_at {zs : List Zs} {k : Nat} {z : Zs} (h : zs[k]? = some z) : (textsZ zs)[k]? = some z.l := by
  unfold textsZ
  rw [List.getElem?_map, h]
  rfl
def Holds (n : Nat) (W : World) (zs : List Zs) : Prop := ∀ z ∈ zs, BSl 0 n W z.v z.l
theorem Holds.below {n m : Nat} {W W' : World} {zs : List Zs} (h : Holds n W zs) (hb : Below m W W') (hn : n ≤ m) : Holds n W' zs := fun z hz => (h z hz).below hb hn
theorem Holds.mono {n m : Nat} {W : World} {zs : List Zs} (h : Holds n W zs) (hn : n ≤ m) : Holds m W zs := fun z hz => (h z hz).mono (Nat.le_refl _) hn
theorem Holds.up {W W' : World} {zs : List Zs} (h : Holds W.heap.size W zs) (hb : Below W.heap.size W W') : Holds W'.heap.size W' zs := (h.below hb (Nat.le_refl _)).mono hb.size
theorem Holds.app {n : Nat} {W : World} {a b : List Zs} (h : Holds n W a) (h' : Holds n W b) : Holds n W (a ++ b) := fun z hz => (List.mem_append.1 hz).elim (h z) (h' z)
theorem Holds.take {n : Nat} {W : World} {a : List Zs} (h : Holds n W a) (k : Nat) : Holds n W (a.take k) := fun z hz => h z (List.mem_of_mem_take hz)
theorem Holds.get {n k : Nat} {W : World} {zs : List Zs} {z : Zs} (h : Holds n W zs) (hz : zs[k]? = some z) : BSl 0 n W z.v z.l := h z (List.mem_of_getElem? hz)
theorem Holds.one {n : Nat} {W : World} {z : Zs} (h : BSl 0 n W z.v z.l) : Holds n W [z] := fun y hy => by obtain rfl := List.mem_singleton.1 hy; exact h
theorem Holds.nil (n : Nat) (W : World) : Holds n W [] := fun _ h => (List.not_mem_nil h).elim
def HF (F : List Nat) (W : World) (zs : List Zs) : Prop := ∀ z ∈ zs, BF F W z.v z.l
theorem HF.out {F : List Nat} {w W : World} {zs : List Zs} (h : HF F w zs) (ho : Out F w W) : HF F W zs := fun z hz => (h z hz).out ho
theorem HF.arg {w W : World} {r : Res} {L : List Res} {zs : List Zs} {n : Nat} (h : Sep w [] L W) (hr : r ∈ L) (hs : Holds n w zs) (hn : n ≤ w.heap.size) : HF r.foot W zs := fun z hz => BF.arg h hr (hs z hz) hn
theorem HF.nil (F : List Nat) (W : World) : HF F W [] := fun _ h => (List.not_mem_nil h).elim
theorem HF.get {F : List Nat} {k : Nat} {W : World} {zs : List Zs} {z : Zs} (h : HF F W zs) (hz : zs[k]? = some z) : BF F W z.v z.l := h z (List.mem_of_getElem? hz)
theorem HF.one {F : List Nat} {W : World} {z : Zs} (h : BF F W z.v z.l) : HF F W [z] := fun y hy => by obtain rfl := List.mem_singleton.1 hy; exact h
def RF (F : List Nat) (W : World) (v : Value) (zs : List Zs) : Prop := ∃ lo hi, RSl zsc lo hi W v zs ∧ hi ≤ W.heap.size ∧ ∀ k ∈ F, k < lo ∨ hi ≤ k
theorem RF.rsl {F : List Nat} {W : World} {v : Value} {zs : List Zs} (h : RF F W v zs) : RSl zsc 0 W.heap.size W v zs := by
  obtain ⟨lo, hi, h1, h2, _⟩ := h
  exact h1.mono (Nat.zero_le _) h2
theorem RF.out {F : List Nat} {w W : World} {v : Value} {zs : List Zs} (h : RF F w v zs) (ho : Out F w W) : RF F W v zs := by
  obtain ⟨lo, hi, ⟨a, cap, e, hc, hm, h0⟩, h2, h3⟩ := h
  refine ⟨lo, hi, ⟨a, cap, e, hc, hm, h0.imp id fun ⟨b, off, ha, hl, hh, hx⟩ => ⟨b, off, ha, hl, hh, fun k x hk => ?_⟩⟩, Nat.le_trans h2 ho.size, h3⟩
  refine (World.cell?_of_block (a := ⟨b, _, none⟩) (ho.block b (by omega) fun hF => ?_)).trans (hx k x hk)
  have := h3 b hF
  omega
theorem RF.arg {w W : World} {r : Res} {L : List Res} {lo hi : Nat} {v : Value} {zs : List Zs} (h : Sep w [] L W) (hr : r ∈ L) (hs : RSl zsc lo hi w v zs) (hh : hi ≤ w.heap.size) : RF r.foot W v zs :=
  ⟨lo, hi, hs.below h.b hh, Nat.le_trans hh h.size, fun k hk => .inr (Nat.le_trans hh ((h.new r hr k hk).elim (fun e => (List.not_mem_nil e).elim) id))⟩
theorem RF.blk {F : List Nat} {W : World} {N : Nat} {T : TypeId} {z : Zs} (h : Blk W N T (zsc z)) (hF : ∀ k ∈ F, k ≠ N) : RF F W (.slice (some ⟨N, 0, none⟩) 1 1) [z] := by
  refine ⟨N, N + 1, ⟨_, 1, rfl, Nat.le_refl _, by decide, .inr ⟨N, 0, rfl, Nat.le_refl _, Nat.lt_succ_self _, fun j u hj => ?_⟩⟩, h.lt, fun k hk => by have := hF k hk; omega⟩
  rw [flat_one] at hj
  rw [Nat.zero_add]
  exact (h.cell j).trans hj
def Res.octs (zs : List Zs) : Res where
  foot := zs.flatMap fun z => (Res.oct z.v z.l).foot
  holds := fun W => ∀ z ∈ zs, (Res.oct z.v z.l).holds W
  stab := fun h hl z hz => (Res.oct z.v z.l).stab (fun k hk => h k (List.mem_flatMap.2 ⟨z, hz, hk⟩)) (hl z hz)
theorem ROk.hold {W : World} {zs : List Zs} (h : ROk (.octs zs) W) : Holds W.heap.size W zs := fun z hz =>
  ROk.octs ⟨h.h z hz, fun k hk => h.lt k (List.mem_flatMap.2 ⟨z, hz, hk⟩)⟩
theorem Sep.octs0 {w W : World} {F : List Nat} {l : List Res} (h : Sep w F l W) : Sep w F (.octs [] :: l) W :=
  h.add (Below.refl _ W) ⟨fun _ hz => (List.not_mem_nil hz).elim, fun _ hk => (List.not_mem_nil hk).elim⟩ (fun _ hk => (List.not_mem_nil hk).elim)
theorem Sep.octs1 {w W : World} {F : List Nat} {l : List Res} {zs : List Zs} {v : Value} {x : List UInt8} (z : Zs) (hv : v = z.v) (hx : x = z.l) (h : Sep w F (.oct v x :: .octs zs :: l) W) : Sep w F (.octs (zs ++ [z]) :: l) W := by
  subst hv hx
  have h1 : Sep w F (.join [.oct z.v z.l, .octs zs] :: l) W := h.close (ps := [.oct z.v z.l, .octs zs])
  refine h1.conv (fun hh y hy => ?_) (fun k hk => ?_)
  · rcases List.mem_append.1 hy with hy | hy
    · exact hh.1 (.octs zs) (by simp) y hy
    · obtain rfl := List.mem_singleton.1 hy
      exact hh.1 _ (List.mem_cons_self ..)
  · obtain ⟨y, hy, hq⟩ := List.mem_flatMap.1 hk
    clear hk
    rcases List.mem_append.1 hy with hy | hy
    · exact join_mem (r := .octs zs) (by simp) (List.mem_flatMap.2 ⟨y, hy, hq⟩)
    · obtain rfl := List.mem_singleton.1 hy
      exact join_mem (List.mem_cons_self ..) hq
theorem flatZ (zs : List Zs) : flatR zsc zs = zs.map Zs.v := by
  induction zs with
  | nil => rfl
  | cons z zs ih => rw [flat_cons, ih]; rfl
theorem ssl_rsl {o n m : Nat} {w W : World} {sv : Value} {xs : List (SX o n w)} (h : SSl m W sv xs) (hc : xs.length ≤ 1048576) (hw : ∀ a len cap, sv = .slice a len cap → len ≤ cap ∧ cap ≤ maxLen) : ∃ zs : List Zs, zs.length = xs.length ∧ textsZ zs = xs.map (fun x => x.1.2) ∧ RSl zsc 0 m W sv zs ∧ Holds n w zs := by
  have key : ∀ xs : List (SX o n w), ∃ zs : List Zs, zs.map Zs.v = xs.map (fun x => x.1.1) ∧ textsZ zs = xs.map (fun x => x.1.2) ∧ Holds n w zs := by
    intro xs
    induction xs with
    | nil => exact ⟨[], rfl, rfl, Holds.nil _ _⟩
    | cons x xs ih =>
      obtain ⟨zs, h1, h2, h3⟩ := ih
      obtain ⟨a, c, e, _⟩ := x.2.1
      have hb := x.2.1
      refine ⟨⟨a, c, x.1.2⟩ :: zs, ?_, ?_, fun z hz => ?_⟩
      · rw [List.map_cons, List.map_cons, h1, e]
      · show _ :: textsZ zs = _
        rw [h2]
        rfl
      · rcases List.mem_cons.1 hz with rfl | hz
        · rw [e] at hb
          exact hb
        · exact h3 z hz
  obtain ⟨zs, h1, h2, h3⟩ := key xs
  have hl : zs.length = xs.length := by have := congrArg List.length h1; simpa using this
  refine ⟨zs, hl, h2, ?_, h3⟩
  obtain ⟨a, cap, e, h0⟩ := h
  obtain ⟨hc1, hc2⟩ := hw _ _ _ e
  refine ⟨a, cap, by rw [hl]; exact e, by rw [hl]; exact hc1, hc2, ?_⟩
  rcases h0 with rfl | ⟨b, off, ha, hm, hr⟩
  · exact .inl (List.length_eq_zero_iff.1 hl)
  · refine .inr ⟨b, off, ha, Nat.zero_le _, hm, fun j u hj => ?_⟩
    rw [flatZ, h1, List.getElem?_map] at hj
    obtain ⟨x, hx, rfl⟩ := Option.map_eq_some_iff.1 hj
    exact hr j x hx
-- ---- slices of octets
theorem elemB : Try.prog.elem 22 = 5 := by kernel_rfl
theorem undB : Try.prog.underlying 22 = some (.slice (Try.prog.elem 22)) := by rw [elemB]; exact Try.underlying22
theorem sizeB (W : World) : (sizeOf (Try.prog.elem 22)).run Try.prog W = .ok 1 W := by rw [elemB]; kernel_rfl
theorem sliced_bsl {W : World} {lo hi : Nat} {a : Option Addr} {c : Nat} {l : List UInt8} (h : BSl lo hi W (.slice a l.length c) l) {i j : Nat} (hij : i ≤ j) (hj : j ≤ l.length) :
    ∃ a' c', sliced a i j c 1 = .slice a' ((l.drop i).take (j - i)).length c' ∧ (∀ lo hi W, BSl lo hi W (.slice a l.length c) l → BSl lo hi W (.slice a' ((l.drop i).take (j - i)).length c') ((l.drop i).take (j - i))) ∧
      ∀ k ∈ (Res.oct (.slice a' ((l.drop i).take (j - i)).length c') ((l.drop i).take (j - i))).foot, k ∈ (Res.oct (.slice a l.length c) l).foot := by
  obtain ⟨_, _, e', hc0, _⟩ := h
  cases e'
  have hl : ((l.drop i).take (j - i)).length = j - i := by rw [List.length_take, List.length_drop]; omega
  refine ⟨if c = i then a else a.map (·.add (i * 1)), c - i, by unfold sliced; rw [hl], fun lo hi W h => ?bs, fun k hk => ?ft⟩
  case ft =>
    unfold Res.oct at hk ⊢
    dsimp only at hk ⊢
    cases hq : (l.drop i).take (j - i) with
    | nil => rw [hq] at hk; exact (List.not_mem_nil hk).elim
    | cons x q =>
      cases l with
      | nil => rw [List.drop_nil, List.take_nil] at hq; cases hq
      | cons y l =>
        rw [hq] at hk
        simp only [List.isEmpty_cons, Bool.false_eq_true, if_false] at hk ⊢
        cases a with
        | none => split at hk <;> exact (List.not_mem_nil hk).elim
        | some ad =>
          have e : (Value.slice (if c = i then some ad else (some ad).map (·.add (i * 1))) (x :: q).length (c - i)).ownBlock = (Value.slice (some ad) (y :: l).length c).ownBlock := by
            split
            · rfl
            · cases ad; simp only [Option.map_some, Value.ownBlock, Addr.add]; try (split <;> rfl)
          rw [← e]
          exact hk
  case bs =>
    obtain ⟨_, _, e', hc, h0⟩ := h
    cases e'
    refine ⟨_, _, rfl, by rw [hl]; omega, ?_⟩
    by_cases hd : (l.drop i).take (j - i) = []
    · exact .inl hd
    · rcases h0 with h0 | ⟨b, off, ha, h1, h2, h3⟩
      · exact .inl (by rw [h0, List.drop_nil, List.take_nil])
      · subst ha
        have hne : c ≠ i := fun e => hd (by rw [List.drop_eq_nil_of_le (by omega), List.take_nil])
        refine .inr ⟨b, off + i * 1, by rw [if_neg hne]; simp [Addr.add], h1, h2, fun k x hk => ?_⟩
        have hlt := (List.getElem?_eq_some_iff.1 hk).1
        rw [List.getElem?_take_of_lt (by rw [hl] at hlt; exact hlt), List.getElem?_drop] at hk
        rw [Nat.mul_one, Nat.add_assoc]
        exact h3 _ x hk
theorem cutLH {W : World} {lo hi : Nat} {a : Option Addr} {c : Nat} {l : List UInt8} (h : BSl lo hi W (.slice a l.length c) l) {zi zj : Int} {i j : Nat} (hi' : zi = (i : Int)) (hj' : zj = (j : Int)) (hij : i ≤ j) (hj : j ≤ l.length) :
    ∃ a' c', (∀ W', (Instr.sliceAt 22 (.slice a l.length c) (some (.int .i64 zi)) (some (.int .i64 zj)) none).run Try.prog W' = .ok (.slice a' ((l.drop i).take (j - i)).length c') W') ∧ (∀ lo hi W, BSl lo hi W (.slice a l.length c) l → BSl lo hi W (.slice a' ((l.drop i).take (j - i)).length c') ((l.drop i).take (j - i))) ∧ (∀ k ∈ (Res.oct (.slice a' ((l.drop i).take (j - i)).length c') ((l.drop i).take (j - i))).foot, k ∈ (Res.oct (.slice a l.length c) l).foot) := by
  subst hi' hj'
  have hcap : l.length ≤ c := by obtain ⟨_, _, e, hc, _⟩ := h; cases e; exact hc
  obtain ⟨a', c', h1, h2, h3⟩ := sliced_bsl h hij hj
  refine ⟨a', c', fun W' => ?_, h2, h3⟩
  rw [run_sliceAt_slice W' 22 _ _ _ _ undB, run_slice_lh W' 22 a l.length c undB .i64 .i64 (i : Int) (j : Int) (by omega) (by omega) (by omega), sizeB, ← h1]
  rfl
theorem cutH {W : World} {lo hi : Nat} {a : Option Addr} {c : Nat} {l : List UInt8} (h : BSl lo hi W (.slice a l.length c) l) {zj : Int} {j : Nat} (hj' : zj = (j : Int)) (hj : j ≤ l.length) :
    ∃ a' c', (∀ W', (Instr.sliceAt 22 (.slice a l.length c) none (some (.int .i64 zj)) none).run Try.prog W' = .ok (.slice a' (l.take j).length c') W') ∧ (∀ lo hi W, BSl lo hi W (.slice a l.length c) l → BSl lo hi W (.slice a' (l.take j).length c') (l.take j)) ∧ (∀ k ∈ (Res.oct (.slice a' (l.take j).length c') (l.take j)).foot, k ∈ (Res.oct (.slice a l.length c) l).foot) := by
  subst hj'
  have hcap : l.length ≤ c := by obtain ⟨_, _, e, hc, _⟩ := h; cases e; exact hc
  obtain ⟨a', c', h1, h2, h3⟩ := sliced_bsl h (Nat.zero_le j) hj
  rw [List.drop_zero, Nat.sub_zero] at h1 h2 h3
  refine ⟨a', c', fun W' => ?_, h2, h3⟩
  rw [run_sliceAt_slice W' 22 _ _ _ _ undB, run_slice_h W' 22 a l.length c undB .i64 (j : Int) (by omega) (by omega), sizeB, ← h1]
  rfl
theorem cutL {W : World} {lo hi : Nat} {a : Option Addr} {c : Nat} {l : List UInt8} (h : BSl lo hi W (.slice a l.length c) l) {zi : Int} {i : Nat} (hi' : zi = (i : Int)) (hi1 : i ≤ l.length) :
    ∃ a' c', (∀ W', (Instr.sliceAt 22 (.slice a l.length c) (some (.int .i64 zi)) none none).run Try.prog W' = .ok (.slice a' (l.drop i).length c') W') ∧ (∀ lo hi W, BSl lo hi W (.slice a l.length c) l → BSl lo hi W (.slice a' (l.drop i).length c') (l.drop i)) ∧ (∀ k ∈ (Res.oct (.slice a' (l.drop i).length c') (l.drop i)).foot, k ∈ (Res.oct (.slice a l.length c) l).foot) := by
  subst hi'
  obtain ⟨a', c', h1, h2, h3⟩ := sliced_bsl h hi1 (Nat.le_refl _)
  rw [List.take_of_length_le (by rw [List.length_drop]; exact Nat.le_refl _)] at h1 h2 h3
  refine ⟨a', c', fun W' => ?_, h2, h3⟩
  rw [run_sliceAt_slice W' 22 _ _ _ _ undB, run_slice_l W' 22 a l.length c undB .i64 (i : Int) (by omega) (by omega), sizeB, ← h1]
  rfl
theorem turn_cut {W : World} {v v' : Value} {l l' : List UInt8} (_h : ROk (.oct v l) W) (hb : BSl 0 W.heap.size W v' l') (hf : ∀ k ∈ (Res.oct v' l').foot, k ∈ (Res.oct v l).foot) : RTurn (.oct v l) (.oct v' l') W W :=
  ⟨.of_bsl hb (Nat.le_refl _), Out.refl _ _, fun k hk => .inl (hf k hk)⟩
theorem elemZ : Try.prog.elem 27 = 22 := by kernel_rfl
theorem undZ : Try.prog.underlying 27 = some (.slice (Try.prog.elem 27)) := by rw [elemZ]; exact Try.underlying27
theorem sizeZ (W : World) : (sizeOf (Try.prog.elem 27)).run Try.prog W = .ok 1 W := by rw [elemZ]; kernel_rfl
theorem RSl.upto {lo hi : Nat} {W : World} {a : Option Addr} {cap : Nat} {l : List Zs} (h : RSl zsc lo hi W (.slice a l.length cap) l) {zk : Int} {k : Nat} (hk' : zk = (k : Int)) (hk : k ≤ l.length) :
    ∃ c, (∀ W', (Instr.sliceAt 27 (.slice a l.length cap) none (some (.int .i64 zk)) none).run Try.prog W' = .ok (.slice a (l.take k).length c) W') ∧ ∀ lo hi W, RSl zsc lo hi W (.slice a l.length cap) l → RSl zsc lo hi W (.slice a (l.take k).length c) (l.take k) := by
  subst hk'
  obtain ⟨_, _, e', hc0, _, _⟩ := h
  cases e'
  have hl : (l.take k).length = k := List.length_take_of_le hk
  refine ⟨cap, fun W' => ?_, fun lo hi W h => ?_⟩
  · rw [run_sliceAt_slice W' 27 _ _ _ _ undZ, run_slice_h W' 27 a l.length cap undZ .i64 (k : Int) (by omega) (by omega), sizeZ W', hl]
    show Result.ok (sliced a 0 k cap 1) W' = _
    unfold sliced
    rw [Nat.sub_zero, Nat.sub_zero]
    split
    · rfl
    · cases a with
      | none => rfl
      | some ad => simp [Addr.add]
  · obtain ⟨_, _, e', hc, hm, h0⟩ := h
    cases e'
    refine ⟨_, cap, rfl, by omega, hm, ?_⟩
    rcases h0 with h0 | ⟨b, off, ha, h1, h2, h3⟩
    · exact .inl (by rw [h0, List.take_nil])
    · refine .inr ⟨b, off, ha, h1, h2, fun j u hj => h3 j u ?_⟩
      have e : flatR zsc l = flatR zsc (l.take k) ++ flatR zsc (l.drop k) := by rw [← flat_app, List.take_append_drop]
      rw [e, List.getElem?_append_left (List.getElem?_eq_some_iff.1 hj).1]
      exact hj
theorem txEq (a b : List UInt8) : ((txB a).toList == (txB b).toList) = decide (a = b) := by
  rw [beqB]
  have e : (txB a = txB b) ↔ a = b := ⟨fun h => by have := congrArg (fun x : ByteArray => x.data.toList) h; exact this, fun h => by rw [h]⟩
  by_cases h : a = b
  · rw [decide_eq_true h, decide_eq_true (e.2 h)]
  · rw [decide_eq_false h, decide_eq_false (fun x => h (e.1 x))]
theorem Sep.begin1 {r : Res} {w : World} (h : ROk r w) : Sep w r.foot [r] w :=
  ⟨fun s hs => by obtain rfl := List.mem_singleton.1 hs; exact h, fun s hs k hk => by obtain rfl := List.mem_singleton.1 hs; exact .inl hk, List.pairwise_singleton .., Out.refl _ _⟩
theorem Sep.fin1 {r r' : Res} {w W : World} {l : List Res} (h : Sep w r.foot (r' :: l) W) : RTurn r r' w W :=
  ⟨h.ok _ (List.mem_cons_self ..), h.out, fun k hk => h.new _ (List.mem_cons_self ..) k hk⟩
theorem Sep.far {w W : World} {F : List Nat} {L : List Res} (h : Sep w F L W) {i j : Nat} {r s : Res} (hi : L[i]? = some r) (hj : L[j]? = some s) (hij : i ≠ j) : ∀ k ∈ r.foot, k ∉ s.foot := by
  obtain ⟨hil, rfl⟩ := List.getElem?_eq_some_iff.1 hi
  obtain ⟨hjl, rfl⟩ := List.getElem?_eq_some_iff.1 hj
  rcases Nat.lt_or_gt_of_ne hij with hl | hl
  · exact List.pairwise_iff_getElem.1 h.apart i j hil hjl hl
  · have := List.pairwise_iff_getElem.1 h.apart j i hjl hil hl
    exact fun k hk hks => this k hks hk
theorem BF.mine {w W : World} {F : List Nat} {L : List Res} (h : Sep w F L W) {i j : Nat} {v : Value} {l : List UInt8} {s : Res} (hi : L[i]? = some (.oct v l)) (hj : L[j]? = some s) (hij : i ≠ j) : BF s.foot W v l := by
  have hf := h.far hi hj hij
  obtain ⟨hi', a, cap, e, hc, h0⟩ := (h.oka i hi).h
  have hlt := (h.oka i hi).lt
  subst e
  cases l with
  | nil => exact ⟨0, 0, ⟨a, cap, rfl, hc, .inl rfl⟩, Nat.zero_le _, fun _ _ => .inr (Nat.zero_le _)⟩
  | cons x l =>
    rcases h0 with h0 | ⟨b, off, ha, _, _, ho⟩
    · cases h0
    · subst ha
      have hb : b ∈ (Res.oct (.slice (some ⟨b, off, none⟩) (x :: l).length cap) (x :: l)).foot := by simp [Res.oct, Value.ownBlock]
      refine ⟨b, b + 1, ⟨_, cap, rfl, hc, .inr ⟨b, off, rfl, Nat.le_refl _, Nat.lt_succ_self _, ho⟩⟩, hlt b hb, fun k hk => ?_⟩
      have : k ≠ b := fun e => hf b hb (e ▸ hk)
      omega
theorem RF.mine {w W : World} {F : List Nat} {L : List Res} (h : Sep w F L W) {i j : Nat} {N : Nat} {T : TypeId} {z : Zs} {s : Res} (hi : L[i]? = some (.blk N T (zsc z))) (hj : L[j]? = some s) (hij : i ≠ j) : RF s.foot W (.slice (some ⟨N, 0, none⟩) 1 1) [z] :=
  RF.blk (h.at i hi) fun _ hk e => h.far hi hj hij N (List.mem_singleton.2 rfl) (e ▸ hk)
theorem RF.nil (F : List Nat) (W : World) : RF F W (.slice none 0 0) [] := ⟨0, 0, RSl.nil _ _ _, Nat.zero_le _, fun _ _ => .inr (Nat.zero_le _)⟩
theorem BF.nil (F : List Nat) (W : World) : BF F W (.slice none 0 0) [] := ⟨0, 0, BSl.nil _ _ _, Nat.zero_le _, fun _ _ => .inr (Nat.zero_le _)⟩
-- HERE
end Go.Proofs.Ytcjodiemgnihoaa
