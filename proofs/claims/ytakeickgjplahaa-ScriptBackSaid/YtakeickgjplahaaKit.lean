/-
  Words for walks by Takes over parts of memory: loads, stores, elements, comparisons, operations that are not wanted.
-/
import Derived.Test.YtakeickgjplahaaTakes
import Derived.Test.YtakeickgjplahaaRsl
import Derived.Test.YtakeickgjplahaaMem
import Derived.Test.YtakeickgjplahaaEqK
import Derived.Deep.Cut
import Derived.Deep.CutRange
import Derived.Deep.DeepCutAuto
import Derived.Deep.CutBlock
import Derived.LoopTactic
namespace Go.Proofs.Ytakeickgjplahaa
open Go.RowKit Go.Shelf
attribute [local irreducible] wpFrom
/-- A part of an array that is an array. -/
theorem part_row (ty : TypeId) (d : TypeDesc) (hu : Try.prog.underlying ty = some d) (hd : (match d with | .struct _ | .array _ _ => true | _ => false) = true) (n : Nat) (hi : (Try.prog.info? ty).map (·.size) = some n) (cs ns : List Value) (o : Nat) (h : (cs.drop o).take n = ns) (w : World) :
    (part ty cs.toArray o).run Try.prog w = .ok (.agg ns.toArray) w := by
  cases hq : Try.prog.info? ty with
  | none => simp [hq] at hi
  | some i =>
    have hs : i.size = n := by simpa [hq] using hi
    have hagg : (isAgg ty).run Try.prog w = .ok true w := by
      unfold isAgg
      rw [Sem.run_bind, run_underlying hu w]
      cases d <;> simp_all
    simp [part, Sem.run_bind, hagg, sizeOf, typeInfo, hq, hs]
    exact h

section
variable {W : World} {B : Nat} {T : TypeId}
/-- What is stored. -/
theorem sto_part {vs : List Value} (us : List Value) (h : Blk W B T vs) (o : Nat) (ty : TypeId) (x : Value) (ns : List Value) (hx : x.cells.toList = ns) (hi : (Try.prog.info? ty).map (·.size) = some ns.length) (hle : o + ns.length ≤ vs.length) (h1 : ns.all (·.oneCell') = true) (hl : laid vs o ns = us) :
    (Instr.storeAt ty (.pointer (some ⟨B, o, none⟩)) x).run Try.prog W = .ok () (W.setRow B us.toArray) := by
  subst hx; subst hl
  exact run_store_part h o x ty (by simpa using hi) (by simpa using hle) (by rw [← Array.all_toList]; exact h1)
theorem laid_one (vs : List Value) (o : Nat) (v : Value) (h : o < vs.length) : laid vs o [v] = vs.set o v := by
  unfold laid
  rw [List.set_eq_take_append_cons_drop, if_pos h, List.length_singleton, List.append_assoc]
  rfl
/-- A slice's element, by number. -/
theorem idx_sl {W : World} {ty e c : Nat} (hu : Try.prog.underlying ty = some (.slice e)) (hs : (sizeOf e).run Try.prog W = .ok c W) {b off len cap : Nat} {k : Nat} (hk : k < len) :
    (Instr.indexAt ty (.slice (some ⟨b, off, none⟩) len cap) (.int .i64 (k : Int))).run Try.prog W = .ok (.pointer (some ⟨b, off + k * c, none⟩)) W := by
  have h1 : (0 : Int) ≤ (k : Int) ∧ (k : Int) < len := ⟨by omega, by omega⟩
  simp [Instr.indexAt, run_underlying hu, asIntOf, h1, hs, go_sem]
  intro h
  omega
theorem beqB (a b : ByteArray) : (a.toList == b.toList) = decide (a = b) := by
  by_cases h : a = b
  · subst h; simp
  · rw [decide_eq_false h]
    have h1 : ¬ a.toList = b.toList := fun e => h (by
      rw [ByteArray.toList_eq, ByteArray.toList_eq] at e
      exact ByteArray.ext (Array.toList_inj.1 e))
    simpa using h1
/-- Where an element lies: whatever world. -/
theorem RSl.elem {α : Type} {f : α → List Value} {n lo hi : Nat} {W : World} {v : Value} {l : List α} (h : RSl f lo hi W v l) (hn : ∀ x, (f x).length = n) {k : Nat} {x : α} (hx : l[k]? = some x) {ty e : TypeId} (hu : Try.prog.underlying ty = some (.slice e)) (hs : ∀ W, (sizeOf e).run Try.prog W = .ok n W) :
    ∃ b o, lo ≤ b ∧ b < hi ∧ (∀ W', (Instr.indexAt ty v (.int .i64 (k : Int))).run Try.prog W' = .ok (.pointer (some ⟨b, o, none⟩)) W') ∧ ∀ W', RSl f lo hi W' v l → ∀ j u, (f x)[j]? = some u → W'.cell? ⟨b, o + j, none⟩ = some u := by
  have hk : k < l.length := (List.getElem?_eq_some_iff.1 hx).1
  have hne : l ≠ [] := fun e => by subst e; simp at hk
  obtain ⟨a, cap, rfl, _, _, h0 | ⟨b, off, rfl, h1, h2, h3⟩⟩ := h
  · exact absurd h0 hne
  · refine ⟨b, off + k * n, h1, h2, fun W' => idx_sl hu (hs W') hk, fun W' h' j u hj => ?_⟩
    obtain ⟨_, _, b', off', e, _, _, hr⟩ := h'.at hne
    cases e
    have hj' : j < n := by have := (List.getElem?_eq_some_iff.1 hj).1; rwa [hn] at this
    rw [hr.elem hn hx hj', hj]
/-- One cell is loaded, wherever it lies. -/
theorem ld_cell {W : World} {b o : Nat} (ty : TypeId) (d : TypeDesc) (hu : Try.prog.underlying ty = some d) (hd : (match d with | .struct _ | .array _ _ => false | _ => true) = true) {v : Value} (hc : W.cell? ⟨b, o, none⟩ = some v) :
    (Instr.loadAt ty (.pointer (some ⟨b, o, none⟩))).run Try.prog W = .ok v W := by
  have hagg : (isAgg ty).run Try.prog W = .ok false W := by
    unfold isAgg
    rw [Sem.run_bind, run_underlying hu W]
    cases d <;> simp_all
  simp [Instr.loadAt, Instr.sureAddr, loadVar, Sem.run_bind, hagg, hc]
theorem ld_cells {W : World} {b o : Nat} (ns : List Value) (ty : TypeId) (d : TypeDesc) (hu : Try.prog.underlying ty = some d) (hd : (match d with | .struct _ | .array _ _ => true | _ => false) = true) (hi : (Try.prog.info? ty).map (·.size) = some ns.length) (hc : ∀ j u, ns[j]? = some u → W.cell? ⟨b, o + j, none⟩ = some u) :
    (Instr.loadAt ty (.pointer (some ⟨b, o, none⟩))).run Try.prog W = .ok (.agg ns.toArray) W := by
  have hl : (loadCells ⟨b, o, none⟩ ns.length).run Try.prog W = .ok ns.toArray W :=
    run_loadCells_list (P := Try.prog) W ⟨b, o, none⟩ ns (fun j v hv => by rw [addr_add]; exact hc j v hv)
  cases hq : Try.prog.info? ty with
  | none => simp [hq] at hi
  | some i =>
    have hs : i.size = ns.length := by simpa [hq] using hi
    have hagg : (isAgg ty).run Try.prog W = .ok true W := by
      unfold isAgg
      rw [Sem.run_bind, run_underlying hu W]
      cases d <;> simp_all
    simp [Instr.loadAt, Instr.sureAddr, loadVar, Sem.run_bind, hagg, sizeOf, typeInfo, hq, hs, hl]
theorem RSl.wide {α : Type} {f : α → List Value} {lo hi : Nat} {W : World} {v : Value} {l : List α} (h : RSl f lo hi W v l) (hi' : hi ≤ W.heap.size) : RSl f lo W.heap.size W v l := h.mono (Nat.le_refl _) hi'
/-- The value is one word alone. -/
theorem one_slice (a : Option Addr) (l c : Nat) : (Value.slice a l c).oneCell' = true ∧ (Value.slice a l c).cells.toList = [Value.slice a l c] := ⟨rfl, rfl⟩
/-- An element's address, by number. -/
theorem idx_arr {W : World} {ty : TypeId} {n e c : Nat} (hu : Try.prog.underlying ty = some (.array n e)) (hs : (sizeOf e).run Try.prog W = .ok c W) {B o : Nat} {k : Nat} (hk : k < n) :
    (Instr.indexAt ty (.pointer (some ⟨B, o, none⟩)) (.int .i64 (k : Int))).run Try.prog W = .ok (.pointer (some ⟨B, o + k * c, none⟩)) W := by
  have h1 : (0 : Int) ≤ (k : Int) ∧ (k : Int) < n := ⟨by omega, by omega⟩
  simp [Instr.indexAt, run_underlying hu, asIntOf, h1, hs, go_sem]
  intro h
  omega
theorem grownBy_trans {w W W' : World} {row : Option Nat} (h : w.grownBy W row) (h' : W.grownBy W' row) : w.grownBy W' row :=
  ⟨h'.os.trans h.os, h'.tape.trans h.tape, h'.output.trans h.output, Nat.le_trans h.size h'.size, fun k hk hr => (h'.block k (Nat.lt_of_lt_of_le hk h.size) hr).trans (h.block k hk hr)⟩
theorem res_two {fn : Func} {p q : Tmp} {ty : TypeId} (h : fn.results = #[.cell p ty, .tmp q]) (tmps : Array Value) {w : World} {g : Nat} {c a : Value} (hp : tmps.getD p undef = .pointer (some ⟨g, 0, none⟩)) (hq : tmps.getD q undef = a) (hl : (loadVar ty ⟨g, 0, none⟩).run Try.prog w = .ok c w) :
    (results fn tmps).run Try.prog w = .ok (.tuple #[c, a]) w := by
  have hp' : tmps[p]?.getD undef = .pointer (some ⟨g, 0, none⟩) := by simpa using hp
  have hq' : tmps[q]?.getD undef = a := by simpa using hq
  simp [results, h, hp', hq', asAddr, hl]
end
section
variable {A B C : List Value} {m : Nat}
theorem part_in (hA : A.length = m) (o n : Nat) (h : o + n ≤ B.length) : ((A ++ (B ++ C)).drop (m + o)).take n = (B.drop o).take n := by
  subst hA
  rw [List.drop_length_add_append, List.drop_append_of_le_length (by omega), List.take_append_of_le_length (by rw [List.length_drop]; omega)]
theorem part_at {n : Nat} (hA : A.length = m) (hB : B.length = n) : ((A ++ (B ++ C)).drop m).take n = B := by
  have := part_in (A := A) (B := B) (C := C) hA 0 n (by omega)
  rw [Nat.add_zero, List.drop_zero, List.take_of_length_le (l := B) (by omega)] at this
  exact this
theorem laid_in (hA : A.length = m) (ns : List Value) (o : Nat) (h : o + ns.length ≤ B.length) : laid (A ++ (B ++ C)) (m + o) ns = A ++ (laid B o ns ++ C) := by
  subst hA
  unfold laid
  rw [List.take_length_add_append, List.take_append_of_le_length (by omega), Nat.add_assoc, List.drop_length_add_append, List.drop_append_of_le_length (by omega)]
  simp only [List.append_assoc]
theorem laid_at (hA : A.length = m) {ns : List Value} (h : ns.length = B.length) : laid (A ++ (B ++ C)) m ns = A ++ (ns ++ C) := by
  have := laid_in (A := A) (B := B) (C := C) hA ns 0 (by omega)
  rw [Nat.add_zero] at this
  rw [this]
  unfold laid
  rw [List.take_zero, Nat.zero_add, h, List.drop_length, List.nil_append, List.append_nil]
theorem cell_in (hA : A.length = m) (i : Nat) (h : i < B.length) : (A ++ (B ++ C))[m + i]? = B[i]? := by
  subst hA
  rw [List.getElem?_append_right (by omega), Nat.add_sub_cancel_left, List.getElem?_append_left h]
theorem set_in (hA : A.length = m) (i : Nat) (v : Value) (h : i < B.length) : (A ++ (B ++ C)).set (m + i) v = A ++ (B.set i v ++ C) := by
  subst hA
  rw [List.set_append_right _ _ (by omega), Nat.add_sub_cancel_left, List.set_append_left _ _ h]
end
section
variable {ops : Array Oper} {Q : Exit → Act → World → Prop}
theorem op_at {P : Program} {k : Nat} {a : Act} {b : Bool} {d : Option Tmp} {op : Op} (h : (ops[k]?).map (fun o => (Region.wanted o (yielded ops a.tmps), o.dst, o.op)) = some (b, d, op)) : ∃ o, ops[k]? = some o ∧ Region.wanted o (yielded ops a.tmps) = b ∧ o.dst = d ∧ o.op = op ∧ ∀ w, runAt P ops k a w = some (b, d, (execOp a.eval o).run P w) := by
  cases ho : ops[k]? with
  | none => rw [ho] at h; cases h
  | some o =>
    rw [ho, Option.map_some, Option.some.injEq, Prod.mk.injEq, Prod.mk.injEq] at h
    obtain ⟨h1, h2, h3⟩ := h
    exact ⟨o, rfl, h1, h2, h3, fun w => by unfold runAt; rw [ho, Option.map_some, h1, h2]⟩
/-- Two of a kind that are the same are not unlike. -/
theorem neA {T : TypeId} (x y : Operand) (z : TypeId) (d : Option Tmp) (xs ys : Array Value) (b : Bool) {k : Nat} {a : Act} {w : World} (he : (Op.equalIn 10000 T (.agg xs) (.agg ys)).run Try.prog w = .ok b w) (h : wpFrom Try.prog ops Q (k + 1) (a.put d (.bool (!b))) w)
    (hm : Try.prog.eqGuardType Try.prog.depth T = false := by kernel_rfl) (hk : (ops[k]?).map (fun o => (Region.wanted o (yielded ops a.tmps), o.dst, o.op)) = some (true, d, .binOp .neq T x y z) := by kernel_rfl) (hx : a.eval x = .agg xs := by kernel_rfl) (hy : a.eval y = .agg ys := by kernel_rfl) : wpFrom Try.prog ops Q k a w := by
  obtain ⟨o, _, _, _, hop, hr⟩ := op_at (P := Try.prog) hk
  refine wpFrom_run ((hr w).trans ?_) h
  unfold execOp
  simp only [hop, hx, hy, Sem.run_bind, run_eqGuard_agg w .neq T x y _ _ hm, run_neq_struct, he, Result.andThen_ok]
  rfl
theorem eqA {T : TypeId} (x y : Operand) (z : TypeId) (d : Option Tmp) (xs ys : Array Value) (b : Bool) {k : Nat} {a : Act} {w : World} (he : (Op.equalIn 10000 T (.agg xs) (.agg ys)).run Try.prog w = .ok b w) (h : wpFrom Try.prog ops Q (k + 1) (a.put d (.bool b)) w)
    (hm : Try.prog.eqGuardType Try.prog.depth T = false := by kernel_rfl) (hk : (ops[k]?).map (fun o => (Region.wanted o (yielded ops a.tmps), o.dst, o.op)) = some (true, d, .binOp .eql T x y z) := by kernel_rfl) (hx : a.eval x = .agg xs := by kernel_rfl) (hy : a.eval y = .agg ys := by kernel_rfl) : wpFrom Try.prog ops Q k a w := by
  obtain ⟨o, _, _, _, hop, hr⟩ := op_at (P := Try.prog) hk
  refine wpFrom_run ((hr w).trans ?_) h
  unfold execOp
  simp only [hop, hx, hy, Sem.run_bind, run_eqGuard_agg w .eql T x y _ _ hm, run_eql_struct, he, Result.andThen_ok]
  rfl
theorem neD {ops : Array Oper} {Q : Exit → Act → World → Prop} {md : Region.Mode} {S : World → Prop} {T : TypeId} (x y : Operand) (z : TypeId) (d : Option Tmp) (xs : Array Value) {m i : Nat} {listed : Array Bool} {a : Act} {w : World} (he : (Op.equalIn 10000 T (.agg xs) (.agg xs)).run Try.prog w = .ok true w) (hS : S w) (h : wpAnyH Try.prog md ops Q S m (listed.setIfInBounds i true) (a.put d (.bool false)) w)
    (hm : Try.prog.eqGuardType Try.prog.depth T = false := by kernel_rfl) (hk : (ops[i]?).map (fun o => (Region.wanted o (yielded ops a.tmps), o.dst, o.op)) = some (true, d, .binOp .neq T x y z) := by kernel_rfl) (hx : a.eval x = .agg xs := by kernel_rfl) (hy : a.eval y = .agg xs := by kernel_rfl) : StepH Try.prog md ops Q S m listed a w i := by
  obtain ⟨o, _, _, _, hop, hr⟩ := op_at (P := Try.prog) hk
  refine stepH_run ((hr w).trans ?_) hS h
  unfold execOp
  simp only [hop, hx, hy, Sem.run_bind, run_eqGuard_agg w .neq T x y _ _ hm, run_neq_struct, he, Result.andThen_ok]
  rfl
end
section
variable {ops : Array Oper} {Q : Exit → Act → World → Prop} {md : Region.Mode} {S : World → Prop}
theorem eqD {T : TypeId} (x y : Operand) (z : TypeId) (d : Option Tmp) (xs ys : Array Value) (b : Bool) {m i : Nat} {listed : Array Bool} {a : Act} {w : World} (he : (Op.equalIn 10000 T (.agg xs) (.agg ys)).run Try.prog w = .ok b w) (hS : S w) (h : wpAnyH Try.prog md ops Q S m (listed.setIfInBounds i true) (a.put d (.bool b)) w)
    (hm : Try.prog.eqGuardType Try.prog.depth T = false := by kernel_rfl) (hk : (ops[i]?).map (fun o => (Region.wanted o (yielded ops a.tmps), o.dst, o.op)) = some (true, d, .binOp .eql T x y z) := by kernel_rfl) (hx : a.eval x = .agg xs := by kernel_rfl) (hy : a.eval y = .agg ys := by kernel_rfl) : StepH Try.prog md ops Q S m listed a w i := by
  obtain ⟨o, _, _, _, hop, hr⟩ := op_at (P := Try.prog) hk
  refine stepH_run ((hr w).trans ?_) hS h
  unfold execOp
  simp only [hop, hx, hy, Sem.run_bind, run_eqGuard_agg w .eql T x y _ _ hm, run_eql_struct, he, Result.andThen_ok]
  rfl
theorem unD {T : TypeId} (x y : Operand) (z : TypeId) (d : Option Tmp) (xs ys : Array Value) (b : Bool) {m i : Nat} {listed : Array Bool} {a : Act} {w : World} (he : (Op.equalIn 10000 T (.agg xs) (.agg ys)).run Try.prog w = .ok b w) (hS : S w) (h : wpAnyH Try.prog md ops Q S m (listed.setIfInBounds i true) (a.put d (.bool (!b))) w)
    (hm : Try.prog.eqGuardType Try.prog.depth T = false := by kernel_rfl) (hk : (ops[i]?).map (fun o => (Region.wanted o (yielded ops a.tmps), o.dst, o.op)) = some (true, d, .binOp .neq T x y z) := by kernel_rfl) (hx : a.eval x = .agg xs := by kernel_rfl) (hy : a.eval y = .agg ys := by kernel_rfl) : StepH Try.prog md ops Q S m listed a w i := by
  obtain ⟨o, _, _, _, hop, hr⟩ := op_at (P := Try.prog) hk
  refine stepH_run ((hr w).trans ?_) hS h
  unfold execOp
  simp only [hop, hx, hy, Sem.run_bind, run_eqGuard_agg w .neq T x y _ _ hm, run_neq_struct, he, Result.andThen_ok]
  rfl
end
section
theorem beqI (a b : Int) : (a == b) = decide (a = b) := rfl
theorem stepH_not {P : Program} {md : Region.Mode} {ops : Array Oper} {Q : Exit → Act → World → Prop} {S : World → Prop} {m i : Nat} {listed : Array Bool} {a : Act} {w : World} {d : Option Tmp} (hr : (ops[i]?).map (fun o => (Region.wanted o (yielded ops a.tmps), o.dst)) = some (false, d)) (h : S w ∧ wpAnyH P md ops Q S m (listed.setIfInBounds i true) (a.put d undef) w) : StepH P md ops Q S m listed a w i := by
  obtain ⟨o, ho⟩ := some_of hr
  rw [ho] at hr
  have h0 := Option.some.inj hr
  have h1 : Region.wanted o (yielded ops a.tmps) = false := congrArg Prod.fst h0
  have h2 : o.dst = d := congrArg Prod.snd h0
  refine stepH_of ho ?_
  rw [if_neg (by rw [h1]; decide), h2]
  exact h
theorem wpFrom_not {P : Program} {ops : Array Oper} {Q : Exit → Act → World → Prop} {k : Nat} {a : Act} {w : World} {d : Option Tmp} (hr : (ops[k]?).map (fun o => (Region.wanted o (yielded ops a.tmps), o.dst)) = some (false, d)) (h : wpFrom P ops Q (k + 1) (a.put d undef) w) : wpFrom P ops Q k a w := by
  obtain ⟨o, ho⟩ := some_of hr
  rw [ho] at hr
  have h0 := Option.some.inj hr
  have h1 : Region.wanted o (yielded ops a.tmps) = false := congrArg Prod.fst h0
  have h2 : o.dst = d := congrArg Prod.snd h0
  refine wpFrom_step ho fun K hK => ?_
  rw [if_neg (by rw [h1]; decide), h2]
  exact hK _ _ h
end
theorem oU {P : Program} {md : Region.Mode} {ops : Array Oper} {Q : Exit → Act → World → Prop} {S : World → Prop} (i j k m : Nat) {n : Nat} {listed : Array Bool} {a : Act} {w : World} (h1 : StepH P md ops Q S m listed a w i) (h2 : StepH P md ops Q S m listed a w j) (h3 : StepH P md ops Q S m listed a w k) (hr : Region.ready md ops listed = [i, j, k] := by kernel_rfl) (hn : n = m + 1 := by kernel_rfl) : wpAnyH P md ops Q S n listed a w := by
  subst hn
  refine wpAnyH_all hr (by simp) fun q hq => ?_
  simp only [List.mem_cons, List.not_mem_nil, or_false] at hq
  rcases hq with rfl | rfl | rfl
  · exact h1
  · exact h2
  · exact h3
end Go.Proofs.Ytakeickgjplahaa
