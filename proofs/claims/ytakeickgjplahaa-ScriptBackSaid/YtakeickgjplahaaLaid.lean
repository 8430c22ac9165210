/-
  A part of a block that is known whole is loaded, or stored: one step.
-/
import Derived.Test.YtakeickgjplahaaLoadIf
import Derived.Test.YtakeickgjplahaaRowW
import Derived.Test.YtakeickgjplahaaBase
import Derived.Laws.Rows
import Derived.Laws.CopyRow
import Derived.Laws.CopyOwn
namespace Go.Proofs.Ytakeickgjplahaa
open Go.RowKit Go.Shelf

theorem addr_add (B o j : Nat) : (⟨B, o, none⟩ : Addr).add j = ⟨B, o + j, none⟩ := by unfold Addr.add; split <;> simp_all
/-- A struct, or an array, within a block. -/
theorem load_part {W : World} {B : Nat} {T : TypeId} {vs : List Value} (h : Blk W B T vs) (o : Nat) (ns : List Value) (hn : (vs.drop o).take ns.length = ns) (ty : TypeId) (d : TypeDesc) (hu : Try.prog.underlying ty = some d)
    (hd : (match d with | .struct _ | .array _ _ => true | _ => false) = true) (hi : (Try.prog.info? ty).map (·.size) = some ns.length) :
    (Instr.loadAt ty (.pointer (some ⟨B, o, none⟩))).run Try.prog W = .ok (.agg ns.toArray) W := by
  have hl : (loadCells ⟨B, o, none⟩ ns.length).run Try.prog W = .ok ns.toArray W :=
    run_loadCells_list (P := Try.prog) W ⟨B, o, none⟩ ns (fun j v hv => by
      rw [addr_add, h.cell]
      rw [← hn, List.getElem?_take] at hv
      split at hv
      · simpa using hv
      · cases hv)
  cases hq : Try.prog.info? ty with
  | none => simp [hq] at hi
  | some i =>
    have hs : i.size = ns.length := by simpa [hq] using hi
    have hagg : (isAgg ty).run Try.prog W = .ok true W := by
      unfold isAgg
      rw [Sem.run_bind, run_underlying hu W]
      cases d <;> simp_all
    simp [Instr.loadAt, Instr.sureAddr, loadVar, Sem.run_bind, hagg, sizeOf, typeInfo, hq, hs, hl]
/-- The row with ns from place o on. -/
def laid (vs : List Value) (o : Nat) (ns : List Value) : List Value := vs.take o ++ ns ++ vs.drop (o + ns.length)
theorem run_store_part {W : World} {B : Nat} {T : TypeId} {vs : List Value} (h : Blk W B T vs) (o : Nat) (v : Value) (ty : TypeId) (hi : (Try.prog.info? ty).map (·.size) = some v.cells.size) (hle : o + v.cells.size ≤ vs.length) (h1 : v.cells.all (·.oneCell') = true) :
    (Instr.storeAt ty (.pointer (some ⟨B, o, none⟩)) v).run Try.prog W = .ok () (W.setRow B (laid vs o v.cells.toList).toArray) := by
  have hs := run_storeCells_at (P := Try.prog) B o T v.cells.toList 0 vs.toArray W h (by simpa using hle) (fun x hx => (Array.all_eq_true_iff_forall_mem.1 h1) x (by simpa using hx))
  cases hq : Try.prog.info? ty with
  | none => simp [hq] at hi
  | some i =>
    have hz : v.cells.size = i.size := by simp [hq] at hi; omega
    have hs2 : (storeCells ⟨B, o, none⟩ v.cells.toList).run Try.prog W = .ok () (W.setRow B (laid vs o v.cells.toList).toArray) := by simpa only [laid, Nat.add_zero] using hs
    simp only [Instr.storeAt, Instr.sureAddr, Sem.run_bind, Sem.run_pure, Result.andThen_ok]
    generalize hc : v.cells = c at *
    simp [storeVar, sizeOf, typeInfo, hq, hz, hc, hs2]
theorem wp_store_part {o : Oper} {a : Act} {w : World} {K : Act → World → Prop} {Q : Exit → Act → World → Prop} {T : TypeId} (ty : TypeId) (x y : Operand) {vs : List Value} (ws : List Value) {B : Nat} (hB : Blk w B T vs) (k : Nat) (v : Value) (ns : List Value) (ho : o.op = .store ty x y) (hd : o.dst = none)
    (hx : a.eval x = .pointer (some ⟨B, k, none⟩)) (hy : a.eval y = v) (hv : v.cells.toList = ns) (hi : (Try.prog.info? ty).map (·.size) = some ns.length) (hle : k + ns.length ≤ vs.length) (h1 : ns.all (·.oneCell') = true) (hws : laid vs k ns = ws)
    (h : K a (w.setRow B ws.toArray)) : o.wp Try.prog a w K Q := by
  subst hws
  subst hv
  unfold Oper.wp execOp
  simp only [ho, hx, hy, Sem.run_bind, run_store_part hB k v ty (by simpa using hi) (by simpa using hle) (by rw [← Array.all_toList]; exact h1), Result.andThen_ok]
  have h2 : K (a.put o.dst undef) (w.setRow B (laid vs k v.cells.toList).toArray) := by rw [hd]; exact h
  exact h2
theorem wpList_store_part {ops : Array Oper} {rest : List Oper} {o : Oper} {a : Act} {w : World} {Q : Exit → Act → World → Prop} {T : TypeId} (ty : TypeId) (x y : Operand) {vs : List Value} (ws : List Value) {B : Nat} (hB : Blk w B T vs) (k : Nat) (v : Value) (ns : List Value) (ho : o.op = .store ty x y) (hd : o.dst = none) (hgd : o.guard = none)
    (hx : a.eval x = .pointer (some ⟨B, k, none⟩)) (hy : a.eval y = v) (hv : v.cells.toList = ns) (hi : (Try.prog.info? ty).map (·.size) = some ns.length) (hle : k + ns.length ≤ vs.length) (h1 : ns.all (·.oneCell') = true) (hws : laid vs k ns = ws)
    (h : wpList Try.prog ops Q rest a (w.setRow B ws.toArray)) : wpList Try.prog ops Q (o :: rest) a w :=
  wpList_plain hgd fun _ hK => wp_store_part ty x y ws hB k v ns ho hd hx hy hv hi hle h1 hws (hK _ _ h)
theorem grownBy_row (W : World) (B : Nat) (cs : Array Value) : W.grownBy (W.setRow B cs) (some B) := ⟨rfl, rfl, rfl, by simp, fun k _ hr => setRow_other W B k cs (fun e => hr (by rw [e]))⟩
theorem grown_row {w W : World} {row : Option Nat} {B : Nat} (h : w.grownBy W row) (hB : w.heap.size ≤ B) (cs : Array Value) : w.grownBy (W.setRow B cs) row := by
  have g := grownBy_row W B cs
  exact ⟨g.os.trans h.os, g.tape.trans h.tape, g.output.trans h.output, Nat.le_trans h.size g.size, fun k hk hr => (g.block k (Nat.lt_of_lt_of_le hk h.size) (by intro e; cases e; omega)).trans (h.block k hk hr)⟩
end Go.Proofs.Ytakeickgjplahaa
