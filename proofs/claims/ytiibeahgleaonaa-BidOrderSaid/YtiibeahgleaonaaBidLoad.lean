/-
  A struct that is known whole is loaded in one step: a bid, an ask.
-/
import Derived.Test.YtiibeahgleaonaaBidM
import Derived.Test.YtiibeahgleaonaaIndexTo
import Derived.Laws.Rows
namespace Go.Proofs.Ytiibeahgleaonaa
open Go.RowKit Go.Shelf

/-- A load whose value is known, guarded or not: as one step. -/
theorem wpList_loadIf {P : Program} {ops : Array Oper} {rest : List Oper} {o : Oper} {a : Act} {w : World} {Q : Exit → Act → World → Prop} (ty : TypeId) (x : Operand) (ho : o.op = .load ty x) (d : Option Tmp) (hd : o.dst = d)
    (hw : Region.wanted o (yielded ops a.tmps) = true) (v : Value) (hrun : (Instr.loadAt ty (a.eval x)).run P w = .ok v w) (h : wpList P ops Q rest (a.put d v) w) : wpList P ops Q (o :: rest) a w := by
  subst hd
  refine wpList_step fun K hK => ?_
  rw [if_pos hw]
  unfold Oper.wp execOp
  simp only [ho, Sem.run_bind, hrun, Result.andThen_ok]
  exact hK _ _ h
theorem load_bid {W : World} {B : Nat} {b : Bd} (h : Blk W B 51 (bdc b)) : (Instr.loadAt 51 (.pointer (some ⟨B, 0, none⟩))).run Try.prog W = .ok (bdv b) W := by
  simp only [Instr.loadAt, Instr.sureAddr, Sem.run_bind, Sem.run_pure, Result.andThen_ok, run_loadVar_row W B _ 51 (bdc b).toArray (0, 0) _ h Try.underlying51 rfl (by kernel_rfl)]
theorem load_ask {W : World} {B : Nat} {a : Ak} (h : Blk W B 26 (akc a)) : (Instr.loadAt 26 (.pointer (some ⟨B, 0, none⟩))).run Try.prog W = .ok (akv a) W := by
  simp only [Instr.loadAt, Instr.sureAddr, Sem.run_bind, Sem.run_pure, Result.andThen_ok, run_loadVar_row W B _ 26 (akc a).toArray (0, 0) _ h Try.underlying26 rfl (by kernel_rfl)]
end Go.Proofs.Ytiibeahgleaonaa
