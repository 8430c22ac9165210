/-
  A struct that is known whole is loaded in one step.
-/
import Derived.Test.YtakeickgjplahaaIndexTo
import Derived.Laws.Rows
namespace Go.Proofs.Ytakeickgjplahaa
open Go.RowKit Go.Shelf

/-- A load whose value is known, guarded or not: as one step. -/
theorem wpList_loadIf {P : Program} {ops : Array Oper} {rest : List Oper} {o : Oper} {a : Act} {w : World} {Q : Exit → Act → World → Prop} (ty : TypeId) (x : Operand) (ho : o.op = .load ty x) (d : Option Tmp) (hd : o.dst = d)
    (hw : Region.wanted o (yielded ops a.tmps) = true) (v : Value) (hrun : (Instr.loadAt ty (a.eval x)).run P w = .ok v w) (h : wpList P ops Q rest (a.put d v) w) : wpList P ops Q (o :: rest) a w := by
  subst hd
  refine wpList_step fun K hK => ?_
  rw [if_pos hw]
  unfold Oper.wp execOp
  simp only [ho, Sem.run_bind, hrun, Result.andThen_ok]
  exact hK _ _ h
end Go.Proofs.Ytakeickgjplahaa
