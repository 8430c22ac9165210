/-
  A whole row is stored: what becomes of blocks.
-/
import Derived.Test.YtakeickgjplahaaBase
import Derived.Laws.Rows
import Derived.Laws.CopyOwn
namespace Go.Proofs.Ytakeickgjplahaa
open Go.RowKit Go.Shelf

theorem Blk.row {w : World} {g : Nat} {t : TypeId} {old : List Value} (hg : Blk w g t old) (vs : List Value) : Blk (w.setRow g vs.toArray) g t vs := setRow_heap w g _ _ t _ hg
theorem Blk.rowO {w : World} {B g : Nat} {t : TypeId} {vs : List Value} (h : Blk w B t vs) (cs : Array Value) (hne : B ≠ g) : Blk (w.setRow g cs) B t vs := (setRow_other w g B cs hne).trans h
/-- A load, carried out. -/
theorem exec_load {P : Program} {ρ : Operand → Value} {o : Oper} (ty : TypeId) (x : Operand) (ho : o.op = .load ty x) (v : Value) (w : World) (hrun : (Instr.loadAt ty (ρ x)).run P w = .ok v w) : (execOp ρ o).run P w = .ok (.value v) w := by
  unfold execOp
  simp only [ho, Sem.run_bind, hrun, Result.andThen_ok]
  rfl
end Go.Proofs.Ytakeickgjplahaa
