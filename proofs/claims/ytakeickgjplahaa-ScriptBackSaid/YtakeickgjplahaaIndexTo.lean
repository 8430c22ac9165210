/-
  An element of an array by value.
-/
import Derived.Test.YtakeickgjplahaaBase
import Derived.WalkSpells
import Derived.Laws.CopyOwn
namespace Go.Proofs.Ytakeickgjplahaa
open Go.RowKit Go.Shelf

/-- An element of an array by value. -/
theorem wpList_indexTo {P : Program} {ops : Array Oper} {rest : List Oper} {o : Oper} {a : Act} {w : World} {Q : Exit → Act → World → Prop} (hg : o.guard = none) (t : TypeId) (x y : Operand) (ho : o.op = .index t x y)
    (d : Option Tmp) (hd : o.dst = d) (v : Value) (hf : (Instr.index t (a.eval x) (a.eval y)).run P w = .ok v w)
    (h : wpList P ops Q rest (a.put d v) w) : wpList P ops Q (o :: rest) a w := by
  subst hd
  refine wpList_plain hg fun K hK => ?_
  unfold Oper.wp execOp
  simp only [ho, Sem.run_bind, hf, Result.andThen_ok]
  exact hK _ _ h
end Go.Proofs.Ytakeickgjplahaa
