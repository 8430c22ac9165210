/-
  make as an operation of a region
-/
import Derived.Laws.OwnMore
import Derived.Test.YtemknjnljciioaaGreatK12
namespace Go.Proofs.YtemknjnljciioaaGreat
open Go.RowKit Go.Shelf
theorem runAt_makeM {P : Program} {ops : Array Oper} {i : Nat} {a : Act} {w w' : World} {d : Option Tmp} {t : TypeId} {x y v : Value} (hr : (ops[i]?).map (fun o => (Region.wanted o (yielded ops a.tmps), o.dst, match o.op with | .makeSlice t' l c => some (t', a.eval l, a.eval c) | _ => none)) = some (true, d, some (t, x, y))) (h : (Instr.makeSlice t x y).run P w = .ok v w') : runAt P ops i a w = some (true, d, .ok (.value v) w') := by
  obtain ⟨o, ho⟩ := some_of hr
  rw [ho] at hr
  have h0 := Option.some.inj hr
  have h1 : Region.wanted o (yielded ops a.tmps) = true := congrArg Prod.fst h0
  have h2 : o.dst = d := congrArg (fun x => x.2.1) h0
  have h3 := congrArg (fun x => x.2.2) h0
  dsimp only at h3
  split at h3
  · rename_i t' l c hop
    obtain ⟨rfl, rfl, rfl⟩ := by simpa using h3
    unfold runAt
    rw [ho]
    simp only [Option.map_some]
    rw [h1, h2]
    unfold execOp
    simp only [hop, Sem.run_bind, h, Result.andThen_ok]
    rfl
  · cases h3
-- HERE
end Go.Proofs.YtemknjnljciioaaGreat
