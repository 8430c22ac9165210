/-
  '==' of books.
-/
import Derived.Test.YtcgfnppknldhbaaArrEq
import Derived.Test.YtcgfnppknldhbaaPurseRow
import Derived.Laws.StructEq
namespace Go.Proofs.Ytcgfnppknldhbaa
open Go.RowKit Go.Shelf

/-- A part of an array that is an array. -/
theorem part_row (ty : TypeId) (d : TypeDesc) (hu : Try.prog.underlying ty = some d) (hd : (match d with | .struct _ | .array _ _ => true | _ => false) = true) (n : Nat) (hi : (Try.prog.info? ty).map (·.size) = some n) (cs ns : List Value) (o : Nat) (h : (cs.drop o).take n = ns) (w : World) :
    (part ty cs.toArray o).run Try.prog w = .ok (.agg ns.toArray) w := by
  cases hq : Try.prog.info? ty with
  | none => simp [hq] at hi
  | some i =>
    have hs : i.size = n := by simpa [hq] using hi
    have hagg : (isAgg ty).run Try.prog w = .ok true w := by
      unfold isAgg
      rw [Sem.run_bind, run_underlying hu w]
      cases d <;> simp_all
    simp [part, Sem.run_bind, hagg, sizeOf, typeInfo, hq, hs]
    exact h
/-- Are all numbers the same? -/
def eqK (b c : Bk) : Bool := (List.range 8).all fun i => (List.range 2).all fun j => wEq (nw (b (2 * i + j)) 0 : Nat) (nw (b (2 * i + j)) 1 : Nat) (nw (b (2 * i + j)) 2 : Nat) (nw (b (2 * i + j)) 3 : Nat) (nw (c (2 * i + j)) 0 : Nat) (nw (c (2 * i + j)) 1 : Nat) (nw (c (2 * i + j)) 2 : Nat) (nw (c (2 * i + j)) 3 : Nat)
theorem eqK_refl (b : Bk) : eqK b b = true := by unfold eqK; simp [wEq_refl]
theorem run_eqK (d : Nat) (b c : Bk) (w : World) : (Op.equalIn (d + 4) 27 (bkv b) (bkv c)).run Try.prog w = .ok (eqK b c) w := by
  refine run_equalIn_arr (P := Try.prog) w (d + 3) 27 25 8 8 _ _ (fun i => (List.range 2).all fun j => wEq (nw (b (2 * i + j)) 0 : Nat) (nw (b (2 * i + j)) 1 : Nat) (nw (b (2 * i + j)) 2 : Nat) (nw (b (2 * i + j)) 3 : Nat) (nw (c (2 * i + j)) 0 : Nat) (nw (c (2 * i + j)) 1 : Nat) (nw (c (2 * i + j)) 2 : Nat) (nw (c (2 * i + j)) 3 : Nat)) Try.underlying27 (by kernel_rfl) (fun i hi => ?_)
  have hp : ∀ x : Bk, (part 25 (bkc x).toArray (i * 8)).run Try.prog w = .ok (.agg (rowB x (2 * i) 2).toArray) w := fun x =>
    part_row _ _ Try.underlying25 rfl 8 (by kernel_rfl) _ _ _ (by rw [show i * 8 = 8 * i by omega, bkc_row x hi, rowB, rowB, rowB, List.append_nil]) w
  refine ⟨_, _, hp b, hp c, ?_⟩
  refine run_equalIn_arr (P := Try.prog) w (d + 2) 25 24 2 4 _ _ (fun j => wEq (nw (b (2 * i + j)) 0 : Nat) (nw (b (2 * i + j)) 1 : Nat) (nw (b (2 * i + j)) 2 : Nat) (nw (b (2 * i + j)) 3 : Nat) (nw (c (2 * i + j)) 0 : Nat) (nw (c (2 * i + j)) 1 : Nat) (nw (c (2 * i + j)) 2 : Nat) (nw (c (2 * i + j)) 3 : Nat)) Try.underlying25 (by kernel_rfl) (fun j hj => ?_)
  have hq : ∀ x : Bk, (part 24 (rowB x (2 * i) 2).toArray (j * 4)).run Try.prog w = .ok (wn (x (2 * i + j))) w := fun x =>
    part_row _ _ Try.underlying24 rfl 4 (by kernel_rfl) _ (ws (nw (x (2 * i + j)))) _ (by rw [show j * 4 = 4 * j by omega, rowB_drop x (2 * i) 2 (by omega), show 4 = 4 * 1 from rfl, rowB_take x (2 * i + j) (2 - j) (by omega), rowB, rowB, List.append_nil]) w
  exact ⟨_, _, hq b, hq c, run_equalIn_wide' d _ _ _ _ _ _ _ _ w⟩
/-- As a drawn region meets them. -/
theorem exec_eqK {ρ : Operand → Value} {o : Oper} (x y : Operand) (z : TypeId) (ho : o.op = .binOp .eql 27 x y z) (b c : Bk) (hx : ρ x = bkv b) (hy : ρ y = bkv c) (w : World) : (execOp ρ o).run Try.prog w = .ok (.value (.bool (eqK b c))) w := by
  unfold execOp
  simp only [ho, hx, hy, Sem.run_bind, run_eqGuard_agg w .eql 27 x y _ _ (show Try.prog.eqGuardType Try.prog.depth 27 = false by kernel_rfl), run_eql_struct, run_eqK 9996, Result.andThen_ok]
  rfl
theorem exec_eqKs {ρ : Operand → Value} {o : Oper} (x y : Operand) (z : TypeId) (ho : o.op = .binOp .eql 27 x y z) (b : Bk) (hx : ρ x = bkv b) (hy : ρ y = bkv b) (w : World) : (execOp ρ o).run Try.prog w = .ok (.value (.bool true)) w := by
  rw [exec_eqK x y z ho b b hx hy w, eqK_refl]
theorem exec_eqN {ρ : Operand → Value} {o : Oper} (x y : Operand) (z : TypeId) (ho : o.op = .binOp .eql 24 x y z) (n : Nat) (hx : ρ x = wn n) (hy : ρ y = wn n) (w : World) : (execOp ρ o).run Try.prog w = .ok (.value (.bool true)) w := by
  unfold execOp
  simp only [ho, hx, hy, Sem.run_bind, run_eqGuard_agg w .eql 24 x y _ _ (show Try.prog.eqGuardType Try.prog.depth 24 = false by kernel_rfl), run_eql_struct, run_equalIn_wide, wEq_refl, Result.andThen_ok]
  rfl
/-- An operation that is carried out in one step, guarded or not. -/
theorem wpList_valIf {P : Program} {ops : Array Oper} {rest : List Oper} {o : Oper} {a : Act} {w : World} {Q : Exit → Act → World → Prop} (d : Option Tmp) (hd : o.dst = d) (hw : Region.wanted o (yielded ops a.tmps) = true) (v : Value) (hf : (execOp a.eval o).run P w = .ok (.value v) w)
    (h : wpList P ops Q rest (a.put d v) w) : wpList P ops Q (o :: rest) a w := by
  subst hd
  refine wpList_step fun K hK => ?_
  rw [if_pos hw]
  unfold Oper.wp
  rw [hf]
  exact hK _ _ h
/-- A load, as an operation that is ready. -/
theorem wp_loadOp {P : Program} {o : Oper} {a : Act} {w : World} {K : Act → World → Prop} {Q : Exit → Act → World → Prop} (ty : TypeId) (x : Operand) (ho : o.op = .load ty x) (d : Option Tmp) (hd : o.dst = d) (v : Value) (hrun : (Instr.loadAt ty (a.eval x)).run P w = .ok v w) (h : K (a.put d v) w) : o.wp P a w K Q := by
  subst hd
  unfold Oper.wp execOp
  simp only [ho, Sem.run_bind, hrun, Result.andThen_ok]
  exact h
end Go.Proofs.Ytcgfnppknldhbaa
