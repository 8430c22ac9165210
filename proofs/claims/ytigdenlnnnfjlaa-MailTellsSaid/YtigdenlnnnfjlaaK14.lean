/-
  '==' of structs, field by field; of transfers, of sides' data.
  '==' of two messages is that of their things.
  There is no kind 0.
  'string(b)'; the octets of a writer by the reference.
  What all readings of arguments share.
  A slice of octets among the arguments.
  A wide number among the arguments is four words.
  A number and a text have one cell each.
  Sizes within an argument.
  A transfer, and a side's data, among the arguments.
  An ask, and a bid, among the arguments.
  A message among the arguments.
  A beginning of a row of octets; where is cut.
-/
import Derived.Laws.StructEq
import Derived.Outline
import Derived.Great.BuildSlice
import Derived.Test.YtigdenlnnnfjlaaRows
import Derived.ProofKit
import Derived.OpenShut
import Derived.Laws.IdiomArrays
import Derived.Lib.SmallJoins
import Derived.Below
import Derived.Deep.Slices
import Derived.SizedLaws
import Derived.Carry
import Derived.ChangeMaps5
import Derived.JoinedCond
import Derived.Deep.Fields
import Derived.Test.YtigdenlnnnfjlaaK13
namespace Go.Proofs.Ytigdenlnnnfjlaa
open Go.RowKit Go.Shelf

theorem eqF_cons {P : Program} {d : Nat} {xs ys : Array Value} {f : Field} {fs : List Field} {a b : Value} {r s : Bool} {w : World} (hn : f.name ≠ "_") (ha : (part f.type xs f.offset).run P w = .ok a w) (hb : (part f.type ys f.offset).run P w = .ok b w)
    (hr : (Op.equalIn d f.type a b).run P w = .ok r w) (h : (Op.eqFields d xs ys fs).run P w = .ok s w) : (Op.eqFields d xs ys (f :: fs)).run P w = .ok (r && s) w := by
  simp only [Op.eqFields, if_pos hn, Sem.run_bind, ha, hb, hr, Result.andThen_ok]
  cases r
  · simp
  · simpa using h
theorem eqF_nil {P : Program} {d : Nat} {xs ys : Array Value} {w : World} : (Op.eqFields d xs ys []).run P w = .ok true w := rfl
def eqI (a b : Trf) : Bool := (a.us == b.us) && ((a.rt.toList == b.rt.toList) && ((a.ro == b.ro) && ((a.se == b.se) && ((a.re == b.re) && ((a.to == b.to) && ((a.id.toList == b.id.toList) && true))))))
def eqV (a b : Sid) : Bool := wEq (a.a0 : Nat) (a.a1 : Nat) (a.a2 : Nat) (a.a3 : Nat) (b.a0 : Nat) (b.a1 : Nat) (b.a2 : Nat) (b.a3 : Nat) && ((a.x == b.x) && true)
theorem eqI_refl (a : Trf) : eqI a a = true := by simp [eqI]
theorem eqV_refl (a : Sid) : eqV a a = true := by simp [eqV, wEq_refl]
theorem part_int (cs : Array Value) (o : Nat) (v : Value) (h : cs[o]? = some v) (w : World) : (part 3 cs o).run Try.prog w = .ok v w := by
  simp [part, isAgg, run_underlying Try.underlying3, h, go_sem]
theorem part_str (cs : Array Value) (o : Nat) (v : Value) (h : cs[o]? = some v) (w : World) : (part 9 cs o).run Try.prog w = .ok v w := by
  simp [part, isAgg, run_underlying Try.underlying9, h, go_sem]
theorem run_eqI (d : Nat) (a b : Trf) (w : World) : (Op.equalIn (d + 2) 30 (ivv a) (ivv b)).run Try.prog w = .ok (eqI a b) w := by
  rw [run_equalIn_struct w (d + 1) 30 _ _ (by kernel_rfl) (by kernel_rfl)]
  simp only [Program.fieldsOf, Try.underlying30]
  have hi : ∀ x y : Int, (Op.equalIn (d + 1) 3 (.int .i64 x) (.int .i64 y)).run Try.prog w = .ok (x == y) w := fun x y => run_equalIn_int w d 3 .i64 .i64 x y Try.underlying3
  have hs : ∀ x y : ByteArray, (Op.equalIn (d + 1) 9 (.string x) (.string y)).run Try.prog w = .ok (x.toList == y.toList) w := fun x y => run_equalIn_string w d 9 x y Try.underlying9
  refine eqF_cons (by decide) (part_int _ _ _ rfl w) (part_int _ _ _ rfl w) (hi _ _) ?_
  refine eqF_cons (by decide) (part_str _ _ _ rfl w) (part_str _ _ _ rfl w) (hs _ _) ?_
  refine eqF_cons (by decide) (part_int _ _ _ rfl w) (part_int _ _ _ rfl w) (hi _ _) ?_
  refine eqF_cons (by decide) (part_int _ _ _ rfl w) (part_int _ _ _ rfl w) (hi _ _) ?_
  refine eqF_cons (by decide) (part_int _ _ _ rfl w) (part_int _ _ _ rfl w) (hi _ _) ?_
  refine eqF_cons (by decide) (part_int _ _ _ rfl w) (part_int _ _ _ rfl w) (hi _ _) ?_
  refine eqF_cons (by decide) (part_str _ _ _ rfl w) (part_str _ _ _ rfl w) (hs _ _) ?_
  exact eqF_nil
theorem part_agg (ty : TypeId) (d : TypeDesc) (hu : Try.prog.underlying ty = some d) (hd : (match d with | .struct _ | .array _ _ => true | _ => false) = true) (n : Nat) (hi : (Try.prog.info? ty).map (·.size) = some n) (cs ns : Array Value) (o : Nat) (h : cs.extract o (o + n) = ns) (w : World) :
    (part ty cs o).run Try.prog w = .ok (.agg ns) w := by
  cases hq : Try.prog.info? ty with
  | none => simp [hq] at hi
  | some i =>
    have hs : i.size = n := by simpa [hq] using hi
    have hagg : (isAgg ty).run Try.prog w = .ok true w := by
      unfold isAgg
      rw [Sem.run_bind, run_underlying hu w]
      cases d <;> simp_all
    simp [part, Sem.run_bind, hagg, sizeOf, typeInfo, hq, hs, h]
theorem run_eqV (d : Nat) (a b : Sid) (w : World) : (Op.equalIn (d + 3) 32 (svv a) (svv b)).run Try.prog w = .ok (eqV a b) w := by
  rw [run_equalIn_struct w (d + 2) 32 _ _ (by kernel_rfl) (by kernel_rfl)]
  simp only [Program.fieldsOf, Try.underlying32]
  have hi : ∀ x y : Int, (Op.equalIn (d + 2) 3 (.int .i64 x) (.int .i64 y)).run Try.prog w = .ok (x == y) w := fun x y => run_equalIn_int w (d + 1) 3 .i64 .i64 x y Try.underlying3
  refine eqF_cons (by decide) (part_agg _ _ Try.underlying24 rfl 4 (by kernel_rfl) _ _ _ rfl w) (part_agg _ _ Try.underlying24 rfl 4 (by kernel_rfl) _ _ _ rfl w) (run_equalIn_wide' d _ _ _ _ _ _ _ _ w) ?_
  refine eqF_cons (by decide) (part_int _ _ _ rfl w) (part_int _ _ _ rfl w) (hi _ _) ?_
  exact eqF_nil
end Go.Proofs.Ytigdenlnnnfjlaa

namespace Go.Proofs.Ytigdenlnnnfjlaa
open Go.RowKit Go.Shelf

theorem part_aggL (ty : TypeId) (d : TypeDesc) (hu : Try.prog.underlying ty = some d) (hd : (match d with | .struct _ | .array _ _ => true | _ => false) = true) (n : Nat) (hi : (Try.prog.info? ty).map (·.size) = some n) (cs ns : List Value) (o : Nat) (h : (cs.drop o).take n = ns) (w : World) :
    (part ty cs.toArray o).run Try.prog w = .ok (.agg ns.toArray) w :=
  part_agg ty d hu hd n hi cs.toArray ns.toArray o (by rw [List.extract_toArray, List.extract_eq_take_drop, ← h]; simp) w
def eqA (a b : Ak) : Bool := (a.us == b.us) && ((a.se == b.se) && ((a.re == b.re) && ((a.to == b.to) && (wEq (a.a0 : Nat) (a.a1 : Nat) (a.a2 : Nat) (a.a3 : Nat) (b.a0 : Nat) (b.a1 : Nat) (b.a2 : Nat) (b.a3 : Nat) && ((a.id.toList == b.id.toList) && true)))))
def eqB (a b : Bd) : Bool := (a.ro == b.ro) && (eqA a.k b.k && (wEq (a.b0 : Nat) (a.b1 : Nat) (a.b2 : Nat) (a.b3 : Nat) (b.b0 : Nat) (b.b1 : Nat) (b.b2 : Nat) (b.b3 : Nat) && ((a.un == b.un) && ((a.sg.toList == b.sg.toList) && true))))
def eqM (a b : Ms) : Bool := (a.kd == b.kd) && (eqA a.ak b.ak && (eqB a.bd b.bd && (eqI a.iv b.iv && (eqV a.vr b.vr && (wEq (a.f0 : Nat) (a.f1 : Nat) (a.f2 : Nat) (a.f3 : Nat) (b.f0 : Nat) (b.f1 : Nat) (b.f2 : Nat) (b.f3 : Nat) && ((a.sg.toList == b.sg.toList) && true))))))
theorem eqA_refl (a : Ak) : eqA a a = true := by simp [eqA, wEq_refl]
theorem eqB_refl (a : Bd) : eqB a a = true := by simp [eqB, wEq_refl, eqA_refl]
theorem eqM_refl (a : Ms) : eqM a a = true := by simp [eqM, wEq_refl, eqA_refl, eqB_refl, eqI_refl, eqV_refl]
theorem run_eqA (d : Nat) (a b : Ak) (w : World) : (Op.equalIn (d + 3) 26 (akv a) (akv b)).run Try.prog w = .ok (eqA a b) w := by
  rw [run_equalIn_struct w (d + 2) 26 _ _ (by kernel_rfl) (by kernel_rfl)]
  simp only [Program.fieldsOf, Try.underlying26]
  have hi : ∀ x y : Int, (Op.equalIn (d + 2) 3 (.int .i64 x) (.int .i64 y)).run Try.prog w = .ok (x == y) w := fun x y => run_equalIn_int w (d + 1) 3 .i64 .i64 x y Try.underlying3
  have hs : ∀ x y : ByteArray, (Op.equalIn (d + 2) 9 (.string x) (.string y)).run Try.prog w = .ok (x.toList == y.toList) w := fun x y => run_equalIn_string w (d + 1) 9 x y Try.underlying9
  refine eqF_cons (by decide) (part_int _ _ _ rfl w) (part_int _ _ _ rfl w) (hi _ _) ?_
  refine eqF_cons (by decide) (part_int _ _ _ rfl w) (part_int _ _ _ rfl w) (hi _ _) ?_
  refine eqF_cons (by decide) (part_int _ _ _ rfl w) (part_int _ _ _ rfl w) (hi _ _) ?_
  refine eqF_cons (by decide) (part_int _ _ _ rfl w) (part_int _ _ _ rfl w) (hi _ _) ?_
  refine eqF_cons (by decide) (part_agg _ _ Try.underlying24 rfl 4 (by kernel_rfl) _ _ _ rfl w) (part_agg _ _ Try.underlying24 rfl 4 (by kernel_rfl) _ _ _ rfl w) (run_equalIn_wide' d _ _ _ _ _ _ _ _ w) ?_
  refine eqF_cons (by decide) (part_str _ _ _ rfl w) (part_str _ _ _ rfl w) (hs _ _) ?_
  exact eqF_nil
theorem run_eqB (d : Nat) (a b : Bd) (w : World) : (Op.equalIn (d + 4) 28 (bdv a) (bdv b)).run Try.prog w = .ok (eqB a b) w := by
  rw [run_equalIn_struct w (d + 3) 28 _ _ (by kernel_rfl) (by kernel_rfl)]
  simp only [Program.fieldsOf, Try.underlying28]
  have hi : ∀ x y : Int, (Op.equalIn (d + 3) 3 (.int .i64 x) (.int .i64 y)).run Try.prog w = .ok (x == y) w := fun x y => run_equalIn_int w (d + 2) 3 .i64 .i64 x y Try.underlying3
  have hs : ∀ x y : ByteArray, (Op.equalIn (d + 3) 9 (.string x) (.string y)).run Try.prog w = .ok (x.toList == y.toList) w := fun x y => run_equalIn_string w (d + 2) 9 x y Try.underlying9
  refine eqF_cons (by decide) (part_int _ _ _ rfl w) (part_int _ _ _ rfl w) (hi _ _) ?_
  refine eqF_cons (by decide) (part_agg _ _ Try.underlying26 rfl 9 (by kernel_rfl) _ _ _ rfl w) (part_agg _ _ Try.underlying26 rfl 9 (by kernel_rfl) _ _ _ rfl w) (run_eqA d a.k b.k w) ?_
  refine eqF_cons (by decide) (part_agg _ _ Try.underlying24 rfl 4 (by kernel_rfl) _ _ _ rfl w) (part_agg _ _ Try.underlying24 rfl 4 (by kernel_rfl) _ _ _ rfl w) (run_equalIn_wide' (d + 1) _ _ _ _ _ _ _ _ w) ?_
  refine eqF_cons (by decide) (part_int _ _ _ rfl w) (part_int _ _ _ rfl w) (hi _ _) ?_
  refine eqF_cons (by decide) (part_str _ _ _ rfl w) (part_str _ _ _ rfl w) (hs _ _) ?_
  exact eqF_nil
theorem run_eqM' (d : Nat) (a b : Ms) (w : World) : (Op.equalIn (d + 5) 34 (msv a) (msv b)).run Try.prog w = .ok (eqM a b) w := by
  rw [run_equalIn_struct w (d + 4) 34 _ _ (by kernel_rfl) (by kernel_rfl)]
  simp only [Program.fieldsOf, Try.underlying34]
  have hi : ∀ x y : Int, (Op.equalIn (d + 4) 3 (.int .i64 x) (.int .i64 y)).run Try.prog w = .ok (x == y) w := fun x y => run_equalIn_int w (d + 3) 3 .i64 .i64 x y Try.underlying3
  have hs : ∀ x y : ByteArray, (Op.equalIn (d + 4) 9 (.string x) (.string y)).run Try.prog w = .ok (x.toList == y.toList) w := fun x y => run_equalIn_string w (d + 3) 9 x y Try.underlying9
  refine eqF_cons (by decide) (part_int _ _ _ rfl w) (part_int _ _ _ rfl w) (hi _ _) ?_
  refine eqF_cons (by decide) (part_aggL _ _ Try.underlying26 rfl 9 (by kernel_rfl) (msc a) (akc a.ak) 1 rfl w) (part_aggL _ _ Try.underlying26 rfl 9 (by kernel_rfl) (msc b) (akc b.ak) 1 rfl w) (run_eqA (d + 1) a.ak b.ak w) ?_
  refine eqF_cons (by decide) (part_aggL _ _ Try.underlying28 rfl 16 (by kernel_rfl) (msc a) (bdc a.bd) 10 rfl w) (part_aggL _ _ Try.underlying28 rfl 16 (by kernel_rfl) (msc b) (bdc b.bd) 10 rfl w) (run_eqB d a.bd b.bd w) ?_
  refine eqF_cons (by decide) (part_aggL _ _ Try.underlying30 rfl 7 (by kernel_rfl) (msc a) (ivc a.iv) 26 rfl w) (part_aggL _ _ Try.underlying30 rfl 7 (by kernel_rfl) (msc b) (ivc b.iv) 26 rfl w) (run_eqI (d + 2) a.iv b.iv w) ?_
  refine eqF_cons (by decide) (part_aggL _ _ Try.underlying32 rfl 5 (by kernel_rfl) (msc a) (svc a.vr) 33 rfl w) (part_aggL _ _ Try.underlying32 rfl 5 (by kernel_rfl) (msc b) (svc b.vr) 33 rfl w) (run_eqV (d + 1) a.vr b.vr w) ?_
  refine eqF_cons (by decide) (part_aggL _ _ Try.underlying24 rfl 4 (by kernel_rfl) (msc a) ([.int .u64 (a.f0 : Nat), .int .u64 (a.f1 : Nat), .int .u64 (a.f2 : Nat), .int .u64 (a.f3 : Nat)]) 38 rfl w) (part_aggL _ _ Try.underlying24 rfl 4 (by kernel_rfl) (msc b) ([.int .u64 (b.f0 : Nat), .int .u64 (b.f1 : Nat), .int .u64 (b.f2 : Nat), .int .u64 (b.f3 : Nat)]) 38 rfl w) (run_equalIn_wide' (d + 2) _ _ _ _ _ _ _ _ w) ?_
  refine eqF_cons (by decide) (part_str _ _ _ rfl w) (part_str _ _ _ rfl w) (hs _ _) ?_
  exact eqF_nil
/-- As the walk meets it. -/
theorem run_eqM (a b : Ms) (w : World) : (Op.equalIn 10000 34 (msv a) (msv b)).run Try.prog w = .ok (eqM a b) w := run_eqM' 9995 a b w

/-- '==', '!=', carried out. -/
theorem exec_eqM {ρ : Operand → Value} {o : Oper} (x y : Operand) (z : TypeId) (ho : o.op = .binOp .eql 34 x y z) (a b : Ms) (hx : ρ x = msv a) (hy : ρ y = msv b) (w : World) : (execOp ρ o).run Try.prog w = .ok (.value (.bool (eqM a b))) w := by
  unfold execOp
  simp only [ho, hx, hy, Sem.run_bind, run_eqGuard_agg w .eql 34 x y _ _ (show Try.prog.eqGuardType Try.prog.depth 34 = false by kernel_rfl), run_eql_struct, run_eqM, Result.andThen_ok]
  rfl
theorem exec_neM {ρ : Operand → Value} {o : Oper} (x y : Operand) (z : TypeId) (ho : o.op = .binOp .neq 34 x y z) (a b : Ms) (hx : ρ x = msv a) (hy : ρ y = msv b) (w : World) : (execOp ρ o).run Try.prog w = .ok (.value (.bool (!eqM a b))) w := by
  unfold execOp
  simp only [ho, hx, hy, Sem.run_bind, run_eqGuard_agg w .neq 34 x y _ _ (show Try.prog.eqGuardType Try.prog.depth 34 = false by kernel_rfl), run_neq_struct, run_eqM, Result.andThen_ok]
  rfl
theorem exec_eqS {ρ : Operand → Value} {o : Oper} (x y : Operand) (z : TypeId) (ho : o.op = .binOp .eql 34 x y z) (a : Ms) (hx : ρ x = msv a) (hy : ρ y = msv a) (w : World) : (execOp ρ o).run Try.prog w = .ok (.value (.bool true)) w := by
  rw [exec_eqM x y z ho a a hx hy w, eqM_refl]
theorem exec_neS {ρ : Operand → Value} {o : Oper} (x y : Operand) (z : TypeId) (ho : o.op = .binOp .neq 34 x y z) (a : Ms) (hx : ρ x = msv a) (hy : ρ y = msv a) (w : World) : (execOp ρ o).run Try.prog w = .ok (.value (.bool false)) w := by
  rw [exec_neM x y z ho a a hx hy w, eqM_refl]; rfl
/-- An operation that is carried out in one step, guarded or not. -/
theorem wpList_valueIf {P : Program} {ops : Array Oper} {rest : List Oper} {o : Oper} {a : Act} {w : World} {Q : Exit → Act → World → Prop} (d : Option Tmp) (hd : o.dst = d) (hw : Region.wanted o (yielded ops a.tmps) = true) (v : Value) (hf : (execOp a.eval o).run P w = .ok (.value v) w)
    (h : wpList P ops Q rest (a.put d v) w) : wpList P ops Q (o :: rest) a w := by
  subst hd
  refine wpList_step fun K hK => ?_
  rw [if_pos hw]
  unfold Oper.wp
  rw [hf]
  exact hK _ _ h
end Go.Proofs.Ytigdenlnnnfjlaa

namespace Go.Proofs.Ytigdenlnnnfjlaa
open Go.RowKit Go.Shelf

def m1 : Ms := ⟨1, ⟨0, 0, 0, 0, 1, 0, 0, 0, ⟨#[120]⟩⟩, noB, noI, noV, 0, 0, 0, 0, emptyB⟩
theorem errG_no : errG noM = 12 := by decide
theorem errG_m1 : errG m1 = 0 := by decide
theorem ok4_n : Ok4 0 0 0 0 := ⟨M_pos, M_pos, M_pos, M_pos⟩
theorem okM_n : OkM noM := ⟨⟨ok4_n⟩, ⟨ok4_n, ok4_n⟩, ok4_n, ok4_n⟩
theorem okM_m1 : OkM m1 := ⟨⟨⟨by decide, M_pos, M_pos, M_pos⟩⟩, ⟨ok4_n, ok4_n⟩, ok4_n, ok4_n⟩
theorem mailNum_any (x : Int) (w : World) : Calls Try.prog 11 #[.int .i64 x] w fun e W' => e = .returned (.int .i64 x) ∧ w = W' := by
  go_enter Try.func11, Try.ntmps11
  go_wp2
  go_ret
  exact ⟨rfl, rfl⟩
set_option maxRecDepth 100000 in
set_option maxHeartbeats 2000000 in
theorem mailAlive_any (w : World) : Calls Try.prog 13 #[] w fun e W' => e = .returned (.bool true) ∧ Below w.heap.size w W' := by
  have H0 : Hid (∀ W, Calls Try.prog 12 #[msv noM] W fun e W' => e = .returned (.int .i64 12) ∧ Below W.heap.size W W') := Lib.hid fun W => (mailCheck_any noM okM_n W).mono (by rintro e W' ⟨rfl, h⟩; exact ⟨by rw [errG_no], h⟩)
  have H1 : Hid (∀ W, Calls Try.prog 12 #[msv m1] W fun e W' => e = .returned (.int .i64 0) ∧ Below W.heap.size W W') := Lib.hid fun W => (mailCheck_any m1 okM_m1 W).mono (by rintro e W' ⟨rfl, h⟩; exact ⟨by rw [errG_m1], h⟩)
  have kM := Blk.new w 34 (msc noM)
  have hB := chain0 w (.cells (msc noM).toArray 34)
  go_enter Try.func13, Try.ntmps13
  go_wp2_with (first
    | (refine wpList_buildTo rfl 34 _ rfl (some 4) rfl (msc m1).toArray (by kernel_rfl) ?_)
    | (refine wpList_buildTo rfl 34 _ rfl (some 5) rfl (msc noM).toArray (by kernel_rfl) ?_)
    | ((refine wpList_store_part 34 (.tmp 1) (.tmp 4) (msc m1) kM 0 (msv m1) (msc m1) ?_ ?_ ?_ ?_ ?_ ?_ ?_ ?_ ?_ ?_ ?_); (· rfl); (· rfl); (· rfl); (· rfl); (· rfl); (· rfl); (· kernel_rfl); (· exact Nat.le_of_ble_eq_true rfl); (· rfl); (· rfl); replace kM := kM.row (msc m1); replace hB := below_setRow hB (Nat.le_refl _) (msc m1).toArray)
    | ((with_reducible refine wpList_loadIf 34 (.tmp 1) ?_ (some 9) ?_ ?_ (msv m1) ?_ ?_); (· rfl); (· rfl); (· rfl); (· exact load_ms kM))
    | (go_at_call 12; refine (H0.out _).mono ?_; clear H0; rintro e w1 ⟨rfl, hb⟩; replace kM := kM.below hb kM.lt; replace hB := chain hB hb; clear hb)
    | (go_at_call 12; refine (H1.out _).mono ?_; clear H1; rintro e w2 ⟨rfl, hb⟩; replace hB := chain hB hb))
  go_ret
  exact ⟨rfl, hB⟩
end Go.Proofs.Ytigdenlnnnfjlaa

namespace Go.Proofs.Ytigdenlnnnfjlaa
open Go.RowKit Go.Shelf

/-- 'string(b)', at this seat. -/
theorem str_of (W : World) {lo hi : Nat} {sv : Value} {l : List UInt8} (h : BSl lo hi W sv l) : (convert 35 9 sv).run Try.prog W = .ok (.string ⟨l.toArray⟩) W :=
  run_string (P := Try.prog) 35 5 9 Try.underlying35 Try.underlying5 Try.underlying9 W h
theorem fieldB (W : World) (a : Option Addr) (m c : Nat) (x : Int) : (Instr.field 62 (.agg #[.slice a m c, .int .i64 x]) 0).run Try.prog W = .ok (.slice a m c) W := by
  simp [Instr.field, asAgg, run_underlying Try.underlying62, go_sem]
end Go.Proofs.Ytigdenlnnnfjlaa

namespace Go.Proofs.Ytigdenlnnnfjlaa
open Go.ChangeShapes Go.WideShapes Go.ChangeAt Go.RowKit

theorem Try.own : ownKnob Try.prog.godebug = none := by kernel_rfl
theorem Try.laidOut : laidOutB Try.prog = true := by kernel_rfl
theorem wf_i64 {x : Int} (h : (Lit.int .i64 x).wf = true) : -9223372036854775808 ≤ x ∧ x ≤ 9223372036854775807 := by
  simp [Lit.wf, IntKind.min, IntKind.max, IntKind.bits, IntKind.signed] at h
  omega

theorem list_of {α : Type} {Q : Nat → α → Prop} : ∀ {n : Nat}, (∀ i, i < n → ∃ x, Q i x) → ∃ l : List α, l.length = n ∧ ∀ k x, l[k]? = some x → Q k x
  | 0, _ => ⟨[], rfl, fun k x h => by simp at h⟩
  | n + 1, h => by
    obtain ⟨l, hl, hq⟩ := list_of (n := n) (fun i hi => h i (by omega))
    obtain ⟨y, hy⟩ := h n (by omega)
    refine ⟨l ++ [y], by simp [hl], fun k x hx => ?_⟩
    by_cases hk : k < n
    · rw [List.getElem?_append_left (by omega)] at hx
      exact hq k x hx
    · rw [List.getElem?_append_right (by omega)] at hx
      have : k = n := by
        have := (List.getElem?_eq_some_iff.1 hx).1
        simp at this
        omega
      subst this
      simp [hl] at hx
      rw [← hx]; exact hy

theorem add_plain (b off q : Nat) : (⟨b, off, none⟩ : Addr).add q = ⟨b, off + q, none⟩ := by cases q <;> simp [Addr.add]

end Go.Proofs.Ytigdenlnnnfjlaa

namespace Go.Proofs.Ytigdenlnnnfjlaa
open Go.ChangeShapes Go.WideShapes Go.ChangeAt Go.RowKit Go.Deep

theorem Try.bytes8 : Try.prog.bytesOf 5 = 1 := by kernel_rfl
theorem Try.cells8 : Try.prog.cellsOf 5 = 1 := by kernel_rfl

theorem wf_u8 {x : Int} (h : (Lit.int .u8 x).wf = true) : ∃ b : UInt8, x = (b.toNat : Int) := by
  have h' : 0 ≤ x ∧ x < 256 := by
    simp [Lit.wf, IntKind.min, IntKind.max, IntKind.bits, IntKind.signed] at h
    omega
  refine ⟨UInt8.ofNat x.toNat, ?_⟩
  rw [UInt8.toNat_ofNat']
  omega

theorem open_bytes {H : Type} {enc : TypeId × Value → H} {W : World} {base : Nat} {spare : Nat → Bool} {held : Bool} {a : Option Addr} {len cap : Nat} {d : DataW H} {p : List MemPlace}
    (h : DataW.Trod enc Try.prog W base spare held 35 (.slice a len cap) d p) : ∃ zs : List UInt8, len = zs.length ∧ BSl 0 W.heap.size W (.slice a len cap) zs ∧ (zs = [] ∨ ∃ el sp, d = .slice el sp ∧ el.length = zs.length) := by
  obtain ⟨fuel, hf⟩ := h
  rcases open_slice1 Try.underlying35 Try.cells8 hf with h0 | ⟨ad, l, c, m, n, V, D, Pl, hcs, hb, hl, hm, hmm, hx, hi⟩
  · obtain ⟨hcs, _⟩ := h0
    simp [Value.cells] at hcs
    obtain ⟨rfl, rfl, rfl⟩ := hcs
    exact ⟨[], rfl, ⟨none, 0, rfl, Nat.le_refl _, .inl rfl⟩, .inl rfl⟩
  · simp [Value.cells] at hcs
    obtain ⟨rfl, rfl, rfl⟩ := hcs
    have hlm : len ≤ m := by rw [hmm]; split <;> omega
    have key : ∀ i, i < len → ∃ x : UInt8, W.cell? (ad.add i) = some (bv x) := fun i hil => by
      obtain ⟨hc, ht⟩ := hi i (by omega)
      obtain ⟨x, e, _, w0⟩ := DataW.trod_int Try.underlying5 ht
      simp at e
      obtain ⟨b, rfl⟩ := wf_u8 w0
      exact ⟨b, by rw [hc, e]⟩
    obtain ⟨zs, hz, hq⟩ := list_of key
    refine ⟨zs, hz.symm, ⟨some ad, cap, by rw [hz], by rw [hz]; exact hl, ?_⟩, .inr ⟨_, _, (Prod.mk.inj hx).1, by simp [hz]⟩⟩
    by_cases hlen : len = 0
    · exact .inl (List.length_eq_zero_iff.1 (by omega))
    · obtain ⟨x, h0⟩ := key 0 (by omega)
      obtain ⟨b, off, sp⟩ := ad
      have hsp : sp = none := by
        cases sp with
        | none => rfl
        | some _ => simp [Addr.add, World.cell?] at h0; split at h0 <;> simp at h0
      subst hsp
      refine .inr ⟨b, off, rfl, Nat.zero_le _, World.block_lt_of_cell? W _ h0, fun k x hx => ?_⟩
      have := hq k x hx
      rwa [add_plain] at this

end Go.Proofs.Ytigdenlnnnfjlaa

namespace Go.Proofs.Ytigdenlnnnfjlaa
open Go.ChangeShapes Go.WideShapes Go.ChangeAt Go.RowKit

theorem Try.cells24 : Try.prog.cellsOf 24 = 4 := by kernel_rfl
theorem Try.cells22 : Try.prog.cellsOf 22 = 1 := by kernel_rfl

theorem wf_u64 {x : Int} (h : (Lit.int .u64 x).wf = true) : ∃ n : Nat, x = (n : Int) ∧ n < M := by
  have h' : 0 ≤ x ∧ x < 18446744073709551616 := by
    simp [Lit.wf, IntKind.min, IntKind.max, IntKind.bits, IntKind.signed] at h
    omega
  obtain ⟨n, rfl⟩ := Int.eq_ofNat_of_zero_le h'.1
  exact ⟨n, rfl, by unfold M; omega⟩

set_option maxRecDepth 100000 in
theorem open_wide {H : Type} {enc : TypeId × Value → H} {r : Reach} {w : World} {b0 base : Nat} {spare : Nat → Bool} {held : Bool} {v : Value} {d : DataW H} {p : List MemPlace}
    (hv : Value.okWide Try.prog w r b0 24 v) (h : DataW.Trod enc Try.prog w base spare held 24 v d p) : ∃ a0 a1 a2 a3 : Nat, Ok4 a0 a1 a2 a3 ∧ v = wv a0 a1 a2 a3 := by
  obtain ⟨cs, rfl, hsz, _⟩ : ∃ cs, v = .agg cs ∧ cs.size = Try.prog.cellsOf 24 ∧ Row.okWide Try.prog w r b0 24 cs := by
    simpa [Value.okWide, Try.underlying24] using hv
  rw [Try.cells24] at hsz
  obtain ⟨c0, c1, c2, c3, rfl⟩ := Joins.array4 hsz
  obtain ⟨fuel, hf⟩ := h
  obtain ⟨y0, y1, y2, y3, m, hx, hy0, hy1, hy2, hy3⟩ := trod_array4 Try.underlying24 Try.cells22 hf
  obtain ⟨x0, e0, rfl, w0⟩ := DataW.trod_int Try.underlying22 hy0
  obtain ⟨x1, e1, rfl, w1⟩ := DataW.trod_int Try.underlying22 hy1
  obtain ⟨x2, e2, rfl, w2⟩ := DataW.trod_int Try.underlying22 hy2
  obtain ⟨x3, e3, rfl, w3⟩ := DataW.trod_int Try.underlying22 hy3
  simp at e0 e1 e2 e3
  subst e0 e1 e2 e3
  obtain ⟨a0, rfl, l0⟩ := wf_u64 w0
  obtain ⟨a1, rfl, l1⟩ := wf_u64 w1
  obtain ⟨a2, rfl, l2⟩ := wf_u64 w2
  obtain ⟨a3, rfl, l3⟩ := wf_u64 w3
  exact ⟨a0, a1, a2, a3, ⟨l0, l1, l2, l3⟩, rfl⟩

end Go.Proofs.Ytigdenlnnnfjlaa

namespace Go.Proofs.Ytigdenlnnnfjlaa

theorem Try.cellsInt : Try.prog.cellsOf 3 = 1 := by kernel_rfl
theorem Try.cellsStr : Try.prog.cellsOf 9 = 1 := by kernel_rfl
end Go.Proofs.Ytigdenlnnnfjlaa

namespace Go.Proofs.Ytigdenlnnnfjlaa
open Go.ChangeShapes Go.WideShapes Go.ChangeAt Go.RowKit Go.Deep

theorem sized_in {H : Type} {P : Program} {ts : List TypeId} {ds : List (DataW H)} (h : (DataW.weightsEach P ts ds).all (· ≤ reachBytes) = true) {j : Nat} {t : TypeId} {d : DataW H} (ht : ts[j]? = some t) (hd : ds[j]? = some d) (n : Nat) (hn : n ∈ d.weights P t) : n ≤ 140737488351232 := by
  have := List.all_eq_true.1 h _ (DataW.weights_mem_each ht hd n hn)
  have h2 := of_decide_eq_true this
  simp only [reachBytes] at h2
  exact h2
theorem weightsAll_mem {H : Type} {P : Program} {e : TypeId} : ∀ {l : List (DataW H)} {d : DataW H}, d ∈ l → ∀ n ∈ d.weights P e, n ∈ DataW.weightsAll P e l
  | [], _, h, _, _ => by cases h
  | x :: l, d, h, n, hn => by
    simp only [DataW.weightsAll, List.mem_append]
    rcases List.mem_cons.1 h with rfl | h
    · exact .inl hn
    · exact .inr (weightsAll_mem h n hn)
end Go.Proofs.Ytigdenlnnnfjlaa

namespace Go.Proofs.Ytigdenlnnnfjlaa
open Go.ChangeShapes Go.WideShapes Go.ChangeAt Go.RowKit Go.Deep

theorem Try.cellsInv : Try.prog.cellsOf 30 = 7 := by kernel_rfl
theorem Try.cellsVar : Try.prog.cellsOf 32 = 5 := by kernel_rfl
set_option maxRecDepth 100000 in
theorem trod_inv {H : Type} {enc : TypeId × Value → H} {w : World} {base : Nat} {spare : Nat → Bool} {held : Bool} {fuel : Nat} {cs : List Value} {x : DataW H × List MemPlace}
    (h : DataW.trod enc Try.prog w base spare held fuel 30 cs = some x) :
    ∃ i : Trf, cs = ivc i ∧ i.rt.data.toList.length ∈ x.1.weights Try.prog 30 ∧ i.id.data.toList.length ∈ x.1.weights Try.prog 30 := by
  obtain ⟨xs, n, _, hx, hcl, hlen, hg⟩ := DataW.trod_struct Try.underlying30 h
  rw [Try.cellsInv] at hcl
  match cs, hcl with
  | [c0, c1, c2, c3, c4, c5, c6], _ =>
  match xs, hlen with
  | [y0, y1, y2, y3, y4, y5, y6], _ =>
  have h0 := hg 0 ⟨ "User", 3, 0, false, "", "", 0⟩ rfl
  have h1 := hg 1 ⟨ "Root", 9, 1, false, "", "", 8⟩ rfl
  have h2 := hg 2 ⟨ "Router", 3, 2, false, "", "", 24⟩ rfl
  have h3 := hg 3 ⟨ "Send", 3, 3, false, "", "", 32⟩ rfl
  have h4 := hg 4 ⟨ "Recv", 3, 4, false, "", "", 40⟩ rfl
  have h5 := hg 5 ⟨ "To", 3, 5, false, "", "", 48⟩ rfl
  have h6 := hg 6 ⟨ "Id", 9, 6, false, "", "", 56⟩ rfl
  dsimp only at h0 h1 h2 h3 h4 h5 h6
  rw [Try.cellsInt] at h0 h2 h3 h4 h5
  rw [Try.cellsStr] at h1 h6
  simp only [List.drop_succ_cons, List.drop_zero, List.take_succ_cons, List.take_zero, List.getElem?_cons_zero, List.getElem?_cons_succ] at h0 h1 h2 h3 h4 h5 h6
  obtain ⟨z0, e0, hx0, wf0⟩ := DataW.trod_int Try.underlying3 h0
  obtain ⟨s1, e1, hx1, _⟩ := DataW.trod_string Try.underlying9 h1
  obtain ⟨z2, e2, hx2, wf2⟩ := DataW.trod_int Try.underlying3 h2
  obtain ⟨z3, e3, hx3, wf3⟩ := DataW.trod_int Try.underlying3 h3
  obtain ⟨z4, e4, hx4, wf4⟩ := DataW.trod_int Try.underlying3 h4
  obtain ⟨z5, e5, hx5, wf5⟩ := DataW.trod_int Try.underlying3 h5
  obtain ⟨s6, e6, hx6, _⟩ := DataW.trod_string Try.underlying9 h6
  simp at e0 e1 e2 e3 e4 e5 e6
  subst e0 e1 e2 e3 e4 e5 e6
  refine ⟨⟨z0, s1, z2, z3, z4, z5, s6⟩, rfl, ?_, ?_⟩
  · rw [hx]
    have : y1.1 = .lit (.string s1.data.toList) := by rw [hx1]
    simp [DataW.weights, DataW.weightsEach, Try.underlying30, this]
  · rw [hx]
    have : y6.1 = .lit (.string s6.data.toList) := by rw [hx6]
    simp [DataW.weights, DataW.weightsEach, Try.underlying30, this]
set_option maxRecDepth 100000 in
theorem trod_var {H : Type} {enc : TypeId × Value → H} {w : World} {base : Nat} {spare : Nat → Bool} {held : Bool} {fuel : Nat} {cs : List Value} {x : DataW H × List MemPlace}
    (h : DataW.trod enc Try.prog w base spare held fuel 32 cs = some x) :
    ∃ v : Sid, cs = svc v ∧ Ok4 v.a0 v.a1 v.a2 v.a3 := by
  obtain ⟨xs, n, _, hx, hcl, hlen, hg⟩ := DataW.trod_struct Try.underlying32 h
  rw [Try.cellsVar] at hcl
  match cs, hcl with
  | [c0, c1, c2, c3, c4], _ =>
  match xs, hlen with
  | [y0, y1], _ =>
  have h0 := hg 0 ⟨ "Amount", 24, 0, false, "", "", 0⟩ rfl
  have h1 := hg 1 ⟨ "Expiry", 3, 4, false, "", "", 32⟩ rfl
  dsimp only at h0 h1
  rw [Try.cells24] at h0
  rw [Try.cellsInt] at h1
  simp only [List.drop_succ_cons, List.drop_zero, List.take_succ_cons, List.take_zero, List.getElem?_cons_zero, List.getElem?_cons_succ] at h0 h1
  obtain ⟨u0, u1, u2, u3, m, hx3, g0, g1, g2, g3⟩ := trod_array4 Try.underlying24 Try.cells22 h0
  obtain ⟨v0, k0, _, wg0⟩ := DataW.trod_int Try.underlying22 g0
  obtain ⟨v1, k1, _, wg1⟩ := DataW.trod_int Try.underlying22 g1
  obtain ⟨v2, k2, _, wg2⟩ := DataW.trod_int Try.underlying22 g2
  obtain ⟨v3, k3, _, wg3⟩ := DataW.trod_int Try.underlying22 g3
  obtain ⟨z1, e1, hx1, wf1⟩ := DataW.trod_int Try.underlying3 h1
  obtain ⟨a0, rfl, q0⟩ := wf_u64 wg0
  obtain ⟨a1, rfl, q1⟩ := wf_u64 wg1
  obtain ⟨a2, rfl, q2⟩ := wf_u64 wg2
  obtain ⟨a3, rfl, q3⟩ := wf_u64 wg3
  simp at e1 k0 k1 k2 k3
  subst e1 k0 k1 k2 k3
  exact ⟨⟨a0, a1, a2, a3, z1⟩, rfl, ⟨q0, q1, q2, q3⟩⟩

set_option maxRecDepth 100000 in
theorem agg_of {v : Value} {w : World} {r : Reach} {b0 t : Nat} {fs : Array Field} (hu : Try.prog.underlying t = some (.struct fs)) (hv : Value.okWide Try.prog w r b0 t v) : ∃ cs, v = .agg cs := by
  obtain ⟨cs, rfl, _⟩ : ∃ cs, v = .agg cs ∧ cs.size = Try.prog.cellsOf t ∧ Row.okWide Try.prog w r b0 t cs := by
    simpa [Value.okWide, hu] using hv
  exact ⟨cs, rfl⟩
set_option maxRecDepth 100000 in
theorem open_inv {H : Type} {enc : TypeId × Value → H} {r : Reach} {w : World} {b0 base : Nat} {spare : Nat → Bool} {held : Bool} {v : Value} {d : DataW H} {p : List MemPlace}
    (hv : Value.okWide Try.prog w r b0 30 v) (h : DataW.Trod enc Try.prog w base spare held 30 v d p) :
    ∃ i : Trf, v = ivv i ∧ i.rt.data.toList.length ∈ d.weights Try.prog 30 ∧ i.id.data.toList.length ∈ d.weights Try.prog 30 := by
  obtain ⟨cs, rfl⟩ := agg_of Try.underlying30 hv
  obtain ⟨fuel, hf⟩ := h
  obtain ⟨i, hc, h1, h2⟩ := trod_inv hf
  refine ⟨i, ?_, h1, h2⟩
  have : cs.toList = ivc i := hc
  rw [show cs = (ivc i).toArray from by rw [← this]]
set_option maxRecDepth 100000 in
theorem open_var {H : Type} {enc : TypeId × Value → H} {r : Reach} {w : World} {b0 base : Nat} {spare : Nat → Bool} {held : Bool} {v : Value} {d : DataW H} {p : List MemPlace}
    (hv : Value.okWide Try.prog w r b0 32 v) (h : DataW.Trod enc Try.prog w base spare held 32 v d p) :
    ∃ x : Sid, v = svv x ∧ Ok4 x.a0 x.a1 x.a2 x.a3 := by
  obtain ⟨cs, rfl⟩ := agg_of Try.underlying32 hv
  obtain ⟨fuel, hf⟩ := h
  obtain ⟨x, hc, h1⟩ := trod_var hf
  refine ⟨x, ?_, h1⟩
  have : cs.toList = svc x := hc
  rw [show cs = (svc x).toArray from by rw [← this]]
end Go.Proofs.Ytigdenlnnnfjlaa

namespace Go.Proofs.Ytigdenlnnnfjlaa
open Go.ChangeShapes Go.WideShapes Go.ChangeAt Go.RowKit Go.Deep

theorem Try.cellsAsk : Try.prog.cellsOf 26 = 9 := by kernel_rfl
theorem Try.cellsBid : Try.prog.cellsOf 28 = 16 := by kernel_rfl
theorem trod_wide {H : Type} {enc : TypeId × Value → H} {w : World} {base : Nat} {spare : Nat → Bool} {held : Bool} {fuel : Nat} {c0 c1 c2 c3 : Value} {x : DataW H × List MemPlace}
    (h : DataW.trod enc Try.prog w base spare held fuel 24 [c0, c1, c2, c3] = some x) :
    ∃ a0 a1 a2 a3 : Nat, c0 = .int .u64 (a0 : Int) ∧ c1 = .int .u64 (a1 : Int) ∧ c2 = .int .u64 (a2 : Int) ∧ c3 = .int .u64 (a3 : Int) ∧ Ok4 a0 a1 a2 a3 := by
  obtain ⟨u0, u1, u2, u3, m, hx3, g0, g1, g2, g3⟩ := trod_array4 Try.underlying24 Try.cells22 h
  obtain ⟨v0, k0, _, wg0⟩ := DataW.trod_int Try.underlying22 g0
  obtain ⟨v1, k1, _, wg1⟩ := DataW.trod_int Try.underlying22 g1
  obtain ⟨v2, k2, _, wg2⟩ := DataW.trod_int Try.underlying22 g2
  obtain ⟨v3, k3, _, wg3⟩ := DataW.trod_int Try.underlying22 g3
  obtain ⟨a0, rfl, q0⟩ := wf_u64 wg0
  obtain ⟨a1, rfl, q1⟩ := wf_u64 wg1
  obtain ⟨a2, rfl, q2⟩ := wf_u64 wg2
  obtain ⟨a3, rfl, q3⟩ := wf_u64 wg3
  simp at k0 k1 k2 k3
  exact ⟨a0, a1, a2, a3, k0, k1, k2, k3, ⟨q0, q1, q2, q3⟩⟩
set_option maxRecDepth 100000 in
theorem trod_ask {H : Type} {enc : TypeId × Value → H} {w : World} {base : Nat} {spare : Nat → Bool} {held : Bool} {fuel : Nat} {cs : List Value} {x : DataW H × List MemPlace}
    (h : DataW.trod enc Try.prog w base spare held fuel 26 cs = some x) :
    ∃ a : Ak, cs = akc a ∧ OkA a := by
  obtain ⟨xs, n, _, hx, hcl, hlen, hg⟩ := DataW.trod_struct Try.underlying26 h
  rw [Try.cellsAsk] at hcl
  match cs, hcl with
  | [c0, c1, c2, c3, c4, c5, c6, c7, c8], _ =>
  match xs, hlen with
  | [y0, y1, y2, y3, y4, y5], _ =>
  have h0 := hg 0 ⟨ "User", 3, 0, false, "", "", 0⟩ rfl
  have h1 := hg 1 ⟨ "Send", 3, 1, false, "", "", 8⟩ rfl
  have h2 := hg 2 ⟨ "Recv", 3, 2, false, "", "", 16⟩ rfl
  have h3 := hg 3 ⟨ "To", 3, 3, false, "", "", 24⟩ rfl
  have h4 := hg 4 ⟨ "Amount", 24, 4, false, "", "", 32⟩ rfl
  have h5 := hg 5 ⟨ "Id", 9, 8, false, "", "", 64⟩ rfl
  dsimp only at h0 h1 h2 h3 h4 h5
  rw [Try.cellsInt] at h0 h1 h2 h3
  rw [Try.cells24] at h4
  rw [Try.cellsStr] at h5
  simp only [List.drop_succ_cons, List.drop_zero, List.take_succ_cons, List.take_zero, List.getElem?_cons_zero, List.getElem?_cons_succ] at h0 h1 h2 h3 h4 h5
  obtain ⟨z0, e0, _, _⟩ := DataW.trod_int Try.underlying3 h0
  obtain ⟨z1, e1, _, _⟩ := DataW.trod_int Try.underlying3 h1
  obtain ⟨z2, e2, _, _⟩ := DataW.trod_int Try.underlying3 h2
  obtain ⟨z3, e3, _, _⟩ := DataW.trod_int Try.underlying3 h3
  obtain ⟨a0, a1, a2, a3, f0, f1, f2, f3, hk⟩ := trod_wide h4
  obtain ⟨s5, e5, _, _⟩ := DataW.trod_string Try.underlying9 h5
  simp at e0 e1 e2 e3 e5
  subst e0 e1 e2 e3 f0 f1 f2 f3 e5
  exact ⟨⟨z0, z1, z2, z3, a0, a1, a2, a3, s5⟩, rfl, ⟨hk⟩⟩
set_option maxRecDepth 100000 in
theorem trod_bid {H : Type} {enc : TypeId × Value → H} {w : World} {base : Nat} {spare : Nat → Bool} {held : Bool} {fuel : Nat} {cs : List Value} {x : DataW H × List MemPlace}
    (h : DataW.trod enc Try.prog w base spare held fuel 28 cs = some x) :
    ∃ b : Bd, cs = bdc b ∧ OkB b := by
  obtain ⟨xs, n, _, hx, hcl, hlen, hg⟩ := DataW.trod_struct Try.underlying28 h
  rw [Try.cellsBid] at hcl
  match cs, hcl with
  | [c0, c1, c2, c3, c4, c5, c6, c7, c8, c9, c10, c11, c12, c13, c14, c15], _ =>
  match xs, hlen with
  | [y0, y1, y2, y3, y4], _ =>
  have h0 := hg 0 ⟨ "Router", 3, 0, false, "", "", 0⟩ rfl
  have h1 := hg 1 ⟨ "Ask", 26, 1, false, "", "", 8⟩ rfl
  have h2 := hg 2 ⟨ "Amount", 24, 10, false, "", "", 88⟩ rfl
  have h3 := hg 3 ⟨ "Until", 3, 14, false, "", "", 120⟩ rfl
  have h4 := hg 4 ⟨ "Sig", 9, 15, false, "", "", 128⟩ rfl
  dsimp only at h0 h1 h2 h3 h4
  rw [Try.cellsInt] at h0 h3
  rw [Try.cellsAsk] at h1
  rw [Try.cells24] at h2
  rw [Try.cellsStr] at h4
  simp only [List.drop_succ_cons, List.drop_zero, List.take_succ_cons, List.take_zero, List.getElem?_cons_zero, List.getElem?_cons_succ] at h0 h1 h2 h3 h4
  obtain ⟨z0, e0, _, _⟩ := DataW.trod_int Try.underlying3 h0
  obtain ⟨a, ha, hk⟩ := trod_ask h1
  obtain ⟨b0, b1, b2, b3, f0, f1, f2, f3, hk2⟩ := trod_wide h2
  obtain ⟨z3, e3, _, _⟩ := DataW.trod_int Try.underlying3 h3
  obtain ⟨s4, e4, _, _⟩ := DataW.trod_string Try.underlying9 h4
  simp at e0 e3 e4
  simp only [akc, List.cons.injEq, and_true] at ha
  obtain ⟨q0, q1, q2, q3, q4, q5, q6, q7, q8⟩ := ha
  subst e0 e3 e4 f0 f1 f2 f3 q0 q1 q2 q3 q4 q5 q6 q7 q8
  exact ⟨⟨z0, a, b0, b1, b2, b3, z3, s4⟩, rfl, ⟨hk.k, hk2⟩⟩

set_option maxRecDepth 100000 in
theorem agg8_of {v : Value} {w : World} {r : Reach} {b0 t : Nat} {fs : Array Field} (hu : Try.prog.underlying t = some (.struct fs)) (hv : Value.okWide Try.prog w r b0 t v) : ∃ cs, v = .agg cs := by
  obtain ⟨cs, rfl, _⟩ : ∃ cs, v = .agg cs ∧ cs.size = Try.prog.cellsOf t ∧ Row.okWide Try.prog w r b0 t cs := by
    simpa [Value.okWide, hu] using hv
  exact ⟨cs, rfl⟩
set_option maxRecDepth 100000 in
theorem open_ask {H : Type} {enc : TypeId × Value → H} {r : Reach} {w : World} {b0 base : Nat} {spare : Nat → Bool} {held : Bool} {v : Value} {d : DataW H} {p : List MemPlace}
    (hv : Value.okWide Try.prog w r b0 26 v) (h : DataW.Trod enc Try.prog w base spare held 26 v d p) :
    ∃ a : Ak, v = akv a ∧ OkA a := by
  obtain ⟨cs, rfl⟩ := agg8_of Try.underlying26 hv
  obtain ⟨fuel, hf⟩ := h
  obtain ⟨a, hc, h1⟩ := trod_ask hf
  refine ⟨a, ?_, h1⟩
  have : cs.toList = akc a := hc
  rw [show cs = (akc a).toArray from by rw [← this]]
set_option maxRecDepth 100000 in
theorem open_bid {H : Type} {enc : TypeId × Value → H} {r : Reach} {w : World} {b0 base : Nat} {spare : Nat → Bool} {held : Bool} {v : Value} {d : DataW H} {p : List MemPlace}
    (hv : Value.okWide Try.prog w r b0 28 v) (h : DataW.Trod enc Try.prog w base spare held 28 v d p) :
    ∃ b : Bd, v = bdv b ∧ OkB b := by
  obtain ⟨cs, rfl⟩ := agg8_of Try.underlying28 hv
  obtain ⟨fuel, hf⟩ := h
  obtain ⟨b, hc, h1⟩ := trod_bid hf
  refine ⟨b, ?_, h1⟩
  have : cs.toList = bdc b := hc
  rw [show cs = (bdc b).toArray from by rw [← this]]
end Go.Proofs.Ytigdenlnnnfjlaa

namespace Go.Proofs.Ytigdenlnnnfjlaa
open Go.ChangeShapes Go.WideShapes Go.ChangeAt Go.RowKit Go.Deep

theorem Try.cellsMsg : Try.prog.cellsOf 34 = 43 := by kernel_rfl
theorem drop_cut {α : Type} (l : List α) (o n m : Nat) (h : o + n = m) : l.drop o = (l.drop o).take n ++ l.drop m := by
  subst h
  rw [← List.drop_drop, List.take_append_drop]
theorem cells_split {α : Type} (l : List α) (h : l.length = 43) : l = (l.drop 0).take 1 ++ ((l.drop 1).take 9 ++ ((l.drop 10).take 16 ++ ((l.drop 26).take 7 ++ ((l.drop 33).take 5 ++ ((l.drop 38).take 4 ++ (l.drop 42).take 1))))) := by
  have e : l.drop 43 = [] := List.drop_eq_nil_of_le (by omega)
  have k := drop_cut l 42 1 43 rfl
  rw [e, List.append_nil] at k
  rw [← k, ← drop_cut l 38 4 42 rfl, ← drop_cut l 33 5 38 rfl, ← drop_cut l 26 7 33 rfl, ← drop_cut l 10 16 26 rfl, ← drop_cut l 1 9 10 rfl, ← drop_cut l 0 1 1 rfl, List.drop_zero]
theorem four_of {α : Type} {l : List α} (h : l.length = 4) : ∃ c0 c1 c2 c3, l = [c0, c1, c2, c3] := by
  match l, h with
  | [c0, c1, c2, c3], _ => exact ⟨c0, c1, c2, c3, rfl⟩
set_option maxRecDepth 100000 in
set_option maxHeartbeats 1000000 in
theorem trod_msg {H : Type} {enc : TypeId × Value → H} {w : World} {base : Nat} {spare : Nat → Bool} {held : Bool} {fuel : Nat} {cs : List Value} {x : DataW H × List MemPlace}
    (h : DataW.trod enc Try.prog w base spare held fuel 34 cs = some x) :
    ∃ m : Ms, cs = msc m ∧ OkM m := by
  obtain ⟨xs, n, _, hx, hcl, hlen, hg⟩ := DataW.trod_struct Try.underlying34 h
  rw [Try.cellsMsg] at hcl
  match xs, hlen with
  | [y0, y1, y2, y3, y4, y5, y6], _ =>
  have h0 := hg 0 ⟨ "Kind", 3, 0, false, "", "", 0⟩ rfl
  have h1 := hg 1 ⟨ "Ask", 26, 1, false, "", "", 8⟩ rfl
  have h2 := hg 2 ⟨ "Bid", 28, 10, false, "", "", 88⟩ rfl
  have h3 := hg 3 ⟨ "Inv", 30, 26, false, "", "", 232⟩ rfl
  have h4 := hg 4 ⟨ "Var", 32, 33, false, "", "", 304⟩ rfl
  have h5 := hg 5 ⟨ "Fee", 24, 38, false, "", "", 344⟩ rfl
  have h6 := hg 6 ⟨ "Sig", 9, 42, false, "", "", 376⟩ rfl
  dsimp only at h0 h1 h2 h3 h4 h5 h6
  rw [Try.cellsInt] at h0
  rw [Try.cellsAsk] at h1
  rw [Try.cellsBid] at h2
  rw [Try.cellsInv] at h3
  rw [Try.cellsVar] at h4
  rw [Try.cells24] at h5
  rw [Try.cellsStr] at h6
  have hs := cells_split cs hcl
  obtain ⟨z0, e0, _, _⟩ := DataW.trod_int Try.underlying3 h0
  obtain ⟨a, ha, hka⟩ := trod_ask h1
  obtain ⟨b, hb, hkb⟩ := trod_bid h2
  obtain ⟨i, hi, _, _⟩ := trod_inv h3
  obtain ⟨v, hv, hkv⟩ := trod_var h4
  obtain ⟨c0, c1, c2, c3, hc⟩ := four_of (l := (cs.drop 38).take 4) (by rw [List.length_take, List.length_drop, hcl]; rfl)
  rw [hc] at h5 hs
  obtain ⟨b0, b1, b2, b3, g0, g1, g2, g3, hkf⟩ := trod_wide h5
  obtain ⟨s6, e6, _, _⟩ := DataW.trod_string Try.underlying9 h6
  rw [e0, ha, hb, hi, hv, e6, g0, g1, g2, g3] at hs
  exact ⟨⟨z0, a, b, i, v, b0, b1, b2, b3, s6⟩, hs, ⟨hka, hkb, hkv, hkf⟩⟩
set_option maxRecDepth 100000 in
theorem open_msg {H : Type} {enc : TypeId × Value → H} {r : Reach} {w : World} {b0 base : Nat} {spare : Nat → Bool} {held : Bool} {v : Value} {d : DataW H} {p : List MemPlace}
    (hv : Value.okWide Try.prog w r b0 34 v) (h : DataW.Trod enc Try.prog w base spare held 34 v d p) :
    ∃ m : Ms, v = msv m ∧ OkM m := by
  obtain ⟨cs, rfl⟩ := agg_of Try.underlying34 hv
  obtain ⟨fuel, hf⟩ := h
  obtain ⟨m, hc, h1⟩ := trod_msg hf
  refine ⟨m, ?_, h1⟩
  have : cs.toList = msc m := hc
  rw [show cs = (msc m).toArray from by rw [← this]]
end Go.Proofs.Ytigdenlnnnfjlaa

namespace Go.Proofs.Ytigdenlnnnfjlaa
open Go.RowKit Go.Shelf

theorem bsl_head {lo hi : Nat} {W : World} {a : Option Addr} {n c : Nat} {l : List UInt8} (h : BSl lo hi W (.slice a n c) l) {k : Nat} (hk : k ≤ l.length) : BSl lo hi W (.slice a k c) (l.take k) := by
  obtain ⟨a', c', e, hc, h0⟩ := bsl_take h hk
  obtain ⟨_, _, e2, hc2, _⟩ := h
  cases e2
  obtain ⟨rfl, e3, rfl⟩ := Value.slice.inj e
  exact ⟨_, c, by rw [← e3], by omega, h0⟩
/-- Where is cut. -/
def cutAt (z : Int) (n : Nat) : Nat := ((Int.tmod z n + n) % n).toNat
theorem cutAt_spec (z : Int) {n : Nat} (h : 0 < n) : ((Int.tmod z n + n) % n : Int) = (cutAt z n : Int) ∧ cutAt z n < n := by
  unfold cutAt
  have h1 := Int.emod_nonneg (Int.tmod z n + n) (b := (n : Int)) (by omega)
  have h2 := Int.emod_lt_of_pos (Int.tmod z n + n) (b := (n : Int)) (by omega)
  omega

end Go.Proofs.Ytigdenlnnnfjlaa
