/-
  A store into a part of a block leaves field's objects, and octets, alone; A message in memory: what is loaded of it; '==' of structs, field by field; parts of an aggregate; '==' and '!=' of two wide numbers are those of their words; '==' of structs, field by field; of transfers, of sides' data; '==' of two messages is that of their things; A book as a plain thing: of sixteen slots (account, asset)
-/
import Derived.Laws.StructEq
import Derived.Outline
import Derived.Deep.RegionHeld3
import Derived.Test.YtechcdkakgpnkaaGreatProg
import Derived.Tactics
import Derived.KernelRfl
import Derived.Laws.OwnMore
import Derived.Test.YtechcdkakgpnkaaGreatK02
namespace Go.Proofs.YtechcdkakgpnkaaGreat
open Go.RowKit Go.Shelf
theorem objP_row {T : TypeId} {W : World} {p : Option Addr} {s : St} {B : Nat} (h : ObjP T W p s) (hno : NoOct W B) (hne : some B ≠ p.map (·.block)) (cs : Array Value) : ObjP T (W.setRow B cs) p s :=
  h.to (grownBy_row W B cs) (fun r e => by cases e; exact ⟨hno, fun e => hne e.symm⟩)
end Go.Proofs.YtechcdkakgpnkaaGreat
namespace Go.Proofs.YtechcdkakgpnkaaGreat
open Go.RowKit Go.Shelf
theorem load_ms {W : World} {B : Nat} {m : Ms} (h : Blk W B 34 (msc m)) : (Instr.loadAt 34 (.pointer (some ⟨B, 0, none⟩))).run Tryz.prog W = .ok (msv m) W :=
  load_part h 0 (msc m) rfl _ _ Tryz.underlying34 rfl (by kernel_rfl)
theorem load_mak {W : World} {B : Nat} {m : Ms} (h : Blk W B 34 (msc m)) : (Instr.loadAt 26 (.pointer (some ⟨B, 1, none⟩))).run Tryz.prog W = .ok (akv m.ak) W :=
  load_part h 1 (akc m.ak) rfl _ _ Tryz.underlying26 rfl (by kernel_rfl)
theorem load_mbd {W : World} {B : Nat} {m : Ms} (h : Blk W B 34 (msc m)) : (Instr.loadAt 28 (.pointer (some ⟨B, 10, none⟩))).run Tryz.prog W = .ok (bdv m.bd) W :=
  load_part h 10 (bdc m.bd) rfl _ _ Tryz.underlying28 rfl (by kernel_rfl)
theorem load_miv {W : World} {B : Nat} {m : Ms} (h : Blk W B 34 (msc m)) : (Instr.loadAt 30 (.pointer (some ⟨B, 26, none⟩))).run Tryz.prog W = .ok (ivv m.iv) W :=
  load_part h 26 (ivc m.iv) rfl _ _ Tryz.underlying30 rfl (by kernel_rfl)
theorem load_mvr {W : World} {B : Nat} {m : Ms} (h : Blk W B 34 (msc m)) : (Instr.loadAt 32 (.pointer (some ⟨B, 33, none⟩))).run Tryz.prog W = .ok (svv m.vr) W :=
  load_part h 33 (svc m.vr) rfl _ _ Tryz.underlying32 rfl (by kernel_rfl)
theorem load_mfe {W : World} {B : Nat} {m : Ms} (h : Blk W B 34 (msc m)) : (Instr.loadAt 24 (.pointer (some ⟨B, 38, none⟩))).run Tryz.prog W = .ok (wv m.f0 m.f1 m.f2 m.f3) W :=
  load_part h 38 [.int .u64 (m.f0 : Nat), .int .u64 (m.f1 : Nat), .int .u64 (m.f2 : Nat), .int .u64 (m.f3 : Nat)] rfl _ _ Tryz.underlying24 rfl (by kernel_rfl)
theorem load_bd {W : World} {B : Nat} {b : Bd} (h : Blk W B 28 (bdc b)) : (Instr.loadAt 28 (.pointer (some ⟨B, 0, none⟩))).run Tryz.prog W = .ok (bdv b) W :=
  load_part h 0 (bdc b) rfl _ _ Tryz.underlying28 rfl (by kernel_rfl)
theorem load_bk {W : World} {B : Nat} {b : Bd} (h : Blk W B 28 (bdc b)) : (Instr.loadAt 26 (.pointer (some ⟨B, 1, none⟩))).run Tryz.prog W = .ok (akv b.k) W :=
  load_part h 1 (akc b.k) rfl _ _ Tryz.underlying26 rfl (by kernel_rfl)
theorem load_ba {W : World} {B : Nat} {b : Bd} (h : Blk W B 28 (bdc b)) : (Instr.loadAt 24 (.pointer (some ⟨B, 10, none⟩))).run Tryz.prog W = .ok (wv b.b0 b.b1 b.b2 b.b3) W :=
  load_part h 10 [.int .u64 (b.b0 : Nat), .int .u64 (b.b1 : Nat), .int .u64 (b.b2 : Nat), .int .u64 (b.b3 : Nat)] rfl _ _ Tryz.underlying24 rfl (by kernel_rfl)
def noBv8 (v : Value) : Bool := match v with | .int .u8 _ => false | _ => true
theorem noOct_p {vs : List Value} (h : vs.all noBv8 = true) : ∀ u ∈ vs, ∀ y, u ≠ bv y := fun u hu y e => by
  have h1 := (List.all_eq_true.1 h) u hu
  rw [e] at h1
  exact absurd h1 (by simp [noBv8])
theorem noOctM {W : World} {B : Nat} {T : TypeId} {m : Ms} (h : Blk W B T (msc m)) : NoOct W B := noOct_blk h (noOct_p rfl)
theorem noOctB {W : World} {B : Nat} {T : TypeId} {b : Bd} (h : Blk W B T (bdc b)) : NoOct W B := noOct_blk h (noOct_p rfl)
end Go.Proofs.YtechcdkakgpnkaaGreat
namespace Go.Proofs.YtechcdkakgpnkaaGreat
open Go.RowKit Go.Shelf
theorem eqF_cons {P : Program} {d : Nat} {xs ys : Array Value} {f : Field} {fs : List Field} {a b : Value} {r s : Bool} {w : World} (hn : f.name ≠ "_") (ha : (part f.type xs f.offset).run P w = .ok a w) (hb : (part f.type ys f.offset).run P w = .ok b w)
    (hr : (Op.equalIn d f.type a b).run P w = .ok r w) (h : (Op.eqFields d xs ys fs).run P w = .ok s w) : (Op.eqFields d xs ys (f :: fs)).run P w = .ok (r && s) w := by
  simp only [Op.eqFields, if_pos hn, Sem.run_bind, ha, hb, hr, Result.andThen_ok]
  cases r
  · simp
  · simpa using h
theorem eqF_nil {P : Program} {d : Nat} {xs ys : Array Value} {w : World} : (Op.eqFields d xs ys []).run P w = .ok true w := rfl
theorem part_int (cs : Array Value) (o : Nat) (v : Value) (h : cs[o]? = some v) (w : World) : (part 3 cs o).run Tryz.prog w = .ok v w := by
  simp [part, isAgg, run_underlying Tryz.underlying3, h, go_sem]
theorem part_str (cs : Array Value) (o : Nat) (v : Value) (h : cs[o]? = some v) (w : World) : (part 9 cs o).run Tryz.prog w = .ok v w := by
  simp [part, isAgg, run_underlying Tryz.underlying9, h, go_sem]
theorem part_agg (ty : TypeId) (d : TypeDesc) (hu : Tryz.prog.underlying ty = some d) (hd : (match d with | .struct _ | .array _ _ => true | _ => false) = true) (n : Nat) (hi : (Tryz.prog.info? ty).map (·.size) = some n) (cs ns : Array Value) (o : Nat) (h : cs.extract o (o + n) = ns) (w : World) :
    (part ty cs o).run Tryz.prog w = .ok (.agg ns) w := by
  cases hq : Tryz.prog.info? ty with
  | none => simp [hq] at hi
  | some i =>
    have hs : i.size = n := by simpa [hq] using hi
    have hagg : (isAgg ty).run Tryz.prog w = .ok true w := by
      unfold isAgg
      rw [Sem.run_bind, run_underlying hu w]
      cases d <;> simp_all
    simp [part, Sem.run_bind, hagg, sizeOf, typeInfo, hq, hs, h]
-- HERE
end Go.Proofs.YtechcdkakgpnkaaGreat
namespace Go.Proofs.YtechcdkakgpnkaaGreat
open Go.RowKit Go.Shelf
def wEq (a0 a1 a2 a3 b0 b1 b2 b3 : Int) : Bool := decide (a0 = b0 ∧ a1 = b1 ∧ a2 = b2 ∧ a3 = b3)
theorem wEq_refl (a0 a1 a2 a3 : Int) : wEq a0 a1 a2 a3 a0 a1 a2 a3 = true := by simp [wEq]
theorem wEq_not {a0 a1 a2 a3 b0 b1 b2 b3 : Int} (h : ¬ (a0 = b0 ∧ a1 = b1 ∧ a2 = b2 ∧ a3 = b3)) : wEq a0 a1 a2 a3 b0 b1 b2 b3 = false := decide_eq_false h
theorem run_equalIn_wide' (d : Nat) (a0 a1 a2 a3 b0 b1 b2 b3 : Int) (w : World) :
    (Op.equalIn (d + 2) 24 (.agg #[.int .u64 a0, .int .u64 a1, .int .u64 a2, .int .u64 a3]) (.agg #[.int .u64 b0, .int .u64 b1, .int .u64 b2, .int .u64 b3])).run Tryz.prog w = .ok (wEq a0 a1 a2 a3 b0 b1 b2 b3) w := by
  have e : ∀ a b : Int, (Op.equalIn (d + 1) 22 (.int .u64 a) (.int .u64 b)).run Tryz.prog w = .ok (a == b) w := fun a b => run_equalIn_int w d 22 .u64 .u64 a b Tryz.underlying22
  rw [show d + 2 = (d + 1) + 1 from rfl]
  unfold Op.equalIn
  by_cases h0 : a0 = b0
  · subst h0
    by_cases h1 : a1 = b1
    · subst h1
      by_cases h2 : a2 = b2
      · subst h2
        by_cases h3 : a3 = b3
        · subst h3
          simp [run_underlying Tryz.underlying24, List.range', part, e, Result.andThen, wEq]
        · simp [run_underlying Tryz.underlying24, List.range', part, e, Result.andThen, wEq, h3]
      · simp [run_underlying Tryz.underlying24, List.range', part, e, Result.andThen, wEq, h2]
    · simp [run_underlying Tryz.underlying24, List.range', part, e, Result.andThen, wEq, h1]
  · simp [run_underlying Tryz.underlying24, List.range', part, e, Result.andThen, wEq, h0]
theorem run_equalIn_wide (a0 a1 a2 a3 b0 b1 b2 b3 : Int) (w : World) :
    (Op.equalIn 10000 24 (.agg #[.int .u64 a0, .int .u64 a1, .int .u64 a2, .int .u64 a3]) (.agg #[.int .u64 b0, .int .u64 b1, .int .u64 b2, .int .u64 b3])).run Tryz.prog w = .ok (wEq a0 a1 a2 a3 b0 b1 b2 b3) w :=
  run_equalIn_wide' 9998 a0 a1 a2 a3 b0 b1 b2 b3 w
end Go.Proofs.YtechcdkakgpnkaaGreat
namespace Go.Proofs.YtechcdkakgpnkaaGreat
open Go.RowKit Go.Shelf
def eqI (a b : Trf) : Bool := (a.us == b.us) && ((a.rt.toList == b.rt.toList) && ((a.ro == b.ro) && ((a.se == b.se) && ((a.re == b.re) && ((a.to == b.to) && ((a.id.toList == b.id.toList) && true))))))
def eqV (a b : Sid) : Bool := wEq (a.a0 : Nat) (a.a1 : Nat) (a.a2 : Nat) (a.a3 : Nat) (b.a0 : Nat) (b.a1 : Nat) (b.a2 : Nat) (b.a3 : Nat) && ((a.x == b.x) && true)
theorem eqI_refl (a : Trf) : eqI a a = true := by simp [eqI]
theorem eqV_refl (a : Sid) : eqV a a = true := by simp [eqV, wEq_refl]
theorem run_eqI (d : Nat) (a b : Trf) (w : World) : (Op.equalIn (d + 2) 30 (ivv a) (ivv b)).run Tryz.prog w = .ok (eqI a b) w := by
  rw [run_equalIn_struct w (d + 1) 30 _ _ (by kernel_rfl) (by kernel_rfl)]
  simp only [Program.fieldsOf, Tryz.underlying30]
  have hi : ∀ x y : Int, (Op.equalIn (d + 1) 3 (.int .i64 x) (.int .i64 y)).run Tryz.prog w = .ok (x == y) w := fun x y => run_equalIn_int w d 3 .i64 .i64 x y Tryz.underlying3
  have hs : ∀ x y : ByteArray, (Op.equalIn (d + 1) 9 (.string x) (.string y)).run Tryz.prog w = .ok (x.toList == y.toList) w := fun x y => run_equalIn_string w d 9 x y Tryz.underlying9
  refine eqF_cons (by decide) (part_int _ _ _ rfl w) (part_int _ _ _ rfl w) (hi _ _) ?_
  refine eqF_cons (by decide) (part_str _ _ _ rfl w) (part_str _ _ _ rfl w) (hs _ _) ?_
  refine eqF_cons (by decide) (part_int _ _ _ rfl w) (part_int _ _ _ rfl w) (hi _ _) ?_
  refine eqF_cons (by decide) (part_int _ _ _ rfl w) (part_int _ _ _ rfl w) (hi _ _) ?_
  refine eqF_cons (by decide) (part_int _ _ _ rfl w) (part_int _ _ _ rfl w) (hi _ _) ?_
  refine eqF_cons (by decide) (part_int _ _ _ rfl w) (part_int _ _ _ rfl w) (hi _ _) ?_
  refine eqF_cons (by decide) (part_str _ _ _ rfl w) (part_str _ _ _ rfl w) (hs _ _) ?_
  exact eqF_nil
theorem run_eqV (d : Nat) (a b : Sid) (w : World) : (Op.equalIn (d + 3) 32 (svv a) (svv b)).run Tryz.prog w = .ok (eqV a b) w := by
  rw [run_equalIn_struct w (d + 2) 32 _ _ (by kernel_rfl) (by kernel_rfl)]
  simp only [Program.fieldsOf, Tryz.underlying32]
  have hi : ∀ x y : Int, (Op.equalIn (d + 2) 3 (.int .i64 x) (.int .i64 y)).run Tryz.prog w = .ok (x == y) w := fun x y => run_equalIn_int w (d + 1) 3 .i64 .i64 x y Tryz.underlying3
  refine eqF_cons (by decide) (part_agg _ _ Tryz.underlying24 rfl 4 (by kernel_rfl) _ _ _ rfl w) (part_agg _ _ Tryz.underlying24 rfl 4 (by kernel_rfl) _ _ _ rfl w) (run_equalIn_wide' d _ _ _ _ _ _ _ _ w) ?_
  refine eqF_cons (by decide) (part_int _ _ _ rfl w) (part_int _ _ _ rfl w) (hi _ _) ?_
  exact eqF_nil
end Go.Proofs.YtechcdkakgpnkaaGreat
namespace Go.Proofs.YtechcdkakgpnkaaGreat
open Go.RowKit Go.Shelf
theorem part_aggL (ty : TypeId) (d : TypeDesc) (hu : Tryz.prog.underlying ty = some d) (hd : (match d with | .struct _ | .array _ _ => true | _ => false) = true) (n : Nat) (hi : (Tryz.prog.info? ty).map (·.size) = some n) (cs ns : List Value) (o : Nat) (h : (cs.drop o).take n = ns) (w : World) :
    (part ty cs.toArray o).run Tryz.prog w = .ok (.agg ns.toArray) w :=
  part_agg ty d hu hd n hi cs.toArray ns.toArray o (by rw [List.extract_toArray, List.extract_eq_take_drop, ← h]; simp) w
def eqAm (a b : Ak) : Bool := (a.us == b.us) && ((a.se == b.se) && ((a.re == b.re) && ((a.to == b.to) && (wEq (a.a0 : Nat) (a.a1 : Nat) (a.a2 : Nat) (a.a3 : Nat) (b.a0 : Nat) (b.a1 : Nat) (b.a2 : Nat) (b.a3 : Nat) && ((a.id.toList == b.id.toList) && true)))))
def eqB (a b : Bd) : Bool := (a.ro == b.ro) && (eqAm a.k b.k && (wEq (a.b0 : Nat) (a.b1 : Nat) (a.b2 : Nat) (a.b3 : Nat) (b.b0 : Nat) (b.b1 : Nat) (b.b2 : Nat) (b.b3 : Nat) && ((a.un == b.un) && ((a.sg.toList == b.sg.toList) && true))))
def eqM (a b : Ms) : Bool := (a.kd == b.kd) && (eqAm a.ak b.ak && (eqB a.bd b.bd && (eqI a.iv b.iv && (eqV a.vr b.vr && (wEq (a.f0 : Nat) (a.f1 : Nat) (a.f2 : Nat) (a.f3 : Nat) (b.f0 : Nat) (b.f1 : Nat) (b.f2 : Nat) (b.f3 : Nat) && ((a.sg.toList == b.sg.toList) && true))))))
theorem eqA_refl (a : Ak) : eqAm a a = true := by simp [eqAm, wEq_refl]
theorem eqB_refl (a : Bd) : eqB a a = true := by simp [eqB, wEq_refl, eqA_refl]
theorem eqM_refl (a : Ms) : eqM a a = true := by simp [eqM, wEq_refl, eqA_refl, eqB_refl, eqI_refl, eqV_refl]
theorem run_eqA (d : Nat) (a b : Ak) (w : World) : (Op.equalIn (d + 3) 26 (akv a) (akv b)).run Tryz.prog w = .ok (eqAm a b) w := by
  rw [run_equalIn_struct w (d + 2) 26 _ _ (by kernel_rfl) (by kernel_rfl)]
  simp only [Program.fieldsOf, Tryz.underlying26]
  have hi : ∀ x y : Int, (Op.equalIn (d + 2) 3 (.int .i64 x) (.int .i64 y)).run Tryz.prog w = .ok (x == y) w := fun x y => run_equalIn_int w (d + 1) 3 .i64 .i64 x y Tryz.underlying3
  have hs : ∀ x y : ByteArray, (Op.equalIn (d + 2) 9 (.string x) (.string y)).run Tryz.prog w = .ok (x.toList == y.toList) w := fun x y => run_equalIn_string w (d + 1) 9 x y Tryz.underlying9
  refine eqF_cons (by decide) (part_int _ _ _ rfl w) (part_int _ _ _ rfl w) (hi _ _) ?_
  refine eqF_cons (by decide) (part_int _ _ _ rfl w) (part_int _ _ _ rfl w) (hi _ _) ?_
  refine eqF_cons (by decide) (part_int _ _ _ rfl w) (part_int _ _ _ rfl w) (hi _ _) ?_
  refine eqF_cons (by decide) (part_int _ _ _ rfl w) (part_int _ _ _ rfl w) (hi _ _) ?_
  refine eqF_cons (by decide) (part_agg _ _ Tryz.underlying24 rfl 4 (by kernel_rfl) _ _ _ rfl w) (part_agg _ _ Tryz.underlying24 rfl 4 (by kernel_rfl) _ _ _ rfl w) (run_equalIn_wide' d _ _ _ _ _ _ _ _ w) ?_
  refine eqF_cons (by decide) (part_str _ _ _ rfl w) (part_str _ _ _ rfl w) (hs _ _) ?_
  exact eqF_nil
theorem run_eqB (d : Nat) (a b : Bd) (w : World) : (Op.equalIn (d + 4) 28 (bdv a) (bdv b)).run Tryz.prog w = .ok (eqB a b) w := by
  rw [run_equalIn_struct w (d + 3) 28 _ _ (by kernel_rfl) (by kernel_rfl)]
  simp only [Program.fieldsOf, Tryz.underlying28]
  have hi : ∀ x y : Int, (Op.equalIn (d + 3) 3 (.int .i64 x) (.int .i64 y)).run Tryz.prog w = .ok (x == y) w := fun x y => run_equalIn_int w (d + 2) 3 .i64 .i64 x y Tryz.underlying3
  have hs : ∀ x y : ByteArray, (Op.equalIn (d + 3) 9 (.string x) (.string y)).run Tryz.prog w = .ok (x.toList == y.toList) w := fun x y => run_equalIn_string w (d + 2) 9 x y Tryz.underlying9
  refine eqF_cons (by decide) (part_int _ _ _ rfl w) (part_int _ _ _ rfl w) (hi _ _) ?_
  refine eqF_cons (by decide) (part_agg _ _ Tryz.underlying26 rfl 9 (by kernel_rfl) _ _ _ rfl w) (part_agg _ _ Tryz.underlying26 rfl 9 (by kernel_rfl) _ _ _ rfl w) (run_eqA d a.k b.k w) ?_
  refine eqF_cons (by decide) (part_agg _ _ Tryz.underlying24 rfl 4 (by kernel_rfl) _ _ _ rfl w) (part_agg _ _ Tryz.underlying24 rfl 4 (by kernel_rfl) _ _ _ rfl w) (run_equalIn_wide' (d + 1) _ _ _ _ _ _ _ _ w) ?_
  refine eqF_cons (by decide) (part_int _ _ _ rfl w) (part_int _ _ _ rfl w) (hi _ _) ?_
  refine eqF_cons (by decide) (part_str _ _ _ rfl w) (part_str _ _ _ rfl w) (hs _ _) ?_
  exact eqF_nil
theorem run_eqM' (d : Nat) (a b : Ms) (w : World) : (Op.equalIn (d + 5) 34 (msv a) (msv b)).run Tryz.prog w = .ok (eqM a b) w := by
  rw [run_equalIn_struct w (d + 4) 34 _ _ (by kernel_rfl) (by kernel_rfl)]
  simp only [Program.fieldsOf, Tryz.underlying34]
  have hi : ∀ x y : Int, (Op.equalIn (d + 4) 3 (.int .i64 x) (.int .i64 y)).run Tryz.prog w = .ok (x == y) w := fun x y => run_equalIn_int w (d + 3) 3 .i64 .i64 x y Tryz.underlying3
  have hs : ∀ x y : ByteArray, (Op.equalIn (d + 4) 9 (.string x) (.string y)).run Tryz.prog w = .ok (x.toList == y.toList) w := fun x y => run_equalIn_string w (d + 3) 9 x y Tryz.underlying9
  refine eqF_cons (by decide) (part_int _ _ _ rfl w) (part_int _ _ _ rfl w) (hi _ _) ?_
  refine eqF_cons (by decide) (part_aggL _ _ Tryz.underlying26 rfl 9 (by kernel_rfl) (msc a) (akc a.ak) 1 rfl w) (part_aggL _ _ Tryz.underlying26 rfl 9 (by kernel_rfl) (msc b) (akc b.ak) 1 rfl w) (run_eqA (d + 1) a.ak b.ak w) ?_
  refine eqF_cons (by decide) (part_aggL _ _ Tryz.underlying28 rfl 16 (by kernel_rfl) (msc a) (bdc a.bd) 10 rfl w) (part_aggL _ _ Tryz.underlying28 rfl 16 (by kernel_rfl) (msc b) (bdc b.bd) 10 rfl w) (run_eqB d a.bd b.bd w) ?_
  refine eqF_cons (by decide) (part_aggL _ _ Tryz.underlying30 rfl 7 (by kernel_rfl) (msc a) (ivc a.iv) 26 rfl w) (part_aggL _ _ Tryz.underlying30 rfl 7 (by kernel_rfl) (msc b) (ivc b.iv) 26 rfl w) (run_eqI (d + 2) a.iv b.iv w) ?_
  refine eqF_cons (by decide) (part_aggL _ _ Tryz.underlying32 rfl 5 (by kernel_rfl) (msc a) (svc a.vr) 33 rfl w) (part_aggL _ _ Tryz.underlying32 rfl 5 (by kernel_rfl) (msc b) (svc b.vr) 33 rfl w) (run_eqV (d + 1) a.vr b.vr w) ?_
  refine eqF_cons (by decide) (part_aggL _ _ Tryz.underlying24 rfl 4 (by kernel_rfl) (msc a) ([.int .u64 (a.f0 : Nat), .int .u64 (a.f1 : Nat), .int .u64 (a.f2 : Nat), .int .u64 (a.f3 : Nat)]) 38 rfl w) (part_aggL _ _ Tryz.underlying24 rfl 4 (by kernel_rfl) (msc b) ([.int .u64 (b.f0 : Nat), .int .u64 (b.f1 : Nat), .int .u64 (b.f2 : Nat), .int .u64 (b.f3 : Nat)]) 38 rfl w) (run_equalIn_wide' (d + 2) _ _ _ _ _ _ _ _ w) ?_
  refine eqF_cons (by decide) (part_str _ _ _ rfl w) (part_str _ _ _ rfl w) (hs _ _) ?_
  exact eqF_nil
theorem run_eqM (a b : Ms) (w : World) : (Op.equalIn 10000 34 (msv a) (msv b)).run Tryz.prog w = .ok (eqM a b) w := run_eqM' 9995 a b w
end Go.Proofs.YtechcdkakgpnkaaGreat
namespace Go.Proofs.YtechcdkakgpnkaaGreat
open Go.RowKit Go.Shelf
def nw (n : Nat) : Nat → Nat := fun k => n / M ^ k % M
abbrev wn (n : Nat) : Value := wv (nw n 0) (nw n 1) (nw n 2) (nw n 3)
abbrev Bk := Nat → Nat
def rowB (b : Bk) : Nat → Nat → List Value
  | _, 0 => []
  | s, n + 1 => ws (nw (b s)) ++ rowB b (s + 1) n
theorem ws_len (s : Nat → Nat) : (ws s).length = 4 := rfl
theorem rowB_len (b : Bk) (s n : Nat) : (rowB b s n).length = 4 * n := by
  induction n generalizing s with
  | zero => rfl
  | succ n ih => rw [rowB, List.length_append, ih, ws_len]; omega
def bkc (b : Bk) : List Value := rowB b 0 16
theorem bkc_len (b : Bk) : (bkc b).length = 64 := rowB_len b 0 16
def atS (a s : Int) : Prop := (0 ≤ a ∧ a < 8) ∧ 0 ≤ s ∧ s < 2
instance (a s : Int) : Decidable (atS a s) := by unfold atS; infer_instance
end Go.Proofs.YtechcdkakgpnkaaGreat
namespace Go.Proofs.YtechcdkakgpnkaaGreat
open Go.RowKit Go.Shelf
attribute [local go_sem] Oper.semAt_some
set_option maxRecDepth 100000 in
set_option maxHeartbeats 4000000 in
theorem down1_stops (F : Fence) (n : Nat) (h : F.fn 199) (hro : F.round = none) (hn : 1 ≤ n) {a0 a1 a2 a3 : Nat} (ha : Ok4 a0 a1 a2 a3) (B : Nat) (w : World) (hb : BlkW w B a0 a1 a2 a3) :
    SeqStopsK F n Tryz.prog 199 #[.pointer (some ⟨B, 0, none⟩)] pwEnc (KeepB B) (fun ys => ys = downs ha) (fun pre => pre <+: downs ha) 4 w := fun l J Jx W hW _ _ hY h0 => by
  have hb' : BlkW W B a0 a1 a2 a3 := hb.below hW hb.lt
  clear hb
  refine callsIn_of_wp Tryz.func199 rfl h ?_ hro
  simp only [Tryz.ntmps199, List.size_toArray, List.length_cons, List.length_nil, Nat.reduceAdd, Nat.reduceSub, Array.replicate_succ, Array.replicate_zero, List.push_toArray, List.append_toArray, List.nil_append, List.cons_append]
  gi_wp2
  gi_loopw [3] (fun i wr => ∃ k : Nat, k ≤ 4 ∧ i = .int .i64 (3 - (k : Int)) ∧ BlkW wr B a0 a1 a2 a3 ∧ J ((downs ha).take k) wr) (fun i _ => ((intOf i) + 1).toNat)
  case atStart => exact ⟨0, by omega, rfl, hb', h0⟩
  case round =>
    obtain ⟨k, hk, rfl, hbr, hJs⟩ := hrel
    obtain ⟨x0, x1, x2, x3⟩ := hbr.c4
    have hk' : k = 0 ∨ k = 1 ∨ k = 2 ∨ k = 3 ∨ k = 4 := by omega
    rcases hk' with rfl | rfl | rfl | rfl | rfl
    · obtain ⟨fn, tmps, assign, body, hy, hR⟩ := hY _ (pw 3 a3 (by omega) ha.h3) wr hJs (by simp [downs])
      change (Instr.yield l #[.int .i64 3, .int .u64 (a3 : Int)]).run _ _ = _ at hy
      gi_wp2
      refine hR.mono ?_
      rintro e W3 (⟨rfl, hJ3, hk3⟩ | ⟨rfl, hJx3⟩)
      · replace hbr : BlkW W3 B a0 a1 a2 a3 := hk3.trans hbr
        clear x0 x1 x2 x3
        gi_wp2
        go_roundw
        case rel => exact ⟨1, by omega, by simp, hbr, hJ3⟩
        case measure => simp [intOf]
      · gi_wp2
        refine bodyPost_ret (results_none rfl _ _ _) rfl ?_
        exact ⟨⟨_, rfl⟩, .inr ⟨(downs ha).take 1, List.take_prefix _ _, hJx3⟩⟩
    · obtain ⟨fn, tmps, assign, body, hy, hR⟩ := hY _ (pw 2 a2 (by omega) ha.h2) wr hJs (by simp [downs])
      change (Instr.yield l #[.int .i64 2, .int .u64 (a2 : Int)]).run _ _ = _ at hy
      gi_wp2
      refine hR.mono ?_
      rintro e W3 (⟨rfl, hJ3, hk3⟩ | ⟨rfl, hJx3⟩)
      · replace hbr : BlkW W3 B a0 a1 a2 a3 := hk3.trans hbr
        clear x0 x1 x2 x3
        gi_wp2
        go_roundw
        case rel => exact ⟨2, by omega, by simp, hbr, hJ3⟩
        case measure => simp [intOf]
      · gi_wp2
        refine bodyPost_ret (results_none rfl _ _ _) rfl ?_
        exact ⟨⟨_, rfl⟩, .inr ⟨(downs ha).take 2, List.take_prefix _ _, hJx3⟩⟩
    · obtain ⟨fn, tmps, assign, body, hy, hR⟩ := hY _ (pw 1 a1 (by omega) ha.h1) wr hJs (by simp [downs])
      change (Instr.yield l #[.int .i64 1, .int .u64 (a1 : Int)]).run _ _ = _ at hy
      gi_wp2
      refine hR.mono ?_
      rintro e W3 (⟨rfl, hJ3, hk3⟩ | ⟨rfl, hJx3⟩)
      · replace hbr : BlkW W3 B a0 a1 a2 a3 := hk3.trans hbr
        clear x0 x1 x2 x3
        gi_wp2
        go_roundw
        case rel => exact ⟨3, by omega, by simp, hbr, hJ3⟩
        case measure => simp [intOf]
      · gi_wp2
        refine bodyPost_ret (results_none rfl _ _ _) rfl ?_
        exact ⟨⟨_, rfl⟩, .inr ⟨(downs ha).take 3, List.take_prefix _ _, hJx3⟩⟩
    · obtain ⟨fn, tmps, assign, body, hy, hR⟩ := hY _ (pw 0 a0 (by omega) ha.h0) wr hJs (by simp [downs])
      change (Instr.yield l #[.int .i64 0, .int .u64 (a0 : Int)]).run _ _ = _ at hy
      gi_wp2
      refine hR.mono ?_
      rintro e W3 (⟨rfl, hJ3, hk3⟩ | ⟨rfl, hJx3⟩)
      · replace hbr : BlkW W3 B a0 a1 a2 a3 := hk3.trans hbr
        clear x0 x1 x2 x3
        gi_wp2
        go_roundw
        case rel => exact ⟨4, by omega, by simp, hbr, hJ3⟩
        case measure => simp [intOf]
      · gi_wp2
        refine bodyPost_ret (results_none rfl _ _ _) rfl ?_
        exact ⟨⟨_, rfl⟩, .inr ⟨(downs ha).take 4, List.take_prefix _ _, hJx3⟩⟩
    · gi_wp2
      go_end0
      exact ⟨⟨_, rfl⟩, .inl ⟨_, rfl, hJs⟩⟩
set_option maxHeartbeats 1000000 in
theorem down_in (F : Fence) (n : Nat) (h : F.fn 161) (hro : F.round = none) (a0 a1 a2 a3 : Nat) (w : World) :
    CallsIn F n Tryz.prog 161 #[wv a0 a1 a2 a3] w fun e w' => e = .returned (.func (.func 199) #[] #[.pointer (some ⟨w.heap.size, 0, none⟩)]) ∧ w' = w.alloc (.cells #[.int .u64 a0, .int .u64 a1, .int .u64 a2, .int .u64 a3] 24) := by
  refine callsIn_of_wp Tryz.func161 rfl h ?_ hro
  simp only [Tryz.ntmps161, List.size_toArray, List.length_cons, List.length_nil, Nat.reduceAdd, Nat.reduceSub, Array.replicate_succ, Array.replicate_zero, List.push_toArray, List.append_toArray, List.nil_append, List.cons_append]
  gi_wp2
  go_ret
  exact ⟨rfl, rfl⟩
end Go.Proofs.YtechcdkakgpnkaaGreat
namespace Go.Proofs.YtechcdkakgpnkaaGreat
open Go.RowKit Go.Shelf
attribute [local go_sem] Oper.semAt_some
set_option maxHeartbeats 1000000 in
theorem compare_any (x y : Nat) (w : World) : Calls Tryz.prog 162 #[.int .u64 (x : Int), .int .u64 (y : Int)] w fun e w' => e = .returned (.int .i64 (cmpN x y)) ∧ w' = w := by
  have hxx : ((x : Int) == (x : Int)) = true := by simp
  have hyy : ((y : Int) == (y : Int)) = true := by simp
  rcases Nat.lt_trichotomy x y with h | h | h
  · have h1 : (x : Int) < (y : Int) := by omega
    have HC : Hid (cmpN x y = -1) := Lib.hid (by unfold cmpN; rw [if_pos h])
    go_enter Tryz.func162, Tryz.ntmps162
    go_wp2
    go_ret
    exact ⟨by rw [HC.out]; rfl, rfl⟩
  · have h1 : ¬ (x : Int) < (y : Int) := by omega
    have h2 : ¬ (y : Int) < (x : Int) := by omega
    have HC : Hid (cmpN x y = 0) := Lib.hid (by unfold cmpN; rw [if_neg (by omega), if_neg (by omega)])
    clear h
    go_enter Tryz.func162, Tryz.ntmps162
    go_wp2
    go_ret
    exact ⟨by rw [HC.out]; rfl, rfl⟩
  · have h1 : ¬ (x : Int) < (y : Int) := by omega
    have h2 : (y : Int) < (x : Int) := by omega
    have HC : Hid (cmpN x y = 1) := Lib.hid (by unfold cmpN; rw [if_neg (by omega), if_pos h])
    go_enter Tryz.func162, Tryz.ntmps162
    go_wp2
    go_ret
    exact ⟨by rw [HC.out]; rfl, rfl⟩
def fd (b : Nat → Nat) (pre : List PW) : Option PW := pre.find? fun p => decide (p.1.2 ≠ b p.1.1)
theorem fd_hit {b : Nat → Nat} {pre : List PW} {x : PW} (h : fd b pre = none) (hx : x.1.2 ≠ b x.1.1) : fd b (pre ++ [x]) = some x := by
  unfold fd at *; rw [List.find?_append, h]; simp [hx]
theorem fd_miss {b : Nat → Nat} {pre : List PW} {x : PW} (h : fd b pre = none) (hx : x.1.2 = b x.1.1) : fd b (pre ++ [x]) = none := by
  unfold fd at *; rw [List.find?_append, h]; simp [hx]
theorem fd_prefix {b : Nat → Nat} {pre ys : List PW} {p : PW} (h : fd b pre = some p) (hp : pre <+: ys) : fd b ys = some p := by
  obtain ⟨t, rfl⟩ := hp
  unfold fd at *; rw [List.find?_append, h]; rfl
theorem cmp_words {a0 a1 a2 a3 b0 b1 b2 b3 : Nat} (ha : Ok4 a0 a1 a2 a3) (hb : Ok4 b0 b1 b2 b3) :
    cmpN (val a0 a1 a2 a3) (val b0 b1 b2 b3) = if a3 ≠ b3 then cmpN a3 b3 else if a2 ≠ b2 then cmpN a2 b2 else if a1 ≠ b1 then cmpN a1 b1 else if a0 ≠ b0 then cmpN a0 b0 else 0 := by
  obtain ⟨h0, h1, h2, h3⟩ := ha
  obtain ⟨k0, k1, k2, k3⟩ := hb
  have less : ∀ {x y X Y : Nat}, x < M → y < M → X < Y → x + M * X < y + M * Y := fun {x y X Y} hx hy h => by
    have : M * (X + 1) ≤ M * Y := Nat.mul_le_mul_left _ h
    rw [Nat.mul_add] at this
    omega
  have step : ∀ {x y X Y : Nat}, x < M → y < M → cmpN (x + M * X) (y + M * Y) = if X ≠ Y then cmpN X Y else cmpN x y := fun {x y X Y} hx hy => by
    unfold cmpN
    rcases Nat.lt_trichotomy X Y with h | h | h
    · rw [if_pos (less hx hy h), if_pos (by omega), if_pos h]
    · subst h
      rw [if_neg (by omega : ¬ X ≠ X)]
      simp only [Nat.add_lt_add_iff_right]
    · have := less hy hx h
      rw [if_neg (by omega), if_pos this, if_pos (by omega), if_neg (by omega), if_pos h]
  unfold val
  rw [step h0 k0, step h1 k1, step h2 k2]
  by_cases e3 : a3 = b3
  · subst e3
    by_cases e2 : a2 = b2
    · subst e2
      by_cases e1 : a1 = b1
      · subst e1
        by_cases e0 : a0 = b0
        · subst e0; simp [cmpN]
        · simp [e0]
      · have : a1 + M * (a2 + M * a3) ≠ b1 + M * (a2 + M * a3) := by omega
        simp [e1]
    · have l1 : a2 + M * a3 ≠ b2 + M * a3 := by omega
      have l2 : a1 + M * (a2 + M * a3) ≠ b1 + M * (b2 + M * a3) := by
        rcases Nat.lt_trichotomy (a2 + M * a3) (b2 + M * a3) with h | h | h
        · have := less h1 k1 h; omega
        · exact absurd h l1
        · have := less k1 h1 h; omega
      simp [e2, l2]
  · have l1 : a2 + M * a3 ≠ b2 + M * b3 := by
      rcases Nat.lt_trichotomy a3 b3 with h | h | h
      · have := less h2 k2 h; omega
      · exact absurd h e3
      · have := less k2 h2 h; omega
    have l2 : a1 + M * (a2 + M * a3) ≠ b1 + M * (b2 + M * b3) := by
      rcases Nat.lt_trichotomy (a2 + M * a3) (b2 + M * b3) with h | h | h
      · have := less h1 k1 h; omega
      · exact absurd h l1
      · have := less k1 h1 h; omega
    simp [e3, l1, l2]
theorem fd_downs {a0 a1 a2 a3 b0 b1 b2 b3 : Nat} (ha : Ok4 a0 a1 a2 a3) (hb : Ok4 b0 b1 b2 b3) : ((fd (word b0 b1 b2 b3) (downs ha)).map fun p => cmpN p.1.2 (word b0 b1 b2 b3 p.1.1)).getD 0 = cmpN (val a0 a1 a2 a3) (val b0 b1 b2 b3) := by
  rw [cmp_words ha hb]
  by_cases h3 : a3 = b3
  · by_cases h2 : a2 = b2
    · by_cases h1 : a1 = b1
      · by_cases h0 : a0 = b0
        · simp [fd, downs, pw, word, List.find?, h0, h1, h2, h3]
        · simp [fd, downs, pw, word, List.find?, h0, h1, h2, h3]
      · simp [fd, downs, pw, word, List.find?, h1, h2, h3]
    · simp [fd, downs, pw, word, List.find?, h2, h3]
  · simp [fd, downs, pw, word, h3]
set_option maxRecDepth 100000 in
set_option maxHeartbeats 4000000 in
theorem cmp_in (n : Nat) (hn : 3 ≤ n) {a0 a1 a2 a3 b0 b1 b2 b3 : Nat} (ha : Ok4 a0 a1 a2 a3) (hb : Ok4 b0 b1 b2 b3) (w : World) :
    CallsIn Fence.wide n Tryz.prog 114 #[wv a0 a1 a2 a3, wv b0 b1 b2 b3] w fun e W' => e = .returned (.int .i64 (cmpN (val a0 a1 a2 a3) (val b0 b1 b2 b3))) ∧ Below w.heap.size w W' := by
  have h1 : 1 ≤ n := by omega
  refine callsIn_of_wp_marks Tryz.func114 rfl trivial ?_ rfl
  simp only [Tryz.ntmps114, List.size_toArray, List.length_cons, List.length_nil, Nat.reduceAdd, Nat.reduceSub, Array.replicate_succ, Array.replicate_zero, List.push_toArray, List.append_toArray, List.nil_append, List.cons_append]
  gi_wp2_with (refine ⟨trivial, ?_⟩; gi_at_call 161; refine (down_in Fence.wide (n - 1) trivial rfl _ _ _ _ _).mono ?_; rintro e w' ⟨rfl, rfl⟩)
  generalize hW5 : World.alloc _ _ = W5
  have k1 : Blk W5 (w.heap.size + 1) 24 (ws (word b0 b1 b2 b3)) := by rw [← hW5]; exact ((Blk.new' (by simp)).alloc _).alloc _
  have k2 : Blk W5 (w.heap.size + 1 + 1) 3 [.int .i64 0] := by rw [← hW5]; exact (Blk.new' (by simp)).alloc _
  have k5 : BlkW W5 (w.heap.size + 1 + 1 + 1) a0 a1 a2 a3 := by rw [← hW5]; exact Blk.new' (by simp)
  have hB0 : Below w.heap.size w W5 := by rw [← hW5]; exact chainA (chainA (chainA (chain0 _ _) _) _) _
  have hz : W5.heap.size = w.heap.size + 4 := by rw [← hW5]; simp
  clear hW5
  refine wpIn_rangeFunc_ownF (S := fun ys => ys = downs ha) rfl h1 (gf := 199) (lb := #[.pointer (some ⟨w.heap.size + 1 + 1 + 1, 0, none⟩)]) rfl trivial (enters_of Tryz.func199 (by kernel_rfl) rfl)
    (down1_stops Fence.wide (n - 1) trivial rfl (by omega) ha (w.heap.size + 1 + 1 + 1) W5 k5) KeepB.t (KeepB.b k5.lt) (Below.refl _ _) (fun _ => rfl)
    (fun pre W => (Blk W (w.heap.size + 1) 24 (ws (word b0 b1 b2 b3)) ∧ Blk W (w.heap.size + 1 + 1) 3 [.int .i64 0] ∧ fd (word b0 b1 b2 b3) pre = none) ∧ Below w.heap.size w W)
    (fun c pre W => (Blk W (w.heap.size + 1 + 1) 3 [.int .i64 (((fd (word b0 b1 b2 b3) pre).map fun p => cmpN p.1.2 (word b0 b1 b2 b3 p.1.1)).getD 0)] ∧ c = .ret ∧ ∃ p, fd (word b0 b1 b2 b3) pre = some p) ∧ Below w.heap.size w W)
    (OwnFrom.and (Own.from (fun s A B row hs hg hr => ⟨blk_own _ _ (fun _ => _) s A B row hs.1 hg hr, blk_own _ _ (fun _ => _) s A B row hs.2.1 hg hr, hs.2.2⟩) _) (ownFrom_below (Nat.le_refl _) (by omega)))
    (fun c => OwnFrom.and (Own.from (fun s A B row hs hg hr => ⟨blk_own _ _ (fun pre => [.int .i64 (((fd (word b0 b1 b2 b3) pre).map fun p => cmpN p.1.2 (word b0 b1 b2 b3 p.1.1)).getD 0)]) s A B row hs.1 hg hr, hs.2⟩) _) (ownFrom_below (Nat.le_refl _) (by omega)))
    ⟨⟨k1, k2, rfl⟩, hB0⟩
    (fun x => { tmps := #[wv a0 a1 a2 a3, wv b0 b1 b2 b3, .pointer (some ⟨w.heap.size, 0, none⟩), .pointer (some ⟨w.heap.size + 1, 0, none⟩), .pointer (some ⟨w.heap.size + 1 + 1, 0, none⟩), .int .i64 (x.1.1 : Int), .int .u64 (x.1.2 : Int), undef, wv a0 a1 a2 a3, .func (.func 199) #[] #[.pointer (some ⟨w.heap.size + 1 + 1 + 1, 0, none⟩)], .int .i64 (x.1.1 : Int), .int .u64 (x.1.2 : Int), undef, undef, undef, undef, undef, undef, undef, undef], defers := [] }) ?assign ?body ?done ?stop
  case assign =>
    intro l x W K hK
    gi_wp2
    exact hK
  case body =>
    rintro l pre ⟨⟨i, x⟩, hi, hx⟩ W ⟨⟨k1, k2, hf⟩, hB⟩ _
    dsimp only at hi hx
    have hf' := fun (e : x ≠ word b0 b1 b2 b3 i) => fd_hit (b := word b0 b1 b2 b3) (x := ⟨(i, x), hi, hx⟩) hf e
    have hg' := fun (e : x = word b0 b1 b2 b3 i) => fd_miss (b := word b0 b1 b2 b3) (x := ⟨(i, x), hi, hx⟩) hf e
    have HF := Lib.hid hf'
    have HG := Lib.hid hg'
    clear hf hf' hg'
    have hi' : (i : Int) < 4 := by omega
    have c1 := k1.cell i
    rw [ws_at _ hi] at c1
    have c2 : W.cell? ⟨w.heap.size + 1 + 1, 0, none⟩ = some (.int .i64 0) := k2.cell 0
    have f2 := k2.frozen 0
    have hne : cmpN x (word b0 b1 b2 b3 i) = 0 ↔ x = word b0 b1 b2 b3 i := by
      unfold cmpN
      split
      · omega
      · split <;> omega
    have HN := Lib.hid hne
    clear hne
    gi_wp2_with fail
    refine ⟨trivial, (fun _ => by omega), ?_⟩
    refine (CallsIn.inRound l (callsIn_wide.2 (compare_any _ _ _))).mono ?_
    rintro e w' ⟨rfl, rfl⟩
    generalize hcg : cmpN x (word b0 b1 b2 b3 i) = c at *
    have HC := Lib.hid hcg
    clear hcg
    by_cases hc0 : c = 0
    · have hcb : (c == 0) = true := by simp [hc0]
      have hxe := HN.out.1 hc0
      have HX := Lib.hid hxe
      clear hxe hc0
      gi_wp2
      exact ⟨KeepsOthers.refl _, KeepB.refl _ _, ⟨k1, k2, HG.out HX.out⟩, hB⟩
    · have hcb : (c == 0) = false := by simp [hc0]
      have hxe : x ≠ word b0 b1 b2 b3 i := fun e => hc0 (HN.out.2 e)
      have HX := Lib.hid hxe
      clear hxe hc0
      gi_wp2
      refine ⟨KeepsOthers.setCell _ _ _, ⟨?_, rfl, _, HF.out HX.out⟩, hB.setCell (p := ⟨w.heap.size + 1 + 1, 0, none⟩) (by simp; omega) _⟩
      rw [HF.out HX.out]
      have kk := k2.set 0 (.int .i64 c)
      rw [← HC.out] at kk ⊢
      exact kk
  case done =>
    rintro D ys W hD rfl ⟨⟨k1, k2, hf⟩, hB⟩ hK
    have c2 : W.cell? ⟨w.heap.size + 1 + 1, 0, none⟩ = some (.int .i64 0) := k2.cell 0
    have f2 := k2.frozen 0
    have hbits := fd_downs ha hb
    rw [hf] at hbits
    have HB := Lib.hid hbits
    have HF := Lib.hid hf
    clear hbits hf
    gi_wp2
    have hK' := (KeepsOthers.setCell W ⟨w.heap.size + 1 + 1, 0, none⟩ (.int .i64 0)).same D _ hK rfl
    have k2' := (k2.set 0 (.int .i64 0)).kept (grownBy_putObj' _ D (.deferred none)) (by intro e; cases e; omega)
    have r0 := k2'.cell 0
    simp only [List.set_cons_zero, List.getElem?_cons_zero] at r0
    have hB' := (hB.setCell (p := ⟨w.heap.size + 1 + 1, 0, none⟩) (by simp; omega) (.int .i64 0)).trans (belowK_b (w := w) (Nat.le_refl _) _ D _ (.deferred none) (by omega) hK' rfl rfl)
    refine ⟨by simp, .inl ⟨_, _, rfl, run_takeDeferred hK', ?_⟩⟩
    refine ⟨.int .i64 0, ?_, ?_⟩
    · simp [results, Tryz.f114, go_sem, r0]
    · exact ⟨by rw [← HB.out]; rfl, hB'⟩
  case stop =>
    rintro D c pre W hD hpre ⟨⟨k2, rfl, hp⟩, hB⟩ hK
    obtain ⟨p, hp⟩ := hp
    have hbits : ((fd (word b0 b1 b2 b3) pre).map fun p => cmpN p.1.2 (word b0 b1 b2 b3 p.1.1)).getD 0 = cmpN (val a0 a1 a2 a3) (val b0 b1 b2 b3) := by rw [hp, ← fd_prefix hp hpre]; exact fd_downs ha hb
    rw [hbits] at k2
    clear hbits hp
    gi_wp2
    have k2' := k2.kept (grownBy_putObj' _ D (.deferred none)) (by intro e; cases e; omega)
    have r0 := k2'.cell 0
    simp only [List.getElem?_cons_zero] at r0
    have hB' := hB.trans (belowK_b (w := w) (Nat.le_refl _) _ D _ (.deferred none) (by omega) hK rfl rfl)
    refine ⟨by simp, .inl ⟨_, _, rfl, run_takeDeferred hK, ?_⟩⟩
    refine ⟨.int .i64 (cmpN (val a0 a1 a2 a3) (val b0 b1 b2 b3)), ?_, ?_⟩
    · simp [results, Tryz.f114, go_sem, r0]
    · exact ⟨rfl, hB'⟩
theorem cmp_any {a0 a1 a2 a3 b0 b1 b2 b3 : Nat} (ha : Ok4 a0 a1 a2 a3) (hb : Ok4 b0 b1 b2 b3) (w : World) :
    Calls Tryz.prog 114 #[wv a0 a1 a2 a3, wv b0 b1 b2 b3] w fun e W' => e = .returned (.int .i64 (cmpN (val a0 a1 a2 a3) (val b0 b1 b2 b3))) ∧ Below w.heap.size w W' := callsIn_wide.1 (cmp_in 3 (by omega) ha hb w)
end Go.Proofs.YtechcdkakgpnkaaGreat
namespace Go.Proofs.YtechcdkakgpnkaaGreat
theorem wpAnyH_mono {P : Program} {ops : Array Oper} {Q : Exit → Act → World → Prop} {md : Region.Mode} {S S' : World → Prop} (h : ∀ w, S' w → S w) :
    ∀ (fuel : Nat) (listed : Array Bool) (a : Act) (w : World), wpAnyH P md ops Q S' fuel listed a w → wpAnyH P md ops Q S fuel listed a w
  | 0, _, _, _, H => H
  | fuel + 1, _, _, _, H => ⟨H.1, fun i hi => wpOp_mono (fun a' w' h' => ⟨h _ h'.1, wpAnyH_mono h fuel _ a' w' h'.2⟩) (H.2 i hi)⟩
end Go.Proofs.YtechcdkakgpnkaaGreat
namespace Go.Proofs.YtechcdkakgpnkaaGreat
inductive Tk where
  | val (i : Nat) (d : Option Tmp) (v : Value)
  | load (i : Nat) (d : Option Tmp) (ty : TypeId) (p v : Value)
  | alt (i : Nat) (d : Option Tmp) (v u : Value)
  | skip (i : Nat) (d : Option Tmp)
  | idx (i : Nat) (d : Option Tmp) (ty : TypeId) (p x v : Value)
  | slc (i : Nat) (d : Option Tmp) (ty : TypeId) (x : Value) (lo hi mx : Option Value) (v : Value)
def Tk.place : Tk → Nat
  | .val i _ _ => i
  | .load i _ _ _ _ => i
  | .alt i _ _ _ => i
  | .skip i _ => i
  | .idx i _ _ _ _ _ => i
  | .slc i _ _ _ _ _ _ _ => i
def Tk.put (a : Act) : Tk → Act
  | .val _ d v => a.put d v
  | .load _ d _ _ v => a.put d v
  | .alt _ d _ u => a.put d u
  | .skip _ d => a.put d undef
  | .idx _ d _ _ _ v => a.put d v
  | .slc _ d _ _ _ _ _ v => a.put d v
def puts : List Tk → Act → Act
  | [], a => a
  | t :: L, a => puts L (t.put a)
inductive See where
  | run (b : Bool) (d : Option Tmp) (r : Result Next)
  | got (b : Bool) (d : Option Tmp) (t : Option (TypeId × Value))
  | no (b : Bool) (d : Option Tmp)
  | at (b : Bool) (d : Option Tmp) (t : Option (TypeId × Value × Value))
  | sl (b : Bool) (d : Option Tmp) (t : Option (TypeId × Value × Option Value × Option Value × Option Value))
def seeOp (P : Program) (ops : Array Oper) (w : World) (a : Act) (o : Oper) : Tk → See
  | .val _ _ _ => .run (Region.wanted o (yielded ops a.tmps)) o.dst ((execOp a.eval o).run P w)
  | .load _ _ _ _ _ => .got (Region.wanted o (yielded ops a.tmps)) o.dst (match o.op with | .load ty x => some (ty, a.eval x) | _ => none)
  | .alt _ _ _ _ => .run (Region.wanted o (yielded ops a.tmps)) o.dst ((execOp a.eval o).run P w)
  | .skip _ _ => .no (Region.wanted o (yielded ops a.tmps)) o.dst
  | .idx _ _ _ _ _ _ => .at (Region.wanted o (yielded ops a.tmps)) o.dst (match o.op with | .indexAddr ty x y => some (ty, a.eval x, a.eval y) | _ => none)
  | .slc _ _ _ _ _ _ _ _ => .sl (Region.wanted o (yielded ops a.tmps)) o.dst (match o.op with | .slice ty x lo hi mx => some (ty, a.eval x, lo.map a.eval, hi.map a.eval, mx.map a.eval) | _ => none)
def wantOp (w : World) : Tk → See
  | .val _ d v => .run true d (.ok (.value v) w)
  | .load _ d ty p _ => .got true d (some (ty, p))
  | .alt _ d v _ => .run true d (.ok (.value v) w)
  | .skip _ d => .no false d
  | .idx _ d ty p x _ => .at true d (some (ty, p, x))
  | .slc _ d ty x lo hi mx _ => .sl true d (some (ty, x, lo, hi, mx))
def sees (P : Program) (ops : Array Oper) (w : World) : List Tk → Act → List (Option See)
  | [], _ => []
  | t :: L, a => (ops[t.place]?).map (fun o => seeOp P ops w a o t) :: sees P ops w L (t.put a)
def wants (w : World) (L : List Tk) : List (Option See) := L.map fun t => some (wantOp w t)
def Facts (P : Program) (S : World → Prop) : List Tk → Prop
  | [] => True
  | .load _ _ ty p v :: L => (∀ w, S w → (Instr.loadAt ty p).run P w = .ok v w) ∧ Facts P S L
  | .alt _ _ v u :: L => v = u ∧ Facts P S L
  | .idx _ _ ty p x v :: L => (∀ w, S w → (Instr.indexAt ty p x).run P w = .ok v w) ∧ Facts P S L
  | .slc _ _ ty x lo hi mx v :: L => (∀ w, S w → (Instr.sliceAt ty x lo hi mx).run P w = .ok v w) ∧ Facts P S L
  | .val _ _ _ :: L => Facts P S L
  | .skip _ _ :: L => Facts P S L
def FactsAt (P : Program) (w : World) : List Tk → Prop
  | [] => True
  | .load _ _ ty p v :: L => (Instr.loadAt ty p).run P w = .ok v w ∧ FactsAt P w L
  | .alt _ _ v u :: L => v = u ∧ FactsAt P w L
  | .idx _ _ ty p x v :: L => (Instr.indexAt ty p x).run P w = .ok v w ∧ FactsAt P w L
  | .slc _ _ ty x lo hi mx v :: L => (Instr.sliceAt ty x lo hi mx).run P w = .ok v w ∧ FactsAt P w L
  | .val _ _ _ :: L => FactsAt P w L
  | .skip _ _ :: L => FactsAt P w L
theorem factsAt {P : Program} {w : World} : ∀ {L : List Tk}, FactsAt P w L → Facts P (fun W => W = w) L
  | [], _ => trivial
  | .load _ _ _ _ _ :: _, h => ⟨fun W e => by cases e; exact h.1, factsAt h.2⟩
  | .alt _ _ _ _ :: _, h => ⟨h.1, factsAt h.2⟩
  | .idx _ _ _ _ _ _ :: _, h => ⟨fun W e => by cases e; exact h.1, factsAt h.2⟩
  | .slc _ _ _ _ _ _ _ _ :: _, h => ⟨fun W e => by cases e; exact h.1, factsAt h.2⟩
  | .val _ _ _ :: L, h => factsAt (L := L) h
  | .skip _ _ :: L, h => factsAt (L := L) h
section
variable {P : Program} {md : Region.Mode} {ops : Array Oper} {Q : Exit → Act → World → Prop} {S : World → Prop}
theorem one_of {t : Tk} {o : Oper} {a : Act} (ho : ops[t.place]? = some o) (hsee : ∀ w, (ops[t.place]?).map (fun o => seeOp P ops w a o t) = some (wantOp w t)) {L : List Tk} (hf : Facts P S (t :: L)) :
    (∃ v, t.put a = a.put o.dst v ∧ YieldsIf P ops S o v a) ∧ Facts P S L := by
  rw [ho] at hsee
  have hs : ∀ w, seeOp P ops w a o t = wantOp w t := fun w => Option.some.inj (hsee w)
  cases t with
  | val i d v =>
    have hd : o.dst = d := by have := hs default; simp only [seeOp, wantOp, See.run.injEq] at this; exact this.2.1
    exact ⟨⟨v, by rw [hd]; rfl, .inl ⟨by have := hs default; simp only [seeOp, wantOp, See.run.injEq] at this; exact this.1, fun w _ => by have := hs w; simp only [seeOp, wantOp, See.run.injEq] at this; exact this.2.2⟩⟩, hf⟩
  | load i d ty p v =>
    have hd : o.dst = d := by have := hs default; simp only [seeOp, wantOp, See.got.injEq] at this; exact this.2.1
    refine ⟨⟨v, by rw [hd]; rfl, .inl ⟨by have := hs default; simp only [seeOp, wantOp, See.got.injEq] at this; exact this.1, fun w hw => ?_⟩⟩, hf.2⟩
    have h := hs w
    simp only [seeOp, wantOp, See.got.injEq] at h
    have h3 := h.2.2
    have hl := hf.1 w hw
    unfold execOp
    split at h3
    · rename_i ty' x hop
      obtain ⟨rfl, rfl⟩ := by simpa using h3
      simp only [hop, Sem.run_bind, hl, Result.andThen_ok]
      rfl
    · cases h3
  | alt i d v u =>
    have hd : o.dst = d := by have := hs default; simp only [seeOp, wantOp, See.run.injEq] at this; exact this.2.1
    obtain ⟨rfl, hf2⟩ := hf
    exact ⟨⟨v, by rw [hd]; rfl, .inl ⟨by have := hs default; simp only [seeOp, wantOp, See.run.injEq] at this; exact this.1, fun w _ => by have := hs w; simp only [seeOp, wantOp, See.run.injEq] at this; exact this.2.2⟩⟩, hf2⟩
  | skip i d =>
    have hd : o.dst = d := by have := hs default; simp only [seeOp, wantOp, See.no.injEq] at this; exact this.2
    exact ⟨⟨undef, by rw [hd]; rfl, .inr ⟨by have := hs default; simp only [seeOp, wantOp, See.no.injEq] at this; exact this.1, rfl⟩⟩, hf⟩
  | idx i d ty p x v =>
    have hd : o.dst = d := by have := hs default; simp only [seeOp, wantOp, See.at.injEq] at this; exact this.2.1
    refine ⟨⟨v, by rw [hd]; rfl, .inl ⟨by have := hs default; simp only [seeOp, wantOp, See.at.injEq] at this; exact this.1, fun w hw => ?_⟩⟩, hf.2⟩
    have h := hs w
    simp only [seeOp, wantOp, See.at.injEq] at h
    have h3 := h.2.2
    have hl := hf.1 w hw
    unfold execOp
    split at h3
    · rename_i ty' x y hop
      obtain ⟨rfl, rfl, rfl⟩ := by simpa using h3
      simp only [hop, Sem.run_bind, hl, Result.andThen_ok]
      rfl
    · cases h3
  | slc i d ty x lo hi mx v =>
    have hd : o.dst = d := by have := hs default; simp only [seeOp, wantOp, See.sl.injEq] at this; exact this.2.1
    refine ⟨⟨v, by rw [hd]; rfl, .inl ⟨by have := hs default; simp only [seeOp, wantOp, See.sl.injEq] at this; exact this.1, fun w hw => ?_⟩⟩, hf.2⟩
    have h := hs w
    simp only [seeOp, wantOp, See.sl.injEq] at h
    have h3 := h.2.2
    have hl := hf.1 w hw
    unfold execOp
    split at h3
    · rename_i ty' x' lo' hi' mx' hop
      obtain ⟨rfl, rfl, rfl, rfl, rfl⟩ := by simpa using h3
      simp only [hop, Sem.run_bind, hl, Result.andThen_ok]
      rfl
    · cases h3
def listedBy : List Tk → Array Bool → Array Bool
  | [], l => l
  | t :: L, l => listedBy L (l.setIfInBounds t.place true)
def orderOk (md : Region.Mode) (ops : Array Oper) : List Tk → Array Bool → Bool
  | [], _ => true
  | t :: L, l => (Region.free md ops l t.place && (Region.ready md ops l).contains t.place) && orderOk md ops L (l.setIfInBounds t.place true)
theorem wpAnyH_takes (L : List Tk) (hs : Region.noSelect ops = true) (hQ : ∀ d v c a w, Q (.panic c) (Act.put a d v) w → Q (.panic c) a w) :
    ∀ {m n : Nat} {listed : Array Bool} {a : Act} {w : World}, n = m + L.length → orderOk md ops L listed = true → (∀ w, sees P ops w L a = wants w L) → Facts P S L → S w →
      wpAnyH P md ops Q S m (listedBy L listed) (puts L a) w → wpAnyH P md ops Q S n listed a w := by
  induction L with
  | nil => intro m n listed a w hn _ _ _ _ h; subst hn; exact h
  | cons t L ih =>
    intro m n listed a w hn ho hsee hf hS h
    simp only [orderOk, Bool.and_eq_true] at ho
    obtain ⟨⟨ho1, ho2⟩, ho3⟩ := ho
    have hsee1 : ∀ w, (ops[t.place]?).map (fun o => seeOp P ops w a o t) = some (wantOp w t) := fun w => (List.cons.inj (hsee w)).1
    have hsee2 : ∀ w, sees P ops w L (t.put a) = wants w L := fun w => (List.cons.inj (hsee w)).2
    obtain ⟨o, hop⟩ : ∃ o, ops[t.place]? = some o := by
      cases hx : ops[t.place]? with
      | none => have := hsee1 default; rw [hx] at this; cases this
      | some o => exact ⟨o, rfl⟩
    obtain ⟨⟨v, hv, hy⟩, hf2⟩ := one_of hop hsee1 hf
    subst hn
    exact wpAnyH_take hop hs ho1 ho2 (fun c a w h => hQ _ _ c a w h) hy hS (by rw [← hv]; exact ih (m := m) rfl ho3 hsee2 hf2 hS h)
theorem wp_region_M {id : Nat} {a : Act} {w : World} (S S0 : World → Prop) (hm : P.follows .mixedOrders = true) (h0 : S0 w.drew)
    (h : ∀ Y, S0 Y → wpAnyH P .any ops Q S ops.size (Array.replicate ops.size false) a Y) : (Code.region id ops true).wp P Q a w := wp_region_held hm (h _ h0)
def wpFrom (P : Program) (ops : Array Oper) (Q : Exit → Act → World → Prop) (k : Nat) (a : Act) (w : World) : Prop := wpList P ops Q (ops.toList.drop k) a w
theorem wp_region_from {id : Nat} {a : Act} {w : World} (h : wpFrom P ops Q 0 a w) : (Code.region id ops false).wp P Q a w := wp_region_list h
theorem wp_region_fromM {id : Nat} {a : Act} {w : World} (S0 : World → Prop) (h0 : S0 w) (h : ∀ Y, S0 Y → wpFrom P ops Q 0 a Y) : (Code.region id ops false).wp P Q a w := wp_region_from (h _ h0)
theorem wpFrom_step {k : Nat} {a : Act} {w : World} {o : Oper} (ho : ops[k]? = some o)
    (h : ∀ K : Act → World → Prop, (∀ a w, wpFrom P ops Q (k + 1) a w → K a w) → if Region.wanted o (yielded ops a.tmps) = true then o.wp P a w K Q else K (a.put o.dst undef) w) : wpFrom P ops Q k a w := by
  have hk : k < ops.toList.length := by simpa using (Array.getElem?_eq_some_iff.1 ho).1
  have e : ops.toList.drop k = o :: ops.toList.drop (k + 1) := by
    rw [List.drop_eq_getElem_cons hk]
    congr 1
    simpa using (Array.getElem?_eq_some_iff.1 ho).2
  unfold wpFrom
  rw [e]
  exact wpList_step fun K hK => h K hK
theorem wpFrom_takes (L : List Tk) : ∀ {k m : Nat} {a : Act} {w : World}, m = k + L.length → L.map Tk.place = List.range' k L.length → (∀ w, sees P ops w L a = wants w L) → FactsAt P w L →
      wpFrom P ops Q m (puts L a) w → wpFrom P ops Q k a w := by
  induction L with
  | nil => intro k m a w hm _ _ _ h; subst hm; exact h
  | cons t L ih =>
    intro k m a w hm hp hsee hf h
    have hsee1 : ∀ w, (ops[t.place]?).map (fun o => seeOp P ops w a o t) = some (wantOp w t) := fun w => (List.cons.inj (hsee w)).1
    have hsee2 : ∀ w, sees P ops w L (t.put a) = wants w L := fun w => (List.cons.inj (hsee w)).2
    rw [List.map_cons, List.length_cons, List.range'_succ] at hp
    obtain ⟨hp1, hp2⟩ := List.cons.inj hp
    obtain ⟨o, hop⟩ : ∃ o, ops[t.place]? = some o := by
      cases hx : ops[t.place]? with
      | none => have := hsee1 default; rw [hx] at this; cases this
      | some o => exact ⟨o, rfl⟩
    have hf2 : FactsAt P w L := by cases t <;> first | exact hf.2 | exact hf
    obtain ⟨⟨v, hv, hy⟩, _⟩ := one_of hop hsee1 (factsAt hf)
    refine wpFrom_step (by rw [← hp1]; exact hop) fun K hK => ?_
    have hgo : wpFrom P ops Q (k + 1) (a.put o.dst v) w := by rw [← hv]; exact ih (m := m) (by simpa [Nat.add_assoc, Nat.add_comm 1] using hm) hp2 hsee2 hf2 h
    rcases hy with ⟨hw, hr⟩ | ⟨hw, rfl⟩
    · rw [if_pos hw]
      unfold Oper.wp
      rw [hr w rfl]
      exact hK _ _ hgo
    · rw [if_neg (by rw [hw]; decide)]
      exact hK _ _ hgo
theorem wpFrom_done {k : Nat} {a : Act} {w : World} (hk : ops.size ≤ k) (h : Q .normal a w) : wpFrom P ops Q k a w := by
  unfold wpFrom
  rw [List.drop_of_length_le (by simpa using hk)]
  exact wpList_nil h
def runAt (P : Program) (ops : Array Oper) (i : Nat) (a : Act) (w : World) : Option (Bool × Option Tmp × Result Next) := (ops[i]?).map fun o => (Region.wanted o (yielded ops a.tmps), o.dst, (execOp a.eval o).run P w)
def Goes (Q : Exit → Act → World → Prop) (K : Act → World → Prop) (a : Act) (d : Option Tmp) : Ending → World → Prop
  | .returned v, w => K (a.put d v) w
  | .panicked c, w => Q (.panic c) a w
  | .outgrown, _ => LetsOut Q
theorem op_call {i : Nat} {o : Oper} {a : Act} {w : World} {d : Option Tmp} {f : FuncId} {args : Array Value} {K : Act → World → Prop} (ho : ops[i]? = some o) (hr : runAt P ops i a w = some (true, d, .ok (.enter f args) w)) (hc : Calls P f args w (Goes Q K a d)) :
    if Region.wanted o (yielded ops a.tmps) = true then o.wp P a w K Q else K (a.put o.dst undef) w := by
  unfold runAt at hr
  rw [ho] at hr
  have h := Option.some.inj hr
  have h1 : Region.wanted o (yielded ops a.tmps) = true := congrArg Prod.fst h
  have h2 : o.dst = d := congrArg (fun x => x.2.1) h
  have h3 : (execOp a.eval o).run P w = .ok (.enter f args) w := congrArg (fun x => x.2.2) h
  rw [if_pos h1]
  unfold Oper.wp
  rw [h3]
  refine hc.mono fun e w' he => ?_
  rw [h2]
  cases e <;> exact he
theorem op_run {i : Nat} {o : Oper} {a : Act} {w w' : World} {d : Option Tmp} {v : Value} {K : Act → World → Prop} (ho : ops[i]? = some o) (hr : runAt P ops i a w = some (true, d, .ok (.value v) w')) (hc : K (a.put d v) w') :
    if Region.wanted o (yielded ops a.tmps) = true then o.wp P a w K Q else K (a.put o.dst undef) w := by
  unfold runAt at hr
  rw [ho] at hr
  have h := Option.some.inj hr
  have h1 : Region.wanted o (yielded ops a.tmps) = true := congrArg Prod.fst h
  have h2 : o.dst = d := congrArg (fun x => x.2.1) h
  have h3 : (execOp a.eval o).run P w = .ok (.value v) w' := congrArg (fun x => x.2.2) h
  rw [if_pos h1]
  unfold Oper.wp
  rw [h3]
  have : K (a.put o.dst v) w' := by rw [h2]; exact hc
  exact this
def storeAt (ops : Array Oper) (i : Nat) (a : Act) : Option (Bool × Option Tmp × Option (TypeId × Value × Value)) := (ops[i]?).map fun o => (Region.wanted o (yielded ops a.tmps), o.dst, match o.op with | .store ty x y => some (ty, a.eval x, a.eval y) | _ => none)
theorem op_store {i : Nat} {o : Oper} {a : Act} {w w' : World} {ty : TypeId} {p v : Value} {K : Act → World → Prop} (ho : ops[i]? = some o) (hr : storeAt ops i a = some (true, none, some (ty, p, v))) (hst : (Instr.storeAt ty p v).run P w = .ok () w') (hc : K a w') :
    if Region.wanted o (yielded ops a.tmps) = true then o.wp P a w K Q else K (a.put o.dst undef) w := by
  unfold storeAt at hr
  rw [ho] at hr
  have h := Option.some.inj hr
  have h1 : Region.wanted o (yielded ops a.tmps) = true := congrArg Prod.fst h
  have h2 : o.dst = none := congrArg (fun x => x.2.1) h
  have h3 := congrArg (fun x => x.2.2) h
  rw [if_pos h1]
  dsimp only at h3
  split at h3
  · rename_i ty' x y hop
    obtain ⟨rfl, rfl, rfl⟩ := by simpa using h3
    unfold Oper.wp execOp
    simp only [hop, Sem.run_bind, hst, Result.andThen_ok]
    have : K (a.put o.dst undef) w' := by rw [h2]; exact hc
    exact this
  · cases h3
theorem op_load {i : Nat} {o : Oper} {a : Act} {w : World} {d : Option Tmp} {ty : TypeId} {p v : Value} {K : Act → World → Prop} (ho : ops[i]? = some o) (hr : (ops[i]?).map (fun o => seeOp P ops w a o (.load i d ty p v)) = some (.got true d (some (ty, p)))) (hl : (Instr.loadAt ty p).run P w = .ok v w) (hc : K (a.put d v) w) :
    if Region.wanted o (yielded ops a.tmps) = true then o.wp P a w K Q else K (a.put o.dst undef) w := by
  rw [ho] at hr
  have h := Option.some.inj hr
  simp only [seeOp, See.got.injEq] at h
  obtain ⟨h1, h2, h3⟩ := h
  rw [if_pos h1]
  split at h3
  · rename_i ty' x hop
    obtain ⟨rfl, rfl⟩ := by simpa using h3
    unfold Oper.wp execOp
    simp only [hop, Sem.run_bind, hl, Result.andThen_ok]
    have : K (a.put o.dst v) w := by rw [h2]; exact hc
    exact this
  · cases h3
def appAt (ops : Array Oper) (i : Nat) (a : Act) : Option (Bool × Option Tmp × Option (TypeId × TypeId × TypeId × Value × Value)) := (ops[i]?).map fun o => (Region.wanted o (yielded ops a.tmps), o.dst, match o.op with | .call ⟨.builtin .append, ⟨[s, x]⟩, ⟨[t, t']⟩⟩ => some (t, t', o.type, a.eval s, a.eval x) | _ => none)
theorem op_append {i : Nat} {o : Oper} {a : Act} {w w' : World} {d : Option Tmp} {t t' ty : TypeId} {v x u : Value} {K : Act → World → Prop} (ho : ops[i]? = some o) (hr : appAt ops i a = some (true, d, some (t, t', ty, v, x))) (hst : (Builtin.append_ #[t, t'] ty #[v, x]).run P w = .ok u w') (hc : K (a.put d u) w') :
    if Region.wanted o (yielded ops a.tmps) = true then o.wp P a w K Q else K (a.put o.dst undef) w := by
  unfold appAt at hr
  rw [ho] at hr
  have h := Option.some.inj hr
  have h1 : Region.wanted o (yielded ops a.tmps) = true := congrArg Prod.fst h
  have h2 : o.dst = d := congrArg (fun x => x.2.1) h
  have h3 := congrArg (fun x => x.2.2) h
  rw [if_pos h1]
  dsimp only at h3
  split at h3
  · rename_i s y t1 t2 hop
    obtain ⟨rfl, rfl, rfl, rfl, rfl⟩ := by simpa using h3
    unfold Oper.wp execOp
    simp only [hop, resolve, invoke, builtin, Sem.run_bind, Sem.run_pure, Result.andThen_ok, List.map_toArray, List.map_cons, List.map_nil, hst]
    have : K (a.put o.dst u) w' := by rw [h2]; exact hc
    exact this
  · cases h3
def StepH (P : Program) (md : Region.Mode) (ops : Array Oper) (Q : Exit → Act → World → Prop) (S : World → Prop) (m : Nat) (listed : Array Bool) (a : Act) (w : World) (i : Nat) : Prop :=
  wpOp P ops Q i (fun a' w' => S w' ∧ wpAnyH P md ops Q S m (listed.setIfInBounds i true) a' w') a w
theorem wpAnyH_one {i m n : Nat} {listed : Array Bool} {a : Act} {w : World} (hr : Region.ready md ops listed = [i]) (hn : n = m + 1) (h : StepH P md ops Q S m listed a w i) : wpAnyH P md ops Q S n listed a w := by
  subst hn
  exact wpAnyH_all hr (by simp) fun j hj => by obtain rfl := List.mem_singleton.1 hj; exact h
theorem wpAnyH_two {i j m n : Nat} {listed : Array Bool} {a : Act} {w : World} (hr : Region.ready md ops listed = [i, j]) (hn : n = m + 1) (h1 : StepH P md ops Q S m listed a w i) (h2 : StepH P md ops Q S m listed a w j) : wpAnyH P md ops Q S n listed a w := by
  subst hn
  refine wpAnyH_all hr (by simp) fun k hk => ?_
  rcases List.mem_cons.1 hk with rfl | hk
  · exact h1
  · obtain rfl := List.mem_singleton.1 hk; exact h2
theorem stepH_of {m i : Nat} {listed : Array Bool} {a : Act} {w : World} {o : Oper} (ho : ops[i]? = some o)
    (h : if Region.wanted o (yielded ops a.tmps) = true then o.wp P a w (fun a' w' => S w' ∧ wpAnyH P md ops Q S m (listed.setIfInBounds i true) a' w') Q else (fun a' w' => S w' ∧ wpAnyH P md ops Q S m (listed.setIfInBounds i true) a' w') (a.put o.dst undef) w) : StepH P md ops Q S m listed a w i := by
  refine wpOp_step ho fun K' hK => ?_
  split at h
  · rename_i hw
    rw [if_pos hw]
    exact Oper.wp_mono (fun a w h => hK a w h) h
  · rename_i hw
    rw [if_neg hw]
    exact hK _ _ h
theorem some_of {α β : Type} {x : Option α} {f : α → β} {y : β} (h : x.map f = some y) : ∃ o, x = some o := by
  cases x with
  | none => cases h
  | some o => exact ⟨o, rfl⟩
theorem stepH_call {m i : Nat} {listed : Array Bool} {a : Act} {w : World} {d : Option Tmp} {f : FuncId} {args : Array Value} (hr : runAt P ops i a w = some (true, d, .ok (.enter f args) w))
    (hc : Calls P f args w (Goes Q (fun a' w' => S w' ∧ wpAnyH P md ops Q S m (listed.setIfInBounds i true) a' w') a d)) : StepH P md ops Q S m listed a w i := by
  obtain ⟨o, ho⟩ := some_of hr
  exact stepH_of ho (op_call ho hr hc)
theorem stepH_run {m i : Nat} {listed : Array Bool} {a : Act} {w w' : World} {d : Option Tmp} {v : Value} (hr : runAt P ops i a w = some (true, d, .ok (.value v) w')) (hS : S w') (h : wpAnyH P md ops Q S m (listed.setIfInBounds i true) (a.put d v) w') : StepH P md ops Q S m listed a w i := by
  obtain ⟨o, ho⟩ := some_of hr
  exact stepH_of ho (op_run ho hr ⟨hS, h⟩)
theorem stepH_store {m i : Nat} {listed : Array Bool} {a : Act} {w w' : World} {ty : TypeId} {p v : Value} (hr : storeAt ops i a = some (true, none, some (ty, p, v))) (hst : (Instr.storeAt ty p v).run P w = .ok () w') (hS : S w') (h : wpAnyH P md ops Q S m (listed.setIfInBounds i true) a w') : StepH P md ops Q S m listed a w i := by
  obtain ⟨o, ho⟩ := some_of hr
  exact stepH_of ho (op_store ho hr hst ⟨hS, h⟩)
theorem stepH_load {m i : Nat} {listed : Array Bool} {a : Act} {w : World} {d : Option Tmp} {ty : TypeId} {p v : Value} (hr : (ops[i]?).map (fun o => seeOp P ops w a o (.load i d ty p v)) = some (.got true d (some (ty, p)))) (hl : (Instr.loadAt ty p).run P w = .ok v w) (hS : S w) (h : wpAnyH P md ops Q S m (listed.setIfInBounds i true) (a.put d v) w) : StepH P md ops Q S m listed a w i := by
  obtain ⟨o, ho⟩ := some_of hr
  exact stepH_of ho (op_load ho hr hl ⟨hS, h⟩)
theorem stepH_append {m i : Nat} {listed : Array Bool} {a : Act} {w w' : World} {d : Option Tmp} {t t' ty : TypeId} {v x u : Value} (hr : appAt ops i a = some (true, d, some (t, t', ty, v, x))) (hst : (Builtin.append_ #[t, t'] ty #[v, x]).run P w = .ok u w') (hS : S w') (h : wpAnyH P md ops Q S m (listed.setIfInBounds i true) (a.put d u) w') : StepH P md ops Q S m listed a w i := by
  obtain ⟨o, ho⟩ := some_of hr
  exact stepH_of ho (op_append ho hr hst ⟨hS, h⟩)
theorem wpFrom_append {k : Nat} {a : Act} {w w' : World} {d : Option Tmp} {t t' ty : TypeId} {v x u : Value} (hr : appAt ops k a = some (true, d, some (t, t', ty, v, x))) (hst : (Builtin.append_ #[t, t'] ty #[v, x]).run P w = .ok u w') (h : wpFrom P ops Q (k + 1) (a.put d u) w') : wpFrom P ops Q k a w := by
  obtain ⟨o, ho⟩ := some_of hr
  exact wpFrom_step ho fun K hK => op_append ho hr hst (hK _ _ h)
theorem wpFrom_call {k : Nat} {a : Act} {w : World} {d : Option Tmp} {f : FuncId} {args : Array Value} (hr : runAt P ops k a w = some (true, d, .ok (.enter f args) w)) (hc : Calls P f args w (Goes Q (wpFrom P ops Q (k + 1)) a d)) : wpFrom P ops Q k a w := by
  obtain ⟨o, ho⟩ := some_of hr
  refine wpFrom_step ho fun K hK => op_call ho hr (hc.mono fun e w' he => ?_)
  cases e with
  | returned v => exact hK _ _ he
  | panicked c => exact he
  | outgrown => exact he
theorem wpFrom_run {k : Nat} {a : Act} {w w' : World} {d : Option Tmp} {v : Value} (hr : runAt P ops k a w = some (true, d, .ok (.value v) w')) (h : wpFrom P ops Q (k + 1) (a.put d v) w') : wpFrom P ops Q k a w := by
  obtain ⟨o, ho⟩ := some_of hr
  exact wpFrom_step ho fun K hK => op_run ho hr (hK _ _ h)
theorem wpFrom_store {k : Nat} {a : Act} {w w' : World} {ty : TypeId} {p v : Value} (hr : storeAt ops k a = some (true, none, some (ty, p, v))) (hst : (Instr.storeAt ty p v).run P w = .ok () w') (h : wpFrom P ops Q (k + 1) a w') : wpFrom P ops Q k a w := by
  obtain ⟨o, ho⟩ := some_of hr
  exact wpFrom_step ho fun K hK => op_store ho hr hst (hK _ _ h)
abbrev pt (b o : Nat) : Value := .pointer (some ⟨b, o, none⟩)
theorem tD (m : Nat) (L : List Tk) {n : Nat} {listed : Array Bool} {a : Act} {w : World} (hf : Facts P S L) (hS : S w) (h : wpAnyH P md ops Q S m (listedBy L listed) (puts L a) w) (hs : Region.noSelect ops = true := by kernel_rfl) (hQ : ∀ d v c a w, Q (.panic c) (Act.put a d v) w → Q (.panic c) a w := by rintro (_ | _) _ _ _ _ h <;> exact h)
    (hn : n = m + L.length := by kernel_rfl) (ho : orderOk md ops L listed = true := by kernel_rfl) (hsee : ∀ w, sees P ops w L a = wants w L := by intro _; kernel_rfl) : wpAnyH P md ops Q S n listed a w := wpAnyH_takes L hs hQ hn ho hsee hf hS h
theorem tF (m : Nat) (L : List Tk) {k : Nat} {a : Act} {w : World} (hf : FactsAt P w L) (h : wpFrom P ops Q m (puts L a) w) (hm : m = k + L.length := by kernel_rfl) (hp : L.map Tk.place = List.range' k L.length := by kernel_rfl) (hsee : ∀ w, sees P ops w L a = wants w L := by intro _; kernel_rfl) : wpFrom P ops Q k a w := wpFrom_takes L hm hp hsee hf h
theorem oD (i m : Nat) {n : Nat} {listed : Array Bool} {a : Act} {w : World} (h : StepH P md ops Q S m listed a w i) (hr : Region.ready md ops listed = [i] := by kernel_rfl) (hn : n = m + 1 := by kernel_rfl) : wpAnyH P md ops Q S n listed a w := wpAnyH_one hr hn h
theorem oT (i j m : Nat) {n : Nat} {listed : Array Bool} {a : Act} {w : World} (h1 : StepH P md ops Q S m listed a w i) (h2 : StepH P md ops Q S m listed a w j) (hr : Region.ready md ops listed = [i, j] := by kernel_rfl) (hn : n = m + 1 := by kernel_rfl) : wpAnyH P md ops Q S n listed a w := wpAnyH_two hr hn h1 h2
theorem cD (d : Option Tmp) (f : FuncId) (args : Array Value) {m i : Nat} {listed : Array Bool} {a : Act} {w : World} (hc : Calls P f args w (Goes Q (fun a' w' => S w' ∧ wpAnyH P md ops Q S m (listed.setIfInBounds i true) a' w') a d)) (hr : runAt P ops i a w = some (true, d, .ok (.enter f args) w) := by kernel_rfl) : StepH P md ops Q S m listed a w i := stepH_call hr hc
theorem cF (d : Option Tmp) (f : FuncId) (args : Array Value) {k : Nat} {a : Act} {w : World} (hc : Calls P f args w (Goes Q (wpFrom P ops Q (k + 1)) a d)) (hr : runAt P ops k a w = some (true, d, .ok (.enter f args) w) := by kernel_rfl) : wpFrom P ops Q k a w := wpFrom_call hr hc
theorem rD (d : Option Tmp) (v : Value) (w' : World) {m i : Nat} {listed : Array Bool} {a : Act} {w : World} (hS : S w') (h : wpAnyH P md ops Q S m (listed.setIfInBounds i true) (a.put d v) w') (hr : runAt P ops i a w = some (true, d, .ok (.value v) w') := by kernel_rfl) : StepH P md ops Q S m listed a w i := stepH_run hr hS h
theorem rF (d : Option Tmp) (v : Value) (w' : World) {k : Nat} {a : Act} {w : World} (h : wpFrom P ops Q (k + 1) (a.put d v) w') (hr : runAt P ops k a w = some (true, d, .ok (.value v) w') := by kernel_rfl) : wpFrom P ops Q k a w := wpFrom_run hr h
theorem sD (ty : TypeId) (p v : Value) {m i : Nat} {listed : Array Bool} {a : Act} {w w' : World} (hst : (Instr.storeAt ty p v).run P w = .ok () w') (hS : S w') (h : wpAnyH P md ops Q S m (listed.setIfInBounds i true) a w') (hr : storeAt ops i a = some (true, none, some (ty, p, v)) := by kernel_rfl) : StepH P md ops Q S m listed a w i := stepH_store hr hst hS h
theorem sF (ty : TypeId) (p v : Value) {k : Nat} {a : Act} {w w' : World} (hst : (Instr.storeAt ty p v).run P w = .ok () w') (h : wpFrom P ops Q (k + 1) a w') (hr : storeAt ops k a = some (true, none, some (ty, p, v)) := by kernel_rfl) : wpFrom P ops Q k a w := wpFrom_store hr hst h
theorem lD (d : Option Tmp) (ty : TypeId) (p v : Value) {m i : Nat} {listed : Array Bool} {a : Act} {w : World} (hl : (Instr.loadAt ty p).run P w = .ok v w) (hS : S w) (h : wpAnyH P md ops Q S m (listed.setIfInBounds i true) (a.put d v) w) (hr : (ops[i]?).map (fun o => seeOp P ops w a o (.load i d ty p v)) = some (.got true d (some (ty, p))) := by kernel_rfl) : StepH P md ops Q S m listed a w i := stepH_load hr hl hS h
theorem dF {k : Nat} {a : Act} {w : World} (h : Q .normal a w) (hk : Nat.ble ops.size k = true := by kernel_rfl) : wpFrom P ops Q k a w := wpFrom_done (Nat.le_of_ble_eq_true hk) h
theorem dD {n : Nat} {listed : Array Bool} {a : Act} {w : World} (h : Q .normal a w) (hr : Region.ready md ops listed = [] := by kernel_rfl) : wpAnyH P md ops Q S n listed a w := wpAnyH_done hr h n
end
end Go.Proofs.YtechcdkakgpnkaaGreat
namespace Go.Proofs.YtechcdkakgpnkaaGreat
open Go.RowKit Go.Shelf
abbrev iv (x : Int) : Value := .int .i64 x
abbrev tv (s : ByteArray) : Value := .string s
def Row (W : World) (b off : Nat) (vs : List Value) : Prop := ∀ k v, vs[k]? = some v → W.cell? ⟨b, off + k, none⟩ = some v
theorem Row.below {W W' : World} {n b off : Nat} {vs : List Value} (h : Row W b off vs) (hb : Below n W W') (hlt : b < n) : Row W' b off vs := fun k x hx => (hb.cell (p := ⟨b, _, none⟩) hlt).trans (h k x hx)
theorem Row.kept {W W' : World} {row : Option Nat} {b off : Nat} {vs : List Value} (h : Row W b off vs) (hb : b < W.heap.size) (hg : W.grownBy W' row) (hne : some b ≠ row) : Row W' b off vs := fun k x hx =>
  (World.cell?_of_block (a := ⟨b, _, none⟩) (hg.block b hb hne)).trans (h k x hx)
theorem Row.own {W W' : World} {row : Option Nat} {b off : Nat} {vs : List Value} (h : Row W b off vs) (hb : b < W.heap.size) (hg : W.grownBy W' row) (hr : ∀ r, row = some r → ∃ o : Obj, W.heap[r]? = some o ∧ o.isCells = false) : Row W' b off vs := fun k x hx => by
  have hc := h k x hx
  refine (World.cell?_of_block (a := ⟨b, _, none⟩) (hg.block b hb (fun e => ?_))).trans hc
  obtain ⟨o, ho, hoc⟩ := hr b e.symm
  simp only [World.cell?, ho] at hc
  cases o <;> first | (cases hoc; done) | (simp at hc)
def VSl (lo hi : Nat) (W : World) (sv : Value) (vs : List Value) : Prop :=
  ∃ a cap, sv = .slice a vs.length cap ∧ vs.length ≤ cap ∧ (vs = [] ∨ ∃ b off, a = some ⟨b, off, none⟩ ∧ lo ≤ b ∧ b < hi ∧ Row W b off vs)
theorem VSl.mono {lo hi lo' hi' : Nat} {W : World} {sv : Value} {vs : List Value} (h : VSl lo hi W sv vs) (h1 : lo' ≤ lo) (h2 : hi ≤ hi') : VSl lo' hi' W sv vs := by
  obtain ⟨a, cap, e, hc, h0 | ⟨b, off, ha, hl, hh, ho⟩⟩ := h
  · exact ⟨a, cap, e, hc, .inl h0⟩
  · exact ⟨a, cap, e, hc, .inr ⟨b, off, ha, by omega, by omega, ho⟩⟩
theorem VSl.below {lo hi m : Nat} {W W' : World} {sv : Value} {vs : List Value} (h : VSl lo hi W sv vs) (hb : Below m W W') (hm : hi ≤ m) : VSl lo hi W' sv vs := by
  obtain ⟨a, cap, e, hc, h0 | ⟨b, off, ha, hl, hh, ho⟩⟩ := h
  · exact ⟨a, cap, e, hc, .inl h0⟩
  · exact ⟨a, cap, e, hc, .inr ⟨b, off, ha, hl, hh, ho.below hb (by omega)⟩⟩
theorem VSl.nil (lo hi : Nat) (W : World) : VSl lo hi W (.slice none 0 0) [] := ⟨none, 0, rfl, Nat.le_refl _, .inl rfl⟩
theorem VSl.of_own {W : World} {lo : Nat} {e : TypeId} {v : Value} {vs : List Value} (h : W.ownsRow lo e 1 v vs.length vs) : VSl lo W.heap.size W v vs := by
  rcases Nat.eq_zero_or_pos vs.length with h0 | h0
  · have hl : vs = [] := List.eq_nil_of_length_eq_zero h0
    subst hl
    rcases h.2 with ⟨rfl, _⟩ | ⟨g, cap, cur, rfl, _, _, hnc, _⟩
    · exact VSl.nil _ _ _
    · exact ⟨_, cap, rfl, hnc, .inl rfl⟩
  · obtain ⟨hl, ⟨_, h1⟩ | ⟨g, cap, cur, rfl, hg, hb, hnc, hcm, hsz, htake⟩⟩ := h
    · omega
    · refine ⟨_, cap, rfl, hnc, .inr ⟨g, 0, rfl, hg, (Array.getElem?_eq_some_iff.1 hb).1, fun k x hk => ?_⟩⟩
      have hkl : k < vs.length := (List.getElem?_eq_some_iff.1 hk).1
      have e' : cur[k]? = (cur.toList.take (vs.length * 1))[k]? := by
        rw [List.getElem?_take_of_lt (by omega)]
        simp
      simp only [World.cell?, hb, Nat.zero_add]
      rw [show (if (none : Option Nat).isSome = true then (none : Option Value) else cur[k]?) = cur[k]? from rfl, e', htake]
      exact hk
theorem VSl.slice {lo hi : Nat} {W : World} {sv : Value} {vs : List Value} (h : VSl lo hi W sv vs) : ∃ a c, sv = .slice a vs.length c := by
  obtain ⟨a, c, e, _⟩ := h
  exact ⟨a, c, e⟩
theorem own_ne {W : World} {base : Nat} {e t : TypeId} {v x : Value} {n : Nat} {xs : List Value} {B : Nat} (h : W.ownsRow base e 1 v n xs) (hb : Boxed W B t x) (hne : B < base ∨ 2 ≤ n) : some B ≠ v.ownBlock := fun e' => by
  rcases h.2 with ⟨rfl, _⟩ | ⟨g, cap, cur, rfl, hg, hc, hnc, _, hsz, _⟩
  · simp [Value.ownBlock] at e'
  · obtain rfl : B = g := by simpa [Value.ownBlock] using e'
    rw [show W.heap[B]? = _ from hb] at hc
    cases hc
    simp at hsz
    omega
end Go.Proofs.YtechcdkakgpnkaaGreat
namespace Go.Proofs.YtechcdkakgpnkaaGreat
open Go.RowKit Go.Shelf
section
variable {α : Type} {f : α → List Value} {n : Nat}
def flatR (f : α → List Value) (l : List α) : List Value := l.flatMap f
theorem flat_nil : flatR f [] = [] := rfl
theorem flat_cons (x : α) (l : List α) : flatR f (x :: l) = f x ++ flatR f l := rfl
theorem flat_app (l m : List α) : flatR f (l ++ m) = flatR f l ++ flatR f m := List.flatMap_append
theorem flat_one (x : α) : flatR f [x] = f x := by rw [flat_cons, flat_nil, List.append_nil]
theorem flat_len (hn : ∀ x, (f x).length = n) (l : List α) : (flatR f l).length = l.length * n := by
  induction l with
  | nil => simp [flatR]
  | cons x l ih => rw [flat_cons, List.length_append, ih, hn, List.length_cons, Nat.succ_mul]; omega
theorem flat_drop (hn : ∀ x, (f x).length = n) (l : List α) (k : Nat) : (flatR f l).drop (k * n) = flatR f (l.drop k) := by
  induction l generalizing k with
  | nil => simp [flatR]
  | cons x l ih =>
    cases k with
    | zero => simp
    | succ k => rw [flat_cons, Nat.succ_mul, Nat.add_comm, ← List.drop_drop, List.drop_left' (hn x), ih, List.drop_succ_cons]
theorem flat_at (hn : ∀ x, (f x).length = n) {l : List α} {k : Nat} {x : α} (hx : l[k]? = some x) : ((flatR f l).drop (k * n)).take n = f x := by
  obtain ⟨hk, rfl⟩ := List.getElem?_eq_some_iff.1 hx
  rw [flat_drop hn, ← List.getElem_cons_drop hk, flat_cons, List.take_left' (hn _)]
theorem flat_cell (hn : ∀ x, (f x).length = n) {l : List α} {k j : Nat} {x : α} (hx : l[k]? = some x) (hj : j < n) : (flatR f l)[k * n + j]? = (f x)[j]? := by
  rw [← flat_at hn hx, List.getElem?_take_of_lt hj, List.getElem?_drop]
def RSl (f : α → List Value) (lo hi : Nat) (W : World) (sv : Value) (l : List α) : Prop :=
  ∃ a cap, sv = .slice a l.length cap ∧ l.length ≤ cap ∧ cap ≤ maxLen ∧ (l = [] ∨ ∃ b off, a = some ⟨b, off, none⟩ ∧ lo ≤ b ∧ b < hi ∧ Row W b off (flatR f l))
theorem RSl.mono {lo hi lo' hi' : Nat} {W : World} {sv : Value} {l : List α} (h : RSl f lo hi W sv l) (h1 : lo' ≤ lo) (h2 : hi ≤ hi') : RSl f lo' hi' W sv l := by
  obtain ⟨a, cap, e, hc, hm, h0 | ⟨b, off, ha, hl, hh, ho⟩⟩ := h
  · exact ⟨a, cap, e, hc, hm, .inl h0⟩
  · exact ⟨a, cap, e, hc, hm, .inr ⟨b, off, ha, by omega, by omega, ho⟩⟩
theorem RSl.below {lo hi m : Nat} {W W' : World} {sv : Value} {l : List α} (h : RSl f lo hi W sv l) (hb : Below m W W') (hm : hi ≤ m) : RSl f lo hi W' sv l := by
  obtain ⟨a, cap, e, hc, hx, h0 | ⟨b, off, ha, hl, hh, ho⟩⟩ := h
  · exact ⟨a, cap, e, hc, hx, .inl h0⟩
  · exact ⟨a, cap, e, hc, hx, .inr ⟨b, off, ha, hl, hh, ho.below hb (by omega)⟩⟩
theorem RSl.up {W W' : World} {sv : Value} {l : List α} (h : RSl f 0 W.heap.size W sv l) (hb : Below W.heap.size W W') : RSl f 0 W'.heap.size W' sv l := (h.below hb (Nat.le_refl _)).mono (Nat.le_refl _) hb.size
theorem RSl.kept {lo hi : Nat} {W W' : World} {row : Option Nat} {sv : Value} {l : List α} (h : RSl f lo hi W sv l) (hi' : hi ≤ W.heap.size) (hg : W.grownBy W' row) (hne : ∀ r, row = some r → r < lo ∨ hi ≤ r) : RSl f lo hi W' sv l := by
  obtain ⟨a, cap, e, hc, hx, h0 | ⟨b, off, ha, hl, hh, ho⟩⟩ := h
  · exact ⟨a, cap, e, hc, hx, .inl h0⟩
  · exact ⟨a, cap, e, hc, hx, .inr ⟨b, off, ha, hl, hh, ho.kept (by omega) hg (fun e => by have := hne b e.symm; omega)⟩⟩
theorem RSl.nil (lo hi : Nat) (W : World) : RSl f lo hi W (.slice none 0 0) [] := ⟨none, 0, rfl, Nat.le_refl _, Nat.zero_le _, .inl rfl⟩
theorem RSl.slice {lo hi : Nat} {W : World} {sv : Value} {l : List α} (h : RSl f lo hi W sv l) : ∃ a c, sv = .slice a l.length c := by
  obtain ⟨a, c, e, _⟩ := h
  exact ⟨a, c, e⟩
theorem RSl.len {lo hi : Nat} {W : World} {sv : Value} {l : List α} (h : RSl f lo hi W sv l) : l.length ≤ maxLen := by
  obtain ⟨a, c, _, h1, h2, _⟩ := h
  exact Nat.le_trans h1 h2
theorem RSl.at {lo hi : Nat} {W : World} {a : Option Addr} {len cap : Nat} {l : List α} (h : RSl f lo hi W (.slice a len cap) l) (hl : l ≠ []) : len = l.length ∧ len ≤ cap ∧ ∃ b off, a = some ⟨b, off, none⟩ ∧ lo ≤ b ∧ b < hi ∧ Row W b off (flatR f l) := by
  obtain ⟨a', c', e, hc, _, h0 | ⟨b, off, ha, h1, h2, h3⟩⟩ := h
  · exact absurd h0 hl
  · cases e
    exact ⟨rfl, hc, b, off, ha, h1, h2, h3⟩
theorem Row.elem {W : World} {b off : Nat} {l : List α} (h : Row W b off (flatR f l)) (hn : ∀ x, (f x).length = n) {k j : Nat} {x : α} (hx : l[k]? = some x) (hj : j < n) : W.cell? ⟨b, off + k * n + j, none⟩ = (f x)[j]? := by
  have hl : j < (f x).length := by rw [hn]; exact hj
  have h1 := flat_cell hn hx hj
  rw [List.getElem?_eq_getElem hl] at h1 ⊢
  rw [Nat.add_assoc]
  exact h _ _ h1
theorem RSl.of_own {W : World} {lo : Nat} {e : TypeId} {v : Value} {l : List α} (hn : ∀ x, (f x).length = n) (h : W.ownsRow lo e n v l.length (flatR f l)) : RSl f lo W.heap.size W v l := by
  rcases h.2 with ⟨rfl, h0⟩ | ⟨g, cap, cur, rfl, hg, hb, hnc, hcm, hsz, htake⟩
  · have hl : l = [] := List.eq_nil_of_length_eq_zero h0
    subst hl
    exact RSl.nil _ _ _
  · refine ⟨_, cap, rfl, hnc, hcm, .inr ⟨g, 0, rfl, hg, (Array.getElem?_eq_some_iff.1 hb).1, fun k x hk => ?_⟩⟩
    have hkl : k < (flatR f l).length := (List.getElem?_eq_some_iff.1 hk).1
    rw [flat_len hn] at hkl
    have e' : cur[k]? = (cur.toList.take (l.length * n))[k]? := by
      rw [List.getElem?_take_of_lt hkl]
      simp
    simp only [World.cell?, hb, Nat.zero_add]
    rw [show (if (none : Option Nat).isSome = true then (none : Option Value) else cur[k]?) = cur[k]? from rfl, e', htake]
    exact hk
theorem RSl.cells {lo hi : Nat} {W : World} {a : Addr} {len cap : Nat} {l : List α} (h : RSl f lo hi W (.slice (some a) len cap) l) : ∀ j u, (flatR f l)[j]? = some u → W.cell? (a.add j) = some u := by
  obtain ⟨a', c', e, _, _, h0 | ⟨b, off, ha, _, _, hr⟩⟩ := h
  · subst h0; intro j u hj; simp [flatR] at hj
  · cases e
    obtain rfl := Option.some.inj ha
    intro j u hj
    rw [addr_add]
    exact hr j u hj
end
end Go.Proofs.YtechcdkakgpnkaaGreat
