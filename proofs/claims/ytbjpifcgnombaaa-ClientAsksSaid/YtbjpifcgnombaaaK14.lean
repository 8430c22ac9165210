/-
  The reference's Root; A user is made, and is up; What all readings of arguments share; A wide number among the arguments is four words; A wide number among the arguments, told by its number; '==' of structs, field by field; of transfers, of sides' data; '==' of two messages is that of their things; A number and a text have one cell each; An ask, and a bid, among the arguments
-/
import Derived.Deep.Cut
import Derived.Deep.CutBlock
import Derived.LoopTactic
import Derived.Test.YtbjpifcgnombaaaRows
import Derived.ProofKit
import Derived.OpenShut
import Derived.Laws.IdiomArrays
import Derived.Lib.SmallJoins
import Derived.Below
import Derived.Laws.StructEq
import Derived.Outline
import Derived.Deep.Slices
import Derived.SizedLaws
import Derived.Carry
import Derived.ChangeMaps5
import Derived.JoinedCond
import Derived.Deep.Fields
import Derived.Test.YtbjpifcgnombaaaK13
namespace Go.Proofs.Ytbjpifcgnombaaa
open Go.RowKit Go.Shelf
set_option maxRecDepth 100000 in
theorem refRoot_any (s : ByteArray) (hs : s.size ≤ 140737488352000) (w : World) :
    Calls Try.prog 12 #[.string s] w fun e W' => e = .returned (.string (rootB s)) ∧ Below w.heap.size w W' := by
  have hp : Hid (rootB s = nodeB s 3 0) := Lib.hid rfl
  have HR := Lib.hid (refRow_any s hs 3 0 (by decide) (by decide))
  go_enter Try.func12, Try.ntmps12
  go_wp2_with fail
  refine (HR.out _).mono ?_
  rintro e w1 ⟨rfl, hb1⟩
  generalize nodeB s 3 0 = x at *
  go_wp2_with fail
  go_ret
  exact ⟨by rw [hp.out]; rfl, hb1⟩
end Go.Proofs.Ytbjpifcgnombaaa
namespace Go.Proofs.Ytbjpifcgnombaaa
open Go.RowKit Go.Shelf
attribute [local irreducible] wpFrom wpAnyH StepH
theorem clBlk {C D R : Nat} {c : Cl} {vo vp va vb : Value} {W : World} (h : ROk (.join (CLR C D R c vo vp va vb)) W) : Blk W C 61 (clc c.me (.pointer (some ⟨D, 0, none⟩)) vp (.pointer (some ⟨R, 0, none⟩)) c.dn) := (Sep.begin h).at 0 rfl
set_option maxRecDepth 100000 in
set_option maxHeartbeats 4000000 in
theorem alive20_any (w : World) : Calls Try.prog 5 #[] w fun e W' => e = .returned (.bool true) ∧ Below w.heap.size w W' := by
  have hmx : Try.prog.follows .mixedOrders = true := by kernel_rfl
  have hM := Sep.start w
  go_enter Try.func5, Try.ntmps5
  go_upto_region 0 with fail
  refine wp_region_fromM (fun W => Sep w [] [] W) hM ?_
  clear hM
  rintro Y1 hM
  refine tF 1 [.val 0 (some 0) (.bool false)] trivial ?_
  refine dF ?_
  try simp only [puts, Tk.put, Act.put, List.setIfInBounds_toArray, List.set_cons_zero]
  go_upto_region 1 with fail
  refine wp_region_fromM (fun W => Sep w [] [] W) hM ?_
  clear hM
  rintro Y2 hM
  refine cF (some 6) 6 #[.int .i64 9, .slice none 0 0, .int .i64 1, .int .i64 900] ((clNew_no 9 1 900 (.slice none 0 0) _ (by decide)).mono ?_)
  rintro e Y4 ⟨rfl, hb⟩
  replace hM := hM.below hb
  clear hb
  refine tF 6 [.val 1 (some 5) (.tuple #[.pointer none, .int .i64 4]), .val 2 (some 7) (.pointer none), .val 3 (some 8) (.int .i64 4), .val 4 (some 1) (.pointer none), .val 5 (some 2) (.int .i64 4)] trivial ?_
  refine dF ?_
  try simp only [puts, Tk.put, Act.put, List.setIfInBounds_toArray, List.set_cons_zero, List.set_cons_succ]
  go_upto_region 2 with fail
  refine wp_region_fromM (fun W => Sep w [] [] W) hM ?_
  clear hM
  rintro Y5 hM
  refine cF (some 10) 6 #[.int .i64 0, .slice none 0 0, .int .i64 1, .int .i64 900] ((clNew_nil 0 1 900 _ (by decide)).mono ?_)
  rintro e Y6 ⟨C6, D6, R6, vo6, vp6, va6, vb6, rfl, hR⟩
  replace hM := hM.gain (Sep.close (ps := CLR C6 D6 R6 (newU 0 ⟨#[]⟩ ⟨#[]⟩ 1 900) vo6 vp6 va6 vb6) (l := []) hR)
  clear hR
  refine tF 6 [.val 1 (some 9) (.tuple #[.pointer (some ⟨C6, 0, none⟩), .int .i64 0]), .val 2 (some 11) (pt C6 0), .val 3 (some 12) (.int .i64 0), .val 4 (some 3) (pt C6 0), .val 5 (some 4) (.int .i64 0)] trivial ?_
  refine dF ?_
  try simp only [puts, Tk.put, Act.put, List.setIfInBounds_toArray, List.set_cons_zero, List.set_cons_succ]
  go_upto_region 3 with fail
  refine wp_region_fromM (fun W => Sep w [] [.join (CLR C6 D6 R6 (newU 0 ⟨#[]⟩ ⟨#[]⟩ 1 900) vo6 vp6 va6 vb6)] W) hM ?_
  clear hM
  rintro Y7 hM
  refine tF 8 [.val 0 (some 13) (.int .i64 4), .val 1 (some 14) (.bool true), .val 2 (some 15) (.bool true), .val 3 (some 16) (.int .i64 0), .val 4 (some 17) (.bool true), .val 5 (some 18) (.bool true), .val 6 (some 19) (.bool true), .val 7 (some 20) (pt C6 0)] trivial ?_
  refine cF (some 21) 10 #[pt C6 0] ((clDown_any _ (clBlk (hM.oka 0 rfl))).mono ?_)
  rintro e Y8 ⟨rfl, hb⟩
  replace hM := hM.below hb
  clear hb
  refine tF 13 [.val 9 (some 22) (.bool true), .val 10 (some 23) (.bool true), .val 11 (some 24) (.bool true), .val 12 (some 25) (pt C6 0)] trivial ?_
  refine cF (some 26) 11 #[pt C6 0] ((clRoot_any _ (clBlk (hM.oka 0 rfl))).mono ?_)
  rintro e Y9 ⟨rfl, hb⟩
  replace hM := hM.below hb
  clear hb
  refine tF 19 [.val 14 (some 27) (.int .i64 ((rootB (seedB 0)).size : Int)), .alt 15 (some 28) (.bool (((rootB (seedB 0)).size : Int) == 8)) (.bool true), .val 16 (some 29) (.bool true), .val 17 (some 30) (.bool true), .val 18 (some 31) (pt C6 0)] ⟨congrArg Value.bool (by rw [rootB_size]; rfl), trivial⟩ ?_
  refine cF (some 32) 11 #[pt C6 0] ((clRoot_any _ (clBlk (hM.oka 0 rfl))).mono ?_)
  rintro e Y10 ⟨rfl, hb⟩
  replace hM := hM.below hb
  clear hb
  refine cF (some 33) 12 #[.string ⟨#[117, 115, 101, 114, 0]⟩] ((refRoot_any (⟨#[117, 115, 101, 114, 0]⟩) (by decide) _).mono ?_)
  rintro e Y11 ⟨rfl, hb⟩
  replace hM := hM.below hb
  clear hb
  refine tF 24 [.alt 21 (some 34) (.bool ((rootB (seedB 0)).toList == (rootB (⟨#[117, 115, 101, 114, 0]⟩)).toList)) (.bool true), .val 22 (some 35) (.bool true), .val 23 (some 36) (.bool true)] ⟨congrArg Value.bool (by rw [seed_0]; exact beq_self_eq_true _), trivial⟩ ?_
  refine cF (some 37) 13 #[.int .i64 1] ((seed_any 1 _).mono ?_)
  rintro e Y12 ⟨rfl, hb⟩
  replace hM := hM.below hb
  clear hb
  refine tF 28 [.alt 25 (some 38) (.bool ((seedB 1).toList == (⟨#[117, 115, 101, 114, 1]⟩ : ByteArray).toList)) (.bool true), .val 26 (some 39) (.bool true), .val 27 (some 0) (.bool true)] ⟨congrArg Value.bool (by rw [seed_1]; exact beq_self_eq_true _), trivial⟩ ?_
  refine dF ?_
  try simp only [puts, Tk.put, Act.put, List.setIfInBounds_toArray, List.set_cons_zero, List.set_cons_succ]
  go_wp2_with fail
  go_ret
  exact ⟨rfl, hM.b⟩
end Go.Proofs.Ytbjpifcgnombaaa
namespace Go.Proofs.Ytbjpifcgnombaaa
open Go.ChangeShapes Go.WideShapes Go.ChangeAt Go.RowKit
theorem Try.own : ownKnob Try.prog.godebug = none := by kernel_rfl
theorem Try.laidOut : laidOutB Try.prog = true := by kernel_rfl
theorem wf_i64 {x : Int} (h : (Lit.int .i64 x).wf = true) : -9223372036854775808 ≤ x ∧ x ≤ 9223372036854775807 := by
  simp [Lit.wf, IntKind.min, IntKind.max, IntKind.bits, IntKind.signed] at h
  omega
end Go.Proofs.Ytbjpifcgnombaaa
namespace Go.Proofs.Ytbjpifcgnombaaa
open Go.ChangeShapes Go.WideShapes Go.ChangeAt Go.RowKit
theorem Try.cells24 : Try.prog.cellsOf 24 = 4 := by kernel_rfl
theorem Try.cells22 : Try.prog.cellsOf 22 = 1 := by kernel_rfl
theorem wf_u64 {x : Int} (h : (Lit.int .u64 x).wf = true) : ∃ n : Nat, x = (n : Int) ∧ n < M := by
  have h' : 0 ≤ x ∧ x < 18446744073709551616 := by
    simp [Lit.wf, IntKind.min, IntKind.max, IntKind.bits, IntKind.signed] at h
    omega
  obtain ⟨n, rfl⟩ := Int.eq_ofNat_of_zero_le h'.1
  exact ⟨n, rfl, by unfold M; omega⟩
set_option maxRecDepth 100000 in
theorem open_wide {H : Type} {enc : TypeId × Value → H} {r : Reach} {w : World} {b0 base : Nat} {spare : Nat → Bool} {held : Bool} {v : Value} {d : DataW H} {p : List MemPlace}
    (hv : Value.okWide Try.prog w r b0 24 v) (h : DataW.Trod enc Try.prog w base spare held 24 v d p) : ∃ a0 a1 a2 a3 : Nat, Ok4 a0 a1 a2 a3 ∧ v = wv a0 a1 a2 a3 := by
  obtain ⟨cs, rfl, hsz, _⟩ : ∃ cs, v = .agg cs ∧ cs.size = Try.prog.cellsOf 24 ∧ Row.okWide Try.prog w r b0 24 cs := by
    simpa [Value.okWide, Try.underlying24] using hv
  rw [Try.cells24] at hsz
  obtain ⟨c0, c1, c2, c3, rfl⟩ := Joins.array4 hsz
  obtain ⟨fuel, hf⟩ := h
  obtain ⟨y0, y1, y2, y3, m, hx, hy0, hy1, hy2, hy3⟩ := trod_array4 Try.underlying24 Try.cells22 hf
  obtain ⟨x0, e0, rfl, w0⟩ := DataW.trod_int Try.underlying22 hy0
  obtain ⟨x1, e1, rfl, w1⟩ := DataW.trod_int Try.underlying22 hy1
  obtain ⟨x2, e2, rfl, w2⟩ := DataW.trod_int Try.underlying22 hy2
  obtain ⟨x3, e3, rfl, w3⟩ := DataW.trod_int Try.underlying22 hy3
  simp at e0 e1 e2 e3
  subst e0 e1 e2 e3
  obtain ⟨a0, rfl, l0⟩ := wf_u64 w0
  obtain ⟨a1, rfl, l1⟩ := wf_u64 w1
  obtain ⟨a2, rfl, l2⟩ := wf_u64 w2
  obtain ⟨a3, rfl, l3⟩ := wf_u64 w3
  exact ⟨a0, a1, a2, a3, ⟨l0, l1, l2, l3⟩, rfl⟩
end Go.Proofs.Ytbjpifcgnombaaa
namespace Go.Proofs.Ytbjpifcgnombaaa
open Go.RowKit Go.Shelf
set_option maxRecDepth 100000 in
theorem open_widen {H : Type} {enc : TypeId × Value → H} {r : Reach} {w : World} {b0 base : Nat} {spare : Nat → Bool} {held : Bool} {v : Value} {d : DataW H} {p : List MemPlace}
    (hv : Value.okWide Try.prog w r b0 24 v) (h : DataW.Trod enc Try.prog w base spare held 24 v d p) : ∃ n : Nat, n < M4 ∧ v = wn n := by
  obtain ⟨a0, a1, a2, a3, hk, rfl⟩ := open_wide hv h
  exact ⟨_, val_lt hk, wn_of hk rfl⟩
-- HERE
end Go.Proofs.Ytbjpifcgnombaaa
namespace Go.Proofs.Ytbjpifcgnombaaa
open Go.RowKit Go.Shelf
def eqI (a b : Trf) : Bool := (a.us == b.us) && ((a.rt.toList == b.rt.toList) && ((a.ro == b.ro) && ((a.se == b.se) && ((a.re == b.re) && ((a.to == b.to) && ((a.id.toList == b.id.toList) && true))))))
def eqV (a b : Sid) : Bool := wEq (a.a0 : Nat) (a.a1 : Nat) (a.a2 : Nat) (a.a3 : Nat) (b.a0 : Nat) (b.a1 : Nat) (b.a2 : Nat) (b.a3 : Nat) && ((a.x == b.x) && true)
theorem eqI_refl (a : Trf) : eqI a a = true := by simp [eqI]
theorem eqV_refl (a : Sid) : eqV a a = true := by simp [eqV, wEq_refl]
theorem run_eqI (d : Nat) (a b : Trf) (w : World) : (Op.equalIn (d + 2) 35 (ivv a) (ivv b)).run Try.prog w = .ok (eqI a b) w := by
  rw [run_equalIn_struct w (d + 1) 35 _ _ (by kernel_rfl) (by kernel_rfl)]
  simp only [Program.fieldsOf, Try.underlying35]
  have hi : ∀ x y : Int, (Op.equalIn (d + 1) 3 (.int .i64 x) (.int .i64 y)).run Try.prog w = .ok (x == y) w := fun x y => run_equalIn_int w d 3 .i64 .i64 x y Try.underlying3
  have hs : ∀ x y : ByteArray, (Op.equalIn (d + 1) 9 (.string x) (.string y)).run Try.prog w = .ok (x.toList == y.toList) w := fun x y => run_equalIn_string w d 9 x y Try.underlying9
  refine eqF_cons (by decide) (part_int _ _ _ rfl w) (part_int _ _ _ rfl w) (hi _ _) ?_
  refine eqF_cons (by decide) (part_str _ _ _ rfl w) (part_str _ _ _ rfl w) (hs _ _) ?_
  refine eqF_cons (by decide) (part_int _ _ _ rfl w) (part_int _ _ _ rfl w) (hi _ _) ?_
  refine eqF_cons (by decide) (part_int _ _ _ rfl w) (part_int _ _ _ rfl w) (hi _ _) ?_
  refine eqF_cons (by decide) (part_int _ _ _ rfl w) (part_int _ _ _ rfl w) (hi _ _) ?_
  refine eqF_cons (by decide) (part_int _ _ _ rfl w) (part_int _ _ _ rfl w) (hi _ _) ?_
  refine eqF_cons (by decide) (part_str _ _ _ rfl w) (part_str _ _ _ rfl w) (hs _ _) ?_
  exact eqF_nil
theorem run_eqV (d : Nat) (a b : Sid) (w : World) : (Op.equalIn (d + 3) 37 (svv a) (svv b)).run Try.prog w = .ok (eqV a b) w := by
  rw [run_equalIn_struct w (d + 2) 37 _ _ (by kernel_rfl) (by kernel_rfl)]
  simp only [Program.fieldsOf, Try.underlying37]
  have hi : ∀ x y : Int, (Op.equalIn (d + 2) 3 (.int .i64 x) (.int .i64 y)).run Try.prog w = .ok (x == y) w := fun x y => run_equalIn_int w (d + 1) 3 .i64 .i64 x y Try.underlying3
  refine eqF_cons (by decide) (part_agg _ _ Try.underlying24 rfl 4 (by kernel_rfl) _ _ _ rfl w) (part_agg _ _ Try.underlying24 rfl 4 (by kernel_rfl) _ _ _ rfl w) (run_equalIn_wide' d _ _ _ _ _ _ _ _ w) ?_
  refine eqF_cons (by decide) (part_int _ _ _ rfl w) (part_int _ _ _ rfl w) (hi _ _) ?_
  exact eqF_nil
end Go.Proofs.Ytbjpifcgnombaaa
namespace Go.Proofs.Ytbjpifcgnombaaa
open Go.RowKit Go.Shelf
theorem part_aggL (ty : TypeId) (d : TypeDesc) (hu : Try.prog.underlying ty = some d) (hd : (match d with | .struct _ | .array _ _ => true | _ => false) = true) (n : Nat) (hi : (Try.prog.info? ty).map (·.size) = some n) (cs ns : List Value) (o : Nat) (h : (cs.drop o).take n = ns) (w : World) :
    (part ty cs.toArray o).run Try.prog w = .ok (.agg ns.toArray) w :=
  part_agg ty d hu hd n hi cs.toArray ns.toArray o (by rw [List.extract_toArray, List.extract_eq_take_drop, ← h]; simp) w
def eqAm (a b : Ak) : Bool := (a.us == b.us) && ((a.se == b.se) && ((a.re == b.re) && ((a.to == b.to) && (wEq (a.a0 : Nat) (a.a1 : Nat) (a.a2 : Nat) (a.a3 : Nat) (b.a0 : Nat) (b.a1 : Nat) (b.a2 : Nat) (b.a3 : Nat) && ((a.id.toList == b.id.toList) && true)))))
def eqB (a b : Bd) : Bool := (a.ro == b.ro) && (eqAm a.k b.k && (wEq (a.b0 : Nat) (a.b1 : Nat) (a.b2 : Nat) (a.b3 : Nat) (b.b0 : Nat) (b.b1 : Nat) (b.b2 : Nat) (b.b3 : Nat) && ((a.un == b.un) && ((a.sg.toList == b.sg.toList) && true))))
def eqM (a b : Ms) : Bool := (a.kd == b.kd) && (eqAm a.ak b.ak && (eqB a.bd b.bd && (eqI a.iv b.iv && (eqV a.vr b.vr && (wEq (a.f0 : Nat) (a.f1 : Nat) (a.f2 : Nat) (a.f3 : Nat) (b.f0 : Nat) (b.f1 : Nat) (b.f2 : Nat) (b.f3 : Nat) && ((a.sg.toList == b.sg.toList) && true))))))
theorem eqA_refl (a : Ak) : eqAm a a = true := by simp [eqAm, wEq_refl]
theorem eqB_refl (a : Bd) : eqB a a = true := by simp [eqB, wEq_refl, eqA_refl]
theorem eqM_refl (a : Ms) : eqM a a = true := by simp [eqM, wEq_refl, eqA_refl, eqB_refl, eqI_refl, eqV_refl]
theorem run_eqA (d : Nat) (a b : Ak) (w : World) : (Op.equalIn (d + 3) 26 (akv a) (akv b)).run Try.prog w = .ok (eqAm a b) w := by
  rw [run_equalIn_struct w (d + 2) 26 _ _ (by kernel_rfl) (by kernel_rfl)]
  simp only [Program.fieldsOf, Try.underlying26]
  have hi : ∀ x y : Int, (Op.equalIn (d + 2) 3 (.int .i64 x) (.int .i64 y)).run Try.prog w = .ok (x == y) w := fun x y => run_equalIn_int w (d + 1) 3 .i64 .i64 x y Try.underlying3
  have hs : ∀ x y : ByteArray, (Op.equalIn (d + 2) 9 (.string x) (.string y)).run Try.prog w = .ok (x.toList == y.toList) w := fun x y => run_equalIn_string w (d + 1) 9 x y Try.underlying9
  refine eqF_cons (by decide) (part_int _ _ _ rfl w) (part_int _ _ _ rfl w) (hi _ _) ?_
  refine eqF_cons (by decide) (part_int _ _ _ rfl w) (part_int _ _ _ rfl w) (hi _ _) ?_
  refine eqF_cons (by decide) (part_int _ _ _ rfl w) (part_int _ _ _ rfl w) (hi _ _) ?_
  refine eqF_cons (by decide) (part_int _ _ _ rfl w) (part_int _ _ _ rfl w) (hi _ _) ?_
  refine eqF_cons (by decide) (part_agg _ _ Try.underlying24 rfl 4 (by kernel_rfl) _ _ _ rfl w) (part_agg _ _ Try.underlying24 rfl 4 (by kernel_rfl) _ _ _ rfl w) (run_equalIn_wide' d _ _ _ _ _ _ _ _ w) ?_
  refine eqF_cons (by decide) (part_str _ _ _ rfl w) (part_str _ _ _ rfl w) (hs _ _) ?_
  exact eqF_nil
theorem run_eqB (d : Nat) (a b : Bd) (w : World) : (Op.equalIn (d + 4) 33 (bdv a) (bdv b)).run Try.prog w = .ok (eqB a b) w := by
  rw [run_equalIn_struct w (d + 3) 33 _ _ (by kernel_rfl) (by kernel_rfl)]
  simp only [Program.fieldsOf, Try.underlying33]
  have hi : ∀ x y : Int, (Op.equalIn (d + 3) 3 (.int .i64 x) (.int .i64 y)).run Try.prog w = .ok (x == y) w := fun x y => run_equalIn_int w (d + 2) 3 .i64 .i64 x y Try.underlying3
  have hs : ∀ x y : ByteArray, (Op.equalIn (d + 3) 9 (.string x) (.string y)).run Try.prog w = .ok (x.toList == y.toList) w := fun x y => run_equalIn_string w (d + 2) 9 x y Try.underlying9
  refine eqF_cons (by decide) (part_int _ _ _ rfl w) (part_int _ _ _ rfl w) (hi _ _) ?_
  refine eqF_cons (by decide) (part_agg _ _ Try.underlying26 rfl 9 (by kernel_rfl) _ _ _ rfl w) (part_agg _ _ Try.underlying26 rfl 9 (by kernel_rfl) _ _ _ rfl w) (run_eqA d a.k b.k w) ?_
  refine eqF_cons (by decide) (part_agg _ _ Try.underlying24 rfl 4 (by kernel_rfl) _ _ _ rfl w) (part_agg _ _ Try.underlying24 rfl 4 (by kernel_rfl) _ _ _ rfl w) (run_equalIn_wide' (d + 1) _ _ _ _ _ _ _ _ w) ?_
  refine eqF_cons (by decide) (part_int _ _ _ rfl w) (part_int _ _ _ rfl w) (hi _ _) ?_
  refine eqF_cons (by decide) (part_str _ _ _ rfl w) (part_str _ _ _ rfl w) (hs _ _) ?_
  exact eqF_nil
theorem run_eqM' (d : Nat) (a b : Ms) (w : World) : (Op.equalIn (d + 5) 39 (msv a) (msv b)).run Try.prog w = .ok (eqM a b) w := by
  rw [run_equalIn_struct w (d + 4) 39 _ _ (by kernel_rfl) (by kernel_rfl)]
  simp only [Program.fieldsOf, Try.underlying39]
  have hi : ∀ x y : Int, (Op.equalIn (d + 4) 3 (.int .i64 x) (.int .i64 y)).run Try.prog w = .ok (x == y) w := fun x y => run_equalIn_int w (d + 3) 3 .i64 .i64 x y Try.underlying3
  have hs : ∀ x y : ByteArray, (Op.equalIn (d + 4) 9 (.string x) (.string y)).run Try.prog w = .ok (x.toList == y.toList) w := fun x y => run_equalIn_string w (d + 3) 9 x y Try.underlying9
  refine eqF_cons (by decide) (part_int _ _ _ rfl w) (part_int _ _ _ rfl w) (hi _ _) ?_
  refine eqF_cons (by decide) (part_aggL _ _ Try.underlying26 rfl 9 (by kernel_rfl) (msc a) (akc a.ak) 1 rfl w) (part_aggL _ _ Try.underlying26 rfl 9 (by kernel_rfl) (msc b) (akc b.ak) 1 rfl w) (run_eqA (d + 1) a.ak b.ak w) ?_
  refine eqF_cons (by decide) (part_aggL _ _ Try.underlying33 rfl 16 (by kernel_rfl) (msc a) (bdc a.bd) 10 rfl w) (part_aggL _ _ Try.underlying33 rfl 16 (by kernel_rfl) (msc b) (bdc b.bd) 10 rfl w) (run_eqB d a.bd b.bd w) ?_
  refine eqF_cons (by decide) (part_aggL _ _ Try.underlying35 rfl 7 (by kernel_rfl) (msc a) (ivc a.iv) 26 rfl w) (part_aggL _ _ Try.underlying35 rfl 7 (by kernel_rfl) (msc b) (ivc b.iv) 26 rfl w) (run_eqI (d + 2) a.iv b.iv w) ?_
  refine eqF_cons (by decide) (part_aggL _ _ Try.underlying37 rfl 5 (by kernel_rfl) (msc a) (svc a.vr) 33 rfl w) (part_aggL _ _ Try.underlying37 rfl 5 (by kernel_rfl) (msc b) (svc b.vr) 33 rfl w) (run_eqV (d + 1) a.vr b.vr w) ?_
  refine eqF_cons (by decide) (part_aggL _ _ Try.underlying24 rfl 4 (by kernel_rfl) (msc a) ([.int .u64 (a.f0 : Nat), .int .u64 (a.f1 : Nat), .int .u64 (a.f2 : Nat), .int .u64 (a.f3 : Nat)]) 38 rfl w) (part_aggL _ _ Try.underlying24 rfl 4 (by kernel_rfl) (msc b) ([.int .u64 (b.f0 : Nat), .int .u64 (b.f1 : Nat), .int .u64 (b.f2 : Nat), .int .u64 (b.f3 : Nat)]) 38 rfl w) (run_equalIn_wide' (d + 2) _ _ _ _ _ _ _ _ w) ?_
  refine eqF_cons (by decide) (part_str _ _ _ rfl w) (part_str _ _ _ rfl w) (hs _ _) ?_
  exact eqF_nil
theorem run_eqM (a b : Ms) (w : World) : (Op.equalIn 10000 39 (msv a) (msv b)).run Try.prog w = .ok (eqM a b) w := run_eqM' 9995 a b w
end Go.Proofs.Ytbjpifcgnombaaa
namespace Go.Proofs.Ytbjpifcgnombaaa
theorem Try.cellsInt : Try.prog.cellsOf 3 = 1 := by kernel_rfl
theorem Try.cellsStr : Try.prog.cellsOf 9 = 1 := by kernel_rfl
end Go.Proofs.Ytbjpifcgnombaaa
namespace Go.Proofs.Ytbjpifcgnombaaa
open Go.ChangeShapes Go.WideShapes Go.ChangeAt Go.RowKit Go.Deep
theorem Try.cellsAsk : Try.prog.cellsOf 26 = 9 := by kernel_rfl
theorem trod_wide {H : Type} {enc : TypeId × Value → H} {w : World} {base : Nat} {spare : Nat → Bool} {held : Bool} {fuel : Nat} {c0 c1 c2 c3 : Value} {x : DataW H × List MemPlace}
    (h : DataW.trod enc Try.prog w base spare held fuel 24 [c0, c1, c2, c3] = some x) :
    ∃ a0 a1 a2 a3 : Nat, c0 = .int .u64 (a0 : Int) ∧ c1 = .int .u64 (a1 : Int) ∧ c2 = .int .u64 (a2 : Int) ∧ c3 = .int .u64 (a3 : Int) ∧ Ok4 a0 a1 a2 a3 := by
  obtain ⟨u0, u1, u2, u3, m, hx3, g0, g1, g2, g3⟩ := trod_array4 Try.underlying24 Try.cells22 h
  obtain ⟨v0, k0, _, wg0⟩ := DataW.trod_int Try.underlying22 g0
  obtain ⟨v1, k1, _, wg1⟩ := DataW.trod_int Try.underlying22 g1
  obtain ⟨v2, k2, _, wg2⟩ := DataW.trod_int Try.underlying22 g2
  obtain ⟨v3, k3, _, wg3⟩ := DataW.trod_int Try.underlying22 g3
  obtain ⟨a0, rfl, q0⟩ := wf_u64 wg0
  obtain ⟨a1, rfl, q1⟩ := wf_u64 wg1
  obtain ⟨a2, rfl, q2⟩ := wf_u64 wg2
  obtain ⟨a3, rfl, q3⟩ := wf_u64 wg3
  simp at k0 k1 k2 k3
  exact ⟨a0, a1, a2, a3, k0, k1, k2, k3, ⟨q0, q1, q2, q3⟩⟩
set_option maxRecDepth 100000 in
theorem trod_ask {H : Type} {enc : TypeId × Value → H} {w : World} {base : Nat} {spare : Nat → Bool} {held : Bool} {fuel : Nat} {cs : List Value} {x : DataW H × List MemPlace}
    (h : DataW.trod enc Try.prog w base spare held fuel 26 cs = some x) :
    ∃ a : Ak, cs = akc a ∧ OkA a := by
  obtain ⟨xs, n, _, hx, hcl, hlen, hg⟩ := DataW.trod_struct Try.underlying26 h
  rw [Try.cellsAsk] at hcl
  match cs, hcl with
  | [c0, c1, c2, c3, c4, c5, c6, c7, c8], _ =>
  match xs, hlen with
  | [y0, y1, y2, y3, y4, y5], _ =>
  have h0 := hg 0 ⟨ "User", 3, 0, false, "", "", 0⟩ rfl
  have h1 := hg 1 ⟨ "Send", 3, 1, false, "", "", 8⟩ rfl
  have h2 := hg 2 ⟨ "Recv", 3, 2, false, "", "", 16⟩ rfl
  have h3 := hg 3 ⟨ "To", 3, 3, false, "", "", 24⟩ rfl
  have h4 := hg 4 ⟨ "Amount", 24, 4, false, "", "", 32⟩ rfl
  have h5 := hg 5 ⟨ "Id", 9, 8, false, "", "", 64⟩ rfl
  dsimp only at h0 h1 h2 h3 h4 h5
  rw [Try.cellsInt] at h0 h1 h2 h3
  rw [Try.cells24] at h4
  rw [Try.cellsStr] at h5
  simp only [List.drop_succ_cons, List.drop_zero, List.take_succ_cons, List.take_zero, List.getElem?_cons_zero, List.getElem?_cons_succ] at h0 h1 h2 h3 h4 h5
  obtain ⟨z0, e0, _, _⟩ := DataW.trod_int Try.underlying3 h0
  obtain ⟨z1, e1, _, _⟩ := DataW.trod_int Try.underlying3 h1
  obtain ⟨z2, e2, _, _⟩ := DataW.trod_int Try.underlying3 h2
  obtain ⟨z3, e3, _, _⟩ := DataW.trod_int Try.underlying3 h3
  obtain ⟨a0, a1, a2, a3, f0, f1, f2, f3, hk⟩ := trod_wide h4
  obtain ⟨s5, e5, _, _⟩ := DataW.trod_string Try.underlying9 h5
  simp at e0 e1 e2 e3 e5
  subst e0 e1 e2 e3 f0 f1 f2 f3 e5
  exact ⟨⟨z0, z1, z2, z3, a0, a1, a2, a3, s5⟩, rfl, ⟨hk⟩⟩
set_option maxRecDepth 100000 in
theorem agg8_of {v : Value} {w : World} {r : Reach} {b0 t : Nat} {fs : Array Field} (hu : Try.prog.underlying t = some (.struct fs)) (hv : Value.okWide Try.prog w r b0 t v) : ∃ cs, v = .agg cs := by
  obtain ⟨cs, rfl, _⟩ : ∃ cs, v = .agg cs ∧ cs.size = Try.prog.cellsOf t ∧ Row.okWide Try.prog w r b0 t cs := by
    simpa [Value.okWide, hu] using hv
  exact ⟨cs, rfl⟩
set_option maxRecDepth 100000 in
theorem open_ask {H : Type} {enc : TypeId × Value → H} {r : Reach} {w : World} {b0 base : Nat} {spare : Nat → Bool} {held : Bool} {v : Value} {d : DataW H} {p : List MemPlace}
    (hv : Value.okWide Try.prog w r b0 26 v) (h : DataW.Trod enc Try.prog w base spare held 26 v d p) :
    ∃ a : Ak, v = akv a ∧ OkA a := by
  obtain ⟨cs, rfl⟩ := agg8_of Try.underlying26 hv
  obtain ⟨fuel, hf⟩ := h
  obtain ⟨a, hc, h1⟩ := trod_ask hf
  refine ⟨a, ?_, h1⟩
  have : cs.toList = akc a := hc
  rw [show cs = (akc a).toArray from by rw [← this]]
end Go.Proofs.Ytbjpifcgnombaaa
