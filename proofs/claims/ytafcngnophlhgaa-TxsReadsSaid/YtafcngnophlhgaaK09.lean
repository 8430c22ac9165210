/-
  '==' of two transactions is that of their things.
  There is no kind 9.
  'string(b)'; the octets of a writer by the reference.
  What all readings of arguments share.
  A slice of octets among the arguments.
  A wide number among the arguments is four words.
  Sizes within an argument.
  A transfer, and a side's data, among the arguments.
  A transaction among the arguments.
  What digits of 16 bits come to, word by word.
  The reference's Made: a wide number of digits, or none.
  The reference's Unwide: sixteen digits of two octets, made a wide number.
  The reference's reader of fields.
-/
import Derived.Laws.StructEq
import Derived.Outline
import Derived.Test.YtafcngnophlhgaaRows
import Derived.ProofKit
import Derived.OpenShut
import Derived.Laws.IdiomArrays
import Derived.Lib.SmallJoins
import Derived.Below
import Derived.Deep.Slices
import Derived.SizedLaws
import Derived.Carry
import Derived.ChangeMaps5
import Derived.JoinedCond
import Derived.Deep.Fields
import Derived.Deep.RegionHeld3
import Derived.StillTailTactics
import Derived.Test.YtafcngnophlhgaaK08
namespace Go.Proofs.Ytafcngnophlhgaa
open Go.RowKit Go.Shelf

theorem eqF_cons {P : Program} {d : Nat} {xs ys : Array Value} {f : Field} {fs : List Field} {a b : Value} {r s : Bool} {w : World} (hn : f.name ≠ "_") (ha : (part f.type xs f.offset).run P w = .ok a w) (hb : (part f.type ys f.offset).run P w = .ok b w)
    (hr : (Op.equalIn d f.type a b).run P w = .ok r w) (h : (Op.eqFields d xs ys fs).run P w = .ok s w) : (Op.eqFields d xs ys (f :: fs)).run P w = .ok (r && s) w := by
  simp only [Op.eqFields, if_pos hn, Sem.run_bind, ha, hb, hr, Result.andThen_ok]
  cases r
  · simp
  · simpa using h
theorem eqF_nil {P : Program} {d : Nat} {xs ys : Array Value} {w : World} : (Op.eqFields d xs ys []).run P w = .ok true w := rfl
def eqI (a b : Trf) : Bool := (a.us == b.us) && ((a.rt.toList == b.rt.toList) && ((a.ro == b.ro) && ((a.se == b.se) && ((a.re == b.re) && ((a.to == b.to) && ((a.id.toList == b.id.toList) && true))))))
def eqV (a b : Sid) : Bool := wEq (a.a0 : Nat) (a.a1 : Nat) (a.a2 : Nat) (a.a3 : Nat) (b.a0 : Nat) (b.a1 : Nat) (b.a2 : Nat) (b.a3 : Nat) && ((a.x == b.x) && true)
def eqT (a b : Tr) : Bool :=
  (a.fr == b.fr) && ((a.no == b.no) && ((a.kd == b.kd) && ((a.az == b.az) && (wEq (a.a0 : Nat) (a.a1 : Nat) (a.a2 : Nat) (a.a3 : Nat) (b.a0 : Nat) (b.a1 : Nat) (b.a2 : Nat) (b.a3 : Nat) && (eqI a.iv b.iv && (eqV a.vr b.vr && (wEq (a.f0 : Nat) (a.f1 : Nat) (a.f2 : Nat) (a.f3 : Nat) (b.f0 : Nat) (b.f1 : Nat) (b.f2 : Nat) (b.f3 : Nat) && ((a.sg.toList == b.sg.toList) && true))))))))
theorem eqI_refl (a : Trf) : eqI a a = true := by simp [eqI]
theorem eqV_refl (a : Sid) : eqV a a = true := by simp [eqV, wEq_refl]
theorem eqT_refl (a : Tr) : eqT a a = true := by simp [eqT, wEq_refl, eqI_refl, eqV_refl]
theorem part_int (cs : Array Value) (o : Nat) (v : Value) (h : cs[o]? = some v) (w : World) : (part 3 cs o).run Try.prog w = .ok v w := by
  simp [part, isAgg, run_underlying Try.underlying3, h, go_sem]
theorem part_str (cs : Array Value) (o : Nat) (v : Value) (h : cs[o]? = some v) (w : World) : (part 9 cs o).run Try.prog w = .ok v w := by
  simp [part, isAgg, run_underlying Try.underlying9, h, go_sem]
theorem run_eqI (d : Nat) (a b : Trf) (w : World) : (Op.equalIn (d + 2) 26 (ivv a) (ivv b)).run Try.prog w = .ok (eqI a b) w := by
  rw [run_equalIn_struct w (d + 1) 26 _ _ (by kernel_rfl) (by kernel_rfl)]
  simp only [Program.fieldsOf, Try.underlying26]
  have hi : ∀ x y : Int, (Op.equalIn (d + 1) 3 (.int .i64 x) (.int .i64 y)).run Try.prog w = .ok (x == y) w := fun x y => run_equalIn_int w d 3 .i64 .i64 x y Try.underlying3
  have hs : ∀ x y : ByteArray, (Op.equalIn (d + 1) 9 (.string x) (.string y)).run Try.prog w = .ok (x.toList == y.toList) w := fun x y => run_equalIn_string w d 9 x y Try.underlying9
  refine eqF_cons (by decide) (part_int _ _ _ rfl w) (part_int _ _ _ rfl w) (hi _ _) ?_
  refine eqF_cons (by decide) (part_str _ _ _ rfl w) (part_str _ _ _ rfl w) (hs _ _) ?_
  refine eqF_cons (by decide) (part_int _ _ _ rfl w) (part_int _ _ _ rfl w) (hi _ _) ?_
  refine eqF_cons (by decide) (part_int _ _ _ rfl w) (part_int _ _ _ rfl w) (hi _ _) ?_
  refine eqF_cons (by decide) (part_int _ _ _ rfl w) (part_int _ _ _ rfl w) (hi _ _) ?_
  refine eqF_cons (by decide) (part_int _ _ _ rfl w) (part_int _ _ _ rfl w) (hi _ _) ?_
  refine eqF_cons (by decide) (part_str _ _ _ rfl w) (part_str _ _ _ rfl w) (hs _ _) ?_
  exact eqF_nil
theorem part_agg (ty : TypeId) (d : TypeDesc) (hu : Try.prog.underlying ty = some d) (hd : (match d with | .struct _ | .array _ _ => true | _ => false) = true) (n : Nat) (hi : (Try.prog.info? ty).map (·.size) = some n) (cs ns : Array Value) (o : Nat) (h : cs.extract o (o + n) = ns) (w : World) :
    (part ty cs o).run Try.prog w = .ok (.agg ns) w := by
  cases hq : Try.prog.info? ty with
  | none => simp [hq] at hi
  | some i =>
    have hs : i.size = n := by simpa [hq] using hi
    have hagg : (isAgg ty).run Try.prog w = .ok true w := by
      unfold isAgg
      rw [Sem.run_bind, run_underlying hu w]
      cases d <;> simp_all
    simp [part, Sem.run_bind, hagg, sizeOf, typeInfo, hq, hs, h]
theorem run_eqV (d : Nat) (a b : Sid) (w : World) : (Op.equalIn (d + 3) 28 (svv a) (svv b)).run Try.prog w = .ok (eqV a b) w := by
  rw [run_equalIn_struct w (d + 2) 28 _ _ (by kernel_rfl) (by kernel_rfl)]
  simp only [Program.fieldsOf, Try.underlying28]
  have hi : ∀ x y : Int, (Op.equalIn (d + 2) 3 (.int .i64 x) (.int .i64 y)).run Try.prog w = .ok (x == y) w := fun x y => run_equalIn_int w (d + 1) 3 .i64 .i64 x y Try.underlying3
  refine eqF_cons (by decide) (part_agg _ _ Try.underlying24 rfl 4 (by kernel_rfl) _ _ _ rfl w) (part_agg _ _ Try.underlying24 rfl 4 (by kernel_rfl) _ _ _ rfl w) (run_equalIn_wide' d _ _ _ _ _ _ _ _ w) ?_
  refine eqF_cons (by decide) (part_int _ _ _ rfl w) (part_int _ _ _ rfl w) (hi _ _) ?_
  exact eqF_nil
theorem run_eqT' (d : Nat) (a b : Tr) (w : World) : (Op.equalIn (d + 4) 30 (txv a) (txv b)).run Try.prog w = .ok (eqT a b) w := by
  rw [run_equalIn_struct w (d + 3) 30 _ _ (by kernel_rfl) (by kernel_rfl)]
  simp only [Program.fieldsOf, Try.underlying30]
  have hi : ∀ x y : Int, (Op.equalIn (d + 3) 3 (.int .i64 x) (.int .i64 y)).run Try.prog w = .ok (x == y) w := fun x y => run_equalIn_int w (d + 2) 3 .i64 .i64 x y Try.underlying3
  have hs : ∀ x y : ByteArray, (Op.equalIn (d + 3) 9 (.string x) (.string y)).run Try.prog w = .ok (x.toList == y.toList) w := fun x y => run_equalIn_string w (d + 2) 9 x y Try.underlying9
  refine eqF_cons (by decide) (part_int _ _ _ rfl w) (part_int _ _ _ rfl w) (hi _ _) ?_
  refine eqF_cons (by decide) (part_int _ _ _ rfl w) (part_int _ _ _ rfl w) (hi _ _) ?_
  refine eqF_cons (by decide) (part_int _ _ _ rfl w) (part_int _ _ _ rfl w) (hi _ _) ?_
  refine eqF_cons (by decide) (part_int _ _ _ rfl w) (part_int _ _ _ rfl w) (hi _ _) ?_
  refine eqF_cons (by decide) (part_agg _ _ Try.underlying24 rfl 4 (by kernel_rfl) _ _ _ rfl w) (part_agg _ _ Try.underlying24 rfl 4 (by kernel_rfl) _ _ _ rfl w) (run_equalIn_wide' (d + 1) _ _ _ _ _ _ _ _ w) ?_
  refine eqF_cons (by decide) (part_agg _ _ Try.underlying26 rfl 7 (by kernel_rfl) _ _ _ rfl w) (part_agg _ _ Try.underlying26 rfl 7 (by kernel_rfl) _ _ _ rfl w) (run_eqI (d + 1) a.iv b.iv w) ?_
  refine eqF_cons (by decide) (part_agg _ _ Try.underlying28 rfl 5 (by kernel_rfl) _ _ _ rfl w) (part_agg _ _ Try.underlying28 rfl 5 (by kernel_rfl) _ _ _ rfl w) (run_eqV d a.vr b.vr w) ?_
  refine eqF_cons (by decide) (part_agg _ _ Try.underlying24 rfl 4 (by kernel_rfl) _ _ _ rfl w) (part_agg _ _ Try.underlying24 rfl 4 (by kernel_rfl) _ _ _ rfl w) (run_equalIn_wide' (d + 1) _ _ _ _ _ _ _ _ w) ?_
  refine eqF_cons (by decide) (part_str _ _ _ rfl w) (part_str _ _ _ rfl w) (hs _ _) ?_
  exact eqF_nil
/-- As the walk meets it. -/
theorem run_eqT (a b : Tr) (w : World) : (Op.equalIn 10000 30 (txv a) (txv b)).run Try.prog w = .ok (eqT a b) w := run_eqT' 9996 a b w

/-- '==', '!=', carried out. -/
theorem exec_eqT {ρ : Operand → Value} {o : Oper} (x y : Operand) (z : TypeId) (ho : o.op = .binOp .eql 30 x y z) (a b : Tr) (hx : ρ x = txv a) (hy : ρ y = txv b) (w : World) : (execOp ρ o).run Try.prog w = .ok (.value (.bool (eqT a b))) w := by
  unfold execOp
  simp only [ho, hx, hy, Sem.run_bind, run_eqGuard_agg w .eql 30 x y _ _ (show Try.prog.eqGuardType Try.prog.depth 30 = false by kernel_rfl), run_eql_struct, run_eqT, Result.andThen_ok]
  rfl
theorem exec_neT {ρ : Operand → Value} {o : Oper} (x y : Operand) (z : TypeId) (ho : o.op = .binOp .neq 30 x y z) (a b : Tr) (hx : ρ x = txv a) (hy : ρ y = txv b) (w : World) : (execOp ρ o).run Try.prog w = .ok (.value (.bool (!eqT a b))) w := by
  unfold execOp
  simp only [ho, hx, hy, Sem.run_bind, run_eqGuard_agg w .neq 30 x y _ _ (show Try.prog.eqGuardType Try.prog.depth 30 = false by kernel_rfl), run_neq_struct, run_eqT, Result.andThen_ok]
  rfl
theorem exec_eqS {ρ : Operand → Value} {o : Oper} (x y : Operand) (z : TypeId) (ho : o.op = .binOp .eql 30 x y z) (a : Tr) (hx : ρ x = txv a) (hy : ρ y = txv a) (w : World) : (execOp ρ o).run Try.prog w = .ok (.value (.bool true)) w := by
  rw [exec_eqT x y z ho a a hx hy w, eqT_refl]
theorem exec_neS {ρ : Operand → Value} {o : Oper} (x y : Operand) (z : TypeId) (ho : o.op = .binOp .neq 30 x y z) (a : Tr) (hx : ρ x = txv a) (hy : ρ y = txv a) (w : World) : (execOp ρ o).run Try.prog w = .ok (.value (.bool false)) w := by
  rw [exec_neT x y z ho a a hx hy w, eqT_refl]; rfl
set_option maxRecDepth 100000 in
theorem txsSame_any (a b : Tr) (w : World) :
    Calls Try.prog 12 #[txv a, txv b] w fun e W' => e = .returned (.bool (eqT a b)) ∧ Below w.heap.size w W' := by
  have kA := (Blk.new w 30 (txc a)).alloc (.cells (txc b).toArray 30)
  have kB : Blk ((w.alloc (.cells (txc a).toArray 30)).alloc (.cells (txc b).toArray 30)) (w.heap.size + 1) 30 (txc b) := Blk.new' (by simp)
  have hB := chainA (chain0 w (.cells (txc a).toArray 30)) (.cells (txc b).toArray 30)
  have hq := fun W => run_eqT a b W
  go_enter Try.func12, Try.ntmps12
  go_wp2_with (first
    | (refine wpList_loadIf 30 (.tmp 2) rfl _ rfl rfl (txv a) (load_tx kA) ?_)
    | (refine wpList_loadIf 30 (.tmp 3) rfl _ rfl rfl (txv b) (load_tx kB) ?_))
  go_ret
  exact ⟨rfl, hB⟩
end Go.Proofs.Ytafcngnophlhgaa

namespace Go.Proofs.Ytafcngnophlhgaa
open Go.RowKit Go.Shelf

theorem bslU {l : List UInt8} {W W' : World} {sv : Value} (h : BSl 0 W.heap.size W sv l) (hb : Below W.heap.size W W') : BSl 0 W'.heap.size W' sv l := (h.below hb (Nat.le_refl _)).mono (Nat.le_refl _) hb.size
def t9 : Tr := ⟨0, 0, 9, 0, 0, 0, 0, 0, noI, noV, 0, 0, 0, 0, emptyB⟩
def t1 : Tr := ⟨0, 0, 1, 0, 1, 0, 0, 0, noI, noV, 0, 0, 0, 0, emptyB⟩
theorem errT_t9 : errT t9 = 12 := by decide
theorem errT_t1 : errT t1 = 0 := by decide
theorem txsNum_any (x : Int) (w : World) : Calls Try.prog 10 #[.int .i64 x] w fun e W' => e = .returned (.int .i64 x) ∧ w = W' := by
  go_enter Try.func10, Try.ntmps10
  go_wp2
  go_ret
  exact ⟨rfl, rfl⟩
set_option maxRecDepth 100000 in
set_option maxHeartbeats 2000000 in
theorem txsAlive_any (w : World) : Calls Try.prog 13 #[] w fun e W' => e = .returned (.bool true) ∧ Below w.heap.size w W' := by
  have H9 : Hid (∀ W, Calls Try.prog 11 #[txv t9] W fun e W' => e = .returned (.int .i64 12) ∧ Below W.heap.size W W') := Lib.hid fun W => (txsCheck_any t9 W).mono (by rintro e W' ⟨rfl, h⟩; exact ⟨by rw [errT_t9], h⟩)
  have H1 : Hid (∀ W, Calls Try.prog 11 #[txv t1] W fun e W' => e = .returned (.int .i64 0) ∧ Below W.heap.size W W') := Lib.hid fun W => (txsCheck_any t1 W).mono (by rintro e W' ⟨rfl, h⟩; exact ⟨by rw [errT_t1], h⟩)
  go_enter Try.func13, Try.ntmps13
  go_wp2_with (first
    | (go_at_call 11; refine (H9.out _).mono ?_; clear H9; rintro e w1 ⟨rfl, hb1⟩)
    | (go_at_call 11; refine (H1.out _).mono ?_; clear H1; rintro e w2 ⟨rfl, hb2⟩))
  go_ret
  exact ⟨rfl, chain hb1 hb2⟩
end Go.Proofs.Ytafcngnophlhgaa

namespace Go.Proofs.Ytafcngnophlhgaa
open Go.RowKit Go.Shelf

/-- 'string(b)', at this seat. -/
theorem str_of (W : World) {lo hi : Nat} {sv : Value} {l : List UInt8} (h : BSl lo hi W sv l) : (convert 31 9 sv).run Try.prog W = .ok (.string ⟨l.toArray⟩) W :=
  run_string (P := Try.prog) 31 5 9 Try.underlying31 Try.underlying5 Try.underlying9 W h
theorem fieldB (W : World) (a : Option Addr) (m c : Nat) (x : Int) : (Instr.field 37 (.agg #[.slice a m c, .int .i64 x]) 0).run Try.prog W = .ok (.slice a m c) W := by
  simp [Instr.field, asAgg, run_underlying Try.underlying37, go_sem]
end Go.Proofs.Ytafcngnophlhgaa

namespace Go.Proofs.Ytafcngnophlhgaa
open Go.ChangeShapes Go.WideShapes Go.ChangeAt Go.RowKit

theorem Try.own : ownKnob Try.prog.godebug = none := by kernel_rfl
theorem Try.laidOut : laidOutB Try.prog = true := by kernel_rfl
theorem wf_i64 {x : Int} (h : (Lit.int .i64 x).wf = true) : -9223372036854775808 ≤ x ∧ x ≤ 9223372036854775807 := by
  simp [Lit.wf, IntKind.min, IntKind.max, IntKind.bits, IntKind.signed] at h
  omega

theorem list_of {α : Type} {Q : Nat → α → Prop} : ∀ {n : Nat}, (∀ i, i < n → ∃ x, Q i x) → ∃ l : List α, l.length = n ∧ ∀ k x, l[k]? = some x → Q k x
  | 0, _ => ⟨[], rfl, fun k x h => by simp at h⟩
  | n + 1, h => by
    obtain ⟨l, hl, hq⟩ := list_of (n := n) (fun i hi => h i (by omega))
    obtain ⟨y, hy⟩ := h n (by omega)
    refine ⟨l ++ [y], by simp [hl], fun k x hx => ?_⟩
    by_cases hk : k < n
    · rw [List.getElem?_append_left (by omega)] at hx
      exact hq k x hx
    · rw [List.getElem?_append_right (by omega)] at hx
      have : k = n := by
        have := (List.getElem?_eq_some_iff.1 hx).1
        simp at this
        omega
      subst this
      simp [hl] at hx
      rw [← hx]; exact hy

theorem add_plain (b off q : Nat) : (⟨b, off, none⟩ : Addr).add q = ⟨b, off + q, none⟩ := by cases q <;> simp [Addr.add]

end Go.Proofs.Ytafcngnophlhgaa

namespace Go.Proofs.Ytafcngnophlhgaa
open Go.ChangeShapes Go.WideShapes Go.ChangeAt Go.RowKit Go.Deep

theorem Try.bytes8 : Try.prog.bytesOf 5 = 1 := by kernel_rfl
theorem Try.cells8 : Try.prog.cellsOf 5 = 1 := by kernel_rfl

theorem wf_u8 {x : Int} (h : (Lit.int .u8 x).wf = true) : ∃ b : UInt8, x = (b.toNat : Int) := by
  have h' : 0 ≤ x ∧ x < 256 := by
    simp [Lit.wf, IntKind.min, IntKind.max, IntKind.bits, IntKind.signed] at h
    omega
  refine ⟨UInt8.ofNat x.toNat, ?_⟩
  rw [UInt8.toNat_ofNat']
  omega

theorem open_bytes {H : Type} {enc : TypeId × Value → H} {W : World} {base : Nat} {spare : Nat → Bool} {held : Bool} {a : Option Addr} {len cap : Nat} {d : DataW H} {p : List MemPlace}
    (h : DataW.Trod enc Try.prog W base spare held 31 (.slice a len cap) d p) : ∃ zs : List UInt8, len = zs.length ∧ BSl 0 W.heap.size W (.slice a len cap) zs ∧ (zs = [] ∨ ∃ el sp, d = .slice el sp ∧ el.length = zs.length) := by
  obtain ⟨fuel, hf⟩ := h
  rcases open_slice1 Try.underlying31 Try.cells8 hf with h0 | ⟨ad, l, c, m, n, V, D, Pl, hcs, hb, hl, hm, hmm, hx, hi⟩
  · obtain ⟨hcs, _⟩ := h0
    simp [Value.cells] at hcs
    obtain ⟨rfl, rfl, rfl⟩ := hcs
    exact ⟨[], rfl, ⟨none, 0, rfl, Nat.le_refl _, .inl rfl⟩, .inl rfl⟩
  · simp [Value.cells] at hcs
    obtain ⟨rfl, rfl, rfl⟩ := hcs
    have hlm : len ≤ m := by rw [hmm]; split <;> omega
    have key : ∀ i, i < len → ∃ x : UInt8, W.cell? (ad.add i) = some (bv x) := fun i hil => by
      obtain ⟨hc, ht⟩ := hi i (by omega)
      obtain ⟨x, e, _, w0⟩ := DataW.trod_int Try.underlying5 ht
      simp at e
      obtain ⟨b, rfl⟩ := wf_u8 w0
      exact ⟨b, by rw [hc, e]⟩
    obtain ⟨zs, hz, hq⟩ := list_of key
    refine ⟨zs, hz.symm, ⟨some ad, cap, by rw [hz], by rw [hz]; exact hl, ?_⟩, .inr ⟨_, _, (Prod.mk.inj hx).1, by simp [hz]⟩⟩
    by_cases hlen : len = 0
    · exact .inl (List.length_eq_zero_iff.1 (by omega))
    · obtain ⟨x, h0⟩ := key 0 (by omega)
      obtain ⟨b, off, sp⟩ := ad
      have hsp : sp = none := by
        cases sp with
        | none => rfl
        | some _ => simp [Addr.add, World.cell?] at h0; split at h0 <;> simp at h0
      subst hsp
      refine .inr ⟨b, off, rfl, Nat.zero_le _, World.block_lt_of_cell? W _ h0, fun k x hx => ?_⟩
      have := hq k x hx
      rwa [add_plain] at this

end Go.Proofs.Ytafcngnophlhgaa

namespace Go.Proofs.Ytafcngnophlhgaa
open Go.ChangeShapes Go.WideShapes Go.ChangeAt Go.RowKit

theorem Try.cells24 : Try.prog.cellsOf 24 = 4 := by kernel_rfl
theorem Try.cells22 : Try.prog.cellsOf 22 = 1 := by kernel_rfl

theorem wf_u64 {x : Int} (h : (Lit.int .u64 x).wf = true) : ∃ n : Nat, x = (n : Int) ∧ n < M := by
  have h' : 0 ≤ x ∧ x < 18446744073709551616 := by
    simp [Lit.wf, IntKind.min, IntKind.max, IntKind.bits, IntKind.signed] at h
    omega
  obtain ⟨n, rfl⟩ := Int.eq_ofNat_of_zero_le h'.1
  exact ⟨n, rfl, by unfold M; omega⟩

set_option maxRecDepth 100000 in
theorem open_wide {H : Type} {enc : TypeId × Value → H} {r : Reach} {w : World} {b0 base : Nat} {spare : Nat → Bool} {held : Bool} {v : Value} {d : DataW H} {p : List MemPlace}
    (hv : Value.okWide Try.prog w r b0 24 v) (h : DataW.Trod enc Try.prog w base spare held 24 v d p) : ∃ a0 a1 a2 a3 : Nat, Ok4 a0 a1 a2 a3 ∧ v = wv a0 a1 a2 a3 := by
  obtain ⟨cs, rfl, hsz, _⟩ : ∃ cs, v = .agg cs ∧ cs.size = Try.prog.cellsOf 24 ∧ Row.okWide Try.prog w r b0 24 cs := by
    simpa [Value.okWide, Try.underlying24] using hv
  rw [Try.cells24] at hsz
  obtain ⟨c0, c1, c2, c3, rfl⟩ := Joins.array4 hsz
  obtain ⟨fuel, hf⟩ := h
  obtain ⟨y0, y1, y2, y3, m, hx, hy0, hy1, hy2, hy3⟩ := trod_array4 Try.underlying24 Try.cells22 hf
  obtain ⟨x0, e0, rfl, w0⟩ := DataW.trod_int Try.underlying22 hy0
  obtain ⟨x1, e1, rfl, w1⟩ := DataW.trod_int Try.underlying22 hy1
  obtain ⟨x2, e2, rfl, w2⟩ := DataW.trod_int Try.underlying22 hy2
  obtain ⟨x3, e3, rfl, w3⟩ := DataW.trod_int Try.underlying22 hy3
  simp at e0 e1 e2 e3
  subst e0 e1 e2 e3
  obtain ⟨a0, rfl, l0⟩ := wf_u64 w0
  obtain ⟨a1, rfl, l1⟩ := wf_u64 w1
  obtain ⟨a2, rfl, l2⟩ := wf_u64 w2
  obtain ⟨a3, rfl, l3⟩ := wf_u64 w3
  exact ⟨a0, a1, a2, a3, ⟨l0, l1, l2, l3⟩, rfl⟩

end Go.Proofs.Ytafcngnophlhgaa

namespace Go.Proofs.Ytafcngnophlhgaa
open Go.ChangeShapes Go.WideShapes Go.ChangeAt Go.RowKit Go.Deep

theorem sized_in {H : Type} {P : Program} {ts : List TypeId} {ds : List (DataW H)} (h : (DataW.weightsEach P ts ds).all (· ≤ reachBytes) = true) {j : Nat} {t : TypeId} {d : DataW H} (ht : ts[j]? = some t) (hd : ds[j]? = some d) (n : Nat) (hn : n ∈ d.weights P t) : n ≤ 140737488351232 := by
  have := List.all_eq_true.1 h _ (DataW.weights_mem_each ht hd n hn)
  have h2 := of_decide_eq_true this
  simp only [reachBytes] at h2
  exact h2
theorem weightsAll_mem {H : Type} {P : Program} {e : TypeId} : ∀ {l : List (DataW H)} {d : DataW H}, d ∈ l → ∀ n ∈ d.weights P e, n ∈ DataW.weightsAll P e l
  | [], _, h, _, _ => by cases h
  | x :: l, d, h, n, hn => by
    simp only [DataW.weightsAll, List.mem_append]
    rcases List.mem_cons.1 h with rfl | h
    · exact .inl hn
    · exact .inr (weightsAll_mem h n hn)
end Go.Proofs.Ytafcngnophlhgaa

namespace Go.Proofs.Ytafcngnophlhgaa
open Go.ChangeShapes Go.WideShapes Go.ChangeAt Go.RowKit Go.Deep

theorem Try.cellsInv : Try.prog.cellsOf 26 = 7 := by kernel_rfl
theorem Try.cellsVar : Try.prog.cellsOf 28 = 5 := by kernel_rfl
theorem Try.cellsInt : Try.prog.cellsOf 3 = 1 := by kernel_rfl
theorem Try.cellsStr : Try.prog.cellsOf 9 = 1 := by kernel_rfl
set_option maxRecDepth 100000 in
theorem trod_inv {H : Type} {enc : TypeId × Value → H} {w : World} {base : Nat} {spare : Nat → Bool} {held : Bool} {fuel : Nat} {cs : List Value} {x : DataW H × List MemPlace}
    (h : DataW.trod enc Try.prog w base spare held fuel 26 cs = some x) :
    ∃ i : Trf, cs = ivc i ∧ i.rt.data.toList.length ∈ x.1.weights Try.prog 26 ∧ i.id.data.toList.length ∈ x.1.weights Try.prog 26 := by
  obtain ⟨xs, n, _, hx, hcl, hlen, hg⟩ := DataW.trod_struct Try.underlying26 h
  rw [Try.cellsInv] at hcl
  match cs, hcl with
  | [c0, c1, c2, c3, c4, c5, c6], _ =>
  match xs, hlen with
  | [y0, y1, y2, y3, y4, y5, y6], _ =>
  have h0 := hg 0 ⟨ "User", 3, 0, false, "", "", 0⟩ rfl
  have h1 := hg 1 ⟨ "Root", 9, 1, false, "", "", 8⟩ rfl
  have h2 := hg 2 ⟨ "Router", 3, 2, false, "", "", 24⟩ rfl
  have h3 := hg 3 ⟨ "Send", 3, 3, false, "", "", 32⟩ rfl
  have h4 := hg 4 ⟨ "Recv", 3, 4, false, "", "", 40⟩ rfl
  have h5 := hg 5 ⟨ "To", 3, 5, false, "", "", 48⟩ rfl
  have h6 := hg 6 ⟨ "Id", 9, 6, false, "", "", 56⟩ rfl
  dsimp only at h0 h1 h2 h3 h4 h5 h6
  rw [Try.cellsInt] at h0 h2 h3 h4 h5
  rw [Try.cellsStr] at h1 h6
  simp only [List.drop_succ_cons, List.drop_zero, List.take_succ_cons, List.take_zero, List.getElem?_cons_zero, List.getElem?_cons_succ] at h0 h1 h2 h3 h4 h5 h6
  obtain ⟨z0, e0, hx0, wf0⟩ := DataW.trod_int Try.underlying3 h0
  obtain ⟨s1, e1, hx1, _⟩ := DataW.trod_string Try.underlying9 h1
  obtain ⟨z2, e2, hx2, wf2⟩ := DataW.trod_int Try.underlying3 h2
  obtain ⟨z3, e3, hx3, wf3⟩ := DataW.trod_int Try.underlying3 h3
  obtain ⟨z4, e4, hx4, wf4⟩ := DataW.trod_int Try.underlying3 h4
  obtain ⟨z5, e5, hx5, wf5⟩ := DataW.trod_int Try.underlying3 h5
  obtain ⟨s6, e6, hx6, _⟩ := DataW.trod_string Try.underlying9 h6
  simp at e0 e1 e2 e3 e4 e5 e6
  subst e0 e1 e2 e3 e4 e5 e6
  refine ⟨⟨z0, s1, z2, z3, z4, z5, s6⟩, rfl, ?_, ?_⟩
  · rw [hx]
    have : y1.1 = .lit (.string s1.data.toList) := by rw [hx1]
    simp [DataW.weights, DataW.weightsEach, Try.underlying26, this]
  · rw [hx]
    have : y6.1 = .lit (.string s6.data.toList) := by rw [hx6]
    simp [DataW.weights, DataW.weightsEach, Try.underlying26, this]
set_option maxRecDepth 100000 in
theorem trod_var {H : Type} {enc : TypeId × Value → H} {w : World} {base : Nat} {spare : Nat → Bool} {held : Bool} {fuel : Nat} {cs : List Value} {x : DataW H × List MemPlace}
    (h : DataW.trod enc Try.prog w base spare held fuel 28 cs = some x) :
    ∃ v : Sid, cs = svc v ∧ Ok4 v.a0 v.a1 v.a2 v.a3 := by
  obtain ⟨xs, n, _, hx, hcl, hlen, hg⟩ := DataW.trod_struct Try.underlying28 h
  rw [Try.cellsVar] at hcl
  match cs, hcl with
  | [c0, c1, c2, c3, c4], _ =>
  match xs, hlen with
  | [y0, y1], _ =>
  have h0 := hg 0 ⟨ "Amount", 24, 0, false, "", "", 0⟩ rfl
  have h1 := hg 1 ⟨ "Expiry", 3, 4, false, "", "", 32⟩ rfl
  dsimp only at h0 h1
  rw [Try.cells24] at h0
  rw [Try.cellsInt] at h1
  simp only [List.drop_succ_cons, List.drop_zero, List.take_succ_cons, List.take_zero, List.getElem?_cons_zero, List.getElem?_cons_succ] at h0 h1
  obtain ⟨u0, u1, u2, u3, m, hx3, g0, g1, g2, g3⟩ := trod_array4 Try.underlying24 Try.cells22 h0
  obtain ⟨v0, k0, _, wg0⟩ := DataW.trod_int Try.underlying22 g0
  obtain ⟨v1, k1, _, wg1⟩ := DataW.trod_int Try.underlying22 g1
  obtain ⟨v2, k2, _, wg2⟩ := DataW.trod_int Try.underlying22 g2
  obtain ⟨v3, k3, _, wg3⟩ := DataW.trod_int Try.underlying22 g3
  obtain ⟨z1, e1, hx1, wf1⟩ := DataW.trod_int Try.underlying3 h1
  obtain ⟨a0, rfl, q0⟩ := wf_u64 wg0
  obtain ⟨a1, rfl, q1⟩ := wf_u64 wg1
  obtain ⟨a2, rfl, q2⟩ := wf_u64 wg2
  obtain ⟨a3, rfl, q3⟩ := wf_u64 wg3
  simp at e1 k0 k1 k2 k3
  subst e1 k0 k1 k2 k3
  exact ⟨⟨a0, a1, a2, a3, z1⟩, rfl, ⟨q0, q1, q2, q3⟩⟩

set_option maxRecDepth 100000 in
theorem agg_of {v : Value} {w : World} {r : Reach} {b0 t : Nat} {fs : Array Field} (hu : Try.prog.underlying t = some (.struct fs)) (hv : Value.okWide Try.prog w r b0 t v) : ∃ cs, v = .agg cs := by
  obtain ⟨cs, rfl, _⟩ : ∃ cs, v = .agg cs ∧ cs.size = Try.prog.cellsOf t ∧ Row.okWide Try.prog w r b0 t cs := by
    simpa [Value.okWide, hu] using hv
  exact ⟨cs, rfl⟩
set_option maxRecDepth 100000 in
theorem open_inv {H : Type} {enc : TypeId × Value → H} {r : Reach} {w : World} {b0 base : Nat} {spare : Nat → Bool} {held : Bool} {v : Value} {d : DataW H} {p : List MemPlace}
    (hv : Value.okWide Try.prog w r b0 26 v) (h : DataW.Trod enc Try.prog w base spare held 26 v d p) :
    ∃ i : Trf, v = ivv i ∧ i.rt.data.toList.length ∈ d.weights Try.prog 26 ∧ i.id.data.toList.length ∈ d.weights Try.prog 26 := by
  obtain ⟨cs, rfl⟩ := agg_of Try.underlying26 hv
  obtain ⟨fuel, hf⟩ := h
  obtain ⟨i, hc, h1, h2⟩ := trod_inv hf
  refine ⟨i, ?_, h1, h2⟩
  have : cs.toList = ivc i := hc
  rw [show cs = (ivc i).toArray from by rw [← this]]
set_option maxRecDepth 100000 in
theorem open_var {H : Type} {enc : TypeId × Value → H} {r : Reach} {w : World} {b0 base : Nat} {spare : Nat → Bool} {held : Bool} {v : Value} {d : DataW H} {p : List MemPlace}
    (hv : Value.okWide Try.prog w r b0 28 v) (h : DataW.Trod enc Try.prog w base spare held 28 v d p) :
    ∃ x : Sid, v = svv x ∧ Ok4 x.a0 x.a1 x.a2 x.a3 := by
  obtain ⟨cs, rfl⟩ := agg_of Try.underlying28 hv
  obtain ⟨fuel, hf⟩ := h
  obtain ⟨x, hc, h1⟩ := trod_var hf
  refine ⟨x, ?_, h1⟩
  have : cs.toList = svc x := hc
  rw [show cs = (svc x).toArray from by rw [← this]]
end Go.Proofs.Ytafcngnophlhgaa

namespace Go.Proofs.Ytafcngnophlhgaa
open Go.ChangeShapes Go.WideShapes Go.ChangeAt Go.RowKit Go.Deep

theorem Try.cellsTx : Try.prog.cellsOf 30 = 25 := by kernel_rfl
theorem trod_wide4 {H : Type} {enc : TypeId × Value → H} {w : World} {base : Nat} {spare : Nat → Bool} {held : Bool} {fuel : Nat} {c0 c1 c2 c3 : Value} {x : DataW H × List MemPlace}
    (h : DataW.trod enc Try.prog w base spare held fuel 24 [c0, c1, c2, c3] = some x) :
    ∃ a0 a1 a2 a3 : Nat, c0 = .int .u64 (a0 : Int) ∧ c1 = .int .u64 (a1 : Int) ∧ c2 = .int .u64 (a2 : Int) ∧ c3 = .int .u64 (a3 : Int) ∧ Ok4 a0 a1 a2 a3 := by
  obtain ⟨u0, u1, u2, u3, m, hx3, g0, g1, g2, g3⟩ := trod_array4 Try.underlying24 Try.cells22 h
  obtain ⟨v0, k0, _, wg0⟩ := DataW.trod_int Try.underlying22 g0
  obtain ⟨v1, k1, _, wg1⟩ := DataW.trod_int Try.underlying22 g1
  obtain ⟨v2, k2, _, wg2⟩ := DataW.trod_int Try.underlying22 g2
  obtain ⟨v3, k3, _, wg3⟩ := DataW.trod_int Try.underlying22 g3
  obtain ⟨a0, rfl, q0⟩ := wf_u64 wg0
  obtain ⟨a1, rfl, q1⟩ := wf_u64 wg1
  obtain ⟨a2, rfl, q2⟩ := wf_u64 wg2
  obtain ⟨a3, rfl, q3⟩ := wf_u64 wg3
  simp at k0 k1 k2 k3
  exact ⟨a0, a1, a2, a3, k0, k1, k2, k3, ⟨q0, q1, q2, q3⟩⟩
set_option maxRecDepth 100000 in
set_option maxHeartbeats 1000000 in
theorem trod_tx {H : Type} {enc : TypeId × Value → H} {w : World} {base : Nat} {spare : Nat → Bool} {held : Bool} {fuel : Nat} {cs : List Value} {x : DataW H × List MemPlace}
    (h : DataW.trod enc Try.prog w base spare held fuel 30 cs = some x) :
    ∃ t : Tr, cs = txc t ∧ OkT t := by
  obtain ⟨xs, n, _, hx, hcl, hlen, hg⟩ := DataW.trod_struct Try.underlying30 h
  rw [Try.cellsTx] at hcl
  match cs, hcl with
  | [c0, c1, c2, c3, c4, c5, c6, c7, c8, c9, c10, c11, c12, c13, c14, c15, c16, c17, c18, c19, c20, c21, c22, c23, c24], _ =>
  match xs, hlen with
  | [y0, y1, y2, y3, y4, y5, y6, y7, y8], _ =>
  have h0 := hg 0 ⟨ "From", 3, 0, false, "", "", 0⟩ rfl
  have h1 := hg 1 ⟨ "Nonce", 3, 1, false, "", "", 8⟩ rfl
  have h2 := hg 2 ⟨ "Kind", 3, 2, false, "", "", 16⟩ rfl
  have h3 := hg 3 ⟨ "Asset", 3, 3, false, "", "", 24⟩ rfl
  have h4 := hg 4 ⟨ "Amount", 24, 4, false, "", "", 32⟩ rfl
  have h5 := hg 5 ⟨ "Inv", 26, 8, false, "", "", 64⟩ rfl
  have h6 := hg 6 ⟨ "Var", 28, 15, false, "", "", 136⟩ rfl
  have h7 := hg 7 ⟨ "Fee", 24, 20, false, "", "", 176⟩ rfl
  have h8 := hg 8 ⟨ "Sig", 9, 24, false, "", "", 208⟩ rfl
  dsimp only at h0 h1 h2 h3 h4 h5 h6 h7 h8
  rw [Try.cellsInt] at h0 h1 h2 h3
  rw [Try.cells24] at h4 h7
  rw [Try.cellsInv] at h5
  rw [Try.cellsVar] at h6
  rw [Try.cellsStr] at h8
  simp only [List.drop_succ_cons, List.drop_zero, List.take_succ_cons, List.take_zero, List.getElem?_cons_zero, List.getElem?_cons_succ] at h0 h1 h2 h3 h4 h5 h6 h7 h8
  obtain ⟨z0, e0, _, _⟩ := DataW.trod_int Try.underlying3 h0
  obtain ⟨z1, e1, _, _⟩ := DataW.trod_int Try.underlying3 h1
  obtain ⟨z2, e2, _, _⟩ := DataW.trod_int Try.underlying3 h2
  obtain ⟨z3, e3, _, _⟩ := DataW.trod_int Try.underlying3 h3
  obtain ⟨a0, a1, a2, a3, f0, f1, f2, f3, hk⟩ := trod_wide4 h4
  obtain ⟨i, hi, _, _⟩ := trod_inv h5
  obtain ⟨v, hv, hk2⟩ := trod_var h6
  obtain ⟨b0, b1, b2, b3, g0, g1, g2, g3, hk3⟩ := trod_wide4 h7
  obtain ⟨s8, e8, _, _⟩ := DataW.trod_string Try.underlying9 h8
  simp at e0 e1 e2 e3 e8
  simp only [ivc, List.cons.injEq, and_true] at hi
  simp only [svc, List.cons.injEq, and_true] at hv
  obtain ⟨q0, q1, q2, q3, q4, q5, q6⟩ := hi
  obtain ⟨r0, r1, r2, r3, r4⟩ := hv
  subst e0 e1 e2 e3 f0 f1 f2 f3 q0 q1 q2 q3 q4 q5 q6 r0 r1 r2 r3 r4 g0 g1 g2 g3 e8
  exact ⟨⟨z0, z1, z2, z3, a0, a1, a2, a3, i, v, b0, b1, b2, b3, s8⟩, rfl, ⟨hk, hk2, hk3⟩⟩
set_option maxRecDepth 100000 in
theorem open_tx {H : Type} {enc : TypeId × Value → H} {r : Reach} {w : World} {b0 base : Nat} {spare : Nat → Bool} {held : Bool} {v : Value} {d : DataW H} {p : List MemPlace}
    (hv : Value.okWide Try.prog w r b0 30 v) (h : DataW.Trod enc Try.prog w base spare held 30 v d p) :
    ∃ t : Tr, v = txv t ∧ OkT t := by
  obtain ⟨cs, rfl⟩ := agg_of Try.underlying30 hv
  obtain ⟨fuel, hf⟩ := h
  obtain ⟨t, hc, h1⟩ := trod_tx hf
  refine ⟨t, ?_, h1⟩
  have : cs.toList = txc t := hc
  rw [show cs = (txc t).toArray from by rw [← this]]
end Go.Proofs.Ytafcngnophlhgaa

namespace Go.Proofs.Ytafcngnophlhgaa
open Go.RowKit

/-- What the digits below place i come to, in word j. -/
def wdg (f : Nat → Nat) (i j : Nat) : Nat :=
  (if 4 * j < i then f (4 * j) else 0) + (if 4 * j + 1 < i then f (4 * j + 1) * 65536 else 0) + (if 4 * j + 2 < i then f (4 * j + 2) * 4294967296 else 0) + (if 4 * j + 3 < i then f (4 * j + 3) * 281474976710656 else 0)
def p16 : Nat → Nat | 0 => 1 | 1 => 65536 | 2 => 4294967296 | _ => 281474976710656

theorem p16_0 : p16 0 = 1 := rfl
theorem p16_1 : p16 1 = 65536 := rfl
theorem p16_2 : p16 2 = 4294967296 := rfl
theorem p16_3 : p16 3 = 281474976710656 := rfl
theorem wdg_zero (f : Nat → Nat) : wdg f 0 = fun _ => 0 := by funext j; simp [wdg]
theorem wdg_high (f : Nat → Nat) {i : Nat} (hi : 16 ≤ i) : ws (wdg f (i + 1)) = ws (wdg f i) := by
  have e : ∀ j, j < 4 → wdg f (i + 1) j = wdg f i j := fun j hj => by
    unfold wdg
    rw [if_pos (by omega), if_pos (by omega), if_pos (by omega), if_pos (by omega), if_pos (by omega), if_pos (by omega), if_pos (by omega), if_pos (by omega)]
  unfold ws
  rw [e 0 (by omega), e 1 (by omega), e 2 (by omega), e 3 (by omega)]
theorem wdg_0 (f : Nat → Nat) (q : Nat) : wdg f (4 * q) q = 0 := by
  unfold wdg; rw [if_neg (by omega), if_neg (by omega), if_neg (by omega), if_neg (by omega)]
theorem wdg_1 (f : Nat → Nat) (q : Nat) : wdg f (4 * q + 1) q = f (4 * q) := by
  unfold wdg; rw [if_pos (by omega), if_neg (by omega), if_neg (by omega), if_neg (by omega)]; omega
theorem wdg_2 (f : Nat → Nat) (q : Nat) : wdg f (4 * q + 2) q = f (4 * q) + f (4 * q + 1) * 65536 := by
  unfold wdg; rw [if_pos (by omega), if_pos (by omega), if_neg (by omega), if_neg (by omega)]; omega
theorem wdg_3 (f : Nat → Nat) (q : Nat) : wdg f (4 * q + 3) q = f (4 * q) + f (4 * q + 1) * 65536 + f (4 * q + 2) * 4294967296 := by
  unfold wdg; rw [if_pos (by omega), if_pos (by omega), if_pos (by omega), if_neg (by omega)]; omega
theorem wdg_4 (f : Nat → Nat) {i q : Nat} (h : 4 * q + 4 ≤ i) : wdg f i q = f (4 * q) + f (4 * q + 1) * 65536 + f (4 * q + 2) * 4294967296 + f (4 * q + 3) * 281474976710656 := by
  unfold wdg; rw [if_pos (by omega), if_pos (by omega), if_pos (by omega), if_pos (by omega)]
theorem wdg_step (f : Nat → Nat) (i : Nat) : wdg f (i + 1) = upd (wdg f i) (i / 4) (wdg f i (i / 4) + f i * p16 (i % 4)) := by
  funext j
  obtain ⟨q, r, hr, rfl⟩ : ∃ q r, r < 4 ∧ i = 4 * q + r := ⟨i / 4, i % 4, by omega, by omega⟩
  have e1 : (4 * q + r) / 4 = q := by omega
  have e2 : (4 * q + r) % 4 = r := by omega
  rw [e1, e2]
  unfold upd
  by_cases hj : j = q
  · subst hj
    rw [if_pos rfl]
    have : r = 0 ∨ r = 1 ∨ r = 2 ∨ r = 3 := by omega
    rcases this with rfl | rfl | rfl | rfl
    · simp only [Nat.add_zero]; rw [wdg_1, wdg_0, p16_0, Nat.zero_add, Nat.mul_one]
    · rw [wdg_2 f j, wdg_1, p16_1]
    · rw [wdg_3 f j, wdg_2, p16_2]
    · rw [wdg_4 f (i := 4 * j + 3 + 1) (by omega), wdg_3, p16_3]
  · rw [if_neg hj]
    unfold wdg
    have k : ∀ t, t < 4 → (4 * j + t < 4 * q + r + 1 ↔ 4 * j + t < 4 * q + r) := fun t ht => by omega
    have k0 := k 0 (by omega)
    simp only [Nat.add_zero] at k0
    simp only [k0, k 1 (by omega), k 2 (by omega), k 3 (by omega)]
theorem wdg_lt {f : Nat → Nat} {i : Nat} (hf : ∀ k, k ≤ i → f k < 65536) : wdg f i (i / 4) + f i * p16 (i % 4) ≤ 18446744073709551615 := by
  obtain ⟨q, r, hr, rfl⟩ : ∃ q r, r < 4 ∧ i = 4 * q + r := ⟨i / 4, i % 4, by omega, by omega⟩
  have e1 : (4 * q + r) / 4 = q := by omega
  have e2 : (4 * q + r) % 4 = r := by omega
  rw [e1, e2]
  have : r = 0 ∨ r = 1 ∨ r = 2 ∨ r = 3 := by omega
  rcases this with rfl | rfl | rfl | rfl
  · have h0 := hf (4 * q) (by omega)
    simp only [Nat.add_zero]; rw [wdg_0, p16_0]; omega
  · have h0 := hf (4 * q) (by omega)
    have h1 := hf (4 * q + 1) (by omega)
    rw [wdg_1, p16_1]; omega
  · have h0 := hf (4 * q) (by omega)
    have h1 := hf (4 * q + 1) (by omega)
    have h2 := hf (4 * q + 2) (by omega)
    rw [wdg_2, p16_2]; omega
  · have h0 := hf (4 * q) (by omega)
    have h1 := hf (4 * q + 1) (by omega)
    have h2 := hf (4 * q + 2) (by omega)
    have h3 := hf (4 * q + 3) (by omega)
    rw [wdg_3, p16_3]; omega
theorem p16_step {r : Nat} (h : r < 3) : p16 (r + 1) = p16 r * 65536 := by
  have : r = 0 ∨ r = 1 ∨ r = 2 := by omega
  rcases this with rfl | rfl | rfl
  · rw [p16_1, p16_0]
  · rw [p16_2, p16_1]
  · rw [p16_3, p16_2]
theorem p16_le (r : Nat) : p16 r ≤ 281474976710656 := by unfold p16; split <;> omega
theorem p16_le2 {r : Nat} (h : r < 3) : p16 r ≤ 4294967296 := by
  have : r = 0 ∨ r = 1 ∨ r = 2 := by omega
  rcases this with rfl | rfl | rfl
  · rw [p16_0]; omega
  · rw [p16_1]; omega
  · rw [p16_2]; omega

end Go.Proofs.Ytafcngnophlhgaa

namespace Go.Proofs.Ytafcngnophlhgaa
open Go.RowKit

/-- The number of n digits, or none. -/
def MadeW (n : Nat) (f : Nat → Nat) (w : World) (e : Ending) (W' : World) : Prop :=
  ((∃ i, 16 ≤ i ∧ i < n ∧ f i ≠ 0) ∧ NoW w e W') ∨
  ((∀ i, 16 ≤ i → i < n → f i = 0) ∧ e = .returned (.tuple #[wv (wdg f n 0) (wdg f n 1) (wdg f n 2) (wdg f n 3), .bool true]) ∧ Below w.heap.size w W')

set_option maxRecDepth 100000 in
set_option maxHeartbeats 4000000 in
theorem made_any (n cap g : Nat) (f : Nat → Nat) (hn : n ≤ 32) (hf : ∀ k, k < n → f k < 65536) (w : World) (hg : g < w.heap.size) (hl : Nums w g n f) :
    Calls Try.prog 74 #[.slice (some ⟨g, 0, none⟩) n cap] w (MadeW n f w) := by
  go_enter Try.func74, Try.ntmps74
  go_wp2
  go_loopw [5] (fun i wr => ∃ k : Nat, k ≤ n ∧ i = .int .i64 k ∧ (∀ t, 16 ≤ t → t < k → f t = 0) ∧ Blk wr w.heap.size 24 (ws fun _ => 0) ∧ Blk wr (w.heap.size + 1) 24 (ws (wdg f k)) ∧ Below w.heap.size w wr) (fun i _ => n - (intOf i).toNat)
  case atStart => exact ⟨0, by omega, rfl, fun t _ h => by omega, (Blk.new _ _ _).alloc _, by rw [wdg_zero]; exact Blk.new' (by simp), chainA (chain0 _ _) _⟩
  case round =>
    obtain ⟨k, hk, rfl, hz, k0, k1, hbel⟩ := hrel
    by_cases hlt : k < n
    · have hc := hl.below hbel hg k hlt
      have hfk := hf k hlt
      by_cases h16 : k < 16
      · have HZ := Lib.hid hz
        clear hz
        have h16' : (k : Int) < 16 := by omega
        go_wp2
        obtain ⟨wo, rfl⟩ : ∃ wo : World, wo = wr := ⟨_, rfl⟩
        go_loopw [6, 7] (fun x j wr => ∃ t : Nat, t ≤ k % 4 ∧ j = .int .i64 t ∧ x = .int .u64 (f k * p16 t : Nat) ∧ wr = wo) (fun _ j _ => k % 4 - (intOf j).toNat)
        case atStart => exact ⟨0, by omega, rfl, by rw [p16_0, Nat.mul_one], rfl⟩
        case round =>
          obtain ⟨t, ht, rfl, rfl, rfl⟩ := hrel
          by_cases htl : t < k % 4
          · have hp := p16_step (r := t) (by omega)
            have hle := p16_le2 (r := t) (by omega)
            have hm : f k * p16 t ≤ 65535 * 4294967296 := Nat.mul_le_mul (by omega) hle
            have HP : Hid (f k * p16 (t + 1) = f k * p16 t * 65536) := Lib.hid (by rw [hp, Nat.mul_assoc])
            clear hp
            generalize f k * p16 t = y at *
            have htl' : (t : Int) < (k : Int) % 4 := by omega
            go_wp2
            exact ⟨⟨t + 1, by omega, by simp, by rw [HP.out]; simp, trivial⟩, by simp [intOf]; omega⟩
          · obtain rfl : t = k % 4 := by omega
            have hlt4 : k / 4 < 4 := by omega
            have hs := wdg_lt (f := f) (i := k) (fun j hj => hf j (by omega))
            have hst := wdg_step f k
            have HS := Lib.hid hst
            clear hst
            have cc := k1.cell (k / 4)
            rw [ws_at _ hlt4] at cc
            have fc := k1.frozen (k / 4)
            generalize f k * p16 (k % 4) = y at *
            generalize hv : wdg f k (k / 4) = v at *
            clear hv
            go_wp2
            have kk := k1.set (k / 4) (.int .u64 ((v + y : Nat) : Int))
            rw [ws_set _ hlt4, ← HS.out, show ((v + y : Nat) : Int) = (v : Int) + (y : Int) by omega] at kk
            exact ⟨⟨k + 1, by omega, by simp, fun t h1 h2 => by omega, k0.other _ _ (by omega), kk, hbel.setCell (p := ⟨w.heap.size + 1, k / 4, none⟩) (by simp) _⟩, by simp [intOf]; omega⟩
      · have h16' : ¬ (k : Int) < 16 := by omega
        by_cases hz0 : f k = 0
        · have HZ := Lib.hid hz
          have HZ0 := Lib.hid hz0
          rw [hz0] at hc
          clear hz hz0
          go_wp2
          exact ⟨⟨k + 1, by omega, by simp, fun t h1 h2 => by
            by_cases e : t = k
            · rw [e]; exact HZ0.out
            · exact HZ.out t h1 (by omega), k0, by rw [wdg_high f (by omega)]; exact k1, hbel⟩, by simp [intOf]; omega⟩
        · have hne : ((f k : Nat) : Int) ≠ 0 := by omega
          have hb : (((f k : Nat) : Int) == 0) = false := by simp; omega
          have HZ := Lib.hid hz
          have HZ0 := Lib.hid hz0
          clear hz hz0
          have c00 : wr.cell? ⟨w.heap.size, 0, none⟩ = some (.int .u64 ((0 : Nat) : Int)) := k0.cell 0
          have f00 := k0.frozen 0
          have c01 : wr.cell? ⟨w.heap.size, 1, none⟩ = some (.int .u64 ((0 : Nat) : Int)) := k0.cell 1
          have f01 := k0.frozen 1
          have c02 : wr.cell? ⟨w.heap.size, 2, none⟩ = some (.int .u64 ((0 : Nat) : Int)) := k0.cell 2
          have f02 := k0.frozen 2
          have c03 : wr.cell? ⟨w.heap.size, 3, none⟩ = some (.int .u64 ((0 : Nat) : Int)) := k0.cell 3
          have f03 := k0.frozen 3
          go_wp2
          have k0' := (((k0.set 0 (.int .u64 0)).set 1 (.int .u64 0)).set 2 (.int .u64 0)).set 3 (.int .u64 0)
          have r0 := k0'.cell 0
          have r1 := k0'.cell 1
          have r2 := k0'.cell 2
          have r3 := k0'.cell 3
          simp only [ws, List.set_cons_zero, List.set_cons_succ, List.getElem?_cons_zero, List.getElem?_cons_succ] at r0 r1 r2 r3
          have hB' := (((hbel.setCell (p := ⟨w.heap.size, 0, none⟩) (Nat.le_refl _) (.int .u64 0)).setCell (p := ⟨w.heap.size, 1, none⟩) (Nat.le_refl _) (.int .u64 0)).setCell (p := ⟨w.heap.size, 2, none⟩) (Nat.le_refl _) (.int .u64 0)).setCell (p := ⟨w.heap.size, 3, none⟩) (Nat.le_refl _) (.int .u64 0)
          exact bodyPost_ret (v := .tuple #[wv 0 0 0 0, .bool false]) (by simp [results, Try.f74, go_sem, r0, r1, r2, r3]) rfl (.inl ⟨⟨k, by omega, hlt, HZ0.out⟩, rfl, hB'⟩)
    · obtain rfl : k = n := by omega
      have HZ := Lib.hid hz
      clear hz
      have c00 : wr.cell? ⟨w.heap.size, 0, none⟩ = some (.int .u64 ((0 : Nat) : Int)) := k0.cell 0
      have f00 := k0.frozen 0
      have c01 : wr.cell? ⟨w.heap.size, 1, none⟩ = some (.int .u64 ((0 : Nat) : Int)) := k0.cell 1
      have f01 := k0.frozen 1
      have c02 : wr.cell? ⟨w.heap.size, 2, none⟩ = some (.int .u64 ((0 : Nat) : Int)) := k0.cell 2
      have f02 := k0.frozen 2
      have c03 : wr.cell? ⟨w.heap.size, 3, none⟩ = some (.int .u64 ((0 : Nat) : Int)) := k0.cell 3
      have f03 := k0.frozen 3
      have c10 : wr.cell? ⟨w.heap.size + 1, 0, none⟩ = some (.int .u64 ((wdg f k 0 : Nat) : Int)) := k1.cell 0
      have c11 : wr.cell? ⟨w.heap.size + 1, 1, none⟩ = some (.int .u64 ((wdg f k 1 : Nat) : Int)) := k1.cell 1
      have c12 : wr.cell? ⟨w.heap.size + 1, 2, none⟩ = some (.int .u64 ((wdg f k 2 : Nat) : Int)) := k1.cell 2
      have c13 : wr.cell? ⟨w.heap.size + 1, 3, none⟩ = some (.int .u64 ((wdg f k 3 : Nat) : Int)) := k1.cell 3
      go_wp2
      have k0' := (((k0.set 0 (.int .u64 (wdg f k 0 : Nat))).set 1 (.int .u64 (wdg f k 1 : Nat))).set 2 (.int .u64 (wdg f k 2 : Nat))).set 3 (.int .u64 (wdg f k 3 : Nat))
      have r0 := k0'.cell 0
      have r1 := k0'.cell 1
      have r2 := k0'.cell 2
      have r3 := k0'.cell 3
      simp only [ws, List.set_cons_zero, List.set_cons_succ, List.getElem?_cons_zero, List.getElem?_cons_succ] at r0 r1 r2 r3
      have hB' := (((hbel.setCell (p := ⟨w.heap.size, 0, none⟩) (Nat.le_refl _) (.int .u64 (wdg f k 0 : Nat))).setCell (p := ⟨w.heap.size, 1, none⟩) (Nat.le_refl _) (.int .u64 (wdg f k 1 : Nat))).setCell (p := ⟨w.heap.size, 2, none⟩) (Nat.le_refl _) (.int .u64 (wdg f k 2 : Nat))).setCell (p := ⟨w.heap.size, 3, none⟩) (Nat.le_refl _) (.int .u64 (wdg f k 3 : Nat))
      exact bodyPost_ret (v := .tuple #[wv (wdg f k 0) (wdg f k 1) (wdg f k 2) (wdg f k 3), .bool true]) (by simp [results, Try.f74, go_sem, r0, r1, r2, r3]) rfl (.inr ⟨HZ.out, rfl, hB'⟩)

end Go.Proofs.Ytafcngnophlhgaa

namespace Go.Proofs.Ytafcngnophlhgaa
open Go.RowKit

/-- Of the first i octets: what those of digit k come to. -/
def udg (l : List UInt8) (i k : Nat) : Nat := be (((l.take i).drop (30 - 2 * k)).take 2)
theorem udg_zero (l : List UInt8) : ds (udg l 0) 16 = ds (fun _ => 0) 16 := by simp [ds, udg, be]
theorem udg_lt (l : List UInt8) (i k : Nat) : udg l i k < 65536 := by
  have := be_lt' (l := ((l.take i).drop (30 - 2 * k)).take 2) (k := 2) (by simp; omega)
  unfold udg
  omega
theorem udg_small {l : List UInt8} {i : Nat} (hi : i < 32) : udg l i ((31 - i) / 2) ≤ 255 := by
  have := be_lt' (l := ((l.take i).drop (30 - 2 * ((31 - i) / 2))).take 2) (k := 1) (by simp; omega)
  unfold udg
  omega
theorem udg_step {l : List UInt8} {i : Nat} {x : UInt8} (hx : l[i]? = some x) (hi : i < 32) : ds (udg l (i + 1)) 16 = ds (upd (udg l i) ((31 - i) / 2) (udg l i ((31 - i) / 2) * 256 + x.toNat)) 16 := by
  have hil : i < l.length := (List.getElem?_eq_some_iff.1 hx).1
  unfold ds
  refine List.map_congr_left fun k hk => ?_
  have hk16 : k < 16 := List.mem_range.1 hk
  congr 2
  have e1 : l.take (i + 1) = l.take i ++ [x] := by rw [List.take_add_one, hx]; rfl
  have hl : (l.take i).length = i := by simp; omega
  unfold upd
  by_cases h : k = (31 - i) / 2
  · subst h
    rw [if_pos rfl]
    unfold udg
    rw [e1, ← be_snoc]
    generalize hd : 30 - 2 * ((31 - i) / 2) = d
    have hdi : d ≤ i ∧ i < d + 2 := by omega
    rw [List.drop_append_of_le_length (by rw [hl]; omega), List.take_of_length_le (l := (l.take i).drop d ++ [x]) (by simp; omega), List.take_of_length_le (l := (l.take i).drop d) (by simp; omega)]
  · rw [if_neg h]
    unfold udg
    rw [e1]
    by_cases h' : i < 30 - 2 * k
    · rw [List.drop_of_length_le (by simp; omega), List.drop_of_length_le (by rw [hl]; omega)]
    · rw [List.drop_append_of_le_length (by rw [hl]; omega), List.take_append_of_le_length (by rw [List.length_drop, hl]; omega)]
theorem wdg_udg {l : List UInt8} (h : l.length = 32) {q : Nat} (hq : q < 4) : wdg (udg l 32) 16 q = uwd l 32 q := by
  rw [wdg_4 _ (by omega)]
  unfold udg uwd
  rw [List.take_of_length_le (l := l) (by omega)]
  have e : ∀ t, t < 4 → 30 - 2 * (4 * q + t) = 8 * (3 - q) + (6 - 2 * t) := fun t ht => by omega
  have e0 := e 0 (by omega)
  rw [Nat.add_zero] at e0
  rw [e0, e 1 (by omega), e 2 (by omega), e 3 (by omega), ← List.drop_drop, ← List.drop_drop, ← List.drop_drop, ← List.drop_drop]
  have hl : (l.drop (8 * (3 - q))).length ≥ 8 := by rw [List.length_drop]; omega
  generalize l.drop (8 * (3 - q)) = A at *
  match A, hl with
  | c0 :: c1 :: c2 :: c3 :: c4 :: c5 :: c6 :: c7 :: r, _ =>
    simp only [be, Nat.reduceMul, Nat.reduceSub, Nat.sub_zero, Nat.mul_zero, List.drop_succ_cons, List.drop_zero, List.take_succ_cons, List.take_zero, List.foldl_cons, List.foldl_nil]
    omega

theorem run_make16 (w : World) : (Instr.makeSlice 113 (.int .i64 16) (.int .i64 16)).run Try.prog w = .ok (.slice (some ⟨w.heap.size, 0, none⟩) 16 16) (w.alloc (.cells (ds (fun _ => 0) 16).toArray 3)) := by
  kernel_rfl

set_option maxRecDepth 100000 in
set_option maxHeartbeats 4000000 in
theorem refUnwide_any (l : List UInt8) (sv : Value) (w : World) (hl : l.length = 32) (hsv : BSl 0 w.heap.size w sv l) :
    Calls Try.prog 60 #[sv] w fun e W' => e = .returned (wv (uwd l 32 0) (uwd l 32 1) (uwd l 32 2) (uwd l 32 3)) ∧ Below w.heap.size w W' := by
  have hmx : Try.prog.follows .mixedOrders = true := by kernel_rfl
  have hmk := run_make16
  obtain ⟨a, cap, rfl, hcap, hcs⟩ := hsv
  obtain ⟨b, off, rfl, hbw, ho⟩ : ∃ b off, a = some ⟨b, off, none⟩ ∧ b < w.heap.size ∧ Octs w b off l := by
    rcases hcs with h0 | ⟨b, off, h1, _, h2, h3⟩
    · rw [h0] at hl; simp at hl
    · exact ⟨b, off, h1, h2, h3⟩
  have HL := Lib.hid hl
  rw [hl] at hcap ⊢
  clear hl hcs
  go_enter Try.func60, Try.ntmps60
  go_wp2
  clear hmk
  go_loopw [4] (fun i wr => ∃ k : Nat, k ≤ 32 ∧ i = .int .i64 k ∧ Blk wr w.heap.size 24 (ws fun _ => 0) ∧ Blk wr (w.heap.size + 1) 3 (ds (udg l k) 16) ∧ Below w.heap.size w wr) (fun i _ => 32 - (intOf i).toNat)
  case atStart => exact ⟨0, by omega, rfl, (Blk.new _ _ _).alloc _, by rw [udg_zero]; exact Blk.new' (by simp), chainA (chain0 _ _) _⟩
  case round =>
    obtain ⟨k, hk, rfl, k0, k1, hB⟩ := hrel
    by_cases hlt : k < 32
    · obtain ⟨x, hx⟩ : ∃ x, l[k]? = some x := ⟨_, List.getElem?_eq_getElem (by rw [HL.out]; exact hlt)⟩
      have hcx := (ho.below hB hbw) k x hx
      have hsm := udg_small (l := l) hlt
      have hst := udg_step hx hlt
      have hpl : (31 - k) / 2 < 16 := by omega
      have hp : ((31 : Int) - k) / 2 = (((31 - k) / 2 : Nat) : Int) := by omega
      have hcp := k1.cell ((31 - k) / 2)
      rw [ds_at _ hpl] at hcp
      have hfp := k1.frozen ((31 - k) / 2)
      have HS := Lib.hid hst
      have HX := Lib.hid hx
      clear hst hx
      generalize udg l k ((31 - k) / 2) = y at *
      generalize (31 - k) / 2 = p at *
      have hy : (y : Int) ≤ 255 := by omega
      have hp16 : (p : Int) < 16 := by omega
      have hk32 : (k : Int) < 32 := by omega
      have hx8 := x.toNat_lt
      have hx8' : (x.toNat : Int) ≤ 255 := by omega
      go_wp2_with fail
      refine wp_region_any hmx ?_
      change wpAny _ _ _ _ _ _ _ (World.drew _)
      refine wpAny_take (i := 0) (v := ?_) rfl (by kernel_rfl) (by kernel_rfl) (by kernel_rfl) (fun _ _ _ h => h) (Or.inl ⟨rfl, ?_⟩) ?_
      rotate_left
      · intro w'; go_simp; with_reducible rfl
      refine wpAny_take (i := 1) (v := ?_) rfl (by kernel_rfl) (by kernel_rfl) (by kernel_rfl) (fun _ _ _ h => h) (Or.inl ⟨rfl, ?_⟩) ?_
      rotate_left
      · intro w'; go_simp; with_reducible rfl
      refine wpAny_take (i := 2) (v := ?_) rfl (by kernel_rfl) (by kernel_rfl) (by kernel_rfl) (fun _ _ _ h => h) (Or.inl ⟨rfl, ?_⟩) ?_
      rotate_left
      · intro w'; go_simp; with_reducible rfl
      refine wpAny_take (i := 3) (v := ?_) rfl (by kernel_rfl) (by kernel_rfl) (by kernel_rfl) (fun _ _ _ h => h) (Or.inl ⟨rfl, ?_⟩) ?_
      rotate_left
      · intro w'; go_simp; with_reducible rfl
      refine wpAny_take (i := 4) (v := ?_) rfl (by kernel_rfl) (by kernel_rfl) (by kernel_rfl) (fun _ _ _ h => h) (Or.inl ⟨rfl, ?_⟩) ?_
      rotate_left
      · intro w'; go_simp; with_reducible rfl
      refine wpAny_take (i := 7) (v := ?_) rfl (by kernel_rfl) (by kernel_rfl) (by kernel_rfl) (fun _ _ _ h => h) (Or.inl ⟨rfl, ?_⟩) ?_
      rotate_left
      · intro w'; go_simp; with_reducible rfl
      refine wpAny_take (i := 8) (v := ?_) rfl (by kernel_rfl) (by kernel_rfl) (by kernel_rfl) (fun _ _ _ h => h) (Or.inl ⟨rfl, ?_⟩) ?_
      rotate_left
      · intro w'; go_simp; with_reducible rfl
      refine wpAny_take (i := 9) (v := ?_) rfl (by kernel_rfl) (by kernel_rfl) (by kernel_rfl) (fun _ _ _ h => h) (Or.inl ⟨rfl, ?_⟩) ?_
      rotate_left
      · intro w'; go_simp; with_reducible rfl
      refine wpAny_ready (rs := [5, 10]) (by kernel_rfl) (by simp) ?_
      refine AllReady.cons rfl (fun K hK => ?_) (AllReady.cons rfl (fun K hK => ?_) AllReady.nil)
      all_goals (go_simp; refine hK _ _ ?_; clear hK K)
      refine wpAny_take (i := 6) (v := ?_) rfl (by kernel_rfl) (by kernel_rfl) (by kernel_rfl) (fun _ _ _ h => h) (Or.inl ⟨rfl, ?_⟩) ?_
      rotate_left
      · intro w'; go_simp; with_reducible rfl
      refine wpAny_ready (rs := [10]) (by kernel_rfl) (by simp) ?_
      refine AllReady.cons rfl (fun K hK => ?_) AllReady.nil
      go_simp
      refine hK _ _ ?_
      clear hK K
      refine wpAny_take (i := 11) (v := ?_) rfl (by kernel_rfl) (by kernel_rfl) (by kernel_rfl) (fun _ _ _ h => h) (Or.inl ⟨rfl, ?_⟩) ?_
      rotate_left
      · intro w'; go_simp; with_reducible rfl
      rotate_left
      refine wpAny_take (i := 11) (v := ?_) rfl (by kernel_rfl) (by kernel_rfl) (by kernel_rfl) (fun _ _ _ h => h) (Or.inl ⟨rfl, ?_⟩) ?_
      rotate_left
      · intro w'; go_simp; with_reducible rfl
      refine wpAny_ready (rs := [5]) (by kernel_rfl) (by simp) ?_
      refine AllReady.cons rfl (fun K hK => ?_) AllReady.nil
      go_simp
      refine hK _ _ ?_
      clear hK K
      refine wpAny_take (i := 6) (v := ?_) rfl (by kernel_rfl) (by kernel_rfl) (by kernel_rfl) (fun _ _ _ h => h) (Or.inl ⟨rfl, ?_⟩) ?_
      rotate_left
      · intro w'; go_simp; with_reducible rfl
      rotate_left
      all_goals
        refine wpAny_take (i := 12) (v := ?_) rfl (by kernel_rfl) (by kernel_rfl) (by kernel_rfl) (fun _ _ _ h => h) (Or.inl ⟨rfl, ?_⟩) ?_
        rotate_left
        · intro w'; go_simp; with_reducible rfl
        refine wpAny_take (i := 13) (v := ?_) rfl (by kernel_rfl) (by kernel_rfl) (by kernel_rfl) (fun _ _ _ h => h) (Or.inl ⟨rfl, ?_⟩) ?_
        rotate_left
        · intro w'; go_simp; with_reducible rfl
        refine wpAny_ready (rs := [14]) (by kernel_rfl) (by simp) ?_
        refine AllReady.cons rfl (fun K hK => ?_) AllReady.nil
        go_simp
        refine hK _ _ ?_
        clear hK K
        refine wpAny_done (by kernel_rfl) ?_ _
        have hv : IntKind.i64.wrap (IntKind.i64.wrap ((y : Int) * 256) + IntKind.i64.wrap (x.toNat : Int)) = ((y * 256 + x.toNat : Nat) : Int) := by
          rw [wr_i64 ((y : Int) * 256) (by omega) (by omega), wr_i64 (x.toNat : Int) (by omega) (by omega), wr_i64 _ (by omega) (by omega)]
          omega
        rw [hv]
        go_wp2
        have kk := k1.set p (.int .i64 ((y * 256 + x.toNat : Nat) : Int))
        rw [ds_set, ← HS.out] at kk
        exact ⟨⟨k + 1, by omega, by simp, k0.other p _ (by omega), kk, (hB.setCell (p := ⟨w.heap.size + 1, p, none⟩) (by simp) _).drew⟩, by simp [intOf]; omega⟩
    · obtain rfl : k = 32 := by omega
      go_wp2_with fail
      refine (made_any 16 16 (w.heap.size + 1) (udg l 32) (by omega) (fun k _ => udg_lt l 32 k) wr k1.lt k1.numsOf).mono ?_
      rintro e w3 (⟨⟨i, hi1, hi2, _⟩, _⟩ | ⟨_, rfl, hb3⟩)
      · omega
      rw [wdg_udg HL.out (by omega), wdg_udg HL.out (by omega), wdg_udg HL.out (by omega), wdg_udg HL.out (by omega)]
      have k3 := k0.below hb3 k0.lt
      have d3 := chain hB hb3
      generalize hs0 : uwd l 32 0 = s0 at *
      have H0 := Lib.hid hs0
      clear hs0
      generalize hs1 : uwd l 32 1 = s1 at *
      have H1 := Lib.hid hs1
      clear hs1
      generalize hs2 : uwd l 32 2 = s2 at *
      have H2 := Lib.hid hs2
      clear hs2
      generalize hs3 : uwd l 32 3 = s3 at *
      have H3 := Lib.hid hs3
      clear hs3
      have c0 : w3.cell? ⟨w.heap.size, 0, none⟩ = some (.int .u64 ((0 : Nat) : Int)) := k3.cell 0
      have c1 : w3.cell? ⟨w.heap.size, 1, none⟩ = some (.int .u64 ((0 : Nat) : Int)) := k3.cell 1
      have c2 : w3.cell? ⟨w.heap.size, 2, none⟩ = some (.int .u64 ((0 : Nat) : Int)) := k3.cell 2
      have c3 : w3.cell? ⟨w.heap.size, 3, none⟩ = some (.int .u64 ((0 : Nat) : Int)) := k3.cell 3
      have f0 := k3.frozen 0
      have f1 := k3.frozen 1
      have f2 := k3.frozen 2
      have f3 := k3.frozen 3
      have l3 := k3.lt
      go_wp2
      have k4 := ((((k3.set 0 (.int .u64 (s0 : Nat))).set 1 (.int .u64 (s1 : Nat))).set 2 (.int .u64 (s2 : Nat))).set 3 (.int .u64 (s3 : Nat))).alloc (.cells #[.int .u64 (s0 : Nat), .int .u64 (s1 : Nat), .int .u64 (s2 : Nat), .int .u64 (s3 : Nat)] 24)
      have r0 := k4.cell 0
      have r1 := k4.cell 1
      have r2 := k4.cell 2
      have r3 := k4.cell 3
      simp only [ws, List.set_cons_zero, List.set_cons_succ, List.getElem?_cons_zero, List.getElem?_cons_succ] at r0 r1 r2 r3
      have hB' := ((((d3.setCell (p := ⟨w.heap.size, 0, none⟩) (Nat.le_refl _) (.int .u64 (s0 : Nat))).setCell (p := ⟨w.heap.size, 1, none⟩) (Nat.le_refl _) (.int .u64 (s1 : Nat))).setCell (p := ⟨w.heap.size, 2, none⟩) (Nat.le_refl _) (.int .u64 (s2 : Nat))).setCell (p := ⟨w.heap.size, 3, none⟩) (Nat.le_refl _) (.int .u64 (s3 : Nat))).alloc (by simp; omega) (.cells #[.int .u64 (s0 : Nat), .int .u64 (s1 : Nat), .int .u64 (s2 : Nat), .int .u64 (s3 : Nat)] 24)
      exact bodyPost_ret (v := wv s0 s1 s2 s3) (by simp [results, Try.f60, go_sem, r0, r1, r2, r3]) rfl ⟨by rw [H0.out, H1.out, H2.out, H3.out], hB'⟩

end Go.Proofs.Ytafcngnophlhgaa

namespace Go.Proofs.Ytafcngnophlhgaa
open Go.RowKit Go.Shelf

/-- What is taken, and what is left. -/
def TakR (r : List UInt8 × St) (w : World) (e : Ending) (W' : World) : Prop :=
  ∃ v1 v2, e = .returned (.tuple #[v1, .agg #[v2, .int .i64 r.2.2]]) ∧ BSl 0 W'.heap.size W' v1 r.1 ∧ BSl 0 W'.heap.size W' v2 r.2.1 ∧ Below w.heap.size w W'

theorem bsl_take2 {lo hi : Nat} {W : World} {a : Option Addr} {n c : Nat} {l : List UInt8} (h : BSl lo hi W (.slice a n c) l) {k : Nat} (hk : k ≤ l.length) : BSl lo hi W (.slice a k c) (l.take k) := by
  obtain ⟨a', c', e, hc, h0⟩ := bsl_take h hk
  obtain ⟨_, _, e2, hc2, _⟩ := h
  cases e2
  obtain ⟨rfl, e3, rfl⟩ := Value.slice.inj e
  exact ⟨_, c, by rw [← e3], by omega, h0⟩
theorem takR_stored {r : List UInt8 × St} {w Y : World} {v1 v2 : Value} {NB : Nat} {z : Value} {x : Int} (h1 : BSl 0 Y.heap.size Y v1 r.1) (h2 : BSl 0 Y.heap.size Y v2 r.2.1) (hB : Below w.heap.size w Y) (hNB : w.heap.size ≤ NB) (hz : ∃ a m c, z = .slice a m c)
    (kR : Blk Y NB 45 [z, .int .i64 x]) :
    Blk ((Y.setCell ⟨NB, 0, none⟩ v2).setCell ⟨NB, 1, none⟩ (.int .i64 r.2.2)) NB 45 [v2, .int .i64 r.2.2] ∧ TakR r w (.returned (.tuple #[v1, .agg #[v2, .int .i64 r.2.2]])) ((Y.setCell ⟨NB, 0, none⟩ v2).setCell ⟨NB, 1, none⟩ (.int .i64 r.2.2)) := by
  obtain ⟨k1, q1, qB⟩ := stored_at (y := r.2.2) h2 hB hNB hz kR
  obtain ⟨a, m, c, rfl⟩ := hz
  obtain ⟨a2, m2, c2, rfl⟩ := h2.shape3
  have k0 := kR.set 0 (.slice a2 m2 c2)
  exact ⟨k1, _, _, rfl, ((h1.to (Nat.le_refl _) (grownBy_setCell4 Y NB 0 (.slice a2 m2 c2)) (fun r e => by cases e; exact noOct2 kR)).to (by simp) (grownBy_setCell4 _ NB 1 (.int .i64 r.2.2)) (fun r e => by cases e; exact noOct2 k0)).mono (Nat.le_refl _) (by simp), q1, qB⟩

set_option maxRecDepth 100000 in
set_option maxHeartbeats 1000000 in
theorem refTake_any {s : St} (k : Nat) (sv : Value) (w : World) (hsl : BSl 0 w.heap.size w sv s.1) :
    Calls Try.prog 58 #[.agg #[sv, .int .i64 s.2], .int .i64 (k : Nat)] w (TakR (takeS s k) w) := by
  have hmx : Try.prog.follows .mixedOrders = true := by kernel_rfl
  obtain ⟨a, c, rfl, hcap⟩ := hsl.shape
  generalize hn : s.1.length = n at *
  have HN := Lib.hid hn
  clear hn
  by_cases hf : s.2 = 0
  · by_cases hfit : k ≤ n
    · rw [takeS_ok hf (by rw [HN.out]; exact hfit)]
      have hf1 : (s.2 != 0) = false := by simpa using hf
      have hf2 : (s.2 == 0) = true := by simpa using hf
      clear hf
      have hgt : ¬ ((n : Int) < (k : Int)) := by omega
      have hle : (k : Int) ≤ (n : Int) := by omega
      have hle2 : (k : Int) ≤ (c : Int) := by omega
      have HDR := Lib.hid (bsl_drop hsl (k := k) (by rw [HN.out]; exact hfit))
      have HDN := Lib.hid (fun e => bsl_none hsl (k := k) (by rw [HN.out]; exact hfit) e)
      have HTK := Lib.hid (bsl_take2 hsl (k := k) (by rw [HN.out]; exact hfit))
      by_cases hck : c = k
      · subst hck
        go_enter Try.func58, Try.ntmps58
        go_wp2_with fail
        generalize hW0 : World.alloc _ _ = W0
        have kA : Blk W0 w.heap.size 45 [.slice a n c, .int .i64 s.2] := by rw [← hW0]; exact (Blk.new w _ [_, _]).alloc _
        have kR : Blk W0 (w.heap.size + 1) 45 [.slice none 0 0, .int .i64 0] := by rw [← hW0]; exact Blk.new' (vs := [_, _]) (by simp)
        have hB0 : Below w.heap.size w W0 := by rw [← hW0]; exact chainA (chain0 _ _) _
        clear hW0
        obtain ⟨c0, c1⟩ := Blk.c2 kA
        go_still_tail 10, (by kernel_rfl)
        rw [show n - c = 0 by omega, Nat.sub_self] at HDN
        change wpList _ _ _ _ _ (World.drew _)
        replace kR : Blk W0.drew (w.heap.size + 1) 45 [.slice none 0 0, .int .i64 0] := kR
        replace hB0 : Below w.heap.size w W0.drew := hB0.drew
        clear kA c0 c1
        generalize W0.drew = Y at *
        obtain ⟨r0, r1⟩ := Blk.c2 kR
        have g0 := kR.frozen 0
        have g1 := kR.frozen 1
        go_wp2_with fail
        obtain ⟨kR2, hfin⟩ := takR_stored (r := (s.1.take c, s.1.drop c, 0)) (v1 := .slice a c c) (v2 := .slice a 0 0) ((HTK.out.below hB0 (Nat.le_refl _)).mono (Nat.le_refl _) hB0.size) (((HDN.out (by trivial)).below hB0 (Nat.le_refl _)).mono (Nat.le_refl _) hB0.size) hB0 (Nat.le_add_right _ 1) ⟨_, _, _, rfl⟩ kR
        obtain ⟨q0, q1⟩ := Blk.c2 kR2
        exact bodyPost_ret (v := .tuple #[.slice a c c, .agg #[.slice a 0 0, .int .i64 ((s.1.take c, s.1.drop c, 0)).2.2]]) (by simp [results, Try.results58, go_sem, q0, q1]) rfl hfin
      · go_enter Try.func58, Try.ntmps58
        go_wp2_with fail
        generalize hW0 : World.alloc _ _ = W0
        have kA : Blk W0 w.heap.size 45 [.slice a n c, .int .i64 s.2] := by rw [← hW0]; exact (Blk.new w _ [_, _]).alloc _
        have kR : Blk W0 (w.heap.size + 1) 45 [.slice none 0 0, .int .i64 0] := by rw [← hW0]; exact Blk.new' (vs := [_, _]) (by simp)
        have hB0 : Below w.heap.size w W0 := by rw [← hW0]; exact chainA (chain0 _ _) _
        clear hW0
        obtain ⟨c0, c1⟩ := Blk.c2 kA
        go_still_tail 10, (by kernel_rfl)
        change wpList _ _ _ _ _ (World.drew _)
        replace kR : Blk W0.drew (w.heap.size + 1) 45 [.slice none 0 0, .int .i64 0] := kR
        replace hB0 : Below w.heap.size w W0.drew := hB0.drew
        clear kA c0 c1
        generalize W0.drew = Y at *
        obtain ⟨r0, r1⟩ := Blk.c2 kR
        have g0 := kR.frozen 0
        have g1 := kR.frozen 1
        go_wp2_with fail
        obtain ⟨kR2, hfin⟩ := takR_stored (r := (s.1.take k, s.1.drop k, 0)) (v1 := .slice a k c) (v2 := .slice (a.map fun x => x.add k) (n - k) (c - k)) ((HTK.out.below hB0 (Nat.le_refl _)).mono (Nat.le_refl _) hB0.size) ((HDR.out.below hB0 (Nat.le_refl _)).mono (Nat.le_refl _) hB0.size) hB0 (Nat.le_add_right _ 1) ⟨_, _, _, rfl⟩ kR
        obtain ⟨q0, q1⟩ := Blk.c2 kR2
        exact bodyPost_ret (v := .tuple #[.slice a k c, .agg #[.slice (a.map fun x => x.add k) (n - k) (c - k), .int .i64 ((s.1.take k, s.1.drop k, 0)).2.2]]) (by simp [results, Try.results58, go_sem, q0, q1]) rfl hfin
    · rw [takeS_short hf (by rw [HN.out]; omega)]
      have hgt : (n : Int) < (k : Int) := by omega
      have hf1 : (s.2 != 0) = false := by simpa using hf
      have hf2 : (s.2 == 0) = true := by simpa using hf
      clear hf
      go_enter Try.func58, Try.ntmps58
      go_wp2_with fail
      have hB : Below w.heap.size w ((w.alloc (.cells #[.slice a n c, .int .i64 s.2] 45)).alloc (.cells #[.slice none 0 0, .int .i64 16] 45)) := chainA (chain0 _ _) _
      exact bodyPost_ret (v := .tuple #[.slice none 0 0, .agg #[.slice none 0 0, .int .i64 16]]) (by simp [results, Try.results58, go_sem]) rfl ⟨_, _, rfl, BSl.nil _ _ _, BSl.nil _ _ _, hB⟩
  · rw [takeS_bad hf]
    have hf1 : (s.2 == 0) = false := by simpa using hf
    have hf2 : (s.2 != 0) = true := by simpa using hf
    clear hf
    go_enter Try.func58, Try.ntmps58
    go_wp2_with fail
    generalize hW0 : World.alloc _ _ = W0
    have kA : Blk W0 w.heap.size 45 [.slice a n c, .int .i64 s.2] := by rw [← hW0]; exact (Blk.new w _ [_, _]).alloc _
    have kR : Blk W0 (w.heap.size + 1) 45 [.slice none 0 0, .int .i64 0] := by rw [← hW0]; exact Blk.new' (vs := [_, _]) (by simp)
    have hB0 : Below w.heap.size w W0 := by rw [← hW0]; exact chainA (chain0 _ _) _
    clear hW0
    obtain ⟨c0, c1⟩ := Blk.c2 kA
    go_still_tail 2, (by kernel_rfl)
    change wpList _ _ _ _ _ (World.drew _)
    replace kR : Blk W0.drew (w.heap.size + 1) 45 [.slice none 0 0, .int .i64 0] := kR
    replace hB0 : Below w.heap.size w W0.drew := hB0.drew
    clear kA c0 c1
    generalize W0.drew = Y at *
    obtain ⟨r0, r1⟩ := Blk.c2 kR
    have g0 := kR.frozen 0
    have g1 := kR.frozen 1
    go_wp2_with fail
    obtain ⟨kR2, hfin⟩ := takR_stored (r := (([] : List UInt8), s)) (v1 := .slice none 0 0) (v2 := .slice a n c) (BSl.nil _ _ _) ((hsl.below hB0 (Nat.le_refl _)).mono (Nat.le_refl _) hB0.size) hB0 (Nat.le_add_right _ 1) ⟨_, _, _, rfl⟩ kR
    obtain ⟨q0, q1⟩ := Blk.c2 kR2
    exact bodyPost_ret (v := .tuple #[.slice none 0 0, .agg #[.slice a n c, .int .i64 ((([] : List UInt8), s)).2.2]]) (by simp [results, Try.results58, go_sem, q0, q1]) rfl hfin

/-- Octets that are left, and an error's number, as a struct. -/
def RefR (s : St) (w : World) (e : Ending) (W' : World) : Prop := ∃ sv, e = .returned (.agg #[sv, .int .i64 s.2]) ∧ BSl 0 W'.heap.size W' sv s.1 ∧ Below w.heap.size w W'
set_option maxRecDepth 100000 in
theorem refOpen6_any (l : List UInt8) (sv : Value) (w : World) (hsv : BSl 0 w.heap.size w sv l) :
    Calls Try.prog 16 #[sv] w (RefR (openS l) w) := by
  obtain ⟨a, c, rfl, -⟩ := hsv.shape
  unfold openS
  generalize l.length = n at *
  by_cases hfit : n ≤ 8192
  · rw [if_pos hfit]
    have hgt : ¬ (8192 : Int) < (n : Int) := by omega
    go_enter Try.func16, Try.ntmps16
    go_wp2_with fail
    have hB := chain0 w (.cells #[.slice a n c, .int .i64 0] 45)
    exact bodyPost_ret (v := .agg #[.slice a n c, .int .i64 0]) (by simp [results, Try.results16, go_sem]) rfl ⟨_, rfl, (hsv.below hB (Nat.le_refl _)).mono (Nat.le_refl _) hB.size, hB⟩
  · rw [if_neg hfit]
    have hgt : (8192 : Int) < (n : Int) := by omega
    go_enter Try.func16, Try.ntmps16
    go_wp2_with fail
    exact bodyPost_ret (v := .agg #[.slice none 0 0, .int .i64 5]) (by simp [results, Try.results16, go_sem]) rfl ⟨_, rfl, BSl.nil _ _ _, chain0 _ _⟩
set_option maxRecDepth 100000 in
theorem refSpoil_any {s : St} (sv : Value) (w : World) (hsl : BSl 0 w.heap.size w sv s.1) :
    Calls Try.prog 17 #[.agg #[sv, .int .i64 s.2]] w (RefR (errS s 16) w) := by
  obtain ⟨a, m, c, rfl⟩ := hsl.shape3
  by_cases hf : s.2 = 0
  · have e1 : errS s 16 = ([], 16) := if_pos hf
    rw [e1]
    clear e1
    have hf1 : (s.2 != 0) = false := by simpa using hf
    have hf2 : (s.2 == 0) = true := by simpa using hf
    clear hf
    go_enter Try.func17, Try.ntmps17
    go_wp2_with fail
    exact bodyPost_ret (v := .agg #[.slice none 0 0, .int .i64 16]) (by simp [results, Try.results17, go_sem]) rfl ⟨_, rfl, BSl.nil _ _ _, chainA (chain0 w _) _⟩
  · rw [errS_bad hf]
    have hf1 : (s.2 != 0) = true := by simpa using hf
    have hf2 : (s.2 == 0) = false := by simpa using hf
    clear hf
    go_enter Try.func17, Try.ntmps17
    go_wp2_with fail
    have hB : Below w.heap.size w ((w.alloc (.cells #[.slice a m c, .int .i64 s.2] 45)).alloc (.cells #[.slice a m c, .int .i64 s.2] 45)) := chainA (chain0 _ _) _
    exact bodyPost_ret (v := .agg #[.slice a m c, .int .i64 s.2]) (by simp [results, Try.results17, go_sem]) rfl ⟨_, rfl, (hsl.below hB (Nat.le_refl _)).mono (Nat.le_refl _) hB.size, hB⟩
end Go.Proofs.Ytafcngnophlhgaa
