/-
  More than was asked for may not be.
  A struct that is known whole is loaded in one step: a bid, an ask.
  'string(b)'; the octets of a writer by the reference.
  An object and a struct beside it: what is stored into the struct leaves the object.
  What all readings of arguments share.
  A slice of octets among the arguments.
  A wide number among the arguments is four words.
  An ask, and a bid, among the arguments.
-/
import Derived.Laws.Rows
import Derived.Test.YtiibeahgleaonaaRows
import Derived.ProofKit
import Derived.OpenShut
import Derived.Laws.IdiomArrays
import Derived.Lib.SmallJoins
import Derived.Below
import Derived.Deep.Slices
import Derived.SizedLaws
import Derived.Carry
import Derived.ChangeMaps5
import Derived.JoinedCond
import Derived.Deep.Fields
import Derived.Test.YtiibeahgleaonaaK11
namespace Go.Proofs.Ytiibeahgleaonaa
open Go.RowKit Go.Shelf

theorem num8_any (x : Int) (w : World) : Calls Try.prog 10 #[.int .i64 x] w fun e W' => e = .returned (.int .i64 x) ∧ w = W' := by
  go_enter Try.func10, Try.ntmps10
  go_wp2
  go_ret
  exact ⟨rfl, rfl⟩
def liveA : Ak := ⟨0, 0, 0, 0, 5, 0, 0, 0, ⟨#[120]⟩⟩
def liveB : Bd := ⟨2, liveA, 6, 0, 0, 0, 0, ⟨#[]⟩⟩
theorem liveA_may : maybeA liveA := ⟨⟨by decide, by decide⟩, ⟨by decide, by decide⟩, ⟨by decide, by decide⟩, ⟨by decide, by decide⟩, by decide, by decide, by decide⟩
theorem liveB_not : ¬ maybeB liveB := fun h => absurd h.2.2.2.1 (by simp [liveB, liveA, val])
theorem ok4_little {n : Nat} (h : n < 100) : Ok4 n 0 0 0 := ⟨by unfold M; omega, by unfold M; omega, by unfold M; omega, by unfold M; omega⟩

set_option maxRecDepth 100000 in
set_option maxHeartbeats 2000000 in
theorem alive8_any (w : World) : Calls Try.prog 5 #[] w fun e W' => e = .returned (.bool true) ∧ Below w.heap.size w W' := by
  have H0 : Hid (∀ W, Calls Try.prog 16 #[akv liveA] W fun e W' => e = .returned (.int .i64 0) ∧ Below W.heap.size W W') := Lib.hid fun W => by
    have := checkAsk_any liveA W
    rw [errA_zero liveA_may] at this
    exact this
  have H1 : Hid (∀ W, Calls Try.prog 19 #[bdv liveB] W fun e W' => e = .returned (.int .i64 39) ∧ Below W.heap.size W W') := Lib.hid fun W => by
    have := check_any liveB ⟨ok4_little (by decide), ok4_little (by decide)⟩ W
    rw [errB_bad liveB_not] at this
    exact this
  have kB := Blk.new w 26 [.int .i64 0, .int .i64 0, .int .i64 0, .int .i64 0, .int .u64 5, .int .u64 0, .int .u64 0, .int .u64 0, .string ⟨#[120]⟩]
  have hB := chain0 w (.cells #[.int .i64 0, .int .i64 0, .int .i64 0, .int .i64 0, .int .u64 5, .int .u64 0, .int .u64 0, .int .u64 0, .string ⟨#[120]⟩] 26)
  go_enter Try.func5, Try.ntmps5
  go_wp2_with (first
    | (go_at_call 16; refine (H0.out _).mono ?_; rintro e W1 ⟨rfl, hb⟩; replace kB := kB.below hb kB.lt; replace hB := chain hB hb; obtain ⟨c0, c1, c2, c3, c4, c5, c6, c7, c8⟩ := Blk.c9 kB; clear hb)
    | (go_at_call 19; refine (H1.out _).mono ?_; rintro e W2 ⟨rfl, hb2⟩; replace hB := chain hB hb2))
  go_ret
  exact ⟨rfl, hB⟩
end Go.Proofs.Ytiibeahgleaonaa

namespace Go.Proofs.Ytiibeahgleaonaa
open Go.RowKit Go.Shelf

/-- A load whose value is known, guarded or not: as one step. -/
theorem wpList_loadIf {P : Program} {ops : Array Oper} {rest : List Oper} {o : Oper} {a : Act} {w : World} {Q : Exit → Act → World → Prop} (ty : TypeId) (x : Operand) (ho : o.op = .load ty x) (d : Option Tmp) (hd : o.dst = d)
    (hw : Region.wanted o (yielded ops a.tmps) = true) (v : Value) (hrun : (Instr.loadAt ty (a.eval x)).run P w = .ok v w) (h : wpList P ops Q rest (a.put d v) w) : wpList P ops Q (o :: rest) a w := by
  subst hd
  refine wpList_step fun K hK => ?_
  rw [if_pos hw]
  unfold Oper.wp execOp
  simp only [ho, Sem.run_bind, hrun, Result.andThen_ok]
  exact hK _ _ h
theorem load_bid {W : World} {B : Nat} {b : Bd} (h : Blk W B 51 (bdc b)) : (Instr.loadAt 51 (.pointer (some ⟨B, 0, none⟩))).run Try.prog W = .ok (bdv b) W := by
  simp only [Instr.loadAt, Instr.sureAddr, Sem.run_bind, Sem.run_pure, Result.andThen_ok, run_loadVar_row W B _ 51 (bdc b).toArray (0, 0) _ h Try.underlying51 rfl (by kernel_rfl)]
theorem load_ask {W : World} {B : Nat} {a : Ak} (h : Blk W B 26 (akc a)) : (Instr.loadAt 26 (.pointer (some ⟨B, 0, none⟩))).run Try.prog W = .ok (akv a) W := by
  simp only [Instr.loadAt, Instr.sureAddr, Sem.run_bind, Sem.run_pure, Result.andThen_ok, run_loadVar_row W B _ 26 (akc a).toArray (0, 0) _ h Try.underlying26 rfl (by kernel_rfl)]
end Go.Proofs.Ytiibeahgleaonaa

namespace Go.Proofs.Ytiibeahgleaonaa
open Go.RowKit Go.Shelf

/-- 'string(b)', at this seat. -/
theorem str_of (W : World) {lo hi : Nat} {sv : Value} {l : List UInt8} (h : BSl lo hi W sv l) : (convert 27 9 sv).run Try.prog W = .ok (.string ⟨l.toArray⟩) W :=
  run_string (P := Try.prog) 27 5 9 Try.underlying27 Try.underlying5 Try.underlying9 W h
theorem fieldB (W : World) (a : Option Addr) (m c : Nat) (x : Int) : (Instr.field 36 (.agg #[.slice a m c, .int .i64 x]) 0).run Try.prog W = .ok (.slice a m c) W := by
  simp [Instr.field, asAgg, run_underlying Try.underlying36, go_sem]
end Go.Proofs.Ytiibeahgleaonaa

namespace Go.Proofs.Ytiibeahgleaonaa
open Go.RowKit Go.Shelf

theorem ObjP.noOct {T : TypeId} {W : World} {B : Nat} {s : St} (h : ObjP T W (some ⟨B, 0, none⟩) s) : NoOct W B := by
  rcases h with ⟨h, _⟩ | ⟨B', m, a, n, c, x, e, hb, _⟩
  · cases h
  · cases e; exact noOct3 hb
theorem ObjP.lt {T : TypeId} {W : World} {B : Nat} {s : St} (h : ObjP T W (some ⟨B, 0, none⟩) s) : B < W.heap.size := by
  rcases h with ⟨h, _⟩ | ⟨B', m, a, n, c, x, e, hb, _⟩
  · cases h
  · cases e; exact hb.lt
/-- A field of an object, and a struct of the reference's beside it: behind two stores into the struct. -/
theorem objP_stored {T Tr : TypeId} {W : World} {NB XB : Nat} {s : St} {a : Option Addr} {m c : Nat} {x : Int} {sv : Value} {y : Int} (h : ObjP T W (some ⟨NB, 0, none⟩) s) (kW : Blk W XB Tr [.slice a m c, .int .i64 x]) (hne : XB ≠ NB) (hs : ∃ a m c, sv = .slice a m c) :
    ObjP T ((W.setCell ⟨XB, 0, none⟩ sv).setCell ⟨XB, 1, none⟩ (.int .i64 y)) (some ⟨NB, 0, none⟩) s := by
  obtain ⟨a2, m2, c2, rfl⟩ := hs
  have hn : (Option.map (fun x : Addr => x.block) (some ⟨NB, 0, none⟩)) ≠ some XB := fun e => hne (by simpa using e.symm)
  exact (h.to (grownBy_setCell4 W XB 0 (.slice a2 m2 c2)) (fun r e => by cases e; exact ⟨noOct2 kW, hn⟩)).to (grownBy_setCell4 _ XB 1 (.int .i64 y)) (fun r e => by cases e; exact ⟨noOct2 (kW.set 0 (.slice a2 m2 c2)), hn⟩)
theorem objP_words {T Tw : TypeId} {W : World} {NB AB : Nat} {s : St} {b0 b1 b2 b3 : Int} {y0 y1 y2 y3 : Int} (h : ObjP T W (some ⟨NB, 0, none⟩) s) (k0 : Blk W AB Tw [.int .u64 b0, .int .u64 b1, .int .u64 b2, .int .u64 b3]) (hne : AB ≠ NB) :
    ObjP T ((((W.setCell ⟨AB, 0, none⟩ (.int .u64 y0)).setCell ⟨AB, 1, none⟩ (.int .u64 y1)).setCell ⟨AB, 2, none⟩ (.int .u64 y2)).setCell ⟨AB, 3, none⟩ (.int .u64 y3)) (some ⟨NB, 0, none⟩) s := by
  have hn : (Option.map (fun x : Addr => x.block) (some ⟨NB, 0, none⟩)) ≠ some AB := fun e => hne (by simpa using e.symm)
  have k1 := k0.set 0 (.int .u64 y0)
  have k2 := k1.set 1 (.int .u64 y1)
  have k3 := k2.set 2 (.int .u64 y2)
  exact (((h.to (grownBy_setCell4 W AB 0 (.int .u64 y0)) (fun r e => by cases e; exact ⟨noOct4 k0, hn⟩)).to (grownBy_setCell4 _ AB 1 (.int .u64 y1)) (fun r e => by cases e; exact ⟨noOct4 k1, hn⟩)).to (grownBy_setCell4 _ AB 2 (.int .u64 y2)) (fun r e => by cases e; exact ⟨noOct4 k2, hn⟩)).to (grownBy_setCell4 _ AB 3 (.int .u64 y3)) (fun r e => by cases e; exact ⟨noOct4 k3, hn⟩)
end Go.Proofs.Ytiibeahgleaonaa

namespace Go.Proofs.Ytiibeahgleaonaa
open Go.ChangeShapes Go.WideShapes Go.ChangeAt Go.RowKit

theorem Try.own : ownKnob Try.prog.godebug = none := by kernel_rfl
theorem Try.laidOut : laidOutB Try.prog = true := by kernel_rfl
theorem wf_i64 {x : Int} (h : (Lit.int .i64 x).wf = true) : -9223372036854775808 ≤ x ∧ x ≤ 9223372036854775807 := by
  simp [Lit.wf, IntKind.min, IntKind.max, IntKind.bits, IntKind.signed] at h
  omega

theorem list_of {α : Type} {Q : Nat → α → Prop} : ∀ {n : Nat}, (∀ i, i < n → ∃ x, Q i x) → ∃ l : List α, l.length = n ∧ ∀ k x, l[k]? = some x → Q k x
  | 0, _ => ⟨[], rfl, fun k x h => by simp at h⟩
  | n + 1, h => by
    obtain ⟨l, hl, hq⟩ := list_of (n := n) (fun i hi => h i (by omega))
    obtain ⟨y, hy⟩ := h n (by omega)
    refine ⟨l ++ [y], by simp [hl], fun k x hx => ?_⟩
    by_cases hk : k < n
    · rw [List.getElem?_append_left (by omega)] at hx
      exact hq k x hx
    · rw [List.getElem?_append_right (by omega)] at hx
      have : k = n := by
        have := (List.getElem?_eq_some_iff.1 hx).1
        simp at this
        omega
      subst this
      simp [hl] at hx
      rw [← hx]; exact hy

theorem add_plain (b off q : Nat) : (⟨b, off, none⟩ : Addr).add q = ⟨b, off + q, none⟩ := by cases q <;> simp [Addr.add]

end Go.Proofs.Ytiibeahgleaonaa

namespace Go.Proofs.Ytiibeahgleaonaa
open Go.ChangeShapes Go.WideShapes Go.ChangeAt Go.RowKit Go.Deep

theorem Try.bytes8 : Try.prog.bytesOf 5 = 1 := by kernel_rfl
theorem Try.cells8 : Try.prog.cellsOf 5 = 1 := by kernel_rfl

theorem wf_u8 {x : Int} (h : (Lit.int .u8 x).wf = true) : ∃ b : UInt8, x = (b.toNat : Int) := by
  have h' : 0 ≤ x ∧ x < 256 := by
    simp [Lit.wf, IntKind.min, IntKind.max, IntKind.bits, IntKind.signed] at h
    omega
  refine ⟨UInt8.ofNat x.toNat, ?_⟩
  rw [UInt8.toNat_ofNat']
  omega

theorem open_bytes {H : Type} {enc : TypeId × Value → H} {W : World} {base : Nat} {spare : Nat → Bool} {held : Bool} {a : Option Addr} {len cap : Nat} {d : DataW H} {p : List MemPlace}
    (h : DataW.Trod enc Try.prog W base spare held 27 (.slice a len cap) d p) : ∃ zs : List UInt8, len = zs.length ∧ BSl 0 W.heap.size W (.slice a len cap) zs ∧ (zs = [] ∨ ∃ el sp, d = .slice el sp ∧ el.length = zs.length) := by
  obtain ⟨fuel, hf⟩ := h
  rcases open_slice1 Try.underlying27 Try.cells8 hf with h0 | ⟨ad, l, c, m, n, V, D, Pl, hcs, hb, hl, hm, hmm, hx, hi⟩
  · obtain ⟨hcs, _⟩ := h0
    simp [Value.cells] at hcs
    obtain ⟨rfl, rfl, rfl⟩ := hcs
    exact ⟨[], rfl, ⟨none, 0, rfl, Nat.le_refl _, .inl rfl⟩, .inl rfl⟩
  · simp [Value.cells] at hcs
    obtain ⟨rfl, rfl, rfl⟩ := hcs
    have hlm : len ≤ m := by rw [hmm]; split <;> omega
    have key : ∀ i, i < len → ∃ x : UInt8, W.cell? (ad.add i) = some (bv x) := fun i hil => by
      obtain ⟨hc, ht⟩ := hi i (by omega)
      obtain ⟨x, e, _, w0⟩ := DataW.trod_int Try.underlying5 ht
      simp at e
      obtain ⟨b, rfl⟩ := wf_u8 w0
      exact ⟨b, by rw [hc, e]⟩
    obtain ⟨zs, hz, hq⟩ := list_of key
    refine ⟨zs, hz.symm, ⟨some ad, cap, by rw [hz], by rw [hz]; exact hl, ?_⟩, .inr ⟨_, _, (Prod.mk.inj hx).1, by simp [hz]⟩⟩
    by_cases hlen : len = 0
    · exact .inl (List.length_eq_zero_iff.1 (by omega))
    · obtain ⟨x, h0⟩ := key 0 (by omega)
      obtain ⟨b, off, sp⟩ := ad
      have hsp : sp = none := by
        cases sp with
        | none => rfl
        | some _ => simp [Addr.add, World.cell?] at h0; split at h0 <;> simp at h0
      subst hsp
      refine .inr ⟨b, off, rfl, Nat.zero_le _, World.block_lt_of_cell? W _ h0, fun k x hx => ?_⟩
      have := hq k x hx
      rwa [add_plain] at this

end Go.Proofs.Ytiibeahgleaonaa

namespace Go.Proofs.Ytiibeahgleaonaa
open Go.ChangeShapes Go.WideShapes Go.ChangeAt Go.RowKit

theorem Try.cells24 : Try.prog.cellsOf 24 = 4 := by kernel_rfl
theorem Try.cells22 : Try.prog.cellsOf 22 = 1 := by kernel_rfl

theorem wf_u64 {x : Int} (h : (Lit.int .u64 x).wf = true) : ∃ n : Nat, x = (n : Int) ∧ n < M := by
  have h' : 0 ≤ x ∧ x < 18446744073709551616 := by
    simp [Lit.wf, IntKind.min, IntKind.max, IntKind.bits, IntKind.signed] at h
    omega
  obtain ⟨n, rfl⟩ := Int.eq_ofNat_of_zero_le h'.1
  exact ⟨n, rfl, by unfold M; omega⟩

set_option maxRecDepth 100000 in
theorem open_wide {H : Type} {enc : TypeId × Value → H} {r : Reach} {w : World} {b0 base : Nat} {spare : Nat → Bool} {held : Bool} {v : Value} {d : DataW H} {p : List MemPlace}
    (hv : Value.okWide Try.prog w r b0 24 v) (h : DataW.Trod enc Try.prog w base spare held 24 v d p) : ∃ a0 a1 a2 a3 : Nat, Ok4 a0 a1 a2 a3 ∧ v = wv a0 a1 a2 a3 := by
  obtain ⟨cs, rfl, hsz, _⟩ : ∃ cs, v = .agg cs ∧ cs.size = Try.prog.cellsOf 24 ∧ Row.okWide Try.prog w r b0 24 cs := by
    simpa [Value.okWide, Try.underlying24] using hv
  rw [Try.cells24] at hsz
  obtain ⟨c0, c1, c2, c3, rfl⟩ := Joins.array4 hsz
  obtain ⟨fuel, hf⟩ := h
  obtain ⟨y0, y1, y2, y3, m, hx, hy0, hy1, hy2, hy3⟩ := trod_array4 Try.underlying24 Try.cells22 hf
  obtain ⟨x0, e0, rfl, w0⟩ := DataW.trod_int Try.underlying22 hy0
  obtain ⟨x1, e1, rfl, w1⟩ := DataW.trod_int Try.underlying22 hy1
  obtain ⟨x2, e2, rfl, w2⟩ := DataW.trod_int Try.underlying22 hy2
  obtain ⟨x3, e3, rfl, w3⟩ := DataW.trod_int Try.underlying22 hy3
  simp at e0 e1 e2 e3
  subst e0 e1 e2 e3
  obtain ⟨a0, rfl, l0⟩ := wf_u64 w0
  obtain ⟨a1, rfl, l1⟩ := wf_u64 w1
  obtain ⟨a2, rfl, l2⟩ := wf_u64 w2
  obtain ⟨a3, rfl, l3⟩ := wf_u64 w3
  exact ⟨a0, a1, a2, a3, ⟨l0, l1, l2, l3⟩, rfl⟩

end Go.Proofs.Ytiibeahgleaonaa

namespace Go.Proofs.Ytiibeahgleaonaa
open Go.ChangeShapes Go.WideShapes Go.ChangeAt Go.RowKit Go.Deep

theorem Try.cellsAsk : Try.prog.cellsOf 26 = 9 := by kernel_rfl
theorem Try.cellsBid : Try.prog.cellsOf 51 = 16 := by kernel_rfl
theorem Try.cellsInt : Try.prog.cellsOf 3 = 1 := by kernel_rfl
theorem Try.cellsStr : Try.prog.cellsOf 9 = 1 := by kernel_rfl
theorem trod_wide {H : Type} {enc : TypeId × Value → H} {w : World} {base : Nat} {spare : Nat → Bool} {held : Bool} {fuel : Nat} {c0 c1 c2 c3 : Value} {x : DataW H × List MemPlace}
    (h : DataW.trod enc Try.prog w base spare held fuel 24 [c0, c1, c2, c3] = some x) :
    ∃ a0 a1 a2 a3 : Nat, c0 = .int .u64 (a0 : Int) ∧ c1 = .int .u64 (a1 : Int) ∧ c2 = .int .u64 (a2 : Int) ∧ c3 = .int .u64 (a3 : Int) ∧ Ok4 a0 a1 a2 a3 := by
  obtain ⟨u0, u1, u2, u3, m, hx3, g0, g1, g2, g3⟩ := trod_array4 Try.underlying24 Try.cells22 h
  obtain ⟨v0, k0, _, wg0⟩ := DataW.trod_int Try.underlying22 g0
  obtain ⟨v1, k1, _, wg1⟩ := DataW.trod_int Try.underlying22 g1
  obtain ⟨v2, k2, _, wg2⟩ := DataW.trod_int Try.underlying22 g2
  obtain ⟨v3, k3, _, wg3⟩ := DataW.trod_int Try.underlying22 g3
  obtain ⟨a0, rfl, q0⟩ := wf_u64 wg0
  obtain ⟨a1, rfl, q1⟩ := wf_u64 wg1
  obtain ⟨a2, rfl, q2⟩ := wf_u64 wg2
  obtain ⟨a3, rfl, q3⟩ := wf_u64 wg3
  simp at k0 k1 k2 k3
  exact ⟨a0, a1, a2, a3, k0, k1, k2, k3, ⟨q0, q1, q2, q3⟩⟩
set_option maxRecDepth 100000 in
theorem trod_ask {H : Type} {enc : TypeId × Value → H} {w : World} {base : Nat} {spare : Nat → Bool} {held : Bool} {fuel : Nat} {cs : List Value} {x : DataW H × List MemPlace}
    (h : DataW.trod enc Try.prog w base spare held fuel 26 cs = some x) :
    ∃ a : Ak, cs = akc a ∧ OkA a := by
  obtain ⟨xs, n, _, hx, hcl, hlen, hg⟩ := DataW.trod_struct Try.underlying26 h
  rw [Try.cellsAsk] at hcl
  match cs, hcl with
  | [c0, c1, c2, c3, c4, c5, c6, c7, c8], _ =>
  match xs, hlen with
  | [y0, y1, y2, y3, y4, y5], _ =>
  have h0 := hg 0 ⟨ "User", 3, 0, false, "", "", 0⟩ rfl
  have h1 := hg 1 ⟨ "Send", 3, 1, false, "", "", 8⟩ rfl
  have h2 := hg 2 ⟨ "Recv", 3, 2, false, "", "", 16⟩ rfl
  have h3 := hg 3 ⟨ "To", 3, 3, false, "", "", 24⟩ rfl
  have h4 := hg 4 ⟨ "Amount", 24, 4, false, "", "", 32⟩ rfl
  have h5 := hg 5 ⟨ "Id", 9, 8, false, "", "", 64⟩ rfl
  dsimp only at h0 h1 h2 h3 h4 h5
  rw [Try.cellsInt] at h0 h1 h2 h3
  rw [Try.cells24] at h4
  rw [Try.cellsStr] at h5
  simp only [List.drop_succ_cons, List.drop_zero, List.take_succ_cons, List.take_zero, List.getElem?_cons_zero, List.getElem?_cons_succ] at h0 h1 h2 h3 h4 h5
  obtain ⟨z0, e0, _, _⟩ := DataW.trod_int Try.underlying3 h0
  obtain ⟨z1, e1, _, _⟩ := DataW.trod_int Try.underlying3 h1
  obtain ⟨z2, e2, _, _⟩ := DataW.trod_int Try.underlying3 h2
  obtain ⟨z3, e3, _, _⟩ := DataW.trod_int Try.underlying3 h3
  obtain ⟨a0, a1, a2, a3, f0, f1, f2, f3, hk⟩ := trod_wide h4
  obtain ⟨s5, e5, _, _⟩ := DataW.trod_string Try.underlying9 h5
  simp at e0 e1 e2 e3 e5
  subst e0 e1 e2 e3 f0 f1 f2 f3 e5
  exact ⟨⟨z0, z1, z2, z3, a0, a1, a2, a3, s5⟩, rfl, ⟨hk⟩⟩
set_option maxRecDepth 100000 in
theorem trod_bid {H : Type} {enc : TypeId × Value → H} {w : World} {base : Nat} {spare : Nat → Bool} {held : Bool} {fuel : Nat} {cs : List Value} {x : DataW H × List MemPlace}
    (h : DataW.trod enc Try.prog w base spare held fuel 51 cs = some x) :
    ∃ b : Bd, cs = bdc b ∧ OkB b := by
  obtain ⟨xs, n, _, hx, hcl, hlen, hg⟩ := DataW.trod_struct Try.underlying51 h
  rw [Try.cellsBid] at hcl
  match cs, hcl with
  | [c0, c1, c2, c3, c4, c5, c6, c7, c8, c9, c10, c11, c12, c13, c14, c15], _ =>
  match xs, hlen with
  | [y0, y1, y2, y3, y4], _ =>
  have h0 := hg 0 ⟨ "Router", 3, 0, false, "", "", 0⟩ rfl
  have h1 := hg 1 ⟨ "Ask", 26, 1, false, "", "", 8⟩ rfl
  have h2 := hg 2 ⟨ "Amount", 24, 10, false, "", "", 88⟩ rfl
  have h3 := hg 3 ⟨ "Until", 3, 14, false, "", "", 120⟩ rfl
  have h4 := hg 4 ⟨ "Sig", 9, 15, false, "", "", 128⟩ rfl
  dsimp only at h0 h1 h2 h3 h4
  rw [Try.cellsInt] at h0 h3
  rw [Try.cellsAsk] at h1
  rw [Try.cells24] at h2
  rw [Try.cellsStr] at h4
  simp only [List.drop_succ_cons, List.drop_zero, List.take_succ_cons, List.take_zero, List.getElem?_cons_zero, List.getElem?_cons_succ] at h0 h1 h2 h3 h4
  obtain ⟨z0, e0, _, _⟩ := DataW.trod_int Try.underlying3 h0
  obtain ⟨a, ha, hk⟩ := trod_ask h1
  obtain ⟨b0, b1, b2, b3, f0, f1, f2, f3, hk2⟩ := trod_wide h2
  obtain ⟨z3, e3, _, _⟩ := DataW.trod_int Try.underlying3 h3
  obtain ⟨s4, e4, _, _⟩ := DataW.trod_string Try.underlying9 h4
  simp at e0 e3 e4
  simp only [akc, List.cons.injEq, and_true] at ha
  obtain ⟨q0, q1, q2, q3, q4, q5, q6, q7, q8⟩ := ha
  subst e0 e3 e4 f0 f1 f2 f3 q0 q1 q2 q3 q4 q5 q6 q7 q8
  exact ⟨⟨z0, a, b0, b1, b2, b3, z3, s4⟩, rfl, ⟨hk.k, hk2⟩⟩

set_option maxRecDepth 100000 in
theorem agg8_of {v : Value} {w : World} {r : Reach} {b0 t : Nat} {fs : Array Field} (hu : Try.prog.underlying t = some (.struct fs)) (hv : Value.okWide Try.prog w r b0 t v) : ∃ cs, v = .agg cs := by
  obtain ⟨cs, rfl, _⟩ : ∃ cs, v = .agg cs ∧ cs.size = Try.prog.cellsOf t ∧ Row.okWide Try.prog w r b0 t cs := by
    simpa [Value.okWide, hu] using hv
  exact ⟨cs, rfl⟩
set_option maxRecDepth 100000 in
theorem open_ask {H : Type} {enc : TypeId × Value → H} {r : Reach} {w : World} {b0 base : Nat} {spare : Nat → Bool} {held : Bool} {v : Value} {d : DataW H} {p : List MemPlace}
    (hv : Value.okWide Try.prog w r b0 26 v) (h : DataW.Trod enc Try.prog w base spare held 26 v d p) :
    ∃ a : Ak, v = akv a ∧ OkA a := by
  obtain ⟨cs, rfl⟩ := agg8_of Try.underlying26 hv
  obtain ⟨fuel, hf⟩ := h
  obtain ⟨a, hc, h1⟩ := trod_ask hf
  refine ⟨a, ?_, h1⟩
  have : cs.toList = akc a := hc
  rw [show cs = (akc a).toArray from by rw [← this]]
set_option maxRecDepth 100000 in
theorem open_bid {H : Type} {enc : TypeId × Value → H} {r : Reach} {w : World} {b0 base : Nat} {spare : Nat → Bool} {held : Bool} {v : Value} {d : DataW H} {p : List MemPlace}
    (hv : Value.okWide Try.prog w r b0 51 v) (h : DataW.Trod enc Try.prog w base spare held 51 v d p) :
    ∃ b : Bd, v = bdv b ∧ OkB b := by
  obtain ⟨cs, rfl⟩ := agg8_of Try.underlying51 hv
  obtain ⟨fuel, hf⟩ := h
  obtain ⟨b, hc, h1⟩ := trod_bid hf
  refine ⟨b, ?_, h1⟩
  have : cs.toList = bdc b := hc
  rw [show cs = (bdc b).toArray from by rw [← this]]
end Go.Proofs.Ytiibeahgleaonaa
