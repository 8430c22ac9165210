/-
  A new Out; octets that are handed back.
  A thing that is stored beside an object.
  An ask, read of an In.
-/
import Derived.Deep.Cut
import Derived.Test.YtiibeahgleaonaaK06
namespace Go.Proofs.Ytiibeahgleaonaa
open Go.RowKit Go.Shelf

/-- What is made, and known: a new Out. -/
def NewO (w : World) (e : Ending) (W' : World) : Prop := ∃ NB, e = .returned (.pointer (some ⟨NB, 0, none⟩)) ∧ w.heap.size ≤ NB ∧ ObjP 56 W' (some ⟨NB, 0, none⟩) ([], 0) ∧ Below w.heap.size w W'
theorem outNewO_any (w : World) : Calls Try.prog 6 #[] w (NewO w) :=
  (outNew_any w).mono fun _ _ ⟨h1, _, h3, h4⟩ => ⟨_, h1, Nat.le_refl _, h3, h4⟩
theorem below_did {T : TypeId} {NB : Nat} {s : St} {w W : World} {e : Ending} {W' : World} (hB : Below w.heap.size w W) (hN : w.heap.size ≤ NB) (h : DidS T (some ⟨NB, 0, none⟩) s W e W') : Below w.heap.size w W' :=
  hB.grown h.2.2 hB.size (fun k e => by cases e; exact hN)

/-- Octets that are handed back. -/
def OctsL (l : List UInt8) (w : World) (e : Ending) (W' : World) : Prop := ∃ sv, e = .returned sv ∧ BSl 0 W'.heap.size W' sv l ∧ Below w.heap.size w W'
end Go.Proofs.Ytiibeahgleaonaa

namespace Go.Proofs.Ytiibeahgleaonaa
open Go.RowKit Go.Shelf

theorem grown_set {w W : World} {row : Option Nat} {B i : Nat} {v : Value} (h : w.grownBy W row) (hB : w.heap.size ≤ B) : w.grownBy (W.setCell ⟨B, i, none⟩ v) row := by
  have g := grownBy_setCell4 W B i v
  exact ⟨g.os.trans h.os, g.tape.trans h.tape, g.output.trans h.output, Nat.le_trans h.size g.size, fun k hk hr => (g.block k (Nat.lt_of_lt_of_le hk h.size) (by intro e; cases e; omega)).trans (h.block k hk hr)⟩
theorem noBv_i (x : Int) (y : UInt8) : (.int .i64 x : Value) ≠ bv y := by simp [bv]
theorem noBv_s (x : ByteArray) (y : UInt8) : (.string x : Value) ≠ bv y := by simp [bv]
theorem noBv_u (x : Int) (y : UInt8) : (.int .u64 x : Value) ≠ bv y := by simp [bv]
/-- One thing is stored beside an object. -/
theorem objP_one {T : TypeId} {W : World} {p : Option Addr} {s : St} {B k : Nat} {v : Value} (h : ObjP T W p s) (hno : NoOct W B) (hne : some B ≠ p.map (·.block)) : ObjP T (W.setCell ⟨B, k, none⟩ v) p s :=
  h.to (grownBy_setCell4 W B k v) (fun r e => by cases e; exact ⟨hno, fun e => hne e.symm⟩)
theorem errS_ne (s : St) : (errS s 16).2 ≠ 0 := by
  unfold errS; split
  · simp
  · assumption
end Go.Proofs.Ytiibeahgleaonaa

namespace Go.Proofs.Ytiibeahgleaonaa
open Go.RowKit Go.Shelf

theorem noOct9 {W : World} {B : Nat} {T : TypeId} {i : Ak} (h : Blk W B T (akc i)) : NoOct W B := noOct_blk h (by
  intro v hv y
  simp only [akc, List.mem_cons, List.not_mem_nil, or_false] at hv
  rcases hv with rfl | rfl | rfl | rfl | rfl | rfl | rfl | rfl | rfl <;> simp [bv])
theorem stored9 {T : TypeId} {p : Option Addr} {s : St} {w Y : World} {R : Nat} {i : Ak} (hO : ObjP T Y p s) (hG : w.grownBy Y (p.map (·.block))) (kR : Blk Y R 26 (akc i)) (hR : w.heap.size ≤ R) (hne : some R ≠ p.map (·.block)) (x : Ak) :
    Blk (((((((((Y.setCell ⟨R, 0, none⟩ (.int .i64 x.us)).setCell ⟨R, 1, none⟩ (.int .i64 x.se)).setCell ⟨R, 2, none⟩ (.int .i64 x.re)).setCell ⟨R, 3, none⟩ (.int .i64 x.to)).setCell ⟨R, 4, none⟩ (.int .u64 (x.a0 : Nat))).setCell ⟨R, 5, none⟩ (.int .u64 (x.a1 : Nat))).setCell ⟨R, 6, none⟩ (.int .u64 (x.a2 : Nat))).setCell ⟨R, 7, none⟩ (.int .u64 (x.a3 : Nat))).setCell ⟨R, 8, none⟩ (.string x.id)) R 26 (akc x) ∧ ObjP T (((((((((Y.setCell ⟨R, 0, none⟩ (.int .i64 x.us)).setCell ⟨R, 1, none⟩ (.int .i64 x.se)).setCell ⟨R, 2, none⟩ (.int .i64 x.re)).setCell ⟨R, 3, none⟩ (.int .i64 x.to)).setCell ⟨R, 4, none⟩ (.int .u64 (x.a0 : Nat))).setCell ⟨R, 5, none⟩ (.int .u64 (x.a1 : Nat))).setCell ⟨R, 6, none⟩ (.int .u64 (x.a2 : Nat))).setCell ⟨R, 7, none⟩ (.int .u64 (x.a3 : Nat))).setCell ⟨R, 8, none⟩ (.string x.id)) p s ∧ w.grownBy (((((((((Y.setCell ⟨R, 0, none⟩ (.int .i64 x.us)).setCell ⟨R, 1, none⟩ (.int .i64 x.se)).setCell ⟨R, 2, none⟩ (.int .i64 x.re)).setCell ⟨R, 3, none⟩ (.int .i64 x.to)).setCell ⟨R, 4, none⟩ (.int .u64 (x.a0 : Nat))).setCell ⟨R, 5, none⟩ (.int .u64 (x.a1 : Nat))).setCell ⟨R, 6, none⟩ (.int .u64 (x.a2 : Nat))).setCell ⟨R, 7, none⟩ (.int .u64 (x.a3 : Nat))).setCell ⟨R, 8, none⟩ (.string x.id)) (p.map (·.block)) := by
  have st : ∀ (vs : List Value) (W : World) (k : Nat) (v : Value), Blk W R 26 vs → (∀ u ∈ vs, ∀ y, u ≠ bv y) → (∀ y, v ≠ bv y) → ObjP T W p s → w.grownBy W (p.map (·.block)) →
      Blk (W.setCell ⟨R, k, none⟩ v) R 26 (vs.set k v) ∧ (∀ u ∈ vs.set k v, ∀ y, u ≠ bv y) ∧ ObjP T (W.setCell ⟨R, k, none⟩ v) p s ∧ w.grownBy (W.setCell ⟨R, k, none⟩ v) (p.map (·.block)) := by
    intro vs W k v kW hno hv h g
    refine ⟨kW.set k v, fun u hu => ?_, h.to (grownBy_setCell4 W R k v) (fun r e => by cases e; exact ⟨noOct_blk kW hno, fun e => hne e.symm⟩), grown_set g hR⟩
    rcases List.mem_or_eq_of_mem_set hu with h1 | rfl
    · exact hno u h1
    · exact hv
  have h0 : ∀ u ∈ akc i, ∀ y, u ≠ bv y := by
    intro u hu y
    simp only [akc, List.mem_cons, List.not_mem_nil, or_false] at hu
    rcases hu with rfl | rfl | rfl | rfl | rfl | rfl | rfl | rfl | rfl <;> simp [bv]
  obtain ⟨k0, n0, o0, g0⟩ := st _ _ 0 (.int .i64 x.us) kR h0 (by intro y; simp [bv]) hO hG
  obtain ⟨k1, n1, o1, g1⟩ := st _ _ 1 (.int .i64 x.se) k0 n0 (by intro y; simp [bv]) o0 g0
  obtain ⟨k2, n2, o2, g2⟩ := st _ _ 2 (.int .i64 x.re) k1 n1 (by intro y; simp [bv]) o1 g1
  obtain ⟨k3, n3, o3, g3⟩ := st _ _ 3 (.int .i64 x.to) k2 n2 (by intro y; simp [bv]) o2 g2
  obtain ⟨k4, n4, o4, g4⟩ := st _ _ 4 (.int .u64 (x.a0 : Nat)) k3 n3 (by intro y; simp [bv]) o3 g3
  obtain ⟨k5, n5, o5, g5⟩ := st _ _ 5 (.int .u64 (x.a1 : Nat)) k4 n4 (by intro y; simp [bv]) o4 g4
  obtain ⟨k6, n6, o6, g6⟩ := st _ _ 6 (.int .u64 (x.a2 : Nat)) k5 n5 (by intro y; simp [bv]) o5 g5
  obtain ⟨k7, n7, o7, g7⟩ := st _ _ 7 (.int .u64 (x.a3 : Nat)) k6 n6 (by intro y; simp [bv]) o6 g6
  obtain ⟨k8, n8, o8, g8⟩ := st _ _ 8 (.string x.id) k7 n7 (by intro y; simp [bv]) o7 g7
  exact ⟨k8, o8, g8⟩
theorem stored9z {T : TypeId} {p : Option Addr} {s : St} {w Y : World} {R : Nat} {i : Ak} (hO : ObjP T Y p s) (hG : w.grownBy Y (p.map (·.block))) (kR : Blk Y R 26 (akc i)) (hR : w.heap.size ≤ R) (hne : some R ≠ p.map (·.block)) :
    Blk (((((((((Y.setCell ⟨R, 0, none⟩ (.int .i64 0)).setCell ⟨R, 1, none⟩ (.int .i64 0)).setCell ⟨R, 2, none⟩ (.int .i64 0)).setCell ⟨R, 3, none⟩ (.int .i64 0)).setCell ⟨R, 4, none⟩ (.int .u64 0)).setCell ⟨R, 5, none⟩ (.int .u64 0)).setCell ⟨R, 6, none⟩ (.int .u64 0)).setCell ⟨R, 7, none⟩ (.int .u64 0)).setCell ⟨R, 8, none⟩ (.string ⟨#[]⟩)) R 26 [.int .i64 0, .int .i64 0, .int .i64 0, .int .i64 0, .int .u64 0, .int .u64 0, .int .u64 0, .int .u64 0, .string ⟨#[]⟩] ∧ ObjP T (((((((((Y.setCell ⟨R, 0, none⟩ (.int .i64 0)).setCell ⟨R, 1, none⟩ (.int .i64 0)).setCell ⟨R, 2, none⟩ (.int .i64 0)).setCell ⟨R, 3, none⟩ (.int .i64 0)).setCell ⟨R, 4, none⟩ (.int .u64 0)).setCell ⟨R, 5, none⟩ (.int .u64 0)).setCell ⟨R, 6, none⟩ (.int .u64 0)).setCell ⟨R, 7, none⟩ (.int .u64 0)).setCell ⟨R, 8, none⟩ (.string ⟨#[]⟩)) p s ∧ w.grownBy (((((((((Y.setCell ⟨R, 0, none⟩ (.int .i64 0)).setCell ⟨R, 1, none⟩ (.int .i64 0)).setCell ⟨R, 2, none⟩ (.int .i64 0)).setCell ⟨R, 3, none⟩ (.int .i64 0)).setCell ⟨R, 4, none⟩ (.int .u64 0)).setCell ⟨R, 5, none⟩ (.int .u64 0)).setCell ⟨R, 6, none⟩ (.int .u64 0)).setCell ⟨R, 7, none⟩ (.int .u64 0)).setCell ⟨R, 8, none⟩ (.string ⟨#[]⟩)) (p.map (·.block)) := stored9 hO hG kR hR hne ⟨0, 0, 0, 0, 0, 0, 0, 0, ⟨#[]⟩⟩
/-- An ask is read, or none; the state behind it. -/
def GotA (T : TypeId) (p : Option Addr) (r : Ak × St) (w : World) (e : Ending) (W' : World) : Prop :=
  e = .returned (akv r.1) ∧ ObjP T W' p r.2 ∧ w.grownBy W' (p.map (·.block))
/-- k numbers are read. -/
def adK (s : St) (k : Nat) : St := match k with | 0 => s | k + 1 => (mostS (adK s k) 6 big).2
def nmK (s : St) (k : Nat) : Nat := (mostS (adK s k) 6 big).1
def lcK (s : St) (k : Nat) : List Value := match k with | 0 => akc noA | k + 1 => (lcK s k).set k (.int .i64 (nmK s k : Nat))
theorem lcK_at (s : St) {k : Nat} (hk : k < 4) : (lcK s k)[k]? = some (.int .i64 0) := by
  obtain rfl | rfl | rfl | rfl : k = 0 ∨ k = 1 ∨ k = 2 ∨ k = 3 := by omega
  all_goals rfl
theorem lcK_no (s : St) (k : Nat) : ∀ u ∈ lcK s k, ∀ y, u ≠ bv y := by
  induction k with
  | zero =>
    intro u hu y
    simp only [lcK, akc, List.mem_cons, List.not_mem_nil, or_false] at hu
    rcases hu with rfl | rfl | rfl | rfl | rfl | rfl | rfl | rfl | rfl <;> simp [bv]
  | succ k ih =>
    intro u hu y
    rcases List.mem_or_eq_of_mem_set hu with h1 | rfl
    · exact ih u h1 y
    · simp [bv]
theorem lcK_4 (s : St) : lcK s 4 = akc ⟨((ad0 s).1 : Nat), ((ad1 s).1 : Nat), ((ad2 s).1 : Nat), ((ad3 s).1 : Nat), 0, 0, 0, 0, ⟨#[]⟩⟩ := rfl
set_option maxRecDepth 100000 in
theorem idx_ptr4 (L : Nat) (w : World) {k : Nat} (hk : k < 4) :
    (Instr.index 76 (.agg #[.pointer (some ⟨L, 0, none⟩), .pointer (some ⟨L, 1, none⟩), .pointer (some ⟨L, 2, none⟩), .pointer (some ⟨L, 3, none⟩)]) (.int .i64 k)).run Try.prog w = .ok (.pointer (some ⟨L, k, none⟩)) w := by
  have hs : ∀ j : Nat, (sizeOf 75).run Try.prog w = .ok 1 w := fun _ => by kernel_rfl
  obtain rfl | rfl | rfl | rfl : k = 0 ∨ k = 1 ∨ k = 2 ∨ k = 3 := by omega
  all_goals
    simp [Instr.index, run_underlying Try.underlying76, asIntOf, hs 0, go_sem]

set_option maxRecDepth 100000 in
set_option maxHeartbeats 4000000 in
theorem bidGetAsk_any {p : Option Addr} {s : St} (w : World) (h : ObjP 66 w p s) :
    Calls Try.prog 14 #[.pointer p] w (GotA 66 p (getA s) w) := by
  have HN : Hid (∀ st W, ObjP 66 W p st → Calls Try.prog 33 #[.pointer p, .int .i64 1099511627776] W (NumS 66 p (mostS st 6 big) W)) := Lib.hid fun st W hO => inNumP_any (p := p) 1099511627776 1099511627776 (Or.inr ⟨by omega, rfl⟩) W hO
  have H0 : Hid (∀ W, ObjP 66 W p (ad3 s).2 → Calls Try.prog 34 #[.pointer p] W (WidS 66 p (ad4 s) W)) := Lib.hid fun W hO => inWide_any W hO
  have H1 : Hid (∀ W, ObjP 66 W p (ad4 s).2 → Calls Try.prog 35 #[.pointer p, .int .i64 16] W (TxtS 66 p (ad5 s) W)) := Lib.hid fun W hO => inTextP_any (p := p) 16 16 (Or.inr ⟨by omega, rfl⟩) W hO
  have HNR := Lib.hid (ptr_lt h (Nat.le_refl w.heap.size))
  have HNL := Lib.hid (ptr_lt h (Nat.le_succ w.heap.size))
  have hz0 : (w.alloc (.cells (akc noA).toArray 26)).heap.size = w.heap.size + 1 := by simp
  have kR := (Blk.new w 26 (akc noA)).alloc (.cells (akc noA).toArray 26)
  have kL : Blk ((w.alloc (.cells (akc noA).toArray 26)).alloc (.cells (akc noA).toArray 26)) (w.heap.size + 1) 26 (akc noA) := Blk.new' hz0
  have hG := (World.grownBy_alloc w (.cells (akc noA).toArray 26) (p.map (·.block))).trans (World.grownBy_alloc _ (.cells (akc noA).toArray 26) (p.map (·.block)))
  have hO0 := (h.below (chain0 w (.cells (akc noA).toArray 26))).below (chain0 _ (.cells (akc noA).toArray 26))
  clear h hz0
  go_enter Try.func14, Try.ntmps14
  go_wp2_with fail
  go_loopw [11] (fun n wr => ∃ k : Nat, k ≤ 4 ∧ n = .int .i64 k ∧ ObjP 66 wr p (adK s k) ∧ w.grownBy wr (p.map (·.block)) ∧ Blk wr w.heap.size 26 (akc noA) ∧ Blk wr (w.heap.size + 1) 26 (lcK s k)) (fun n _ => 4 - (intOf n).toNat)
  case atStart => exact ⟨0, by omega, rfl, hO0, hG, kR, kL⟩
  case round =>
    clear hO0 hG kR kL
    obtain ⟨k, hk, rfl, hO, hG, kR, kL⟩ := hrel
    by_cases hlt : k < 4
    · have hlt' : (k : Int) < 4 := by omega
      have HI := Lib.hid (fun W => idx_ptr4 (w.heap.size + 1) W hlt)
      have HS : Hid (adK s (k + 1) = (mostS (adK s k) 6 big).2) := Lib.hid rfl
      have HLC : Hid (lcK s (k + 1) = (lcK s k).set k (.int .i64 ((mostS (adK s k) 6 big).1 : Nat))) := Lib.hid rfl
      have HAT := Lib.hid (lcK_at s hlt)
      have HNO := Lib.hid (lcK_no s k)
      generalize lcK s k = lc at *
      generalize adK s k = st at *
      generalize hm : mostS st 6 big = m at *
      have HM := Lib.hid hm
      clear hm
      go_wp2_with (first
        | (refine wpList_indexTo rfl 76 (.tmp 10) (.tmp 11) rfl (some 13) rfl _ (HI.out _) ?_)
        | (go_at_call 33; refine (HN.out st _ hO).mono ?_; rw [HM.out]; rintro e W1 ⟨rfl, q, g⟩; replace hG := hG.trans g; replace kR := kR.kept g HNR.out; replace kL := kL.kept g HNL.out; have z := (kL.cell k).trans HAT.out; have f := kL.frozen k))
      go_roundw
      case rel => exact ⟨k + 1, by omega, by go_num, by rw [HS.out]; exact objP_one q (noOct_blk kL HNO.out) HNL.out, grown_set hG (Nat.le_succ _), kR.other _ _ (by omega), by rw [HLC.out]; exact kL.set _ _⟩
      case measure => simp [intOf]; omega
    · obtain rfl : k = 4 := by omega
      rw [lcK_4] at kL
      replace hO : ObjP 66 wr p (ad3 s).2 := hO
      generalize hu0 : wdS (ad4 s).1 0 = u0 at *
      generalize hu1 : wdS (ad4 s).1 1 = u1 at *
      generalize hu2 : wdS (ad4 s).1 2 = u2 at *
      generalize hu3 : wdS (ad4 s).1 3 = u3 at *
      have HRW : Hid (rawA s = ⟨((ad0 s).1 : Nat), ((ad1 s).1 : Nat), ((ad2 s).1 : Nat), ((ad3 s).1 : Nat), u0, u1, u2, u3, str (ad5 s).1⟩) := Lib.hid (by rw [rawA, hu0, hu1, hu2, hu3])
      have HQ0 : Hid (∀ W, ObjP 66 W p (ad3 s).2 → Calls Try.prog 34 #[.pointer p] W (fun e W' => e = .returned (wv u0 u1 u2 u3) ∧ ObjP 66 W' p (ad4 s).2 ∧ W.grownBy W' (p.map (·.block)))) := Lib.hid fun W hO => (H0.out W hO).mono (by rintro e W' ⟨rfl, a, b⟩; exact ⟨by rw [hu0, hu1, hu2, hu3], a, b⟩)
      clear hu0 hu1 hu2 hu3 H0
      go_upto_region 9 with (first
        | (go_at_call 34; refine (HQ0.out _ hO).mono ?_; rintro e W0 ⟨rfl, q, g⟩; replace hG := World.grownBy.trans hG g; replace kR := kR.kept g HNR.out; replace kL := kL.kept g HNL.out; obtain ⟨z0, z1, z2, z3, z4, z5, z6, z7, z8⟩ := Blk.c9 kL; have f := kL.frozen; replace q := objP_one (B := w.heap.size + 1) (k := 4) (v := .int .u64 (u0 : Nat)) q (noOct9 kL) HNL.out; replace kR := kR.other (B' := w.heap.size + 1) 4 (.int .u64 (u0 : Nat)) (by omega); replace kL : Blk _ (w.heap.size + 1) 26 (akc ⟨((ad0 s).1 : Nat), ((ad1 s).1 : Nat), ((ad2 s).1 : Nat), ((ad3 s).1 : Nat), u0, 0, 0, 0, ⟨#[]⟩⟩) := kL.set 4 (.int .u64 (u0 : Nat)); replace hG := grown_set (B := w.heap.size + 1) (i := 4) (v := .int .u64 (u0 : Nat)) hG (Nat.le_succ _); replace q := objP_one (B := w.heap.size + 1) (k := 5) (v := .int .u64 (u1 : Nat)) q (noOct9 kL) HNL.out; replace kR := kR.other (B' := w.heap.size + 1) 5 (.int .u64 (u1 : Nat)) (by omega); replace kL : Blk _ (w.heap.size + 1) 26 (akc ⟨((ad0 s).1 : Nat), ((ad1 s).1 : Nat), ((ad2 s).1 : Nat), ((ad3 s).1 : Nat), u0, u1, 0, 0, ⟨#[]⟩⟩) := kL.set 5 (.int .u64 (u1 : Nat)); replace hG := grown_set (B := w.heap.size + 1) (i := 5) (v := .int .u64 (u1 : Nat)) hG (Nat.le_succ _); replace q := objP_one (B := w.heap.size + 1) (k := 6) (v := .int .u64 (u2 : Nat)) q (noOct9 kL) HNL.out; replace kR := kR.other (B' := w.heap.size + 1) 6 (.int .u64 (u2 : Nat)) (by omega); replace kL : Blk _ (w.heap.size + 1) 26 (akc ⟨((ad0 s).1 : Nat), ((ad1 s).1 : Nat), ((ad2 s).1 : Nat), ((ad3 s).1 : Nat), u0, u1, u2, 0, ⟨#[]⟩⟩) := kL.set 6 (.int .u64 (u2 : Nat)); replace hG := grown_set (B := w.heap.size + 1) (i := 6) (v := .int .u64 (u2 : Nat)) hG (Nat.le_succ _); replace q := objP_one (B := w.heap.size + 1) (k := 7) (v := .int .u64 (u3 : Nat)) q (noOct9 kL) HNL.out; replace kR := kR.other (B' := w.heap.size + 1) 7 (.int .u64 (u3 : Nat)) (by omega); replace kL : Blk _ (w.heap.size + 1) 26 (akc ⟨((ad0 s).1 : Nat), ((ad1 s).1 : Nat), ((ad2 s).1 : Nat), ((ad3 s).1 : Nat), u0, u1, u2, u3, ⟨#[]⟩⟩) := kL.set 7 (.int .u64 (u3 : Nat)); replace hG := grown_set (B := w.heap.size + 1) (i := 7) (v := .int .u64 (u3 : Nat)) hG (Nat.le_succ _); have hO1 := q; clear q g hO)
        | (go_at_call 35; refine (H1.out _ hO1).mono ?_; rintro e W1 ⟨rfl, q, g⟩; replace hG := World.grownBy.trans hG g; replace kR := kR.kept g HNR.out; replace kL := kL.kept g HNL.out; clear z0 z1 z2 z3 z4 z5 z6 z7 z8 f; have z8 := (kL.cell 8).trans rfl; have f := kL.frozen 8; have hO2 := objP_one (B := w.heap.size + 1) (k := 8) (v := .string ⟨(ad5 s).1.toArray⟩) q (noOct9 kL) HNL.out; replace kR := kR.other (B' := w.heap.size + 1) 8 (.string ⟨(ad5 s).1.toArray⟩) (by omega); replace kL : Blk _ (w.heap.size + 1) 26 (akc ⟨((ad0 s).1 : Nat), ((ad1 s).1 : Nat), ((ad2 s).1 : Nat), ((ad3 s).1 : Nat), u0, u1, u2, u3, str (ad5 s).1⟩) := kL.set 8 (.string ⟨(ad5 s).1.toArray⟩); replace hG := grown_set (B := w.heap.size + 1) (i := 8) (v := .string ⟨(ad5 s).1.toArray⟩) hG (Nat.le_succ _); clear q g hO1))
      clear H1 HQ0 HN z8 f
      generalize hY : (World.setCell W1 _ _) = Y at *
      clear hY
      obtain ⟨c0, c1, c2, c3, c4, c5, c6, c7, c8⟩ := Blk.c9 kL
      have HC : Hid (∀ W, Calls Try.prog 16 #[akv ⟨((ad0 s).1 : Nat), ((ad1 s).1 : Nat), ((ad2 s).1 : Nat), ((ad3 s).1 : Nat), u0, u1, u2, u3, str (ad5 s).1⟩] W fun e W' => e = .returned (.int .i64 (errA (rawA s))) ∧ Below W.heap.size W W') := Lib.hid (by rw [HRW.out]; exact checkAsk_any _)
      have hes : ((errS (ad5 s).2 16).2 != 0) = true := by simpa using errS_ne (ad5 s).2
      have hes2 : ((errS (ad5 s).2 16).2 == 0) = false := by simpa using errS_ne (ad5 s).2
      by_cases hm : maybeA (rawA s)
      · have HE := Lib.hid (errA_zero hm)
        by_cases he : (ad5 s).2.2 = 0
        · have hq1 : ((ad5 s).2.2 == 0) = true := by simpa using he
          have hq2 : ((ad5 s).2.2 != 0) = false := by simpa using he
          have HX := Lib.hid (getA_yes he hm)
          clear he hm
          go_wp2_with (first
            | (go_at_call 16; refine (HC.out _).mono ?_; rw [HE.out]; rintro e V0 ⟨rfl, hb⟩; replace kR := kR.below hb kR.lt; replace kL := kL.below hb kL.lt; replace hG := World.grownBy.trans hG (grew hb _); replace hO2 := hO2.below hb; clear c0 c1 c2 c3 c4 c5 c6 c7 c8; obtain ⟨r0, r1, r2, r3, r4, r5, r6, r7, r8⟩ := Blk.c9 kR; have fr := kR.frozen; obtain ⟨c0, c1, c2, c3, c4, c5, c6, c7, c8⟩ := Blk.c9 kL)
            | (go_at_call 15; refine (inErr_any _ hO2).mono ?_; rintro e V2 ⟨rfl, rfl⟩))
          obtain ⟨kZ, oZ, gZ⟩ := stored9 hO2 hG kR (Nat.le_refl _) HNR.out ⟨((ad0 s).1 : Nat), ((ad1 s).1 : Nat), ((ad2 s).1 : Nat), ((ad3 s).1 : Nat), u0, u1, u2, u3, str (ad5 s).1⟩
          try dsimp only at kZ oZ gZ
          obtain ⟨q0, q1, q2, q3, q4, q5, q6, q7, q8⟩ := Blk.c9 kZ
          exact bodyPost_ret (v := akv ⟨((ad0 s).1 : Nat), ((ad1 s).1 : Nat), ((ad2 s).1 : Nat), ((ad3 s).1 : Nat), u0, u1, u2, u3, str (ad5 s).1⟩) (by simp [results, Try.results14, go_sem, q0, q1, q2, q3, q4, q5, q6, q7, q8]; try rfl) rfl ⟨by rw [HX.out, HRW.out]; try rfl, by rw [HX.out]; exact oZ, gZ⟩
        · have hq1 : ((ad5 s).2.2 == 0) = false := by simpa using he
          have hq2 : ((ad5 s).2.2 != 0) = true := by simpa using he
          have HX := Lib.hid (getA_bad he)
          clear he hm
          go_wp2_with (first
            | (go_at_call 16; refine (HC.out _).mono ?_; rw [HE.out]; rintro e V0 ⟨rfl, hb⟩; replace kR := kR.below hb kR.lt; replace kL := kL.below hb kL.lt; replace hG := World.grownBy.trans hG (grew hb _); replace hO2 := hO2.below hb; clear c0 c1 c2 c3 c4 c5 c6 c7 c8; obtain ⟨r0, r1, r2, r3, r4, r5, r6, r7, r8⟩ := Blk.c9 kR; have fr := kR.frozen; obtain ⟨c0, c1, c2, c3, c4, c5, c6, c7, c8⟩ := Blk.c9 kL)
            | (go_at_call 15; refine (inErr_any _ hO2).mono ?_; rintro e V2 ⟨rfl, rfl⟩))
          obtain ⟨kZ, oZ, gZ⟩ := stored9z hO2 hG kR (Nat.le_refl _) HNR.out
          try dsimp only at kZ oZ gZ
          obtain ⟨q0, q1, q2, q3, q4, q5, q6, q7, q8⟩ := Blk.c9 kZ
          exact bodyPost_ret (v := akv ⟨0, 0, 0, 0, 0, 0, 0, 0, ⟨#[]⟩⟩) (by simp [results, Try.results14, go_sem, q0, q1, q2, q3, q4, q5, q6, q7, q8]; try rfl) rfl ⟨by rw [HX.out]; try rfl, by rw [HX.out]; exact oZ, gZ⟩
      · have HE := Lib.hid (errA_bad hm)
        have HX := Lib.hid (getA_no hm)
        clear hm
        go_wp2_with (first
          | (go_at_call 16; refine (HC.out _).mono ?_; rw [HE.out]; rintro e V0 ⟨rfl, hb⟩; replace kR := kR.below hb kR.lt; replace kL := kL.below hb kL.lt; replace hG := World.grownBy.trans hG (grew hb _); replace hO2 := hO2.below hb; clear c0 c1 c2 c3 c4 c5 c6 c7 c8; obtain ⟨r0, r1, r2, r3, r4, r5, r6, r7, r8⟩ := Blk.c9 kR; have fr := kR.frozen; obtain ⟨c0, c1, c2, c3, c4, c5, c6, c7, c8⟩ := Blk.c9 kL)
          | (go_at_call 36; refine (inSpoil_any _ hO2).mono ?_; rintro e V1 ⟨rfl, hO9, g⟩; replace kR := kR.kept g HNR.out; replace hG := World.grownBy.trans hG g; clear r0 r1 r2 r3 r4 r5 r6 r7 r8 fr; obtain ⟨r0, r1, r2, r3, r4, r5, r6, r7, r8⟩ := Blk.c9 kR; have fr := kR.frozen)
          | (go_at_call 15; refine (inErr_any _ hO9).mono ?_; rintro e V2 ⟨rfl, rfl⟩))
        obtain ⟨kZ, oZ, gZ⟩ := stored9z hO9 hG kR (Nat.le_refl _) HNR.out
        try dsimp only at kZ oZ gZ
        obtain ⟨q0, q1, q2, q3, q4, q5, q6, q7, q8⟩ := Blk.c9 kZ
        exact bodyPost_ret (v := akv ⟨0, 0, 0, 0, 0, 0, 0, 0, ⟨#[]⟩⟩) (by simp [results, Try.results14, go_sem, q0, q1, q2, q3, q4, q5, q6, q7, q8]; try rfl) rfl ⟨by rw [HX.out]; try rfl, by rw [HX.out]; exact oZ, gZ⟩
end Go.Proofs.Ytiibeahgleaonaa
