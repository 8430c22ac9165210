/-
  The message of any octets: mail's Read.
  Which transfers may be, by the reference.
  Which asks may be, by the reference.
  A struct that is known whole is loaded in one step: a bid, an ask.
  The reference's Cmp tells which of two numbers is greater.
  Which bids may be, by the reference.
  Which transfers and sides' data may be, by the reference.
  Which messages may be, by the reference; and with the fields of its kind alone.
-/
import Derived.Outline
import Derived.Maps.AppendAt
import Derived.IntWalk
import Derived.Deep.QuietTactic
import Derived.Deep.RegionHeld3
import Derived.BigQuiet
import Derived.Great.BuildSlice
import Derived.Deep.Cut
import Derived.Test.YtigdenlnnnfjlaaK07
namespace Go.Proofs.Ytigdenlnnnfjlaa
open Go.RowKit Go.Shelf

/-- What Read hands back. -/
def retM (m : Ms) (c : Int) : Value := .tuple #[msv m, .int .i64 c]
def RdM (r : Ms × Int) (w : World) (e : Ending) (W' : World) : Prop := e = .returned (retM r.1 r.2) ∧ Below w.heap.size w W'
theorem load_msv {W : World} {B : Nat} {m : Ms} (h : Blk W B 34 (msc m)) : (loadVar 34 ⟨B, 0, none⟩).run Try.prog W = .ok (msv m) W := by
  simpa only [Instr.loadAt, Instr.sureAddr, Sem.run_bind, Sem.run_pure, Result.andThen_ok] using load_ms h
set_option maxRecDepth 100000 in
set_option maxHeartbeats 4000000 in
theorem mailRead_any (l : List UInt8) (sv : Value) (w : World) (hsv : BSl 0 w.heap.size w sv l) :
    Calls Try.prog 8 #[sv] w (RdM (readG (openS l)) w) := by
  obtain ⟨a, m, c, rfl⟩ := hsv.shape3
  have HGT : Hid (∀ p W, ObjP 106 W p (openS l) → Calls Try.prog 30 #[.pointer p] W (GotM 106 p (rawG (openS l)) W)) := Lib.hid fun p W h => mailFields_any W h
  have HRO := Lib.hid (fun t g => readG_ok (s := openS l) (m := t) (g := g))
  have HRB := Lib.hid (fun t g => readG_bad (s := openS l) (m := t) (g := g))
  have HRS := Lib.hid (fun t g => readG_sp (s := openS l) (m := t) (g := g))
  have HOP : Hid (∀ W, BSl 0 W.heap.size W (.slice a m c) l → Calls Try.prog 29 #[.slice a m c] W fun e W' => ∃ NB, e = .returned (.pointer (some ⟨NB, 0, none⟩)) ∧ W.heap.size ≤ NB ∧ ObjP 106 W' (some ⟨NB, 0, none⟩) (openS l) ∧ Below W.heap.size W W') := Lib.hid fun W h => inOpenW_any l _ W h
  have hok := okS_rawG (openS_ok l)
  have hom := okM_raw (openS l)
  generalize readG (openS l) = rd at *
  generalize hgt : rawG (openS l) = gt at *
  obtain ⟨gx, gs⟩ := gt
  replace HRO := Lib.hid (HRO.out gx gs rfl)
  replace HRB := Lib.hid (HRB.out gx gs rfl)
  replace HRS := Lib.hid (HRS.out gx gs rfl)
  have HC := Lib.hid (mailCheck_any gx hom)
  clear hgt hom
  have kR := Blk.new w 34 (msc noM)
  have hB := chain0 w (.cells (msc noM).toArray 34)
  have hs1 := (hsv.below hB (Nat.le_refl _)).mono (Nat.le_refl _) hB.size
  clear hsv
  go_enter Try.func8, Try.ntmps8
  go_upto_region 3 with (first
    | (go_at_call 29; refine (HOP.out _ hs1).mono ?_; rintro e w1 ⟨NB, rfl, hN, hO, hb⟩; have hNw := Nat.le_trans hB.size hN; have hRN : some w.heap.size ≠ some NB := (fun e => by cases e; have := kR.lt; omega); replace kR := kR.below hb kR.lt; replace hB := chain hB hb; clear hb hN hs1)
    | (go_at_call 30; refine (HGT.out _ _ hO).mono ?_; rintro e W1 ⟨rfl, q, g⟩; have hg1 := g.size; replace kR := kR.kept g hRN; replace hB := hB.grown g hB.size (fun k e => by cases e; exact hNw); have hb1 := chain0 W1 (.cells (msc noM).toArray 34); have kN := Blk.new W1 34 (msc noM); have HRK : Hid (w.heap.size ≠ W1.heap.size) := Lib.hid (by have := kR.lt; omega); have hNl := q.lt; have HNN : Hid (some W1.heap.size ≠ some NB) := Lib.hid (fun e => by cases e; omega); have hWN := hB.size; replace kR := kR.below hb1 kR.lt; replace hB := chain hB hb1; replace q := q.below hb1; clear g hg1 hb1 hO)
    | ((refine wpList_store_part 34 (.tmp 5) (.tmp 10) (msc gx) kN 0 ((msv gx)) (msc gx) ?_ ?_ ?_ ?_ ?_ ?_ ?_ ?_ ?_ ?_ ?_); (· rfl); (· rfl); (· rfl); (· rfl); (· rfl); (· rfl); (· kernel_rfl); (· exact Nat.le_of_ble_eq_true rfl); (· rfl); (· rfl); have hq := objP_row q (noOctM kN) HNN.out (msc gx).toArray; replace kR := kR.rowO (msc gx).toArray HRK.out; replace kN := kN.row (msc gx); replace hB := below_setRow hB hWN (msc gx).toArray))
  generalize hX : World.setRow (World.alloc W1 _) _ _ = X
  replace hq : ObjP 106 X (some ⟨NB, 0, none⟩) gs := by rw [← hX]; exact hq
  replace kR : Blk X w.heap.size 34 (msc noM) := by rw [← hX]; exact kR
  replace kN : Blk X W1.heap.size 34 (msc gx) := by rw [← hX]; exact kN
  replace hB : Below w.heap.size w X := by rw [← hX]; exact hB
  clear hX q HOP HGT HRK hWN hNl
  generalize W1.heap.size = BX at *
  by_cases hm : errG gx = 0
  · have HE := Lib.hid hm
    by_cases hn : gs.1 = []
    · have hz : gs.1.length = 0 := by rw [hn]; rfl
      by_cases he : gs.2 = 0
      · have HX : Hid (rd = (gx, 0)) := Lib.hid (HRO.out he hn hm)
        have hq1 : (gs.2 == 0) = true := by simpa using he
        have hq2 : (gs.2 != 0) = false := by simpa using he
        clear he hn hm HRO HRB HRS hok
        go_wp2_with (first
          | ((with_reducible refine wpList_loadIf 34 (.tmp 5) ?_ (some 11) ?_ ?_ (msv gx) ?_ ?_); (· rfl); (· rfl); (· rfl); (· exact load_ms kN))
          | (go_at_call 12; refine (HC.out _).mono ?_; rw [HE.out]; rintro e w3 ⟨rfl, hb⟩; replace kR := kR.below hb kR.lt; replace kN := kN.below hb kN.lt; replace hB := chain hB hb; replace hq := hq.below hb; clear hb)
          | (go_at_call 31; refine (inLeft_any _ hq).mono ?_; rintro e W2 ⟨rfl, rfl⟩)
          | (go_at_call 33; refine (inErr_any _ hq).mono ?_; rintro e V2 ⟨rfl, rfl⟩)
          | ((with_reducible refine wpList_loadIf 34 (.tmp 5) ?_ (some 27) ?_ ?_ (msv gx) ?_ ?_); (· rfl); (· rfl); (· rfl); (· exact load_ms kN))
          | ((with_reducible refine wpList_store_part 34 (.tmp 2) (.tmp 27) (msc gx) kR 0 ((msv gx)) (msc gx) ?_ ?_ ?_ ?_ ?_ ?_ ?_ ?_ ?_ ?_ ?_); (· rfl); (· rfl); (· rfl); (· rfl); (· rfl); (· rfl); (· kernel_rfl); (· exact Nat.le_of_ble_eq_true rfl); (· rfl); (· rfl); replace kR := kR.row (msc gx); replace hB := below_setRow hB (Nat.le_refl _) (msc gx).toArray))
        exact bodyPost_ret (v := retM gx 0) (by simp [results, Try.results8, asAddr, retM]; rw [load_msv kR]; rfl) rfl ⟨by rw [HX.out], hB⟩
      · have HX : Hid (rd = (noM, gs.2)) := Lib.hid (HRB.out he)
        have hq1 : (gs.2 == 0) = false := by simpa using he
        have hq2 : (gs.2 != 0) = true := by simpa using he
        clear he hn hm HRO HRB HRS hok
        go_wp2_with (first
          | ((with_reducible refine wpList_loadIf 34 (.tmp 5) ?_ (some 11) ?_ ?_ (msv gx) ?_ ?_); (· rfl); (· rfl); (· rfl); (· exact load_ms kN))
          | (go_at_call 12; refine (HC.out _).mono ?_; rw [HE.out]; rintro e w3 ⟨rfl, hb⟩; replace kR := kR.below hb kR.lt; replace kN := kN.below hb kN.lt; replace hB := chain hB hb; replace hq := hq.below hb; clear hb)
          | (go_at_call 31; refine (inLeft_any _ hq).mono ?_; rintro e W2 ⟨rfl, rfl⟩)
          | (go_at_call 33; refine (inErr_any _ hq).mono ?_; rintro e V2 ⟨rfl, rfl⟩)
          | (refine wpList_buildTo rfl 34 _ rfl (some 25) rfl (msc noM).toArray (by kernel_rfl) ?_)
          | ((with_reducible refine wpList_store_part 34 (.tmp 2) (.tmp 25) (msc noM) kR 0 ((msv noM)) (msc noM) ?_ ?_ ?_ ?_ ?_ ?_ ?_ ?_ ?_ ?_ ?_); (· rfl); (· rfl); (· rfl); (· rfl); (· rfl); (· rfl); (· kernel_rfl); (· exact Nat.le_of_ble_eq_true rfl); (· rfl); (· rfl); replace kR := kR.row (msc noM); replace hB := below_setRow hB (Nat.le_refl _) (msc noM).toArray))
        exact bodyPost_ret (v := retM noM gs.2) (by simp [results, Try.results8, asAddr, retM]; rw [load_msv kR]; rfl) rfl ⟨by rw [HX.out], hB⟩
    · have HX : Hid (rd = (noM, (errS gs 16).2)) := Lib.hid (HRS.out (.inr hn))
      have hz : 0 < gs.1.length := List.length_pos_iff.2 hn
      clear hn hm
      have hes : ((errS gs 16).2 != 0) = true := by simpa using errS_ne gs
      have hes2 : ((errS gs 16).2 == 0) = false := by simpa using errS_ne gs
      clear HRO HRB HRS hok
      go_wp2_with (first
        | ((with_reducible refine wpList_loadIf 34 (.tmp 5) ?_ (some 11) ?_ ?_ (msv gx) ?_ ?_); (· rfl); (· rfl); (· rfl); (· exact load_ms kN))
        | (go_at_call 12; refine (HC.out _).mono ?_; rw [HE.out]; rintro e w3 ⟨rfl, hb⟩; replace kR := kR.below hb kR.lt; replace kN := kN.below hb kN.lt; replace hB := chain hB hb; replace hq := hq.below hb; clear hb)
        | (go_at_call 31; refine (inLeft_any _ hq).mono ?_; rintro e W2 ⟨rfl, rfl⟩)
        | (go_at_call 32; refine (inSpoil_any _ hq).mono ?_; rintro e V1 ⟨rfl, hO9, g⟩; replace kR := kR.kept g hRN; replace hB := hB.grown g hB.size (fun k e => by cases e; exact hNw))
        | (go_at_call 33; refine (inErr_any _ hO9).mono ?_; rintro e V2 ⟨rfl, rfl⟩)
        | (refine wpList_buildTo rfl 34 _ rfl (some 25) rfl (msc noM).toArray (by kernel_rfl) ?_)
        | ((with_reducible refine wpList_store_part 34 (.tmp 2) (.tmp 25) (msc noM) kR 0 ((msv noM)) (msc noM) ?_ ?_ ?_ ?_ ?_ ?_ ?_ ?_ ?_ ?_ ?_); (· rfl); (· rfl); (· rfl); (· rfl); (· rfl); (· rfl); (· kernel_rfl); (· exact Nat.le_of_ble_eq_true rfl); (· rfl); (· rfl); replace kR := kR.row (msc noM); replace hB := below_setRow hB (Nat.le_refl _) (msc noM).toArray))
      exact bodyPost_ret (v := retM noM (errS gs 16).2) (by simp [results, Try.results8, asAddr, retM]; rw [load_msv kR]; rfl) rfl ⟨by rw [HX.out], hB⟩
  · have HX : Hid (rd = (noM, (errS gs 16).2)) := Lib.hid (HRS.out (.inl hm))
    have hm1 : (errG gx == 0) = false := by simpa using hm
    have hm2 : (errG gx != 0) = true := by simpa using hm
    clear hm
    have hes : ((errS gs 16).2 != 0) = true := by simpa using errS_ne gs
    have hes2 : ((errS gs 16).2 == 0) = false := by simpa using errS_ne gs
    clear HRO HRB HRS hok
    go_wp2_with (first
      | ((with_reducible refine wpList_loadIf 34 (.tmp 5) ?_ (some 11) ?_ ?_ (msv gx) ?_ ?_); (· rfl); (· rfl); (· rfl); (· exact load_ms kN))
      | (go_at_call 12; refine (HC.out _).mono ?_; rintro e w3 ⟨rfl, hb⟩; replace kR := kR.below hb kR.lt; replace kN := kN.below hb kN.lt; replace hB := chain hB hb; replace hq := hq.below hb; clear hb)
      | (go_at_call 31; refine (inLeft_any _ hq).mono ?_; rintro e W2 ⟨rfl, rfl⟩)
      | (go_at_call 32; refine (inSpoil_any _ hq).mono ?_; rintro e V1 ⟨rfl, hO9, g⟩; replace kR := kR.kept g hRN; replace hB := hB.grown g hB.size (fun k e => by cases e; exact hNw))
      | (go_at_call 33; refine (inErr_any _ hO9).mono ?_; rintro e V2 ⟨rfl, rfl⟩)
      | (refine wpList_buildTo rfl 34 _ rfl (some 25) rfl (msc noM).toArray (by kernel_rfl) ?_)
      | ((with_reducible refine wpList_store_part 34 (.tmp 2) (.tmp 25) (msc noM) kR 0 ((msv noM)) (msc noM) ?_ ?_ ?_ ?_ ?_ ?_ ?_ ?_ ?_ ?_ ?_); (· rfl); (· rfl); (· rfl); (· rfl); (· rfl); (· rfl); (· kernel_rfl); (· exact Nat.le_of_ble_eq_true rfl); (· rfl); (· rfl); replace kR := kR.row (msc noM); replace hB := below_setRow hB (Nat.le_refl _) (msc noM).toArray))
    exact bodyPost_ret (v := retM noM (errS gs 16).2) (by simp [results, Try.results8, asAddr, retM]; rw [load_msv kR]; rfl) rfl ⟨by rw [HX.out], hB⟩
end Go.Proofs.Ytigdenlnnnfjlaa

namespace Go.Proofs.Ytigdenlnnnfjlaa
open Go.RowKit Go.Shelf

set_option maxRecDepth 100000 in
set_option maxHeartbeats 2000000 in
theorem refInv_any (i : Trf) (w : World) :
    Calls Try.prog 43 #[ivv i] w fun e W' => e = .returned (.int .i64 (errI i)) ∧ Below w.heap.size w W' := by
  have HY : Hid (maybeI i → errI i = 0) := Lib.hid fun h => if_pos h
  have HN : Hid (¬ maybeI i → errI i = 39) := Lib.hid fun h => if_neg h
  obtain ⟨us, rt, ro, se, re, tq, id⟩ := i
  have HM : Hid (maybeI ⟨us, rt, ro, se, re, tq, id⟩ ↔ ((0 ≤ us ∧ us ≤ 1) ∧ (rt.size : Int) = 8 ∧ (2 ≤ ro ∧ ro ≤ 3) ∧ (0 ≤ se ∧ se ≤ 1) ∧ (0 ≤ re ∧ re ≤ 1) ∧ (0 ≤ tq ∧ tq ≤ 7) ∧ (1 : Int) ≤ (id.size : Int) ∧ (id.size : Int) ≤ 16)) := Lib.hid (by
    unfold maybeI
    exact ⟨fun ⟨a, b, c, d, e, f, g, h⟩ => ⟨a, by simp only at b; omega, c, d, e, f, by simp only at g; omega, by simp only at h; omega⟩, fun ⟨a, b, c, d, e, f, g, h⟩ => ⟨a, by simp only; omega, c, d, e, f, by simp only; omega, by simp only; omega⟩⟩)
  generalize errI _ = x at *
  by_cases c0 : us < 0
  · have HX := HN.out (by rw [HM.out]; omega)
    have HX2 := Lib.hid HX
    clear HX
    go_enter Try.func43, Try.ntmps43
    go_wp2
    go_ret
    exact ⟨by rw [HX2.out]; rfl, chain0 _ _⟩
  by_cases c1 : 1 < us
  · have HX := HN.out (by rw [HM.out]; omega)
    have HX2 := Lib.hid HX
    clear HX
    go_enter Try.func43, Try.ntmps43
    go_wp2
    go_ret
    exact ⟨by rw [HX2.out]; rfl, chain0 _ _⟩
  by_cases c2 : ro < 2
  · have HX := HN.out (by rw [HM.out]; omega)
    have HX2 := Lib.hid HX
    clear HX
    go_enter Try.func43, Try.ntmps43
    go_wp2
    go_ret
    exact ⟨by rw [HX2.out]; rfl, chain0 _ _⟩
  by_cases c3 : 3 < ro
  · have HX := HN.out (by rw [HM.out]; omega)
    have HX2 := Lib.hid HX
    clear HX
    go_enter Try.func43, Try.ntmps43
    go_wp2
    go_ret
    exact ⟨by rw [HX2.out]; rfl, chain0 _ _⟩
  by_cases c4 : se < 0
  · have HX := HN.out (by rw [HM.out]; omega)
    have HX2 := Lib.hid HX
    clear HX
    go_enter Try.func43, Try.ntmps43
    go_wp2
    go_ret
    exact ⟨by rw [HX2.out]; rfl, chain0 _ _⟩
  by_cases c5 : 1 < se
  · have HX := HN.out (by rw [HM.out]; omega)
    have HX2 := Lib.hid HX
    clear HX
    go_enter Try.func43, Try.ntmps43
    go_wp2
    go_ret
    exact ⟨by rw [HX2.out]; rfl, chain0 _ _⟩
  by_cases c6 : re < 0
  · have HX := HN.out (by rw [HM.out]; omega)
    have HX2 := Lib.hid HX
    clear HX
    go_enter Try.func43, Try.ntmps43
    go_wp2
    go_ret
    exact ⟨by rw [HX2.out]; rfl, chain0 _ _⟩
  by_cases c7 : 1 < re
  · have HX := HN.out (by rw [HM.out]; omega)
    have HX2 := Lib.hid HX
    clear HX
    go_enter Try.func43, Try.ntmps43
    go_wp2
    go_ret
    exact ⟨by rw [HX2.out]; rfl, chain0 _ _⟩
  by_cases c8 : tq < 0
  · have HX := HN.out (by rw [HM.out]; omega)
    have HX2 := Lib.hid HX
    clear HX
    go_enter Try.func43, Try.ntmps43
    go_wp2
    go_ret
    exact ⟨by rw [HX2.out]; rfl, chain0 _ _⟩
  by_cases c9 : 7 < tq
  · have HX := HN.out (by rw [HM.out]; omega)
    have HX2 := Lib.hid HX
    clear HX
    go_enter Try.func43, Try.ntmps43
    go_wp2
    go_ret
    exact ⟨by rw [HX2.out]; rfl, chain0 _ _⟩
  by_cases c10 : (rt.size : Int) = 8
  rotate_left
  · have e1 : ((rt.size : Int) == 8) = false := by simpa using c10
    have e2 : ((rt.size : Int) != 8) = true := by simpa using c10
    have HX := HN.out (by rw [HM.out]; omega)
    have HX2 := Lib.hid HX
    clear HX c10
    go_enter Try.func43, Try.ntmps43
    go_wp2
    go_ret
    exact ⟨by rw [HX2.out]; rfl, chain0 _ _⟩
  have e1 : ((rt.size : Int) == 8) = true := by simpa using c10
  have e2 : ((rt.size : Int) != 8) = false := by simpa using c10
  have HC := Lib.hid c10
  clear c10
  by_cases c11 : (id.size : Int) < 1
  · have HX := HN.out (by rw [HM.out]; have := HC.out; omega)
    have HX2 := Lib.hid HX
    clear HX
    go_enter Try.func43, Try.ntmps43
    go_wp2
    go_ret
    exact ⟨by rw [HX2.out]; rfl, chain0 _ _⟩
  by_cases c12 : 16 < (id.size : Int)
  · have HX := HN.out (by rw [HM.out]; have := HC.out; omega)
    have HX2 := Lib.hid HX
    clear HX
    go_enter Try.func43, Try.ntmps43
    go_wp2
    go_ret
    exact ⟨by rw [HX2.out]; rfl, chain0 _ _⟩
  have HX := HY.out (by rw [HM.out]; have := HC.out; omega)
  have HX2 := Lib.hid HX
  clear HX
  go_enter Try.func43, Try.ntmps43
  go_wp2
  go_ret
  exact ⟨by rw [HX2.out]; rfl, chain0 _ _⟩
end Go.Proofs.Ytigdenlnnnfjlaa

namespace Go.Proofs.Ytigdenlnnnfjlaa
open Go.RowKit Go.Shelf

/-- The text "12345678". -/
def eightB : ByteArray := ⟨#[49, 50, 51, 52, 53, 54, 55, 56]⟩
def standI (a : Ak) (r : Int) : Trf := ⟨a.us, eightB, r, a.se, a.re, a.to, a.id⟩
theorem stand_may (a : Ak) (r : Int) : maybeI (standI a r) ↔ ((0 ≤ a.us ∧ a.us ≤ 1) ∧ (0 ≤ a.se ∧ a.se ≤ 1) ∧ (0 ≤ a.re ∧ a.re ≤ 1) ∧ (0 ≤ a.to ∧ a.to ≤ 7) ∧ 1 ≤ a.id.size ∧ a.id.size ≤ 16) ∧ 2 ≤ r ∧ r ≤ 3 := by
  unfold maybeI standI
  constructor
  · rintro ⟨h0, _, h2, h3, h4, h5, h6, h7⟩
    exact ⟨⟨h0, h3, h4, h5, h6, h7⟩, h2⟩
  · rintro ⟨⟨h0, h3, h4, h5, h6, h7⟩, h2⟩
    exact ⟨h0, rfl, h2, h3, h4, h5, h6, h7⟩
theorem maybeA_stand {a : Ak} : maybeA a ↔ ¬ zw a.a0 a.a1 a.a2 a.a3 ∧ maybeI (standI a 2) := by
  rw [stand_may]
  unfold maybeA
  constructor
  · rintro ⟨h0, h1, h2, h3, h4, h5, h6⟩
    exact ⟨h4, ⟨h0, h1, h2, h3, h5, h6⟩, by omega, by omega⟩
  · rintro ⟨h4, ⟨h0, h1, h2, h3, h5, h6⟩, _, _⟩
    exact ⟨h0, h1, h2, h3, h4, h5, h6⟩
set_option maxRecDepth 100000 in
set_option maxHeartbeats 2000000 in
theorem stand_any (a : Ak) (r : Int) (w : World) :
    Calls Try.prog 71 #[akv a, .int .i64 r] w fun e W' => e = .returned (ivv (standI a r)) ∧ Below w.heap.size w W' := by
  obtain ⟨us, se, re, to, a0, a1, a2, a3, id⟩ := a
  go_enter Try.func71, Try.ntmps71
  go_wp2
  exact bodyPost_ret (v := ivv (standI ⟨us, se, re, to, a0, a1, a2, a3, id⟩ r)) (by simp [results, Try.results71, go_sem, standI, eightB]) rfl ⟨rfl, chainA (chain0 _ _) _⟩

theorem wEq_zw {a0 a1 a2 a3 : Nat} (h : zw a0 a1 a2 a3) : wEq a0 a1 a2 a3 0 0 0 0 = true := by
  obtain ⟨rfl, rfl, rfl, rfl⟩ := h; rfl
theorem wEq_zwn {a0 a1 a2 a3 : Nat} (h : ¬ zw a0 a1 a2 a3) : wEq a0 a1 a2 a3 0 0 0 0 = false := wEq_not (by unfold zw at h; omega)
set_option maxRecDepth 100000 in
set_option maxHeartbeats 2000000 in
theorem refAsk_any (a : Ak) (w : World) :
    Calls Try.prog 41 #[akv a] w fun e W' => e = .returned (.int .i64 (errA a)) ∧ Below w.heap.size w W' := by
  have hweq := @run_equalIn_wide
  have HM := Lib.hid (maybeA_stand (a := a))
  have HS := Lib.hid (stand_any a 2)
  have HI := Lib.hid (refInv_any (standI a 2))
  have hB := chain0 w (.cells (akc a).toArray 26)
  by_cases hz : zw a.a0 a.a1 a.a2 a.a3
  · have hq := wEq_zw hz
    have HE := Lib.hid (errA_bad (a := a) (fun h => (HM.out.1 h).1 hz))
    clear hz HS HI
    go_enter Try.func41, Try.ntmps41
    go_wp2
    go_ret
    exact ⟨by rw [HE.out]; rfl, hB⟩
  · have hq := wEq_zwn hz
    by_cases hi : maybeI (standI a 2)
    · have HE := Lib.hid (errA_zero (a := a) (HM.out.2 ⟨hz, hi⟩))
      rw [errI_zero hi] at HI
      clear hz hi
      go_enter Try.func41, Try.ntmps41
      go_wp2_with (first
        | (go_at_call 71; refine (HS.out _).mono ?_; rintro e W1 ⟨rfl, hb1⟩; replace hB := chain hB hb1; clear hb1)
        | (go_at_call 43; refine (HI.out _).mono ?_; rintro e W1 ⟨rfl, hb1⟩; replace hB := chain hB hb1; clear hb1))
      go_ret
      exact ⟨by rw [HE.out]; rfl, hB⟩
    · have HE := Lib.hid (errA_bad (a := a) (fun h => hi (HM.out.1 h).2))
      rw [errI_bad hi] at HI
      clear hz hi
      go_enter Try.func41, Try.ntmps41
      go_wp2_with (first
        | (go_at_call 71; refine (HS.out _).mono ?_; rintro e W1 ⟨rfl, hb1⟩; replace hB := chain hB hb1; clear hb1)
        | (go_at_call 43; refine (HI.out _).mono ?_; rintro e W1 ⟨rfl, hb1⟩; replace hB := chain hB hb1; clear hb1))
      go_ret
      exact ⟨by rw [HE.out]; rfl, hB⟩
end Go.Proofs.Ytigdenlnnnfjlaa

namespace Go.Proofs.Ytigdenlnnnfjlaa
open Go.RowKit Go.Shelf

theorem load_bid {W : World} {B : Nat} {b : Bd} (h : Blk W B 28 (bdc b)) : (Instr.loadAt 28 (.pointer (some ⟨B, 0, none⟩))).run Try.prog W = .ok (bdv b) W := by
  simp only [Instr.loadAt, Instr.sureAddr, Sem.run_bind, Sem.run_pure, Result.andThen_ok, run_loadVar_row W B _ 28 (bdc b).toArray (0, 0) _ h Try.underlying28 rfl (by kernel_rfl)]
theorem load_ask {W : World} {B : Nat} {a : Ak} (h : Blk W B 26 (akc a)) : (Instr.loadAt 26 (.pointer (some ⟨B, 0, none⟩))).run Try.prog W = .ok (akv a) W := by
  simp only [Instr.loadAt, Instr.sureAddr, Sem.run_bind, Sem.run_pure, Result.andThen_ok, run_loadVar_row W B _ 26 (akc a).toArray (0, 0) _ h Try.underlying26 rfl (by kernel_rfl)]
end Go.Proofs.Ytigdenlnnnfjlaa

namespace Go.Proofs.Ytigdenlnnnfjlaa
open Go.RowKit

set_option maxRecDepth 100000 in
set_option maxHeartbeats 4000000 in
theorem refCmp_any {a0 a1 a2 a3 b0 b1 b2 b3 : Nat} (ha : Ok4 a0 a1 a2 a3) (hb : Ok4 b0 b1 b2 b3) (w : World) :
    Calls Try.prog 72 #[wv a0 a1 a2 a3, wv b0 b1 b2 b3] w fun e W' => e = .returned (.int .i64 (cmpN (val a0 a1 a2 a3) (val b0 b1 b2 b3))) ∧ Below w.heap.size w W' := by
  go_enter Try.func72, Try.ntmps72
  go_wp2_with fail
  generalize hW0 : World.alloc _ _ = W0
  have kA : BlkW W0 w.heap.size a0 a1 a2 a3 := by rw [← hW0]; exact (Blk.new' (by simp)).alloc _
  have kB : BlkW W0 (w.heap.size + 1) b0 b1 b2 b3 := by rw [← hW0]; exact Blk.new' (by simp)
  have d0 : Below w.heap.size w W0 := by rw [← hW0]; exact chainA (chain0 _ _) _
  have hz' : w.heap.size + 1 < W0.heap.size := by rw [← hW0]; simp
  clear hW0
  obtain ⟨x0, x1, x2, x3⟩ := kA.c4
  obtain ⟨y0, y1, y2, y3⟩ := kB.c4
  go_region_held3 (fun W => W.cell? ⟨w.heap.size, 0, none⟩ = some (.int .u64 (a0 : Int)) ∧ W.cell? ⟨w.heap.size, 1, none⟩ = some (.int .u64 (a1 : Int)) ∧ W.cell? ⟨w.heap.size, 2, none⟩ = some (.int .u64 (a2 : Int)) ∧ W.cell? ⟨w.heap.size, 3, none⟩ = some (.int .u64 (a3 : Int)) ∧
      W.cell? ⟨w.heap.size + 1, 0, none⟩ = some (.int .u64 (b0 : Int)) ∧ W.cell? ⟨w.heap.size + 1, 1, none⟩ = some (.int .u64 (b1 : Int)) ∧ W.cell? ⟨w.heap.size + 1, 2, none⟩ = some (.int .u64 (b2 : Int)) ∧ W.cell? ⟨w.heap.size + 1, 3, none⟩ = some (.int .u64 (b3 : Int)))
    (first | go_keep | (refine ⟨?_, ?_, ?_, ?_, ?_, ?_, ?_, ?_⟩ <;> assumption))
    (first | (go_at_call 82; refine (digits_any (by first | exact ha | exact hb) _).mono ?_; rintro e W1 ⟨g1, p1, rfl, hg1, hl1, hn1, hb1⟩; have z1 := hb1.size; (try simp only [World.size_drew] at z1); have u00 := (hb1.cell (p := ⟨w.heap.size, 0, none⟩) (by simp; omega)).trans (by assumption); have u01 := (hb1.cell (p := ⟨w.heap.size, 1, none⟩) (by simp; omega)).trans (by assumption); have u02 := (hb1.cell (p := ⟨w.heap.size, 2, none⟩) (by simp; omega)).trans (by assumption); have u03 := (hb1.cell (p := ⟨w.heap.size, 3, none⟩) (by simp; omega)).trans (by assumption); have u10 := (hb1.cell (p := ⟨w.heap.size + 1, 0, none⟩) (by simp; omega)).trans (by assumption); have u11 := (hb1.cell (p := ⟨w.heap.size + 1, 1, none⟩) (by simp; omega)).trans (by assumption); have u12 := (hb1.cell (p := ⟨w.heap.size + 1, 2, none⟩) (by simp; omega)).trans (by assumption); have u13 := (hb1.cell (p := ⟨w.heap.size + 1, 3, none⟩) (by simp; omega)).trans (by assumption)))
  rename_i V1 g0 p0 hg0 hl0 hn0 hb0 z0 t0 t1 t2 t3 t4 t5 t6 t7 t8
  have d1 : Below w.heap.size w W1 := chain (chain d0.drew hb0) hb1
  have nx := hn0.below hb1 hl0
  have ny := hn1
  have hg0' : g0 < W1.heap.size := by omega
  have nA := nv_dg ha
  have nB := nv_dg hb
  clear x0 x1 x2 x3 y0 y1 y2 y3 t0 t1 t2 t3 t4 t5 t6 t7 t8 u00 u01 u02 u03 u10 u11 u12 u13 kA kB hn0 hn1 hb0 hb1
  generalize hA : dg a0 a1 a2 a3 = xs at *
  generalize hB : dg b0 b1 b2 b3 = ys at *
  have HA := Lib.hid hA
  have HB := Lib.hid hB
  have NA := Lib.hid nA
  have NB := Lib.hid nB
  clear hA hB nA nB
  have hxs : ∀ k, xs k < 65536 := fun k => by rw [← HA.out]; exact dg_lt _ _ _ _ k
  have hys : ∀ k, ys k < 65536 := fun k => by rw [← HB.out]; exact dg_lt _ _ _ _ k
  go_wp2
  go_loopw [7] (fun i wr => ∃ k : Nat, k ≤ 16 ∧ i = .int .i64 (15 - (k : Int)) ∧ (∀ t, t < 16 → 16 ≤ t + k → xs t = ys t) ∧ Below W1.heap.size W1 wr) (fun i _ => ((intOf i) + 1).toNat)
  case atStart => exact ⟨0, by omega, rfl, fun t h1 h2 => by omega, Below.refl _ _⟩
  case round =>
    obtain ⟨k, hk, rfl, hsame, hbel⟩ := hrel
    have HS := Lib.hid hsame
    clear hsame
    by_cases hlt : k < 16
    · obtain ⟨j, hj⟩ : ∃ j, j + k = 15 := ⟨15 - k, by omega⟩
      have hj16 : j < 16 := by omega
      have hji : (15 : Int) - (k : Int) = (j : Int) := by omega
      have hx := (nx.below hbel hg0') j hj16
      have hy := (ny.below hbel hl1) j hj16
      have bx := hxs j
      have bY := hys j
      rw [hji]
      have hj0 : (0 : Int) ≤ (j : Int) := by omega
      have hj1 : (j : Int) < 16 := by omega
      have HJ := Lib.hid hji
      clear hji
      have d2 : ∀ q, Below w.heap.size w (wr.drewN q) := fun q => (d1.trans (hbel.mono d1.size)).trans ⟨rfl, rfl, rfl, Nat.le_refl _, fun _ _ => rfl⟩
      have hlow : xs j < ys j → cmpN (val a0 a1 a2 a3) (val b0 b1 b2 b3) = -1 := fun h => by
        have := nv_less hxs h 16 hj16 (fun t h1 h2 => HS.out t h2 (by omega))
        rw [NA.out, NB.out] at this
        unfold cmpN; rw [if_pos this]
      have hhigh : ys j < xs j → cmpN (val a0 a1 a2 a3) (val b0 b1 b2 b3) = 1 := fun h => by
        have := nv_less hys h 16 hj16 (fun t h1 h2 => (HS.out t h2 (by omega)).symm)
        rw [NA.out, NB.out] at this
        unfold cmpN; rw [if_neg (by omega), if_pos this]
      have HLOW := Lib.hid hlow
      have HHIGH := Lib.hid hhigh
      clear hlow hhigh
      have HEQ : Hid (∀ e : xs j = ys j, ∀ t, t < 16 → 16 ≤ t + (k + 1) → xs t = ys t) := Lib.hid (fun e t h1 h2 => by
        by_cases ht : t = j
        · rw [ht]; exact e
        · exact HS.out t h1 (by omega))
      generalize xs j = x at *
      generalize ys j = y at *
      rcases Nat.lt_trichotomy x y with hxy | hxy | hxy
      · have hxy' : (x : Int) < (y : Int) := by omega
        have HC := Lib.hid (HLOW.out hxy)
        go_wp2_with fail
        go_quiet (fail)
        go_wp2
        go_ret
        exact ⟨by rw [HC.out]; rfl, d2 _⟩
      · have h1 : ¬ (x : Int) < (y : Int) := by omega
        have h2 : ¬ (y : Int) < (x : Int) := by omega
        have HE := Lib.hid (HEQ.out hxy)
        clear hxy
        go_wp2_with fail
        go_quiet (fail)
        go_wp2_with fail
        go_quiet (fail)
        go_wp2
        exact ⟨⟨k + 1, by omega, by rw [show (j : Int) - 1 = 15 - ((k + 1 : Nat) : Int) by omega], HE.out, hbel.trans ⟨rfl, rfl, rfl, Nat.le_refl _, fun _ _ => rfl⟩⟩, by simp [intOf]⟩
      · have h1 : ¬ (x : Int) < (y : Int) := by omega
        have h2 : (y : Int) < (x : Int) := by omega
        have HC := Lib.hid (HHIGH.out hxy)
        go_wp2_with fail
        go_quiet (fail)
        go_wp2_with fail
        go_quiet (fail)
        go_wp2
        go_ret
        exact ⟨by rw [HC.out]; rfl, (d2 0).trans ⟨rfl, rfl, rfl, Nat.le_refl _, fun _ _ => rfl⟩⟩
    · obtain rfl : k = 16 := by omega
      have e : nv xs 16 = nv ys 16 := nv_congr (fun t ht => HS.out t ht (by omega))
      rw [NA.out, NB.out] at e
      have HC : Hid (cmpN (val a0 a1 a2 a3) (val b0 b1 b2 b3) = 0) := Lib.hid (by unfold cmpN; rw [if_neg (by omega), if_neg (by omega)])
      clear e
      go_wp2
      go_ret
      exact ⟨by rw [HC.out]; rfl, d1.trans (hbel.mono d1.size)⟩
end Go.Proofs.Ytigdenlnnnfjlaa

namespace Go.Proofs.Ytigdenlnnnfjlaa
open Go.RowKit Go.Shelf

set_option maxRecDepth 100000 in
set_option maxHeartbeats 4000000 in
theorem refBid_any (b : Bd) (hb4 : OkB b) (w : World) :
    Calls Try.prog 42 #[bdv b] w fun e W' => e = .returned (.int .i64 (errB b)) ∧ Below w.heap.size w W' := by
  have hweq := @run_equalIn_wide
  have HY : Hid (maybeB b → errB b = 0) := Lib.hid errB_zero
  have HN : Hid (¬ maybeB b → errB b = 39) := Lib.hid errB_bad
  have HM : Hid (maybeB b ↔ maybeA b.k ∧ maybeI (standI b.k b.ro) ∧ ¬ zw b.b0 b.b1 b.b2 b.b3 ∧ ¬ 0 < cmpN (val b.b0 b.b1 b.b2 b.b3) (val b.k.a0 b.k.a1 b.k.a2 b.k.a3) ∧ ¬ b.un < 0 ∧ ¬ 1099511627776 < b.un ∧ ¬ 1024 < (b.sg.size : Int)) := Lib.hid (by
    have e2 : (¬ 0 < cmpN (val b.b0 b.b1 b.b2 b.b3) (val b.k.a0 b.k.a1 b.k.a2 b.k.a3)) ↔ val b.b0 b.b1 b.b2 b.b3 ≤ val b.k.a0 b.k.a1 b.k.a2 b.k.a3 := by
      unfold cmpN; split
      · omega
      · split <;> omega
    rw [e2, stand_may]
    unfold maybeB
    constructor
    · rintro ⟨h0, h1, h2, h3, h4, h5⟩
      obtain ⟨g0, g1, g2, g3, g4, g5, g6⟩ := id h1
      exact ⟨h1, ⟨⟨g0, g1, g2, g3, g5, g6⟩, h0⟩, h2, h3, by omega, by omega, by omega⟩
    · rintro ⟨h1, ⟨_, h0⟩, h2, h3, h4, h5, h6⟩
      exact ⟨h0, h1, h2, h3, by omega, by omega⟩)
  have HA := Lib.hid (refAsk_any b.k)
  have HS := Lib.hid (stand_any b.k b.ro)
  have HI := Lib.hid (refInv_any (standI b.k b.ro))
  have HV := Lib.hid (fun W => refCmp_any hb4.b hb4.k W)
  have kB := Blk.new w 28 (bdc b)
  have hB := chain0 w (.cells (bdc b).toArray 28)
  generalize cmpN _ _ = cn at *
  generalize errB b = eb at *
  by_cases k0 : maybeA b.k
  rotate_left
  · rw [errA_bad k0] at HA
    have HX := Lib.hid (HN.out (fun h => k0 (HM.out.1 h).1))
    clear k0 HN HY HM
    go_enter Try.func42, Try.ntmps42
    go_wp2_with (first
      | (go_at_call 41; refine (HA.out _).mono ?_; rintro e W1 ⟨rfl, hb1⟩; replace kB := kB.below hb1 kB.lt; replace hB := chain hB hb1; clear hb1; have c0 := (kB.cell 0).trans rfl; have c1 := (kB.cell 1).trans rfl; have c2 := (kB.cell 2).trans rfl; have c3 := (kB.cell 3).trans rfl; have c4 := (kB.cell 4).trans rfl; have c5 := (kB.cell 5).trans rfl; have c6 := (kB.cell 6).trans rfl; have c7 := (kB.cell 7).trans rfl; have c8 := (kB.cell 8).trans rfl; have c9 := (kB.cell 9).trans rfl))
    go_ret
    exact ⟨by rw [HX.out]; rfl, hB⟩
  rw [errA_zero k0] at HA
  by_cases k1 : maybeI (standI b.k b.ro)
  rotate_left
  · rw [errI_bad k1] at HI
    have HX := Lib.hid (HN.out (fun h => k1 (HM.out.1 h).2.1))
    clear k0 k1 HN HY HM
    go_enter Try.func42, Try.ntmps42
    go_wp2_with (first
      | (go_at_call 41; refine (HA.out _).mono ?_; rintro e W1 ⟨rfl, hb1⟩; replace kB := kB.below hb1 kB.lt; replace hB := chain hB hb1; clear hb1; have c0 := (kB.cell 0).trans rfl; have c1 := (kB.cell 1).trans rfl; have c2 := (kB.cell 2).trans rfl; have c3 := (kB.cell 3).trans rfl; have c4 := (kB.cell 4).trans rfl; have c5 := (kB.cell 5).trans rfl; have c6 := (kB.cell 6).trans rfl; have c7 := (kB.cell 7).trans rfl; have c8 := (kB.cell 8).trans rfl; have c9 := (kB.cell 9).trans rfl)
      | (go_at_call 71; refine (HS.out _).mono ?_; rintro e W2 ⟨rfl, hb1⟩; replace kB := kB.below hb1 kB.lt; replace hB := chain hB hb1; clear hb1 c0 c1 c2 c3 c4 c5 c6 c7 c8 c9)
      | (go_at_call 43; refine (HI.out _).mono ?_; rintro e W3 ⟨rfl, hb1⟩; replace kB := kB.below hb1 kB.lt; replace hB := chain hB hb1; clear hb1; have c5 := (kB.cell 5).trans rfl; have c6 := (kB.cell 6).trans rfl; have c7 := (kB.cell 7).trans rfl; have c8 := (kB.cell 8).trans rfl; have c10 := (kB.cell 10).trans rfl; have c11 := (kB.cell 11).trans rfl; have c12 := (kB.cell 12).trans rfl; have c13 := (kB.cell 13).trans rfl))
    go_ret
    exact ⟨by rw [HX.out]; rfl, hB⟩
  rw [errI_zero k1] at HI
  by_cases k2 : zw b.b0 b.b1 b.b2 b.b3
  · have hq := wEq_zw k2
    have HX := Lib.hid (HN.out (fun h => (HM.out.1 h).2.2.1 k2))
    clear k0 k1 k2 HN HY HM
    go_enter Try.func42, Try.ntmps42
    go_wp2_with (first
      | (go_at_call 41; refine (HA.out _).mono ?_; rintro e W1 ⟨rfl, hb1⟩; replace kB := kB.below hb1 kB.lt; replace hB := chain hB hb1; clear hb1; have c0 := (kB.cell 0).trans rfl; have c1 := (kB.cell 1).trans rfl; have c2 := (kB.cell 2).trans rfl; have c3 := (kB.cell 3).trans rfl; have c4 := (kB.cell 4).trans rfl; have c5 := (kB.cell 5).trans rfl; have c6 := (kB.cell 6).trans rfl; have c7 := (kB.cell 7).trans rfl; have c8 := (kB.cell 8).trans rfl; have c9 := (kB.cell 9).trans rfl)
      | (go_at_call 71; refine (HS.out _).mono ?_; rintro e W2 ⟨rfl, hb1⟩; replace kB := kB.below hb1 kB.lt; replace hB := chain hB hb1; clear hb1 c0 c1 c2 c3 c4 c5 c6 c7 c8 c9)
      | (go_at_call 43; refine (HI.out _).mono ?_; rintro e W3 ⟨rfl, hb1⟩; replace kB := kB.below hb1 kB.lt; replace hB := chain hB hb1; clear hb1; have c5 := (kB.cell 5).trans rfl; have c6 := (kB.cell 6).trans rfl; have c7 := (kB.cell 7).trans rfl; have c8 := (kB.cell 8).trans rfl; have c10 := (kB.cell 10).trans rfl; have c11 := (kB.cell 11).trans rfl; have c12 := (kB.cell 12).trans rfl; have c13 := (kB.cell 13).trans rfl))
    go_ret
    exact ⟨by rw [HX.out]; rfl, hB⟩
  have hq := wEq_zwn k2
  have HP := Lib.hid (And.intro k0 (And.intro k1 k2))
  clear k0 k1 k2
  by_cases k3 : 0 < cn
  · have HX := Lib.hid (HN.out (fun h => (HM.out.1 h).2.2.2.1 k3))
    clear HN HY HM HP
    go_enter Try.func42, Try.ntmps42
    go_wp2_with (first
      | (go_at_call 41; refine (HA.out _).mono ?_; rintro e W1 ⟨rfl, hb1⟩; replace kB := kB.below hb1 kB.lt; replace hB := chain hB hb1; clear hb1; have c0 := (kB.cell 0).trans rfl; have c1 := (kB.cell 1).trans rfl; have c2 := (kB.cell 2).trans rfl; have c3 := (kB.cell 3).trans rfl; have c4 := (kB.cell 4).trans rfl; have c5 := (kB.cell 5).trans rfl; have c6 := (kB.cell 6).trans rfl; have c7 := (kB.cell 7).trans rfl; have c8 := (kB.cell 8).trans rfl; have c9 := (kB.cell 9).trans rfl)
      | (go_at_call 71; refine (HS.out _).mono ?_; rintro e W2 ⟨rfl, hb1⟩; replace kB := kB.below hb1 kB.lt; replace hB := chain hB hb1; clear hb1 c0 c1 c2 c3 c4 c5 c6 c7 c8 c9)
      | (go_at_call 43; refine (HI.out _).mono ?_; rintro e W3 ⟨rfl, hb1⟩; replace kB := kB.below hb1 kB.lt; replace hB := chain hB hb1; clear hb1; have c5 := (kB.cell 5).trans rfl; have c6 := (kB.cell 6).trans rfl; have c7 := (kB.cell 7).trans rfl; have c8 := (kB.cell 8).trans rfl; have c10 := (kB.cell 10).trans rfl; have c11 := (kB.cell 11).trans rfl; have c12 := (kB.cell 12).trans rfl; have c13 := (kB.cell 13).trans rfl)
      | (go_at_call 72; refine (HV.out _).mono ?_; rintro e W4 ⟨rfl, hb1⟩; replace kB := kB.below hb1 kB.lt; replace hB := chain hB hb1; clear hb1 c5 c6 c7 c8 c10 c11 c12 c13; have c14 := (kB.cell 14).trans rfl; have c15 := (kB.cell 15).trans rfl))
    go_ret
    exact ⟨by rw [HX.out]; rfl, hB⟩
  by_cases k4 : b.un < 0
  · have HX := Lib.hid (HN.out (fun h => (HM.out.1 h).2.2.2.2.1 k4))
    clear HN HY HM HP
    go_enter Try.func42, Try.ntmps42
    go_wp2_with (first
      | (go_at_call 41; refine (HA.out _).mono ?_; rintro e W1 ⟨rfl, hb1⟩; replace kB := kB.below hb1 kB.lt; replace hB := chain hB hb1; clear hb1; have c0 := (kB.cell 0).trans rfl; have c1 := (kB.cell 1).trans rfl; have c2 := (kB.cell 2).trans rfl; have c3 := (kB.cell 3).trans rfl; have c4 := (kB.cell 4).trans rfl; have c5 := (kB.cell 5).trans rfl; have c6 := (kB.cell 6).trans rfl; have c7 := (kB.cell 7).trans rfl; have c8 := (kB.cell 8).trans rfl; have c9 := (kB.cell 9).trans rfl)
      | (go_at_call 71; refine (HS.out _).mono ?_; rintro e W2 ⟨rfl, hb1⟩; replace kB := kB.below hb1 kB.lt; replace hB := chain hB hb1; clear hb1 c0 c1 c2 c3 c4 c5 c6 c7 c8 c9)
      | (go_at_call 43; refine (HI.out _).mono ?_; rintro e W3 ⟨rfl, hb1⟩; replace kB := kB.below hb1 kB.lt; replace hB := chain hB hb1; clear hb1; have c5 := (kB.cell 5).trans rfl; have c6 := (kB.cell 6).trans rfl; have c7 := (kB.cell 7).trans rfl; have c8 := (kB.cell 8).trans rfl; have c10 := (kB.cell 10).trans rfl; have c11 := (kB.cell 11).trans rfl; have c12 := (kB.cell 12).trans rfl; have c13 := (kB.cell 13).trans rfl)
      | (go_at_call 72; refine (HV.out _).mono ?_; rintro e W4 ⟨rfl, hb1⟩; replace kB := kB.below hb1 kB.lt; replace hB := chain hB hb1; clear hb1 c5 c6 c7 c8 c10 c11 c12 c13; have c14 := (kB.cell 14).trans rfl; have c15 := (kB.cell 15).trans rfl))
    go_ret
    exact ⟨by rw [HX.out]; rfl, hB⟩
  by_cases k5 : 1099511627776 < b.un
  · have HX := Lib.hid (HN.out (fun h => (HM.out.1 h).2.2.2.2.2.1 k5))
    clear HN HY HM HP
    go_enter Try.func42, Try.ntmps42
    go_wp2_with (first
      | (go_at_call 41; refine (HA.out _).mono ?_; rintro e W1 ⟨rfl, hb1⟩; replace kB := kB.below hb1 kB.lt; replace hB := chain hB hb1; clear hb1; have c0 := (kB.cell 0).trans rfl; have c1 := (kB.cell 1).trans rfl; have c2 := (kB.cell 2).trans rfl; have c3 := (kB.cell 3).trans rfl; have c4 := (kB.cell 4).trans rfl; have c5 := (kB.cell 5).trans rfl; have c6 := (kB.cell 6).trans rfl; have c7 := (kB.cell 7).trans rfl; have c8 := (kB.cell 8).trans rfl; have c9 := (kB.cell 9).trans rfl)
      | (go_at_call 71; refine (HS.out _).mono ?_; rintro e W2 ⟨rfl, hb1⟩; replace kB := kB.below hb1 kB.lt; replace hB := chain hB hb1; clear hb1 c0 c1 c2 c3 c4 c5 c6 c7 c8 c9)
      | (go_at_call 43; refine (HI.out _).mono ?_; rintro e W3 ⟨rfl, hb1⟩; replace kB := kB.below hb1 kB.lt; replace hB := chain hB hb1; clear hb1; have c5 := (kB.cell 5).trans rfl; have c6 := (kB.cell 6).trans rfl; have c7 := (kB.cell 7).trans rfl; have c8 := (kB.cell 8).trans rfl; have c10 := (kB.cell 10).trans rfl; have c11 := (kB.cell 11).trans rfl; have c12 := (kB.cell 12).trans rfl; have c13 := (kB.cell 13).trans rfl)
      | (go_at_call 72; refine (HV.out _).mono ?_; rintro e W4 ⟨rfl, hb1⟩; replace kB := kB.below hb1 kB.lt; replace hB := chain hB hb1; clear hb1 c5 c6 c7 c8 c10 c11 c12 c13; have c14 := (kB.cell 14).trans rfl; have c15 := (kB.cell 15).trans rfl))
    go_ret
    exact ⟨by rw [HX.out]; rfl, hB⟩
  by_cases k6 : 1024 < (b.sg.size : Int)
  · have HX := Lib.hid (HN.out (fun h => (HM.out.1 h).2.2.2.2.2.2 k6))
    clear HN HY HM HP
    go_enter Try.func42, Try.ntmps42
    go_wp2_with (first
      | (go_at_call 41; refine (HA.out _).mono ?_; rintro e W1 ⟨rfl, hb1⟩; replace kB := kB.below hb1 kB.lt; replace hB := chain hB hb1; clear hb1; have c0 := (kB.cell 0).trans rfl; have c1 := (kB.cell 1).trans rfl; have c2 := (kB.cell 2).trans rfl; have c3 := (kB.cell 3).trans rfl; have c4 := (kB.cell 4).trans rfl; have c5 := (kB.cell 5).trans rfl; have c6 := (kB.cell 6).trans rfl; have c7 := (kB.cell 7).trans rfl; have c8 := (kB.cell 8).trans rfl; have c9 := (kB.cell 9).trans rfl)
      | (go_at_call 71; refine (HS.out _).mono ?_; rintro e W2 ⟨rfl, hb1⟩; replace kB := kB.below hb1 kB.lt; replace hB := chain hB hb1; clear hb1 c0 c1 c2 c3 c4 c5 c6 c7 c8 c9)
      | (go_at_call 43; refine (HI.out _).mono ?_; rintro e W3 ⟨rfl, hb1⟩; replace kB := kB.below hb1 kB.lt; replace hB := chain hB hb1; clear hb1; have c5 := (kB.cell 5).trans rfl; have c6 := (kB.cell 6).trans rfl; have c7 := (kB.cell 7).trans rfl; have c8 := (kB.cell 8).trans rfl; have c10 := (kB.cell 10).trans rfl; have c11 := (kB.cell 11).trans rfl; have c12 := (kB.cell 12).trans rfl; have c13 := (kB.cell 13).trans rfl)
      | (go_at_call 72; refine (HV.out _).mono ?_; rintro e W4 ⟨rfl, hb1⟩; replace kB := kB.below hb1 kB.lt; replace hB := chain hB hb1; clear hb1 c5 c6 c7 c8 c10 c11 c12 c13; have c14 := (kB.cell 14).trans rfl; have c15 := (kB.cell 15).trans rfl))
    go_ret
    exact ⟨by rw [HX.out]; rfl, hB⟩
  have HX := Lib.hid (HY.out (HM.out.2 ⟨HP.out.1, HP.out.2.1, HP.out.2.2, k3, k4, k5, k6⟩))
  clear HN HY HM HP
  go_enter Try.func42, Try.ntmps42
  go_wp2_with (first
    | (go_at_call 41; refine (HA.out _).mono ?_; rintro e W1 ⟨rfl, hb1⟩; replace kB := kB.below hb1 kB.lt; replace hB := chain hB hb1; clear hb1; have c0 := (kB.cell 0).trans rfl; have c1 := (kB.cell 1).trans rfl; have c2 := (kB.cell 2).trans rfl; have c3 := (kB.cell 3).trans rfl; have c4 := (kB.cell 4).trans rfl; have c5 := (kB.cell 5).trans rfl; have c6 := (kB.cell 6).trans rfl; have c7 := (kB.cell 7).trans rfl; have c8 := (kB.cell 8).trans rfl; have c9 := (kB.cell 9).trans rfl)
    | (go_at_call 71; refine (HS.out _).mono ?_; rintro e W2 ⟨rfl, hb1⟩; replace kB := kB.below hb1 kB.lt; replace hB := chain hB hb1; clear hb1 c0 c1 c2 c3 c4 c5 c6 c7 c8 c9)
    | (go_at_call 43; refine (HI.out _).mono ?_; rintro e W3 ⟨rfl, hb1⟩; replace kB := kB.below hb1 kB.lt; replace hB := chain hB hb1; clear hb1; have c5 := (kB.cell 5).trans rfl; have c6 := (kB.cell 6).trans rfl; have c7 := (kB.cell 7).trans rfl; have c8 := (kB.cell 8).trans rfl; have c10 := (kB.cell 10).trans rfl; have c11 := (kB.cell 11).trans rfl; have c12 := (kB.cell 12).trans rfl; have c13 := (kB.cell 13).trans rfl)
    | (go_at_call 72; refine (HV.out _).mono ?_; rintro e W4 ⟨rfl, hb1⟩; replace kB := kB.below hb1 kB.lt; replace hB := chain hB hb1; clear hb1 c5 c6 c7 c8 c10 c11 c12 c13; have c14 := (kB.cell 14).trans rfl; have c15 := (kB.cell 15).trans rfl))
  go_ret
  exact ⟨by rw [HX.out]; rfl, hB⟩
end Go.Proofs.Ytigdenlnnnfjlaa

namespace Go.Proofs.Ytigdenlnnnfjlaa
open Go.RowKit Go.Shelf

set_option maxRecDepth 100000 in
theorem refVar_any (v : Sid) (w : World) :
    Calls Try.prog 44 #[svv v] w fun e W' => e = .returned (.int .i64 (errV v)) ∧ Below w.heap.size w W' := by
  have hweq := @run_equalIn_wide
  by_cases h0 : v.a0 = 0 ∧ v.a1 = 0 ∧ v.a2 = 0 ∧ v.a3 = 0
  · have hE : errV v = 36 := if_neg fun h => h.1 h0
    rw [hE]
    have hq : wEq (v.a0 : Nat) (v.a1 : Nat) (v.a2 : Nat) (v.a3 : Nat) 0 0 0 0 = true := by
      obtain ⟨e0, e1, e2, e3⟩ := h0
      rw [e0, e1, e2, e3]; rfl
    clear hE h0
    go_enter Try.func44, Try.ntmps44
    go_wp2
    go_ret
    exact ⟨rfl, chain0 w _⟩
  · have hq : wEq (v.a0 : Nat) (v.a1 : Nat) (v.a2 : Nat) (v.a3 : Nat) 0 0 0 0 = false := wEq_not (by omega)
    by_cases hl : v.x < 0
    · have hE : errV v = 36 := if_neg fun h => by have := h.2; omega
      rw [hE]
      clear hE h0
      go_enter Try.func44, Try.ntmps44
      go_wp2
      go_ret
      exact ⟨rfl, chain0 w _⟩
    by_cases hx : 1099511627776 < v.x
    · have hE : errV v = 36 := if_neg fun h => by have := h.2; omega
      rw [hE]
      clear hE h0
      go_enter Try.func44, Try.ntmps44
      go_wp2
      go_ret
      exact ⟨rfl, chain0 w _⟩
    · have hE : errV v = 0 := if_pos ⟨h0, by omega, by omega⟩
      rw [hE]
      clear hE h0
      go_enter Try.func44, Try.ntmps44
      go_wp2
      go_ret
      exact ⟨rfl, chain0 w _⟩
end Go.Proofs.Ytigdenlnnnfjlaa

namespace Go.Proofs.Ytigdenlnnnfjlaa
open Go.RowKit Go.Shelf

theorem plainM_1 {m : Ms} (h : m.kd = 1) : plainM m = ⟨m.kd, m.ak, noB, noI, noV, 0, 0, 0, 0, emptyB⟩ := if_pos h
theorem plainM_2 {m : Ms} (h : m.kd = 2) : plainM m = ⟨m.kd, noA, m.bd, noI, noV, 0, 0, 0, 0, emptyB⟩ := by rw [plainM, if_neg (by omega), if_pos h]; rfl
theorem plainM_3 {m : Ms} (h : m.kd = 3) : plainM m = ⟨m.kd, noA, noB, m.iv, m.vr, m.f0, m.f1, m.f2, m.f3, m.sg⟩ := by rw [plainM, if_neg (by omega), if_neg (by omega), if_pos h]; rfl
theorem plainM_0 {m : Ms} (h1 : m.kd ≠ 1) (h2 : m.kd ≠ 2) (h3 : m.kd ≠ 3) : plainM m = ⟨m.kd, noA, noB, noI, noV, 0, 0, 0, 0, emptyB⟩ := by rw [plainM, if_neg h1, if_neg h2, if_neg h3]; rfl
set_option maxRecDepth 100000 in
set_option maxHeartbeats 8000000 in
theorem refMessage_any (m : Ms) (hm : OkM m) (w : World) :
    Calls Try.prog 10 #[msv m] w (RdM (plainM m, errG m) w) := by
  have hmx : Try.prog.follows .mixedOrders = true := by kernel_rfl
  go_enter Try.func10, Try.ntmps10
  go_upto_region 1 with fail
  generalize hW0 : World.alloc _ _ = W0
  have kB : Blk W0 w.heap.size 34 (msc m) := by rw [← hW0]; exact (Blk.new w 34 (msc m)).alloc _
  have kR : Blk W0 (w.heap.size + 1) 34 (msc noM) := by rw [← hW0]; exact Blk.new' (vs := msc noM) (by simp)
  have hB : Below w.heap.size w W0 := by rw [← hW0]; exact chainA (chain0 w _) _
  have hz : W0.heap.size = w.heap.size + 1 + 1 := by rw [← hW0]; simp
  have HZ := Lib.hid hz
  clear hW0 hz
  have c0 := (kB.cell 0).trans rfl
  go_upto_region 2 with (first
    | (refine wpList_buildTo rfl 34 _ rfl (some 7) rfl (msc ⟨m.kd, noA, noB, noI, noV, 0, 0, 0, 0, emptyB⟩).toArray (by kernel_rfl) ?_)
    | ((refine wpList_store_part 34 (.tmp 4) (.tmp 7) (msc ⟨m.kd, noA, noB, noI, noV, 0, 0, 0, 0, emptyB⟩) (Blk.new W0 34 (msc noM)) 0 (msv ⟨m.kd, noA, noB, noI, noV, 0, 0, 0, 0, emptyB⟩) (msc ⟨m.kd, noA, noB, noI, noV, 0, 0, 0, 0, emptyB⟩) ?_ ?_ ?_ ?_ ?_ ?_ ?_ ?_ ?_ ?_ ?_); (· rfl); (· rfl); (· rfl); (· rfl); (· rfl); (· rfl); (· kernel_rfl); (· exact Nat.le_of_ble_eq_true rfl); (· rfl); (· rfl)))
  clear c0
  rw [HZ.out]
  generalize hW1 : World.setRow (World.alloc W0 _) _ _ = W1
  have kX : Blk W1 (w.heap.size + 1 + 1) 34 (msc ⟨m.kd, noA, noB, noI, noV, 0, 0, 0, 0, emptyB⟩) := by rw [← hW1]; exact (Blk.new' (vs := msc noM) HZ.out).row (msc ⟨m.kd, noA, noB, noI, noV, 0, 0, 0, 0, emptyB⟩)
  replace kB : Blk W1 w.heap.size 34 (msc m) := by rw [← hW1]; exact (kB.alloc _).rowO _ (by omega)
  replace kR : Blk W1 (w.heap.size + 1) 34 (msc noM) := by rw [← hW1]; exact (kR.alloc _).rowO _ (by omega)
  replace hB : Below w.heap.size w W1 := by rw [← hW1]; exact below_setRow (chainA hB _) (show w.heap.size ≤ (w.heap.size + 1 + 1) by omega) _
  clear hW1 HZ
  have c0 := (kB.cell 0).trans rfl
  by_cases k1 : m.kd = 1
  · have HX := Lib.hid (plainM_1 k1)
    have HE : Hid (errG m = errA m.ak) := Lib.hid (if_pos k1)
    have q1 : (m.kd == 1) = true := by simpa using k1
    have HA := Lib.hid (refAsk_any m.ak)
    clear k1 hm
    go_upto_region 6 with (first
      | ((with_reducible refine wpList_loadIf 26 (.tmp 13) ?_ (some 14) ?_ ?_ (akv m.ak) ?_ ?_); (· rfl); (· rfl); (· rfl); (· exact load_mak kB))
      | ((with_reducible refine wpList_store_part 26 (.tmp 15) (.tmp 14) (msc ⟨m.kd, m.ak, noB, noI, noV, 0, 0, 0, 0, emptyB⟩) kX 1 ((akv m.ak)) (akc m.ak) ?_ ?_ ?_ ?_ ?_ ?_ ?_ ?_ ?_ ?_ ?_); (· rfl); (· rfl); (· rfl); (· rfl); (· rfl); (· rfl); (· kernel_rfl); (· exact Nat.le_of_ble_eq_true rfl); (· rfl); (· rfl); replace kB := kB.rowO (msc ⟨m.kd, m.ak, noB, noI, noV, 0, 0, 0, 0, emptyB⟩).toArray (g := (w.heap.size + 1 + 1)) (by omega); replace kR := kR.rowO (msc ⟨m.kd, m.ak, noB, noI, noV, 0, 0, 0, 0, emptyB⟩).toArray (g := (w.heap.size + 1 + 1)) (by omega); replace kX := kX.row (msc ⟨m.kd, m.ak, noB, noI, noV, 0, 0, 0, 0, emptyB⟩); replace hB := below_setRow hB (show w.heap.size ≤ (w.heap.size + 1 + 1) by omega) (msc ⟨m.kd, m.ak, noB, noI, noV, 0, 0, 0, 0, emptyB⟩).toArray))
    clear c0
    refine wp_region_held_drew (S := fun W => Blk W (w.heap.size + 1 + 1) 34 (msc ⟨m.kd, m.ak, noB, noI, noV, 0, 0, 0, 0, emptyB⟩) ∧ Blk W w.heap.size 34 (msc m)) hmx ⟨kX, kB⟩ ?_
    intro hS
    replace kR := kR.drew
    replace hB := hB.drew
    clear kB kX
    generalize World.drew _ = Y at *
    refine' wpAnyH_take (i := 0) (oi := _) (v := msv ⟨m.kd, m.ak, noB, noI, noV, 0, 0, 0, 0, emptyB⟩) ?hi1 (by kernel_rfl) (by kernel_rfl) (by kernel_rfl) ?hQ1 (Or.inl ⟨?hw1, ?hy1⟩) hS ?rest1
    case hi1 => simp only [List.getElem?_toArray, List.getElem?_cons_zero]; rfl
    case hQ1 => exact fun _ _ _ h => h
    case hw1 => rfl
    case hy1 => exact fun W' hS' => exec_load 34 (.tmp 4) rfl _ W' (load_ms hS'.1)
    try simp only [Act.put, List.setIfInBounds_toArray, List.set_cons_zero, List.set_cons_succ]
    refine' wpAnyH_take (i := 1) (oi := _) (v := _) ?hi2 (by kernel_rfl) (by kernel_rfl) (by kernel_rfl) ?hQ2 (Or.inl ⟨?hw2, ?hy2⟩) hS ?rest2
    case hi2 => simp only [List.getElem?_toArray, List.getElem?_cons_succ, List.getElem?_cons_zero]; rfl
    case hQ2 => exact fun _ _ _ h => h
    case hw2 => rfl
    case hy2 => intro W' hS'; go_simp; with_reducible rfl
    try simp only [Act.put, List.setIfInBounds_toArray, List.set_cons_zero, List.set_cons_succ]
    refine' wpAnyH_take (i := 2) (oi := _) (v := akv m.ak) ?hi3 (by kernel_rfl) (by kernel_rfl) (by kernel_rfl) ?hQ3 (Or.inl ⟨?hw3, ?hy3⟩) hS ?rest3
    case hi3 => simp only [List.getElem?_toArray, List.getElem?_cons_succ, List.getElem?_cons_zero]; rfl
    case hQ3 => exact fun _ _ _ h => h
    case hw3 => rfl
    case hy3 => exact fun W' hS' => exec_load 26 (.tmp 17) rfl _ W' (load_mak hS'.2)
    try simp only [Act.put, List.setIfInBounds_toArray, List.set_cons_zero, List.set_cons_succ]
    refine wpAnyH_ready (rs := [3]) (by kernel_rfl) (by simp) ?_
    refine' AllReadyH.cons (o := _) ?ho4 (fun K hK => ?st4) AllReadyH.nil
    case ho4 => simp only [List.getElem?_toArray, List.getElem?_cons_succ, List.getElem?_cons_zero]; rfl
    case st4 =>
      go_simp
      refine (HA.out _).mono ?_
      rintro e Y1 ⟨rfl, hb⟩
      refine hK.out _ _ ⟨hS.1.below hb hS.1.lt, hS.2.below hb hS.2.lt⟩ (fun hS => ?_)
      clear hK K
      try simp only [Act.put, List.setIfInBounds_toArray, List.set_cons_zero, List.set_cons_succ]
      replace kR := kR.below hb kR.lt
      replace hB := chain hB hb
      clear hb
      refine wpAnyH_ready (rs := [4]) (by kernel_rfl) (by simp) ?_
      refine' AllReadyH.cons (o := _) ?ho5 (fun K hK => ?st5) AllReadyH.nil
      case ho5 => simp only [List.getElem?_toArray, List.getElem?_cons_succ, List.getElem?_cons_zero]; rfl
      case st5 =>
        ((refine wp_store_part 34 (.tmp 2) (.tmp 16) (msc ⟨m.kd, m.ak, noB, noI, noV, 0, 0, 0, 0, emptyB⟩) kR 0 ((msv ⟨m.kd, m.ak, noB, noI, noV, 0, 0, 0, 0, emptyB⟩)) (msc ⟨m.kd, m.ak, noB, noI, noV, 0, 0, 0, 0, emptyB⟩) ?_ ?_ ?_ ?_ ?_ ?_ ?_ ?_ ?_ ?_); (· rfl); (· rfl); (· rfl); (· rfl); (· rfl); (· kernel_rfl); (· exact Nat.le_of_ble_eq_true rfl); (· rfl); (· rfl))
        refine hK.out _ _ ⟨hS.1.rowO _ (by omega), hS.2.rowO _ (by omega)⟩ (fun hS => ?_)
        clear hK K
        try simp only [Act.put, List.setIfInBounds_toArray, List.set_cons_zero, List.set_cons_succ]
        replace kR := kR.row (msc ⟨m.kd, m.ak, noB, noI, noV, 0, 0, 0, 0, emptyB⟩)
        replace hB := below_setRow hB (show w.heap.size ≤ w.heap.size + 1 by omega) (msc ⟨m.kd, m.ak, noB, noI, noV, 0, 0, 0, 0, emptyB⟩).toArray
        refine' wpAnyH_take (i := 5) (oi := _) (v := _) ?hi6 (by kernel_rfl) (by kernel_rfl) (by kernel_rfl) ?hQ6 (Or.inl ⟨?hw6, ?hy6⟩) hS ?rest6
        case hi6 => simp only [List.getElem?_toArray, List.getElem?_cons_succ, List.getElem?_cons_zero]; rfl
        case hQ6 => exact fun _ _ _ h => h
        case hw6 => rfl
        case hy6 => intro W' hS'; go_simp; with_reducible rfl
        try simp only [Act.put, List.setIfInBounds_toArray, List.set_cons_zero, List.set_cons_succ]
        refine wpAnyH_done (by kernel_rfl) ?_ _
        go_wp2_with fail
        exact bodyPost_ret (v := retM ⟨m.kd, m.ak, noB, noI, noV, 0, 0, 0, 0, emptyB⟩ (errA m.ak)) (by simp [results, Try.results10, asAddr, retM]; rw [load_msv kR]; rfl) rfl ⟨by rw [HX.out, HE.out], hB⟩
  have q1 : (m.kd == 1) = false := by simpa using k1
  by_cases k2 : m.kd = 2
  · have HX := Lib.hid (plainM_2 k2)
    have HE : Hid (errG m = errB m.bd) := Lib.hid (by rw [errG, if_neg k1, if_pos k2])
    have q2 : (m.kd == 2) = true := by simpa using k2
    have HA := Lib.hid (refBid_any m.bd hm.b)
    clear k1 k2 hm
    go_upto_region 9 with (first
      | ((with_reducible refine wpList_loadIf 28 (.tmp 22) ?_ (some 23) ?_ ?_ (bdv m.bd) ?_ ?_); (· rfl); (· rfl); (· rfl); (· exact load_mbd kB))
      | ((with_reducible refine wpList_store_part 28 (.tmp 24) (.tmp 23) (msc ⟨m.kd, noA, m.bd, noI, noV, 0, 0, 0, 0, emptyB⟩) kX 10 ((bdv m.bd)) (bdc m.bd) ?_ ?_ ?_ ?_ ?_ ?_ ?_ ?_ ?_ ?_ ?_); (· rfl); (· rfl); (· rfl); (· rfl); (· rfl); (· rfl); (· kernel_rfl); (· exact Nat.le_of_ble_eq_true rfl); (· rfl); (· rfl); replace kB := kB.rowO (msc ⟨m.kd, noA, m.bd, noI, noV, 0, 0, 0, 0, emptyB⟩).toArray (g := (w.heap.size + 1 + 1)) (by omega); replace kR := kR.rowO (msc ⟨m.kd, noA, m.bd, noI, noV, 0, 0, 0, 0, emptyB⟩).toArray (g := (w.heap.size + 1 + 1)) (by omega); replace kX := kX.row (msc ⟨m.kd, noA, m.bd, noI, noV, 0, 0, 0, 0, emptyB⟩); replace hB := below_setRow hB (show w.heap.size ≤ (w.heap.size + 1 + 1) by omega) (msc ⟨m.kd, noA, m.bd, noI, noV, 0, 0, 0, 0, emptyB⟩).toArray))
    clear c0
    refine wp_region_held_drew (S := fun W => Blk W (w.heap.size + 1 + 1) 34 (msc ⟨m.kd, noA, m.bd, noI, noV, 0, 0, 0, 0, emptyB⟩) ∧ Blk W w.heap.size 34 (msc m)) hmx ⟨kX, kB⟩ ?_
    intro hS
    replace kR := kR.drew
    replace hB := hB.drew
    clear kB kX
    generalize World.drew _ = Y at *
    refine' wpAnyH_take (i := 0) (oi := _) (v := msv ⟨m.kd, noA, m.bd, noI, noV, 0, 0, 0, 0, emptyB⟩) ?hi7 (by kernel_rfl) (by kernel_rfl) (by kernel_rfl) ?hQ7 (Or.inl ⟨?hw7, ?hy7⟩) hS ?rest7
    case hi7 => simp only [List.getElem?_toArray, List.getElem?_cons_zero]; rfl
    case hQ7 => exact fun _ _ _ h => h
    case hw7 => rfl
    case hy7 => exact fun W' hS' => exec_load 34 (.tmp 4) rfl _ W' (load_ms hS'.1)
    try simp only [Act.put, List.setIfInBounds_toArray, List.set_cons_zero, List.set_cons_succ]
    refine' wpAnyH_take (i := 1) (oi := _) (v := _) ?hi8 (by kernel_rfl) (by kernel_rfl) (by kernel_rfl) ?hQ8 (Or.inl ⟨?hw8, ?hy8⟩) hS ?rest8
    case hi8 => simp only [List.getElem?_toArray, List.getElem?_cons_succ, List.getElem?_cons_zero]; rfl
    case hQ8 => exact fun _ _ _ h => h
    case hw8 => rfl
    case hy8 => intro W' hS'; go_simp; with_reducible rfl
    try simp only [Act.put, List.setIfInBounds_toArray, List.set_cons_zero, List.set_cons_succ]
    refine' wpAnyH_take (i := 2) (oi := _) (v := bdv m.bd) ?hi9 (by kernel_rfl) (by kernel_rfl) (by kernel_rfl) ?hQ9 (Or.inl ⟨?hw9, ?hy9⟩) hS ?rest9
    case hi9 => simp only [List.getElem?_toArray, List.getElem?_cons_succ, List.getElem?_cons_zero]; rfl
    case hQ9 => exact fun _ _ _ h => h
    case hw9 => rfl
    case hy9 => exact fun W' hS' => exec_load 28 (.tmp 26) rfl _ W' (load_mbd hS'.2)
    try simp only [Act.put, List.setIfInBounds_toArray, List.set_cons_zero, List.set_cons_succ]
    refine wpAnyH_ready (rs := [3]) (by kernel_rfl) (by simp) ?_
    refine' AllReadyH.cons (o := _) ?ho10 (fun K hK => ?st10) AllReadyH.nil
    case ho10 => simp only [List.getElem?_toArray, List.getElem?_cons_succ, List.getElem?_cons_zero]; rfl
    case st10 =>
      go_simp
      refine (HA.out _).mono ?_
      rintro e Y1 ⟨rfl, hb⟩
      refine hK.out _ _ ⟨hS.1.below hb hS.1.lt, hS.2.below hb hS.2.lt⟩ (fun hS => ?_)
      clear hK K
      try simp only [Act.put, List.setIfInBounds_toArray, List.set_cons_zero, List.set_cons_succ]
      replace kR := kR.below hb kR.lt
      replace hB := chain hB hb
      clear hb
      refine wpAnyH_ready (rs := [4]) (by kernel_rfl) (by simp) ?_
      refine' AllReadyH.cons (o := _) ?ho11 (fun K hK => ?st11) AllReadyH.nil
      case ho11 => simp only [List.getElem?_toArray, List.getElem?_cons_succ, List.getElem?_cons_zero]; rfl
      case st11 =>
        ((refine wp_store_part 34 (.tmp 2) (.tmp 25) (msc ⟨m.kd, noA, m.bd, noI, noV, 0, 0, 0, 0, emptyB⟩) kR 0 ((msv ⟨m.kd, noA, m.bd, noI, noV, 0, 0, 0, 0, emptyB⟩)) (msc ⟨m.kd, noA, m.bd, noI, noV, 0, 0, 0, 0, emptyB⟩) ?_ ?_ ?_ ?_ ?_ ?_ ?_ ?_ ?_ ?_); (· rfl); (· rfl); (· rfl); (· rfl); (· rfl); (· kernel_rfl); (· exact Nat.le_of_ble_eq_true rfl); (· rfl); (· rfl))
        refine hK.out _ _ ⟨hS.1.rowO _ (by omega), hS.2.rowO _ (by omega)⟩ (fun hS => ?_)
        clear hK K
        try simp only [Act.put, List.setIfInBounds_toArray, List.set_cons_zero, List.set_cons_succ]
        replace kR := kR.row (msc ⟨m.kd, noA, m.bd, noI, noV, 0, 0, 0, 0, emptyB⟩)
        replace hB := below_setRow hB (show w.heap.size ≤ w.heap.size + 1 by omega) (msc ⟨m.kd, noA, m.bd, noI, noV, 0, 0, 0, 0, emptyB⟩).toArray
        refine' wpAnyH_take (i := 5) (oi := _) (v := _) ?hi12 (by kernel_rfl) (by kernel_rfl) (by kernel_rfl) ?hQ12 (Or.inl ⟨?hw12, ?hy12⟩) hS ?rest12
        case hi12 => simp only [List.getElem?_toArray, List.getElem?_cons_succ, List.getElem?_cons_zero]; rfl
        case hQ12 => exact fun _ _ _ h => h
        case hw12 => rfl
        case hy12 => intro W' hS'; go_simp; with_reducible rfl
        try simp only [Act.put, List.setIfInBounds_toArray, List.set_cons_zero, List.set_cons_succ]
        refine wpAnyH_done (by kernel_rfl) ?_ _
        go_wp2_with fail
        exact bodyPost_ret (v := retM ⟨m.kd, noA, m.bd, noI, noV, 0, 0, 0, 0, emptyB⟩ (errB m.bd)) (by simp [results, Try.results10, asAddr, retM]; rw [load_msv kR]; rfl) rfl ⟨by rw [HX.out, HE.out], hB⟩
  have q2 : (m.kd == 2) = false := by simpa using k2
  by_cases k3 : m.kd = 3
  · have HX := Lib.hid (plainM_3 k3)
    have HL : Hid (errG m = errL m) := Lib.hid (by rw [errG, if_neg k1, if_neg k2, if_pos k3])
    have q3 : (m.kd == 3) = true := by simpa using k3
    have HI := Lib.hid (refInv_any m.iv)
    have HV := Lib.hid (refVar_any m.vr)
    clear k1 k2 k3 hm
    go_upto_region 11 with fail
    clear c0
    refine wp_region_held_drew (S := fun W => Blk W w.heap.size 34 (msc m)) hmx kB ?_
    intro hS
    replace kR := kR.drew
    replace kX := kX.drew
    replace hB := hB.drew
    clear kB
    generalize World.drew _ = Y at *
    refine' wpAnyH_take (i := 0) (oi := _) (v := _) ?hi13 (by kernel_rfl) (by kernel_rfl) (by kernel_rfl) ?hQ13 (Or.inl ⟨?hw13, ?hy13⟩) hS ?rest13
    case hi13 => simp only [List.getElem?_toArray, List.getElem?_cons_zero]; rfl
    case hQ13 => exact fun _ _ _ h => h
    case hw13 => rfl
    case hy13 => intro W' hS'; go_simp; with_reducible rfl
    try simp only [Act.put, List.setIfInBounds_toArray, List.set_cons_zero, List.set_cons_succ]
    refine' wpAnyH_take (i := 1) (oi := _) (v := ivv m.iv) ?hi14 (by kernel_rfl) (by kernel_rfl) (by kernel_rfl) ?hQ14 (Or.inl ⟨?hw14, ?hy14⟩) hS ?rest14
    case hi14 => simp only [List.getElem?_toArray, List.getElem?_cons_succ, List.getElem?_cons_zero]; rfl
    case hQ14 => exact fun _ _ _ h => h
    case hw14 => rfl
    case hy14 => exact fun W' hS' => exec_load 30 (.tmp 31) rfl _ W' (load_miv hS')
    try simp only [Act.put, List.setIfInBounds_toArray, List.set_cons_zero, List.set_cons_succ]
    refine' wpAnyH_take (i := 2) (oi := _) (v := _) ?hi15 (by kernel_rfl) (by kernel_rfl) (by kernel_rfl) ?hQ15 (Or.inl ⟨?hw15, ?hy15⟩) hS ?rest15
    case hi15 => simp only [List.getElem?_toArray, List.getElem?_cons_succ, List.getElem?_cons_zero]; rfl
    case hQ15 => exact fun _ _ _ h => h
    case hw15 => rfl
    case hy15 => intro W' hS'; go_simp; with_reducible rfl
    try simp only [Act.put, List.setIfInBounds_toArray, List.set_cons_zero, List.set_cons_succ]
    refine' wpAnyH_take (i := 3) (oi := _) (v := svv m.vr) ?hi16 (by kernel_rfl) (by kernel_rfl) (by kernel_rfl) ?hQ16 (Or.inl ⟨?hw16, ?hy16⟩) hS ?rest16
    case hi16 => simp only [List.getElem?_toArray, List.getElem?_cons_succ, List.getElem?_cons_zero]; rfl
    case hQ16 => exact fun _ _ _ h => h
    case hw16 => rfl
    case hy16 => exact fun W' hS' => exec_load 32 (.tmp 33) rfl _ W' (load_mvr hS')
    try simp only [Act.put, List.setIfInBounds_toArray, List.set_cons_zero, List.set_cons_succ]
    refine' wpAnyH_take (i := 4) (oi := _) (v := _) ?hi17 (by kernel_rfl) (by kernel_rfl) (by kernel_rfl) ?hQ17 (Or.inl ⟨?hw17, ?hy17⟩) hS ?rest17
    case hi17 => simp only [List.getElem?_toArray, List.getElem?_cons_succ, List.getElem?_cons_zero]; rfl
    case hQ17 => exact fun _ _ _ h => h
    case hw17 => rfl
    case hy17 => intro W' hS'; go_simp; with_reducible rfl
    try simp only [Act.put, List.setIfInBounds_toArray, List.set_cons_zero, List.set_cons_succ]
    refine' wpAnyH_take (i := 5) (oi := _) (v := wv m.f0 m.f1 m.f2 m.f3) ?hi18 (by kernel_rfl) (by kernel_rfl) (by kernel_rfl) ?hQ18 (Or.inl ⟨?hw18, ?hy18⟩) hS ?rest18
    case hi18 => simp only [List.getElem?_toArray, List.getElem?_cons_succ, List.getElem?_cons_zero]; rfl
    case hQ18 => exact fun _ _ _ h => h
    case hw18 => rfl
    case hy18 => exact fun W' hS' => exec_load 24 (.tmp 35) rfl _ W' (load_mfe hS')
    try simp only [Act.put, List.setIfInBounds_toArray, List.set_cons_zero, List.set_cons_succ]
    refine' wpAnyH_take (i := 6) (oi := _) (v := _) ?hi19 (by kernel_rfl) (by kernel_rfl) (by kernel_rfl) ?hQ19 (Or.inl ⟨?hw19, ?hy19⟩) hS ?rest19
    case hi19 => simp only [List.getElem?_toArray, List.getElem?_cons_succ, List.getElem?_cons_zero]; rfl
    case hQ19 => exact fun _ _ _ h => h
    case hw19 => rfl
    case hy19 => intro W' hS'; go_simp; with_reducible rfl
    try simp only [Act.put, List.setIfInBounds_toArray, List.set_cons_zero, List.set_cons_succ]
    refine' wpAnyH_take (i := 7) (oi := _) (v := _) ?hi20 (by kernel_rfl) (by kernel_rfl) (by kernel_rfl) ?hQ20 (Or.inl ⟨?hw20, ?hy20⟩) hS ?rest20
    case hi20 => simp only [List.getElem?_toArray, List.getElem?_cons_succ, List.getElem?_cons_zero]; rfl
    case hQ20 => exact fun _ _ _ h => h
    case hw20 => rfl
    case hy20 => intro W' hS'; have c42 := (hS'.cell 42).trans rfl; go_simp; with_reducible rfl
    try simp only [Act.put, List.setIfInBounds_toArray, List.set_cons_zero, List.set_cons_succ]
    refine' wpAnyH_take (i := 8) (oi := _) (v := _) ?hi21 (by kernel_rfl) (by kernel_rfl) (by kernel_rfl) ?hQ21 (Or.inl ⟨?hw21, ?hy21⟩) hS ?rest21
    case hi21 => simp only [List.getElem?_toArray, List.getElem?_cons_succ, List.getElem?_cons_zero]; rfl
    case hQ21 => exact fun _ _ _ h => h
    case hw21 => rfl
    case hy21 => intro W' hS'; go_simp; with_reducible rfl
    try simp only [Act.put, List.setIfInBounds_toArray, List.set_cons_zero, List.set_cons_succ]
    refine wpAnyH_ready (rs := [9]) (by kernel_rfl) (by simp) ?_
    refine' AllReadyH.cons (o := _) ?ho22 (fun K hK => ?st22) AllReadyH.nil
    case ho22 => simp only [List.getElem?_toArray, List.getElem?_cons_succ, List.getElem?_cons_zero]; rfl
    case st22 =>
      ((refine wp_store_part 30 (.tmp 39) (.tmp 32) (msc ⟨m.kd, noA, noB, m.iv, noV, 0, 0, 0, 0, emptyB⟩) kX 26 ((ivv m.iv)) (ivc m.iv) ?_ ?_ ?_ ?_ ?_ ?_ ?_ ?_ ?_ ?_); (· rfl); (· rfl); (· rfl); (· rfl); (· rfl); (· kernel_rfl); (· exact Nat.le_of_ble_eq_true rfl); (· rfl); (· rfl))
      refine hK.out _ _ (hS.rowO _ (by omega)) (fun hS => ?_)
      clear hK K
      try simp only [Act.put, List.setIfInBounds_toArray, List.set_cons_zero, List.set_cons_succ]
      replace kR := kR.rowO (msc ⟨m.kd, noA, noB, m.iv, noV, 0, 0, 0, 0, emptyB⟩).toArray (g := (w.heap.size + 1 + 1)) (by omega)
      replace kX := kX.row (msc ⟨m.kd, noA, noB, m.iv, noV, 0, 0, 0, 0, emptyB⟩)
      replace hB := below_setRow hB (show w.heap.size ≤ (w.heap.size + 1 + 1) by omega) (msc ⟨m.kd, noA, noB, m.iv, noV, 0, 0, 0, 0, emptyB⟩).toArray
      refine' wpAnyH_take (i := 10) (oi := _) (v := _) ?hi23 (by kernel_rfl) (by kernel_rfl) (by kernel_rfl) ?hQ23 (Or.inl ⟨?hw23, ?hy23⟩) hS ?rest23
      case hi23 => simp only [List.getElem?_toArray, List.getElem?_cons_succ, List.getElem?_cons_zero]; rfl
      case hQ23 => exact fun _ _ _ h => h
      case hw23 => rfl
      case hy23 => intro W' hS'; go_simp; with_reducible rfl
      try simp only [Act.put, List.setIfInBounds_toArray, List.set_cons_zero, List.set_cons_succ]
      refine wpAnyH_ready (rs := [11]) (by kernel_rfl) (by simp) ?_
      refine' AllReadyH.cons (o := _) ?ho24 (fun K hK => ?st24) AllReadyH.nil
      case ho24 => simp only [List.getElem?_toArray, List.getElem?_cons_succ, List.getElem?_cons_zero]; rfl
      case st24 =>
        ((refine wp_store_part 32 (.tmp 40) (.tmp 34) (msc ⟨m.kd, noA, noB, m.iv, m.vr, 0, 0, 0, 0, emptyB⟩) kX 33 ((svv m.vr)) (svc m.vr) ?_ ?_ ?_ ?_ ?_ ?_ ?_ ?_ ?_ ?_); (· rfl); (· rfl); (· rfl); (· rfl); (· rfl); (· kernel_rfl); (· exact Nat.le_of_ble_eq_true rfl); (· rfl); (· rfl))
        refine hK.out _ _ (hS.rowO _ (by omega)) (fun hS => ?_)
        clear hK K
        try simp only [Act.put, List.setIfInBounds_toArray, List.set_cons_zero, List.set_cons_succ]
        replace kR := kR.rowO (msc ⟨m.kd, noA, noB, m.iv, m.vr, 0, 0, 0, 0, emptyB⟩).toArray (g := (w.heap.size + 1 + 1)) (by omega)
        replace kX := kX.row (msc ⟨m.kd, noA, noB, m.iv, m.vr, 0, 0, 0, 0, emptyB⟩)
        replace hB := below_setRow hB (show w.heap.size ≤ (w.heap.size + 1 + 1) by omega) (msc ⟨m.kd, noA, noB, m.iv, m.vr, 0, 0, 0, 0, emptyB⟩).toArray
        refine' wpAnyH_take (i := 12) (oi := _) (v := _) ?hi25 (by kernel_rfl) (by kernel_rfl) (by kernel_rfl) ?hQ25 (Or.inl ⟨?hw25, ?hy25⟩) hS ?rest25
        case hi25 => simp only [List.getElem?_toArray, List.getElem?_cons_succ, List.getElem?_cons_zero]; rfl
        case hQ25 => exact fun _ _ _ h => h
        case hw25 => rfl
        case hy25 => intro W' hS'; go_simp; with_reducible rfl
        try simp only [Act.put, List.setIfInBounds_toArray, List.set_cons_zero, List.set_cons_succ]
        refine wpAnyH_ready (rs := [13]) (by kernel_rfl) (by simp) ?_
        refine' AllReadyH.cons (o := _) ?ho26 (fun K hK => ?st26) AllReadyH.nil
        case ho26 => simp only [List.getElem?_toArray, List.getElem?_cons_succ, List.getElem?_cons_zero]; rfl
        case st26 =>
          ((refine wp_store_part 24 (.tmp 41) (.tmp 36) (msc ⟨m.kd, noA, noB, m.iv, m.vr, m.f0, m.f1, m.f2, m.f3, emptyB⟩) kX 38 ((wv m.f0 m.f1 m.f2 m.f3)) [.int .u64 (m.f0 : Nat), .int .u64 (m.f1 : Nat), .int .u64 (m.f2 : Nat), .int .u64 (m.f3 : Nat)] ?_ ?_ ?_ ?_ ?_ ?_ ?_ ?_ ?_ ?_); (· rfl); (· rfl); (· rfl); (· rfl); (· rfl); (· kernel_rfl); (· exact Nat.le_of_ble_eq_true rfl); (· rfl); (· rfl))
          refine hK.out _ _ (hS.rowO _ (by omega)) (fun hS => ?_)
          clear hK K
          try simp only [Act.put, List.setIfInBounds_toArray, List.set_cons_zero, List.set_cons_succ]
          replace kR := kR.rowO (msc ⟨m.kd, noA, noB, m.iv, m.vr, m.f0, m.f1, m.f2, m.f3, emptyB⟩).toArray (g := (w.heap.size + 1 + 1)) (by omega)
          replace kX := kX.row (msc ⟨m.kd, noA, noB, m.iv, m.vr, m.f0, m.f1, m.f2, m.f3, emptyB⟩)
          replace hB := below_setRow hB (show w.heap.size ≤ (w.heap.size + 1 + 1) by omega) (msc ⟨m.kd, noA, noB, m.iv, m.vr, m.f0, m.f1, m.f2, m.f3, emptyB⟩).toArray
          refine' wpAnyH_take (i := 14) (oi := _) (v := _) ?hi27 (by kernel_rfl) (by kernel_rfl) (by kernel_rfl) ?hQ27 (Or.inl ⟨?hw27, ?hy27⟩) hS ?rest27
          case hi27 => simp only [List.getElem?_toArray, List.getElem?_cons_succ, List.getElem?_cons_zero]; rfl
          case hQ27 => exact fun _ _ _ h => h
          case hw27 => rfl
          case hy27 => intro W' hS'; go_simp; with_reducible rfl
          try simp only [Act.put, List.setIfInBounds_toArray, List.set_cons_zero, List.set_cons_succ]
          refine wpAnyH_ready (rs := [15]) (by kernel_rfl) (by simp) ?_
          refine' AllReadyH.cons (o := _) ?ho28 (fun K hK => ?st28) AllReadyH.nil
          case ho28 => simp only [List.getElem?_toArray, List.getElem?_cons_succ, List.getElem?_cons_zero]; rfl
          case st28 =>
            ((refine wp_store_part 9 (.tmp 42) (.tmp 38) (msc ⟨m.kd, noA, noB, m.iv, m.vr, m.f0, m.f1, m.f2, m.f3, m.sg⟩) kX 42 ((.string m.sg)) [.string m.sg] ?_ ?_ ?_ ?_ ?_ ?_ ?_ ?_ ?_ ?_); (· rfl); (· rfl); (· rfl); (· rfl); (· rfl); (· kernel_rfl); (· exact Nat.le_of_ble_eq_true rfl); (· rfl); (· rfl))
            refine hK.out _ _ (hS.rowO _ (by omega)) (fun hS => ?_)
            clear hK K
            try simp only [Act.put, List.setIfInBounds_toArray, List.set_cons_zero, List.set_cons_succ]
            replace kR := kR.rowO (msc ⟨m.kd, noA, noB, m.iv, m.vr, m.f0, m.f1, m.f2, m.f3, m.sg⟩).toArray (g := (w.heap.size + 1 + 1)) (by omega)
            replace kX := kX.row (msc ⟨m.kd, noA, noB, m.iv, m.vr, m.f0, m.f1, m.f2, m.f3, m.sg⟩)
            replace hB := below_setRow hB (show w.heap.size ≤ (w.heap.size + 1 + 1) by omega) (msc ⟨m.kd, noA, noB, m.iv, m.vr, m.f0, m.f1, m.f2, m.f3, m.sg⟩).toArray
            refine wpAnyH_done (by kernel_rfl) ?_ _
            have kB := hS
            clear hS
            by_cases hi : maybeI m.iv
            · have E1 := Lib.hid (errI_zero hi)
              by_cases hv : maybeV m.vr
              · have E2 := Lib.hid (errV_zero hv)
                by_cases hs : m.sg.size ≤ 1024
                · have HE : Hid (errG m = 0) := Lib.hid (by rw [HL.out, errL, if_pos hi, if_pos hv, if_pos hs])
                  clear hi hv
                  go_wp2_with (first
                    | ((with_reducible refine wpList_loadIf 30 (.tmp 44) ?_ (some 45) ?_ ?_ (ivv m.iv) ?_ ?_); (· rfl); (· rfl); (· rfl); (· exact load_miv kB))
                    | ((with_reducible refine wpList_loadIf 32 (.tmp 50) ?_ (some 51) ?_ ?_ (svv m.vr) ?_ ?_); (· rfl); (· rfl); (· rfl); (· exact load_mvr kB))
                    | (go_at_call 43; refine (HI.out _).mono ?_; rw [E1.out]; rintro e w1 ⟨rfl, hb⟩; replace kB := kB.below hb kB.lt; replace kX := kX.below hb kX.lt; replace kR := kR.below hb kR.lt; replace hB := chain hB hb; clear hb)
                    | (go_at_call 44; refine (HV.out _).mono ?_; rw [E2.out]; rintro e w1 ⟨rfl, hb⟩; replace kB := kB.below hb kB.lt; replace kX := kX.below hb kX.lt; replace kR := kR.below hb kR.lt; replace hB := chain hB hb; clear hb; have c42 := (kB.cell 42).trans rfl)
                    | ((with_reducible refine wpList_loadIf 34 (.tmp 4) ?_ (some 61) ?_ ?_ (msv ⟨m.kd, noA, noB, m.iv, m.vr, m.f0, m.f1, m.f2, m.f3, m.sg⟩) ?_ ?_); (· rfl); (· rfl); (· rfl); (· exact load_ms kX))
                    | ((with_reducible refine wpList_store_part 34 (.tmp 2) (.tmp 61) (msc ⟨m.kd, noA, noB, m.iv, m.vr, m.f0, m.f1, m.f2, m.f3, m.sg⟩) kR 0 ((msv ⟨m.kd, noA, noB, m.iv, m.vr, m.f0, m.f1, m.f2, m.f3, m.sg⟩)) (msc ⟨m.kd, noA, noB, m.iv, m.vr, m.f0, m.f1, m.f2, m.f3, m.sg⟩) ?_ ?_ ?_ ?_ ?_ ?_ ?_ ?_ ?_ ?_ ?_); (· rfl); (· rfl); (· rfl); (· rfl); (· rfl); (· rfl); (· kernel_rfl); (· exact Nat.le_of_ble_eq_true rfl); (· rfl); (· rfl); replace kR := kR.row (msc ⟨m.kd, noA, noB, m.iv, m.vr, m.f0, m.f1, m.f2, m.f3, m.sg⟩); replace hB := below_setRow hB (show w.heap.size ≤ w.heap.size + 1 by omega) (msc ⟨m.kd, noA, noB, m.iv, m.vr, m.f0, m.f1, m.f2, m.f3, m.sg⟩).toArray))
                  exact bodyPost_ret (v := retM ⟨m.kd, noA, noB, m.iv, m.vr, m.f0, m.f1, m.f2, m.f3, m.sg⟩ 0) (by simp [results, Try.results10, asAddr, retM]; rw [load_msv kR]; rfl) rfl ⟨by rw [HX.out, HE.out], hB⟩
                · have HE : Hid (errG m = 5) := Lib.hid (by rw [HL.out, errL, if_pos hi, if_pos hv, if_neg hs])
                  have hs2 : 1024 < m.sg.size := by omega
                  clear hi hv hs
                  go_wp2_with (first
                    | ((with_reducible refine wpList_loadIf 30 (.tmp 44) ?_ (some 45) ?_ ?_ (ivv m.iv) ?_ ?_); (· rfl); (· rfl); (· rfl); (· exact load_miv kB))
                    | ((with_reducible refine wpList_loadIf 32 (.tmp 50) ?_ (some 51) ?_ ?_ (svv m.vr) ?_ ?_); (· rfl); (· rfl); (· rfl); (· exact load_mvr kB))
                    | (go_at_call 43; refine (HI.out _).mono ?_; rw [E1.out]; rintro e w1 ⟨rfl, hb⟩; replace kB := kB.below hb kB.lt; replace kX := kX.below hb kX.lt; replace kR := kR.below hb kR.lt; replace hB := chain hB hb; clear hb)
                    | (go_at_call 44; refine (HV.out _).mono ?_; rw [E2.out]; rintro e w1 ⟨rfl, hb⟩; replace kB := kB.below hb kB.lt; replace kX := kX.below hb kX.lt; replace kR := kR.below hb kR.lt; replace hB := chain hB hb; clear hb; have c42 := (kB.cell 42).trans rfl)
                    | ((with_reducible refine wpList_loadIf 34 (.tmp 4) ?_ (some 60) ?_ ?_ (msv ⟨m.kd, noA, noB, m.iv, m.vr, m.f0, m.f1, m.f2, m.f3, m.sg⟩) ?_ ?_); (· rfl); (· rfl); (· rfl); (· exact load_ms kX))
                    | ((with_reducible refine wpList_store_part 34 (.tmp 2) (.tmp 60) (msc ⟨m.kd, noA, noB, m.iv, m.vr, m.f0, m.f1, m.f2, m.f3, m.sg⟩) kR 0 ((msv ⟨m.kd, noA, noB, m.iv, m.vr, m.f0, m.f1, m.f2, m.f3, m.sg⟩)) (msc ⟨m.kd, noA, noB, m.iv, m.vr, m.f0, m.f1, m.f2, m.f3, m.sg⟩) ?_ ?_ ?_ ?_ ?_ ?_ ?_ ?_ ?_ ?_ ?_); (· rfl); (· rfl); (· rfl); (· rfl); (· rfl); (· rfl); (· kernel_rfl); (· exact Nat.le_of_ble_eq_true rfl); (· rfl); (· rfl); replace kR := kR.row (msc ⟨m.kd, noA, noB, m.iv, m.vr, m.f0, m.f1, m.f2, m.f3, m.sg⟩); replace hB := below_setRow hB (show w.heap.size ≤ w.heap.size + 1 by omega) (msc ⟨m.kd, noA, noB, m.iv, m.vr, m.f0, m.f1, m.f2, m.f3, m.sg⟩).toArray))
                  exact bodyPost_ret (v := retM ⟨m.kd, noA, noB, m.iv, m.vr, m.f0, m.f1, m.f2, m.f3, m.sg⟩ 5) (by simp [results, Try.results10, asAddr, retM]; rw [load_msv kR]; rfl) rfl ⟨by rw [HX.out, HE.out], hB⟩
              · have E2 := Lib.hid (errV_bad hv)
                have HE : Hid (errG m = 36) := Lib.hid (by rw [HL.out, errL, if_pos hi, if_neg hv])
                clear hi hv
                go_wp2_with (first
                  | ((with_reducible refine wpList_loadIf 30 (.tmp 44) ?_ (some 45) ?_ ?_ (ivv m.iv) ?_ ?_); (· rfl); (· rfl); (· rfl); (· exact load_miv kB))
                  | ((with_reducible refine wpList_loadIf 32 (.tmp 50) ?_ (some 51) ?_ ?_ (svv m.vr) ?_ ?_); (· rfl); (· rfl); (· rfl); (· exact load_mvr kB))
                  | (go_at_call 43; refine (HI.out _).mono ?_; rw [E1.out]; rintro e w1 ⟨rfl, hb⟩; replace kB := kB.below hb kB.lt; replace kX := kX.below hb kX.lt; replace kR := kR.below hb kR.lt; replace hB := chain hB hb; clear hb)
                  | (go_at_call 44; refine (HV.out _).mono ?_; rw [E2.out]; rintro e w1 ⟨rfl, hb⟩; replace kB := kB.below hb kB.lt; replace kX := kX.below hb kX.lt; replace kR := kR.below hb kR.lt; replace hB := chain hB hb; clear hb; have c42 := (kB.cell 42).trans rfl)
                  | ((with_reducible refine wpList_loadIf 34 (.tmp 4) ?_ (some 54) ?_ ?_ (msv ⟨m.kd, noA, noB, m.iv, m.vr, m.f0, m.f1, m.f2, m.f3, m.sg⟩) ?_ ?_); (· rfl); (· rfl); (· rfl); (· exact load_ms kX))
                  | ((with_reducible refine wpList_store_part 34 (.tmp 2) (.tmp 54) (msc ⟨m.kd, noA, noB, m.iv, m.vr, m.f0, m.f1, m.f2, m.f3, m.sg⟩) kR 0 ((msv ⟨m.kd, noA, noB, m.iv, m.vr, m.f0, m.f1, m.f2, m.f3, m.sg⟩)) (msc ⟨m.kd, noA, noB, m.iv, m.vr, m.f0, m.f1, m.f2, m.f3, m.sg⟩) ?_ ?_ ?_ ?_ ?_ ?_ ?_ ?_ ?_ ?_ ?_); (· rfl); (· rfl); (· rfl); (· rfl); (· rfl); (· rfl); (· kernel_rfl); (· exact Nat.le_of_ble_eq_true rfl); (· rfl); (· rfl); replace kR := kR.row (msc ⟨m.kd, noA, noB, m.iv, m.vr, m.f0, m.f1, m.f2, m.f3, m.sg⟩); replace hB := below_setRow hB (show w.heap.size ≤ w.heap.size + 1 by omega) (msc ⟨m.kd, noA, noB, m.iv, m.vr, m.f0, m.f1, m.f2, m.f3, m.sg⟩).toArray))
                exact bodyPost_ret (v := retM ⟨m.kd, noA, noB, m.iv, m.vr, m.f0, m.f1, m.f2, m.f3, m.sg⟩ 36) (by simp [results, Try.results10, asAddr, retM]; rw [load_msv kR]; rfl) rfl ⟨by rw [HX.out, HE.out], hB⟩
            · have E1 := Lib.hid (errI_bad hi)
              have HE : Hid (errG m = 39) := Lib.hid (by rw [HL.out, errL, if_neg hi])
              clear hi
              go_wp2_with (first
                | ((with_reducible refine wpList_loadIf 30 (.tmp 44) ?_ (some 45) ?_ ?_ (ivv m.iv) ?_ ?_); (· rfl); (· rfl); (· rfl); (· exact load_miv kB))
                | (go_at_call 43; refine (HI.out _).mono ?_; rw [E1.out]; rintro e w1 ⟨rfl, hb⟩; replace kB := kB.below hb kB.lt; replace kX := kX.below hb kX.lt; replace kR := kR.below hb kR.lt; replace hB := chain hB hb; clear hb)
                | ((with_reducible refine wpList_loadIf 34 (.tmp 4) ?_ (some 48) ?_ ?_ (msv ⟨m.kd, noA, noB, m.iv, m.vr, m.f0, m.f1, m.f2, m.f3, m.sg⟩) ?_ ?_); (· rfl); (· rfl); (· rfl); (· exact load_ms kX))
                | ((with_reducible refine wpList_store_part 34 (.tmp 2) (.tmp 48) (msc ⟨m.kd, noA, noB, m.iv, m.vr, m.f0, m.f1, m.f2, m.f3, m.sg⟩) kR 0 ((msv ⟨m.kd, noA, noB, m.iv, m.vr, m.f0, m.f1, m.f2, m.f3, m.sg⟩)) (msc ⟨m.kd, noA, noB, m.iv, m.vr, m.f0, m.f1, m.f2, m.f3, m.sg⟩) ?_ ?_ ?_ ?_ ?_ ?_ ?_ ?_ ?_ ?_ ?_); (· rfl); (· rfl); (· rfl); (· rfl); (· rfl); (· rfl); (· kernel_rfl); (· exact Nat.le_of_ble_eq_true rfl); (· rfl); (· rfl); replace kR := kR.row (msc ⟨m.kd, noA, noB, m.iv, m.vr, m.f0, m.f1, m.f2, m.f3, m.sg⟩); replace hB := below_setRow hB (show w.heap.size ≤ w.heap.size + 1 by omega) (msc ⟨m.kd, noA, noB, m.iv, m.vr, m.f0, m.f1, m.f2, m.f3, m.sg⟩).toArray))
              exact bodyPost_ret (v := retM ⟨m.kd, noA, noB, m.iv, m.vr, m.f0, m.f1, m.f2, m.f3, m.sg⟩ 39) (by simp [results, Try.results10, asAddr, retM]; rw [load_msv kR]; rfl) rfl ⟨by rw [HX.out, HE.out], hB⟩
  have q3 : (m.kd == 3) = false := by simpa using k3
  have HX := Lib.hid (plainM_0 k1 k2 k3)
  have HE : Hid (errG m = 12) := Lib.hid (by rw [errG, if_neg k1, if_neg k2, if_neg k3])
  clear k1 k2 k3 hm
  go_wp2_with (first
    | ((with_reducible refine wpList_loadIf 34 (.tmp 4) ?_ (some 10) ?_ ?_ (msv ⟨m.kd, noA, noB, noI, noV, 0, 0, 0, 0, emptyB⟩) ?_ ?_); (· rfl); (· rfl); (· rfl); (· exact load_ms kX))
    | ((with_reducible refine wpList_store_part 34 (.tmp 2) (.tmp 10) (msc ⟨m.kd, noA, noB, noI, noV, 0, 0, 0, 0, emptyB⟩) kR 0 ((msv ⟨m.kd, noA, noB, noI, noV, 0, 0, 0, 0, emptyB⟩)) (msc ⟨m.kd, noA, noB, noI, noV, 0, 0, 0, 0, emptyB⟩) ?_ ?_ ?_ ?_ ?_ ?_ ?_ ?_ ?_ ?_ ?_); (· rfl); (· rfl); (· rfl); (· rfl); (· rfl); (· rfl); (· kernel_rfl); (· exact Nat.le_of_ble_eq_true rfl); (· rfl); (· rfl); replace kR := kR.row (msc ⟨m.kd, noA, noB, noI, noV, 0, 0, 0, 0, emptyB⟩); replace hB := below_setRow hB (show w.heap.size ≤ w.heap.size + 1 by omega) (msc ⟨m.kd, noA, noB, noI, noV, 0, 0, 0, 0, emptyB⟩).toArray))
  exact bodyPost_ret (v := retM ⟨m.kd, noA, noB, noI, noV, 0, 0, 0, 0, emptyB⟩ 12) (by simp [results, Try.results10, asAddr, retM]; rw [load_msv kR]; rfl) rfl ⟨by rw [HX.out, HE.out], hB⟩
end Go.Proofs.Ytigdenlnnnfjlaa
