/-
  A bid's fields, read of an In: mail's getBid.
  A message's fields, read of an In: mail's fields.
  The reference's Cat.
  The reference's Num and Int.
  The reference's Digits tells the sixteen digits of a wide number.
  The reference's Wide: two octets a digit, the highest first.
  The reference's writer of fields.
  An object and a struct beside it: what is stored into the struct leaves the object.
  An In of octets, however many.
-/
import Derived.Great.BuildSlice
import Derived.Laws.OwnMore
import Derived.Maps.AppendAt
import Derived.Deep.RegionHeld3
import Derived.Outline
import Derived.Test.YtigdenlnnnfjlaaK06
namespace Go.Proofs.Ytigdenlnnnfjlaa
open Go.RowKit Go.Shelf

def GotB (T : TypeId) (p : Option Addr) (r : Bd × St) (w : World) (e : Ending) (W' : World) : Prop :=
  e = .returned (bdv r.1) ∧ ObjP T W' p r.2 ∧ w.grownBy W' (p.map (·.block))
def GotM (T : TypeId) (p : Option Addr) (r : Ms × St) (w : World) (e : Ending) (W' : World) : Prop :=
  e = .returned (msv r.1) ∧ ObjP T W' p r.2 ∧ w.grownBy W' (p.map (·.block))
theorem mnum_kind (p : Option Addr) (s : St) (W : World) (h : ObjP 106 W p s) : Calls Try.prog 59 #[.pointer p, .int .i64 1099511627776] W (NumS 106 p (mostS s 6 big) W) := inNumP_any (p := p) 1099511627776 1099511627776 (Or.inr ⟨by omega, rfl⟩) W h
theorem mtxt_kind (p : Option Addr) (s : St) (W : World) (h : ObjP 106 W p s) : Calls Try.prog 65 #[.pointer p, .int .i64 1024] W (TxtS 106 p (gtxtS s 1024) W) := inTextP_any (p := p) 1024 1024 (Or.inr ⟨by omega, rfl⟩) W h

set_option maxRecDepth 100000 in
set_option maxHeartbeats 8000000 in
theorem getBid_any {p : Option Addr} {s : St} (w : World) (h : ObjP 106 w p s) :
    Calls Try.prog 61 #[.pointer p] w (GotB 106 p (rawD s, (bd4 s).2) w) := by
  have HNR := Lib.hid (ptr_lt h (Nat.le_refl w.heap.size))
  have HNL := Lib.hid (ptr_lt h (Nat.le_succ w.heap.size))
  have Q0 : Hid (∀ W, ObjP 106 W p s → Calls Try.prog 59 #[.pointer p, .int .i64 1099511627776] W (NumS 106 p (bd0 s) W)) := Lib.hid fun W h => mnum_kind p s W h
  have Q1 : Hid (∀ W, ObjP 106 W p (bd0 s).2 → Calls Try.prog 60 #[.pointer p] W (GotA 106 p (bd1 s) W)) := Lib.hid fun W h => bidGetAsk_any W h
  have Q2 : Hid (∀ W, ObjP 106 W p (bd1 s).2 → Calls Try.prog 64 #[.pointer p] W (WidS 106 p (bd2 s) W)) := Lib.hid fun W h => inWide_any W h
  have Q3 : Hid (∀ W, ObjP 106 W p (bd2 s).2 → Calls Try.prog 59 #[.pointer p, .int .i64 1099511627776] W (NumS 106 p (bd3 s) W)) := Lib.hid fun W h => mnum_kind p _ W h
  have Q4 : Hid (∀ W, ObjP 106 W p (bd3 s).2 → Calls Try.prog 65 #[.pointer p, .int .i64 1024] W (TxtS 106 p (bd4 s) W)) := Lib.hid fun W h => mtxt_kind p _ W h
  have HX : Hid (rawD s = ⟨((bd0 s).1 : Nat), (bd1 s).1, wdS (bd2 s).1 0, wdS (bd2 s).1 1, wdS (bd2 s).1 2, wdS (bd2 s).1 3, ((bd3 s).1 : Nat), str (bd4 s).1⟩) := Lib.hid rfl
  have hz0 : (w.alloc (.cells (bdc noB).toArray 28)).heap.size = w.heap.size + 1 := by simp
  have kR := (Blk.new w 28 (bdc noB)).alloc (.cells (bdc noB).toArray 28)
  have kL : Blk ((w.alloc (.cells (bdc noB).toArray 28)).alloc (.cells (bdc noB).toArray 28)) (w.heap.size + 1) 28 (bdc noB) := Blk.new' hz0
  have hG := (World.grownBy_alloc w (.cells (bdc noB).toArray 28) (p.map (·.block))).trans (World.grownBy_alloc _ (.cells (bdc noB).toArray 28) (p.map (·.block)))
  have hO := (h.below (chain0 w (.cells (bdc noB).toArray 28))).below (chain0 _ (.cells (bdc noB).toArray 28))
  clear h hz0
  generalize rawD s = raw at *
  generalize bd0 s = d0 at *
  generalize bd1 s = d1 at *
  generalize bd2 s = d2 at *
  generalize bd3 s = d3 at *
  generalize bd4 s = d4 at *
  obtain ⟨n0, s0⟩ := d0
  obtain ⟨ak, s1⟩ := d1
  obtain ⟨fl, s2⟩ := d2
  obtain ⟨n3, s3⟩ := d3
  obtain ⟨g, s4⟩ := d4
  unfold WidS at Q2
  dsimp only at HX Q1 Q2 Q3 Q4
  generalize wdS fl 0 = u0 at *
  generalize wdS fl 1 = u1 at *
  generalize wdS fl 2 = u2 at *
  generalize wdS fl 3 = u3 at *
  go_enter Try.func61, Try.ntmps61
  go_wp2_with (first
    | (go_at_call 59; refine (Q0.out _ hO).mono ?_; rintro e W1 ⟨rfl, q, g⟩; replace hG := World.grownBy.trans hG g; replace kR := kR.kept g HNR.out; replace kL := kL.kept g HNL.out; clear g hO)
    | ((with_reducible refine wpList_store_part 3 (.tmp 6) (.tmp 5) (bdc ⟨(n0 : Nat), noA, 0, 0, 0, 0, 0, emptyB⟩) kL 0 ((.int .i64 (n0 : Nat))) [.int .i64 (n0 : Nat)] ?_ ?_ ?_ ?_ ?_ ?_ ?_ ?_ ?_ ?_ ?_); (· rfl); (· rfl); (· rfl); (· rfl); (· rfl); (· rfl); (· kernel_rfl); (· exact Nat.le_of_ble_eq_true rfl); (· rfl); (· rfl); have hO1 := objP_row q (noOctB kL) HNL.out (bdc ⟨(n0 : Nat), noA, 0, 0, 0, 0, 0, emptyB⟩).toArray; replace kR := kR.rowO (bdc ⟨(n0 : Nat), noA, 0, 0, 0, 0, 0, emptyB⟩).toArray (g := w.heap.size + 1) (by omega); replace kL := kL.row (bdc ⟨(n0 : Nat), noA, 0, 0, 0, 0, 0, emptyB⟩); replace hG := grown_row hG (Nat.le_succ _) (bdc ⟨(n0 : Nat), noA, 0, 0, 0, 0, 0, emptyB⟩).toArray; clear q)
    | (go_at_call 60; refine (Q1.out _ hO1).mono ?_; rintro e W1 ⟨rfl, q, g⟩; replace hG := World.grownBy.trans hG g; replace kR := kR.kept g HNR.out; replace kL := kL.kept g HNL.out; clear g hO1)
    | ((with_reducible refine wpList_store_part 26 (.tmp 9) (.tmp 8) (bdc ⟨(n0 : Nat), ak, 0, 0, 0, 0, 0, emptyB⟩) kL 1 ((akv ak)) (akc ak) ?_ ?_ ?_ ?_ ?_ ?_ ?_ ?_ ?_ ?_ ?_); (· rfl); (· rfl); (· rfl); (· rfl); (· rfl); (· rfl); (· kernel_rfl); (· exact Nat.le_of_ble_eq_true rfl); (· rfl); (· rfl); have hO2 := objP_row q (noOctB kL) HNL.out (bdc ⟨(n0 : Nat), ak, 0, 0, 0, 0, 0, emptyB⟩).toArray; replace kR := kR.rowO (bdc ⟨(n0 : Nat), ak, 0, 0, 0, 0, 0, emptyB⟩).toArray (g := w.heap.size + 1) (by omega); replace kL := kL.row (bdc ⟨(n0 : Nat), ak, 0, 0, 0, 0, 0, emptyB⟩); replace hG := grown_row hG (Nat.le_succ _) (bdc ⟨(n0 : Nat), ak, 0, 0, 0, 0, 0, emptyB⟩).toArray; clear q)
    | (go_at_call 64; refine (Q2.out _ hO2).mono ?_; rintro e W1 ⟨rfl, q, g⟩; replace hG := World.grownBy.trans hG g; replace kR := kR.kept g HNR.out; replace kL := kL.kept g HNL.out; clear g hO2)
    | ((with_reducible refine wpList_store_part 24 (.tmp 12) (.tmp 11) (bdc ⟨(n0 : Nat), ak, u0, u1, u2, u3, 0, emptyB⟩) kL 10 ((wv u0 u1 u2 u3)) [.int .u64 (u0 : Nat), .int .u64 (u1 : Nat), .int .u64 (u2 : Nat), .int .u64 (u3 : Nat)] ?_ ?_ ?_ ?_ ?_ ?_ ?_ ?_ ?_ ?_ ?_); (· rfl); (· rfl); (· rfl); (· rfl); (· rfl); (· rfl); (· kernel_rfl); (· exact Nat.le_of_ble_eq_true rfl); (· rfl); (· rfl); have hO3 := objP_row q (noOctB kL) HNL.out (bdc ⟨(n0 : Nat), ak, u0, u1, u2, u3, 0, emptyB⟩).toArray; replace kR := kR.rowO (bdc ⟨(n0 : Nat), ak, u0, u1, u2, u3, 0, emptyB⟩).toArray (g := w.heap.size + 1) (by omega); replace kL := kL.row (bdc ⟨(n0 : Nat), ak, u0, u1, u2, u3, 0, emptyB⟩); replace hG := grown_row hG (Nat.le_succ _) (bdc ⟨(n0 : Nat), ak, u0, u1, u2, u3, 0, emptyB⟩).toArray; clear q)
    | (go_at_call 59; refine (Q3.out _ hO3).mono ?_; rintro e W1 ⟨rfl, q, g⟩; replace hG := World.grownBy.trans hG g; replace kR := kR.kept g HNR.out; replace kL := kL.kept g HNL.out; clear g hO3)
    | ((with_reducible refine wpList_store_part 3 (.tmp 15) (.tmp 14) (bdc ⟨(n0 : Nat), ak, u0, u1, u2, u3, (n3 : Nat), emptyB⟩) kL 14 ((.int .i64 (n3 : Nat))) [.int .i64 (n3 : Nat)] ?_ ?_ ?_ ?_ ?_ ?_ ?_ ?_ ?_ ?_ ?_); (· rfl); (· rfl); (· rfl); (· rfl); (· rfl); (· rfl); (· kernel_rfl); (· exact Nat.le_of_ble_eq_true rfl); (· rfl); (· rfl); have hO4 := objP_row q (noOctB kL) HNL.out (bdc ⟨(n0 : Nat), ak, u0, u1, u2, u3, (n3 : Nat), emptyB⟩).toArray; replace kR := kR.rowO (bdc ⟨(n0 : Nat), ak, u0, u1, u2, u3, (n3 : Nat), emptyB⟩).toArray (g := w.heap.size + 1) (by omega); replace kL := kL.row (bdc ⟨(n0 : Nat), ak, u0, u1, u2, u3, (n3 : Nat), emptyB⟩); replace hG := grown_row hG (Nat.le_succ _) (bdc ⟨(n0 : Nat), ak, u0, u1, u2, u3, (n3 : Nat), emptyB⟩).toArray; clear q)
    | (go_at_call 65; refine (Q4.out _ hO4).mono ?_; rintro e W1 ⟨rfl, q, g⟩; replace hG := World.grownBy.trans hG g; replace kR := kR.kept g HNR.out; replace kL := kL.kept g HNL.out; clear g hO4)
    | ((with_reducible refine wpList_store_part 9 (.tmp 18) (.tmp 17) (bdc ⟨(n0 : Nat), ak, u0, u1, u2, u3, (n3 : Nat), str g⟩) kL 15 ((.string ⟨g.toArray⟩)) [.string ⟨g.toArray⟩] ?_ ?_ ?_ ?_ ?_ ?_ ?_ ?_ ?_ ?_ ?_); (· rfl); (· rfl); (· rfl); (· rfl); (· rfl); (· rfl); (· kernel_rfl); (· exact Nat.le_of_ble_eq_true rfl); (· rfl); (· rfl); have hO5 := objP_row q (noOctB kL) HNL.out (bdc ⟨(n0 : Nat), ak, u0, u1, u2, u3, (n3 : Nat), str g⟩).toArray; replace kR := kR.rowO (bdc ⟨(n0 : Nat), ak, u0, u1, u2, u3, (n3 : Nat), str g⟩).toArray (g := w.heap.size + 1) (by omega); replace kL := kL.row (bdc ⟨(n0 : Nat), ak, u0, u1, u2, u3, (n3 : Nat), str g⟩); replace hG := grown_row hG (Nat.le_succ _) (bdc ⟨(n0 : Nat), ak, u0, u1, u2, u3, (n3 : Nat), str g⟩).toArray; clear q)
    | ((with_reducible refine wpList_loadIf 28 (.tmp 3) ?_ (some 19) ?_ ?_ (bdv ⟨(n0 : Nat), ak, u0, u1, u2, u3, (n3 : Nat), str g⟩) ?_ ?_); (· rfl); (· rfl); (· rfl); (· exact load_bd kL))
    | ((with_reducible refine wpList_store_part 28 (.tmp 2) (.tmp 19) (bdc ⟨(n0 : Nat), ak, u0, u1, u2, u3, (n3 : Nat), str g⟩) kR 0 ((bdv ⟨(n0 : Nat), ak, u0, u1, u2, u3, (n3 : Nat), str g⟩)) (bdc ⟨(n0 : Nat), ak, u0, u1, u2, u3, (n3 : Nat), str g⟩) ?_ ?_ ?_ ?_ ?_ ?_ ?_ ?_ ?_ ?_ ?_); (· rfl); (· rfl); (· rfl); (· rfl); (· rfl); (· rfl); (· kernel_rfl); (· exact Nat.le_of_ble_eq_true rfl); (· rfl); (· rfl); have hO6 := objP_row hO5 (noOctB kR) HNR.out (bdc ⟨(n0 : Nat), ak, u0, u1, u2, u3, (n3 : Nat), str g⟩).toArray; replace kR := kR.row (bdc ⟨(n0 : Nat), ak, u0, u1, u2, u3, (n3 : Nat), str g⟩); replace hG := grown_row hG (Nat.le_refl _) (bdc ⟨(n0 : Nat), ak, u0, u1, u2, u3, (n3 : Nat), str g⟩).toArray))
  exact bodyPost_ret (v := bdv ⟨(n0 : Nat), ak, u0, u1, u2, u3, (n3 : Nat), str g⟩) (results_cell_row (P := Try.prog) (fn := Try.f61) (p := 2) (ty := 28) rfl _ _ w.heap.size 28 (bdc ⟨(n0 : Nat), ak, u0, u1, u2, u3, (n3 : Nat), str g⟩).toArray (0, 0) _ rfl kR Try.underlying28 rfl (by kernel_rfl)) rfl ⟨by rw [HX.out]; try rfl, hO6, hG⟩
end Go.Proofs.Ytigdenlnnnfjlaa

namespace Go.Proofs.Ytigdenlnnnfjlaa
open Go.RowKit Go.Shelf

theorem rawG_1 {s : St} (h : kdG s = 1) : rawG s = ({ noM with kd := 1, ak := (getA (gd0 s).2).1 }, (getA (gd0 s).2).2) := if_pos h
theorem rawG_2 {s : St} (h : kdG s = 2) : rawG s = ({ noM with kd := 2, bd := rawD (gd0 s).2 }, (bd4 (gd0 s).2).2) := by rw [rawG, if_neg (by omega), if_pos h]
theorem rawG_3 {s : St} (h : kdG s = 3) : rawG s = ({ noM with kd := 3, iv := (ld0 (gd0 s).2).1, vr := (ld1 (gd0 s).2).1, f0 := wdS (ld2 (gd0 s).2).1 0, f1 := wdS (ld2 (gd0 s).2).1 1, f2 := wdS (ld2 (gd0 s).2).1 2, f3 := wdS (ld2 (gd0 s).2).1 3, sg := str (ld3 (gd0 s).2).1 }, (ld3 (gd0 s).2).2) := by rw [rawG, if_neg (by omega), if_neg (by omega), if_pos h]
theorem rawG_0 {s : St} (h1 : kdG s ≠ 1) (h2 : kdG s ≠ 2) (h3 : kdG s ≠ 3) : rawG s = ({ noM with kd := kdG s }, (gd0 s).2) := by rw [rawG, if_neg h1, if_neg h2, if_neg h3]
set_option maxRecDepth 100000 in
set_option maxHeartbeats 8000000 in
theorem mailFields_any {p : Option Addr} {s : St} (w : World) (h : ObjP 106 w p s) :
    Calls Try.prog 30 #[.pointer p] w (GotM 106 p (rawG s) w) := by
  have HNR := Lib.hid (ptr_lt h (Nat.le_refl w.heap.size))
  have Q0 : Hid (∀ W, ObjP 106 W p s → Calls Try.prog 59 #[.pointer p, .int .i64 1099511627776] W (fun e W' => e = .returned (.int .i64 (kdG s)) ∧ ObjP 106 W' p (gd0 s).2 ∧ W.grownBy W' (p.map (·.block)))) := Lib.hid fun W h => mnum_kind p s W h
  have X1 := Lib.hid (rawG_1 (s := s))
  have X2 := Lib.hid (rawG_2 (s := s))
  have X3 := Lib.hid (rawG_3 (s := s))
  have X0 := Lib.hid (rawG_0 (s := s))
  generalize rawG s = rw0 at *
  generalize kdG s = kd at *
  generalize (gd0 s).2 = s1 at *
  have kR := Blk.new w 34 (msc noM)
  have hG := World.grownBy_alloc w (.cells (msc noM).toArray 34) (p.map (·.block))
  have hO := h.below (chain0 w (.cells (msc noM).toArray 34))
  clear h
  go_enter Try.func30, Try.ntmps30
  go_upto_region 2 with (first
    | (go_at_call 59; refine (Q0.out _ hO).mono ?_; rintro e W1 ⟨rfl, q, g⟩; have hg1 := g.size; replace hG := World.grownBy.trans hG g; replace kR := kR.kept g HNR.out; have hb1 := chain0 W1 (.cells (msc noM).toArray 34); have kL := Blk.new W1 34 (msc noM); have HRL : Hid (w.heap.size ≠ W1.heap.size) := Lib.hid (by have := kR.lt; omega); replace kR := kR.below hb1 kR.lt; have hWL := hG.size; replace hG := World.grownBy.trans hG (grew hb1 _); have HNL := Lib.hid (ptr_lt q (Nat.le_refl W1.heap.size)); replace q := q.below hb1; clear g hg1 hb1 hO)
    | (refine wpList_buildTo rfl 34 _ rfl (some 6) rfl (msc ⟨kd, noA, noB, noI, noV, 0, 0, 0, 0, emptyB⟩).toArray (by kernel_rfl) ?_)
    | ((refine wpList_store_part 34 (.tmp 3) (.tmp 6) (msc ⟨kd, noA, noB, noI, noV, 0, 0, 0, 0, emptyB⟩) kL 0 ((msv ⟨kd, noA, noB, noI, noV, 0, 0, 0, 0, emptyB⟩)) (msc ⟨kd, noA, noB, noI, noV, 0, 0, 0, 0, emptyB⟩) ?_ ?_ ?_ ?_ ?_ ?_ ?_ ?_ ?_ ?_ ?_); (· rfl); (· rfl); (· rfl); (· rfl); (· rfl); (· rfl); (· kernel_rfl); (· exact Nat.le_of_ble_eq_true rfl); (· rfl); (· rfl); have hO := objP_row q (noOctM kL) HNL.out (msc ⟨kd, noA, noB, noI, noV, 0, 0, 0, 0, emptyB⟩).toArray; replace kR := kR.rowO (msc ⟨kd, noA, noB, noI, noV, 0, 0, 0, 0, emptyB⟩).toArray HRL.out; replace kL := kL.row (msc ⟨kd, noA, noB, noI, noV, 0, 0, 0, 0, emptyB⟩); replace hG := grown_row hG hWL (msc ⟨kd, noA, noB, noI, noV, 0, 0, 0, 0, emptyB⟩).toArray; clear q))
  generalize hW2 : World.setRow (World.alloc W1 _) _ _ = W2
  replace hO : ObjP 106 W2 p s1 := by rw [← hW2]; exact hO
  replace kR : Blk W2 w.heap.size 34 (msc noM) := by rw [← hW2]; exact kR
  replace kL : Blk W2 W1.heap.size 34 (msc ⟨kd, noA, noB, noI, noV, 0, 0, 0, 0, emptyB⟩) := by rw [← hW2]; exact kL
  replace hG : w.grownBy W2 (p.map (·.block)) := by rw [← hW2]; exact hG
  clear hW2 Q0
  generalize W1.heap.size = L at *
  have c0 := (kL.cell 0).trans rfl
  by_cases k1 : kd = 1
  · subst k1
    have HX := Lib.hid (X1.out rfl)
    have QA : Hid (∀ W, ObjP 106 W p s1 → Calls Try.prog 60 #[.pointer p] W (GotA 106 p (getA s1) W)) := Lib.hid fun W h => bidGetAsk_any W h
    clear X0 X1 X2 X3
    generalize getA s1 = ga at *
    obtain ⟨ak, s2⟩ := ga
    dsimp only at HX
    go_wp2_with (first
      | (go_at_call 60; refine (QA.out _ hO).mono ?_; rintro e W3 ⟨rfl, q, g⟩; replace hG := World.grownBy.trans hG g; replace kR := kR.kept g HNR.out; replace kL := kL.kept g HNL.out; (try clear c0); clear g hO)
      | ((with_reducible refine wpList_store_part 26 (.tmp 13) (.tmp 12) (msc ⟨1, ak, noB, noI, noV, 0, 0, 0, 0, emptyB⟩) kL 1 ((akv ak)) (akc ak) ?_ ?_ ?_ ?_ ?_ ?_ ?_ ?_ ?_ ?_ ?_); (· rfl); (· rfl); (· rfl); (· rfl); (· rfl); (· rfl); (· kernel_rfl); (· exact Nat.le_of_ble_eq_true rfl); (· rfl); (· rfl); have hO1 := objP_row q (noOctM kL) HNL.out (msc ⟨1, ak, noB, noI, noV, 0, 0, 0, 0, emptyB⟩).toArray; replace kR := kR.rowO (msc ⟨1, ak, noB, noI, noV, 0, 0, 0, 0, emptyB⟩).toArray HRL.out; replace kL := kL.row (msc ⟨1, ak, noB, noI, noV, 0, 0, 0, 0, emptyB⟩); replace hG := grown_row hG hWL (msc ⟨1, ak, noB, noI, noV, 0, 0, 0, 0, emptyB⟩).toArray; clear q)
      | ((with_reducible refine wpList_loadIf 34 (.tmp 3) ?_ (some 33) ?_ ?_ (msv ⟨1, ak, noB, noI, noV, 0, 0, 0, 0, emptyB⟩) ?_ ?_); (· rfl); (· rfl); (· rfl); (· exact load_ms kL))
      | ((with_reducible refine wpList_store_part 34 (.tmp 2) (.tmp 33) (msc ⟨1, ak, noB, noI, noV, 0, 0, 0, 0, emptyB⟩) kR 0 ((msv ⟨1, ak, noB, noI, noV, 0, 0, 0, 0, emptyB⟩)) (msc ⟨1, ak, noB, noI, noV, 0, 0, 0, 0, emptyB⟩) ?_ ?_ ?_ ?_ ?_ ?_ ?_ ?_ ?_ ?_ ?_); (· rfl); (· rfl); (· rfl); (· rfl); (· rfl); (· rfl); (· kernel_rfl); (· exact Nat.le_of_ble_eq_true rfl); (· rfl); (· rfl); have hOE := objP_row hO1 (noOctM kR) HNR.out (msc ⟨1, ak, noB, noI, noV, 0, 0, 0, 0, emptyB⟩).toArray; replace kR := kR.row (msc ⟨1, ak, noB, noI, noV, 0, 0, 0, 0, emptyB⟩); replace hG := grown_row hG (Nat.le_refl _) (msc ⟨1, ak, noB, noI, noV, 0, 0, 0, 0, emptyB⟩).toArray))
    exact bodyPost_ret (v := msv ⟨1, ak, noB, noI, noV, 0, 0, 0, 0, emptyB⟩) (results_cell_row (P := Try.prog) (fn := Try.f30) (p := 2) (ty := 34) rfl _ _ w.heap.size 34 (msc ⟨1, ak, noB, noI, noV, 0, 0, 0, 0, emptyB⟩).toArray (0, 0) _ rfl kR Try.underlying34 rfl (by kernel_rfl)) rfl ⟨by rw [HX.out]; try rfl, by rw [HX.out]; exact hOE, hG⟩
  have q1 : (kd == 1) = false := by simpa using k1
  by_cases k2 : kd = 2
  · subst k2
    have HX := Lib.hid (X2.out rfl)
    have QD : Hid (∀ W, ObjP 106 W p s1 → Calls Try.prog 61 #[.pointer p] W (GotB 106 p (rawD s1, (bd4 s1).2) W)) := Lib.hid fun W h => getBid_any W h
    clear X0 X1 X2 X3 k1
    generalize rawD s1 = bd at *
    generalize (bd4 s1).2 = s2 at *
    go_wp2_with (first
      | (go_at_call 61; refine (QD.out _ hO).mono ?_; rintro e W3 ⟨rfl, q, g⟩; replace hG := World.grownBy.trans hG g; replace kR := kR.kept g HNR.out; replace kL := kL.kept g HNL.out; (try clear c0); clear g hO)
      | ((with_reducible refine wpList_store_part 28 (.tmp 18) (.tmp 17) (msc ⟨2, noA, bd, noI, noV, 0, 0, 0, 0, emptyB⟩) kL 10 ((bdv bd)) (bdc bd) ?_ ?_ ?_ ?_ ?_ ?_ ?_ ?_ ?_ ?_ ?_); (· rfl); (· rfl); (· rfl); (· rfl); (· rfl); (· rfl); (· kernel_rfl); (· exact Nat.le_of_ble_eq_true rfl); (· rfl); (· rfl); have hO1 := objP_row q (noOctM kL) HNL.out (msc ⟨2, noA, bd, noI, noV, 0, 0, 0, 0, emptyB⟩).toArray; replace kR := kR.rowO (msc ⟨2, noA, bd, noI, noV, 0, 0, 0, 0, emptyB⟩).toArray HRL.out; replace kL := kL.row (msc ⟨2, noA, bd, noI, noV, 0, 0, 0, 0, emptyB⟩); replace hG := grown_row hG hWL (msc ⟨2, noA, bd, noI, noV, 0, 0, 0, 0, emptyB⟩).toArray; clear q)
      | ((with_reducible refine wpList_loadIf 34 (.tmp 3) ?_ (some 33) ?_ ?_ (msv ⟨2, noA, bd, noI, noV, 0, 0, 0, 0, emptyB⟩) ?_ ?_); (· rfl); (· rfl); (· rfl); (· exact load_ms kL))
      | ((with_reducible refine wpList_store_part 34 (.tmp 2) (.tmp 33) (msc ⟨2, noA, bd, noI, noV, 0, 0, 0, 0, emptyB⟩) kR 0 ((msv ⟨2, noA, bd, noI, noV, 0, 0, 0, 0, emptyB⟩)) (msc ⟨2, noA, bd, noI, noV, 0, 0, 0, 0, emptyB⟩) ?_ ?_ ?_ ?_ ?_ ?_ ?_ ?_ ?_ ?_ ?_); (· rfl); (· rfl); (· rfl); (· rfl); (· rfl); (· rfl); (· kernel_rfl); (· exact Nat.le_of_ble_eq_true rfl); (· rfl); (· rfl); have hOE := objP_row hO1 (noOctM kR) HNR.out (msc ⟨2, noA, bd, noI, noV, 0, 0, 0, 0, emptyB⟩).toArray; replace kR := kR.row (msc ⟨2, noA, bd, noI, noV, 0, 0, 0, 0, emptyB⟩); replace hG := grown_row hG (Nat.le_refl _) (msc ⟨2, noA, bd, noI, noV, 0, 0, 0, 0, emptyB⟩).toArray))
    exact bodyPost_ret (v := msv ⟨2, noA, bd, noI, noV, 0, 0, 0, 0, emptyB⟩) (results_cell_row (P := Try.prog) (fn := Try.f30) (p := 2) (ty := 34) rfl _ _ w.heap.size 34 (msc ⟨2, noA, bd, noI, noV, 0, 0, 0, 0, emptyB⟩).toArray (0, 0) _ rfl kR Try.underlying34 rfl (by kernel_rfl)) rfl ⟨by rw [HX.out]; try rfl, by rw [HX.out]; exact hOE, hG⟩
  have q2 : (kd == 2) = false := by simpa using k2
  by_cases k3 : kd = 3
  · subst k3
    have HX := Lib.hid (X3.out rfl)
    have QI : Hid (∀ W, ObjP 106 W p s1 → Calls Try.prog 62 #[.pointer p] W (GotI 106 p (ld0 s1) W)) := Lib.hid fun W h => dealGet_any W h
    have QV : Hid (∀ W, ObjP 106 W p (ld0 s1).2 → Calls Try.prog 63 #[.pointer p] W (GotV 106 p (ld1 s1) W)) := Lib.hid fun W h => dealGetVar_any W h
    have QW : Hid (∀ W, ObjP 106 W p (ld1 s1).2 → Calls Try.prog 64 #[.pointer p] W (WidS 106 p (ld2 s1) W)) := Lib.hid fun W h => inWide_any W h
    have QT : Hid (∀ W, ObjP 106 W p (ld2 s1).2 → Calls Try.prog 65 #[.pointer p, .int .i64 1024] W (TxtS 106 p (ld3 s1) W)) := Lib.hid fun W h => mtxt_kind p _ W h
    clear X0 X1 X2 X3 k1 k2
    generalize ld0 s1 = d0 at *
    generalize ld1 s1 = d1 at *
    generalize ld2 s1 = d2 at *
    generalize ld3 s1 = d3 at *
    obtain ⟨iv, s2⟩ := d0
    obtain ⟨vr, s3⟩ := d1
    obtain ⟨fl, s4⟩ := d2
    obtain ⟨gg, s5⟩ := d3
    unfold WidS at QW
    dsimp only at HX QV QW QT
    generalize wdS fl 0 = f0 at *
    generalize wdS fl 1 = f1 at *
    generalize wdS fl 2 = f2 at *
    generalize wdS fl 3 = f3 at *
    go_wp2_with (first
      | (go_at_call 62; refine (QI.out _ hO).mono ?_; rintro e W3 ⟨rfl, q, g⟩; replace hG := World.grownBy.trans hG g; replace kR := kR.kept g HNR.out; replace kL := kL.kept g HNL.out; (try clear c0); clear g hO)
      | ((with_reducible refine wpList_store_part 30 (.tmp 23) (.tmp 22) (msc ⟨3, noA, noB, iv, noV, 0, 0, 0, 0, emptyB⟩) kL 26 ((ivv iv)) (ivc iv) ?_ ?_ ?_ ?_ ?_ ?_ ?_ ?_ ?_ ?_ ?_); (· rfl); (· rfl); (· rfl); (· rfl); (· rfl); (· rfl); (· kernel_rfl); (· exact Nat.le_of_ble_eq_true rfl); (· rfl); (· rfl); have hO1 := objP_row q (noOctM kL) HNL.out (msc ⟨3, noA, noB, iv, noV, 0, 0, 0, 0, emptyB⟩).toArray; replace kR := kR.rowO (msc ⟨3, noA, noB, iv, noV, 0, 0, 0, 0, emptyB⟩).toArray HRL.out; replace kL := kL.row (msc ⟨3, noA, noB, iv, noV, 0, 0, 0, 0, emptyB⟩); replace hG := grown_row hG hWL (msc ⟨3, noA, noB, iv, noV, 0, 0, 0, 0, emptyB⟩).toArray; clear q)
      | (go_at_call 63; refine (QV.out _ hO1).mono ?_; rintro e W3 ⟨rfl, q, g⟩; replace hG := World.grownBy.trans hG g; replace kR := kR.kept g HNR.out; replace kL := kL.kept g HNL.out; (try clear c0); clear g hO1)
      | ((with_reducible refine wpList_store_part 32 (.tmp 26) (.tmp 25) (msc ⟨3, noA, noB, iv, vr, 0, 0, 0, 0, emptyB⟩) kL 33 ((svv vr)) (svc vr) ?_ ?_ ?_ ?_ ?_ ?_ ?_ ?_ ?_ ?_ ?_); (· rfl); (· rfl); (· rfl); (· rfl); (· rfl); (· rfl); (· kernel_rfl); (· exact Nat.le_of_ble_eq_true rfl); (· rfl); (· rfl); have hO2 := objP_row q (noOctM kL) HNL.out (msc ⟨3, noA, noB, iv, vr, 0, 0, 0, 0, emptyB⟩).toArray; replace kR := kR.rowO (msc ⟨3, noA, noB, iv, vr, 0, 0, 0, 0, emptyB⟩).toArray HRL.out; replace kL := kL.row (msc ⟨3, noA, noB, iv, vr, 0, 0, 0, 0, emptyB⟩); replace hG := grown_row hG hWL (msc ⟨3, noA, noB, iv, vr, 0, 0, 0, 0, emptyB⟩).toArray; clear q)
      | (go_at_call 64; refine (QW.out _ hO2).mono ?_; rintro e W3 ⟨rfl, q, g⟩; replace hG := World.grownBy.trans hG g; replace kR := kR.kept g HNR.out; replace kL := kL.kept g HNL.out; (try clear c0); clear g hO2)
      | ((with_reducible refine wpList_store_part 24 (.tmp 29) (.tmp 28) (msc ⟨3, noA, noB, iv, vr, f0, f1, f2, f3, emptyB⟩) kL 38 ((wv f0 f1 f2 f3)) [.int .u64 (f0 : Nat), .int .u64 (f1 : Nat), .int .u64 (f2 : Nat), .int .u64 (f3 : Nat)] ?_ ?_ ?_ ?_ ?_ ?_ ?_ ?_ ?_ ?_ ?_); (· rfl); (· rfl); (· rfl); (· rfl); (· rfl); (· rfl); (· kernel_rfl); (· exact Nat.le_of_ble_eq_true rfl); (· rfl); (· rfl); have hO3 := objP_row q (noOctM kL) HNL.out (msc ⟨3, noA, noB, iv, vr, f0, f1, f2, f3, emptyB⟩).toArray; replace kR := kR.rowO (msc ⟨3, noA, noB, iv, vr, f0, f1, f2, f3, emptyB⟩).toArray HRL.out; replace kL := kL.row (msc ⟨3, noA, noB, iv, vr, f0, f1, f2, f3, emptyB⟩); replace hG := grown_row hG hWL (msc ⟨3, noA, noB, iv, vr, f0, f1, f2, f3, emptyB⟩).toArray; clear q)
      | (go_at_call 65; refine (QT.out _ hO3).mono ?_; rintro e W3 ⟨rfl, q, g⟩; replace hG := World.grownBy.trans hG g; replace kR := kR.kept g HNR.out; replace kL := kL.kept g HNL.out; (try clear c0); clear g hO3)
      | ((with_reducible refine wpList_store_part 9 (.tmp 32) (.tmp 31) (msc ⟨3, noA, noB, iv, vr, f0, f1, f2, f3, str gg⟩) kL 42 ((.string ⟨gg.toArray⟩)) [.string ⟨gg.toArray⟩] ?_ ?_ ?_ ?_ ?_ ?_ ?_ ?_ ?_ ?_ ?_); (· rfl); (· rfl); (· rfl); (· rfl); (· rfl); (· rfl); (· kernel_rfl); (· exact Nat.le_of_ble_eq_true rfl); (· rfl); (· rfl); have hO4 := objP_row q (noOctM kL) HNL.out (msc ⟨3, noA, noB, iv, vr, f0, f1, f2, f3, str gg⟩).toArray; replace kR := kR.rowO (msc ⟨3, noA, noB, iv, vr, f0, f1, f2, f3, str gg⟩).toArray HRL.out; replace kL := kL.row (msc ⟨3, noA, noB, iv, vr, f0, f1, f2, f3, str gg⟩); replace hG := grown_row hG hWL (msc ⟨3, noA, noB, iv, vr, f0, f1, f2, f3, str gg⟩).toArray; clear q)
      | ((with_reducible refine wpList_loadIf 34 (.tmp 3) ?_ (some 33) ?_ ?_ (msv ⟨3, noA, noB, iv, vr, f0, f1, f2, f3, str gg⟩) ?_ ?_); (· rfl); (· rfl); (· rfl); (· exact load_ms kL))
      | ((with_reducible refine wpList_store_part 34 (.tmp 2) (.tmp 33) (msc ⟨3, noA, noB, iv, vr, f0, f1, f2, f3, str gg⟩) kR 0 ((msv ⟨3, noA, noB, iv, vr, f0, f1, f2, f3, str gg⟩)) (msc ⟨3, noA, noB, iv, vr, f0, f1, f2, f3, str gg⟩) ?_ ?_ ?_ ?_ ?_ ?_ ?_ ?_ ?_ ?_ ?_); (· rfl); (· rfl); (· rfl); (· rfl); (· rfl); (· rfl); (· kernel_rfl); (· exact Nat.le_of_ble_eq_true rfl); (· rfl); (· rfl); have hOE := objP_row hO4 (noOctM kR) HNR.out (msc ⟨3, noA, noB, iv, vr, f0, f1, f2, f3, str gg⟩).toArray; replace kR := kR.row (msc ⟨3, noA, noB, iv, vr, f0, f1, f2, f3, str gg⟩); replace hG := grown_row hG (Nat.le_refl _) (msc ⟨3, noA, noB, iv, vr, f0, f1, f2, f3, str gg⟩).toArray))
    exact bodyPost_ret (v := msv ⟨3, noA, noB, iv, vr, f0, f1, f2, f3, str gg⟩) (results_cell_row (P := Try.prog) (fn := Try.f30) (p := 2) (ty := 34) rfl _ _ w.heap.size 34 (msc ⟨3, noA, noB, iv, vr, f0, f1, f2, f3, str gg⟩).toArray (0, 0) _ rfl kR Try.underlying34 rfl (by kernel_rfl)) rfl ⟨by rw [HX.out]; try rfl, by rw [HX.out]; exact hOE, hG⟩
  have q3 : (kd == 3) = false := by simpa using k3
  have HX := Lib.hid (X0.out k1 k2 k3)
  clear X0 X1 X2 X3 k1 k2 k3
  go_wp2_with (first
    | ((with_reducible refine wpList_loadIf 34 (.tmp 3) ?_ (some 33) ?_ ?_ (msv ⟨kd, noA, noB, noI, noV, 0, 0, 0, 0, emptyB⟩) ?_ ?_); (· rfl); (· rfl); (· rfl); (· exact load_ms kL))
    | ((with_reducible refine wpList_store_part 34 (.tmp 2) (.tmp 33) (msc ⟨kd, noA, noB, noI, noV, 0, 0, 0, 0, emptyB⟩) kR 0 ((msv ⟨kd, noA, noB, noI, noV, 0, 0, 0, 0, emptyB⟩)) (msc ⟨kd, noA, noB, noI, noV, 0, 0, 0, 0, emptyB⟩) ?_ ?_ ?_ ?_ ?_ ?_ ?_ ?_ ?_ ?_ ?_); (· rfl); (· rfl); (· rfl); (· rfl); (· rfl); (· rfl); (· kernel_rfl); (· exact Nat.le_of_ble_eq_true rfl); (· rfl); (· rfl); have hOE := objP_row hO (noOctM kR) HNR.out (msc ⟨kd, noA, noB, noI, noV, 0, 0, 0, 0, emptyB⟩).toArray; replace kR := kR.row (msc ⟨kd, noA, noB, noI, noV, 0, 0, 0, 0, emptyB⟩); replace hG := grown_row hG (Nat.le_refl _) (msc ⟨kd, noA, noB, noI, noV, 0, 0, 0, 0, emptyB⟩).toArray))
  exact bodyPost_ret (v := msv ⟨kd, noA, noB, noI, noV, 0, 0, 0, 0, emptyB⟩) (results_cell_row (P := Try.prog) (fn := Try.f30) (p := 2) (ty := 34) rfl _ _ w.heap.size 34 (msc ⟨kd, noA, noB, noI, noV, 0, 0, 0, 0, emptyB⟩).toArray (0, 0) _ rfl kR Try.underlying34 rfl (by kernel_rfl)) rfl ⟨by rw [HX.out]; try rfl, by rw [HX.out]; exact hOE, hG⟩
end Go.Proofs.Ytigdenlnnnfjlaa

namespace Go.Proofs.Ytigdenlnnnfjlaa
open Go.RowKit Go.Shelf

set_option maxRecDepth 100000 in
set_option maxHeartbeats 2000000 in
theorem refCat_any (l1 l2 : List UInt8) (s1 s2 : Value) (w : World) {lo1 lo2 : Nat} (hreach : l1.length + l2.length ≤ 140737488355328) (h1 : BSl lo1 w.heap.size w s1 l1) (h2 : BSl lo2 w.heap.size w s2 l2) :
    Calls Try.prog 57 #[s1, s2] w (ByO (l1 ++ l2) w) := by
  obtain ⟨i0, hi, hz0, hz1, hz2⟩ := info_parts Try.infoByte
  have h1' := h1
  have h2' := h2
  obtain ⟨a1, c1, rfl, _⟩ := h1'
  obtain ⟨a2, c2, rfl, _⟩ := h2'
  generalize hn1 : l1.length = n1 at *
  generalize hn2 : l2.length = n2 at *
  have HN1 := Lib.hid hn1
  have HN2 := Lib.hid hn2
  clear hn1 hn2
  go_enter Try.func57, Try.ntmps57
  go_wp2_with (first
    | (at_builtin; refine wpList_append_b _ rfl _ _ 35 rfl w.heap.size 5 i0 (.int .u8 0) Try.underlying35 hi hz0 hz1 hz2 rfl _ 0 [] rfl (World.ownsRow_lit w #[] 0 (Nat.le_refl _) (by unfold maxLen; omega) rfl) _ l1 rfl (h1.below ((Below.refl w.heap.size w).alloc (Nat.le_refl _) _) (Nat.le_refl _)) (by rw [HN1.out]; omega) (by simp) ?_; intro v' w1 hown' hgrow; (have hb1 : Below w.heap.size w w1 := (chain0 w _).grown hgrow (by simp) (fun k e => by have : w.heap.size = k := Option.some.inj e; omega)); have h21 := h2.below hb1 (Nat.le_refl _); rw [Nat.zero_add, List.nil_append] at hown')
    | (at_builtin; refine wpList_append_b _ rfl _ _ 35 rfl w.heap.size 5 i0 (.int .u8 0) Try.underlying35 hi hz0 hz1 hz2 rfl _ l1.length (l1.map bv) rfl hown' _ l2 rfl h21 (by rw [HN1.out, HN2.out]; omega) hb1.size ?_; intro v2 w2 hown2 hgrow2))
  go_ret
  refine ⟨_, rfl, ?_, hb1.grown hgrow2 hb1.size (fun j hj => (World.ownsRow.lt hown' j hj).1)⟩
  rw [List.length_append, List.map_append]
  exact hown2
end Go.Proofs.Ytigdenlnnnfjlaa

namespace Go.Proofs.Ytigdenlnnnfjlaa
open Go.RowKit

/-- The row with the lowest s - j octets laid. -/
def numR (x s j : Nat) : List Value := List.replicate j (bv 0) ++ (octs x (s - j)).map bv
theorem numR_at (x s : Nat) {j p : Nat} (h : p < j) : (numR x s j)[p]? = some (bv 0) := by
  unfold numR; rw [List.getElem?_append_left (by simpa using h)]; simp [h]
theorem numR_step (x s : Nat) {p : Nat} (h : p < s) : (numR x s (p + 1)).set p (bv (oct (x / 256 ^ (s - (p + 1))) 0)) = numR x s p := by
  unfold numR
  have e : s - p = (s - (p + 1)) + 1 := by omega
  rw [e, octs]
  have e2 : oct (x / 256 ^ (s - (p + 1))) 0 = oct x (s - (p + 1)) := by
    unfold oct
    rw [show 2 ^ ((s - (p + 1)) * 8) = 256 ^ (s - (p + 1)) by rw [Nat.mul_comm, Nat.pow_mul]]
    simp
  rw [e2, List.replicate_succ', List.append_assoc, List.set_append_right _ _ (by simp)]
  simp

set_option maxRecDepth 100000 in
set_option maxHeartbeats 4000000 in
theorem refNum_any (n size : Int) (hs : -9223372036854775808 ≤ size) (hs' : size ≤ 9223372036854775807) (w : World) :
    Calls Try.prog 56 #[.int .i64 n, .int .i64 size] w (ByW (octs (two n) (clamp size)) w) := by
  obtain ⟨i0, hi, hz0, hz1, hz2⟩ := info_parts Try.infoByte
  have hU : IntKind.u64.wrap n = (two n : Nat) := wrap_two n
  have hx : two n < M := by unfold two M; omega
  generalize two n = x at *
  have H8 := clamp_le size
  have hCC := clamp_cases size
  generalize clamp size = s at *
  go_enter Try.func56, Try.ntmps56
  rcases hCC with ⟨hc0, hC⟩ | ⟨hc0, hc8, hC⟩ | ⟨hc8, hC⟩
  all_goals
    have HC := Lib.hid hC
    clear hC
    go_wp2_with (at_make; refine wpList_make_full _ rfl _ _ 35 rfl w.heap.size 5 i0 (.int .u8 0) 1 Try.underlying35 hi hz0 hz1 .i64 .i64 _ _ s rfl rfl HC.out.symm HC.out.symm (by rw [hz2]; omega) (by unfold maxLen; omega) (Nat.le_refl _) ?_; intro w1 hown hgrow)
    have hown0 : w1.ownsRow w.heap.size 5 1 (.slice (some ⟨w.heap.size, 0, none⟩) s s) s (numR x s s) := by
      have e : (madeCells (Value.int .u8 0).cells (s * 1)).toList = numR x s s := by
        rw [Nat.mul_one]
        refine (toList_madeCells_one (.int .u8 0) s).trans ?_
        unfold numR
        simp [octs]
      rw [← e]; exact hown
    have hB0 : Below w.heap.size w w1 := (Below.refl _ w).grown hgrow (Nat.le_refl _) (fun k e => by cases e)
    have hs8 : (s : Int) ≤ 8 := by omega
    clear hown hgrow
    go_loopw [6, 7] (fun u i wr => ∃ j : Nat, j ≤ s ∧ i = .int .i64 ((j : Int) - 1) ∧ u = .int .u64 (x / 256 ^ (s - j) : Nat) ∧ wr.ownsRow w.heap.size 5 1 (.slice (some ⟨w.heap.size, 0, none⟩) s s) s (numR x s j) ∧ Below w.heap.size w wr) (fun _ i _ => ((intOf i) + 1).toNat)
    case atStart => exact ⟨s, Nat.le_refl _, by have := HC.out; congr 1; omega, by rw [Nat.sub_self, Nat.pow_zero, Nat.div_one], hown0, hB0⟩
    case round =>
      obtain ⟨j, hj, rfl, rfl, hown, hB⟩ := hrel
      rcases j with _ | p
      · have e0 : ((0 : Nat) : Int) - 1 = -1 := by omega
        rw [e0]
        go_wp2
        go_ret
        refine ⟨_, rfl, BSl.of_own (e := 5) (l := octs x s) ?_, hB⟩
        rw [octs_length]
        exact hown
      · have hps : p < s := by omega
        have e1 : ((p + 1 : Nat) : Int) - 1 = (p : Int) := by omega
        have hst := numR_step x s hps
        have HS := Lib.hid hst
        clear hst
        have hc := hown.cellAt p (by omega)
        rw [numR_at x s (Nat.lt_succ_self p)] at hc
        have hf := hown.frozenAt p
        have hd : x / 256 ^ (s - (p + 1)) / 256 = x / 256 ^ (s - p) := by
          rw [Nat.div_div_eq_div_mul, ← Nat.pow_succ, show (s - (p + 1)).succ = s - p by omega]
        have HD := Lib.hid hd
        clear hd
        have hy : x / 256 ^ (s - (p + 1)) ≤ 18446744073709551615 := Nat.le_trans (Nat.div_le_self _ _) (by unfold M at hx; omega)
        have hp8 : (p : Int) < (s : Int) := by omega
        generalize x / 256 ^ (s - (p + 1)) = y at *
        have hy' : (y : Int) ≤ 18446744073709551615 := by omega
        rw [e1]
        clear e1
        go_wp2
        have hv : Value.int .u8 ((y : Int) % 256) = bv (oct y 0) := by rw [oct_bv]; simp
        have hown2 := (hown.stored p (bv (oct y 0))).1
        rw [HS.out] at hown2
        rw [hv]
        exact ⟨⟨p, by omega, rfl, by rw [← HD.out]; simp, hown2, hB.setCell (p := ⟨w.heap.size, p, none⟩) (Nat.le_refl _) _⟩, by simp [intOf]⟩

set_option maxRecDepth 100000 in
set_option maxHeartbeats 4000000 in
theorem refInt_any (l : List UInt8) (sv : Value) (w : World) (hreach : l.length ≤ 140737488351232) (hsv : BSl 0 w.heap.size w sv l) :
    Calls Try.prog 68 #[sv] w fun e W' => e = .returned (.int .i64 (be (l.take 7) : Nat)) ∧ W' = w := by
  obtain ⟨a, cap, rfl, hcap, hcs⟩ := hsv
  go_enter Try.func68, Try.ntmps68
  go_wp2
  go_loop [3, 4] (fun n i => ∃ k : Nat, k ≤ l.length ∧ k ≤ 7 ∧ i = .int .i64 k ∧ n = .int .i64 (be (l.take k) : Nat)) (fun _ i => l.length - (intOf i).toNat)
  case atStart => exact ⟨0, by omega, by omega, rfl, rfl⟩
  case round =>
    obtain ⟨k, hk, hk7, rfl, rfl⟩ := hrel
    have hbl := be_lt' (l := l.take k) (k := 7) (by rw [List.length_take]; omega)
    by_cases hlt : k < l.length
    · by_cases h7 : k < 7
      · obtain ⟨x, hx⟩ : ∃ x, l[k]? = some x := ⟨_, List.getElem?_eq_getElem hlt⟩
        obtain ⟨b, off, rfl, ho⟩ : ∃ b off, a = some ⟨b, off, none⟩ ∧ Octs w b off l := by
          rcases hcs with h0 | ⟨b, off, h1, _, _, h2⟩
          · rw [h0] at hlt; simp at hlt
          · exact ⟨b, off, h1, h2⟩
        have hc := ho k x hx
        have hs : be (l.take (k + 1)) = be (l.take k) * 256 + x.toNat := by
          rw [List.take_add_one, hx]; exact be_snoc _ _
        have HS := Lib.hid hs
        have HX := Lib.hid hx
        have hb6 := be_lt' (l := l.take k) (k := 6) (by rw [List.length_take]; omega)
        have hb6' : ((be (l.take k) : Nat) : Int) ≤ 281474976710655 := by omega
        clear hs hx ho hcs hbl hb6
        have hxl : (x.toNat : Int) ≤ 255 := by have := x.toNat_lt; omega
        have hlt' : (k : Int) < (l.length : Int) := by omega
        have h7' : (k : Int) < 7 := by omega
        have hd1 : decide ((k : Int) < (l.length : Int)) = true := by simpa using hlt
        generalize hL : l.length = len at *
        have HL := Lib.hid hL
        clear hL
        generalize be (l.take k) = y at *
        go_wp2
        go_round
        case rel => exact ⟨k + 1, by omega, by omega, by simp, by rw [HS.out]; simp⟩
        case measure => simp [intOf]; omega
      · obtain rfl : k = 7 := by omega
        have hlt' : (7 : Int) < (l.length : Int) := by omega
        go_wp2
        go_ret
        exact ⟨rfl, rfl⟩
    · obtain rfl : k = l.length := by omega
      have e7 : be (l.take l.length) = be (l.take 7) := by rw [List.take_of_length_le hk7, List.take_length]
      rw [e7]
      have HE := Lib.hid e7
      clear e7
      have hL : ((l.length : Nat) : Int) ≤ 7 := by omega
      clear hbl
      generalize hY : be (l.take 7) = y at *
      have HY := Lib.hid hY
      clear hY
      go_wp2
      go_ret
      exact ⟨congrArg (fun z : Nat => Ending.returned (.int .i64 (z : Int))) HY.out.symm, rfl⟩

end Go.Proofs.Ytigdenlnnnfjlaa

namespace Go.Proofs.Ytigdenlnnnfjlaa
open Go.RowKit

set_option maxRecDepth 100000 in
set_option maxHeartbeats 2000000 in
theorem digits_any {a0 a1 a2 a3 : Nat} (ha : Ok4 a0 a1 a2 a3) (w : World) :
    Calls Try.prog 82 #[wv a0 a1 a2 a3] w (SlW 16 (dg a0 a1 a2 a3) w) := by
  obtain ⟨i0, hi, hz0, hz1, hz2⟩ := info_parts Try.infoInt
  obtain ⟨B, hB⟩ : ∃ B, B = w.heap.size := ⟨_, rfl⟩
  go_enter Try.func82, Try.ntmps82
  go_wp2
  go_loopw [3, 4] (fun v i wr => ∃ k : Nat, k ≤ 4 ∧ i = .int .i64 k ∧ OR wr (w.heap.size + 1) v (4 * k) (dg a0 a1 a2 a3) ∧ Blk wr w.heap.size 24 (ws (word a0 a1 a2 a3)) ∧ Below w.heap.size w wr ∧ w.heap.size + 1 ≤ wr.heap.size) (fun _ i _ => 4 - (intOf i).toNat)
  case atStart => exact ⟨0, by omega, rfl, OR.nil _ _ _, Blk.new _ _ _, chain0 _ _, by simp⟩
  case round =>
    obtain ⟨k, hk, rfl, hown, hblk, hbel, hsz⟩ := hrel
    by_cases hlt : k < 4
    · have hk' : (k : Int) < 4 := by omega
      have hc := hblk.cell k
      rw [ws_at _ hlt] at hc
      go_wp2
      obtain ⟨wo, rfl⟩ : ∃ wo : World, wo = wr := ⟨_, rfl⟩
      have hw := word_lt ha.h0 ha.h1 ha.h2 ha.h3 k
      go_loopw [3, 5, 6] (fun v x j wr => ∃ t : Nat, t ≤ 4 ∧ j = .int .i64 t ∧ x = .int .u64 (sh (word a0 a1 a2 a3 k) t : Nat) ∧ OR wr (w.heap.size + 1) v (4 * k + t) (dg a0 a1 a2 a3) ∧ Blk wr w.heap.size 24 (ws (word a0 a1 a2 a3)) ∧ Below w.heap.size w wr ∧ w.heap.size + 1 ≤ wr.heap.size) (fun _ _ j _ => 4 - (intOf j).toNat)
      case atStart => exact ⟨0, by omega, rfl, rfl, hown, hblk, hbel, hsz⟩
      case round =>
        obtain ⟨t, ht, rfl, rfl, hown, hblk, hbel, hsz⟩ := hrel
        by_cases hlt' : t < 4
        · have ht' : (t : Int) < 4 := by omega
          have hx := sh_lt hw t
          have hx0 : ((sh (word a0 a1 a2 a3 k) t : Nat) : Int) ≤ 18446744073709551615 := by unfold M at hx; omega
          have hd := dg_at (a0 := a0) (a1 := a1) (a2 := a2) (a3 := a3) (k := k) hlt'
          have HD := Lib.hid hd
          clear hd
          have hsx : sh (word a0 a1 a2 a3 k) (t + 1) = sh (word a0 a1 a2 a3 k) t / 65536 := rfl
          have HS := Lib.hid hsx
          clear hsx
          generalize sh (word a0 a1 a2 a3 k) t = x at *
          go_wp2_with (at_builtin; refine wpList_append_own _ rfl _ _ 139 rfl (w.heap.size + 1) 3 i0 (.int .i64 0) 1 8 Try.underlying139 hi hz0 hz1 hz2 rfl (by decide) _ _ _ rfl (hown.out.alloc _) ⟨wr.heap.size, 0, none⟩ 1 1 [.int .i64 ((x : Int) % 65536)] rfl rfl (cell_one_new _ _ _) (by simp [Value.oneCell']) (by unfold maxLen; omega) (by omega) (by simp; omega) ?_; intro v' w1 hown' hgrow _)
          have hg : (wr.alloc (.cells #[.int .i64 ((x : Int) % 65536)] 3)).grownBy w1 u3.ownBlock := hgrow
          obtain ⟨h1, h2, h3⟩ := hown.grown hsz hown' hg (by rw [HD.out]; omega)
          refine ⟨⟨t + 1, by omega, by simp, by rw [HS.out]; simp, h1, hblk.below h3 (by omega), hbel.trans (h3.mono (by omega)), h2⟩, by simp [intOf]; omega⟩
        · obtain rfl : t = 4 := by omega
          go_wp2
          exact ⟨⟨k + 1, by omega, by simp, hown, hblk, hbel, hsz⟩, by simp [intOf]; omega⟩
    · obtain rfl : k = 4 := by omega
      go_wp2
      go_ret
      obtain ⟨g, cap, rfl, h1, h2, h3⟩ := hown.nums (by omega)
      exact ⟨g, cap, rfl, by omega, h2, h3, hbel⟩
end Go.Proofs.Ytigdenlnnnfjlaa

namespace Go.Proofs.Ytigdenlnnnfjlaa
open Go.RowKit

/-- The octets of the k highest of sixteen digits. -/
def dO (f : Nat → Nat) : Nat → List UInt8
  | 0 => []
  | k + 1 => dO f k ++ [UInt8.ofNat (f (15 - k) / 256), UInt8.ofNat (f (15 - k))]
theorem dO_length (f : Nat → Nat) (k : Nat) : (dO f k).length = 2 * k := by
  induction k with
  | zero => rfl
  | succ k ih => simp [dO, ih]; omega
theorem octs8 (a : Nat) : octs a 8 = [UInt8.ofNat (sh a 3 % 65536 / 256), UInt8.ofNat (sh a 3 % 65536), UInt8.ofNat (sh a 2 % 65536 / 256), UInt8.ofNat (sh a 2 % 65536), UInt8.ofNat (sh a 1 % 65536 / 256), UInt8.ofNat (sh a 1 % 65536), UInt8.ofNat (sh a 0 % 65536 / 256), UInt8.ofNat (sh a 0 % 65536)] := by
  have e : ∀ {m n : Nat}, m % 256 = n % 256 → UInt8.ofNat m = UInt8.ofNat n := fun h => UInt8.toNat_inj.1 (by rw [UInt8.toNat_ofNat', UInt8.toNat_ofNat']; simpa using h)
  simp only [octs, oct, sh, List.cons.injEq, and_true]
  refine ⟨e ?_, e ?_, e ?_, e ?_, e ?_, e ?_, e ?_, e ?_⟩ <;> omega
theorem dO_all (a0 a1 a2 a3 : Nat) : dO (dg a0 a1 a2 a3) 16 = wide8 a0 a1 a2 a3 := by
  unfold wide8
  rw [octs8 a3, octs8 a2, octs8 a1, octs8 a0]
  rfl

theorem byte_hi {y : Nat} (h : y ≤ 65535) : IntKind.u8.wrap (IntKind.i64.wrap ((y : Int) / 256)) = (((UInt8.ofNat (y / 256)).toNat : Nat) : Int) := by
  rw [wr_i64 _ (by omega) (by omega), UInt8.toNat_ofNat']
  simp [IntKind.wrap, IntKind.bits, IntKind.signed]
theorem byte_lo {y : Nat} (h : y ≤ 65535) : IntKind.u8.wrap (Int.tmod (y : Int) 256) = (((UInt8.ofNat y).toNat : Nat) : Int) := by
  rw [UInt8.toNat_ofNat', Int.tmod_eq_emod_of_nonneg (by omega)]
  simp [IntKind.wrap, IntKind.bits, IntKind.signed]

set_option maxRecDepth 100000 in
set_option maxHeartbeats 4000000 in
theorem refWide_any {a0 a1 a2 a3 : Nat} (ha : Ok4 a0 a1 a2 a3) (w : World) :
    Calls Try.prog 58 #[wv a0 a1 a2 a3] w (ByW (wide8 a0 a1 a2 a3) w) := by
  have hmx : Try.prog.follows .mixedOrders = true := by kernel_rfl
  obtain ⟨i0, hi, hz0, hz1, hz2⟩ := info_parts Try.infoByte
  rw [← dO_all]
  go_enter Try.func58, Try.ntmps58
  go_wp2_with fail
  refine (digits_any ha _).mono ?_
  rintro e w1 ⟨g, cap, rfl, hg, hg1, hnums, hb1⟩
  have hd1 := chain (chain0 w _) hb1
  have hf : ∀ k, dg a0 a1 a2 a3 k ≤ 65535 := fun k => by unfold dg; omega
  clear hb1
  generalize dg a0 a1 a2 a3 = f at *
  go_wp2
  go_loopw [4, 5] (fun v i wr => ∃ k : Nat, k ≤ 16 ∧ i = .int .i64 (15 - (k : Int)) ∧ wr.ownsRow w1.heap.size 5 1 v (2 * k) ((dO f k).map bv) ∧ Below w1.heap.size w1 wr) (fun _ i _ => ((intOf i) + 1).toNat)
  case atStart => exact ⟨0, by omega, rfl, World.ownsRow_nil _ _ _ _, Below.refl _ _⟩
  case round =>
    obtain ⟨k, hk, rfl, hown, hB⟩ := hrel
    by_cases hlt : k < 16
    · have hp : (15 : Int) - k = ((15 - k : Nat) : Int) := by omega
      have hpl : 15 - k ≤ 15 := by omega
      have hc := hnums.below hB hg1 (15 - k) (by omega)
      have hfk := hf (15 - k)
      have hst : dO f (k + 1) = dO f k ++ [UInt8.ofNat (f (15 - k) / 256), UInt8.ofNat (f (15 - k))] := rfl
      have HS := Lib.hid hst
      have HP := Lib.hid hp
      rw [hp]
      clear hp hst
      generalize f (15 - k) = y at *
      generalize 15 - k = p at *
      have hy : (y : Int) ≤ 65535 := by omega
      have hp16 : (p : Int) < 16 := by omega
      go_wp2_with fail
      refine wp_region_held_drew (S := fun w' => w'.cell? ⟨g, p, none⟩ = some (.int .i64 (y : Int)) ∧ w'.heap.size > g) hmx ⟨hc, Nat.lt_of_lt_of_le hg1 hB.size⟩ ?_
      intro hS
      generalize hw2 : wr.drew = w2 at *
      refine wpAnyH_take (i := 0) (v := ?_) rfl (by kernel_rfl) (by kernel_rfl) (by kernel_rfl) (fun _ _ _ h => h) (Or.inl ⟨rfl, ?_⟩) hS ?_
      rotate_left
      · intro w' hS'; go_simp; with_reducible rfl
      refine wpAnyH_take (i := 1) (v := ?_) rfl (by kernel_rfl) (by kernel_rfl) (by kernel_rfl) (fun _ _ _ h => h) (Or.inl ⟨rfl, ?_⟩) hS ?_
      rotate_left
      · intro w' hS'; go_simp; with_reducible rfl
      refine wpAnyH_take (i := 2) (v := ?_) rfl (by kernel_rfl) (by kernel_rfl) (by kernel_rfl) (fun _ _ _ h => h) (Or.inl ⟨rfl, ?_⟩) hS ?_
      rotate_left
      · intro w' hS'; go_simp; with_reducible rfl
      refine wpAnyH_take (i := 3) (v := ?_) rfl (by kernel_rfl) (by kernel_rfl) (by kernel_rfl) (fun _ _ _ h => h) (Or.inl ⟨rfl, ?_⟩) hS ?_
      rotate_left
      · intro w' hS'; go_simp; with_reducible rfl
      refine wpAnyH_take (i := 4) (v := ?_) rfl (by kernel_rfl) (by kernel_rfl) (by kernel_rfl) (fun _ _ _ h => h) (Or.inl ⟨rfl, ?_⟩) hS ?_
      rotate_left
      · intro w' hS'; go_simp; with_reducible rfl
      refine wpAnyH_take (i := 5) (v := ?_) rfl (by kernel_rfl) (by kernel_rfl) (by kernel_rfl) (fun _ _ _ h => h) (Or.inl ⟨rfl, ?_⟩) hS ?_
      rotate_left
      · intro w' hS'; go_simp; with_reducible rfl
      refine wpAnyH_take (i := 6) (v := ?_) rfl (by kernel_rfl) (by kernel_rfl) (by kernel_rfl) (fun _ _ _ h => h) (Or.inl ⟨rfl, ?_⟩) hS ?_
      rotate_left
      · intro w' hS'; go_simp; with_reducible rfl
      refine wpAnyH_take (i := 7) (v := ?_) rfl (by kernel_rfl) (by kernel_rfl) (by kernel_rfl) (fun _ _ _ h => h) (Or.inl ⟨rfl, ?_⟩) hS ?_
      rotate_left
      · intro w' hS'; go_simp; with_reducible rfl
      refine wpAnyH_take (i := 8) (v := ?_) rfl (by kernel_rfl) (by kernel_rfl) (by kernel_rfl) (fun _ _ _ h => h) (Or.inl ⟨rfl, ?_⟩) hS ?_
      rotate_left
      · intro w' hS'; go_simp; with_reducible rfl
      refine wpAnyH_take (i := 9) (v := ?_) rfl (by kernel_rfl) (by kernel_rfl) (by kernel_rfl) (fun _ _ _ h => h) (Or.inl ⟨rfl, ?_⟩) hS ?_
      rotate_left
      · intro w' hS'; go_simp; with_reducible rfl
      refine wpAnyH_take (i := 10) (v := ?_) rfl (by kernel_rfl) (by kernel_rfl) (by kernel_rfl) (fun _ _ _ h => h) (Or.inl ⟨rfl, ?_⟩) hS ?_
      rotate_left
      · intro w' hS'; go_simp; with_reducible rfl
      refine wpAnyH_take (i := 11) (v := ?_) rfl (by kernel_rfl) (by kernel_rfl) (by kernel_rfl) (fun _ _ _ h => h) (Or.inl ⟨rfl, ?_⟩) hS ?_
      rotate_left
      · intro w' hS'; go_simp; with_reducible rfl
      refine wpAnyH_take (i := 12) (v := ?_) rfl (by kernel_rfl) (by kernel_rfl) (by kernel_rfl) (fun _ _ _ h => h) (Or.inl ⟨rfl, ?_⟩) hS ?_
      rotate_left
      · intro w' hS'; go_simp; with_reducible rfl
      have hB2 : Below w1.heap.size w1 w2 := by rw [← hw2]; exact hB.drew
      have hown2 : w2.ownsRow w1.heap.size 5 1 u4 (2 * k) ((dO f k).map bv) := by rw [← hw2]; exact hown
      have hz2' : w1.heap.size ≤ w2.heap.size := hB2.size
      rw [byte_hi hfk, byte_lo hfk]
      clear hw2 hc hB hown
      generalize UInt8.ofNat (y / 256) = x1 at *
      generalize UInt8.ofNat y = x0 at *
      refine wpAnyH_ready (rs := [13]) (by kernel_rfl) (by simp) ?_
      refine AllReadyH.cons rfl (fun K hK => ?_) AllReadyH.nil
      go_simp
      refine hK.out _ _ ⟨(World.cell?_alloc_lt _ _ _ hS.2).trans hS.1, by simp; have := hS.2; omega⟩ (fun hS3 => ?_)
      clear hK K
      refine wpAnyH_ready (rs := [14]) (by kernel_rfl) (by simp) ?_
      refine AllReadyH.cons rfl (fun K hK => ?_) AllReadyH.nil
      rw [if_pos (by kernel_rfl)]
      refine wp_append_own _ _ _ 35 rfl w1.heap.size 5 i0 (.int .u8 0) 1 1 Try.underlying35 hi hz0 hz1 hz2 rfl (by decide) u4 (2 * k) ((dO f k).map bv) rfl (hown2.alloc _) ⟨w2.heap.size, 0, none⟩ 2 2 [bv x1, bv x0] rfl rfl (World.news_of_block (cs := #[bv x1, bv x0]) (World.alloc_heap_new w2 _)) (by simp [Value.oneCell']) (by unfold maxLen; omega) (by omega) (by simp; omega) ?_
      intro v' w3 hown' hgrow _
      have hB3 : Below w1.heap.size w2 w3 := ((Below.refl _ w2).alloc hz2' (.cells #[bv x1, bv x0] 5)).grown hgrow (by simp; omega) (fun j hj => (World.ownsRow.lt hown2 j hj).1)
      refine hK.out _ _ ⟨(hB3.cell (p := ⟨g, p, none⟩) hg1).trans hS.1, by have := hB3.size; have := hS.2; omega⟩ (fun hS4 => ?_)
      clear hK K
      refine wpAnyH_take (i := 15) (v := ?_) rfl (by kernel_rfl) (by kernel_rfl) (by kernel_rfl) (fun _ _ _ h => h) (Or.inl ⟨rfl, ?_⟩) hS4 ?_
      rotate_left
      · intro w' hS'; go_simp; with_reducible rfl
      refine wpAnyH_done (by kernel_rfl) ?_ _
      go_wp2
      have hq : (p : Int) - 1 = 15 - ((k + 1 : Nat) : Int) := by have := HP.out; omega
      exact ⟨⟨k + 1, by omega, by rw [hq], by rw [HS.out, List.map_append, Nat.mul_add]; exact hown', hB2.trans hB3⟩, by simp [intOf]⟩
    · obtain rfl : k = 16 := by omega
      have hq : (15 : Int) - ((16 : Nat) : Int) = -1 := by omega
      rw [hq]
      go_wp2
      go_ret
      refine ⟨_, rfl, (BSl.of_own (e := 5) (l := dO f 16) (lo := w1.heap.size) ?_).mono hd1.size (Nat.le_refl _), hd1.trans (hB.mono hd1.size)⟩
      rw [dO_length]
      exact hown

end Go.Proofs.Ytigdenlnnnfjlaa

namespace Go.Proofs.Ytigdenlnnnfjlaa
open Go.RowKit Go.Shelf

/-- Octets and an error's number, as a struct. -/
def RefS (s : St) (w : World) (e : Ending) (W' : World) : Prop := ∃ sv, e = .returned (.agg #[sv, .int .i64 s.2]) ∧ BSl 0 W'.heap.size W' sv s.1 ∧ Below w.heap.size w W'
theorem RefS.on {s : St} {w w1 : World} {e : Ending} {W' : World} (h : RefS s w1 e W') (hb : Below w.heap.size w w1) : RefS s w e W' := by
  obtain ⟨sv, he, hs, hB⟩ := h
  exact ⟨sv, he, hs, chain hb hB⟩

theorem clamp6' : clamp 6 = 6 := rfl
theorem clamp2' : clamp 2 = 2 := rfl
theorem two_nat' {n : Nat} (h : n < 18446744073709551616) : two (n : Int) = n := by unfold two; omega
theorem Blk.c2 {W : World} {B : Nat} {t : TypeId} {v0 v1 : Value} (h : Blk W B t [v0, v1]) : W.cell? ⟨B, 0, none⟩ = some v0 ∧ W.cell? ⟨B, 1, none⟩ = some v1 := ⟨h.cell 0, h.cell 1⟩
theorem noOct2 {W : World} {B : Nat} {T : TypeId} {a : Option Addr} {n c : Nat} {x : Int} (h : Blk W B T [.slice a n c, .int .i64 x]) : NoOct W B := noOct_blk h (by
  intro v hv y
  simp only [List.mem_cons, List.not_mem_nil, or_false] at hv
  rcases hv with rfl | rfl <;> simp [bv])
set_option maxRecDepth 100000 in
theorem refPutE_any {s : St} (sv s2 : Value) (x : Int) (hx : x ≠ 0) (w : World) (hsl : BSl 0 w.heap.size w sv s.1) :
    Calls Try.prog 55 #[.agg #[sv, .int .i64 s.2], s2, .int .i64 x] w (RefS (errS s x) w) := by
  obtain ⟨a, m, c, rfl⟩ := hsl.shape3
  have hx1 : (x != 0) = true := by simpa using hx
  by_cases hf : s.2 = 0
  · have e1 : errS s x = ([], x) := if_pos hf
    rw [e1]
    clear e1
    have hf1 : (s.2 != 0) = false := by simpa using hf
    have hf2 : (s.2 == 0) = true := by simpa using hf
    clear hf
    go_enter Try.func55, Try.ntmps55
    go_wp2
    exact bodyPost_ret (v := .agg #[.slice none 0 0, .int .i64 x]) (by simp [results, Try.results55, go_sem]) rfl ⟨_, rfl, BSl.nil _ _ _, chainA (chain0 w _) _⟩
  · rw [errS_bad hf]
    have hf1 : (s.2 != 0) = true := by simpa using hf
    have hf2 : (s.2 == 0) = false := by simpa using hf
    clear hf
    go_enter Try.func55, Try.ntmps55
    go_wp2
    have hB : Below w.heap.size w ((w.alloc (.cells #[.slice a m c, .int .i64 s.2] 62)).alloc (.cells #[.slice a m c, .int .i64 s.2] 62)) := chainA (chain0 _ _) _
    exact bodyPost_ret (v := .agg #[.slice a m c, .int .i64 s.2]) (by simp [results, Try.results55, go_sem]) rfl ⟨_, rfl, (hsl.below hB (Nat.le_refl _)).mono (Nat.le_refl _) hB.size, hB⟩
set_option maxRecDepth 100000 in
set_option maxHeartbeats 1000000 in
theorem refPut_any {s : St} (hok : OkS s) (sv s2 : Value) (l : List UInt8) (hl : l.length ≤ 140737488345000) (w : World) (hsl : BSl 0 w.heap.size w sv s.1) (hs2 : BSl 0 w.heap.size w s2 l) :
    Calls Try.prog 55 #[.agg #[sv, .int .i64 s.2], s2, .int .i64 0] w (RefS (addS s l) w) := by
  have h82 := hok.2
  obtain ⟨a, c, rfl, -⟩ := hsl.shape
  obtain ⟨a2, c2, rfl, -⟩ := hs2.shape
  by_cases hf : s.2 = 0
  · have e1 : addS s l = if s.1.length + l.length ≤ 8192 then (s.1 ++ l, 0) else ([], 5) := if_pos hf
    rw [e1]
    clear e1
    have hf1 : (s.2 != 0) = false := by simpa using hf
    have hf2 : (s.2 == 0) = true := by simpa using hf
    have HF := Lib.hid hf
    clear hf
    generalize hn : s.1.length = n at *
    generalize hk : l.length = k at *
    have HN := Lib.hid hn
    have HK := Lib.hid hk
    clear hn hk
    by_cases hfit : n + k ≤ 8192
    · rw [if_pos hfit]
      have hgt : ¬ ((8192 : Int) < (n : Int) + (k : Int)) := by omega
      go_enter Try.func55, Try.ntmps55
      go_wp2_with (go_at_call 57; refine (refCat_any s.1 l (.slice a n c) (.slice a2 k c2) _ (by have := HN.out; have := HK.out; omega) ((hsl.below (chainA (chain0 w _) _) (Nat.le_refl _)).mono (Nat.le_refl _) (by simp; omega)) ((hs2.below (chainA (chain0 w _) _) (Nat.le_refl _)).mono (Nat.le_refl _) (by simp; omega))).mono ?_; rintro e w1 ⟨v, rfl, hv, hb1⟩; obtain ⟨va, vm, vc, rfl⟩ := (BSl.of_own hv).shape3; have kR : Blk w1 (w.heap.size + 1) 62 [.slice none 0 0, .int .i64 0] := (Blk.new' (by simp)).below hb1 (by simp); have r0 := kR.c2.1; have r1 := kR.c2.2; have g0 := kR.frozen 0; have g1 := kR.frozen 1)
      have hB1 := chain (chainA (chain0 w _) _) hb1
      have hB := (hB1.setCell (p := ⟨w.heap.size + 1, 0, none⟩) (by simp) (.slice va vm vc)).setCell (p := ⟨w.heap.size + 1, 1, none⟩) (by simp) (.int .i64 0)
      have kR2 := (kR.set 0 (.slice va vm vc)).set 1 (.int .i64 0)
      obtain ⟨q0, q1⟩ := Blk.c2 kR2
      exact bodyPost_ret (v := .agg #[.slice va vm vc, .int .i64 0]) (by simp [results, Try.results55, go_sem, q0, q1]) rfl ⟨_, rfl, ((((BSl.of_own hv).to (Nat.le_refl _) (grownBy_setCell4 w1 (w.heap.size + 1) 0 (.slice va vm vc)) (fun r e => by cases e; exact noOct2 kR)).to (by simp) (grownBy_setCell4 _ (w.heap.size + 1) 1 (.int .i64 0)) (fun r e => by cases e; exact noOct2 (kR.set 0 _)))).mono (Nat.zero_le _) (by simp), hB⟩
    · rw [if_neg hfit]
      have hgt : (8192 : Int) < (n : Int) + (k : Int) := by omega
      go_enter Try.func55, Try.ntmps55
      go_wp2
      exact bodyPost_ret (v := .agg #[.slice none 0 0, .int .i64 5]) (by simp [results, Try.results55, go_sem]) rfl ⟨_, rfl, BSl.nil _ _ _, chainA (chain0 w _) _⟩
  · rw [addS_bad hf]
    have hf1 : (s.2 != 0) = true := by simpa using hf
    have hf2 : (s.2 == 0) = false := by simpa using hf
    clear hf
    generalize hn : s.1.length = n at *
    generalize hk : l.length = k at *
    clear hn hk
    go_enter Try.func55, Try.ntmps55
    go_wp2
    have hB : Below w.heap.size w ((w.alloc (.cells #[.slice a n c, .int .i64 s.2] 62)).alloc (.cells #[.slice a n c, .int .i64 s.2] 62)) := chainA (chain0 _ _) _
    exact bodyPost_ret (v := .agg #[.slice a n c, .int .i64 s.2]) (by simp [results, Try.results55, go_sem]) rfl ⟨_, rfl, (hsl.below hB (Nat.le_refl _)).mono (Nat.le_refl _) hB.size, hB⟩
end Go.Proofs.Ytigdenlnnnfjlaa

namespace Go.Proofs.Ytigdenlnnnfjlaa
open Go.RowKit Go.Shelf

theorem ObjP.noOct {T : TypeId} {W : World} {B : Nat} {s : St} (h : ObjP T W (some ⟨B, 0, none⟩) s) : NoOct W B := by
  rcases h with ⟨h, _⟩ | ⟨B', m, a, n, c, x, e, hb, _⟩
  · cases h
  · cases e; exact noOct3 hb
theorem ObjP.lt {T : TypeId} {W : World} {B : Nat} {s : St} (h : ObjP T W (some ⟨B, 0, none⟩) s) : B < W.heap.size := by
  rcases h with ⟨h, _⟩ | ⟨B', m, a, n, c, x, e, hb, _⟩
  · cases h
  · cases e; exact hb.lt
/-- A field of an object, and a struct of the reference's beside it: behind two stores into the struct. -/
theorem objP_stored {T Tr : TypeId} {W : World} {NB XB : Nat} {s : St} {a : Option Addr} {m c : Nat} {x : Int} {sv : Value} {y : Int} (h : ObjP T W (some ⟨NB, 0, none⟩) s) (kW : Blk W XB Tr [.slice a m c, .int .i64 x]) (hne : XB ≠ NB) (hs : ∃ a m c, sv = .slice a m c) :
    ObjP T ((W.setCell ⟨XB, 0, none⟩ sv).setCell ⟨XB, 1, none⟩ (.int .i64 y)) (some ⟨NB, 0, none⟩) s := by
  obtain ⟨a2, m2, c2, rfl⟩ := hs
  have hn : (Option.map (fun x : Addr => x.block) (some ⟨NB, 0, none⟩)) ≠ some XB := fun e => hne (by simpa using e.symm)
  exact (h.to (grownBy_setCell4 W XB 0 (.slice a2 m2 c2)) (fun r e => by cases e; exact ⟨noOct2 kW, hn⟩)).to (grownBy_setCell4 _ XB 1 (.int .i64 y)) (fun r e => by cases e; exact ⟨noOct2 (kW.set 0 (.slice a2 m2 c2)), hn⟩)
theorem objP_words {T Tw : TypeId} {W : World} {NB AB : Nat} {s : St} {b0 b1 b2 b3 : Int} {y0 y1 y2 y3 : Int} (h : ObjP T W (some ⟨NB, 0, none⟩) s) (k0 : Blk W AB Tw [.int .u64 b0, .int .u64 b1, .int .u64 b2, .int .u64 b3]) (hne : AB ≠ NB) :
    ObjP T ((((W.setCell ⟨AB, 0, none⟩ (.int .u64 y0)).setCell ⟨AB, 1, none⟩ (.int .u64 y1)).setCell ⟨AB, 2, none⟩ (.int .u64 y2)).setCell ⟨AB, 3, none⟩ (.int .u64 y3)) (some ⟨NB, 0, none⟩) s := by
  have hn : (Option.map (fun x : Addr => x.block) (some ⟨NB, 0, none⟩)) ≠ some AB := fun e => hne (by simpa using e.symm)
  have k1 := k0.set 0 (.int .u64 y0)
  have k2 := k1.set 1 (.int .u64 y1)
  have k3 := k2.set 2 (.int .u64 y2)
  exact (((h.to (grownBy_setCell4 W AB 0 (.int .u64 y0)) (fun r e => by cases e; exact ⟨noOct4 k0, hn⟩)).to (grownBy_setCell4 _ AB 1 (.int .u64 y1)) (fun r e => by cases e; exact ⟨noOct4 k1, hn⟩)).to (grownBy_setCell4 _ AB 2 (.int .u64 y2)) (fun r e => by cases e; exact ⟨noOct4 k2, hn⟩)).to (grownBy_setCell4 _ AB 3 (.int .u64 y3)) (fun r e => by cases e; exact ⟨noOct4 k3, hn⟩)
end Go.Proofs.Ytigdenlnnnfjlaa

namespace Go.Proofs.Ytigdenlnnnfjlaa
open Go.RowKit Go.Shelf

theorem inOpenW_any (l : List UInt8) (sv : Value) (w : World) (hsv : BSl 0 w.heap.size w sv l) :
    Calls Try.prog 29 #[sv] w fun e W' => ∃ NB, e = .returned (.pointer (some ⟨NB, 0, none⟩)) ∧ w.heap.size ≤ NB ∧ ObjP 106 W' (some ⟨NB, 0, none⟩) (openS l) ∧ Below w.heap.size w W' := by
  obtain ⟨a, c, rfl, -⟩ := hsv.shape
  have HOK := openS_ok l
  unfold openS at *
  generalize hn : l.length = n at *
  have HN := Lib.hid hn
  clear hn
  by_cases hfit : n ≤ 8192
  · rw [if_pos hfit] at *
    have hgt : ¬ (8192 : Int) < (n : Int) := by omega
    go_enter Try.func29, Try.ntmps29
    go_wp2_with (go_at_call 54; refine (clone_any l _ w (by rw [HN.out]; omega) hsv (Nat.le_refl _)).mono ?_; rintro e w1 ⟨v, rfl, hv, hb1⟩; obtain ⟨va, vm, vc, rfl⟩ := (BSl.of_own hv).shape3)
    go_ret
    have hB := chainA hb1 (.cells #[.bool true, .slice va vm vc, .int .i64 0] 106)
    have hB1 := chain0 w1 (.cells #[.bool true, .slice va vm vc, .int .i64 0] 106)
    exact ⟨w1.heap.size, rfl, hb1.size, .inr ⟨_, true, va, vm, vc, 0, rfl, Blk.new w1 _ [_, _, _], .inr ⟨rfl, rfl, HOK, (((BSl.of_own hv).below hB1 (Nat.le_refl _)).mono (Nat.zero_le _) hB1.size)⟩⟩, hB⟩
  · rw [if_neg hfit] at *
    have hgt : (8192 : Int) < (n : Int) := by omega
    go_enter Try.func29, Try.ntmps29
    go_wp2
    go_ret
    exact ⟨w.heap.size, rfl, Nat.le_refl _, .inr ⟨_, true, none, 0, 0, 5, rfl, Blk.new w _ [_, _, _], .inr ⟨rfl, rfl, HOK, BSl.nil _ _ _⟩⟩, chain0 _ _⟩
end Go.Proofs.Ytigdenlnnnfjlaa
