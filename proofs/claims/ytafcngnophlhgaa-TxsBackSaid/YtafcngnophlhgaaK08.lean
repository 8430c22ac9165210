/-
  A transaction, read of an In: txs's fields and Get.
  A transaction, read of an In: txs's Get.
  A new Out; octets that are handed back.
  An object and a struct beside it: what is stored into the struct leaves the object.
  A transaction's octets, and the transaction of any octets: txs's Octets and Read.
-/
import Derived.Deep.Cut
import Derived.Deep.CutBlock
import Derived.Deep.DeepCutAuto
import Derived.Test.YtafcngnophlhgaaK07
namespace Go.Proofs.Ytafcngnophlhgaa
open Go.RowKit Go.Shelf

/-- A transaction is read, or none; the state behind it. -/
def GotT (T : TypeId) (p : Option Addr) (r : Tr × St) (w : World) (e : Ending) (W' : World) : Prop :=
  e = .returned (txv r.1) ∧ ObjP T W' p r.2 ∧ w.grownBy W' (p.map (·.block))
/-- k numbers are read. -/
def tdK (s : St) (k : Nat) : St := match k with | 0 => s | k + 1 => (mostS (tdK s k) 6 big).2
def nmT (s : St) (k : Nat) : Nat := (mostS (tdK s k) 6 big).1
def placeT (k : Nat) : Nat := match k with | 0 => 2 | 1 => 0 | 2 => 1 | _ => 3
def lcT (s : St) (k : Nat) : List Value := match k with | 0 => txc noT | k + 1 => (lcT s k).set (placeT k) (.int .i64 (nmT s k : Nat))
theorem lcT_at (s : St) {k : Nat} (hk : k < 4) : (lcT s k)[placeT k]? = some (.int .i64 0) := by
  obtain rfl | rfl | rfl | rfl : k = 0 ∨ k = 1 ∨ k = 2 ∨ k = 3 := by omega
  all_goals rfl
theorem lcT_no (s : St) (k : Nat) : ∀ u ∈ lcT s k, ∀ y, u ≠ bv y := by
  induction k with
  | zero => exact noOct_t noT
  | succ k ih =>
    intro u hu y
    rcases List.mem_or_eq_of_mem_set hu with h1 | rfl
    · exact ih u h1 y
    · simp [bv]
theorem lcT_4 (s : St) : lcT s 4 = txc ⟨((td1 s).1 : Nat), ((td2 s).1 : Nat), kdT s, ((td3 s).1 : Nat), 0, 0, 0, 0, noI, noV, 0, 0, 0, 0, emptyB⟩ := rfl
set_option maxRecDepth 100000 in
theorem idx_txp (L : Nat) (w : World) {k : Nat} (hk : k < 4) :
    (Instr.index 105 (.agg #[.pointer (some ⟨L, 2, none⟩), .pointer (some ⟨L, 0, none⟩), .pointer (some ⟨L, 1, none⟩), .pointer (some ⟨L, 3, none⟩)]) (.int .i64 k)).run Try.prog w = .ok (.pointer (some ⟨L, placeT k, none⟩)) w := by
  have hs : ∀ j : Nat, (sizeOf 104).run Try.prog w = .ok 1 w := fun _ => by kernel_rfl
  obtain rfl | rfl | rfl | rfl : k = 0 ∨ k = 1 ∨ k = 2 ∨ k = 3 := by omega
  all_goals
    simp [Instr.index, run_underlying Try.underlying105, asIntOf, hs 0, go_sem, placeT]
theorem num_kind (p : Option Addr) (s : St) (W : World) (h : ObjP 82 W p s) : Calls Try.prog 61 #[.pointer p, .int .i64 1099511627776] W (NumS 82 p (mostS s 6 big) W) := inNumP_any (p := p) 1099511627776 1099511627776 (Or.inr ⟨by omega, rfl⟩) W h
theorem txt_kind (p : Option Addr) (s : St) (W : World) (h : ObjP 82 W p s) : Calls Try.prog 65 #[.pointer p, .int .i64 1024] W (TxtS 82 p (gtxtS s 1024) W) := inTextP_any (p := p) 1024 1024 (Or.inr ⟨by omega, rfl⟩) W h

set_option maxRecDepth 100000 in
set_option maxHeartbeats 8000000 in
theorem txsFields_any {p : Option Addr} {s : St} (w : World) (h : ObjP 82 w p s) :
    Calls Try.prog 43 #[.pointer p] w (GotT 82 p (rawT s, (td8 s).2) w) := by
  have HNR := Lib.hid (ptr_lt h (Nat.le_refl w.heap.size))
  have HNL := Lib.hid (ptr_lt h (Nat.le_succ w.heap.size))
  have H4 : Hid (∀ W, ObjP 82 W p (td3 s).2 → Calls Try.prog 62 #[.pointer p] W (WidS 82 p (td4 s) W)) := Lib.hid fun W hO => inWide_any W hO
  have hz0 : (w.alloc (.cells (txc noT).toArray 30)).heap.size = w.heap.size + 1 := by simp
  have kR := (Blk.new w 30 (txc noT)).alloc (.cells (txc noT).toArray 30)
  have kL : Blk ((w.alloc (.cells (txc noT).toArray 30)).alloc (.cells (txc noT).toArray 30)) (w.heap.size + 1) 30 (txc noT) := Blk.new' hz0
  have hG := (World.grownBy_alloc w (.cells (txc noT).toArray 30) (p.map (·.block))).trans (World.grownBy_alloc _ (.cells (txc noT).toArray 30) (p.map (·.block)))
  have hO0 := (h.below (chain0 w (.cells (txc noT).toArray 30))).below (chain0 _ (.cells (txc noT).toArray 30))
  clear h hz0
  go_enter Try.func43, Try.ntmps43
  go_wp2_with fail
  go_loopw [11] (fun n wr => ∃ k : Nat, k ≤ 4 ∧ n = .int .i64 k ∧ ObjP 82 wr p (tdK s k) ∧ w.grownBy wr (p.map (·.block)) ∧ Blk wr w.heap.size 30 (txc noT) ∧ Blk wr (w.heap.size + 1) 30 (lcT s k)) (fun n _ => 4 - (intOf n).toNat)
  case atStart => exact ⟨0, by omega, rfl, hO0, hG, kR, kL⟩
  case round =>
    clear hO0 hG kR kL
    obtain ⟨k, hk, rfl, hO, hG, kR, kL⟩ := hrel
    by_cases hlt : k < 4
    · have hlt' : (k : Int) < 4 := by omega
      have HI := Lib.hid (fun W => idx_txp (w.heap.size + 1) W hlt)
      have HS : Hid (tdK s (k + 1) = (mostS (tdK s k) 6 big).2) := Lib.hid rfl
      have HLC : Hid (lcT s (k + 1) = (lcT s k).set (placeT k) (.int .i64 ((mostS (tdK s k) 6 big).1 : Nat))) := Lib.hid rfl
      have HAT := Lib.hid (lcT_at s hlt)
      have HNO := Lib.hid (lcT_no s k)
      generalize lcT s k = lc at *
      generalize tdK s k = st at *
      generalize placeT k = pk at *
      generalize hm : mostS st 6 big = m at *
      have HM := Lib.hid hm
      clear hm
      go_wp2_with (first
        | (refine wpList_indexTo rfl 105 (.tmp 10) (.tmp 11) rfl (some 13) rfl _ (HI.out _) ?_)
        | (go_at_call 61; refine (num_kind p st _ hO).mono ?_; rw [HM.out]; rintro e W1 ⟨rfl, q, g⟩; replace hG := hG.trans g; replace kR := kR.kept g HNR.out; replace kL := kL.kept g HNL.out; have z := (kL.cell pk).trans HAT.out; have f := kL.frozen pk))
      go_roundw
      case rel => exact ⟨k + 1, by omega, by go_num, by rw [HS.out]; exact objP_one q (noOct_blk kL HNO.out) HNL.out, grown_set hG (Nat.le_succ _), kR.other _ _ (by omega), by rw [HLC.out]; exact kL.set _ _⟩
      case measure => simp [intOf]; omega
    · obtain rfl : k = 4 := by omega
      rw [lcT_4] at kL
      replace hO : ObjP 82 wr p (td3 s).2 := hO
      have E5 : Hid (td5 s = midI (kdT s) (td4 s).2) := Lib.hid rfl
      have E6 : Hid (td6 s = midV (kdT s) (td5 s).2) := Lib.hid rfl
      have E7 : Hid (td7 s = finF (kdT s) (td6 s).2) := Lib.hid rfl
      have E8 : Hid (td8 s = finG (kdT s) (td7 s).2) := Lib.hid rfl
      have EK : Hid (rawT s = ⟨((td1 s).1 : Nat), ((td2 s).1 : Nat), kdT s, ((td3 s).1 : Nat), wdS (td4 s).1 0, wdS (td4 s).1 1, wdS (td4 s).1 2, wdS (td4 s).1 3, (td5 s).1, (td6 s).1, wdS (td7 s).1 0, wdS (td7 s).1 1, wdS (td7 s).1 2, wdS (td7 s).1 3, str (td8 s).1⟩) := Lib.hid rfl
      have HQ : Hid (∀ W, ObjP 82 W p (td3 s).2 → Calls Try.prog 62 #[.pointer p] W (fun e W' => e = .returned (wv (wdS (td4 s).1 0) (wdS (td4 s).1 1) (wdS (td4 s).1 2) (wdS (td4 s).1 3)) ∧ ObjP 82 W' p (td4 s).2 ∧ W.grownBy W' (p.map (·.block)))) := H4
      clear H4
      generalize rawT s = raw at *
      generalize kdT s = kd at *
      generalize (((td1 s).1 : Nat) : Int) = n1 at *
      generalize (((td2 s).1 : Nat) : Int) = n2 at *
      generalize (((td3 s).1 : Nat) : Int) = n3 at *
      generalize td5 s = d5 at *
      generalize td6 s = d6 at *
      generalize td7 s = d7 at *
      generalize td8 s = d8 at *
      generalize (td3 s).2 = s3 at *
      generalize wdS (td4 s).1 0 = u0 at *
      generalize wdS (td4 s).1 1 = u1 at *
      generalize wdS (td4 s).1 2 = u2 at *
      generalize wdS (td4 s).1 3 = u3 at *
      generalize (td4 s).2 = s4 at *
      have c2 := trivial
      clear c2
      go_upto_block 2 with (first
        | (go_at_call 62; refine (HQ.out _ hO).mono ?_; rintro e W1 ⟨rfl, q, g⟩; replace hG := World.grownBy.trans hG g; replace kR := kR.kept g HNR.out; replace kL := kL.kept g HNL.out; clear g)
        | ((refine wpList_store_part 24 (.tmp 21) (.tmp 20) (txc ⟨n1, n2, kd, n3, u0, u1, u2, u3, noI, noV, 0, 0, 0, 0, emptyB⟩) kL 4 (wv u0 u1 u2 u3) [.int .u64 (u0 : Nat), .int .u64 (u1 : Nat), .int .u64 (u2 : Nat), .int .u64 (u3 : Nat)] ?_ ?_ ?_ ?_ ?_ ?_ ?_ ?_ ?_ ?_ ?_); (· rfl); (· rfl); (· rfl); (· rfl); (· rfl); (· rfl); (· kernel_rfl); (· exact Nat.le_of_ble_eq_true rfl); (· rfl); (· rfl); replace q := objP_row q (noOctT kL) HNL.out (txc ⟨n1, n2, kd, n3, u0, u1, u2, u3, noI, noV, 0, 0, 0, 0, emptyB⟩).toArray; replace kR := kR.rowO (txc ⟨n1, n2, kd, n3, u0, u1, u2, u3, noI, noV, 0, 0, 0, 0, emptyB⟩).toArray (g := w.heap.size + 1) (by omega); replace kL := kL.row (txc ⟨n1, n2, kd, n3, u0, u1, u2, u3, noI, noV, 0, 0, 0, 0, emptyB⟩); replace hG := grown_row hG (Nat.le_succ _) (txc ⟨n1, n2, kd, n3, u0, u1, u2, u3, noI, noV, 0, 0, 0, 0, emptyB⟩).toArray; have hO1 := q; clear q hO; have c2 := (kL.cell 2).trans rfl))
      clear HQ
      generalize hW2 : World.setRow W1 _ _ = W2 at *
      clear hW2
      go_cut [24] (fun _ wc => ObjP 82 wc p d6.2 ∧ w.grownBy wc (p.map (·.block)) ∧ Blk wc w.heap.size 30 (txc noT) ∧ Blk wc (w.heap.size + 1) 30 (txc ⟨n1, n2, kd, n3, u0, u1, u2, u3, d5.1, d6.1, 0, 0, 0, 0, emptyB⟩))
      case first =>
        clear E7 E8 EK
        by_cases hk1 : kd = 1
        · have q1 : (kd == 1) = true := by simpa using hk1
          have HN : Hid (∀ W, ObjP 82 W p s4 → Calls Try.prog 61 #[.pointer p, .int .i64 1099511627776] W (NumS 82 p (mostS s4 6 big) W)) := Lib.hid fun W hO => num_kind p s4 W hO
          have Q5 : d5 = (⟨0, ⟨#[]⟩, 0, 0, 0, ((mostS s4 6 big).1 : Nat), ⟨#[]⟩⟩, (mostS s4 6 big).2) := by rw [E5.out, midI, if_pos hk1]
          have Q6 : d6 = (noV, d5.2) := by rw [E6.out, midV, if_neg (by omega)]
          have HQ := Lib.hid (And.intro Q5 Q6)
          clear hk1 Q5 Q6 E5 E6
          generalize mostS s4 6 big = m at *
          obtain ⟨n, st⟩ := m
          go_wp2_with (first
            | (go_at_call 61; refine (HN.out _ hO1).mono ?_; rintro e W3 ⟨rfl, q, g⟩; replace hG := World.grownBy.trans hG g; replace kR := kR.kept g HNR.out; replace kL := kL.kept g HNL.out; clear g)
            | ((refine wpList_store_part 3 (.tmp 29) (.tmp 27) (txc ⟨n1, n2, kd, n3, u0, u1, u2, u3, ⟨0, ⟨#[]⟩, 0, 0, 0, (n : Nat), ⟨#[]⟩⟩, noV, 0, 0, 0, 0, emptyB⟩) kL 13 (.int .i64 (n : Nat)) [.int .i64 (n : Nat)] ?_ ?_ ?_ ?_ ?_ ?_ ?_ ?_ ?_ ?_ ?_); (· rfl); (· rfl); (· rfl); (· rfl); (· rfl); (· rfl); (· kernel_rfl); (· exact Nat.le_of_ble_eq_true rfl); (· rfl); (· rfl); replace q := objP_row q (noOctT kL) HNL.out (txc ⟨n1, n2, kd, n3, u0, u1, u2, u3, ⟨0, ⟨#[]⟩, 0, 0, 0, (n : Nat), ⟨#[]⟩⟩, noV, 0, 0, 0, 0, emptyB⟩).toArray; replace kR := kR.rowO (txc ⟨n1, n2, kd, n3, u0, u1, u2, u3, ⟨0, ⟨#[]⟩, 0, 0, 0, (n : Nat), ⟨#[]⟩⟩, noV, 0, 0, 0, 0, emptyB⟩).toArray (g := w.heap.size + 1) (by omega); replace kL := kL.row (txc ⟨n1, n2, kd, n3, u0, u1, u2, u3, ⟨0, ⟨#[]⟩, 0, 0, 0, (n : Nat), ⟨#[]⟩⟩, noV, 0, 0, 0, 0, emptyB⟩); replace hG := grown_row hG (Nat.le_succ _) (txc ⟨n1, n2, kd, n3, u0, u1, u2, u3, ⟨0, ⟨#[]⟩, 0, 0, 0, (n : Nat), ⟨#[]⟩⟩, noV, 0, 0, 0, 0, emptyB⟩).toArray; ))
          go_meet
          obtain ⟨rfl, rfl⟩ := HQ.out
          exact ⟨q, hG, kR, kL⟩
        · have q1 : (kd == 1) = false := by simpa using hk1
          by_cases hk2 : kd = 2
          · have q2 : (kd == 2) = true := by simpa using hk2
            have HN : Hid (∀ W, ObjP 82 W p s4 → Calls Try.prog 61 #[.pointer p, .int .i64 1099511627776] W (NumS 82 p (mostS s4 6 big) W)) := Lib.hid fun W hO => num_kind p s4 W hO
            have Q5 : d5 = (⟨0, ⟨#[]⟩, ((mostS s4 6 big).1 : Nat), 0, 0, 0, ⟨#[]⟩⟩, (mostS s4 6 big).2) := by rw [E5.out, midI, if_neg hk1, if_pos hk2]
            have Q6 : d6 = (noV, d5.2) := by rw [E6.out, midV, if_neg (by omega)]
            have HQ := Lib.hid (And.intro Q5 Q6)
            clear hk1 hk2 Q5 Q6 E5 E6
            generalize mostS s4 6 big = m at *
            obtain ⟨n, st⟩ := m
            go_wp2_with (first
              | (go_at_call 61; refine (HN.out _ hO1).mono ?_; rintro e W3 ⟨rfl, q, g⟩; replace hG := World.grownBy.trans hG g; replace kR := kR.kept g HNR.out; replace kL := kL.kept g HNL.out; clear g)
              | ((refine wpList_store_part 3 (.tmp 35) (.tmp 33) (txc ⟨n1, n2, kd, n3, u0, u1, u2, u3, ⟨0, ⟨#[]⟩, (n : Nat), 0, 0, 0, ⟨#[]⟩⟩, noV, 0, 0, 0, 0, emptyB⟩) kL 10 (.int .i64 (n : Nat)) [.int .i64 (n : Nat)] ?_ ?_ ?_ ?_ ?_ ?_ ?_ ?_ ?_ ?_ ?_); (· rfl); (· rfl); (· rfl); (· rfl); (· rfl); (· rfl); (· kernel_rfl); (· exact Nat.le_of_ble_eq_true rfl); (· rfl); (· rfl); replace q := objP_row q (noOctT kL) HNL.out (txc ⟨n1, n2, kd, n3, u0, u1, u2, u3, ⟨0, ⟨#[]⟩, (n : Nat), 0, 0, 0, ⟨#[]⟩⟩, noV, 0, 0, 0, 0, emptyB⟩).toArray; replace kR := kR.rowO (txc ⟨n1, n2, kd, n3, u0, u1, u2, u3, ⟨0, ⟨#[]⟩, (n : Nat), 0, 0, 0, ⟨#[]⟩⟩, noV, 0, 0, 0, 0, emptyB⟩).toArray (g := w.heap.size + 1) (by omega); replace kL := kL.row (txc ⟨n1, n2, kd, n3, u0, u1, u2, u3, ⟨0, ⟨#[]⟩, (n : Nat), 0, 0, 0, ⟨#[]⟩⟩, noV, 0, 0, 0, 0, emptyB⟩); replace hG := grown_row hG (Nat.le_succ _) (txc ⟨n1, n2, kd, n3, u0, u1, u2, u3, ⟨0, ⟨#[]⟩, (n : Nat), 0, 0, 0, ⟨#[]⟩⟩, noV, 0, 0, 0, 0, emptyB⟩).toArray; ))
            go_meet
            obtain ⟨rfl, rfl⟩ := HQ.out
            exact ⟨q, hG, kR, kL⟩
          · have q2 : (kd == 2) = false := by simpa using hk2
            by_cases hk4 : kd = 4
            · have q4 : (kd == 4) = true := by simpa using hk4
              have HI : Hid (∀ W, ObjP 82 W p s4 → Calls Try.prog 63 #[.pointer p] W (GotI 82 p (getI s4) W)) := Lib.hid fun W hO => dealGet_any W hO
              have HV : Hid (∀ W, ObjP 82 W p (getI s4).2 → Calls Try.prog 64 #[.pointer p] W (GotV 82 p (getV (getI s4).2) W)) := Lib.hid fun W hO => dealGetVar_any W hO
              have Q5 : d5 = getI s4 := by rw [E5.out, midI, if_neg (by omega), if_neg (by omega), if_pos (by omega)]
              have Q6 : d6 = getV (getI s4).2 := by rw [E6.out, midV, if_pos (by omega), Q5]
              have HQ := Lib.hid (And.intro Q5 Q6)
              clear hk1 hk2 hk4 Q5 Q6 E5 E6
              generalize getV (getI s4).2 = gv at *
              generalize getI s4 = gi at *
              obtain ⟨iv, s5⟩ := gi
              obtain ⟨vr, s6⟩ := gv
              go_wp2_with (first
                | (go_at_call 63; refine (HI.out _ hO1).mono ?_; rintro e W3 ⟨rfl, q, g⟩; replace hG := World.grownBy.trans hG g; replace kR := kR.kept g HNR.out; replace kL := kL.kept g HNL.out; clear g)
                | ((refine wpList_store_part 26 (.tmp 42) (.tmp 41) (txc ⟨n1, n2, kd, n3, u0, u1, u2, u3, iv, noV, 0, 0, 0, 0, emptyB⟩) kL 8 (ivv iv) (ivc iv) ?_ ?_ ?_ ?_ ?_ ?_ ?_ ?_ ?_ ?_ ?_); (· rfl); (· rfl); (· rfl); (· rfl); (· rfl); (· rfl); (· kernel_rfl); (· exact Nat.le_of_ble_eq_true rfl); (· rfl); (· rfl); replace q := objP_row q (noOctT kL) HNL.out (txc ⟨n1, n2, kd, n3, u0, u1, u2, u3, iv, noV, 0, 0, 0, 0, emptyB⟩).toArray; replace kR := kR.rowO (txc ⟨n1, n2, kd, n3, u0, u1, u2, u3, iv, noV, 0, 0, 0, 0, emptyB⟩).toArray (g := w.heap.size + 1) (by omega); replace kL := kL.row (txc ⟨n1, n2, kd, n3, u0, u1, u2, u3, iv, noV, 0, 0, 0, 0, emptyB⟩); replace hG := grown_row hG (Nat.le_succ _) (txc ⟨n1, n2, kd, n3, u0, u1, u2, u3, iv, noV, 0, 0, 0, 0, emptyB⟩).toArray; have hO2 := q; clear q)
                | (go_at_call 64; refine (HV.out _ hO2).mono ?_; rintro e W4 ⟨rfl, q, g⟩; replace hG := World.grownBy.trans hG g; replace kR := kR.kept g HNR.out; replace kL := kL.kept g HNL.out; clear g)
                | ((refine wpList_store_part 28 (.tmp 45) (.tmp 44) (txc ⟨n1, n2, kd, n3, u0, u1, u2, u3, iv, vr, 0, 0, 0, 0, emptyB⟩) kL 15 (svv vr) (svc vr) ?_ ?_ ?_ ?_ ?_ ?_ ?_ ?_ ?_ ?_ ?_); (· rfl); (· rfl); (· rfl); (· rfl); (· rfl); (· rfl); (· kernel_rfl); (· exact Nat.le_of_ble_eq_true rfl); (· rfl); (· rfl); replace q := objP_row q (noOctT kL) HNL.out (txc ⟨n1, n2, kd, n3, u0, u1, u2, u3, iv, vr, 0, 0, 0, 0, emptyB⟩).toArray; replace kR := kR.rowO (txc ⟨n1, n2, kd, n3, u0, u1, u2, u3, iv, vr, 0, 0, 0, 0, emptyB⟩).toArray (g := w.heap.size + 1) (by omega); replace kL := kL.row (txc ⟨n1, n2, kd, n3, u0, u1, u2, u3, iv, vr, 0, 0, 0, 0, emptyB⟩); replace hG := grown_row hG (Nat.le_succ _) (txc ⟨n1, n2, kd, n3, u0, u1, u2, u3, iv, vr, 0, 0, 0, 0, emptyB⟩).toArray; ))
              go_meet
              obtain ⟨rfl, rfl⟩ := HQ.out
              exact ⟨q, hG, kR, kL⟩
            · have q4 : (kd == 4) = false := by simpa using hk4
              by_cases hk5 : kd = 5
              · have q5 : (kd == 5) = true := by simpa using hk5
                have HI : Hid (∀ W, ObjP 82 W p s4 → Calls Try.prog 63 #[.pointer p] W (GotI 82 p (getI s4) W)) := Lib.hid fun W hO => dealGet_any W hO
                have HV : Hid (∀ W, ObjP 82 W p (getI s4).2 → Calls Try.prog 64 #[.pointer p] W (GotV 82 p (getV (getI s4).2) W)) := Lib.hid fun W hO => dealGetVar_any W hO
                have Q5 : d5 = getI s4 := by rw [E5.out, midI, if_neg (by omega), if_neg (by omega), if_pos (by omega)]
                have Q6 : d6 = getV (getI s4).2 := by rw [E6.out, midV, if_pos (by omega), Q5]
                have HQ := Lib.hid (And.intro Q5 Q6)
                clear hk1 hk2 hk4 hk5 Q5 Q6 E5 E6
                generalize getV (getI s4).2 = gv at *
                generalize getI s4 = gi at *
                obtain ⟨iv, s5⟩ := gi
                obtain ⟨vr, s6⟩ := gv
                go_wp2_with (first
                  | (go_at_call 63; refine (HI.out _ hO1).mono ?_; rintro e W3 ⟨rfl, q, g⟩; replace hG := World.grownBy.trans hG g; replace kR := kR.kept g HNR.out; replace kL := kL.kept g HNL.out; clear g)
                  | ((refine wpList_store_part 26 (.tmp 42) (.tmp 41) (txc ⟨n1, n2, kd, n3, u0, u1, u2, u3, iv, noV, 0, 0, 0, 0, emptyB⟩) kL 8 (ivv iv) (ivc iv) ?_ ?_ ?_ ?_ ?_ ?_ ?_ ?_ ?_ ?_ ?_); (· rfl); (· rfl); (· rfl); (· rfl); (· rfl); (· rfl); (· kernel_rfl); (· exact Nat.le_of_ble_eq_true rfl); (· rfl); (· rfl); replace q := objP_row q (noOctT kL) HNL.out (txc ⟨n1, n2, kd, n3, u0, u1, u2, u3, iv, noV, 0, 0, 0, 0, emptyB⟩).toArray; replace kR := kR.rowO (txc ⟨n1, n2, kd, n3, u0, u1, u2, u3, iv, noV, 0, 0, 0, 0, emptyB⟩).toArray (g := w.heap.size + 1) (by omega); replace kL := kL.row (txc ⟨n1, n2, kd, n3, u0, u1, u2, u3, iv, noV, 0, 0, 0, 0, emptyB⟩); replace hG := grown_row hG (Nat.le_succ _) (txc ⟨n1, n2, kd, n3, u0, u1, u2, u3, iv, noV, 0, 0, 0, 0, emptyB⟩).toArray; have hO2 := q; clear q)
                  | (go_at_call 64; refine (HV.out _ hO2).mono ?_; rintro e W4 ⟨rfl, q, g⟩; replace hG := World.grownBy.trans hG g; replace kR := kR.kept g HNR.out; replace kL := kL.kept g HNL.out; clear g)
                  | ((refine wpList_store_part 28 (.tmp 45) (.tmp 44) (txc ⟨n1, n2, kd, n3, u0, u1, u2, u3, iv, vr, 0, 0, 0, 0, emptyB⟩) kL 15 (svv vr) (svc vr) ?_ ?_ ?_ ?_ ?_ ?_ ?_ ?_ ?_ ?_ ?_); (· rfl); (· rfl); (· rfl); (· rfl); (· rfl); (· rfl); (· kernel_rfl); (· exact Nat.le_of_ble_eq_true rfl); (· rfl); (· rfl); replace q := objP_row q (noOctT kL) HNL.out (txc ⟨n1, n2, kd, n3, u0, u1, u2, u3, iv, vr, 0, 0, 0, 0, emptyB⟩).toArray; replace kR := kR.rowO (txc ⟨n1, n2, kd, n3, u0, u1, u2, u3, iv, vr, 0, 0, 0, 0, emptyB⟩).toArray (g := w.heap.size + 1) (by omega); replace kL := kL.row (txc ⟨n1, n2, kd, n3, u0, u1, u2, u3, iv, vr, 0, 0, 0, 0, emptyB⟩); replace hG := grown_row hG (Nat.le_succ _) (txc ⟨n1, n2, kd, n3, u0, u1, u2, u3, iv, vr, 0, 0, 0, 0, emptyB⟩).toArray; ))
                go_meet
                obtain ⟨rfl, rfl⟩ := HQ.out
                exact ⟨q, hG, kR, kL⟩
              · have q5 : (kd == 5) = false := by simpa using hk5
                by_cases hk6 : kd = 6
                · have q6 : (kd == 6) = true := by simpa using hk6
                  have HI : Hid (∀ W, ObjP 82 W p s4 → Calls Try.prog 63 #[.pointer p] W (GotI 82 p (getI s4) W)) := Lib.hid fun W hO => dealGet_any W hO
                  have HV : Hid (∀ W, ObjP 82 W p (getI s4).2 → Calls Try.prog 64 #[.pointer p] W (GotV 82 p (getV (getI s4).2) W)) := Lib.hid fun W hO => dealGetVar_any W hO
                  have Q5 : d5 = getI s4 := by rw [E5.out, midI, if_neg (by omega), if_neg (by omega), if_pos (by omega)]
                  have Q6 : d6 = getV (getI s4).2 := by rw [E6.out, midV, if_pos (by omega), Q5]
                  have HQ := Lib.hid (And.intro Q5 Q6)
                  clear hk1 hk2 hk4 hk5 hk6 Q5 Q6 E5 E6
                  generalize getV (getI s4).2 = gv at *
                  generalize getI s4 = gi at *
                  obtain ⟨iv, s5⟩ := gi
                  obtain ⟨vr, s6⟩ := gv
                  go_wp2_with (first
                    | (go_at_call 63; refine (HI.out _ hO1).mono ?_; rintro e W3 ⟨rfl, q, g⟩; replace hG := World.grownBy.trans hG g; replace kR := kR.kept g HNR.out; replace kL := kL.kept g HNL.out; clear g)
                    | ((refine wpList_store_part 26 (.tmp 42) (.tmp 41) (txc ⟨n1, n2, kd, n3, u0, u1, u2, u3, iv, noV, 0, 0, 0, 0, emptyB⟩) kL 8 (ivv iv) (ivc iv) ?_ ?_ ?_ ?_ ?_ ?_ ?_ ?_ ?_ ?_ ?_); (· rfl); (· rfl); (· rfl); (· rfl); (· rfl); (· rfl); (· kernel_rfl); (· exact Nat.le_of_ble_eq_true rfl); (· rfl); (· rfl); replace q := objP_row q (noOctT kL) HNL.out (txc ⟨n1, n2, kd, n3, u0, u1, u2, u3, iv, noV, 0, 0, 0, 0, emptyB⟩).toArray; replace kR := kR.rowO (txc ⟨n1, n2, kd, n3, u0, u1, u2, u3, iv, noV, 0, 0, 0, 0, emptyB⟩).toArray (g := w.heap.size + 1) (by omega); replace kL := kL.row (txc ⟨n1, n2, kd, n3, u0, u1, u2, u3, iv, noV, 0, 0, 0, 0, emptyB⟩); replace hG := grown_row hG (Nat.le_succ _) (txc ⟨n1, n2, kd, n3, u0, u1, u2, u3, iv, noV, 0, 0, 0, 0, emptyB⟩).toArray; have hO2 := q; clear q)
                    | (go_at_call 64; refine (HV.out _ hO2).mono ?_; rintro e W4 ⟨rfl, q, g⟩; replace hG := World.grownBy.trans hG g; replace kR := kR.kept g HNR.out; replace kL := kL.kept g HNL.out; clear g)
                    | ((refine wpList_store_part 28 (.tmp 45) (.tmp 44) (txc ⟨n1, n2, kd, n3, u0, u1, u2, u3, iv, vr, 0, 0, 0, 0, emptyB⟩) kL 15 (svv vr) (svc vr) ?_ ?_ ?_ ?_ ?_ ?_ ?_ ?_ ?_ ?_ ?_); (· rfl); (· rfl); (· rfl); (· rfl); (· rfl); (· rfl); (· kernel_rfl); (· exact Nat.le_of_ble_eq_true rfl); (· rfl); (· rfl); replace q := objP_row q (noOctT kL) HNL.out (txc ⟨n1, n2, kd, n3, u0, u1, u2, u3, iv, vr, 0, 0, 0, 0, emptyB⟩).toArray; replace kR := kR.rowO (txc ⟨n1, n2, kd, n3, u0, u1, u2, u3, iv, vr, 0, 0, 0, 0, emptyB⟩).toArray (g := w.heap.size + 1) (by omega); replace kL := kL.row (txc ⟨n1, n2, kd, n3, u0, u1, u2, u3, iv, vr, 0, 0, 0, 0, emptyB⟩); replace hG := grown_row hG (Nat.le_succ _) (txc ⟨n1, n2, kd, n3, u0, u1, u2, u3, iv, vr, 0, 0, 0, 0, emptyB⟩).toArray; ))
                  go_meet
                  obtain ⟨rfl, rfl⟩ := HQ.out
                  exact ⟨q, hG, kR, kL⟩
                · have q6 : (kd == 6) = false := by simpa using hk6
                  have Q5 : d5 = (noI, s4) := by rw [E5.out, midI, if_neg hk1, if_neg hk2, if_neg (by omega)]
                  have Q6 : d6 = (noV, d5.2) := by rw [E6.out, midV, if_neg (by omega)]
                  have HQ := Lib.hid (And.intro Q5 Q6)
                  clear hk1 hk2 hk4 hk5 hk6 Q5 Q6 E5 E6
                  go_wp2_with fail
                  go_meet
                  obtain ⟨rfl, rfl⟩ := HQ.out
                  exact ⟨hO1, hG, kR, kL⟩
      case rest =>
        clear E5 E6 c2
        clear kR kL hG hO1
        obtain ⟨hO, hG, kR, kL⟩ := hcut
        obtain ⟨iv, s5⟩ := d5
        obtain ⟨vr, s6⟩ := d6
        dsimp only at hO kL E7 E8 EK
        have c2 := (kL.cell 2).trans rfl
        by_cases hk : 5 ≤ kd ∧ kd ≤ 6
        · have qs : sgnB kd = true := decide_eq_true hk
          have Q7 : d7 = takeS s6 32 := by rw [E7.out, finF, if_pos hk]
          have Q8 : d8 = gtxtS d7.2 1024 := by rw [E8.out, finG, if_pos hk]
          have HWD : Hid (∀ W, ObjP 82 W p s6 → Calls Try.prog 62 #[.pointer p] W (WidS 82 p d7 W)) := Lib.hid fun W hO => by rw [Q7]; exact inWide_any W hO
          have HTX : Hid (∀ W, ObjP 82 W p d7.2 → Calls Try.prog 65 #[.pointer p, .int .i64 1024] W (TxtS 82 p d8 W)) := Lib.hid fun W hO => by rw [Q8]; exact txt_kind p d7.2 W hO
          clear hk Q7 Q8 E7 E8
          obtain ⟨fl, s7⟩ := d7
          obtain ⟨g, s8⟩ := d8
          dsimp only at EK HTX
          unfold WidS at HWD
          dsimp only at HWD
          generalize wdS fl 0 = f0 at *
          generalize wdS fl 1 = f1 at *
          generalize wdS fl 2 = f2 at *
          generalize wdS fl 3 = f3 at *
          go_wp2_with (first
            | (go_at_call 48; refine (txsSigned_any _ _).mono ?_; rintro e W4 ⟨rfl, rfl⟩)
            | (go_at_call 62; refine (HWD.out _ hO).mono ?_; rintro e W5 ⟨rfl, q, g⟩; replace hG := World.grownBy.trans hG g; replace kR := kR.kept g HNR.out; replace kL := kL.kept g HNL.out; clear g c2)
            | ((refine wpList_store_part 24 (.tmp 51) (.tmp 50) (txc ⟨n1, n2, kd, n3, u0, u1, u2, u3, iv, vr, f0, f1, f2, f3, emptyB⟩) kL 20 (wv f0 f1 f2 f3) [.int .u64 (f0 : Nat), .int .u64 (f1 : Nat), .int .u64 (f2 : Nat), .int .u64 (f3 : Nat)] ?_ ?_ ?_ ?_ ?_ ?_ ?_ ?_ ?_ ?_ ?_); (· rfl); (· rfl); (· rfl); (· rfl); (· rfl); (· rfl); (· kernel_rfl); (· exact Nat.le_of_ble_eq_true rfl); (· rfl); (· rfl); replace q := objP_row q (noOctT kL) HNL.out (txc ⟨n1, n2, kd, n3, u0, u1, u2, u3, iv, vr, f0, f1, f2, f3, emptyB⟩).toArray; replace kR := kR.rowO (txc ⟨n1, n2, kd, n3, u0, u1, u2, u3, iv, vr, f0, f1, f2, f3, emptyB⟩).toArray (g := w.heap.size + 1) (by omega); replace kL := kL.row (txc ⟨n1, n2, kd, n3, u0, u1, u2, u3, iv, vr, f0, f1, f2, f3, emptyB⟩); replace hG := grown_row hG (Nat.le_succ _) (txc ⟨n1, n2, kd, n3, u0, u1, u2, u3, iv, vr, f0, f1, f2, f3, emptyB⟩).toArray; have hO1 := q; clear q hO)
            | (go_at_call 65; refine (HTX.out _ hO1).mono ?_; rintro e W6 ⟨rfl, q, g⟩; replace hG := World.grownBy.trans hG g; replace kR := kR.kept g HNR.out; replace kL := kL.kept g HNL.out; clear g)
            | ((refine wpList_store_part 9 (.tmp 54) (.tmp 53) (txc ⟨n1, n2, kd, n3, u0, u1, u2, u3, iv, vr, f0, f1, f2, f3, str g⟩) kL 24 (.string ⟨g.toArray⟩) [.string ⟨g.toArray⟩] ?_ ?_ ?_ ?_ ?_ ?_ ?_ ?_ ?_ ?_ ?_); (· rfl); (· rfl); (· rfl); (· rfl); (· rfl); (· rfl); (· kernel_rfl); (· exact Nat.le_of_ble_eq_true rfl); (· rfl); (· rfl); replace q := objP_row q (noOctT kL) HNL.out (txc ⟨n1, n2, kd, n3, u0, u1, u2, u3, iv, vr, f0, f1, f2, f3, str g⟩).toArray; replace kR := kR.rowO (txc ⟨n1, n2, kd, n3, u0, u1, u2, u3, iv, vr, f0, f1, f2, f3, str g⟩).toArray (g := w.heap.size + 1) (by omega); replace kL := kL.row (txc ⟨n1, n2, kd, n3, u0, u1, u2, u3, iv, vr, f0, f1, f2, f3, str g⟩); replace hG := grown_row hG (Nat.le_succ _) (txc ⟨n1, n2, kd, n3, u0, u1, u2, u3, iv, vr, f0, f1, f2, f3, str g⟩).toArray; )
            | (refine wpList_loadIf 30 (.tmp 3) rfl _ rfl rfl (txv ⟨n1, n2, kd, n3, u0, u1, u2, u3, iv, vr, f0, f1, f2, f3, str g⟩) (load_tx kL) ?_)
            | ((refine wpList_store_part 30 (.tmp 2) (.tmp 55) (txc ⟨n1, n2, kd, n3, u0, u1, u2, u3, iv, vr, f0, f1, f2, f3, str g⟩) kR 0 (txv ⟨n1, n2, kd, n3, u0, u1, u2, u3, iv, vr, f0, f1, f2, f3, str g⟩) (txc ⟨n1, n2, kd, n3, u0, u1, u2, u3, iv, vr, f0, f1, f2, f3, str g⟩) ?_ ?_ ?_ ?_ ?_ ?_ ?_ ?_ ?_ ?_ ?_); (· rfl); (· rfl); (· rfl); (· rfl); (· rfl); (· rfl); (· kernel_rfl); (· exact Nat.le_of_ble_eq_true rfl); (· rfl); (· rfl); replace q := objP_row q (noOctT kR) HNR.out (txc ⟨n1, n2, kd, n3, u0, u1, u2, u3, iv, vr, f0, f1, f2, f3, str g⟩).toArray; replace kR := kR.row (txc ⟨n1, n2, kd, n3, u0, u1, u2, u3, iv, vr, f0, f1, f2, f3, str g⟩); replace hG := grown_row hG (Nat.le_refl _) (txc ⟨n1, n2, kd, n3, u0, u1, u2, u3, iv, vr, f0, f1, f2, f3, str g⟩).toArray))
          exact bodyPost_ret (v := txv ⟨n1, n2, kd, n3, u0, u1, u2, u3, iv, vr, f0, f1, f2, f3, str g⟩) (results_cell_row (P := Try.prog) (fn := Try.f43) (p := 2) (ty := 30) rfl _ _ w.heap.size 30 (txc ⟨n1, n2, kd, n3, u0, u1, u2, u3, iv, vr, f0, f1, f2, f3, str g⟩).toArray (0, 0) _ rfl kR Try.underlying30 rfl (by kernel_rfl)) rfl ⟨by rw [EK.out]; try rfl, q, hG⟩
        · have qs : sgnB kd = false := decide_eq_false hk
          have Q7 : d7 = ([], s6) := by rw [E7.out, finF, if_neg hk]
          have Q8 : d8 = ([], d7.2) := by rw [E8.out, finG, if_neg hk]
          have HQ := Lib.hid (And.intro Q7 Q8)
          clear hk Q7 Q8 E7 E8
          go_wp2_with (first
            | (go_at_call 48; refine (txsSigned_any _ _).mono ?_; rintro e W4 ⟨rfl, rfl⟩)
            | (refine wpList_loadIf 30 (.tmp 3) rfl _ rfl rfl (txv ⟨n1, n2, kd, n3, u0, u1, u2, u3, iv, vr, 0, 0, 0, 0, emptyB⟩) (load_tx kL) ?_)
            | ((refine wpList_store_part 30 (.tmp 2) (.tmp 55) (txc ⟨n1, n2, kd, n3, u0, u1, u2, u3, iv, vr, 0, 0, 0, 0, emptyB⟩) kR 0 (txv ⟨n1, n2, kd, n3, u0, u1, u2, u3, iv, vr, 0, 0, 0, 0, emptyB⟩) (txc ⟨n1, n2, kd, n3, u0, u1, u2, u3, iv, vr, 0, 0, 0, 0, emptyB⟩) ?_ ?_ ?_ ?_ ?_ ?_ ?_ ?_ ?_ ?_ ?_); (· rfl); (· rfl); (· rfl); (· rfl); (· rfl); (· rfl); (· kernel_rfl); (· exact Nat.le_of_ble_eq_true rfl); (· rfl); (· rfl); replace hO := objP_row hO (noOctT kR) HNR.out (txc ⟨n1, n2, kd, n3, u0, u1, u2, u3, iv, vr, 0, 0, 0, 0, emptyB⟩).toArray; replace kR := kR.row (txc ⟨n1, n2, kd, n3, u0, u1, u2, u3, iv, vr, 0, 0, 0, 0, emptyB⟩); replace hG := grown_row hG (Nat.le_refl _) (txc ⟨n1, n2, kd, n3, u0, u1, u2, u3, iv, vr, 0, 0, 0, 0, emptyB⟩).toArray))
          obtain ⟨rfl, rfl⟩ := HQ.out
          exact bodyPost_ret (v := txv ⟨n1, n2, kd, n3, u0, u1, u2, u3, iv, vr, 0, 0, 0, 0, emptyB⟩) (results_cell_row (P := Try.prog) (fn := Try.f43) (p := 2) (ty := 30) rfl _ _ w.heap.size 30 (txc ⟨n1, n2, kd, n3, u0, u1, u2, u3, iv, vr, 0, 0, 0, 0, emptyB⟩).toArray (0, 0) _ rfl kR Try.underlying30 rfl (by kernel_rfl)) rfl ⟨by rw [EK.out]; try rfl, hO, hG⟩
end Go.Proofs.Ytafcngnophlhgaa

namespace Go.Proofs.Ytafcngnophlhgaa
open Go.RowKit Go.Shelf

set_option maxRecDepth 100000 in
set_option maxHeartbeats 4000000 in
theorem txsGet_any {p : Option Addr} {s : St} (w : World) (h : ObjP 82 w p s) :
    Calls Try.prog 19 #[.pointer p] w (GotT 82 p (getT s) w) := by
  have HNR := Lib.hid (ptr_lt h (Nat.le_refl w.heap.size))
  have HF : Hid (∀ W, ObjP 82 W p s → Calls Try.prog 43 #[.pointer p] W (GotT 82 p (rawT s, (td8 s).2) W)) := Lib.hid fun W hO => txsFields_any W hO
  have HC := Lib.hid (txsCheck_any (rawT s))
  have HY := Lib.hid (getT_yes (s := s))
  have HB := Lib.hid (getT_bad (s := s))
  have HN := Lib.hid (getT_no (s := s))
  have hes : ((errS (td8 s).2 16).2 != 0) = true := by simpa using errS_ne (td8 s).2
  have hes2 : ((errS (td8 s).2 16).2 == 0) = false := by simpa using errS_ne (td8 s).2
  generalize rawT s = raw at *
  generalize (td8 s).2 = s8 at *
  generalize hgt : getT s = gt at *
  clear hgt
  have kR := Blk.new w 30 (txc noT)
  have hG := World.grownBy_alloc w (.cells (txc noT).toArray 30) (p.map (·.block))
  have hO := h.below (chain0 w (.cells (txc noT).toArray 30))
  clear h
  go_enter Try.func19, Try.ntmps19
  go_upto_region 2 with (first
    | (go_at_call 43; refine (HF.out _ hO).mono ?_; rintro e W1 ⟨rfl, q, g⟩; have hg1 := g.size; replace hG := World.grownBy.trans hG g; replace kR := kR.kept g HNR.out; have hb1 := chain0 W1 (.cells (txc noT).toArray 30); have kN := Blk.new W1 30 (txc noT); have HRN : Hid (w.heap.size ≠ W1.heap.size) := Lib.hid (by have := kR.lt; omega); replace kR := kR.below hb1 kR.lt; have hWN := hG.size; replace hG := World.grownBy.trans hG (grew hb1 _); have HNN := Lib.hid (ptr_lt q (Nat.le_refl W1.heap.size)); replace q := q.below hb1; clear g hg1 hb1 hO)
    | ((refine wpList_store_part 30 (.tmp 3) (.tmp 5) (txc raw) kN 0 (txv raw) (txc raw) ?_ ?_ ?_ ?_ ?_ ?_ ?_ ?_ ?_ ?_ ?_); (· rfl); (· rfl); (· rfl); (· rfl); (· rfl); (· rfl); (· kernel_rfl); (· exact Nat.le_of_ble_eq_true rfl); (· rfl); (· rfl); have hq := objP_row q (noOctT kN) HNN.out (txc raw).toArray; replace kR := kR.rowO (txc raw).toArray HRN.out; replace kN := kN.row (txc raw); replace hG := grown_row hG hWN (txc raw).toArray))
  clear q HF HNN HRN hWN
  by_cases hm : errT raw = 0
  · have HE := Lib.hid hm
    by_cases he : s8.2 = 0
    · have HX : Hid (gt = (raw, s8)) := Lib.hid (HY.out he hm)
      have hq1 : (s8.2 == 0) = true := by simpa using he
      have hq2 : (s8.2 != 0) = false := by simpa using he
      clear hm he hes hes2 HY HB HN
      go_wp2_with (first
        | (refine wpList_loadIf 30 (.tmp 3) rfl _ rfl rfl (txv raw) (load_tx kN) ?_)
        | (go_at_call 11; refine (HC.out _).mono ?_; rw [HE.out]; rintro e W3 ⟨rfl, hb⟩; replace kR := kR.below hb kR.lt; replace kN := kN.below hb kN.lt; replace hG := World.grownBy.trans hG (grew hb _); have hO := hq.below hb; clear hb hq)
        | (go_at_call 20; refine (inErr_any _ hO).mono ?_; rintro e V2 ⟨rfl, rfl⟩)
        | ((refine wpList_store_part 30 (.tmp 2) (.tmp 15) (txc raw) kR 0 (txv raw) (txc raw) ?_ ?_ ?_ ?_ ?_ ?_ ?_ ?_ ?_ ?_ ?_); (· rfl); (· rfl); (· rfl); (· rfl); (· rfl); (· rfl); (· kernel_rfl); (· exact Nat.le_of_ble_eq_true rfl); (· rfl); (· rfl); have hO7 := objP_row hO (noOctT kR) HNR.out (txc raw).toArray; replace kR := kR.row (txc raw); replace hG := grown_row hG (Nat.le_refl _) (txc raw).toArray))
      exact bodyPost_ret (v := txv raw) (results_cell_row (P := Try.prog) (fn := Try.f19) (p := 2) (ty := 30) rfl _ _ w.heap.size 30 (txc raw).toArray (0, 0) _ rfl kR Try.underlying30 rfl (by kernel_rfl)) rfl ⟨by rw [HX.out]; try rfl, by rw [HX.out]; exact hO7, hG⟩
    · have HX : Hid (gt = (noT, s8)) := Lib.hid (HB.out he)
      have hq1 : (s8.2 == 0) = false := by simpa using he
      have hq2 : (s8.2 != 0) = true := by simpa using he
      clear hm he hes hes2 HY HB HN
      go_wp2_with (first
        | (refine wpList_loadIf 30 (.tmp 3) rfl _ rfl rfl (txv raw) (load_tx kN) ?_)
        | (go_at_call 11; refine (HC.out _).mono ?_; rw [HE.out]; rintro e W3 ⟨rfl, hb⟩; replace kR := kR.below hb kR.lt; replace kN := kN.below hb kN.lt; replace hG := World.grownBy.trans hG (grew hb _); have hO := hq.below hb; clear hb hq)
        | (go_at_call 20; refine (inErr_any _ hO).mono ?_; rintro e V2 ⟨rfl, rfl⟩)
        | ((refine wpList_store_part 30 (.tmp 2) (.tmp 14) (txc noT) kR 0 (txv noT) (txc noT) ?_ ?_ ?_ ?_ ?_ ?_ ?_ ?_ ?_ ?_ ?_); (· rfl); (· rfl); (· rfl); (· rfl); (· rfl); (· rfl); (· kernel_rfl); (· exact Nat.le_of_ble_eq_true rfl); (· rfl); (· rfl); have hO7 := objP_row hO (noOctT kR) HNR.out (txc noT).toArray; replace kR := kR.row (txc noT); replace hG := grown_row hG (Nat.le_refl _) (txc noT).toArray))
      exact bodyPost_ret (v := txv noT) (results_cell_row (P := Try.prog) (fn := Try.f19) (p := 2) (ty := 30) rfl _ _ w.heap.size 30 (txc noT).toArray (0, 0) _ rfl kR Try.underlying30 rfl (by kernel_rfl)) rfl ⟨by rw [HX.out]; try rfl, by rw [HX.out]; exact hO7, hG⟩
  · have HX : Hid (gt = (noT, errS s8 16)) := Lib.hid (HN.out hm)
    have q1 : (errT raw == 0) = false := by simpa using hm
    have q2 : (errT raw != 0) = true := by simpa using hm
    clear hm HY HB HN
    go_wp2_with (first
      | (refine wpList_loadIf 30 (.tmp 3) rfl _ rfl rfl (txv raw) (load_tx kN) ?_)
      | (go_at_call 11; refine (HC.out _).mono ?_; rintro e W3 ⟨rfl, hb⟩; replace kR := kR.below hb kR.lt; replace kN := kN.below hb kN.lt; replace hG := World.grownBy.trans hG (grew hb _); have hO := hq.below hb; clear hb hq)
      | (go_at_call 36; refine (inSpoil_any _ hO).mono ?_; rintro e V1 ⟨rfl, hO9, g⟩; replace kR := kR.kept g HNR.out; replace hG := World.grownBy.trans hG g)
      | (go_at_call 20; refine (inErr_any _ hO9).mono ?_; rintro e V2 ⟨rfl, rfl⟩)
      | ((refine wpList_store_part 30 (.tmp 2) (.tmp 14) (txc noT) kR 0 (txv noT) (txc noT) ?_ ?_ ?_ ?_ ?_ ?_ ?_ ?_ ?_ ?_ ?_); (· rfl); (· rfl); (· rfl); (· rfl); (· rfl); (· rfl); (· kernel_rfl); (· exact Nat.le_of_ble_eq_true rfl); (· rfl); (· rfl); have hO7 := objP_row hO9 (noOctT kR) HNR.out (txc noT).toArray; replace kR := kR.row (txc noT); replace hG := grown_row hG (Nat.le_refl _) (txc noT).toArray))
    exact bodyPost_ret (v := txv noT) (results_cell_row (P := Try.prog) (fn := Try.f19) (p := 2) (ty := 30) rfl _ _ w.heap.size 30 (txc noT).toArray (0, 0) _ rfl kR Try.underlying30 rfl (by kernel_rfl)) rfl ⟨by rw [HX.out]; try rfl, by rw [HX.out]; exact hO7, hG⟩
end Go.Proofs.Ytafcngnophlhgaa

namespace Go.Proofs.Ytafcngnophlhgaa
open Go.RowKit Go.Shelf

/-- What is made, and known: a new Out. -/
def NewO (w : World) (e : Ending) (W' : World) : Prop := ∃ NB, e = .returned (.pointer (some ⟨NB, 0, none⟩)) ∧ w.heap.size ≤ NB ∧ ObjP 85 W' (some ⟨NB, 0, none⟩) ([], 0) ∧ Below w.heap.size w W'
theorem outNewO_any (w : World) : Calls Try.prog 23 #[] w (NewO w) :=
  (outNew_any w).mono fun _ _ ⟨h1, _, h3, h4⟩ => ⟨_, h1, Nat.le_refl _, h3, h4⟩
theorem below_did {T : TypeId} {NB : Nat} {s : St} {w W : World} {e : Ending} {W' : World} (hB : Below w.heap.size w W) (hN : w.heap.size ≤ NB) (h : DidS T (some ⟨NB, 0, none⟩) s W e W') : Below w.heap.size w W' :=
  hB.grown h.2.2 hB.size (fun k e => by cases e; exact hN)

/-- Octets that are handed back. -/
def OctsL (l : List UInt8) (w : World) (e : Ending) (W' : World) : Prop := ∃ sv, e = .returned sv ∧ BSl 0 W'.heap.size W' sv l ∧ Below w.heap.size w W'
end Go.Proofs.Ytafcngnophlhgaa

namespace Go.Proofs.Ytafcngnophlhgaa
open Go.RowKit Go.Shelf

theorem ObjP.noOct {T : TypeId} {W : World} {B : Nat} {s : St} (h : ObjP T W (some ⟨B, 0, none⟩) s) : NoOct W B := by
  rcases h with ⟨h, _⟩ | ⟨B', m, a, n, c, x, e, hb, _⟩
  · cases h
  · cases e; exact noOct3 hb
theorem ObjP.lt {T : TypeId} {W : World} {B : Nat} {s : St} (h : ObjP T W (some ⟨B, 0, none⟩) s) : B < W.heap.size := by
  rcases h with ⟨h, _⟩ | ⟨B', m, a, n, c, x, e, hb, _⟩
  · cases h
  · cases e; exact hb.lt
/-- A field of an object, and a struct of the reference's beside it: behind two stores into the struct. -/
theorem objP_stored {T Tr : TypeId} {W : World} {NB XB : Nat} {s : St} {a : Option Addr} {m c : Nat} {x : Int} {sv : Value} {y : Int} (h : ObjP T W (some ⟨NB, 0, none⟩) s) (kW : Blk W XB Tr [.slice a m c, .int .i64 x]) (hne : XB ≠ NB) (hs : ∃ a m c, sv = .slice a m c) :
    ObjP T ((W.setCell ⟨XB, 0, none⟩ sv).setCell ⟨XB, 1, none⟩ (.int .i64 y)) (some ⟨NB, 0, none⟩) s := by
  obtain ⟨a2, m2, c2, rfl⟩ := hs
  have hn : (Option.map (fun x : Addr => x.block) (some ⟨NB, 0, none⟩)) ≠ some XB := fun e => hne (by simpa using e.symm)
  exact (h.to (grownBy_setCell4 W XB 0 (.slice a2 m2 c2)) (fun r e => by cases e; exact ⟨noOct2 kW, hn⟩)).to (grownBy_setCell4 _ XB 1 (.int .i64 y)) (fun r e => by cases e; exact ⟨noOct2 (kW.set 0 (.slice a2 m2 c2)), hn⟩)
theorem objP_words {T Tw : TypeId} {W : World} {NB AB : Nat} {s : St} {b0 b1 b2 b3 : Int} {y0 y1 y2 y3 : Int} (h : ObjP T W (some ⟨NB, 0, none⟩) s) (k0 : Blk W AB Tw [.int .u64 b0, .int .u64 b1, .int .u64 b2, .int .u64 b3]) (hne : AB ≠ NB) :
    ObjP T ((((W.setCell ⟨AB, 0, none⟩ (.int .u64 y0)).setCell ⟨AB, 1, none⟩ (.int .u64 y1)).setCell ⟨AB, 2, none⟩ (.int .u64 y2)).setCell ⟨AB, 3, none⟩ (.int .u64 y3)) (some ⟨NB, 0, none⟩) s := by
  have hn : (Option.map (fun x : Addr => x.block) (some ⟨NB, 0, none⟩)) ≠ some AB := fun e => hne (by simpa using e.symm)
  have k1 := k0.set 0 (.int .u64 y0)
  have k2 := k1.set 1 (.int .u64 y1)
  have k3 := k2.set 2 (.int .u64 y2)
  exact (((h.to (grownBy_setCell4 W AB 0 (.int .u64 y0)) (fun r e => by cases e; exact ⟨noOct4 k0, hn⟩)).to (grownBy_setCell4 _ AB 1 (.int .u64 y1)) (fun r e => by cases e; exact ⟨noOct4 k1, hn⟩)).to (grownBy_setCell4 _ AB 2 (.int .u64 y2)) (fun r e => by cases e; exact ⟨noOct4 k2, hn⟩)).to (grownBy_setCell4 _ AB 3 (.int .u64 y3)) (fun r e => by cases e; exact ⟨noOct4 k3, hn⟩)
end Go.Proofs.Ytafcngnophlhgaa

namespace Go.Proofs.Ytafcngnophlhgaa
open Go.RowKit Go.Shelf

/-- Its octets, or why there are none. -/
def octT (t : Tr) : St := if errT t = 0 then putT ([], 0) t else ([], errT t)
theorem octT_yes {t : Tr} (h : errT t = 0) : octT t = putT ([], 0) t := if_pos h
theorem octT_no {t : Tr} (h : errT t ≠ 0) : octT t = ([], errT t) := if_neg h
set_option maxRecDepth 100000 in
set_option maxHeartbeats 2000000 in
theorem txsOctets_any (t : Tr) (ha : OkT t) (w : World) :
    Calls Try.prog 7 #[txv t] w (ToldS (octT t) w) := by
  have HC := Lib.hid (txsCheck_any t)
  have HP : Hid (∀ p s W, ObjP 85 W p s → Calls Try.prog 24 #[.pointer p, txv t] W (DidS 85 p (putT s t) W)) := Lib.hid fun p s W h => txsPut_any t ha W h
  have kB := Blk.new w 30 (txc t)
  have hB := chain0 w (.cells (txc t).toArray 30)
  clear ha
  by_cases h : errT t = 0
  · have HX := Lib.hid (octT_yes h)
    have HE := Lib.hid h
    clear h
    go_enter Try.func7, Try.ntmps7
    go_wp2_with (first
      | (refine wpList_loadIf 30 (.tmp 1) rfl _ rfl rfl (txv t) (load_tx kB) ?_)
      | (go_at_call 11; refine (HC.out _).mono ?_; rw [HE.out]; rintro e w1 ⟨rfl, hb⟩; replace kB := kB.below hb kB.lt; replace hB := chain hB hb; clear hb)
      | (go_at_call 23; refine (outNewO_any _).mono ?_; rintro e w2 ⟨NB, rfl, hN, hO, hb⟩; have hNw := Nat.le_trans hB.size hN; have hBN : some w.heap.size ≠ some NB := (fun e => by cases e; have := kB.lt; omega); replace kB := kB.below hb kB.lt; replace hB := chain hB hb; clear hb hN)
      | (go_at_call 24; refine (HP.out _ _ _ hO).mono ?_; rintro e w3 hd; replace hB := below_did hB hNw hd; obtain ⟨rfl, hO2, -⟩ := hd; clear hO)
      | (go_at_call 25; refine (outDone_any _ hO2).mono ?_; rintro e w4 ⟨sv, rfl, hsv, hb⟩; replace hB := chain hB hb; obtain ⟨va, vm, vc, rfl⟩ := hsv.shape3))
    go_ret2
    exact ⟨.slice va vm vc, by rw [HX.out]; rfl, by rw [HX.out]; exact hsv, hB⟩
  · have HX := Lib.hid (octT_no h)
    have q1 : (errT t != 0) = true := by simpa using h
    have q2 : (errT t == 0) = false := by simpa using h
    clear h HP
    go_enter Try.func7, Try.ntmps7
    go_wp2_with (first
      | (refine wpList_loadIf 30 (.tmp 1) rfl _ rfl rfl (txv t) (load_tx kB) ?_)
      | (go_at_call 11; refine (HC.out _).mono ?_; rintro e w1 ⟨rfl, hb⟩; replace kB := kB.below hb kB.lt; replace hB := chain hB hb; clear hb))
    go_ret2
    exact ⟨.slice none 0 0, by rw [HX.out]; rfl, by rw [HX.out]; exact ⟨none, 0, rfl, Nat.le_refl 0, .inl rfl⟩, hB⟩

/-- What Read hands back. -/
def retT (t : Tr) (c : Int) : Value := .tuple #[txv t, .int .i64 c]
def RdT (r : Tr × Int) (w : World) (e : Ending) (W' : World) : Prop := e = .returned (retT r.1 r.2) ∧ Below w.heap.size w W'
theorem readT_ok {s : St} {t : Tr} {g : St} (h : getT s = (t, g)) (h1 : g.2 = 0) (h2 : g.1 = []) : readT s = (t, 0) := by unfold readT; rw [if_pos ⟨by rw [h]; exact h1, by rw [h]; exact h2⟩, h]
theorem readT_left {s : St} {t : Tr} {g : St} (h : getT s = (t, g)) (h2 : g.1 ≠ []) : readT s = (noT, (errS g 16).2) := by unfold readT; rw [if_neg (fun e => h2 (by rw [h] at e; exact e.2)), h]
theorem readT_bad {s : St} {t : Tr} {g : St} (h : getT s = (t, g)) (h1 : g.2 ≠ 0) : readT s = (noT, g.2) := by unfold readT; rw [if_neg (fun e => h1 (by rw [h] at e; exact e.1)), h, errS_bad h1]
theorem load_txv {W : World} {B : Nat} {t : Tr} (h : Blk W B 30 (txc t)) : (loadVar 30 ⟨B, 0, none⟩).run Try.prog W = .ok (txv t) W := by
  simpa only [Instr.loadAt, Instr.sureAddr, Sem.run_bind, Sem.run_pure, Result.andThen_ok] using load_tx h
set_option maxRecDepth 100000 in
set_option maxHeartbeats 4000000 in
theorem txsRead_any (l : List UInt8) (sv : Value) (w : World) (hl : l.length ≤ 140737488351232) (hsv : BSl 0 w.heap.size w sv l) :
    Calls Try.prog 14 #[sv] w (RdT (readT (openS l)) w) := by
  obtain ⟨a, m, c, rfl⟩ := hsv.shape3
  have HGT : Hid (∀ p W, ObjP 82 W p (openS l) → Calls Try.prog 19 #[.pointer p] W (GotT 82 p (getT (openS l)) W)) := Lib.hid fun p W h => txsGet_any W h
  have HRO := Lib.hid (fun t g => readT_ok (s := openS l) (t := t) (g := g))
  have HRL := Lib.hid (fun t g => readT_left (s := openS l) (t := t) (g := g))
  have HRB := Lib.hid (fun t g => readT_bad (s := openS l) (t := t) (g := g))
  have HOP : Hid (∀ W, BSl 0 W.heap.size W (.slice a m c) l → Calls Try.prog 18 #[.slice a m c] W fun e W' => ∃ NB, e = .returned (.pointer (some ⟨NB, 0, none⟩)) ∧ W.heap.size ≤ NB ∧ ObjP 82 W' (some ⟨NB, 0, none⟩) (openS l) ∧ Below W.heap.size W W') := Lib.hid fun W h => inOpen_any l _ W hl h
  have hok := okS_getT (openS_ok l)
  generalize readT (openS l) = rd at *
  generalize hgt : getT (openS l) = gt at *
  obtain ⟨gx, gs⟩ := gt
  replace HRO := Lib.hid (HRO.out gx gs rfl)
  replace HRL := Lib.hid (HRL.out gx gs rfl)
  replace HRB := Lib.hid (HRB.out gx gs rfl)
  clear hgt hl
  have kR := Blk.new w 30 (txc noT)
  have hB := chain0 w (.cells (txc noT).toArray 30)
  have hs1 := (hsv.below hB (Nat.le_refl _)).mono (Nat.le_refl _) hB.size
  clear hsv
  go_enter Try.func14, Try.ntmps14
  go_upto_region 3 with (first
    | (go_at_call 18; refine (HOP.out _ hs1).mono ?_; rintro e w1 ⟨NB, rfl, hN, hO, hb⟩; have hNw := Nat.le_trans hB.size hN; have hRN : some w.heap.size ≠ some NB := (fun e => by cases e; have := kR.lt; omega); replace kR := kR.below hb kR.lt; replace hB := chain hB hb; clear hb hN hs1)
    | (go_at_call 19; refine (HGT.out _ _ hO).mono ?_; rintro e W1 ⟨rfl, q, g⟩; have hg1 := g.size; replace kR := kR.kept g hRN; replace hB := hB.grown g hB.size (fun k e => by cases e; exact hNw); have hb1 := chain0 W1 (.cells (txc noT).toArray 30); have kN := Blk.new W1 30 (txc noT); have HRK : Hid (w.heap.size ≠ W1.heap.size) := Lib.hid (by have := kR.lt; omega); have hNl := q.lt; have HNN : Hid (some W1.heap.size ≠ some NB) := Lib.hid (fun e => by cases e; omega); have hWN := hB.size; replace kR := kR.below hb1 kR.lt; replace hB := chain hB hb1; replace q := q.below hb1; clear g hg1 hb1 hO)
    | ((refine wpList_store_part 30 (.tmp 5) (.tmp 10) (txc gx) kN 0 (txv gx) (txc gx) ?_ ?_ ?_ ?_ ?_ ?_ ?_ ?_ ?_ ?_ ?_); (· rfl); (· rfl); (· rfl); (· rfl); (· rfl); (· rfl); (· kernel_rfl); (· exact Nat.le_of_ble_eq_true rfl); (· rfl); (· rfl); have hq := objP_row q (noOctT kN) HNN.out (txc gx).toArray; replace kR := kR.rowO (txc gx).toArray HRK.out; replace kN := kN.row (txc gx); replace hB := below_setRow hB hWN (txc gx).toArray))
  clear q HOP HGT HNN HRK hWN hNl
  by_cases he : gs.2 = 0
  · by_cases hn : gs.1 = []
    · have HX : Hid (rd = (gx, 0)) := Lib.hid (HRO.out he hn)
      have hq1 : (gs.2 == 0) = true := by simpa using he
      have hq2 : (gs.2 != 0) = false := by simpa using he
      have hz : gs.1.length = 0 := by rw [hn]; rfl
      clear he hn HRO HRL HRB hok
      go_wp2_with (first
        | (go_at_call 21; refine (inLeft_any _ hq).mono ?_; rintro e W2 ⟨rfl, rfl⟩)
        | (go_at_call 20; refine (inErr_any _ hq).mono ?_; rintro e V2 ⟨rfl, rfl⟩)
        | (refine wpList_loadIf 30 (.tmp 5) rfl _ rfl rfl (txv gx) (load_tx kN) ?_)
        | ((refine wpList_store_part 30 (.tmp 2) (.tmp 22) (txc gx) kR 0 (txv gx) (txc gx) ?_ ?_ ?_ ?_ ?_ ?_ ?_ ?_ ?_ ?_ ?_); (· rfl); (· rfl); (· rfl); (· rfl); (· rfl); (· rfl); (· kernel_rfl); (· exact Nat.le_of_ble_eq_true rfl); (· rfl); (· rfl); replace kR := kR.row (txc gx); replace hB := below_setRow hB (Nat.le_refl _) (txc gx).toArray))
      exact bodyPost_ret (v := retT gx 0) (by simp [results, Try.results14, asAddr, retT]; rw [load_txv kR]; rfl) rfl ⟨by rw [HX.out], hB⟩
    · have HX : Hid (rd = (noT, (errS gs 16).2)) := Lib.hid (HRL.out hn)
      have hz : 0 < gs.1.length := List.length_pos_iff.2 hn
      have hes : ((errS gs 16).2 != 0) = true := by simpa using errS_ne gs
      have hes2 : ((errS gs 16).2 == 0) = false := by simpa using errS_ne gs
      have hNl := hq.lt
      clear he hn HRO HRL HRB hok
      go_wp2_with (first
        | (go_at_call 21; refine (inLeft_any _ hq).mono ?_; rintro e W2 ⟨rfl, rfl⟩)
        | (go_at_call 36; refine (inSpoil_any _ hq).mono ?_; rintro e V1 ⟨rfl, hO9, g⟩; replace kR := kR.kept g hRN; replace hB := hB.grown g hB.size (fun k e => by cases e; exact hNw))
        | (go_at_call 20; refine (inErr_any _ hO9).mono ?_; rintro e V2 ⟨rfl, rfl⟩)
        | ((refine wpList_store_part 30 (.tmp 2) (.tmp 20) (txc noT) kR 0 (txv noT) (txc noT) ?_ ?_ ?_ ?_ ?_ ?_ ?_ ?_ ?_ ?_ ?_); (· rfl); (· rfl); (· rfl); (· rfl); (· rfl); (· rfl); (· kernel_rfl); (· exact Nat.le_of_ble_eq_true rfl); (· rfl); (· rfl); replace kR := kR.row (txc noT); replace hB := below_setRow hB (Nat.le_refl _) (txc noT).toArray))
      exact bodyPost_ret (v := retT noT (errS gs 16).2) (by simp [results, Try.results14, asAddr, retT]; rw [load_txv kR]; rfl) rfl ⟨by rw [HX.out], hB⟩
  · have HX : Hid (rd = (noT, gs.2)) := Lib.hid (HRB.out he)
    have hq1 : (gs.2 == 0) = false := by simpa using he
    have hq2 : (gs.2 != 0) = true := by simpa using he
    have hz : gs.1.length = 0 := by rw [hok.1 he]; rfl
    clear he HRO HRL HRB hok
    go_wp2_with (first
      | (go_at_call 21; refine (inLeft_any _ hq).mono ?_; rintro e W2 ⟨rfl, rfl⟩)
      | (go_at_call 20; refine (inErr_any _ hq).mono ?_; rintro e V2 ⟨rfl, rfl⟩)
      | ((refine wpList_store_part 30 (.tmp 2) (.tmp 20) (txc noT) kR 0 (txv noT) (txc noT) ?_ ?_ ?_ ?_ ?_ ?_ ?_ ?_ ?_ ?_ ?_); (· rfl); (· rfl); (· rfl); (· rfl); (· rfl); (· rfl); (· kernel_rfl); (· exact Nat.le_of_ble_eq_true rfl); (· rfl); (· rfl); replace kR := kR.row (txc noT); replace hB := below_setRow hB (Nat.le_refl _) (txc noT).toArray))
    exact bodyPost_ret (v := retT noT gs.2) (by simp [results, Try.results14, asAddr, retT]; rw [load_txv kR]; rfl) rfl ⟨by rw [HX.out], hB⟩
end Go.Proofs.Ytafcngnophlhgaa
