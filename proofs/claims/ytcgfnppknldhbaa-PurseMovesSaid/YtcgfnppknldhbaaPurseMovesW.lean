/-
  The walk of PurseMoves: moving is taking, then giving, or nothing; it leaves the total.
-/
import Derived.Test.YtcgfnppknldhbaaPurseAlive
import Derived.Test.YtcgfnppknldhbaaPurseMove
import Derived.Outline
namespace Go.Proofs.Ytcgfnppknldhbaa
open Go.RowKit Go.Shelf

set_option maxRecDepth 100000 in
set_option maxHeartbeats 8000000 in
theorem purseMoves_any (b : Bk) (hb : OkK b) (f t s : Int) (n : Nat) (hn : n < M4) (w : World) :
    Calls Try.prog 4 #[bkv b, .int .i64 f, .int .i64 t, .int .i64 s, wn n] w fun e W' => e = .returned (.bool true) ∧ Below w.heap.size w W' := by
  have kB := (Blk.new w 27 (bkc b)).alloc (.cells (ws (nw n)).toArray 24)
  have kA : Blk ((w.alloc (.cells (bkc b).toArray 27)).alloc (.cells (ws (nw n)).toArray 24)) (w.heap.size + 1) 24 (ws (nw n)) := Blk.new' (by simp)
  have hB := chainA (chain0 w (.cells (bkc b).toArray 27)) (.cells (ws (nw n)).toArray 24)
  have HA := Lib.hid purseAlive_any
  have HMV := Lib.hid (fun W => bookMove_any b hb f t s n hn W)
  have HT := Lib.hid (fun W => bookTake_any b hb f s n hn W)
  have HG := Lib.hid (fun W => bookGive_any _ (okK_take hb f s n) t s n hn W)
  have HT1 := Lib.hid (fun W => bookTotal_any b hb s W)
  have HT2 := Lib.hid (fun W => bookTotal_any _ (okK_move hb f t s n) s W)
  rw [move_tot b f t s n] at HT2
  have HM1 := Lib.hid (fun h => moveB_low (b := b) (f := f) (t := t) (s := s) (n := n) h)
  have HM2 := Lib.hid (fun h k => moveB_yes (b := b) (f := f) (t := t) (s := s) (n := n) h k)
  have HM3 := Lib.hid (fun h k => moveB_over (b := b) (f := f) (t := t) (s := s) (n := n) h k)
  clear hb hn
  generalize moveB b f t s n = mv at *
  generalize takeB b f s n = tk at *
  generalize giveB tk.1 t s n = gv at *
  generalize totB b s = tt at *
  obtain ⟨bt, et⟩ := tk
  obtain ⟨bg, eg⟩ := gv
  obtain ⟨mb, me⟩ := mv
  obtain ⟨tn, tb⟩ := tt
  dsimp only at *
  by_cases h1 : et = 0
  · subst h1
    by_cases h2 : eg = 0
    · subst h2
      obtain ⟨rfl, rfl⟩ : mb = bg ∧ me = 0 := by have := HM2.out rfl rfl; injection this with h3 h4; exact ⟨h3, h4⟩
      clear HM1 HM2 HM3
      go_enter Try.func4, Try.ntmps4
      go_wp2_with (first
        | (go_at_call 6; refine (HA.out _).mono ?_; rintro e w0 ⟨rfl, hb0⟩; replace kB := kB.below hb0 kB.lt; replace kA := kA.below hb0 kA.lt; replace hB := chain hB hb0; clear hb0)
        | ((with_reducible refine wpList_loadIf 27 (.tmp 5) ?_ (some 22) ?_ ?_ (bkv (b)) ?_ ?_); (· rfl); (· rfl); (· rfl); (· exact load_book kB))
        | ((with_reducible refine wpList_loadIf 24 (.tmp 9) ?_ (some 26) ?_ ?_ (wn (n)) ?_ ?_); (· rfl); (· rfl); (· rfl); (· exact load_wn kA))
        | (go_at_call 14; refine (HMV.out _).mono ?_; rintro e w1 ⟨rfl, hb1⟩; replace kB := kB.below hb1 kB.lt; replace kA := kA.below hb1 kA.lt; replace hB := chain hB hb1; clear hb1)
        | ((with_reducible refine wpList_storeN_book (.tmp 11) (.tmp 28) ?_ (mb) ?_ ?_ ?_ ?_ ?_ ?_); (· rfl); (· rfl); (· rfl); (· rfl); (· rfl); (· rfl); have kX := Blk.new w1 27 (bkc (mb)); have hgX := kA.lt; replace kB := kB.alloc (.cells (bkc (mb)).toArray 27); replace kA := kA.alloc (.cells (bkc (mb)).toArray 27); replace hB := chainA hB (.cells (bkc (mb)).toArray 27))
        | ((with_reducible refine wpList_loadIf 27 (.tmp 5) ?_ (some 31) ?_ ?_ (bkv (b)) ?_ ?_); (· rfl); (· rfl); (· rfl); (· exact load_book kB))
        | ((with_reducible refine wpList_loadIf 24 (.tmp 9) ?_ (some 34) ?_ ?_ (wn (n)) ?_ ?_); (· rfl); (· rfl); (· rfl); (· exact load_wn kA))
        | (go_at_call 8; refine (HT.out _).mono ?_; rintro e w2 ⟨rfl, hb2⟩; replace kB := kB.below hb2 kB.lt; replace kA := kA.below hb2 kA.lt; replace kX := kX.below hb2 kX.lt; replace hB := chain hB hb2; clear hb2)
        | ((with_reducible refine wpList_storeN_book (.tmp 13) (.tmp 36) ?_ (bt) ?_ ?_ ?_ ?_ ?_ ?_); (· rfl); (· rfl); (· rfl); (· rfl); (· rfl); (· rfl); have kT := Blk.new w2 27 (bkc (bt)); have hgT := kX.lt; replace kB := kB.alloc (.cells (bkc (bt)).toArray 27); replace kA := kA.alloc (.cells (bkc (bt)).toArray 27); replace kX := kX.alloc (.cells (bkc (bt)).toArray 27); replace hB := chainA hB (.cells (bkc (bt)).toArray 27))
        | ((with_reducible refine wpList_loadIf 27 (.tmp 13) ?_ (some 41) ?_ ?_ (bkv (bt)) ?_ ?_); (· rfl); (· rfl); (· rfl); (· exact load_book kT))
        | ((with_reducible refine wpList_loadIf 24 (.tmp 9) ?_ (some 44) ?_ ?_ (wn (n)) ?_ ?_); (· rfl); (· rfl); (· rfl); (· exact load_wn kA))
        | (go_at_call 7; refine (HG.out _).mono ?_; rintro e w3 ⟨rfl, hb3⟩; replace kB := kB.below hb3 kB.lt; replace kA := kA.below hb3 kA.lt; replace kX := kX.below hb3 kX.lt; replace kT := kT.below hb3 kT.lt; replace hB := chain hB hb3; clear hb3)
        | ((with_reducible refine wpList_store_book (.tmp 13) (.tmp 46) kT (bkc_len (bt)) (mb) ?_ ?_ ?_ ?_ ?_ ?_); (· rfl); (· rfl); (· rfl); (· rfl); (· rfl); replace kB := kB.rowO (bkc (mb)).toArray (show w.heap.size ≠ w2.heap.size by omega); replace kA := kA.rowO (bkc (mb)).toArray (show w.heap.size + 1 ≠ w2.heap.size by omega); replace kX := kX.rowO (bkc (mb)).toArray (show w1.heap.size ≠ w2.heap.size by omega); replace hB := hB.grown (grownBy_row _ w2.heap.size (bkc (mb)).toArray) hB.size (fun e he => by cases he; omega); replace kT := kT.row (bkc (mb)))
        | ((with_reducible refine wpList_loadIf 27 (.tmp 5) ?_ (some 52) ?_ ?_ (bkv (b)) ?_ ?_); (· rfl); (· rfl); (· rfl); (· exact load_book kB))
        | (go_at_call 15; have _t := tok1; refine (HT2.out _).mono ?_; rintro e w5 ⟨rfl, hb5⟩; replace kX := kX.below hb5 kX.lt; replace kT := kT.below hb5 kT.lt; replace kN1 := kN1.below hb5 kN1.lt; replace hB := chain hB hb5; clear hb5; have kN2 := Blk.new w5 24 (ws (nw tn)); replace kX := kX.alloc (.cells (ws (nw tn)).toArray 24); replace kT := kT.alloc (.cells (ws (nw tn)).toArray 24); replace kN1 := kN1.alloc (.cells (ws (nw tn)).toArray 24); replace hB := chainA hB (.cells (ws (nw tn)).toArray 24))
        | ((with_reducible refine wpList_loadIf 27 (.tmp 11) ?_ (some 58) ?_ ?_ (bkv (mb)) ?_ ?_); (· rfl); (· rfl); (· rfl); (· exact load_book kX))
        | (go_at_call 15; refine (HT1.out _).mono ?_; rintro e w4 ⟨rfl, hb4⟩; replace kB := kB.below hb4 kB.lt; replace kA := kA.below hb4 kA.lt; replace kX := kX.below hb4 kX.lt; replace kT := kT.below hb4 kT.lt; replace hB := chain hB hb4; clear hb4; have kN1 := Blk.new w4 24 (ws (nw tn)); replace kX := kX.alloc (.cells (ws (nw tn)).toArray 24); replace kT := kT.alloc (.cells (ws (nw tn)).toArray 24); replace hB := chainA hB (.cells (ws (nw tn)).toArray 24); have tok1 : True := trivial)
        | ((with_reducible refine wpList_loadIf 27 (.tmp 11) ?_ (some 63) ?_ ?_ (bkv (mb)) ?_ ?_); (· rfl); (· rfl); (· rfl); (· exact load_book kX))
        | ((with_reducible refine wpList_loadIf 27 (.tmp 13) ?_ (some 64) ?_ ?_ (bkv (mb)) ?_ ?_); (· rfl); (· rfl); (· rfl); (· exact load_book kT))
        | ((with_reducible refine wpList_valIf (some 65) ?_ ?_ (.bool true) ?_ ?_); (· rfl); (· rfl); (· exact exec_eqKs (.tmp 63) (.tmp 64) _ rfl (mb) rfl rfl _))
        | ((with_reducible refine wpList_loadIf 24 (.tmp 15) ?_ (some 72) ?_ ?_ (wn (tn)) ?_ ?_); (· rfl); (· rfl); (· rfl); (· exact load_wn kN1))
        | ((with_reducible refine wpList_loadIf 24 (.tmp 17) ?_ (some 73) ?_ ?_ (wn (tn)) ?_ ?_); (· rfl); (· rfl); (· rfl); (· exact load_wn kN2))
        | ((with_reducible refine wpList_valIf (some 74) ?_ ?_ (.bool true) ?_ ?_); (· rfl); (· rfl); (· exact exec_eqN (.tmp 72) (.tmp 73) _ rfl (tn) rfl rfl _)))
      go_ret
      exact ⟨rfl, hB⟩
    · obtain ⟨rfl, rfl⟩ : mb = b ∧ me = eg := by have := HM3.out rfl h2; injection this with h3 h4; exact ⟨h3, h4⟩
      have q2 : (me != 0) = true := by simpa using h2
      clear HM1 HM2 HM3 h2
      go_enter Try.func4, Try.ntmps4
      go_wp2_with (first
        | (go_at_call 6; refine (HA.out _).mono ?_; rintro e w0 ⟨rfl, hb0⟩; replace kB := kB.below hb0 kB.lt; replace kA := kA.below hb0 kA.lt; replace hB := chain hB hb0; clear hb0)
        | ((with_reducible refine wpList_loadIf 27 (.tmp 5) ?_ (some 22) ?_ ?_ (bkv (mb)) ?_ ?_); (· rfl); (· rfl); (· rfl); (· exact load_book kB))
        | ((with_reducible refine wpList_loadIf 24 (.tmp 9) ?_ (some 26) ?_ ?_ (wn (n)) ?_ ?_); (· rfl); (· rfl); (· rfl); (· exact load_wn kA))
        | (go_at_call 14; refine (HMV.out _).mono ?_; rintro e w1 ⟨rfl, hb1⟩; replace kB := kB.below hb1 kB.lt; replace kA := kA.below hb1 kA.lt; replace hB := chain hB hb1; clear hb1)
        | ((with_reducible refine wpList_storeN_book (.tmp 11) (.tmp 28) ?_ (mb) ?_ ?_ ?_ ?_ ?_ ?_); (· rfl); (· rfl); (· rfl); (· rfl); (· rfl); (· rfl); have kX := Blk.new w1 27 (bkc (mb)); have hgX := kA.lt; replace kB := kB.alloc (.cells (bkc (mb)).toArray 27); replace kA := kA.alloc (.cells (bkc (mb)).toArray 27); replace hB := chainA hB (.cells (bkc (mb)).toArray 27))
        | ((with_reducible refine wpList_loadIf 27 (.tmp 5) ?_ (some 31) ?_ ?_ (bkv (mb)) ?_ ?_); (· rfl); (· rfl); (· rfl); (· exact load_book kB))
        | ((with_reducible refine wpList_loadIf 24 (.tmp 9) ?_ (some 34) ?_ ?_ (wn (n)) ?_ ?_); (· rfl); (· rfl); (· rfl); (· exact load_wn kA))
        | (go_at_call 8; refine (HT.out _).mono ?_; rintro e w2 ⟨rfl, hb2⟩; replace kB := kB.below hb2 kB.lt; replace kA := kA.below hb2 kA.lt; replace kX := kX.below hb2 kX.lt; replace hB := chain hB hb2; clear hb2)
        | ((with_reducible refine wpList_storeN_book (.tmp 13) (.tmp 36) ?_ (bt) ?_ ?_ ?_ ?_ ?_ ?_); (· rfl); (· rfl); (· rfl); (· rfl); (· rfl); (· rfl); have kT := Blk.new w2 27 (bkc (bt)); have hgT := kX.lt; replace kB := kB.alloc (.cells (bkc (bt)).toArray 27); replace kA := kA.alloc (.cells (bkc (bt)).toArray 27); replace kX := kX.alloc (.cells (bkc (bt)).toArray 27); replace hB := chainA hB (.cells (bkc (bt)).toArray 27))
        | ((with_reducible refine wpList_loadIf 27 (.tmp 13) ?_ (some 41) ?_ ?_ (bkv (bt)) ?_ ?_); (· rfl); (· rfl); (· rfl); (· exact load_book kT))
        | ((with_reducible refine wpList_loadIf 24 (.tmp 9) ?_ (some 44) ?_ ?_ (wn (n)) ?_ ?_); (· rfl); (· rfl); (· rfl); (· exact load_wn kA))
        | (go_at_call 7; refine (HG.out _).mono ?_; rintro e w3 ⟨rfl, hb3⟩; replace kB := kB.below hb3 kB.lt; replace kA := kA.below hb3 kA.lt; replace kX := kX.below hb3 kX.lt; replace kT := kT.below hb3 kT.lt; replace hB := chain hB hb3; clear hb3)
        | ((with_reducible refine wpList_store_book (.tmp 13) (.tmp 46) kT (bkc_len (bt)) (bg) ?_ ?_ ?_ ?_ ?_ ?_); (· rfl); (· rfl); (· rfl); (· rfl); (· rfl); replace kB := kB.rowO (bkc (bg)).toArray (show w.heap.size ≠ w2.heap.size by omega); replace kA := kA.rowO (bkc (bg)).toArray (show w.heap.size + 1 ≠ w2.heap.size by omega); replace kX := kX.rowO (bkc (bg)).toArray (show w1.heap.size ≠ w2.heap.size by omega); replace hB := hB.grown (grownBy_row _ w2.heap.size (bkc (bg)).toArray) hB.size (fun e he => by cases he; omega); replace kT := kT.row (bkc (bg)))
        | ((with_reducible refine wpList_loadIf 27 (.tmp 5) ?_ (some 50) ?_ ?_ (bkv (mb)) ?_ ?_); (· rfl); (· rfl); (· rfl); (· exact load_book kB))
        | ((with_reducible refine wpList_store_book (.tmp 13) (.tmp 50) kT (bkc_len (bg)) (mb) ?_ ?_ ?_ ?_ ?_ ?_); (· rfl); (· rfl); (· rfl); (· rfl); (· rfl); replace kB := kB.rowO (bkc (mb)).toArray (show w.heap.size ≠ w2.heap.size by omega); replace kA := kA.rowO (bkc (mb)).toArray (show w.heap.size + 1 ≠ w2.heap.size by omega); replace kX := kX.rowO (bkc (mb)).toArray (show w1.heap.size ≠ w2.heap.size by omega); replace hB := hB.grown (grownBy_row _ w2.heap.size (bkc (mb)).toArray) hB.size (fun e he => by cases he; omega); replace kT := kT.row (bkc (mb)))
        | ((with_reducible refine wpList_loadIf 27 (.tmp 5) ?_ (some 52) ?_ ?_ (bkv (mb)) ?_ ?_); (· rfl); (· rfl); (· rfl); (· exact load_book kB))
        | (go_at_call 15; have _t := tok1; refine (HT2.out _).mono ?_; rintro e w5 ⟨rfl, hb5⟩; replace kX := kX.below hb5 kX.lt; replace kT := kT.below hb5 kT.lt; replace kN1 := kN1.below hb5 kN1.lt; replace hB := chain hB hb5; clear hb5; have kN2 := Blk.new w5 24 (ws (nw tn)); replace kX := kX.alloc (.cells (ws (nw tn)).toArray 24); replace kT := kT.alloc (.cells (ws (nw tn)).toArray 24); replace kN1 := kN1.alloc (.cells (ws (nw tn)).toArray 24); replace hB := chainA hB (.cells (ws (nw tn)).toArray 24))
        | ((with_reducible refine wpList_loadIf 27 (.tmp 11) ?_ (some 58) ?_ ?_ (bkv (mb)) ?_ ?_); (· rfl); (· rfl); (· rfl); (· exact load_book kX))
        | (go_at_call 15; refine (HT1.out _).mono ?_; rintro e w4 ⟨rfl, hb4⟩; replace kB := kB.below hb4 kB.lt; replace kA := kA.below hb4 kA.lt; replace kX := kX.below hb4 kX.lt; replace kT := kT.below hb4 kT.lt; replace hB := chain hB hb4; clear hb4; have kN1 := Blk.new w4 24 (ws (nw tn)); replace kX := kX.alloc (.cells (ws (nw tn)).toArray 24); replace kT := kT.alloc (.cells (ws (nw tn)).toArray 24); replace hB := chainA hB (.cells (ws (nw tn)).toArray 24); have tok1 : True := trivial)
        | ((with_reducible refine wpList_loadIf 27 (.tmp 11) ?_ (some 63) ?_ ?_ (bkv (mb)) ?_ ?_); (· rfl); (· rfl); (· rfl); (· exact load_book kX))
        | ((with_reducible refine wpList_loadIf 27 (.tmp 13) ?_ (some 64) ?_ ?_ (bkv (mb)) ?_ ?_); (· rfl); (· rfl); (· rfl); (· exact load_book kT))
        | ((with_reducible refine wpList_valIf (some 65) ?_ ?_ (.bool true) ?_ ?_); (· rfl); (· rfl); (· exact exec_eqKs (.tmp 63) (.tmp 64) _ rfl (mb) rfl rfl _))
        | ((with_reducible refine wpList_loadIf 24 (.tmp 15) ?_ (some 72) ?_ ?_ (wn (tn)) ?_ ?_); (· rfl); (· rfl); (· rfl); (· exact load_wn kN1))
        | ((with_reducible refine wpList_loadIf 24 (.tmp 17) ?_ (some 73) ?_ ?_ (wn (tn)) ?_ ?_); (· rfl); (· rfl); (· rfl); (· exact load_wn kN2))
        | ((with_reducible refine wpList_valIf (some 74) ?_ ?_ (.bool true) ?_ ?_); (· rfl); (· rfl); (· exact exec_eqN (.tmp 72) (.tmp 73) _ rfl (tn) rfl rfl _)))
      go_ret
      exact ⟨rfl, hB⟩
  · obtain ⟨rfl, rfl⟩ : mb = b ∧ me = et := by have := HM1.out h1; injection this with h3 h4; exact ⟨h3, h4⟩
    have q1 : (me != 0) = true := by simpa using h1
    have q2 : (me == 0) = false := by simpa using h1
    clear HM1 HM2 HM3 HG h1
    go_enter Try.func4, Try.ntmps4
    go_wp2_with (first
      | (go_at_call 6; refine (HA.out _).mono ?_; rintro e w0 ⟨rfl, hb0⟩; replace kB := kB.below hb0 kB.lt; replace kA := kA.below hb0 kA.lt; replace hB := chain hB hb0; clear hb0)
      | ((with_reducible refine wpList_loadIf 27 (.tmp 5) ?_ (some 22) ?_ ?_ (bkv (mb)) ?_ ?_); (· rfl); (· rfl); (· rfl); (· exact load_book kB))
      | ((with_reducible refine wpList_loadIf 24 (.tmp 9) ?_ (some 26) ?_ ?_ (wn (n)) ?_ ?_); (· rfl); (· rfl); (· rfl); (· exact load_wn kA))
      | (go_at_call 14; refine (HMV.out _).mono ?_; rintro e w1 ⟨rfl, hb1⟩; replace kB := kB.below hb1 kB.lt; replace kA := kA.below hb1 kA.lt; replace hB := chain hB hb1; clear hb1)
      | ((with_reducible refine wpList_storeN_book (.tmp 11) (.tmp 28) ?_ (mb) ?_ ?_ ?_ ?_ ?_ ?_); (· rfl); (· rfl); (· rfl); (· rfl); (· rfl); (· rfl); have kX := Blk.new w1 27 (bkc (mb)); have hgX := kA.lt; replace kB := kB.alloc (.cells (bkc (mb)).toArray 27); replace kA := kA.alloc (.cells (bkc (mb)).toArray 27); replace hB := chainA hB (.cells (bkc (mb)).toArray 27))
      | ((with_reducible refine wpList_loadIf 27 (.tmp 5) ?_ (some 31) ?_ ?_ (bkv (mb)) ?_ ?_); (· rfl); (· rfl); (· rfl); (· exact load_book kB))
      | ((with_reducible refine wpList_loadIf 24 (.tmp 9) ?_ (some 34) ?_ ?_ (wn (n)) ?_ ?_); (· rfl); (· rfl); (· rfl); (· exact load_wn kA))
      | (go_at_call 8; refine (HT.out _).mono ?_; rintro e w2 ⟨rfl, hb2⟩; replace kB := kB.below hb2 kB.lt; replace kA := kA.below hb2 kA.lt; replace kX := kX.below hb2 kX.lt; replace hB := chain hB hb2; clear hb2)
      | ((with_reducible refine wpList_storeN_book (.tmp 13) (.tmp 36) ?_ (bt) ?_ ?_ ?_ ?_ ?_ ?_); (· rfl); (· rfl); (· rfl); (· rfl); (· rfl); (· rfl); have kT := Blk.new w2 27 (bkc (bt)); have hgT := kX.lt; replace kB := kB.alloc (.cells (bkc (bt)).toArray 27); replace kA := kA.alloc (.cells (bkc (bt)).toArray 27); replace kX := kX.alloc (.cells (bkc (bt)).toArray 27); replace hB := chainA hB (.cells (bkc (bt)).toArray 27))
      | ((with_reducible refine wpList_loadIf 27 (.tmp 5) ?_ (some 50) ?_ ?_ (bkv (mb)) ?_ ?_); (· rfl); (· rfl); (· rfl); (· exact load_book kB))
      | ((with_reducible refine wpList_store_book (.tmp 13) (.tmp 50) kT (bkc_len (bt)) (mb) ?_ ?_ ?_ ?_ ?_ ?_); (· rfl); (· rfl); (· rfl); (· rfl); (· rfl); replace kB := kB.rowO (bkc (mb)).toArray (show w.heap.size ≠ w2.heap.size by omega); replace kA := kA.rowO (bkc (mb)).toArray (show w.heap.size + 1 ≠ w2.heap.size by omega); replace kX := kX.rowO (bkc (mb)).toArray (show w1.heap.size ≠ w2.heap.size by omega); replace hB := hB.grown (grownBy_row _ w2.heap.size (bkc (mb)).toArray) hB.size (fun e he => by cases he; omega); replace kT := kT.row (bkc (mb)))
      | ((with_reducible refine wpList_loadIf 27 (.tmp 5) ?_ (some 52) ?_ ?_ (bkv (mb)) ?_ ?_); (· rfl); (· rfl); (· rfl); (· exact load_book kB))
      | (go_at_call 15; have _t := tok1; refine (HT2.out _).mono ?_; rintro e w5 ⟨rfl, hb5⟩; replace kX := kX.below hb5 kX.lt; replace kT := kT.below hb5 kT.lt; replace kN1 := kN1.below hb5 kN1.lt; replace hB := chain hB hb5; clear hb5; have kN2 := Blk.new w5 24 (ws (nw tn)); replace kX := kX.alloc (.cells (ws (nw tn)).toArray 24); replace kT := kT.alloc (.cells (ws (nw tn)).toArray 24); replace kN1 := kN1.alloc (.cells (ws (nw tn)).toArray 24); replace hB := chainA hB (.cells (ws (nw tn)).toArray 24))
      | ((with_reducible refine wpList_loadIf 27 (.tmp 11) ?_ (some 58) ?_ ?_ (bkv (mb)) ?_ ?_); (· rfl); (· rfl); (· rfl); (· exact load_book kX))
      | (go_at_call 15; refine (HT1.out _).mono ?_; rintro e w4 ⟨rfl, hb4⟩; replace kB := kB.below hb4 kB.lt; replace kA := kA.below hb4 kA.lt; replace kX := kX.below hb4 kX.lt; replace kT := kT.below hb4 kT.lt; replace hB := chain hB hb4; clear hb4; have kN1 := Blk.new w4 24 (ws (nw tn)); replace kX := kX.alloc (.cells (ws (nw tn)).toArray 24); replace kT := kT.alloc (.cells (ws (nw tn)).toArray 24); replace hB := chainA hB (.cells (ws (nw tn)).toArray 24); have tok1 : True := trivial)
      | ((with_reducible refine wpList_loadIf 27 (.tmp 11) ?_ (some 63) ?_ ?_ (bkv (mb)) ?_ ?_); (· rfl); (· rfl); (· rfl); (· exact load_book kX))
      | ((with_reducible refine wpList_loadIf 27 (.tmp 13) ?_ (some 64) ?_ ?_ (bkv (mb)) ?_ ?_); (· rfl); (· rfl); (· rfl); (· exact load_book kT))
      | ((with_reducible refine wpList_valIf (some 65) ?_ ?_ (.bool true) ?_ ?_); (· rfl); (· rfl); (· exact exec_eqKs (.tmp 63) (.tmp 64) _ rfl (mb) rfl rfl _))
      | ((with_reducible refine wpList_loadIf 24 (.tmp 15) ?_ (some 72) ?_ ?_ (wn (tn)) ?_ ?_); (· rfl); (· rfl); (· rfl); (· exact load_wn kN1))
      | ((with_reducible refine wpList_loadIf 24 (.tmp 17) ?_ (some 73) ?_ ?_ (wn (tn)) ?_ ?_); (· rfl); (· rfl); (· rfl); (· exact load_wn kN2))
      | ((with_reducible refine wpList_valIf (some 74) ?_ ?_ (.bool true) ?_ ?_); (· rfl); (· rfl); (· exact exec_eqN (.tmp 72) (.tmp 73) _ rfl (tn) rfl rfl _)))
    go_ret
    exact ⟨rfl, hB⟩
end Go.Proofs.Ytcgfnppknldhbaa
