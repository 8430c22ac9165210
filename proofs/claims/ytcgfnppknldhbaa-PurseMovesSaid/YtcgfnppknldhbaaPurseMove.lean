/-
  purse: what is moved.
-/
import Derived.Test.YtcgfnppknldhbaaPurseGive
import Derived.Test.YtcgfnppknldhbaaPurseTake
import Derived.Outline
namespace Go.Proofs.Ytcgfnppknldhbaa
open Go.RowKit Go.Shelf

set_option maxRecDepth 100000 in
set_option maxHeartbeats 4000000 in
theorem bookMove_any (b : Bk) (hb : OkK b) (f t s : Int) (n : Nat) (hn : n < M4) (w : World) :
    Calls Try.prog 14 #[bkv b, .int .i64 f, .int .i64 t, .int .i64 s, wn n] w fun e W' => e = .returned (.tuple #[bkv (moveB b f t s n).1, .int .i64 (moveB b f t s n).2]) ∧ Below w.heap.size w W' := by
  have kB := ((Blk.new w 27 (bkc b)).alloc (.cells (ws (nw n)).toArray 24)).alloc (.cells (bkc noK).toArray 27)
  have kA : Blk (((w.alloc (.cells (bkc b).toArray 27)).alloc (.cells (ws (nw n)).toArray 24)).alloc (.cells (bkc noK).toArray 27)) (w.heap.size + 1) 24 (ws (nw n)) := (Blk.new' (by simp)).alloc _
  have kR0 : Blk (((w.alloc (.cells (bkc b).toArray 27)).alloc (.cells (ws (nw n)).toArray 24)).alloc (.cells (bkc noK).toArray 27)) (w.heap.size + 1 + 1) 27 (bkc noK) := Blk.new' (by simp)
  have hB := chainA (chainA (chain0 w (.cells (bkc b).toArray 27)) (.cells (ws (nw n)).toArray 24)) (.cells (bkc noK).toArray 27)
  rw [bkc_no] at kB kA hB
  have kR : Blk (((w.alloc (.cells (bkc b).toArray 27)).alloc (.cells (ws (nw n)).toArray 24)).alloc (.cells (List.replicate 64 (Value.int .u64 0)).toArray 27)) (w.heap.size + 1 + 1) 27 (bkc noK) := by rw [bkc_no] at kR0 ⊢; exact kR0
  clear kR0
  have HT := Lib.hid (fun W => bookTake_any b hb f s n hn W)
  have HG := Lib.hid (fun W => bookGive_any _ (okK_take hb f s n) t s n hn W)
  have HM1 := Lib.hid (fun h => moveB_low (b := b) (f := f) (t := t) (s := s) (n := n) h)
  have HM2 := Lib.hid (fun h k => moveB_yes (b := b) (f := f) (t := t) (s := s) (n := n) h k)
  have HM3 := Lib.hid (fun h k => moveB_over (b := b) (f := f) (t := t) (s := s) (n := n) h k)
  generalize moveB b f t s n = mv at *
  generalize takeB b f s n = tk at *
  generalize giveB tk.1 t s n = gv at *
  obtain ⟨bt, et⟩ := tk
  obtain ⟨bg, eg⟩ := gv
  dsimp only at *
  by_cases h1 : et = 0
  · subst h1
    by_cases h2 : eg = 0
    · subst h2
      have HE : Hid (mv = (bg, 0)) := Lib.hid (HM2.out rfl rfl)
      clear HM1 HM2 HM3
      go_enter Try.func14, Try.ntmps14
      go_wp2_with (first
        | ((with_reducible refine wpList_loadIf 27 (.tmp 5) ?_ (some 16) ?_ ?_ (bkv (b)) ?_ ?_); (· rfl); (· rfl); (· rfl); (· exact load_book kB))
        | ((with_reducible refine wpList_loadIf 24 (.tmp 9) ?_ (some 19) ?_ ?_ (wn (n)) ?_ ?_); (· rfl); (· rfl); (· rfl); (· exact load_wn kA))
        | (go_at_call 8; refine (HT.out _).mono ?_; rintro e w1 ⟨rfl, hb1⟩; replace kB := kB.below hb1 kB.lt; replace kA := kA.below hb1 kA.lt; replace kR := kR.below hb1 kR.lt; replace hB := chain hB hb1; clear hb1)
        | ((with_reducible refine wpList_storeN_book (.tmp 12) (.tmp 21) ?_ (bt) ?_ ?_ ?_ ?_ ?_ ?_); (· rfl); (· rfl); (· rfl); (· rfl); (· rfl); (· rfl); have kT := Blk.new w1 27 (bkc (bt)); replace kB := kB.alloc (.cells (bkc (bt)).toArray 27); replace kA := kA.alloc (.cells (bkc (bt)).toArray 27); replace kR := kR.alloc (.cells (bkc (bt)).toArray 27); replace hB := chainA hB (.cells (bkc (bt)).toArray 27))
        | ((with_reducible refine wpList_loadIf 27 (.tmp 12) ?_ (some 28) ?_ ?_ (bkv (bt)) ?_ ?_); (· rfl); (· rfl); (· rfl); (· exact load_book kT))
        | ((with_reducible refine wpList_loadIf 24 (.tmp 9) ?_ (some 31) ?_ ?_ (wn (n)) ?_ ?_); (· rfl); (· rfl); (· rfl); (· exact load_wn kA))
        | (go_at_call 7; refine (HG.out _).mono ?_; rintro e w2 ⟨rfl, hb2⟩; replace kB := kB.below hb2 kB.lt; replace kA := kA.below hb2 kA.lt; replace kR := kR.below hb2 kR.lt; replace kT := kT.below hb2 kT.lt; replace hB := chain hB hb2; clear hb2)
        | ((with_reducible refine wpList_storeN_book (.tmp 14) (.tmp 33) ?_ (bg) ?_ ?_ ?_ ?_ ?_ ?_); (· rfl); (· rfl); (· rfl); (· rfl); (· rfl); (· rfl); have kG := Blk.new w2 27 (bkc (bg)); replace kB := kB.alloc (.cells (bkc (bg)).toArray 27); replace kA := kA.alloc (.cells (bkc (bg)).toArray 27); replace kR := kR.alloc (.cells (bkc (bg)).toArray 27); replace kT := kT.alloc (.cells (bkc (bg)).toArray 27); replace hB := chainA hB (.cells (bkc (bg)).toArray 27))
        | ((with_reducible refine wpList_loadIf 27 (.tmp 14) ?_ (some 39) ?_ ?_ (bkv (bg)) ?_ ?_); (· rfl); (· rfl); (· rfl); (· exact load_book kG))
        | ((refine wpList_store_book (.tmp 10) (.tmp 39) kR (bkc_len noK) (bg) ?_ ?_ ?_ ?_ ?_ ?_); (· rfl); (· rfl); (· rfl); (· rfl); (· rfl)))
      exact bodyPost_ret (v := .tuple #[bkv (bg), .int .i64 0]) (res_book rfl _ rfl rfl (kR.row _)) rfl ⟨by rw [HE.out], hB.grown (grownBy_row _ _ _) hB.size (fun e he => by cases he; omega)⟩
    · have HE : Hid (mv = (b, eg)) := Lib.hid (HM3.out rfl h2)
      have q2 : (eg != 0) = true := by simpa using h2
      clear HM1 HM2 HM3 h2
      go_enter Try.func14, Try.ntmps14
      go_wp2_with (first
        | ((with_reducible refine wpList_loadIf 27 (.tmp 5) ?_ (some 16) ?_ ?_ (bkv (b)) ?_ ?_); (· rfl); (· rfl); (· rfl); (· exact load_book kB))
        | ((with_reducible refine wpList_loadIf 24 (.tmp 9) ?_ (some 19) ?_ ?_ (wn (n)) ?_ ?_); (· rfl); (· rfl); (· rfl); (· exact load_wn kA))
        | (go_at_call 8; refine (HT.out _).mono ?_; rintro e w1 ⟨rfl, hb1⟩; replace kB := kB.below hb1 kB.lt; replace kA := kA.below hb1 kA.lt; replace kR := kR.below hb1 kR.lt; replace hB := chain hB hb1; clear hb1)
        | ((with_reducible refine wpList_storeN_book (.tmp 12) (.tmp 21) ?_ (bt) ?_ ?_ ?_ ?_ ?_ ?_); (· rfl); (· rfl); (· rfl); (· rfl); (· rfl); (· rfl); have kT := Blk.new w1 27 (bkc (bt)); replace kB := kB.alloc (.cells (bkc (bt)).toArray 27); replace kA := kA.alloc (.cells (bkc (bt)).toArray 27); replace kR := kR.alloc (.cells (bkc (bt)).toArray 27); replace hB := chainA hB (.cells (bkc (bt)).toArray 27))
        | ((with_reducible refine wpList_loadIf 27 (.tmp 12) ?_ (some 28) ?_ ?_ (bkv (bt)) ?_ ?_); (· rfl); (· rfl); (· rfl); (· exact load_book kT))
        | ((with_reducible refine wpList_loadIf 24 (.tmp 9) ?_ (some 31) ?_ ?_ (wn (n)) ?_ ?_); (· rfl); (· rfl); (· rfl); (· exact load_wn kA))
        | (go_at_call 7; refine (HG.out _).mono ?_; rintro e w2 ⟨rfl, hb2⟩; replace kB := kB.below hb2 kB.lt; replace kA := kA.below hb2 kA.lt; replace kR := kR.below hb2 kR.lt; replace kT := kT.below hb2 kT.lt; replace hB := chain hB hb2; clear hb2)
        | ((with_reducible refine wpList_storeN_book (.tmp 14) (.tmp 33) ?_ (bg) ?_ ?_ ?_ ?_ ?_ ?_); (· rfl); (· rfl); (· rfl); (· rfl); (· rfl); (· rfl); have kG := Blk.new w2 27 (bkc (bg)); replace kB := kB.alloc (.cells (bkc (bg)).toArray 27); replace kA := kA.alloc (.cells (bkc (bg)).toArray 27); replace kR := kR.alloc (.cells (bkc (bg)).toArray 27); replace kT := kT.alloc (.cells (bkc (bg)).toArray 27); replace hB := chainA hB (.cells (bkc (bg)).toArray 27))
        | ((with_reducible refine wpList_loadIf 27 (.tmp 5) ?_ (some 37) ?_ ?_ (bkv (b)) ?_ ?_); (· rfl); (· rfl); (· rfl); (· exact load_book kB))
        | ((refine wpList_store_book (.tmp 10) (.tmp 37) kR (bkc_len noK) (b) ?_ ?_ ?_ ?_ ?_ ?_); (· rfl); (· rfl); (· rfl); (· rfl); (· rfl)))
      exact bodyPost_ret (v := .tuple #[bkv (b), .int .i64 eg]) (res_book rfl _ rfl rfl (kR.row _)) rfl ⟨by rw [HE.out], hB.grown (grownBy_row _ _ _) hB.size (fun e he => by cases he; omega)⟩
  · have HE : Hid (mv = (b, et)) := Lib.hid (HM1.out h1)
    have q1 : (et != 0) = true := by simpa using h1
    clear HM1 HM2 HM3 HG h1
    go_enter Try.func14, Try.ntmps14
    go_wp2_with (first
      | ((with_reducible refine wpList_loadIf 27 (.tmp 5) ?_ (some 16) ?_ ?_ (bkv (b)) ?_ ?_); (· rfl); (· rfl); (· rfl); (· exact load_book kB))
      | ((with_reducible refine wpList_loadIf 24 (.tmp 9) ?_ (some 19) ?_ ?_ (wn (n)) ?_ ?_); (· rfl); (· rfl); (· rfl); (· exact load_wn kA))
      | (go_at_call 8; refine (HT.out _).mono ?_; rintro e w1 ⟨rfl, hb1⟩; replace kB := kB.below hb1 kB.lt; replace kA := kA.below hb1 kA.lt; replace kR := kR.below hb1 kR.lt; replace hB := chain hB hb1; clear hb1)
      | ((with_reducible refine wpList_storeN_book (.tmp 12) (.tmp 21) ?_ (bt) ?_ ?_ ?_ ?_ ?_ ?_); (· rfl); (· rfl); (· rfl); (· rfl); (· rfl); (· rfl); have kT := Blk.new w1 27 (bkc (bt)); replace kB := kB.alloc (.cells (bkc (bt)).toArray 27); replace kA := kA.alloc (.cells (bkc (bt)).toArray 27); replace kR := kR.alloc (.cells (bkc (bt)).toArray 27); replace hB := chainA hB (.cells (bkc (bt)).toArray 27))
      | ((with_reducible refine wpList_loadIf 27 (.tmp 5) ?_ (some 25) ?_ ?_ (bkv (b)) ?_ ?_); (· rfl); (· rfl); (· rfl); (· exact load_book kB))
      | ((refine wpList_store_book (.tmp 10) (.tmp 25) kR (bkc_len noK) (b) ?_ ?_ ?_ ?_ ?_ ?_); (· rfl); (· rfl); (· rfl); (· rfl); (· rfl)))
    exact bodyPost_ret (v := .tuple #[bkv (b), .int .i64 et]) (res_book rfl _ rfl rfl (kR.row _)) rfl ⟨by rw [HE.out], hB.grown (grownBy_row _ _ _) hB.size (fun e he => by cases he; omega)⟩
end Go.Proofs.Ytcgfnppknldhbaa
