/-
  purse: the total of an asset.
-/
import Derived.Test.YtcgfnppknldhbaaPurseRow
import Derived.Outline
namespace Go.Proofs.Ytcgfnppknldhbaa
open Go.RowKit Go.Shelf

set_option maxRecDepth 100000 in
set_option maxHeartbeats 4000000 in
theorem bookTotal_any (b : Bk) (hb : OkK b) (s : Int) (w : World) :
    Calls Try.prog 15 #[bkv b, .int .i64 s] w (RetN (totB b s).1 (totB b s).2 w) := by
  have kB := (Blk.new w 27 (bkc b)).alloc (.cells #[.int .u64 0, .int .u64 0, .int .u64 0, .int .u64 0] 24)
  have kR : Blk ((w.alloc (.cells (bkc b).toArray 27)).alloc (.cells #[.int .u64 0, .int .u64 0, .int .u64 0, .int .u64 0] 24)) (w.heap.size + 1) 24 [.int .u64 0, .int .u64 0, .int .u64 0, .int .u64 0] := Blk.new' (by simp)
  have hB := chainA (chain0 w (.cells (bkc b).toArray 27)) (.cells #[.int .u64 0, .int .u64 0, .int .u64 0, .int .u64 0] 24)
  by_cases h : 0 ≤ s ∧ s < 2
  · have HP : Hid (assetB s = true) := Lib.hid (decide_eq_true h)
    have HT : Hid (∀ n, sumB b s.toNat = n → totB b s = (addN n 0, fitB n 0)) := Lib.hid fun n e => by
      subst e; unfold totB addN fitB
      rw [Nat.add_zero]
      by_cases hx : sumB b s.toNat < M4
      · rw [if_pos ⟨h, hx⟩, if_pos hx, decide_eq_true hx]
      · rw [if_neg (fun k => hx k.2), if_neg hx, decide_eq_false hx]
    obtain ⟨h3, h4⟩ := h
    obtain ⟨j, rfl⟩ : ∃ j : Nat, s = j := ⟨s.toNat, by omega⟩
    have hj : j < 2 := by omega
    have HW := Lib.hid (colW_sum hb hj)
    go_enter Try.func15, Try.ntmps15
    go_wp2_with (first
      | (go_at_call 23; refine (isAsset_any _ _).mono ?_; rw [HP.out]; rintro e w1 ⟨rfl, rfl⟩)
      | ((with_reducible refine wpList_loadIf 27 (.tmp 2) ?_ (some 13) ?_ ?_ (bkv b) ?_ ?_); (· rfl); (· rfl); (· rfl); (· exact load_book (kB.alloc _))))
    have kC0 : Blk (((w.alloc (.cells (bkc b).toArray 27)).alloc (.cells #[.int .u64 0, .int .u64 0, .int .u64 0, .int .u64 0] 24)).alloc (.cells (List.replicate 32 (Value.int .u64 0)).toArray 48)) (w.heap.size + 1 + 1) 48 (List.replicate 32 (Value.int .u64 0)) := Blk.new' (by simp)
    have kR0 := kR.alloc (.cells (List.replicate 32 (Value.int .u64 0)).toArray 48)
    have hB0 := chainA hB (.cells (List.replicate 32 (Value.int .u64 0)).toArray 48)
    rw [← colB_zero b j] at kC0
    generalize hX : World.alloc (World.alloc (World.alloc _ _) _) _ = X
    replace kC0 : Blk X (w.heap.size + 1 + 1) 48 (rowB (colB b j 0) 0 8) := by rw [← hX]; rw [colB_zero b j] at kC0 ⊢; exact kC0
    replace kR0 : Blk X (w.heap.size + 1) 24 [.int .u64 0, .int .u64 0, .int .u64 0, .int .u64 0] := by rw [← hX]; exact kR0
    replace hB0 : Below w.heap.size w X := by rw [← hX]; exact hB0
    clear hX kB kR hB
    go_loopw [14] (fun i wr => ∃ k : Nat, k ≤ 8 ∧ i = .int .i64 k ∧ Blk wr (w.heap.size + 1 + 1) 48 (rowB (colB b j k) 0 8) ∧ Blk wr (w.heap.size + 1) 24 [.int .u64 0, .int .u64 0, .int .u64 0, .int .u64 0] ∧ Below w.heap.size w wr) (fun i _ => 8 - (intOf i).toNat)
    case atStart => exact ⟨0, by omega, rfl, kC0, kR0, hB0⟩
    clear kC0 kR0 hB0
    case round =>
      obtain ⟨k, hk, rfl, kC, kR, hB⟩ := hrel
      by_cases hlt : k < 8
      · have hlt' : (k : Int) < 8 := by omega
        have kL := (Blk.new wr 25 (rowB b (2 * k) 2))
        have hpart : ((rowB b (2 * k) 2).drop (j * 4)).take (ws (nw (b (2 * k + j)))).length = ws (nw (b (2 * k + j))) := by
          rw [ws_len, show j * 4 = 4 * j by omega, rowB_drop b (2 * k) 2 (by omega), show 4 = 4 * 1 from rfl, rowB_take b (2 * k + j) (2 - j) (by omega), rowB, rowB, List.append_nil]
        have HL := Lib.hid (load_part kL (j * 4) (ws (nw (b (2 * k + j)))) hpart 24 _ Try.underlying24 rfl (by kernel_rfl))
        have kC1 := kC.alloc (.cells (rowB b (2 * k) 2).toArray 25)
        have HS := Lib.hid (colB_set b j hlt)
        clear hpart kL
        go_wp2_with (first
          | ((with_reducible refine wpList_indexTo ?_ 27 (.tmp 13) (.tmp 14) ?_ (some 17) ?_ (.agg (rowB b (2 * k) 2).toArray) ?_ ?_); (· rfl); (· rfl); (· rfl); (· exact idx_row b _ hlt))
          | ((with_reducible refine wpList_storeN 25 (.tmp 8) (.tmp 17) (.agg (rowB b (2 * k) 2).toArray) (rowB b (2 * k) 2) ?_ ?_ ?_ ?_ ?_ ?_ ?_ ?_ ?_ ?_); (· rfl); (· rfl); (· kernel_rfl); (· exact rowB_one _ _ _); (· rfl); (· rfl); (· rfl); (· rfl); (· rfl))
          | ((with_reducible refine wpList_loadIf 24 (.tmp 20) ?_ (some 21) ?_ ?_ (wn (b (2 * k + j))) ?_ ?_); (· rfl); (· rfl); (· rfl); (· exact HL.out))
          | ((with_reducible refine wpList_store_part 24 (.tmp 22) (.tmp 21) (rowB (colB b j (k + 1)) 0 8) kC1 (k * 4) (wn (b (2 * k + j))) (ws (nw (b (2 * k + j)))) ?_ ?_ ?_ ?_ ?_ ?_ ?_ ?_ ?_ ?_ ?_); (· rfl); (· rfl); (· rfl); (· rfl); (· rfl); (· rfl); (· kernel_rfl); (· rw [ws_len, rowB_len]; omega); (· rfl); (· exact HS.out)))
        have kC2 := kC1.row (rowB (colB b j (k + 1)) 0 8)
        have kR2 := (kR.alloc (.cells (rowB b (2 * k) 2).toArray 25)).rowO (rowB (colB b j (k + 1)) 0 8).toArray (show w.heap.size + 1 ≠ w.heap.size + 1 + 1 by omega)
        have hB2 := (chainA hB (.cells (rowB b (2 * k) 2).toArray 25)).grown (grownBy_row _ (w.heap.size + 1 + 1) (rowB (colB b j (k + 1)) 0 8).toArray) (chainA hB (.cells (rowB b (2 * k) 2).toArray 25)).size (fun e he => by cases he; omega)
        go_roundw
        case rel => exact ⟨k + 1, by omega, by simp, kC2, kR2, hB2⟩
        case measure => simp [intOf]; omega
      · obtain rfl : k = 8 := by omega
        have HSl := Lib.hid (colW_lies kC wr.heap.size kC.lt 8)
        have hlen : (colW b j).length * 32 ≤ 140737488351232 := by rw [colW_len]; omega
        rw [← ws_no] at kR
        go_wp2_with fail
        refine (sum_any _ _ _ (colW b j) hlen _ HSl.out).mono ?_
        rw [HW.out]
        have HT2 := Lib.hid (HT.out _ rfl)
        rw [show ((j : Int)).toNat = j from rfl] at HT2
        clear HT HW
        generalize sumB b j = n at *
        rintro e w2 h2
        obtain ⟨rfl, hb2⟩ := retN_of_add (x := n) (y := 0) h2
        replace kR := kR.below hb2 kR.lt
        replace hB := chain hB hb2
        clear h2 hb2 HSl hlen kC
        generalize addN n 0 = m at *
        generalize fitB n 0 = f at *
        go_wp2_with ((refine wpList_store_wn (.tmp 4) (.tmp 26) kR m ?_ ?_ ?_ ?_ ?_ ?_); (· rfl); (· rfl); (· rfl); (· rfl); (· rfl))
        exact bodyPost_ret (v := .tuple #[wn m, .bool f]) (res_num rfl _ rfl rfl (kR.row _)) rfl ⟨by rw [HT2.out], hB.grown (grownBy_row _ _ _) hB.size (fun e he => by cases he; omega)⟩
  · have HP : Hid (assetB s = false) := Lib.hid (decide_eq_false h)
    have HT : Hid (totB b s = (0, false)) := Lib.hid (if_neg fun k => h k.1)
    clear h
    go_enter Try.func15, Try.ntmps15
    go_wp2_with (go_at_call 23; refine (isAsset_any _ _).mono ?_; rw [HP.out]; rintro e w1 ⟨rfl, rfl⟩)
    exact bodyPost_ret (v := .tuple #[wn 0, .bool false]) (res_num rfl _ rfl rfl (by rw [ws_no]; exact kR)) rfl ⟨by rw [HT.out], hB⟩
end Go.Proofs.Ytcgfnppknldhbaa
