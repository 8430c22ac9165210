/-
  purse: a book in which all have as much.
-/
import Derived.Test.YtcgfnppknldhbaaPurseRow
import Derived.Test.YtcgfnppknldhbaaHeldMono
import Derived.Outline
namespace Go.Proofs.Ytcgfnppknldhbaa
open Go.RowKit Go.Shelf

/-- The first m slots hold n each. -/
def evB (n m : Nat) : Bk := fun i => if i < m then n else 0
theorem ev_zero (n : Nat) : bkc (evB n 0) = bkc noK := bkc_ext fun j _ => if_neg (Nat.not_lt_zero j)
theorem ev_full (n : Nat) : bkc (evB n 16) = bkc (fun _ => n) := bkc_ext fun _ h => if_pos h
theorem ev_set (n m : Nat) : bkc (updB (evB n m) m n) = bkc (evB n (m + 1)) := bkc_ext fun i _ => by
  unfold evB
  by_cases e : i = m
  · subst e; rw [updB_at, if_pos (by omega)]
  · rw [updB_ne _ _ e]
    by_cases h : i < m
    · rw [if_pos h, if_pos (by omega)]
    · rw [if_neg h, if_neg (by omega)]
set_option maxRecDepth 100000 in
set_option maxHeartbeats 4000000 in
theorem bookEven_any (n : Nat) (hn : n < M) (w : World) :
    Calls Try.prog 12 #[.int .u64 (n : Int)] w fun e W' => e = .returned (bkv (fun _ => n)) ∧ Below w.heap.size w W' := by
  have hmx : Try.prog.follows .mixedOrders = true := by kernel_rfl
  have kR0 : Blk ((w.alloc (.cells (List.replicate 64 (Value.int .u64 0)).toArray 27)).alloc (.cells (List.replicate 64 (Value.int .u64 0)).toArray 27)) w.heap.size 27 (List.replicate 64 (Value.int .u64 0)) := (Blk.new' rfl).alloc _
  have kB0 : Blk ((w.alloc (.cells (List.replicate 64 (Value.int .u64 0)).toArray 27)).alloc (.cells (List.replicate 64 (Value.int .u64 0)).toArray 27)) (w.heap.size + 1) 27 (List.replicate 64 (Value.int .u64 0)) := Blk.new' (by simp)
  have hB0 := chainA (chain0 w (.cells (List.replicate 64 (Value.int .u64 0)).toArray 27)) (.cells (List.replicate 64 (Value.int .u64 0)).toArray 27)
  have HN := Lib.hid hn
  clear hn
  go_enter Try.func12, Try.ntmps12
  go_wp2_with ((with_reducible refine wpList_loadIf 27 (.tmp 3) ?_ (some 7) ?_ ?_ (bkv noK) ?_ ?_); (· rfl); (· rfl); (· rfl); (· exact load_book (by rw [bkc_no]; exact kB0)))
  generalize hX : World.alloc (World.alloc _ _) _ = X
  replace kR0 : Blk X w.heap.size 27 (bkc noK) := by rw [bkc_no, ← hX]; exact kR0
  replace kB0 : Blk X (w.heap.size + 1) 27 (bkc (evB n 0)) := by rw [ev_zero, bkc_no, ← hX]; exact kB0
  replace hB0 : Below w.heap.size w X := by rw [← hX]; exact hB0
  clear hX
  go_loopw [8] (fun i wr => ∃ k : Nat, k ≤ 8 ∧ i = .int .i64 k ∧ Blk wr (w.heap.size + 1) 27 (bkc (evB n (2 * k))) ∧ Blk wr w.heap.size 27 (bkc noK) ∧ Below w.heap.size w wr) (fun i _ => 8 - (intOf i).toNat)
  case atStart => exact ⟨0, by omega, rfl, kB0, kR0, hB0⟩
  clear kR0 kB0 hB0
  case round =>
    obtain ⟨k, hk, rfl, kB, kR, hB⟩ := hrel
    by_cases hlt : k < 8
    · have hlt' : (k : Int) < 8 := by omega
      obtain ⟨wo, rfl⟩ : ∃ wo : World, wo = wr := ⟨_, rfl⟩
      have kB1 := kB.alloc (.cells (rowB noK (2 * k) 2).toArray 25)
      have kR1 := kR.alloc (.cells (rowB noK (2 * k) 2).toArray 25)
      have hB1 := chainA hB (.cells (rowB noK (2 * k) 2).toArray 25)
      clear kB kR hB
      go_wp2_with (first
        | ((with_reducible refine wpList_indexTo ?_ 27 (.tmp 7) (.tmp 8) ?_ (some 11) ?_ (.agg (rowB noK (2 * k) 2).toArray) ?_ ?_); (· rfl); (· rfl); (· rfl); (· exact idx_row noK _ hlt))
        | ((with_reducible refine wpList_storeN 25 (.tmp 5) (.tmp 11) (.agg (rowB noK (2 * k) 2).toArray) (rowB noK (2 * k) 2) ?_ ?_ ?_ ?_ ?_ ?_ ?_ ?_ ?_ ?_); (· rfl); (· rfl); (· kernel_rfl); (· exact rowB_one _ _ _); (· rfl); (· rfl); (· rfl); (· rfl); (· rfl)))
      generalize wo.alloc _ = X1 at *
      go_loopw [12] (fun i wr => ∃ j : Nat, j ≤ 2 ∧ i = .int .i64 j ∧ Blk wr (w.heap.size + 1) 27 (bkc (evB n (2 * k + j))) ∧ Blk wr w.heap.size 27 (bkc noK) ∧ Below w.heap.size w wr) (fun i _ => 2 - (intOf i).toNat)
      case atStart => exact ⟨0, by omega, rfl, kB1, kR1, hB1⟩
      clear kB1 kR1 hB1
      case round =>
        obtain ⟨j, hj, rfl, kB, kR, hB⟩ := hrel
        by_cases hjt : j < 2
        · have hjt' : (j : Int) < 2 := by omega
          have HS := Lib.hid (ev_set n (2 * k + j))
          go_wp2_with fail
          refine wp_region_held_drew (S := fun W => True) hmx trivial ?_
          intro hS
          have hd : Below wr.heap.size wr wr.drew := (Below.refl _ wr).drew
          replace kB : Blk wr.drew _ _ _ := kB
          replace kR : Blk wr.drew _ _ _ := kR
          replace hB := hB.drew
          generalize wr.drew = Y at *
          refine' wpAnyH_take (i := 0) (oi := _) (v := _) ?hi1 (by kernel_rfl) (by kernel_rfl) (by kernel_rfl) ?hQ1 (Or.inl ⟨?hw1, ?hy1⟩) hS ?rest1
          case hi1 => simp only [List.getElem?_toArray, List.getElem?_cons_zero]; rfl
          case hQ1 => exact fun _ _ _ h => h
          case hw1 => rfl
          case hy1 => intro W' hS'; go_simp; with_reducible rfl
          try simp only [Act.put, List.setIfInBounds_toArray, List.set_cons_zero, List.set_cons_succ]
          refine' wpAnyH_take (i := 1) (oi := _) (v := _) ?hi2 (by kernel_rfl) (by kernel_rfl) (by kernel_rfl) ?hQ2 (Or.inl ⟨?hw2, ?hy2⟩) hS ?rest2
          case hi2 => simp only [List.getElem?_toArray, List.getElem?_cons_succ, List.getElem?_cons_zero]; rfl
          case hQ2 => exact fun _ _ _ h => h
          case hw2 => rfl
          case hy2 => intro W' hS'; go_simp; with_reducible rfl
          try simp only [Act.put, List.setIfInBounds_toArray, List.set_cons_zero, List.set_cons_succ]
          refine' wpAnyH_take (i := 2) (oi := _) (v := _) ?hi3 (by kernel_rfl) (by kernel_rfl) (by kernel_rfl) ?hQ3 (Or.inl ⟨?hw3, ?hy3⟩) hS ?rest3
          case hi3 => simp only [List.getElem?_toArray, List.getElem?_cons_succ, List.getElem?_cons_zero]; rfl
          case hQ3 => exact fun _ _ _ h => h
          case hw3 => rfl
          case hy3 => intro W' hS'; go_simp; with_reducible rfl
          try simp only [Act.put, List.setIfInBounds_toArray, List.set_cons_zero, List.set_cons_succ]
          refine' wpAnyH_take (i := 4) (oi := _) (v := _) ?hi4 (by kernel_rfl) (by kernel_rfl) (by kernel_rfl) ?hQ4 (Or.inl ⟨?hw4, ?hy4⟩) hS ?rest4
          case hi4 => simp only [List.getElem?_toArray, List.getElem?_cons_succ, List.getElem?_cons_zero]; rfl
          case hQ4 => exact fun _ _ _ h => h
          case hw4 => rfl
          case hy4 => intro W' hS'; go_simp; with_reducible rfl
          try simp only [Act.put, List.setIfInBounds_toArray, List.set_cons_zero, List.set_cons_succ]
          refine wpAnyH_ready (rs := [3]) (by kernel_rfl) (by simp) ?_
          refine' AllReadyH.cons (o := _) ?ho5 (fun K hK => ?st5) AllReadyH.nil
          case ho5 => simp only [List.getElem?_toArray, List.getElem?_cons_succ, List.getElem?_cons_zero]; rfl
          case st5 =>
            go_simp
            refine (ofN_any n HN.out _).mono ?_
            rintro e Y1 ⟨rfl, hb⟩
            replace kB := kB.below hb kB.lt
            replace kR := kR.below hb kR.lt
            replace hB := chain hB hb
            clear hb
            refine hK.out _ _ trivial (fun hS => ?_)
            clear hK K
            try simp only [Act.put, List.setIfInBounds_toArray, List.set_cons_zero, List.set_cons_succ]
            refine' wpAnyH_take (i := 5) (oi := _) (v := _) ?hi6 (by kernel_rfl) (by kernel_rfl) (by kernel_rfl) ?hQ6 (Or.inl ⟨?hw6, ?hy6⟩) hS ?rest6
            case hi6 => simp only [List.getElem?_toArray, List.getElem?_cons_succ, List.getElem?_cons_zero]; rfl
            case hQ6 => exact fun _ _ _ h => h
            case hw6 => rfl
            case hy6 => intro W' hS'; go_simp; with_reducible rfl
            try simp only [Act.put, List.setIfInBounds_toArray, List.set_cons_zero, List.set_cons_succ]
            refine wpAnyH_ready (rs := [6]) (by kernel_rfl) (by simp) ?_
            refine' AllReadyH.cons (o := _) ?ho7 (fun K hK => ?st7) AllReadyH.nil
            case ho7 => simp only [List.getElem?_toArray, List.getElem?_cons_succ, List.getElem?_cons_zero]; rfl
            case st7 =>
              refine wp_store_slot (.tmp 20) (.tmp 18) kB hlt hjt n rfl rfl rfl rfl ?_
              have hB2 := hB.grown (grownBy_row _ (w.heap.size + 1) (bkc (updB (evB n (2 * k + j)) (2 * k + j) n)).toArray) hB.size (fun e he => by cases he; omega)
              have kR2 := kR.rowO (bkc (updB (evB n (2 * k + j)) (2 * k + j) n)).toArray (show w.heap.size ≠ w.heap.size + 1 by omega)
              have kB2 := kB.row (bkc (updB (evB n (2 * k + j)) (2 * k + j) n))
              rw [HS.out] at hB2 kR2 kB2 ⊢
              refine hK.out _ _ trivial (fun hS => ?_)
              clear hK K
              try simp only [Act.put, List.setIfInBounds_toArray, List.set_cons_zero, List.set_cons_succ]
              refine wpAnyH_done (by kernel_rfl) ?_ _
              go_wp2_with fail
              go_roundw
              case rel => exact ⟨j + 1, by omega, by simp, kB2, kR2, hB2⟩
              case measure => simp [intOf]; omega
        · obtain rfl : j = 2 := by omega
          go_wp2_with fail
          go_roundw
          case rel => exact ⟨k + 1, by omega, by simp, kB, kR, hB⟩
          case measure => simp [intOf]; omega
    · obtain rfl : k = 8 := by omega
      rw [show 2 * 8 = 16 from rfl, ev_full] at kB
      go_wp2_with (first
        | ((with_reducible refine wpList_loadIf 27 (.tmp 3) ?_ (some 23) ?_ ?_ (bkv (fun _ => n)) ?_ ?_); (· rfl); (· rfl); (· rfl); (· exact load_book kB))
        | ((refine wpList_store_book (.tmp 2) (.tmp 23) kR (bkc_len noK) (fun _ => n) ?_ ?_ ?_ ?_ ?_ ?_); (· rfl); (· rfl); (· rfl); (· rfl); (· rfl)))
      exact bodyPost_ret (v := bkv (fun _ => n)) (res_bk rfl _ rfl (kR.row _)) rfl ⟨rfl, hB.grown (grownBy_row _ _ _) hB.size (fun e he => by cases he; omega)⟩
end Go.Proofs.Ytcgfnppknldhbaa
