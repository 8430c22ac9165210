/-
  The walk of PurseTells: what anybody has, and any book behind giving and taking, or why not, are as the page says.
-/
import Derived.Test.YtcgfnppknldhbaaPurseAlive
import Derived.Test.YtcgfnppknldhbaaPurseGive
import Derived.Test.YtcgfnppknldhbaaPurseTake
import Derived.Deep.Cut
import Derived.Deep.CutRange
import Derived.Deep.DeepCutAuto
import Derived.Outline
namespace Go.Proofs.Ytcgfnppknldhbaa
open Go.RowKit Go.Shelf

/-- Two new variables, each with a book. -/
def TwoK (X : World) (b : Bk) (p q : Value) (W : World) : Prop := ∃ P Q, p = .pointer (some ⟨P, 0, none⟩) ∧ q = .pointer (some ⟨Q, 0, none⟩) ∧ Blk W P 27 (bkc b) ∧ Blk W Q 27 (bkc b) ∧ X.heap.size ≤ P ∧ X.heap.size ≤ Q ∧ P ≠ Q ∧ Below X.heap.size X W
/-- What the law has laid by: the books as they should be, how much there was, and why. -/
def LaidK (w : World) (gB gX gY P Q O : Nat) (b bg bt : Bk) (eg et : Int) (ofn : Nat) (g h : Value) (W : World) : Prop :=
  g = .int .i64 eg ∧ h = .int .i64 et ∧ Blk W gB 27 (bkc b) ∧ Blk W gX 27 (bkc bg) ∧ Blk W gY 27 (bkc bt) ∧ Blk W P 27 (bkc bg) ∧ Blk W Q 27 (bkc bt) ∧ Blk W O 24 (ws (nw ofn)) ∧ Below w.heap.size w W

set_option maxRecDepth 100000 in
set_option maxHeartbeats 8000000 in
theorem purseTells_any (b : Bk) (hb : OkK b) (a s : Int) (n : Nat) (hn : n < M4) (m : Nat) (hm : m < M) (w : World) :
    Calls Try.prog 3 #[bkv b, .int .i64 a, .int .i64 s, wn n, .int .u64 (m : Int)] w fun e W' => e = .returned (.bool true) ∧ Below w.heap.size w W' := by
  have hmx : Try.prog.follows .mixedOrders = true := by kernel_rfl
  have kB := (Blk.new w 27 (bkc b)).alloc (.cells (ws (nw n)).toArray 24)
  have kA : Blk ((w.alloc (.cells (bkc b).toArray 27)).alloc (.cells (ws (nw n)).toArray 24)) (w.heap.size + 1) 24 (ws (nw n)) := Blk.new' (by simp)
  have hB := chainA (chain0 w (.cells (bkc b).toArray 27)) (.cells (ws (nw n)).toArray 24)
  have HA := Lib.hid purseAlive_any
  have HT := Lib.hid (fun W => bookTake_any b hb a s n hn W)
  have HG := Lib.hid (fun W => bookGive_any b hb a s n hn W)
  have HO := Lib.hid (fun W => ofBook_any b a s W)
  have HE := Lib.hid (fun W => bookEven_any m hm W)
  have HG1 := Lib.hid (fun h => giveB_no (b := b) (a := a) (s := s) (n := n) h)
  have HG2 := Lib.hid (fun h k => giveB_yes (b := b) (a := a) (s := s) (n := n) h k)
  have HG3 := Lib.hid (fun h k => giveB_over (b := b) (a := a) (s := s) (n := n) h k)
  have HK1 := Lib.hid (fun h => takeB_no (b := b) (a := a) (s := s) (n := n) h)
  have HK2 := Lib.hid (fun h k => takeB_yes (b := b) (a := a) (s := s) (n := n) h k)
  have HK3 := Lib.hid (fun h k => takeB_low (b := b) (a := a) (s := s) (n := n) h k)
  have HF1 : Hid (¬ atS a s → ofB b a s = 0) := Lib.hid fun h => if_neg h
  have HF2 : Hid (atS a s → ofB b a s = b (slotS a s)) := Lib.hid fun h => if_pos h
  have HQ := Lib.hid (fun h => hb _ (slot_lt (a := a) (s := s) h))
  have HN := Lib.hid hn
  have HM := Lib.hid hm
  clear hb hn hm
  generalize takeB b a s n = tk at *
  generalize giveB b a s n = gv at *
  generalize ofB b a s = ofn at *
  obtain ⟨bt, et⟩ := tk
  obtain ⟨bg, eg⟩ := gv
  dsimp only at *
  go_enter Try.func3, Try.ntmps3
  go_upto_region 5 with (first
    | (go_at_call 6; refine (HA.out _).mono ?_; rintro e w0 ⟨rfl, hb0⟩; replace kB := kB.below hb0 kB.lt; replace kA := kA.below hb0 kA.lt; replace hB := chain hB hb0; clear hb0)
    | ((with_reducible refine wpList_loadIf 27 (.tmp 5) ?_ (some 29) ?_ ?_ (bkv (b)) ?_ ?_); (· rfl); (· rfl); (· rfl); (· exact load_book kB))
    | ((with_reducible refine wpList_loadIf 24 (.tmp 8) ?_ (some 32) ?_ ?_ (wn (n)) ?_ ?_); (· rfl); (· rfl); (· rfl); (· exact load_wn kA))
    | (go_at_call 7; refine (HG.out _).mono ?_; rintro e w1 ⟨rfl, hb1⟩; replace kB := kB.below hb1 kB.lt; replace kA := kA.below hb1 kA.lt; replace hB := chain hB hb1; clear hb1)
    | ((with_reducible refine wpList_storeN_book (.tmp 11) (.tmp 34) ?_ (bg) ?_ ?_ ?_ ?_ ?_ ?_); (· rfl); (· rfl); (· rfl); (· rfl); (· rfl); (· rfl); have kX := Blk.new w1 27 (bkc (bg)); have hgX := kA.lt; replace kB := kB.alloc (.cells (bkc (bg)).toArray 27); replace kA := kA.alloc (.cells (bkc (bg)).toArray 27); replace hB := chainA hB (.cells (bkc (bg)).toArray 27))
    | ((with_reducible refine wpList_loadIf 27 (.tmp 5) ?_ (some 37) ?_ ?_ (bkv (b)) ?_ ?_); (· rfl); (· rfl); (· rfl); (· exact load_book kB))
    | ((with_reducible refine wpList_loadIf 24 (.tmp 8) ?_ (some 40) ?_ ?_ (wn (n)) ?_ ?_); (· rfl); (· rfl); (· rfl); (· exact load_wn kA))
    | (go_at_call 8; refine (HT.out _).mono ?_; rintro e w2 ⟨rfl, hb2⟩; replace kB := kB.below hb2 kB.lt; replace kA := kA.below hb2 kA.lt; replace kX := kX.below hb2 kX.lt; replace hB := chain hB hb2; clear hb2)
    | ((with_reducible refine wpList_storeN_book (.tmp 13) (.tmp 42) ?_ (bt) ?_ ?_ ?_ ?_ ?_ ?_); (· rfl); (· rfl); (· rfl); (· rfl); (· rfl); (· rfl); have kY := Blk.new w2 27 (bkc (bt)); have hgY := kX.lt; replace kB := kB.alloc (.cells (bkc (bt)).toArray 27); replace kA := kA.alloc (.cells (bkc (bt)).toArray 27); replace kX := kX.alloc (.cells (bkc (bt)).toArray 27); replace hB := chainA hB (.cells (bkc (bt)).toArray 27)))
  generalize w1.heap.size = gX at *
  have hzY : w2.heap.size < (w2.alloc (.cells (bkc (bt)).toArray 27)).heap.size := kY.lt
  generalize w2.alloc (.cells (bkc (bt)).toArray 27) = X at *
  generalize w2.heap.size = gY at *
  clear HT HG HA
  go_cut [15, 16] (fun p q wc => TwoK X b p q wc)
  case first =>
    clear kA kX kY
    refine wp_region_held_drew (S := fun W => Blk W w.heap.size 27 (bkc b)) hmx kB.drew ?_
    intro hS
    have hS0 := (Below.refl X.heap.size X).drew
    clear kB
    generalize X.drew = Y at *
    refine' wpAnyH_take (i := 0) (oi := _) (v := bkv b) ?hi1 (by kernel_rfl) (by kernel_rfl) (by kernel_rfl) ?hQ1 (Or.inl ⟨?hw1, ?hy1⟩) hS ?rest1
    case hi1 => simp only [List.getElem?_toArray, List.getElem?_cons_zero]; rfl
    case hQ1 => exact fun _ _ _ h => h
    case hw1 => rfl
    case hy1 => exact fun W' hS' => exec_load 27 (.tmp 5) rfl _ W' (load_book hS')
    try simp only [Act.put, List.setIfInBounds_toArray, List.set_cons_zero, List.set_cons_succ]
    refine' wpAnyH_take (i := 1) (oi := _) (v := bkv b) ?hi2 (by kernel_rfl) (by kernel_rfl) (by kernel_rfl) ?hQ2 (Or.inl ⟨?hw2, ?hy2⟩) hS ?rest2
    case hi2 => simp only [List.getElem?_toArray, List.getElem?_cons_succ, List.getElem?_cons_zero]; rfl
    case hQ2 => exact fun _ _ _ h => h
    case hw2 => rfl
    case hy2 => exact fun W' hS' => exec_load 27 (.tmp 5) rfl _ W' (load_book hS')
    try simp only [Act.put, List.setIfInBounds_toArray, List.set_cons_zero, List.set_cons_succ]
    refine wpAnyH_ready (rs := [2, 3]) (by kernel_rfl) (by simp) ?_
    refine' AllReadyH.cons (o := _) ?ho3 (fun K hK => ?st3) (AllReadyH.cons (o := _) ?ho4 (fun K hK => ?st4) AllReadyH.nil)
    case ho3 => simp only [List.getElem?_toArray, List.getElem?_cons_succ, List.getElem?_cons_zero]; rfl
    case ho4 => simp only [List.getElem?_toArray, List.getElem?_cons_succ, List.getElem?_cons_zero]; rfl
    case st3 =>
      go_simp
      have hP : X.heap.size ≤ Y.heap.size := hS0.size
      replace hS0 := hS0.alloc hS0.size (.cells (List.replicate 64 (Value.int .u64 0)).toArray 27)
      refine hK.out _ _ (hS.alloc (.cells (List.replicate 64 (Value.int .u64 0)).toArray 27)) (fun hS => ?_)
      clear hK K
      try simp only [Act.put, List.setIfInBounds_toArray, List.set_cons_zero, List.set_cons_succ]
      have kP : Blk (Y.alloc (.cells (List.replicate 64 (Value.int .u64 0)).toArray 27)) Y.heap.size 27 (bkc noK) := by rw [bkc_no]; exact Blk.new _ _ _
      generalize hU : Y.alloc _ = U
      replace hS0 : Below X.heap.size X U := by rw [← hU]; exact hS0
      replace hS : Blk U w.heap.size 27 (bkc b) := by rw [← hU]; exact hS
      replace kP : Blk U Y.heap.size 27 (bkc noK) := by rw [← hU]; exact kP
      clear hU
      generalize Y.heap.size = NP at *
      refine wpAnyH_ready (rs := [3]) (by kernel_rfl) (by simp) ?_
      refine' AllReadyH.cons (o := _) ?ho5 (fun K hK => ?st5) AllReadyH.nil
      case ho5 => simp only [List.getElem?_toArray, List.getElem?_cons_succ, List.getElem?_cons_zero]; rfl
      case st5 =>
        go_simp
        have hQ : X.heap.size ≤ U.heap.size := hS0.size
        have hne : NP ≠ U.heap.size := Nat.ne_of_lt kP.lt
        replace hS0 := hS0.alloc hS0.size (.cells (List.replicate 64 (Value.int .u64 0)).toArray 27)
        refine hK.out _ _ (hS.alloc (.cells (List.replicate 64 (Value.int .u64 0)).toArray 27)) (fun hS => ?_)
        clear hK K
        try simp only [Act.put, List.setIfInBounds_toArray, List.set_cons_zero, List.set_cons_succ]
        have kQ : Blk (U.alloc (.cells (List.replicate 64 (Value.int .u64 0)).toArray 27)) U.heap.size 27 (bkc noK) := by rw [bkc_no]; exact Blk.new _ _ _
        replace kP := kP.alloc (.cells (List.replicate 64 (Value.int .u64 0)).toArray 27)
        generalize hV : U.alloc _ = V
        replace hS0 : Below X.heap.size X V := by rw [← hV]; exact hS0
        replace hS : Blk V w.heap.size 27 (bkc b) := by rw [← hV]; exact hS
        replace kP : Blk V NP 27 (bkc noK) := by rw [← hV]; exact kP
        replace kQ : Blk V U.heap.size 27 (bkc noK) := by rw [← hV]; exact kQ
        clear hV
        generalize U.heap.size = NQ at *
        have hPQ : NP ≠ NQ := hne
        refine wpAnyH_ready (rs := [4]) (by kernel_rfl) (by simp) ?_
        refine' AllReadyH.cons (o := _) ?ho6 (fun K hK => ?st6) AllReadyH.nil
        case ho6 => simp only [List.getElem?_toArray, List.getElem?_cons_succ, List.getElem?_cons_zero]; rfl
        case st6 =>
          refine wp_store_book (.tmp 15) (.tmp 44) kP (bkc_len noK) b rfl rfl rfl rfl ?_
          replace kQ := kQ.rowO (bkc b).toArray (fun e => hPQ e.symm)
          replace hS0 := hS0.grown (grownBy_row V NP (bkc b).toArray) hS0.size (fun e he => by cases he; exact hP)
          replace kP := kP.row (bkc b)
          refine hK.out _ _ (hS.rowO _ (show w.heap.size ≠ NP by omega)) (fun hS => ?_)
          clear hK K
          try simp only [Act.put, List.setIfInBounds_toArray, List.set_cons_zero, List.set_cons_succ]
          generalize V.setRow _ _ = V2 at *
          refine wpAnyH_ready (rs := [5]) (by kernel_rfl) (by simp) ?_
          refine' AllReadyH.cons (o := _) ?ho7 (fun K hK => ?st7) AllReadyH.nil
          case ho7 => simp only [List.getElem?_toArray, List.getElem?_cons_succ, List.getElem?_cons_zero]; rfl
          case st7 =>
            refine wp_store_book (.tmp 16) (.tmp 45) kQ (bkc_len noK) b rfl rfl rfl rfl ?_
            replace kP := kP.rowO (bkc b).toArray hPQ
            replace hS0 := hS0.grown (grownBy_row V2 NQ (bkc b).toArray) hS0.size (fun e he => by cases he; exact hQ)
            replace kQ := kQ.row (bkc b)
            refine hK.out _ _ (hS.rowO _ (show w.heap.size ≠ NQ by omega)) (fun hS => ?_)
            clear hK K
            try simp only [Act.put, List.setIfInBounds_toArray, List.set_cons_zero, List.set_cons_succ]
            refine wpAnyH_done (by kernel_rfl) ?_ _
            go_wp2_with fail
            go_meet
            exact ⟨_, _, rfl, rfl, kP, kQ, hP, hQ, hPQ, hS0⟩
    case st4 =>
      go_simp
      have hQ : X.heap.size ≤ Y.heap.size := hS0.size
      replace hS0 := hS0.alloc hS0.size (.cells (List.replicate 64 (Value.int .u64 0)).toArray 27)
      refine hK.out _ _ (hS.alloc (.cells (List.replicate 64 (Value.int .u64 0)).toArray 27)) (fun hS => ?_)
      clear hK K
      try simp only [Act.put, List.setIfInBounds_toArray, List.set_cons_zero, List.set_cons_succ]
      have kQ : Blk (Y.alloc (.cells (List.replicate 64 (Value.int .u64 0)).toArray 27)) Y.heap.size 27 (bkc noK) := by rw [bkc_no]; exact Blk.new _ _ _
      generalize hU : Y.alloc _ = U
      replace hS0 : Below X.heap.size X U := by rw [← hU]; exact hS0
      replace hS : Blk U w.heap.size 27 (bkc b) := by rw [← hU]; exact hS
      replace kQ : Blk U Y.heap.size 27 (bkc noK) := by rw [← hU]; exact kQ
      clear hU
      generalize Y.heap.size = NQ at *
      refine wpAnyH_ready (rs := [2]) (by kernel_rfl) (by simp) ?_
      refine' AllReadyH.cons (o := _) ?ho8 (fun K hK => ?st8) AllReadyH.nil
      case ho8 => simp only [List.getElem?_toArray, List.getElem?_cons_succ, List.getElem?_cons_zero]; rfl
      case st8 =>
        go_simp
        have hP : X.heap.size ≤ U.heap.size := hS0.size
        have hne : NQ ≠ U.heap.size := Nat.ne_of_lt kQ.lt
        replace hS0 := hS0.alloc hS0.size (.cells (List.replicate 64 (Value.int .u64 0)).toArray 27)
        refine hK.out _ _ (hS.alloc (.cells (List.replicate 64 (Value.int .u64 0)).toArray 27)) (fun hS => ?_)
        clear hK K
        try simp only [Act.put, List.setIfInBounds_toArray, List.set_cons_zero, List.set_cons_succ]
        have kP : Blk (U.alloc (.cells (List.replicate 64 (Value.int .u64 0)).toArray 27)) U.heap.size 27 (bkc noK) := by rw [bkc_no]; exact Blk.new _ _ _
        replace kQ := kQ.alloc (.cells (List.replicate 64 (Value.int .u64 0)).toArray 27)
        generalize hV : U.alloc _ = V
        replace hS0 : Below X.heap.size X V := by rw [← hV]; exact hS0
        replace hS : Blk V w.heap.size 27 (bkc b) := by rw [← hV]; exact hS
        replace kQ : Blk V NQ 27 (bkc noK) := by rw [← hV]; exact kQ
        replace kP : Blk V U.heap.size 27 (bkc noK) := by rw [← hV]; exact kP
        clear hV
        generalize U.heap.size = NP at *
        have hPQ : NP ≠ NQ := fun e => hne e.symm
        refine wpAnyH_ready (rs := [4]) (by kernel_rfl) (by simp) ?_
        refine' AllReadyH.cons (o := _) ?ho9 (fun K hK => ?st9) AllReadyH.nil
        case ho9 => simp only [List.getElem?_toArray, List.getElem?_cons_succ, List.getElem?_cons_zero]; rfl
        case st9 =>
          refine wp_store_book (.tmp 15) (.tmp 44) kP (bkc_len noK) b rfl rfl rfl rfl ?_
          replace kQ := kQ.rowO (bkc b).toArray (fun e => hPQ e.symm)
          replace hS0 := hS0.grown (grownBy_row V NP (bkc b).toArray) hS0.size (fun e he => by cases he; exact hP)
          replace kP := kP.row (bkc b)
          refine hK.out _ _ (hS.rowO _ (show w.heap.size ≠ NP by omega)) (fun hS => ?_)
          clear hK K
          try simp only [Act.put, List.setIfInBounds_toArray, List.set_cons_zero, List.set_cons_succ]
          generalize V.setRow _ _ = V2 at *
          refine wpAnyH_ready (rs := [5]) (by kernel_rfl) (by simp) ?_
          refine' AllReadyH.cons (o := _) ?ho10 (fun K hK => ?st10) AllReadyH.nil
          case ho10 => simp only [List.getElem?_toArray, List.getElem?_cons_succ, List.getElem?_cons_zero]; rfl
          case st10 =>
            refine wp_store_book (.tmp 16) (.tmp 45) kQ (bkc_len noK) b rfl rfl rfl rfl ?_
            replace kP := kP.rowO (bkc b).toArray hPQ
            replace hS0 := hS0.grown (grownBy_row V2 NQ (bkc b).toArray) hS0.size (fun e he => by cases he; exact hQ)
            replace kQ := kQ.row (bkc b)
            refine hK.out _ _ (hS.rowO _ (show w.heap.size ≠ NQ by omega)) (fun hS => ?_)
            clear hK K
            try simp only [Act.put, List.setIfInBounds_toArray, List.set_cons_zero, List.set_cons_succ]
            refine wpAnyH_done (by kernel_rfl) ?_ _
            go_wp2_with fail
            go_meet
            exact ⟨_, _, rfl, rfl, kP, kQ, hP, hQ, hPQ, hS0⟩
  case rest =>
    obtain ⟨P, Q, rfl, rfl, kP, kQ, hP, hQ, hPQ, hb3⟩ := hcut
    have hb3x : gX < gY ∧ gY < P ∧ gY < Q ∧ w.heap.size + 1 < gX ∧ P ≠ Q := by have := kY.lt; have := hgX; have := hgY; exact ⟨by omega, by omega, by omega, by omega, hPQ⟩
    replace kB := kB.below hb3 kB.lt
    replace kA := kA.below hb3 kA.lt
    replace kX := kX.below hb3 kX.lt
    replace kY := kY.below hb3 kY.lt
    replace hB := chain hB hb3
    clear hb3
    clear hP hQ hzY hgX hgY hPQ
    have hzX := hb3x
    clear hb3x
    have hgPQ : P < wc.heap.size ∧ Q < wc.heap.size := ⟨kP.lt, kQ.lt⟩
    go_upto_if 48 with (go_at_call 9; refine (at_any _ _ _).mono ?_; rintro e w1 ⟨rfl, rfl⟩)
    have kO : Blk (wc.alloc (.cells #[.int .u64 0, .int .u64 0, .int .u64 0, .int .u64 0] 24)) wc.heap.size 24 (ws (nw 0)) := by rw [ws_no]; exact Blk.new _ _ _
    replace kB := kB.alloc (.cells #[.int .u64 0, .int .u64 0, .int .u64 0, .int .u64 0] 24)
    replace kA := kA.alloc (.cells #[.int .u64 0, .int .u64 0, .int .u64 0, .int .u64 0] 24)
    replace kX := kX.alloc (.cells #[.int .u64 0, .int .u64 0, .int .u64 0, .int .u64 0] 24)
    replace kY := kY.alloc (.cells #[.int .u64 0, .int .u64 0, .int .u64 0, .int .u64 0] 24)
    replace kP := kP.alloc (.cells #[.int .u64 0, .int .u64 0, .int .u64 0, .int .u64 0] 24)
    replace kQ := kQ.alloc (.cells #[.int .u64 0, .int .u64 0, .int .u64 0, .int .u64 0] 24)
    replace hB := chainA hB (.cells #[.int .u64 0, .int .u64 0, .int .u64 0, .int .u64 0] 24)
    generalize wc.alloc (.cells #[.int .u64 0, .int .u64 0, .int .u64 0, .int .u64 0] 24) = Z at *
    generalize wc.heap.size = O at *
    have hgO := kO.lt
    go_cut [18, 19, 48] (fun g h _ W => LaidK w w.heap.size gX gY P Q O b bg bt eg et ofn g h W)
    case first =>
      by_cases h : atS a s
      · have HP : Hid (placeB a s = true) := Lib.hid (decide_eq_true h)
        have hq := HQ.out h
        have hof := HF2.out h
        replace HG2 := Lib.hid (HG2.out h)
        replace HG3 := Lib.hid (HG3.out h)
        replace HK2 := Lib.hid (HK2.out h)
        replace HK3 := Lib.hid (HK3.out h)
        obtain ⟨⟨h1, h2⟩, h3, h4⟩ := h
        obtain ⟨i, rfl⟩ : ∃ i : Nat, a = i := ⟨a.toNat, by omega⟩
        obtain ⟨j, rfl⟩ : ∃ j : Nat, s = j := ⟨s.toNat, by omega⟩
        have hi : i < 8 := by omega
        have hj : j < 2 := by omega
        rw [HP.out]
        have hsl : slotS (i : Int) (j : Int) = 2 * i + j := rfl
        rw [hsl] at HG2 HG3 HK2 HK3 hq hof
        generalize hqe : b (2 * i + j) = q at *
        have HB4 := Lib.hid hqe
        subst hof
        have CA := Lib.hid (refAddN_any hq HN.out)
        have CS := Lib.hid (refSubN_any hq HN.out)
        clear HG1 HK1 HF1 HF2 HQ HP hsl hqe hq
        by_cases hf : ofn + n < M4
        · obtain ⟨rfl, rfl⟩ : bg = updB b (2 * i + j) (ofn + n) ∧ eg = 0 := by have := HG2.out hf; injection this with h5 h6; exact ⟨h5, h6⟩
          have e1 : addN ofn n = ofn + n := if_pos hf
          have e2 : fitB ofn n = true := decide_eq_true hf
          rw [e1, e2] at CA
          clear e1 e2 hf HG2 HG3
          by_cases hl : n ≤ ofn
          · obtain ⟨rfl, rfl⟩ : bt = updB b (2 * i + j) (ofn - n) ∧ et = 0 := by have := HK2.out hl; injection this with h5 h6; exact ⟨h5, h6⟩
            rw [show lessB ofn n = true from decide_eq_true hl] at CS
            clear hl HK2 HK3
            go_upto_region 14 with (first
              | ((with_reducible refine wpList_loadIf 24 (.tmp 52) ?_ (some 53) ?_ ?_ (wn ofn) ?_ ?_); (· rfl); (· rfl); (· rfl); (· have hl := load_slot kB hi hj; rw [HB4.out] at hl; exact hl))
              | ((with_reducible refine wpList_store_wn (.tmp 17) (.tmp 53) kO ofn ?_ ?_ ?_ ?_ ?_ ?_); (· rfl); (· rfl); (· rfl); (· rfl); (· rfl); replace kB := kB.rowO (ws (nw ofn)).toArray (show w.heap.size ≠ O by omega); replace kA := kA.rowO (ws (nw ofn)).toArray (show w.heap.size + 1 ≠ O by omega); replace kX := kX.rowO (ws (nw ofn)).toArray (show gX ≠ O by omega); replace kY := kY.rowO (ws (nw ofn)).toArray (show gY ≠ O by omega); replace kP := kP.rowO (ws (nw ofn)).toArray (show P ≠ O by omega); replace kQ := kQ.rowO (ws (nw ofn)).toArray (show Q ≠ O by omega); replace hB := hB.grown (grownBy_row Z O (ws (nw ofn)).toArray) hB.size (fun e he => by cases he; omega); replace kO := kO.row (ws (nw ofn)))
              | ((with_reducible refine wpList_loadIf 24 (.tmp 17) ?_ (some 55) ?_ ?_ (wn (ofn)) ?_ ?_); (· rfl); (· rfl); (· rfl); (· exact load_wn kO))
              | ((with_reducible refine wpList_loadIf 24 (.tmp 8) ?_ (some 56) ?_ ?_ (wn (n)) ?_ ?_); (· rfl); (· rfl); (· rfl); (· exact load_wn kA))
              | (go_at_call 10; refine (CA.out _).mono ?_; rintro e w4 ⟨rfl, hb4⟩; replace kB := kB.below hb4 kB.lt; replace kA := kA.below hb4 kA.lt; replace kX := kX.below hb4 kX.lt; replace kY := kY.below hb4 kY.lt; replace kP := kP.below hb4 kP.lt; replace kQ := kQ.below hb4 kQ.lt; replace kO := kO.below hb4 kO.lt; replace hB := chain hB hb4; clear hb4; have hq4 := (show Q < w4.heap.size ∧ P < w4.heap.size ∧ O < w4.heap.size from ⟨kQ.lt, kP.lt, kO.lt⟩); have kU := Blk.new w4 24 (ws (nw (ofn + n))); replace kB := kB.alloc (.cells (ws (nw (ofn + n))).toArray 24); replace kA := kA.alloc (.cells (ws (nw (ofn + n))).toArray 24); replace kX := kX.alloc (.cells (ws (nw (ofn + n))).toArray 24); replace kY := kY.alloc (.cells (ws (nw (ofn + n))).toArray 24); replace kP := kP.alloc (.cells (ws (nw (ofn + n))).toArray 24); replace kQ := kQ.alloc (.cells (ws (nw (ofn + n))).toArray 24); replace kO := kO.alloc (.cells (ws (nw (ofn + n))).toArray 24); replace hB := chainA hB (.cells (ws (nw (ofn + n))).toArray 24))
              | ((with_reducible refine wpList_loadIf 24 (.tmp 17) ?_ (some 61) ?_ ?_ (wn (ofn)) ?_ ?_); (· rfl); (· rfl); (· rfl); (· exact load_wn kO))
              | ((with_reducible refine wpList_loadIf 24 (.tmp 8) ?_ (some 62) ?_ ?_ (wn (n)) ?_ ?_); (· rfl); (· rfl); (· rfl); (· exact load_wn kA))
              | (go_at_call 11; refine (CS.out _).mono ?_; rintro e w5 ⟨rfl, hb5⟩; replace kB := kB.below hb5 kB.lt; replace kA := kA.below hb5 kA.lt; replace kX := kX.below hb5 kX.lt; replace kY := kY.below hb5 kY.lt; replace kP := kP.below hb5 kP.lt; replace kQ := kQ.below hb5 kQ.lt; replace kO := kO.below hb5 kO.lt; replace kU := kU.below hb5 kU.lt; replace hB := chain hB hb5; clear hb5; have hq5 := (show w4.heap.size < w5.heap.size from kU.lt); have kV := Blk.new w5 24 (ws (nw (ofn - n))); replace kB := kB.alloc (.cells (ws (nw (ofn - n))).toArray 24); replace kA := kA.alloc (.cells (ws (nw (ofn - n))).toArray 24); replace kX := kX.alloc (.cells (ws (nw (ofn - n))).toArray 24); replace kY := kY.alloc (.cells (ws (nw (ofn - n))).toArray 24); replace kP := kP.alloc (.cells (ws (nw (ofn - n))).toArray 24); replace kQ := kQ.alloc (.cells (ws (nw (ofn - n))).toArray 24); replace kO := kO.alloc (.cells (ws (nw (ofn - n))).toArray 24); replace kU := kU.alloc (.cells (ws (nw (ofn - n))).toArray 24); replace hB := chainA hB (.cells (ws (nw (ofn - n))).toArray 24)))
            generalize hZ2 : World.alloc w5 _ = Z2
            replace kB : Blk Z2 _ _ _ := hZ2 ▸ kB
            replace kX : Blk Z2 _ _ _ := hZ2 ▸ kX
            replace kY : Blk Z2 _ _ _ := hZ2 ▸ kY
            replace kP : Blk Z2 _ _ _ := hZ2 ▸ kP
            replace kQ : Blk Z2 _ _ _ := hZ2 ▸ kQ
            replace kO : Blk Z2 _ _ _ := hZ2 ▸ kO
            replace kU : Blk Z2 _ _ _ := hZ2 ▸ kU
            replace kV : Blk Z2 _ _ _ := hZ2 ▸ kV
            replace hB : Below w.heap.size w Z2 := hZ2 ▸ hB
            clear hZ2
            refine wp_region_held_drew (S := fun W => Blk W w4.heap.size 24 (ws (nw (ofn + n)))) hmx kU.drew ?_
            intro hS
            replace kB := kB.drew
            replace kX := kX.drew
            replace kY := kY.drew
            replace kP := kP.drew
            replace kQ := kQ.drew
            replace kO := kO.drew
            replace kV := kV.drew
            replace hB := hB.drew
            clear kU
            generalize World.drew _ = Y at *
            refine' wpAnyH_take (i := 0) (oi := _) (v := _) ?hi11 (by kernel_rfl) (by kernel_rfl) (by kernel_rfl) ?hQ11 (Or.inl ⟨?hw11, ?hy11⟩) hS ?rest11
            case hi11 => simp only [List.getElem?_toArray, List.getElem?_cons_zero]; rfl
            case hQ11 => exact fun _ _ _ h => h
            case hw11 => rfl
            case hy11 => intro W' hS'; go_simp; with_reducible rfl
            try simp only [Act.put, List.setIfInBounds_toArray, List.set_cons_zero, List.set_cons_succ]
            refine' wpAnyH_take (i := 1) (oi := _) (v := _) ?hi12 (by kernel_rfl) (by kernel_rfl) (by kernel_rfl) ?hQ12 (Or.inl ⟨?hw12, ?hy12⟩) hS ?rest12
            case hi12 => simp only [List.getElem?_toArray, List.getElem?_cons_succ, List.getElem?_cons_zero]; rfl
            case hQ12 => exact fun _ _ _ h => h
            case hw12 => rfl
            case hy12 => intro W' hS'; go_simp; with_reducible rfl
            try simp only [Act.put, List.setIfInBounds_toArray, List.set_cons_zero, List.set_cons_succ]
            refine' wpAnyH_take (i := 2) (oi := _) (v := wn (ofn + n)) ?hi13 (by kernel_rfl) (by kernel_rfl) (by kernel_rfl) ?hQ13 (Or.inl ⟨?hw13, ?hy13⟩) hS ?rest13
            case hi13 => simp only [List.getElem?_toArray, List.getElem?_cons_succ, List.getElem?_cons_zero]; rfl
            case hQ13 => exact fun _ _ _ h => h
            case hw13 => rfl
            case hy13 => exact fun W' hS' => exec_load 24 (.tmp 20) rfl _ W' (load_wn hS')
            try simp only [Act.put, List.setIfInBounds_toArray, List.set_cons_zero, List.set_cons_succ]
            refine' wpAnyH_take (i := 3) (oi := _) (v := _) ?hi14 (by kernel_rfl) (by kernel_rfl) (by kernel_rfl) ?hQ14 (Or.inl ⟨?hw14, ?hy14⟩) hS ?rest14
            case hi14 => simp only [List.getElem?_toArray, List.getElem?_cons_succ, List.getElem?_cons_zero]; rfl
            case hQ14 => exact fun _ _ _ h => h
            case hw14 => rfl
            case hy14 => intro W' hS'; go_simp; with_reducible rfl
            try simp only [Act.put, List.setIfInBounds_toArray, List.set_cons_zero, List.set_cons_succ]
            refine' wpAnyH_take (i := 4) (oi := _) (v := _) ?hi15 (by kernel_rfl) (by kernel_rfl) (by kernel_rfl) ?hQ15 (Or.inl ⟨?hw15, ?hy15⟩) hS ?rest15
            case hi15 => simp only [List.getElem?_toArray, List.getElem?_cons_succ, List.getElem?_cons_zero]; rfl
            case hQ15 => exact fun _ _ _ h => h
            case hw15 => rfl
            case hy15 => intro W' hS'; go_simp; with_reducible rfl
            try simp only [Act.put, List.setIfInBounds_toArray, List.set_cons_zero, List.set_cons_succ]
            refine wpAnyH_ready (rs := [5]) (by kernel_rfl) (by simp) ?_
            refine' AllReadyH.cons (o := _) ?ho16 (fun K hK => ?st16) AllReadyH.nil
            case ho16 => simp only [List.getElem?_toArray, List.getElem?_cons_succ, List.getElem?_cons_zero]; rfl
            case st16 =>
              refine wp_store_slot (.tmp 71) (.tmp 69) kP hi hj (ofn + n) rfl rfl rfl rfl ?_
              replace kB := kB.rowO (bkc (updB b (2 * i + j) (ofn + n))).toArray (show w.heap.size ≠ P by omega)
              replace kX := kX.rowO (bkc (updB b (2 * i + j) (ofn + n))).toArray (show gX ≠ P by omega)
              replace kY := kY.rowO (bkc (updB b (2 * i + j) (ofn + n))).toArray (show gY ≠ P by omega)
              replace kQ := kQ.rowO (bkc (updB b (2 * i + j) (ofn + n))).toArray (show Q ≠ P by omega)
              replace kO := kO.rowO (bkc (updB b (2 * i + j) (ofn + n))).toArray (show O ≠ P by omega)
              replace kV := kV.rowO (bkc (updB b (2 * i + j) (ofn + n))).toArray (show w5.heap.size ≠ P by omega)
              replace hB := hB.grown (grownBy_row Y P (bkc (updB b (2 * i + j) (ofn + n))).toArray) hB.size (fun e he => by cases he; omega)
              replace kP := kP.row (bkc (updB b (2 * i + j) (ofn + n)))
              refine hK.out _ _ (hS.rowO _ (show w4.heap.size ≠ P by omega)) (fun hS => ?_)
              clear hK K
              try simp only [Act.put, List.setIfInBounds_toArray, List.set_cons_zero, List.set_cons_succ]
              generalize Y.setRow _ _ = Y2 at *
              refine' wpAnyH_take (i := 6) (oi := _) (v := _) ?hi17 (by kernel_rfl) (by kernel_rfl) (by kernel_rfl) ?hQ17 (Or.inl ⟨?hw17, ?hy17⟩) hS ?rest17
              case hi17 => simp only [List.getElem?_toArray, List.getElem?_cons_succ, List.getElem?_cons_zero]; rfl
              case hQ17 => exact fun _ _ _ h => h
              case hw17 => rfl
              case hy17 => intro W' hS'; go_simp; with_reducible rfl
              try simp only [Act.put, List.setIfInBounds_toArray, List.set_cons_zero, List.set_cons_succ]
              refine wpAnyH_done (by kernel_rfl) ?_ _
              clear hS
              go_upto_region 16 with fail
              refine wp_region_held_drew (S := fun W => Blk W w5.heap.size 24 (ws (nw (ofn - n)))) hmx kV.drew ?_
              intro hS
              replace kB := kB.drew
              replace kX := kX.drew
              replace kY := kY.drew
              replace kP := kP.drew
              replace kQ := kQ.drew
              replace kO := kO.drew
              replace hB := hB.drew
              clear kV
              generalize World.drew _ = Y at *
              refine' wpAnyH_take (i := 0) (oi := _) (v := _) ?hi18 (by kernel_rfl) (by kernel_rfl) (by kernel_rfl) ?hQ18 (Or.inl ⟨?hw18, ?hy18⟩) hS ?rest18
              case hi18 => simp only [List.getElem?_toArray, List.getElem?_cons_zero]; rfl
              case hQ18 => exact fun _ _ _ h => h
              case hw18 => rfl
              case hy18 => intro W' hS'; go_simp; with_reducible rfl
              try simp only [Act.put, List.setIfInBounds_toArray, List.set_cons_zero, List.set_cons_succ]
              refine' wpAnyH_take (i := 1) (oi := _) (v := _) ?hi19 (by kernel_rfl) (by kernel_rfl) (by kernel_rfl) ?hQ19 (Or.inl ⟨?hw19, ?hy19⟩) hS ?rest19
              case hi19 => simp only [List.getElem?_toArray, List.getElem?_cons_succ, List.getElem?_cons_zero]; rfl
              case hQ19 => exact fun _ _ _ h => h
              case hw19 => rfl
              case hy19 => intro W' hS'; go_simp; with_reducible rfl
              try simp only [Act.put, List.setIfInBounds_toArray, List.set_cons_zero, List.set_cons_succ]
              refine' wpAnyH_take (i := 2) (oi := _) (v := wn (ofn - n)) ?hi20 (by kernel_rfl) (by kernel_rfl) (by kernel_rfl) ?hQ20 (Or.inl ⟨?hw20, ?hy20⟩) hS ?rest20
              case hi20 => simp only [List.getElem?_toArray, List.getElem?_cons_succ, List.getElem?_cons_zero]; rfl
              case hQ20 => exact fun _ _ _ h => h
              case hw20 => rfl
              case hy20 => exact fun W' hS' => exec_load 24 (.tmp 22) rfl _ W' (load_wn hS')
              try simp only [Act.put, List.setIfInBounds_toArray, List.set_cons_zero, List.set_cons_succ]
              refine' wpAnyH_take (i := 3) (oi := _) (v := _) ?hi21 (by kernel_rfl) (by kernel_rfl) (by kernel_rfl) ?hQ21 (Or.inl ⟨?hw21, ?hy21⟩) hS ?rest21
              case hi21 => simp only [List.getElem?_toArray, List.getElem?_cons_succ, List.getElem?_cons_zero]; rfl
              case hQ21 => exact fun _ _ _ h => h
              case hw21 => rfl
              case hy21 => intro W' hS'; go_simp; with_reducible rfl
              try simp only [Act.put, List.setIfInBounds_toArray, List.set_cons_zero, List.set_cons_succ]
              refine' wpAnyH_take (i := 4) (oi := _) (v := _) ?hi22 (by kernel_rfl) (by kernel_rfl) (by kernel_rfl) ?hQ22 (Or.inl ⟨?hw22, ?hy22⟩) hS ?rest22
              case hi22 => simp only [List.getElem?_toArray, List.getElem?_cons_succ, List.getElem?_cons_zero]; rfl
              case hQ22 => exact fun _ _ _ h => h
              case hw22 => rfl
              case hy22 => intro W' hS'; go_simp; with_reducible rfl
              try simp only [Act.put, List.setIfInBounds_toArray, List.set_cons_zero, List.set_cons_succ]
              refine wpAnyH_ready (rs := [5]) (by kernel_rfl) (by simp) ?_
              refine' AllReadyH.cons (o := _) ?ho23 (fun K hK => ?st23) AllReadyH.nil
              case ho23 => simp only [List.getElem?_toArray, List.getElem?_cons_succ, List.getElem?_cons_zero]; rfl
              case st23 =>
                refine wp_store_slot (.tmp 77) (.tmp 75) kQ hi hj (ofn - n) rfl rfl rfl rfl ?_
                replace kB := kB.rowO (bkc (updB b (2 * i + j) (ofn - n))).toArray (show w.heap.size ≠ Q by omega)
                replace kX := kX.rowO (bkc (updB b (2 * i + j) (ofn - n))).toArray (show gX ≠ Q by omega)
                replace kY := kY.rowO (bkc (updB b (2 * i + j) (ofn - n))).toArray (show gY ≠ Q by omega)
                replace kP := kP.rowO (bkc (updB b (2 * i + j) (ofn - n))).toArray (show P ≠ Q by omega)
                replace kO := kO.rowO (bkc (updB b (2 * i + j) (ofn - n))).toArray (show O ≠ Q by omega)
                replace hB := hB.grown (grownBy_row Y Q (bkc (updB b (2 * i + j) (ofn - n))).toArray) hB.size (fun e he => by cases he; omega)
                replace kQ := kQ.row (bkc (updB b (2 * i + j) (ofn - n)))
                refine hK.out _ _ (hS.rowO _ (show w5.heap.size ≠ Q by omega)) (fun hS => ?_)
                clear hK K
                try simp only [Act.put, List.setIfInBounds_toArray, List.set_cons_zero, List.set_cons_succ]
                generalize Y.setRow _ _ = Y2 at *
                refine' wpAnyH_take (i := 6) (oi := _) (v := _) ?hi24 (by kernel_rfl) (by kernel_rfl) (by kernel_rfl) ?hQ24 (Or.inl ⟨?hw24, ?hy24⟩) hS ?rest24
                case hi24 => simp only [List.getElem?_toArray, List.getElem?_cons_succ, List.getElem?_cons_zero]; rfl
                case hQ24 => exact fun _ _ _ h => h
                case hw24 => rfl
                case hy24 => intro W' hS'; go_simp; with_reducible rfl
                try simp only [Act.put, List.setIfInBounds_toArray, List.set_cons_zero, List.set_cons_succ]
                refine wpAnyH_done (by kernel_rfl) ?_ _
                go_wp2_with fail
                go_meet
                exact ⟨rfl, rfl, kB, kX, kY, kP, kQ, kO, hB⟩

          · obtain ⟨rfl, rfl⟩ : bt = b ∧ et = 30 := by have := HK3.out hl; injection this with h5 h6; exact ⟨h5, h6⟩
            rw [show lessB ofn n = false from decide_eq_false hl] at CS
            clear hl HK2 HK3
            go_upto_region 14 with (first
              | ((with_reducible refine wpList_loadIf 24 (.tmp 52) ?_ (some 53) ?_ ?_ (wn ofn) ?_ ?_); (· rfl); (· rfl); (· rfl); (· have hl := load_slot kB hi hj; rw [HB4.out] at hl; exact hl))
              | ((with_reducible refine wpList_store_wn (.tmp 17) (.tmp 53) kO ofn ?_ ?_ ?_ ?_ ?_ ?_); (· rfl); (· rfl); (· rfl); (· rfl); (· rfl); replace kB := kB.rowO (ws (nw ofn)).toArray (show w.heap.size ≠ O by omega); replace kA := kA.rowO (ws (nw ofn)).toArray (show w.heap.size + 1 ≠ O by omega); replace kX := kX.rowO (ws (nw ofn)).toArray (show gX ≠ O by omega); replace kY := kY.rowO (ws (nw ofn)).toArray (show gY ≠ O by omega); replace kP := kP.rowO (ws (nw ofn)).toArray (show P ≠ O by omega); replace kQ := kQ.rowO (ws (nw ofn)).toArray (show Q ≠ O by omega); replace hB := hB.grown (grownBy_row Z O (ws (nw ofn)).toArray) hB.size (fun e he => by cases he; omega); replace kO := kO.row (ws (nw ofn)))
              | ((with_reducible refine wpList_loadIf 24 (.tmp 17) ?_ (some 55) ?_ ?_ (wn (ofn)) ?_ ?_); (· rfl); (· rfl); (· rfl); (· exact load_wn kO))
              | ((with_reducible refine wpList_loadIf 24 (.tmp 8) ?_ (some 56) ?_ ?_ (wn (n)) ?_ ?_); (· rfl); (· rfl); (· rfl); (· exact load_wn kA))
              | (go_at_call 10; refine (CA.out _).mono ?_; rintro e w4 ⟨rfl, hb4⟩; replace kB := kB.below hb4 kB.lt; replace kA := kA.below hb4 kA.lt; replace kX := kX.below hb4 kX.lt; replace kY := kY.below hb4 kY.lt; replace kP := kP.below hb4 kP.lt; replace kQ := kQ.below hb4 kQ.lt; replace kO := kO.below hb4 kO.lt; replace hB := chain hB hb4; clear hb4; have hq4 := (show Q < w4.heap.size ∧ P < w4.heap.size ∧ O < w4.heap.size from ⟨kQ.lt, kP.lt, kO.lt⟩); have kU := Blk.new w4 24 (ws (nw (ofn + n))); replace kB := kB.alloc (.cells (ws (nw (ofn + n))).toArray 24); replace kA := kA.alloc (.cells (ws (nw (ofn + n))).toArray 24); replace kX := kX.alloc (.cells (ws (nw (ofn + n))).toArray 24); replace kY := kY.alloc (.cells (ws (nw (ofn + n))).toArray 24); replace kP := kP.alloc (.cells (ws (nw (ofn + n))).toArray 24); replace kQ := kQ.alloc (.cells (ws (nw (ofn + n))).toArray 24); replace kO := kO.alloc (.cells (ws (nw (ofn + n))).toArray 24); replace hB := chainA hB (.cells (ws (nw (ofn + n))).toArray 24))
              | ((with_reducible refine wpList_loadIf 24 (.tmp 17) ?_ (some 61) ?_ ?_ (wn (ofn)) ?_ ?_); (· rfl); (· rfl); (· rfl); (· exact load_wn kO))
              | ((with_reducible refine wpList_loadIf 24 (.tmp 8) ?_ (some 62) ?_ ?_ (wn (n)) ?_ ?_); (· rfl); (· rfl); (· rfl); (· exact load_wn kA))
              | (go_at_call 11; refine (CS.out _).mono ?_; rintro e w5 ⟨rfl, hb5⟩; replace kB := kB.below hb5 kB.lt; replace kA := kA.below hb5 kA.lt; replace kX := kX.below hb5 kX.lt; replace kY := kY.below hb5 kY.lt; replace kP := kP.below hb5 kP.lt; replace kQ := kQ.below hb5 kQ.lt; replace kO := kO.below hb5 kO.lt; replace kU := kU.below hb5 kU.lt; replace hB := chain hB hb5; clear hb5; have hq5 := (show w4.heap.size < w5.heap.size from kU.lt); have kV := Blk.new w5 24 (ws (nw (ofn - n))); replace kB := kB.alloc (.cells (ws (nw (ofn - n))).toArray 24); replace kA := kA.alloc (.cells (ws (nw (ofn - n))).toArray 24); replace kX := kX.alloc (.cells (ws (nw (ofn - n))).toArray 24); replace kY := kY.alloc (.cells (ws (nw (ofn - n))).toArray 24); replace kP := kP.alloc (.cells (ws (nw (ofn - n))).toArray 24); replace kQ := kQ.alloc (.cells (ws (nw (ofn - n))).toArray 24); replace kO := kO.alloc (.cells (ws (nw (ofn - n))).toArray 24); replace kU := kU.alloc (.cells (ws (nw (ofn - n))).toArray 24); replace hB := chainA hB (.cells (ws (nw (ofn - n))).toArray 24)))
            generalize hZ2 : World.alloc w5 _ = Z2
            replace kB : Blk Z2 _ _ _ := hZ2 ▸ kB
            replace kX : Blk Z2 _ _ _ := hZ2 ▸ kX
            replace kY : Blk Z2 _ _ _ := hZ2 ▸ kY
            replace kP : Blk Z2 _ _ _ := hZ2 ▸ kP
            replace kQ : Blk Z2 _ _ _ := hZ2 ▸ kQ
            replace kO : Blk Z2 _ _ _ := hZ2 ▸ kO
            replace kU : Blk Z2 _ _ _ := hZ2 ▸ kU
            replace kV : Blk Z2 _ _ _ := hZ2 ▸ kV
            replace hB : Below w.heap.size w Z2 := hZ2 ▸ hB
            clear hZ2
            refine wp_region_held_drew (S := fun W => Blk W w4.heap.size 24 (ws (nw (ofn + n)))) hmx kU.drew ?_
            intro hS
            replace kB := kB.drew
            replace kX := kX.drew
            replace kY := kY.drew
            replace kP := kP.drew
            replace kQ := kQ.drew
            replace kO := kO.drew
            replace kV := kV.drew
            replace hB := hB.drew
            clear kU
            generalize World.drew _ = Y at *
            refine' wpAnyH_take (i := 0) (oi := _) (v := _) ?hi25 (by kernel_rfl) (by kernel_rfl) (by kernel_rfl) ?hQ25 (Or.inl ⟨?hw25, ?hy25⟩) hS ?rest25
            case hi25 => simp only [List.getElem?_toArray, List.getElem?_cons_zero]; rfl
            case hQ25 => exact fun _ _ _ h => h
            case hw25 => rfl
            case hy25 => intro W' hS'; go_simp; with_reducible rfl
            try simp only [Act.put, List.setIfInBounds_toArray, List.set_cons_zero, List.set_cons_succ]
            refine' wpAnyH_take (i := 1) (oi := _) (v := _) ?hi26 (by kernel_rfl) (by kernel_rfl) (by kernel_rfl) ?hQ26 (Or.inl ⟨?hw26, ?hy26⟩) hS ?rest26
            case hi26 => simp only [List.getElem?_toArray, List.getElem?_cons_succ, List.getElem?_cons_zero]; rfl
            case hQ26 => exact fun _ _ _ h => h
            case hw26 => rfl
            case hy26 => intro W' hS'; go_simp; with_reducible rfl
            try simp only [Act.put, List.setIfInBounds_toArray, List.set_cons_zero, List.set_cons_succ]
            refine' wpAnyH_take (i := 2) (oi := _) (v := wn (ofn + n)) ?hi27 (by kernel_rfl) (by kernel_rfl) (by kernel_rfl) ?hQ27 (Or.inl ⟨?hw27, ?hy27⟩) hS ?rest27
            case hi27 => simp only [List.getElem?_toArray, List.getElem?_cons_succ, List.getElem?_cons_zero]; rfl
            case hQ27 => exact fun _ _ _ h => h
            case hw27 => rfl
            case hy27 => exact fun W' hS' => exec_load 24 (.tmp 20) rfl _ W' (load_wn hS')
            try simp only [Act.put, List.setIfInBounds_toArray, List.set_cons_zero, List.set_cons_succ]
            refine' wpAnyH_take (i := 3) (oi := _) (v := _) ?hi28 (by kernel_rfl) (by kernel_rfl) (by kernel_rfl) ?hQ28 (Or.inl ⟨?hw28, ?hy28⟩) hS ?rest28
            case hi28 => simp only [List.getElem?_toArray, List.getElem?_cons_succ, List.getElem?_cons_zero]; rfl
            case hQ28 => exact fun _ _ _ h => h
            case hw28 => rfl
            case hy28 => intro W' hS'; go_simp; with_reducible rfl
            try simp only [Act.put, List.setIfInBounds_toArray, List.set_cons_zero, List.set_cons_succ]
            refine' wpAnyH_take (i := 4) (oi := _) (v := _) ?hi29 (by kernel_rfl) (by kernel_rfl) (by kernel_rfl) ?hQ29 (Or.inl ⟨?hw29, ?hy29⟩) hS ?rest29
            case hi29 => simp only [List.getElem?_toArray, List.getElem?_cons_succ, List.getElem?_cons_zero]; rfl
            case hQ29 => exact fun _ _ _ h => h
            case hw29 => rfl
            case hy29 => intro W' hS'; go_simp; with_reducible rfl
            try simp only [Act.put, List.setIfInBounds_toArray, List.set_cons_zero, List.set_cons_succ]
            refine wpAnyH_ready (rs := [5]) (by kernel_rfl) (by simp) ?_
            refine' AllReadyH.cons (o := _) ?ho30 (fun K hK => ?st30) AllReadyH.nil
            case ho30 => simp only [List.getElem?_toArray, List.getElem?_cons_succ, List.getElem?_cons_zero]; rfl
            case st30 =>
              refine wp_store_slot (.tmp 71) (.tmp 69) kP hi hj (ofn + n) rfl rfl rfl rfl ?_
              replace kB := kB.rowO (bkc (updB bt (2 * i + j) (ofn + n))).toArray (show w.heap.size ≠ P by omega)
              replace kX := kX.rowO (bkc (updB bt (2 * i + j) (ofn + n))).toArray (show gX ≠ P by omega)
              replace kY := kY.rowO (bkc (updB bt (2 * i + j) (ofn + n))).toArray (show gY ≠ P by omega)
              replace kQ := kQ.rowO (bkc (updB bt (2 * i + j) (ofn + n))).toArray (show Q ≠ P by omega)
              replace kO := kO.rowO (bkc (updB bt (2 * i + j) (ofn + n))).toArray (show O ≠ P by omega)
              replace kV := kV.rowO (bkc (updB bt (2 * i + j) (ofn + n))).toArray (show w5.heap.size ≠ P by omega)
              replace hB := hB.grown (grownBy_row Y P (bkc (updB bt (2 * i + j) (ofn + n))).toArray) hB.size (fun e he => by cases he; omega)
              replace kP := kP.row (bkc (updB bt (2 * i + j) (ofn + n)))
              refine hK.out _ _ (hS.rowO _ (show w4.heap.size ≠ P by omega)) (fun hS => ?_)
              clear hK K
              try simp only [Act.put, List.setIfInBounds_toArray, List.set_cons_zero, List.set_cons_succ]
              generalize Y.setRow _ _ = Y2 at *
              refine' wpAnyH_take (i := 6) (oi := _) (v := _) ?hi31 (by kernel_rfl) (by kernel_rfl) (by kernel_rfl) ?hQ31 (Or.inl ⟨?hw31, ?hy31⟩) hS ?rest31
              case hi31 => simp only [List.getElem?_toArray, List.getElem?_cons_succ, List.getElem?_cons_zero]; rfl
              case hQ31 => exact fun _ _ _ h => h
              case hw31 => rfl
              case hy31 => intro W' hS'; go_simp; with_reducible rfl
              try simp only [Act.put, List.setIfInBounds_toArray, List.set_cons_zero, List.set_cons_succ]
              refine wpAnyH_done (by kernel_rfl) ?_ _
              go_wp2_with fail
              go_meet
              exact ⟨rfl, rfl, kB, kX, kY, kP, kQ, kO, hB⟩

        · obtain ⟨rfl, rfl⟩ : bg = b ∧ eg = 38 := by have := HG3.out hf; injection this with h5 h6; exact ⟨h5, h6⟩
          rw [show fitB ofn n = false from decide_eq_false hf] at CA
          generalize addN ofn n = up at *
          clear hf HG2 HG3
          by_cases hl : n ≤ ofn
          · obtain ⟨rfl, rfl⟩ : bt = updB bg (2 * i + j) (ofn - n) ∧ et = 0 := by have := HK2.out hl; injection this with h5 h6; exact ⟨h5, h6⟩
            rw [show lessB ofn n = true from decide_eq_true hl] at CS
            clear hl HK2 HK3
            go_upto_region 16 with (first
              | ((with_reducible refine wpList_loadIf 24 (.tmp 52) ?_ (some 53) ?_ ?_ (wn ofn) ?_ ?_); (· rfl); (· rfl); (· rfl); (· have hl := load_slot kB hi hj; rw [HB4.out] at hl; exact hl))
              | ((with_reducible refine wpList_store_wn (.tmp 17) (.tmp 53) kO ofn ?_ ?_ ?_ ?_ ?_ ?_); (· rfl); (· rfl); (· rfl); (· rfl); (· rfl); replace kB := kB.rowO (ws (nw ofn)).toArray (show w.heap.size ≠ O by omega); replace kA := kA.rowO (ws (nw ofn)).toArray (show w.heap.size + 1 ≠ O by omega); replace kX := kX.rowO (ws (nw ofn)).toArray (show gX ≠ O by omega); replace kY := kY.rowO (ws (nw ofn)).toArray (show gY ≠ O by omega); replace kP := kP.rowO (ws (nw ofn)).toArray (show P ≠ O by omega); replace kQ := kQ.rowO (ws (nw ofn)).toArray (show Q ≠ O by omega); replace hB := hB.grown (grownBy_row Z O (ws (nw ofn)).toArray) hB.size (fun e he => by cases he; omega); replace kO := kO.row (ws (nw ofn)))
              | ((with_reducible refine wpList_loadIf 24 (.tmp 17) ?_ (some 55) ?_ ?_ (wn (ofn)) ?_ ?_); (· rfl); (· rfl); (· rfl); (· exact load_wn kO))
              | ((with_reducible refine wpList_loadIf 24 (.tmp 8) ?_ (some 56) ?_ ?_ (wn (n)) ?_ ?_); (· rfl); (· rfl); (· rfl); (· exact load_wn kA))
              | (go_at_call 10; refine (CA.out _).mono ?_; rintro e w4 ⟨rfl, hb4⟩; replace kB := kB.below hb4 kB.lt; replace kA := kA.below hb4 kA.lt; replace kX := kX.below hb4 kX.lt; replace kY := kY.below hb4 kY.lt; replace kP := kP.below hb4 kP.lt; replace kQ := kQ.below hb4 kQ.lt; replace kO := kO.below hb4 kO.lt; replace hB := chain hB hb4; clear hb4; have hq4 := (show Q < w4.heap.size ∧ P < w4.heap.size ∧ O < w4.heap.size from ⟨kQ.lt, kP.lt, kO.lt⟩); have kU := Blk.new w4 24 (ws (nw (up))); replace kB := kB.alloc (.cells (ws (nw (up))).toArray 24); replace kA := kA.alloc (.cells (ws (nw (up))).toArray 24); replace kX := kX.alloc (.cells (ws (nw (up))).toArray 24); replace kY := kY.alloc (.cells (ws (nw (up))).toArray 24); replace kP := kP.alloc (.cells (ws (nw (up))).toArray 24); replace kQ := kQ.alloc (.cells (ws (nw (up))).toArray 24); replace kO := kO.alloc (.cells (ws (nw (up))).toArray 24); replace hB := chainA hB (.cells (ws (nw (up))).toArray 24))
              | ((with_reducible refine wpList_loadIf 24 (.tmp 17) ?_ (some 61) ?_ ?_ (wn (ofn)) ?_ ?_); (· rfl); (· rfl); (· rfl); (· exact load_wn kO))
              | ((with_reducible refine wpList_loadIf 24 (.tmp 8) ?_ (some 62) ?_ ?_ (wn (n)) ?_ ?_); (· rfl); (· rfl); (· rfl); (· exact load_wn kA))
              | (go_at_call 11; refine (CS.out _).mono ?_; rintro e w5 ⟨rfl, hb5⟩; replace kB := kB.below hb5 kB.lt; replace kA := kA.below hb5 kA.lt; replace kX := kX.below hb5 kX.lt; replace kY := kY.below hb5 kY.lt; replace kP := kP.below hb5 kP.lt; replace kQ := kQ.below hb5 kQ.lt; replace kO := kO.below hb5 kO.lt; replace kU := kU.below hb5 kU.lt; replace hB := chain hB hb5; clear hb5; have hq5 := (show w4.heap.size < w5.heap.size from kU.lt); have kV := Blk.new w5 24 (ws (nw (ofn - n))); replace kB := kB.alloc (.cells (ws (nw (ofn - n))).toArray 24); replace kA := kA.alloc (.cells (ws (nw (ofn - n))).toArray 24); replace kX := kX.alloc (.cells (ws (nw (ofn - n))).toArray 24); replace kY := kY.alloc (.cells (ws (nw (ofn - n))).toArray 24); replace kP := kP.alloc (.cells (ws (nw (ofn - n))).toArray 24); replace kQ := kQ.alloc (.cells (ws (nw (ofn - n))).toArray 24); replace kO := kO.alloc (.cells (ws (nw (ofn - n))).toArray 24); replace kU := kU.alloc (.cells (ws (nw (ofn - n))).toArray 24); replace hB := chainA hB (.cells (ws (nw (ofn - n))).toArray 24)))
            generalize hZ2 : World.alloc w5 _ = Z2
            replace kB : Blk Z2 _ _ _ := hZ2 ▸ kB
            replace kX : Blk Z2 _ _ _ := hZ2 ▸ kX
            replace kY : Blk Z2 _ _ _ := hZ2 ▸ kY
            replace kP : Blk Z2 _ _ _ := hZ2 ▸ kP
            replace kQ : Blk Z2 _ _ _ := hZ2 ▸ kQ
            replace kO : Blk Z2 _ _ _ := hZ2 ▸ kO
            replace kU : Blk Z2 _ _ _ := hZ2 ▸ kU
            replace kV : Blk Z2 _ _ _ := hZ2 ▸ kV
            replace hB : Below w.heap.size w Z2 := hZ2 ▸ hB
            clear hZ2
            refine wp_region_held_drew (S := fun W => Blk W w5.heap.size 24 (ws (nw (ofn - n)))) hmx kV.drew ?_
            intro hS
            replace kB := kB.drew
            replace kX := kX.drew
            replace kY := kY.drew
            replace kP := kP.drew
            replace kQ := kQ.drew
            replace kO := kO.drew
            replace hB := hB.drew
            clear kV
            generalize World.drew _ = Y at *
            refine' wpAnyH_take (i := 0) (oi := _) (v := _) ?hi32 (by kernel_rfl) (by kernel_rfl) (by kernel_rfl) ?hQ32 (Or.inl ⟨?hw32, ?hy32⟩) hS ?rest32
            case hi32 => simp only [List.getElem?_toArray, List.getElem?_cons_zero]; rfl
            case hQ32 => exact fun _ _ _ h => h
            case hw32 => rfl
            case hy32 => intro W' hS'; go_simp; with_reducible rfl
            try simp only [Act.put, List.setIfInBounds_toArray, List.set_cons_zero, List.set_cons_succ]
            refine' wpAnyH_take (i := 1) (oi := _) (v := _) ?hi33 (by kernel_rfl) (by kernel_rfl) (by kernel_rfl) ?hQ33 (Or.inl ⟨?hw33, ?hy33⟩) hS ?rest33
            case hi33 => simp only [List.getElem?_toArray, List.getElem?_cons_succ, List.getElem?_cons_zero]; rfl
            case hQ33 => exact fun _ _ _ h => h
            case hw33 => rfl
            case hy33 => intro W' hS'; go_simp; with_reducible rfl
            try simp only [Act.put, List.setIfInBounds_toArray, List.set_cons_zero, List.set_cons_succ]
            refine' wpAnyH_take (i := 2) (oi := _) (v := wn (ofn - n)) ?hi34 (by kernel_rfl) (by kernel_rfl) (by kernel_rfl) ?hQ34 (Or.inl ⟨?hw34, ?hy34⟩) hS ?rest34
            case hi34 => simp only [List.getElem?_toArray, List.getElem?_cons_succ, List.getElem?_cons_zero]; rfl
            case hQ34 => exact fun _ _ _ h => h
            case hw34 => rfl
            case hy34 => exact fun W' hS' => exec_load 24 (.tmp 22) rfl _ W' (load_wn hS')
            try simp only [Act.put, List.setIfInBounds_toArray, List.set_cons_zero, List.set_cons_succ]
            refine' wpAnyH_take (i := 3) (oi := _) (v := _) ?hi35 (by kernel_rfl) (by kernel_rfl) (by kernel_rfl) ?hQ35 (Or.inl ⟨?hw35, ?hy35⟩) hS ?rest35
            case hi35 => simp only [List.getElem?_toArray, List.getElem?_cons_succ, List.getElem?_cons_zero]; rfl
            case hQ35 => exact fun _ _ _ h => h
            case hw35 => rfl
            case hy35 => intro W' hS'; go_simp; with_reducible rfl
            try simp only [Act.put, List.setIfInBounds_toArray, List.set_cons_zero, List.set_cons_succ]
            refine' wpAnyH_take (i := 4) (oi := _) (v := _) ?hi36 (by kernel_rfl) (by kernel_rfl) (by kernel_rfl) ?hQ36 (Or.inl ⟨?hw36, ?hy36⟩) hS ?rest36
            case hi36 => simp only [List.getElem?_toArray, List.getElem?_cons_succ, List.getElem?_cons_zero]; rfl
            case hQ36 => exact fun _ _ _ h => h
            case hw36 => rfl
            case hy36 => intro W' hS'; go_simp; with_reducible rfl
            try simp only [Act.put, List.setIfInBounds_toArray, List.set_cons_zero, List.set_cons_succ]
            refine wpAnyH_ready (rs := [5]) (by kernel_rfl) (by simp) ?_
            refine' AllReadyH.cons (o := _) ?ho37 (fun K hK => ?st37) AllReadyH.nil
            case ho37 => simp only [List.getElem?_toArray, List.getElem?_cons_succ, List.getElem?_cons_zero]; rfl
            case st37 =>
              refine wp_store_slot (.tmp 77) (.tmp 75) kQ hi hj (ofn - n) rfl rfl rfl rfl ?_
              replace kB := kB.rowO (bkc (updB bg (2 * i + j) (ofn - n))).toArray (show w.heap.size ≠ Q by omega)
              replace kX := kX.rowO (bkc (updB bg (2 * i + j) (ofn - n))).toArray (show gX ≠ Q by omega)
              replace kY := kY.rowO (bkc (updB bg (2 * i + j) (ofn - n))).toArray (show gY ≠ Q by omega)
              replace kP := kP.rowO (bkc (updB bg (2 * i + j) (ofn - n))).toArray (show P ≠ Q by omega)
              replace kO := kO.rowO (bkc (updB bg (2 * i + j) (ofn - n))).toArray (show O ≠ Q by omega)
              replace hB := hB.grown (grownBy_row Y Q (bkc (updB bg (2 * i + j) (ofn - n))).toArray) hB.size (fun e he => by cases he; omega)
              replace kQ := kQ.row (bkc (updB bg (2 * i + j) (ofn - n)))
              refine hK.out _ _ (hS.rowO _ (show w5.heap.size ≠ Q by omega)) (fun hS => ?_)
              clear hK K
              try simp only [Act.put, List.setIfInBounds_toArray, List.set_cons_zero, List.set_cons_succ]
              generalize Y.setRow _ _ = Y2 at *
              refine' wpAnyH_take (i := 6) (oi := _) (v := _) ?hi38 (by kernel_rfl) (by kernel_rfl) (by kernel_rfl) ?hQ38 (Or.inl ⟨?hw38, ?hy38⟩) hS ?rest38
              case hi38 => simp only [List.getElem?_toArray, List.getElem?_cons_succ, List.getElem?_cons_zero]; rfl
              case hQ38 => exact fun _ _ _ h => h
              case hw38 => rfl
              case hy38 => intro W' hS'; go_simp; with_reducible rfl
              try simp only [Act.put, List.setIfInBounds_toArray, List.set_cons_zero, List.set_cons_succ]
              refine wpAnyH_done (by kernel_rfl) ?_ _
              go_wp2_with fail
              go_meet
              exact ⟨rfl, rfl, kB, kX, kY, kP, kQ, kO, hB⟩

          · obtain ⟨rfl, rfl⟩ : bt = bg ∧ et = 30 := by have := HK3.out hl; injection this with h5 h6; exact ⟨h5, h6⟩
            rw [show lessB ofn n = false from decide_eq_false hl] at CS
            clear hl HK2 HK3
            go_wp2_with (first
              | ((with_reducible refine wpList_loadIf 24 (.tmp 52) ?_ (some 53) ?_ ?_ (wn ofn) ?_ ?_); (· rfl); (· rfl); (· rfl); (· have hl := load_slot kB hi hj; rw [HB4.out] at hl; exact hl))
              | ((with_reducible refine wpList_store_wn (.tmp 17) (.tmp 53) kO ofn ?_ ?_ ?_ ?_ ?_ ?_); (· rfl); (· rfl); (· rfl); (· rfl); (· rfl); replace kB := kB.rowO (ws (nw ofn)).toArray (show w.heap.size ≠ O by omega); replace kA := kA.rowO (ws (nw ofn)).toArray (show w.heap.size + 1 ≠ O by omega); replace kX := kX.rowO (ws (nw ofn)).toArray (show gX ≠ O by omega); replace kY := kY.rowO (ws (nw ofn)).toArray (show gY ≠ O by omega); replace kP := kP.rowO (ws (nw ofn)).toArray (show P ≠ O by omega); replace kQ := kQ.rowO (ws (nw ofn)).toArray (show Q ≠ O by omega); replace hB := hB.grown (grownBy_row Z O (ws (nw ofn)).toArray) hB.size (fun e he => by cases he; omega); replace kO := kO.row (ws (nw ofn)))
              | ((with_reducible refine wpList_loadIf 24 (.tmp 17) ?_ (some 55) ?_ ?_ (wn (ofn)) ?_ ?_); (· rfl); (· rfl); (· rfl); (· exact load_wn kO))
              | ((with_reducible refine wpList_loadIf 24 (.tmp 8) ?_ (some 56) ?_ ?_ (wn (n)) ?_ ?_); (· rfl); (· rfl); (· rfl); (· exact load_wn kA))
              | (go_at_call 10; refine (CA.out _).mono ?_; rintro e w4 ⟨rfl, hb4⟩; replace kB := kB.below hb4 kB.lt; replace kA := kA.below hb4 kA.lt; replace kX := kX.below hb4 kX.lt; replace kY := kY.below hb4 kY.lt; replace kP := kP.below hb4 kP.lt; replace kQ := kQ.below hb4 kQ.lt; replace kO := kO.below hb4 kO.lt; replace hB := chain hB hb4; clear hb4; have hq4 := (show Q < w4.heap.size ∧ P < w4.heap.size ∧ O < w4.heap.size from ⟨kQ.lt, kP.lt, kO.lt⟩); have kU := Blk.new w4 24 (ws (nw (up))); replace kB := kB.alloc (.cells (ws (nw (up))).toArray 24); replace kA := kA.alloc (.cells (ws (nw (up))).toArray 24); replace kX := kX.alloc (.cells (ws (nw (up))).toArray 24); replace kY := kY.alloc (.cells (ws (nw (up))).toArray 24); replace kP := kP.alloc (.cells (ws (nw (up))).toArray 24); replace kQ := kQ.alloc (.cells (ws (nw (up))).toArray 24); replace kO := kO.alloc (.cells (ws (nw (up))).toArray 24); replace hB := chainA hB (.cells (ws (nw (up))).toArray 24))
              | ((with_reducible refine wpList_loadIf 24 (.tmp 17) ?_ (some 61) ?_ ?_ (wn (ofn)) ?_ ?_); (· rfl); (· rfl); (· rfl); (· exact load_wn kO))
              | ((with_reducible refine wpList_loadIf 24 (.tmp 8) ?_ (some 62) ?_ ?_ (wn (n)) ?_ ?_); (· rfl); (· rfl); (· rfl); (· exact load_wn kA))
              | (go_at_call 11; refine (CS.out _).mono ?_; rintro e w5 ⟨rfl, hb5⟩; replace kB := kB.below hb5 kB.lt; replace kA := kA.below hb5 kA.lt; replace kX := kX.below hb5 kX.lt; replace kY := kY.below hb5 kY.lt; replace kP := kP.below hb5 kP.lt; replace kQ := kQ.below hb5 kQ.lt; replace kO := kO.below hb5 kO.lt; replace kU := kU.below hb5 kU.lt; replace hB := chain hB hb5; clear hb5; have hq5 := (show w4.heap.size < w5.heap.size from kU.lt); have kV := Blk.new w5 24 (ws (nw (ofn - n))); replace kB := kB.alloc (.cells (ws (nw (ofn - n))).toArray 24); replace kA := kA.alloc (.cells (ws (nw (ofn - n))).toArray 24); replace kX := kX.alloc (.cells (ws (nw (ofn - n))).toArray 24); replace kY := kY.alloc (.cells (ws (nw (ofn - n))).toArray 24); replace kP := kP.alloc (.cells (ws (nw (ofn - n))).toArray 24); replace kQ := kQ.alloc (.cells (ws (nw (ofn - n))).toArray 24); replace kO := kO.alloc (.cells (ws (nw (ofn - n))).toArray 24); replace kU := kU.alloc (.cells (ws (nw (ofn - n))).toArray 24); replace hB := chainA hB (.cells (ws (nw (ofn - n))).toArray 24)))
            go_meet
            exact ⟨rfl, rfl, kB, kX, kY, kP, kQ, kO, hB⟩

      · have HP : Hid (placeB a s = false) := Lib.hid (decide_eq_false h)
        obtain ⟨rfl, rfl⟩ : bg = b ∧ eg = 4 := by have := HG1.out h; injection this with h5 h6; exact ⟨h5, h6⟩
        obtain ⟨rfl, rfl⟩ : bt = bg ∧ et = 4 := by have := HK1.out h; injection this with h5 h6; exact ⟨h5, h6⟩
        obtain rfl := HF1.out h
        rw [HP.out]
        clear HG1 HG2 HG3 HK1 HK2 HK3 HF1 HF2 HQ h
        go_wp2_with fail
        go_meet
        exact ⟨rfl, rfl, kB, kX, kY, kP, kQ, kO, hB⟩
    case rest =>
      clear kB kA kX kY kP kQ kO hB HG1 HG2 HG3 HK1 HK2 HK3 HF1 HF2 HQ HN hgO hgPQ hzX
      obtain ⟨rfl, rfl, kB, kX, kY, kP, kQ, kO, hB⟩ := hcut
      go_wp2_with (first
        | (go_at_call 12; refine (HE.out _).mono ?_; rintro e w6 ⟨rfl, hb6⟩; replace kB := kB.below hb6 kB.lt; replace kX := kX.below hb6 kX.lt; replace kY := kY.below hb6 kY.lt; replace kP := kP.below hb6 kP.lt; replace kQ := kQ.below hb6 kQ.lt; replace kO := kO.below hb6 kO.lt; replace hB := chain hB hb6; clear hb6)
        | ((with_reducible refine wpList_storeN_book (.tmp 24) (.tmp 79) ?_ (fun _ => m) ?_ ?_ ?_ ?_ ?_ ?_); (· rfl); (· rfl); (· rfl); (· rfl); (· rfl); (· rfl); have kE := Blk.new w6 27 (bkc (fun _ => m)); replace kB := kB.alloc (.cells (bkc (fun _ => m)).toArray 27); replace kX := kX.alloc (.cells (bkc (fun _ => m)).toArray 27); replace kY := kY.alloc (.cells (bkc (fun _ => m)).toArray 27); replace kP := kP.alloc (.cells (bkc (fun _ => m)).toArray 27); replace kQ := kQ.alloc (.cells (bkc (fun _ => m)).toArray 27); replace kO := kO.alloc (.cells (bkc (fun _ => m)).toArray 27); replace hB := chainA hB (.cells (bkc (fun _ => m)).toArray 27)))
      obtain ⟨m0, m1, m2, m3⟩ := nw_word HM.out
      have hwm : wn m = wv m 0 0 0 := by show wv (nw m 0) (nw m 1) (nw m 2) (nw m 3) = _; rw [m0, m1, m2, m3]
      have HL : Hid (∀ a c : Nat, a < 8 → c < 2 → (Instr.loadAt 24 (.pointer (some ⟨w6.heap.size, a * 8 + c * 4, none⟩))).run Try.prog (w6.alloc (.cells (bkc (fun _ => m)).toArray 27)) = .ok (wv m 0 0 0) (w6.alloc (.cells (bkc (fun _ => m)).toArray 27))) := Lib.hid fun a c ha hc => by
        have h := load_slot kE ha hc
        rw [← hwm]
        exact h
      clear m0 m1 m2 m3 hwm kE HE HM
      generalize w6.heap.size = gE at *
      generalize w6.alloc (.cells (bkc (fun _ => m)).toArray 27) = Z6 at *
      go_loop [25] (fun iv => ∃ k : Nat, k ≤ 16 ∧ iv = .int .i64 k) (fun iv => 16 - (intOf iv).toNat)
      case atStart => exact ⟨0, by omega, rfl⟩
      case round =>
        obtain ⟨k, hk, rfl⟩ := hrel
        by_cases hlt : k < 16
        · have hlt' : (k : Int) < 16 := by omega
          have hl := HL.out (k / 2) (k % 2) (by omega) (by omega)
          have q1 : (k : Int) / 2 = ((k / 2 : Nat) : Int) := by omega
          have q2 : (k : Int) % 2 = ((k % 2 : Nat) : Int) := by omega
          have b1 : k / 2 < 8 := by omega
          have b2 : k % 2 < 2 := by omega
          have heq := run_equalIn_wide
          have hrefl := wEq_refl
          have HH := Lib.hid hl
          generalize k / 2 = a1 at *
          generalize k % 2 = c1 at *
          clear hl
          go_wp2_with ((with_reducible refine wpList_loadIf 24 (.tmp 89) ?_ (some 90) ?_ ?_ (wv m 0 0 0) ?_ ?_); (· rfl); (· rfl); (· rfl); (· exact HH.out))
          go_round
          case rel => exact ⟨k + 1, by omega, by go_num⟩
          case measure => simp [intOf]; omega
        · obtain rfl : k = 16 := by omega
          clear HL
          go_wp2_with fail
          refine wp_region_held_drew (S := fun W => Below Z6.heap.size Z6 W) hmx (Below.refl _ Z6).drew ?_
          intro hS
          generalize Z6.drew = Y at *
          refine' wpAnyH_take (i := 0) (oi := _) (v := bkv b) ?hi39 (by kernel_rfl) (by kernel_rfl) (by kernel_rfl) ?hQ39 (Or.inl ⟨?hw39, ?hy39⟩) hS ?rest39
          case hi39 => simp only [List.getElem?_toArray, List.getElem?_cons_zero]; rfl
          case hQ39 => exact fun _ _ _ h => h
          case hw39 => rfl
          case hy39 => exact fun W' hS' => exec_load 27 (.tmp 5) rfl _ W' (load_book (kB.below hS' kB.lt))
          try simp only [Act.put, List.setIfInBounds_toArray, List.set_cons_zero, List.set_cons_succ]
          refine' wpAnyH_take (i := 1) (oi := _) (v := _) ?hi40 (by kernel_rfl) (by kernel_rfl) (by kernel_rfl) ?hQ40 (Or.inl ⟨?hw40, ?hy40⟩) hS ?rest40
          case hi40 => simp only [List.getElem?_toArray, List.getElem?_cons_succ, List.getElem?_cons_zero]; rfl
          case hQ40 => exact fun _ _ _ h => h
          case hw40 => rfl
          case hy40 => intro W' hS'; go_simp; with_reducible rfl
          try simp only [Act.put, List.setIfInBounds_toArray, List.set_cons_zero, List.set_cons_succ]
          refine' wpAnyH_take (i := 2) (oi := _) (v := _) ?hi41 (by kernel_rfl) (by kernel_rfl) (by kernel_rfl) ?hQ41 (Or.inl ⟨?hw41, ?hy41⟩) hS ?rest41
          case hi41 => simp only [List.getElem?_toArray, List.getElem?_cons_succ, List.getElem?_cons_zero]; rfl
          case hQ41 => exact fun _ _ _ h => h
          case hw41 => rfl
          case hy41 => intro W' hS'; go_simp; with_reducible rfl
          try simp only [Act.put, List.setIfInBounds_toArray, List.set_cons_zero, List.set_cons_succ]
          refine' wpAnyH_take (i := 4) (oi := _) (v := wn ofn) ?hi42 (by kernel_rfl) (by kernel_rfl) (by kernel_rfl) ?hQ42 (Or.inl ⟨?hw42, ?hy42⟩) hS ?rest42
          case hi42 => simp only [List.getElem?_toArray, List.getElem?_cons_succ, List.getElem?_cons_zero]; rfl
          case hQ42 => exact fun _ _ _ h => h
          case hw42 => rfl
          case hy42 => exact fun W' hS' => exec_load 24 (.tmp 17) rfl _ W' (load_wn (kO.below hS' kO.lt))
          try simp only [Act.put, List.setIfInBounds_toArray, List.set_cons_zero, List.set_cons_succ]
          refine wpAnyH_ready (rs := [3]) (by kernel_rfl) (by simp) ?_
          refine' AllReadyH.cons (o := _) ?ho43 (fun K hK => ?st43) AllReadyH.nil
          case ho43 => simp only [List.getElem?_toArray, List.getElem?_cons_succ, List.getElem?_cons_zero]; rfl
          case st43 =>
            go_simp
            refine (HO.out _).mono ?_
            rintro e Y1 ⟨rfl, hb1⟩
            refine hK.out _ _ (hS.trans (hb1.mono hS.size)) (fun hS => ?_)
            clear hK K
            try simp only [Act.put, List.setIfInBounds_toArray, List.set_cons_zero, List.set_cons_succ]
            clear hb1
            refine' wpAnyH_take (i := 5) (oi := _) (v := .bool true) ?hi44 (by kernel_rfl) (by kernel_rfl) (by kernel_rfl) ?hQ44 (Or.inl ⟨?hw44, ?hy44⟩) hS ?rest44
            case hi44 => simp only [List.getElem?_toArray, List.getElem?_cons_succ, List.getElem?_cons_zero]; rfl
            case hQ44 => exact fun _ _ _ h => h
            case hw44 => rfl
            case hy44 => exact fun W' hS' => exec_eqN (.tmp 97) (.tmp 98) _ rfl ofn rfl rfl W'
            try simp only [Act.put, List.setIfInBounds_toArray, List.set_cons_zero, List.set_cons_succ]
            refine' wpAnyH_take (i := 6) (oi := _) (v := _) ?hi45 (by kernel_rfl) (by kernel_rfl) (by kernel_rfl) ?hQ45 (Or.inl ⟨?hw45, ?hy45⟩) hS ?rest45
            case hi45 => simp only [List.getElem?_toArray, List.getElem?_cons_succ, List.getElem?_cons_zero]; rfl
            case hQ45 => exact fun _ _ _ h => h
            case hw45 => rfl
            case hy45 => intro W' hS'; go_simp; with_reducible rfl
            try simp only [Act.put, List.setIfInBounds_toArray, List.set_cons_zero, List.set_cons_succ]
            refine' wpAnyH_take (i := 7) (oi := _) (v := bkv bg) ?hi46 (by kernel_rfl) (by kernel_rfl) (by kernel_rfl) ?hQ46 (Or.inl ⟨?hw46, ?hy46⟩) hS ?rest46
            case hi46 => simp only [List.getElem?_toArray, List.getElem?_cons_succ, List.getElem?_cons_zero]; rfl
            case hQ46 => exact fun _ _ _ h => h
            case hw46 => rfl
            case hy46 => exact fun W' hS' => exec_load 27 (.tmp 11) rfl _ W' (load_book (kX.below hS' kX.lt))
            try simp only [Act.put, List.setIfInBounds_toArray, List.set_cons_zero, List.set_cons_succ]
            refine' wpAnyH_take (i := 8) (oi := _) (v := bkv bg) ?hi47 (by kernel_rfl) (by kernel_rfl) (by kernel_rfl) ?hQ47 (Or.inl ⟨?hw47, ?hy47⟩) hS ?rest47
            case hi47 => simp only [List.getElem?_toArray, List.getElem?_cons_succ, List.getElem?_cons_zero]; rfl
            case hQ47 => exact fun _ _ _ h => h
            case hw47 => rfl
            case hy47 => exact fun W' hS' => exec_load 27 (.tmp 15) rfl _ W' (load_book (kP.below hS' kP.lt))
            try simp only [Act.put, List.setIfInBounds_toArray, List.set_cons_zero, List.set_cons_succ]
            refine' wpAnyH_take (i := 9) (oi := _) (v := .bool true) ?hi48 (by kernel_rfl) (by kernel_rfl) (by kernel_rfl) ?hQ48 (Or.inl ⟨?hw48, ?hy48⟩) hS ?rest48
            case hi48 => simp only [List.getElem?_toArray, List.getElem?_cons_succ, List.getElem?_cons_zero]; rfl
            case hQ48 => exact fun _ _ _ h => h
            case hw48 => rfl
            case hy48 => exact fun W' hS' => exec_eqKs (.tmp 101) (.tmp 102) _ rfl bg rfl rfl W'
            try simp only [Act.put, List.setIfInBounds_toArray, List.set_cons_zero, List.set_cons_succ]
            refine' wpAnyH_take (i := 10) (oi := _) (v := _) ?hi49 (by kernel_rfl) (by kernel_rfl) (by kernel_rfl) ?hQ49 (Or.inl ⟨?hw49, ?hy49⟩) hS ?rest49
            case hi49 => simp only [List.getElem?_toArray, List.getElem?_cons_succ, List.getElem?_cons_zero]; rfl
            case hQ49 => exact fun _ _ _ h => h
            case hw49 => rfl
            case hy49 => intro W' hS'; go_simp; with_reducible rfl
            try simp only [Act.put, List.setIfInBounds_toArray, List.set_cons_zero, List.set_cons_succ]
            refine' wpAnyH_take (i := 11) (oi := _) (v := _) ?hi50 (by kernel_rfl) (by kernel_rfl) (by kernel_rfl) ?hQ50 (Or.inl ⟨?hw50, ?hy50⟩) hS ?rest50
            case hi50 => simp only [List.getElem?_toArray, List.getElem?_cons_succ, List.getElem?_cons_zero]; rfl
            case hQ50 => exact fun _ _ _ h => h
            case hw50 => rfl
            case hy50 => intro W' hS'; go_simp; with_reducible rfl
            try simp only [Act.put, List.setIfInBounds_toArray, List.set_cons_zero, List.set_cons_succ]
            refine' wpAnyH_take (i := 12) (oi := _) (v := _) ?hi51 (by kernel_rfl) (by kernel_rfl) (by kernel_rfl) ?hQ51 (Or.inl ⟨?hw51, ?hy51⟩) hS ?rest51
            case hi51 => simp only [List.getElem?_toArray, List.getElem?_cons_succ, List.getElem?_cons_zero]; rfl
            case hQ51 => exact fun _ _ _ h => h
            case hw51 => rfl
            case hy51 => intro W' hS'; go_simp; with_reducible rfl
            try simp only [Act.put, List.setIfInBounds_toArray, List.set_cons_zero, List.set_cons_succ]
            refine' wpAnyH_take (i := 13) (oi := _) (v := _) ?hi52 (by kernel_rfl) (by kernel_rfl) (by kernel_rfl) ?hQ52 (Or.inl ⟨?hw52, ?hy52⟩) hS ?rest52
            case hi52 => simp only [List.getElem?_toArray, List.getElem?_cons_succ, List.getElem?_cons_zero]; rfl
            case hQ52 => exact fun _ _ _ h => h
            case hw52 => rfl
            case hy52 => intro W' hS'; go_simp; with_reducible rfl
            try simp only [Act.put, List.setIfInBounds_toArray, List.set_cons_zero, List.set_cons_succ]
            refine' wpAnyH_take (i := 14) (oi := _) (v := _) ?hi53 (by kernel_rfl) (by kernel_rfl) (by kernel_rfl) ?hQ53 (Or.inl ⟨?hw53, ?hy53⟩) hS ?rest53
            case hi53 => simp only [List.getElem?_toArray, List.getElem?_cons_succ, List.getElem?_cons_zero]; rfl
            case hQ53 => exact fun _ _ _ h => h
            case hw53 => rfl
            case hy53 => intro W' hS'; go_simp; with_reducible rfl
            try simp only [Act.put, List.setIfInBounds_toArray, List.set_cons_zero, List.set_cons_succ]
            refine' wpAnyH_take (i := 15) (oi := _) (v := _) ?hi54 (by kernel_rfl) (by kernel_rfl) (by kernel_rfl) ?hQ54 (Or.inl ⟨?hw54, ?hy54⟩) hS ?rest54
            case hi54 => simp only [List.getElem?_toArray, List.getElem?_cons_succ, List.getElem?_cons_zero]; rfl
            case hQ54 => exact fun _ _ _ h => h
            case hw54 => rfl
            case hy54 => intro W' hS'; go_simp; with_reducible rfl
            try simp only [Act.put, List.setIfInBounds_toArray, List.set_cons_zero, List.set_cons_succ]
            refine' wpAnyH_take (i := 16) (oi := _) (v := _) ?hi55 (by kernel_rfl) (by kernel_rfl) (by kernel_rfl) ?hQ55 (Or.inl ⟨?hw55, ?hy55⟩) hS ?rest55
            case hi55 => simp only [List.getElem?_toArray, List.getElem?_cons_succ, List.getElem?_cons_zero]; rfl
            case hQ55 => exact fun _ _ _ h => h
            case hw55 => rfl
            case hy55 => intro W' hS'; go_simp; with_reducible rfl
            try simp only [Act.put, List.setIfInBounds_toArray, List.set_cons_zero, List.set_cons_succ]
            refine' wpAnyH_take (i := 17) (oi := _) (v := bkv bt) ?hi56 (by kernel_rfl) (by kernel_rfl) (by kernel_rfl) ?hQ56 (Or.inl ⟨?hw56, ?hy56⟩) hS ?rest56
            case hi56 => simp only [List.getElem?_toArray, List.getElem?_cons_succ, List.getElem?_cons_zero]; rfl
            case hQ56 => exact fun _ _ _ h => h
            case hw56 => rfl
            case hy56 => exact fun W' hS' => exec_load 27 (.tmp 13) rfl _ W' (load_book (kY.below hS' kY.lt))
            try simp only [Act.put, List.setIfInBounds_toArray, List.set_cons_zero, List.set_cons_succ]
            refine' wpAnyH_take (i := 18) (oi := _) (v := bkv bt) ?hi57 (by kernel_rfl) (by kernel_rfl) (by kernel_rfl) ?hQ57 (Or.inl ⟨?hw57, ?hy57⟩) hS ?rest57
            case hi57 => simp only [List.getElem?_toArray, List.getElem?_cons_succ, List.getElem?_cons_zero]; rfl
            case hQ57 => exact fun _ _ _ h => h
            case hw57 => rfl
            case hy57 => exact fun W' hS' => exec_load 27 (.tmp 16) rfl _ W' (load_book (kQ.below hS' kQ.lt))
            try simp only [Act.put, List.setIfInBounds_toArray, List.set_cons_zero, List.set_cons_succ]
            refine' wpAnyH_take (i := 19) (oi := _) (v := .bool true) ?hi58 (by kernel_rfl) (by kernel_rfl) (by kernel_rfl) ?hQ58 (Or.inl ⟨?hw58, ?hy58⟩) hS ?rest58
            case hi58 => simp only [List.getElem?_toArray, List.getElem?_cons_succ, List.getElem?_cons_zero]; rfl
            case hQ58 => exact fun _ _ _ h => h
            case hw58 => rfl
            case hy58 => exact fun W' hS' => exec_eqKs (.tmp 111) (.tmp 112) _ rfl bt rfl rfl W'
            try simp only [Act.put, List.setIfInBounds_toArray, List.set_cons_zero, List.set_cons_succ]
            refine' wpAnyH_take (i := 20) (oi := _) (v := _) ?hi59 (by kernel_rfl) (by kernel_rfl) (by kernel_rfl) ?hQ59 (Or.inl ⟨?hw59, ?hy59⟩) hS ?rest59
            case hi59 => simp only [List.getElem?_toArray, List.getElem?_cons_succ, List.getElem?_cons_zero]; rfl
            case hQ59 => exact fun _ _ _ h => h
            case hw59 => rfl
            case hy59 => intro W' hS'; go_simp; with_reducible rfl
            try simp only [Act.put, List.setIfInBounds_toArray, List.set_cons_zero, List.set_cons_succ]
            refine' wpAnyH_take (i := 21) (oi := _) (v := _) ?hi60 (by kernel_rfl) (by kernel_rfl) (by kernel_rfl) ?hQ60 (Or.inl ⟨?hw60, ?hy60⟩) hS ?rest60
            case hi60 => simp only [List.getElem?_toArray, List.getElem?_cons_succ, List.getElem?_cons_zero]; rfl
            case hQ60 => exact fun _ _ _ h => h
            case hw60 => rfl
            case hy60 => intro W' hS'; go_simp; with_reducible rfl
            try simp only [Act.put, List.setIfInBounds_toArray, List.set_cons_zero, List.set_cons_succ]
            refine' wpAnyH_take (i := 22) (oi := _) (v := _) ?hi61 (by kernel_rfl) (by kernel_rfl) (by kernel_rfl) ?hQ61 (Or.inl ⟨?hw61, ?hy61⟩) hS ?rest61
            case hi61 => simp only [List.getElem?_toArray, List.getElem?_cons_succ, List.getElem?_cons_zero]; rfl
            case hQ61 => exact fun _ _ _ h => h
            case hw61 => rfl
            case hy61 => intro W' hS'; go_simp; with_reducible rfl
            try simp only [Act.put, List.setIfInBounds_toArray, List.set_cons_zero, List.set_cons_succ]
            refine' wpAnyH_take (i := 23) (oi := _) (v := _) ?hi62 (by kernel_rfl) (by kernel_rfl) (by kernel_rfl) ?hQ62 (Or.inl ⟨?hw62, ?hy62⟩) hS ?rest62
            case hi62 => simp only [List.getElem?_toArray, List.getElem?_cons_succ, List.getElem?_cons_zero]; rfl
            case hQ62 => exact fun _ _ _ h => h
            case hw62 => rfl
            case hy62 => intro W' hS'; go_simp; with_reducible rfl
            try simp only [Act.put, List.setIfInBounds_toArray, List.set_cons_zero, List.set_cons_succ]
            refine' wpAnyH_take (i := 24) (oi := _) (v := _) ?hi63 (by kernel_rfl) (by kernel_rfl) (by kernel_rfl) ?hQ63 (Or.inl ⟨?hw63, ?hy63⟩) hS ?rest63
            case hi63 => simp only [List.getElem?_toArray, List.getElem?_cons_succ, List.getElem?_cons_zero]; rfl
            case hQ63 => exact fun _ _ _ h => h
            case hw63 => rfl
            case hy63 => intro W' hS'; go_simp; with_reducible rfl
            try simp only [Act.put, List.setIfInBounds_toArray, List.set_cons_zero, List.set_cons_succ]
            refine' wpAnyH_take (i := 25) (oi := _) (v := _) ?hi64 (by kernel_rfl) (by kernel_rfl) (by kernel_rfl) ?hQ64 (Or.inl ⟨?hw64, ?hy64⟩) hS ?rest64
            case hi64 => simp only [List.getElem?_toArray, List.getElem?_cons_succ, List.getElem?_cons_zero]; rfl
            case hQ64 => exact fun _ _ _ h => h
            case hw64 => rfl
            case hy64 => intro W' hS'; go_simp; with_reducible rfl
            try simp only [Act.put, List.setIfInBounds_toArray, List.set_cons_zero, List.set_cons_succ]
            refine' wpAnyH_take (i := 26) (oi := _) (v := _) ?hi65 (by kernel_rfl) (by kernel_rfl) (by kernel_rfl) ?hQ65 (Or.inl ⟨?hw65, ?hy65⟩) hS ?rest65
            case hi65 => simp only [List.getElem?_toArray, List.getElem?_cons_succ, List.getElem?_cons_zero]; rfl
            case hQ65 => exact fun _ _ _ h => h
            case hw65 => rfl
            case hy65 => intro W' hS'; go_simp; with_reducible rfl
            try simp only [Act.put, List.setIfInBounds_toArray, List.set_cons_zero, List.set_cons_succ]
            refine wpAnyH_done (by kernel_rfl) ?_ _
            go_wp2_with fail
            go_ret
            exact ⟨rfl, chain hB hS⟩
end Go.Proofs.Ytcgfnppknldhbaa
