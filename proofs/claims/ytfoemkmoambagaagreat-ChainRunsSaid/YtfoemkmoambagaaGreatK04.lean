/-
  purse: what is taken; purse: what is given; escrow: what is taken out of a vault; deposit, withdraw; Which transfers and sides' data may be: deal's Check and Sound; Which transactions may be: txs's Check
-/
import Derived.Deep.Cut
import Derived.Deep.CutRange
import Derived.Deep.DeepCutAuto
import Derived.Outline
import Derived.Great.BuildSlice
import Derived.WalkSpells
import Derived.Laws.CopyOwn
import Derived.Test.YtfoemkmoambagaaGreatK03
namespace Go.Proofs.YtfoemkmoambagaaGreat
open Go.RowKit Go.Shelf
set_option maxRecDepth 100000 in
set_option maxHeartbeats 4000000 in
theorem bookTake_any (b : Bk) (hb : OkK b) (a s : Int) (n : Nat) (hn : n < M4) (w : World) :
    Calls Tryz.prog 58 #[bkv b, .int .i64 a, .int .i64 s, wn n] w fun e W' => e = .returned (.tuple #[bkv (takeB b a s n).1, .int .i64 (takeB b a s n).2]) ∧ Below w.heap.size w W' := by
  have hmx : Tryz.prog.follows .mixedOrders = true := by kernel_rfl
  have kB0 := ((Blk.new w 31 (bkc b)).alloc (.cells (ws (nw n)).toArray 28)).alloc (.cells (bkc noK).toArray 31)
  have kA0 : Blk (((w.alloc (.cells (bkc b).toArray 31)).alloc (.cells (ws (nw n)).toArray 28)).alloc (.cells (bkc noK).toArray 31)) (w.heap.size + 1) 28 (ws (nw n)) := (Blk.new' (by simp)).alloc _
  have kR0 : Blk (((w.alloc (.cells (bkc b).toArray 31)).alloc (.cells (ws (nw n)).toArray 28)).alloc (.cells (bkc noK).toArray 31)) (w.heap.size + 1 + 1) 31 (bkc noK) := Blk.new' (by simp)
  have hB0 := chainA (chainA (chain0 w (.cells (bkc b).toArray 31)) (.cells (ws (nw n)).toArray 28)) (.cells (bkc noK).toArray 31)
  rw [bkc_no] at kB0 kA0 hB0
  have kR1 : Blk (((w.alloc (.cells (bkc b).toArray 31)).alloc (.cells (ws (nw n)).toArray 28)).alloc (.cells (List.replicate 64 (Value.int .u64 0)).toArray 31)) (w.heap.size + 1 + 1) 31 (bkc noK) := by rw [bkc_no] at kR0 ⊢; exact kR0
  clear kR0
  by_cases h : atS a s
  · have HP : Hid (placeB a s = true) := Lib.hid (decide_eq_true h)
    have HY := Lib.hid (fun k => takeB_yes (b := b) (n := n) h k)
    have HN := Lib.hid (fun k => takeB_low (b := b) (n := n) h k)
    have hs16 := slot_lt h
    obtain ⟨⟨h1, h2⟩, h3, h4⟩ := h
    obtain ⟨i, rfl⟩ : ∃ i : Nat, a = i := ⟨a.toNat, by omega⟩
    obtain ⟨j, rfl⟩ : ∃ j : Nat, s = j := ⟨s.toNat, by omega⟩
    have hi : i < 8 := by omega
    have hj : j < 2 := by omega
    have hbs := hb (2 * i + j) (by omega)
    replace HY : Hid (_ → takeB b (i : Int) (j : Int) n = (updB b (2 * i + j) (b (2 * i + j) - n), 0)) := HY
    replace HN : Hid (_ → takeB b (i : Int) (j : Int) n = (b, 30)) := HN
    have HC := Lib.hid (subN_any hbs hn)
    clear hs16 hbs
    generalize hq : b (2 * i + j) = q at *
    have HQ := Lib.hid hq
    clear hq
    go_enter Tryz.func58, Tryz.ntmps58
    go_upto_region 3 with (go_at_call 76; refine (isPlace_any _ _ _).mono ?_; rw [HP.out]; rintro e w1 ⟨rfl, rfl⟩)
    generalize hX : World.alloc (World.alloc (World.alloc _ _) _) _ = X
    have kB : Blk X w.heap.size 31 (bkc b) := by rw [← hX]; exact kB0
    have kA : Blk X (w.heap.size + 1) 28 (ws (nw n)) := by rw [← hX]; exact kA0
    have kR : Blk X (w.heap.size + 1 + 1) 31 (bkc noK) := by rw [← hX]; exact kR1
    have hB : Below w.heap.size w X := by rw [← hX]; exact hB0
    clear hX kB0 kA0 kR1 hB0
    go_cut [10, 11] (fun p f wc => NewN X (q - n) p wc ∧ f = .bool (lessB q n))
    case first =>
      refine wp_region_held_drew (S := fun W => Below X.heap.size X W) hmx (Below.refl _ X).drew ?_
      intro hS
      have hl : ∀ W, Below X.heap.size X W → (Instr.loadAt 28 (.pointer (some ⟨w.heap.size, i * 8 + j * 4, none⟩))).run Tryz.prog W = .ok (wn q) W := fun W h => by have := load_slot (kB.below h kB.lt) hi hj; rw [HQ.out] at this; exact this
      have HL := Lib.hid hl
      clear hl
      generalize X.drew = Y at *
      refine' wpAnyH_take (i := 0) (oi := _) (v := _) ?hi27 (by kernel_rfl) (by kernel_rfl) (by kernel_rfl) ?hQ27 (Or.inl ⟨?hw27, ?hy27⟩) hS ?rest27
      case hi27 => simp only [List.getElem?_toArray, List.getElem?_cons_zero]; rfl
      case hQ27 => exact fun _ _ _ h => h
      case hw27 => rfl
      case hy27 => intro W' hS'; go_simp; with_reducible rfl
      try simp only [Act.put, List.setIfInBounds_toArray, List.set_cons_zero, List.set_cons_succ]
      refine' wpAnyH_take (i := 1) (oi := _) (v := _) ?hi28 (by kernel_rfl) (by kernel_rfl) (by kernel_rfl) ?hQ28 (Or.inl ⟨?hw28, ?hy28⟩) hS ?rest28
      case hi28 => simp only [List.getElem?_toArray, List.getElem?_cons_succ, List.getElem?_cons_zero]; rfl
      case hQ28 => exact fun _ _ _ h => h
      case hw28 => rfl
      case hy28 => intro W' hS'; go_simp; with_reducible rfl
      try simp only [Act.put, List.setIfInBounds_toArray, List.set_cons_zero, List.set_cons_succ]
      refine' wpAnyH_take (i := 2) (oi := _) (v := _) ?hi29 (by kernel_rfl) (by kernel_rfl) (by kernel_rfl) ?hQ29 (Or.inl ⟨?hw29, ?hy29⟩) hS ?rest29
      case hi29 => simp only [List.getElem?_toArray, List.getElem?_cons_succ, List.getElem?_cons_zero]; rfl
      case hQ29 => exact fun _ _ _ h => h
      case hw29 => rfl
      case hy29 => intro W' hS'; go_simp; with_reducible rfl
      try simp only [Act.put, List.setIfInBounds_toArray, List.set_cons_zero, List.set_cons_succ]
      refine' wpAnyH_take (i := 3) (oi := _) (v := _) ?hi30 (by kernel_rfl) (by kernel_rfl) (by kernel_rfl) ?hQ30 (Or.inl ⟨?hw30, ?hy30⟩) hS ?rest30
      case hi30 => simp only [List.getElem?_toArray, List.getElem?_cons_succ, List.getElem?_cons_zero]; rfl
      case hQ30 => exact fun _ _ _ h => h
      case hw30 => rfl
      case hy30 => intro W' hS'; go_simp; with_reducible rfl
      try simp only [Act.put, List.setIfInBounds_toArray, List.set_cons_zero, List.set_cons_succ]
      refine' wpAnyH_take (i := 4) (oi := _) (v := wn q) ?hi31 (by kernel_rfl) (by kernel_rfl) (by kernel_rfl) ?hQ31 (Or.inl ⟨?hw31, ?hy31⟩) hS ?rest31
      case hi31 => simp only [List.getElem?_toArray, List.getElem?_cons_succ, List.getElem?_cons_zero]; rfl
      case hQ31 => exact fun _ _ _ h => h
      case hw31 => rfl
      case hy31 => exact fun W' hS' => exec_load 28 (.tmp 21) rfl _ W' (HL.out W' hS')
      try simp only [Act.put, List.setIfInBounds_toArray, List.set_cons_zero, List.set_cons_succ]
      refine' wpAnyH_take (i := 5) (oi := _) (v := wn n) ?hi32 (by kernel_rfl) (by kernel_rfl) (by kernel_rfl) ?hQ32 (Or.inl ⟨?hw32, ?hy32⟩) hS ?rest32
      case hi32 => simp only [List.getElem?_toArray, List.getElem?_cons_succ, List.getElem?_cons_zero]; rfl
      case hQ32 => exact fun _ _ _ h => h
      case hw32 => rfl
      case hy32 => exact fun W' hS' => exec_load 28 (.tmp 7) rfl _ W' (load_wn (kA.below hS' kA.lt))
      try simp only [Act.put, List.setIfInBounds_toArray, List.set_cons_zero, List.set_cons_succ]
      refine wpAnyH_ready (rs := [6, 10]) (by kernel_rfl) (by simp) ?_
      refine' AllReadyH.cons (o := _) ?ho33 (fun K hK => ?st33) (AllReadyH.cons (o := _) ?ho34 (fun K hK => ?st34) AllReadyH.nil)
      case ho33 => simp only [List.getElem?_toArray, List.getElem?_cons_succ, List.getElem?_cons_zero]; rfl
      case ho34 => simp only [List.getElem?_toArray, List.getElem?_cons_succ, List.getElem?_cons_zero]; rfl
      case st33 =>
        go_simp
        refine (HC.out _).mono ?_
        rintro e Y1 ⟨rfl, hb1⟩
        refine hK.out _ _ (hS.trans (hb1.mono hS.size)) (fun hS => ?_)
        clear hK K
        try simp only [Act.put, List.setIfInBounds_toArray, List.set_cons_zero, List.set_cons_succ]
        refine' wpAnyH_take (i := 7) (oi := _) (v := _) ?hi35 (by kernel_rfl) (by kernel_rfl) (by kernel_rfl) ?hQ35 (Or.inl ⟨?hw35, ?hy35⟩) hS ?rest35
        case hi35 => simp only [List.getElem?_toArray, List.getElem?_cons_succ, List.getElem?_cons_zero]; rfl
        case hQ35 => exact fun _ _ _ h => h
        case hw35 => rfl
        case hy35 => intro W' hS'; go_simp; with_reducible rfl
        try simp only [Act.put, List.setIfInBounds_toArray, List.set_cons_zero, List.set_cons_succ]
        refine' wpAnyH_take (i := 8) (oi := _) (v := _) ?hi36 (by kernel_rfl) (by kernel_rfl) (by kernel_rfl) ?hQ36 (Or.inl ⟨?hw36, ?hy36⟩) hS ?rest36
        case hi36 => simp only [List.getElem?_toArray, List.getElem?_cons_succ, List.getElem?_cons_zero]; rfl
        case hQ36 => exact fun _ _ _ h => h
        case hw36 => rfl
        case hy36 => intro W' hS'; go_simp; with_reducible rfl
        try simp only [Act.put, List.setIfInBounds_toArray, List.set_cons_zero, List.set_cons_succ]
        refine' wpAnyH_take (i := 9) (oi := _) (v := _) ?hi37 (by kernel_rfl) (by kernel_rfl) (by kernel_rfl) ?hQ37 (Or.inl ⟨?hw37, ?hy37⟩) hS ?rest37
        case hi37 => simp only [List.getElem?_toArray, List.getElem?_cons_succ, List.getElem?_cons_zero]; rfl
        case hQ37 => exact fun _ _ _ h => h
        case hw37 => rfl
        case hy37 => intro W' hS'; go_simp; with_reducible rfl
        try simp only [Act.put, List.setIfInBounds_toArray, List.set_cons_zero, List.set_cons_succ]
        refine wpAnyH_ready (rs := [10]) (by kernel_rfl) (by simp) ?_
        refine' AllReadyH.cons (o := _) ?ho38 (fun K hK => ?st38) AllReadyH.nil
        case ho38 => simp only [List.getElem?_toArray, List.getElem?_cons_succ, List.getElem?_cons_zero]; rfl
        case st38 =>
          go_simp
          have hN : X.heap.size ≤ Y1.heap.size := hS.size
          refine hK.out _ _ (hS.alloc hS.size _) (fun hS => ?_)
          clear hK K
          try simp only [Act.put, List.setIfInBounds_toArray, List.set_cons_zero, List.set_cons_succ]
          have kN : Blk (Y1.alloc (.cells #[.int .u64 0, .int .u64 0, .int .u64 0, .int .u64 0] 28)) Y1.heap.size 28 (ws (nw 0)) := by rw [ws_no]; exact Blk.new _ _ _
          generalize Y1.alloc (.cells #[.int .u64 0, .int .u64 0, .int .u64 0, .int .u64 0] 28) = U at *
          generalize Y1.heap.size = BN at *
          refine wpAnyH_ready (rs := [11]) (by kernel_rfl) (by simp) ?_
          refine' AllReadyH.cons (o := _) ?ho39 (fun K hK => ?st39) AllReadyH.nil
          case ho39 => simp only [List.getElem?_toArray, List.getElem?_cons_succ, List.getElem?_cons_zero]; rfl
          case st39 =>
            refine wp_store_wn (.tmp 10) (.tmp 25) kN (q - n) rfl rfl rfl rfl ?_
            have hS1 := hS.grown (grownBy_row U BN (ws (nw (q - n))).toArray) hS.size (fun e he => by cases he; exact hN)
            have kN1 := kN.row (ws (nw (q - n)))
            refine hK.out _ _ hS1 (fun hS => ?_)
            clear hK K hS1
            try simp only [Act.put, List.setIfInBounds_toArray, List.set_cons_zero, List.set_cons_succ]
            refine' wpAnyH_take (i := 12) (oi := _) (v := _) ?hi40 (by kernel_rfl) (by kernel_rfl) (by kernel_rfl) ?hQ40 (Or.inl ⟨?hw40, ?hy40⟩) hS ?rest40
            case hi40 => simp only [List.getElem?_toArray, List.getElem?_cons_succ, List.getElem?_cons_zero]; rfl
            case hQ40 => exact fun _ _ _ h => h
            case hw40 => rfl
            case hy40 => intro W' hS'; go_simp; with_reducible rfl
            try simp only [Act.put, List.setIfInBounds_toArray, List.set_cons_zero, List.set_cons_succ]
            refine wpAnyH_done (by kernel_rfl) ?_ _
            go_wp2_with fail
            go_meet
            exact ⟨⟨_, rfl, kN1, hN, hS⟩, rfl⟩
      case st34 =>
        go_simp
        have hN : X.heap.size ≤ Y.heap.size := hS.size
        refine hK.out _ _ (hS.alloc hS.size _) (fun hS => ?_)
        clear hK K
        try simp only [Act.put, List.setIfInBounds_toArray, List.set_cons_zero, List.set_cons_succ]
        have kN : Blk (Y.alloc (.cells #[.int .u64 0, .int .u64 0, .int .u64 0, .int .u64 0] 28)) Y.heap.size 28 (ws (nw 0)) := by rw [ws_no]; exact Blk.new _ _ _
        generalize Y.alloc (.cells #[.int .u64 0, .int .u64 0, .int .u64 0, .int .u64 0] 28) = Y2 at *
        generalize Y.heap.size = BN at *
        refine wpAnyH_ready (rs := [6]) (by kernel_rfl) (by simp) ?_
        refine' AllReadyH.cons (o := _) ?ho41 (fun K hK => ?st41) AllReadyH.nil
        case ho41 => simp only [List.getElem?_toArray, List.getElem?_cons_succ, List.getElem?_cons_zero]; rfl
        case st41 =>
          go_simp
          refine (HC.out _).mono ?_
          rintro e U ⟨rfl, hb1⟩
          refine hK.out _ _ (hS.trans (hb1.mono hS.size)) (fun hS => ?_)
          clear hK K
          try simp only [Act.put, List.setIfInBounds_toArray, List.set_cons_zero, List.set_cons_succ]
          have kN := kN.below hb1 kN.lt
          clear hb1
          refine' wpAnyH_take (i := 7) (oi := _) (v := _) ?hi42 (by kernel_rfl) (by kernel_rfl) (by kernel_rfl) ?hQ42 (Or.inl ⟨?hw42, ?hy42⟩) hS ?rest42
          case hi42 => simp only [List.getElem?_toArray, List.getElem?_cons_succ, List.getElem?_cons_zero]; rfl
          case hQ42 => exact fun _ _ _ h => h
          case hw42 => rfl
          case hy42 => intro W' hS'; go_simp; with_reducible rfl
          try simp only [Act.put, List.setIfInBounds_toArray, List.set_cons_zero, List.set_cons_succ]
          refine' wpAnyH_take (i := 8) (oi := _) (v := _) ?hi43 (by kernel_rfl) (by kernel_rfl) (by kernel_rfl) ?hQ43 (Or.inl ⟨?hw43, ?hy43⟩) hS ?rest43
          case hi43 => simp only [List.getElem?_toArray, List.getElem?_cons_succ, List.getElem?_cons_zero]; rfl
          case hQ43 => exact fun _ _ _ h => h
          case hw43 => rfl
          case hy43 => intro W' hS'; go_simp; with_reducible rfl
          try simp only [Act.put, List.setIfInBounds_toArray, List.set_cons_zero, List.set_cons_succ]
          refine' wpAnyH_take (i := 9) (oi := _) (v := _) ?hi44 (by kernel_rfl) (by kernel_rfl) (by kernel_rfl) ?hQ44 (Or.inl ⟨?hw44, ?hy44⟩) hS ?rest44
          case hi44 => simp only [List.getElem?_toArray, List.getElem?_cons_succ, List.getElem?_cons_zero]; rfl
          case hQ44 => exact fun _ _ _ h => h
          case hw44 => rfl
          case hy44 => intro W' hS'; go_simp; with_reducible rfl
          try simp only [Act.put, List.setIfInBounds_toArray, List.set_cons_zero, List.set_cons_succ]
          refine wpAnyH_ready (rs := [11]) (by kernel_rfl) (by simp) ?_
          refine' AllReadyH.cons (o := _) ?ho45 (fun K hK => ?st45) AllReadyH.nil
          case ho45 => simp only [List.getElem?_toArray, List.getElem?_cons_succ, List.getElem?_cons_zero]; rfl
          case st45 =>
            refine wp_store_wn (.tmp 10) (.tmp 25) kN (q - n) rfl rfl rfl rfl ?_
            have hS1 := hS.grown (grownBy_row U BN (ws (nw (q - n))).toArray) hS.size (fun e he => by cases he; exact hN)
            have kN1 := kN.row (ws (nw (q - n)))
            refine hK.out _ _ hS1 (fun hS => ?_)
            clear hK K hS1
            try simp only [Act.put, List.setIfInBounds_toArray, List.set_cons_zero, List.set_cons_succ]
            refine' wpAnyH_take (i := 12) (oi := _) (v := _) ?hi46 (by kernel_rfl) (by kernel_rfl) (by kernel_rfl) ?hQ46 (Or.inl ⟨?hw46, ?hy46⟩) hS ?rest46
            case hi46 => simp only [List.getElem?_toArray, List.getElem?_cons_succ, List.getElem?_cons_zero]; rfl
            case hQ46 => exact fun _ _ _ h => h
            case hw46 => rfl
            case hy46 => intro W' hS'; go_simp; with_reducible rfl
            try simp only [Act.put, List.setIfInBounds_toArray, List.set_cons_zero, List.set_cons_succ]
            refine wpAnyH_done (by kernel_rfl) ?_ _
            go_wp2_with fail
            go_meet
            exact ⟨⟨_, rfl, kN1, hN, hS⟩, rfl⟩
    case rest =>
      obtain ⟨⟨B, rfl, kN, hN, hbx⟩, rfl⟩ := hcut
      have hBne : w.heap.size ≠ B := by have := kB.lt; omega
      replace kB := kB.below hbx kB.lt
      replace kR := kR.below hbx kR.lt
      replace hB := chain hB hbx
      have hzX : X.heap.size ≤ wc.heap.size := hbx.size
      have hxR : w.heap.size + 1 + 1 < wc.heap.size := kR.lt
      clear hbx kA hN hzX
      by_cases hf : n ≤ q
      · rw [show lessB q n = true from decide_eq_true hf]
        replace HY := Lib.hid (HY.out (by rw [← HQ.out] at hf; exact hf))
        clear hf HN HP HC HQ
        go_upto_region 6 with fail
        refine wp_region_held_drew (S := fun W => Blk W B 28 (ws (nw (q - n)))) hmx kN.drew ?_
        intro hS
        replace kB : Blk wc.drew _ _ _ := kB
        replace kR : Blk wc.drew _ _ _ := kR
        replace hB := hB.drew
        replace hxR : _ < wc.drew.heap.size := hxR
        clear kN
        generalize wc.drew = Y at *
        refine' wpAnyH_take (i := 0) (oi := _) (v := _) ?hi47 (by kernel_rfl) (by kernel_rfl) (by kernel_rfl) ?hQ47 (Or.inl ⟨?hw47, ?hy47⟩) hS ?rest47
        case hi47 => simp only [List.getElem?_toArray, List.getElem?_cons_zero]; rfl
        case hQ47 => exact fun _ _ _ h => h
        case hw47 => rfl
        case hy47 => intro W' hS'; go_simp; with_reducible rfl
        try simp only [Act.put, List.setIfInBounds_toArray, List.set_cons_zero, List.set_cons_succ]
        refine' wpAnyH_take (i := 1) (oi := _) (v := _) ?hi48 (by kernel_rfl) (by kernel_rfl) (by kernel_rfl) ?hQ48 (Or.inl ⟨?hw48, ?hy48⟩) hS ?rest48
        case hi48 => simp only [List.getElem?_toArray, List.getElem?_cons_succ, List.getElem?_cons_zero]; rfl
        case hQ48 => exact fun _ _ _ h => h
        case hw48 => rfl
        case hy48 => intro W' hS'; go_simp; with_reducible rfl
        try simp only [Act.put, List.setIfInBounds_toArray, List.set_cons_zero, List.set_cons_succ]
        refine' wpAnyH_take (i := 2) (oi := _) (v := wn (q - n)) ?hi49 (by kernel_rfl) (by kernel_rfl) (by kernel_rfl) ?hQ49 (Or.inl ⟨?hw49, ?hy49⟩) hS ?rest49
        case hi49 => simp only [List.getElem?_toArray, List.getElem?_cons_succ, List.getElem?_cons_zero]; rfl
        case hQ49 => exact fun _ _ _ h => h
        case hw49 => rfl
        case hy49 => exact fun W' hS' => exec_load 28 (.tmp 10) rfl _ W' (load_wn hS')
        try simp only [Act.put, List.setIfInBounds_toArray, List.set_cons_zero, List.set_cons_succ]
        refine' wpAnyH_take (i := 3) (oi := _) (v := _) ?hi50 (by kernel_rfl) (by kernel_rfl) (by kernel_rfl) ?hQ50 (Or.inl ⟨?hw50, ?hy50⟩) hS ?rest50
        case hi50 => simp only [List.getElem?_toArray, List.getElem?_cons_succ, List.getElem?_cons_zero]; rfl
        case hQ50 => exact fun _ _ _ h => h
        case hw50 => rfl
        case hy50 => intro W' hS'; go_simp; with_reducible rfl
        try simp only [Act.put, List.setIfInBounds_toArray, List.set_cons_zero, List.set_cons_succ]
        refine' wpAnyH_take (i := 4) (oi := _) (v := _) ?hi51 (by kernel_rfl) (by kernel_rfl) (by kernel_rfl) ?hQ51 (Or.inl ⟨?hw51, ?hy51⟩) hS ?rest51
        case hi51 => simp only [List.getElem?_toArray, List.getElem?_cons_succ, List.getElem?_cons_zero]; rfl
        case hQ51 => exact fun _ _ _ h => h
        case hw51 => rfl
        case hy51 => intro W' hS'; go_simp; with_reducible rfl
        try simp only [Act.put, List.setIfInBounds_toArray, List.set_cons_zero, List.set_cons_succ]
        refine wpAnyH_ready (rs := [5]) (by kernel_rfl) (by simp) ?_
        refine' AllReadyH.cons (o := _) ?ho52 (fun K hK => ?st52) AllReadyH.nil
        case ho52 => simp only [List.getElem?_toArray, List.getElem?_cons_succ, List.getElem?_cons_zero]; rfl
        case st52 =>
          refine wp_store_slot (.tmp 34) (.tmp 32) kB hi hj (q - n) rfl rfl rfl rfl ?_
          replace hB := hB.grown (grownBy_row Y w.heap.size (bkc (updB b (2 * i + j) (q - n))).toArray) hB.size (fun e he => by cases he; exact Nat.le_refl _)
          replace kR := kR.rowO (bkc (updB b (2 * i + j) (q - n))).toArray (show w.heap.size + 1 + 1 ≠ w.heap.size by omega)
          replace kB := kB.row (bkc (updB b (2 * i + j) (q - n)))
          refine hK.out _ _ (hS.rowO _ (fun e => hBne e.symm)) (fun _ => ?_)
          clear hK K hS
          generalize World.setRow _ _ _ = Z at *
          try simp only [Act.put, List.setIfInBounds_toArray, List.set_cons_zero, List.set_cons_succ]
          refine wpAnyH_done (by kernel_rfl) ?_ _
          go_wp2_with (first
            | ((with_reducible refine wpList_loadIf 31 (.tmp 4) ?_ (some 35) ?_ ?_ (bkv (updB b (2 * i + j) (q - n))) ?_ ?_); (· rfl); (· rfl); (· rfl); (· exact load_book kB))
            | ((refine wpList_store_book (.tmp 8) (.tmp 35) kR (bkc_len noK) (updB b (2 * i + j) (q - n)) ?_ ?_ ?_ ?_ ?_ ?_); (· rfl); (· rfl); (· rfl); (· rfl); (· rfl)))
          exact bodyPost_ret (v := .tuple #[bkv (updB b (2 * i + j) (q - n)), .int .i64 0]) (res_book rfl _ rfl rfl (kR.row _)) rfl ⟨by rw [HY.out], hB.grown (grownBy_row _ _ _) hB.size (fun e he => by cases he; omega)⟩
      · rw [show lessB q n = false from decide_eq_false hf]
        replace HN := Lib.hid (HN.out (by rw [← HQ.out] at hf; exact hf))
        clear hf HY HP HC HQ kN
        go_wp2_with (first
          | ((with_reducible refine wpList_loadIf 31 (.tmp 4) ?_ (some 29) ?_ ?_ (bkv (b)) ?_ ?_); (· rfl); (· rfl); (· rfl); (· exact load_book kB))
          | ((refine wpList_store_book (.tmp 8) (.tmp 29) kR (bkc_len noK) (b) ?_ ?_ ?_ ?_ ?_ ?_); (· rfl); (· rfl); (· rfl); (· rfl); (· rfl)))
        exact bodyPost_ret (v := .tuple #[bkv (b), .int .i64 30]) (res_book rfl _ rfl rfl (kR.row _)) rfl ⟨by rw [HN.out], hB.grown (grownBy_row _ _ _) hB.size (fun e he => by cases he; omega)⟩
  · have HP : Hid (placeB a s = false) := Lib.hid (decide_eq_false h)
    have HE := Lib.hid (takeB_no (b := b) (n := n) h)
    clear h
    go_enter Tryz.func58, Tryz.ntmps58
    go_wp2_with (first
      | (go_at_call 76; refine (isPlace_any _ _ _).mono ?_; rw [HP.out]; rintro e w1 ⟨rfl, rfl⟩)
      | ((with_reducible refine wpList_loadIf 31 (.tmp 4) ?_ (some 16) ?_ ?_ (bkv (b)) ?_ ?_); (· rfl); (· rfl); (· rfl); (· exact load_book kB0))
      | ((refine wpList_store_book (.tmp 8) (.tmp 16) kR1 (bkc_len noK) (b) ?_ ?_ ?_ ?_ ?_ ?_); (· rfl); (· rfl); (· rfl); (· rfl); (· rfl)))
    exact bodyPost_ret (v := .tuple #[bkv (b), .int .i64 4]) (res_book rfl _ rfl rfl (kR1.row (bkc b))) rfl ⟨by rw [HE.out], hB0.grown (grownBy_row _ _ _) hB0.size (fun e he => by cases he; omega)⟩
end Go.Proofs.YtfoemkmoambagaaGreat
namespace Go.Proofs.YtfoemkmoambagaaGreat
open Go.RowKit Go.Shelf
set_option maxRecDepth 100000 in
set_option maxHeartbeats 4000000 in
theorem bookGive_any (b : Bk) (hb : OkK b) (a s : Int) (n : Nat) (hn : n < M4) (w : World) :
    Calls Tryz.prog 80 #[bkv b, .int .i64 a, .int .i64 s, wn n] w fun e W' => e = .returned (.tuple #[bkv (giveB b a s n).1, .int .i64 (giveB b a s n).2]) ∧ Below w.heap.size w W' := by
  have hmx : Tryz.prog.follows .mixedOrders = true := by kernel_rfl
  have kB0 := ((Blk.new w 31 (bkc b)).alloc (.cells (ws (nw n)).toArray 28)).alloc (.cells (bkc noK).toArray 31)
  have kA0 : Blk (((w.alloc (.cells (bkc b).toArray 31)).alloc (.cells (ws (nw n)).toArray 28)).alloc (.cells (bkc noK).toArray 31)) (w.heap.size + 1) 28 (ws (nw n)) := (Blk.new' (by simp)).alloc _
  have kR0 : Blk (((w.alloc (.cells (bkc b).toArray 31)).alloc (.cells (ws (nw n)).toArray 28)).alloc (.cells (bkc noK).toArray 31)) (w.heap.size + 1 + 1) 31 (bkc noK) := Blk.new' (by simp)
  have hB0 := chainA (chainA (chain0 w (.cells (bkc b).toArray 31)) (.cells (ws (nw n)).toArray 28)) (.cells (bkc noK).toArray 31)
  rw [bkc_no] at kB0 kA0 hB0
  have kR1 : Blk (((w.alloc (.cells (bkc b).toArray 31)).alloc (.cells (ws (nw n)).toArray 28)).alloc (.cells (List.replicate 64 (Value.int .u64 0)).toArray 31)) (w.heap.size + 1 + 1) 31 (bkc noK) := by rw [bkc_no] at kR0 ⊢; exact kR0
  clear kR0
  by_cases h : atS a s
  · have HP : Hid (placeB a s = true) := Lib.hid (decide_eq_true h)
    have HY := Lib.hid (fun k => giveB_yes (b := b) (n := n) h k)
    have HN := Lib.hid (fun k => giveB_over (b := b) (n := n) h k)
    have hs16 := slot_lt h
    obtain ⟨⟨h1, h2⟩, h3, h4⟩ := h
    obtain ⟨i, rfl⟩ : ∃ i : Nat, a = i := ⟨a.toNat, by omega⟩
    obtain ⟨j, rfl⟩ : ∃ j : Nat, s = j := ⟨s.toNat, by omega⟩
    have hi : i < 8 := by omega
    have hj : j < 2 := by omega
    have hbs := hb (2 * i + j) (by omega)
    replace HY : Hid (_ → giveB b (i : Int) (j : Int) n = (updB b (2 * i + j) (b (2 * i + j) + n), 0)) := HY
    replace HN : Hid (_ → giveB b (i : Int) (j : Int) n = (b, 38)) := HN
    have HC := Lib.hid (addN_any hbs hn)
    clear hs16 hbs
    generalize hq : b (2 * i + j) = q at *
    have HQ := Lib.hid hq
    clear hq
    go_enter Tryz.func80, Tryz.ntmps80
    go_upto_region 3 with (go_at_call 76; refine (isPlace_any _ _ _).mono ?_; rw [HP.out]; rintro e w1 ⟨rfl, rfl⟩)
    generalize hX : World.alloc (World.alloc (World.alloc _ _) _) _ = X
    have kB : Blk X w.heap.size 31 (bkc b) := by rw [← hX]; exact kB0
    have kA : Blk X (w.heap.size + 1) 28 (ws (nw n)) := by rw [← hX]; exact kA0
    have kR : Blk X (w.heap.size + 1 + 1) 31 (bkc noK) := by rw [← hX]; exact kR1
    have hB : Below w.heap.size w X := by rw [← hX]; exact hB0
    clear hX kB0 kA0 kR1 hB0
    go_cut [10, 11] (fun p f wc => NewN X (addN q n) p wc ∧ f = .bool (fitB q n))
    case first =>
      refine wp_region_held_drew (S := fun W => Below X.heap.size X W) hmx (Below.refl _ X).drew ?_
      intro hS
      have hl : ∀ W, Below X.heap.size X W → (Instr.loadAt 28 (.pointer (some ⟨w.heap.size, i * 8 + j * 4, none⟩))).run Tryz.prog W = .ok (wn q) W := fun W h => by have := load_slot (kB.below h kB.lt) hi hj; rw [HQ.out] at this; exact this
      have HL := Lib.hid hl
      clear hl
      generalize X.drew = Y at *
      refine' wpAnyH_take (i := 0) (oi := _) (v := _) ?hi1 (by kernel_rfl) (by kernel_rfl) (by kernel_rfl) ?hQ1 (Or.inl ⟨?hw1, ?hy1⟩) hS ?rest1
      case hi1 => simp only [List.getElem?_toArray, List.getElem?_cons_zero]; rfl
      case hQ1 => exact fun _ _ _ h => h
      case hw1 => rfl
      case hy1 => intro W' hS'; go_simp; with_reducible rfl
      try simp only [Act.put, List.setIfInBounds_toArray, List.set_cons_zero, List.set_cons_succ]
      refine' wpAnyH_take (i := 1) (oi := _) (v := _) ?hi2 (by kernel_rfl) (by kernel_rfl) (by kernel_rfl) ?hQ2 (Or.inl ⟨?hw2, ?hy2⟩) hS ?rest2
      case hi2 => simp only [List.getElem?_toArray, List.getElem?_cons_succ, List.getElem?_cons_zero]; rfl
      case hQ2 => exact fun _ _ _ h => h
      case hw2 => rfl
      case hy2 => intro W' hS'; go_simp; with_reducible rfl
      try simp only [Act.put, List.setIfInBounds_toArray, List.set_cons_zero, List.set_cons_succ]
      refine' wpAnyH_take (i := 2) (oi := _) (v := _) ?hi3 (by kernel_rfl) (by kernel_rfl) (by kernel_rfl) ?hQ3 (Or.inl ⟨?hw3, ?hy3⟩) hS ?rest3
      case hi3 => simp only [List.getElem?_toArray, List.getElem?_cons_succ, List.getElem?_cons_zero]; rfl
      case hQ3 => exact fun _ _ _ h => h
      case hw3 => rfl
      case hy3 => intro W' hS'; go_simp; with_reducible rfl
      try simp only [Act.put, List.setIfInBounds_toArray, List.set_cons_zero, List.set_cons_succ]
      refine' wpAnyH_take (i := 3) (oi := _) (v := _) ?hi4 (by kernel_rfl) (by kernel_rfl) (by kernel_rfl) ?hQ4 (Or.inl ⟨?hw4, ?hy4⟩) hS ?rest4
      case hi4 => simp only [List.getElem?_toArray, List.getElem?_cons_succ, List.getElem?_cons_zero]; rfl
      case hQ4 => exact fun _ _ _ h => h
      case hw4 => rfl
      case hy4 => intro W' hS'; go_simp; with_reducible rfl
      try simp only [Act.put, List.setIfInBounds_toArray, List.set_cons_zero, List.set_cons_succ]
      refine' wpAnyH_take (i := 4) (oi := _) (v := wn q) ?hi5 (by kernel_rfl) (by kernel_rfl) (by kernel_rfl) ?hQ5 (Or.inl ⟨?hw5, ?hy5⟩) hS ?rest5
      case hi5 => simp only [List.getElem?_toArray, List.getElem?_cons_succ, List.getElem?_cons_zero]; rfl
      case hQ5 => exact fun _ _ _ h => h
      case hw5 => rfl
      case hy5 => exact fun W' hS' => exec_load 28 (.tmp 21) rfl _ W' (HL.out W' hS')
      try simp only [Act.put, List.setIfInBounds_toArray, List.set_cons_zero, List.set_cons_succ]
      refine' wpAnyH_take (i := 5) (oi := _) (v := wn n) ?hi6 (by kernel_rfl) (by kernel_rfl) (by kernel_rfl) ?hQ6 (Or.inl ⟨?hw6, ?hy6⟩) hS ?rest6
      case hi6 => simp only [List.getElem?_toArray, List.getElem?_cons_succ, List.getElem?_cons_zero]; rfl
      case hQ6 => exact fun _ _ _ h => h
      case hw6 => rfl
      case hy6 => exact fun W' hS' => exec_load 28 (.tmp 7) rfl _ W' (load_wn (kA.below hS' kA.lt))
      try simp only [Act.put, List.setIfInBounds_toArray, List.set_cons_zero, List.set_cons_succ]
      refine wpAnyH_ready (rs := [6, 10]) (by kernel_rfl) (by simp) ?_
      refine' AllReadyH.cons (o := _) ?ho7 (fun K hK => ?st7) (AllReadyH.cons (o := _) ?ho8 (fun K hK => ?st8) AllReadyH.nil)
      case ho7 => simp only [List.getElem?_toArray, List.getElem?_cons_succ, List.getElem?_cons_zero]; rfl
      case ho8 => simp only [List.getElem?_toArray, List.getElem?_cons_succ, List.getElem?_cons_zero]; rfl
      case st7 =>
        go_simp
        refine (HC.out _).mono ?_
        rintro e Y1 ⟨rfl, hb1⟩
        refine hK.out _ _ (hS.trans (hb1.mono hS.size)) (fun hS => ?_)
        clear hK K
        try simp only [Act.put, List.setIfInBounds_toArray, List.set_cons_zero, List.set_cons_succ]
        refine' wpAnyH_take (i := 7) (oi := _) (v := _) ?hi9 (by kernel_rfl) (by kernel_rfl) (by kernel_rfl) ?hQ9 (Or.inl ⟨?hw9, ?hy9⟩) hS ?rest9
        case hi9 => simp only [List.getElem?_toArray, List.getElem?_cons_succ, List.getElem?_cons_zero]; rfl
        case hQ9 => exact fun _ _ _ h => h
        case hw9 => rfl
        case hy9 => intro W' hS'; go_simp; with_reducible rfl
        try simp only [Act.put, List.setIfInBounds_toArray, List.set_cons_zero, List.set_cons_succ]
        refine' wpAnyH_take (i := 8) (oi := _) (v := _) ?hi10 (by kernel_rfl) (by kernel_rfl) (by kernel_rfl) ?hQ10 (Or.inl ⟨?hw10, ?hy10⟩) hS ?rest10
        case hi10 => simp only [List.getElem?_toArray, List.getElem?_cons_succ, List.getElem?_cons_zero]; rfl
        case hQ10 => exact fun _ _ _ h => h
        case hw10 => rfl
        case hy10 => intro W' hS'; go_simp; with_reducible rfl
        try simp only [Act.put, List.setIfInBounds_toArray, List.set_cons_zero, List.set_cons_succ]
        refine' wpAnyH_take (i := 9) (oi := _) (v := _) ?hi11 (by kernel_rfl) (by kernel_rfl) (by kernel_rfl) ?hQ11 (Or.inl ⟨?hw11, ?hy11⟩) hS ?rest11
        case hi11 => simp only [List.getElem?_toArray, List.getElem?_cons_succ, List.getElem?_cons_zero]; rfl
        case hQ11 => exact fun _ _ _ h => h
        case hw11 => rfl
        case hy11 => intro W' hS'; go_simp; with_reducible rfl
        try simp only [Act.put, List.setIfInBounds_toArray, List.set_cons_zero, List.set_cons_succ]
        refine wpAnyH_ready (rs := [10]) (by kernel_rfl) (by simp) ?_
        refine' AllReadyH.cons (o := _) ?ho12 (fun K hK => ?st12) AllReadyH.nil
        case ho12 => simp only [List.getElem?_toArray, List.getElem?_cons_succ, List.getElem?_cons_zero]; rfl
        case st12 =>
          go_simp
          have hN : X.heap.size ≤ Y1.heap.size := hS.size
          refine hK.out _ _ (hS.alloc hS.size _) (fun hS => ?_)
          clear hK K
          try simp only [Act.put, List.setIfInBounds_toArray, List.set_cons_zero, List.set_cons_succ]
          have kN : Blk (Y1.alloc (.cells #[.int .u64 0, .int .u64 0, .int .u64 0, .int .u64 0] 28)) Y1.heap.size 28 (ws (nw 0)) := by rw [ws_no]; exact Blk.new _ _ _
          generalize Y1.alloc (.cells #[.int .u64 0, .int .u64 0, .int .u64 0, .int .u64 0] 28) = U at *
          generalize Y1.heap.size = BN at *
          refine wpAnyH_ready (rs := [11]) (by kernel_rfl) (by simp) ?_
          refine' AllReadyH.cons (o := _) ?ho13 (fun K hK => ?st13) AllReadyH.nil
          case ho13 => simp only [List.getElem?_toArray, List.getElem?_cons_succ, List.getElem?_cons_zero]; rfl
          case st13 =>
            refine wp_store_wn (.tmp 10) (.tmp 25) kN (addN q n) rfl rfl rfl rfl ?_
            have hS1 := hS.grown (grownBy_row U BN (ws (nw (addN q n))).toArray) hS.size (fun e he => by cases he; exact hN)
            have kN1 := kN.row (ws (nw (addN q n)))
            refine hK.out _ _ hS1 (fun hS => ?_)
            clear hK K hS1
            try simp only [Act.put, List.setIfInBounds_toArray, List.set_cons_zero, List.set_cons_succ]
            refine' wpAnyH_take (i := 12) (oi := _) (v := _) ?hi14 (by kernel_rfl) (by kernel_rfl) (by kernel_rfl) ?hQ14 (Or.inl ⟨?hw14, ?hy14⟩) hS ?rest14
            case hi14 => simp only [List.getElem?_toArray, List.getElem?_cons_succ, List.getElem?_cons_zero]; rfl
            case hQ14 => exact fun _ _ _ h => h
            case hw14 => rfl
            case hy14 => intro W' hS'; go_simp; with_reducible rfl
            try simp only [Act.put, List.setIfInBounds_toArray, List.set_cons_zero, List.set_cons_succ]
            refine wpAnyH_done (by kernel_rfl) ?_ _
            go_wp2_with fail
            go_meet
            exact ⟨⟨_, rfl, kN1, hN, hS⟩, rfl⟩
      case st8 =>
        go_simp
        have hN : X.heap.size ≤ Y.heap.size := hS.size
        refine hK.out _ _ (hS.alloc hS.size _) (fun hS => ?_)
        clear hK K
        try simp only [Act.put, List.setIfInBounds_toArray, List.set_cons_zero, List.set_cons_succ]
        have kN : Blk (Y.alloc (.cells #[.int .u64 0, .int .u64 0, .int .u64 0, .int .u64 0] 28)) Y.heap.size 28 (ws (nw 0)) := by rw [ws_no]; exact Blk.new _ _ _
        generalize Y.alloc (.cells #[.int .u64 0, .int .u64 0, .int .u64 0, .int .u64 0] 28) = Y2 at *
        generalize Y.heap.size = BN at *
        refine wpAnyH_ready (rs := [6]) (by kernel_rfl) (by simp) ?_
        refine' AllReadyH.cons (o := _) ?ho15 (fun K hK => ?st15) AllReadyH.nil
        case ho15 => simp only [List.getElem?_toArray, List.getElem?_cons_succ, List.getElem?_cons_zero]; rfl
        case st15 =>
          go_simp
          refine (HC.out _).mono ?_
          rintro e U ⟨rfl, hb1⟩
          refine hK.out _ _ (hS.trans (hb1.mono hS.size)) (fun hS => ?_)
          clear hK K
          try simp only [Act.put, List.setIfInBounds_toArray, List.set_cons_zero, List.set_cons_succ]
          have kN := kN.below hb1 kN.lt
          clear hb1
          refine' wpAnyH_take (i := 7) (oi := _) (v := _) ?hi16 (by kernel_rfl) (by kernel_rfl) (by kernel_rfl) ?hQ16 (Or.inl ⟨?hw16, ?hy16⟩) hS ?rest16
          case hi16 => simp only [List.getElem?_toArray, List.getElem?_cons_succ, List.getElem?_cons_zero]; rfl
          case hQ16 => exact fun _ _ _ h => h
          case hw16 => rfl
          case hy16 => intro W' hS'; go_simp; with_reducible rfl
          try simp only [Act.put, List.setIfInBounds_toArray, List.set_cons_zero, List.set_cons_succ]
          refine' wpAnyH_take (i := 8) (oi := _) (v := _) ?hi17 (by kernel_rfl) (by kernel_rfl) (by kernel_rfl) ?hQ17 (Or.inl ⟨?hw17, ?hy17⟩) hS ?rest17
          case hi17 => simp only [List.getElem?_toArray, List.getElem?_cons_succ, List.getElem?_cons_zero]; rfl
          case hQ17 => exact fun _ _ _ h => h
          case hw17 => rfl
          case hy17 => intro W' hS'; go_simp; with_reducible rfl
          try simp only [Act.put, List.setIfInBounds_toArray, List.set_cons_zero, List.set_cons_succ]
          refine' wpAnyH_take (i := 9) (oi := _) (v := _) ?hi18 (by kernel_rfl) (by kernel_rfl) (by kernel_rfl) ?hQ18 (Or.inl ⟨?hw18, ?hy18⟩) hS ?rest18
          case hi18 => simp only [List.getElem?_toArray, List.getElem?_cons_succ, List.getElem?_cons_zero]; rfl
          case hQ18 => exact fun _ _ _ h => h
          case hw18 => rfl
          case hy18 => intro W' hS'; go_simp; with_reducible rfl
          try simp only [Act.put, List.setIfInBounds_toArray, List.set_cons_zero, List.set_cons_succ]
          refine wpAnyH_ready (rs := [11]) (by kernel_rfl) (by simp) ?_
          refine' AllReadyH.cons (o := _) ?ho19 (fun K hK => ?st19) AllReadyH.nil
          case ho19 => simp only [List.getElem?_toArray, List.getElem?_cons_succ, List.getElem?_cons_zero]; rfl
          case st19 =>
            refine wp_store_wn (.tmp 10) (.tmp 25) kN (addN q n) rfl rfl rfl rfl ?_
            have hS1 := hS.grown (grownBy_row U BN (ws (nw (addN q n))).toArray) hS.size (fun e he => by cases he; exact hN)
            have kN1 := kN.row (ws (nw (addN q n)))
            refine hK.out _ _ hS1 (fun hS => ?_)
            clear hK K hS1
            try simp only [Act.put, List.setIfInBounds_toArray, List.set_cons_zero, List.set_cons_succ]
            refine' wpAnyH_take (i := 12) (oi := _) (v := _) ?hi20 (by kernel_rfl) (by kernel_rfl) (by kernel_rfl) ?hQ20 (Or.inl ⟨?hw20, ?hy20⟩) hS ?rest20
            case hi20 => simp only [List.getElem?_toArray, List.getElem?_cons_succ, List.getElem?_cons_zero]; rfl
            case hQ20 => exact fun _ _ _ h => h
            case hw20 => rfl
            case hy20 => intro W' hS'; go_simp; with_reducible rfl
            try simp only [Act.put, List.setIfInBounds_toArray, List.set_cons_zero, List.set_cons_succ]
            refine wpAnyH_done (by kernel_rfl) ?_ _
            go_wp2_with fail
            go_meet
            exact ⟨⟨_, rfl, kN1, hN, hS⟩, rfl⟩
    case rest =>
      obtain ⟨⟨B, rfl, kN, hN, hbx⟩, rfl⟩ := hcut
      have hBne : w.heap.size ≠ B := by have := kB.lt; omega
      replace kB := kB.below hbx kB.lt
      replace kR := kR.below hbx kR.lt
      replace hB := chain hB hbx
      have hzX : X.heap.size ≤ wc.heap.size := hbx.size
      have hxR : w.heap.size + 1 + 1 < wc.heap.size := kR.lt
      clear hbx kA hN hzX
      by_cases hf : q + n < M4
      · rw [show fitB q n = true from decide_eq_true hf]
        replace HY := Lib.hid (HY.out (by rw [← HQ.out] at hf; exact hf))
        rw [show addN q n = q + n from if_pos hf] at kN
        clear hf HN HP HC HQ
        go_upto_region 6 with fail
        refine wp_region_held_drew (S := fun W => Blk W B 28 (ws (nw (q + n)))) hmx kN.drew ?_
        intro hS
        replace kB : Blk wc.drew _ _ _ := kB
        replace kR : Blk wc.drew _ _ _ := kR
        replace hB := hB.drew
        replace hxR : _ < wc.drew.heap.size := hxR
        clear kN
        generalize wc.drew = Y at *
        refine' wpAnyH_take (i := 0) (oi := _) (v := _) ?hi21 (by kernel_rfl) (by kernel_rfl) (by kernel_rfl) ?hQ21 (Or.inl ⟨?hw21, ?hy21⟩) hS ?rest21
        case hi21 => simp only [List.getElem?_toArray, List.getElem?_cons_zero]; rfl
        case hQ21 => exact fun _ _ _ h => h
        case hw21 => rfl
        case hy21 => intro W' hS'; go_simp; with_reducible rfl
        try simp only [Act.put, List.setIfInBounds_toArray, List.set_cons_zero, List.set_cons_succ]
        refine' wpAnyH_take (i := 1) (oi := _) (v := _) ?hi22 (by kernel_rfl) (by kernel_rfl) (by kernel_rfl) ?hQ22 (Or.inl ⟨?hw22, ?hy22⟩) hS ?rest22
        case hi22 => simp only [List.getElem?_toArray, List.getElem?_cons_succ, List.getElem?_cons_zero]; rfl
        case hQ22 => exact fun _ _ _ h => h
        case hw22 => rfl
        case hy22 => intro W' hS'; go_simp; with_reducible rfl
        try simp only [Act.put, List.setIfInBounds_toArray, List.set_cons_zero, List.set_cons_succ]
        refine' wpAnyH_take (i := 2) (oi := _) (v := wn (q + n)) ?hi23 (by kernel_rfl) (by kernel_rfl) (by kernel_rfl) ?hQ23 (Or.inl ⟨?hw23, ?hy23⟩) hS ?rest23
        case hi23 => simp only [List.getElem?_toArray, List.getElem?_cons_succ, List.getElem?_cons_zero]; rfl
        case hQ23 => exact fun _ _ _ h => h
        case hw23 => rfl
        case hy23 => exact fun W' hS' => exec_load 28 (.tmp 10) rfl _ W' (load_wn hS')
        try simp only [Act.put, List.setIfInBounds_toArray, List.set_cons_zero, List.set_cons_succ]
        refine' wpAnyH_take (i := 3) (oi := _) (v := _) ?hi24 (by kernel_rfl) (by kernel_rfl) (by kernel_rfl) ?hQ24 (Or.inl ⟨?hw24, ?hy24⟩) hS ?rest24
        case hi24 => simp only [List.getElem?_toArray, List.getElem?_cons_succ, List.getElem?_cons_zero]; rfl
        case hQ24 => exact fun _ _ _ h => h
        case hw24 => rfl
        case hy24 => intro W' hS'; go_simp; with_reducible rfl
        try simp only [Act.put, List.setIfInBounds_toArray, List.set_cons_zero, List.set_cons_succ]
        refine' wpAnyH_take (i := 4) (oi := _) (v := _) ?hi25 (by kernel_rfl) (by kernel_rfl) (by kernel_rfl) ?hQ25 (Or.inl ⟨?hw25, ?hy25⟩) hS ?rest25
        case hi25 => simp only [List.getElem?_toArray, List.getElem?_cons_succ, List.getElem?_cons_zero]; rfl
        case hQ25 => exact fun _ _ _ h => h
        case hw25 => rfl
        case hy25 => intro W' hS'; go_simp; with_reducible rfl
        try simp only [Act.put, List.setIfInBounds_toArray, List.set_cons_zero, List.set_cons_succ]
        refine wpAnyH_ready (rs := [5]) (by kernel_rfl) (by simp) ?_
        refine' AllReadyH.cons (o := _) ?ho26 (fun K hK => ?st26) AllReadyH.nil
        case ho26 => simp only [List.getElem?_toArray, List.getElem?_cons_succ, List.getElem?_cons_zero]; rfl
        case st26 =>
          refine wp_store_slot (.tmp 34) (.tmp 32) kB hi hj (q + n) rfl rfl rfl rfl ?_
          replace hB := hB.grown (grownBy_row Y w.heap.size (bkc (updB b (2 * i + j) (q + n))).toArray) hB.size (fun e he => by cases he; exact Nat.le_refl _)
          replace kR := kR.rowO (bkc (updB b (2 * i + j) (q + n))).toArray (show w.heap.size + 1 + 1 ≠ w.heap.size by omega)
          replace kB := kB.row (bkc (updB b (2 * i + j) (q + n)))
          refine hK.out _ _ (hS.rowO _ (fun e => hBne e.symm)) (fun _ => ?_)
          clear hK K hS
          generalize World.setRow _ _ _ = Z at *
          try simp only [Act.put, List.setIfInBounds_toArray, List.set_cons_zero, List.set_cons_succ]
          refine wpAnyH_done (by kernel_rfl) ?_ _
          go_wp2_with (first
            | ((with_reducible refine wpList_loadIf 31 (.tmp 4) ?_ (some 35) ?_ ?_ (bkv (updB b (2 * i + j) (q + n))) ?_ ?_); (· rfl); (· rfl); (· rfl); (· exact load_book kB))
            | ((refine wpList_store_book (.tmp 8) (.tmp 35) kR (bkc_len noK) (updB b (2 * i + j) (q + n)) ?_ ?_ ?_ ?_ ?_ ?_); (· rfl); (· rfl); (· rfl); (· rfl); (· rfl)))
          exact bodyPost_ret (v := .tuple #[bkv (updB b (2 * i + j) (q + n)), .int .i64 0]) (res_book rfl _ rfl rfl (kR.row _)) rfl ⟨by rw [HY.out], hB.grown (grownBy_row _ _ _) hB.size (fun e he => by cases he; omega)⟩
      · rw [show fitB q n = false from decide_eq_false hf]
        replace HN := Lib.hid (HN.out (by rw [← HQ.out] at hf; exact hf))
        clear hf HY HP HC HQ kN
        go_wp2_with (first
          | ((with_reducible refine wpList_loadIf 31 (.tmp 4) ?_ (some 29) ?_ ?_ (bkv (b)) ?_ ?_); (· rfl); (· rfl); (· rfl); (· exact load_book kB))
          | ((refine wpList_store_book (.tmp 8) (.tmp 29) kR (bkc_len noK) (b) ?_ ?_ ?_ ?_ ?_ ?_); (· rfl); (· rfl); (· rfl); (· rfl); (· rfl)))
        exact bodyPost_ret (v := .tuple #[bkv (b), .int .i64 38]) (res_book rfl _ rfl rfl (kR.row _)) rfl ⟨by rw [HN.out], hB.grown (grownBy_row _ _ _) hB.size (fun e he => by cases he; omega)⟩
  · have HP : Hid (placeB a s = false) := Lib.hid (decide_eq_false h)
    have HE := Lib.hid (giveB_no (b := b) (n := n) h)
    clear h
    go_enter Tryz.func80, Tryz.ntmps80
    go_wp2_with (first
      | (go_at_call 76; refine (isPlace_any _ _ _).mono ?_; rw [HP.out]; rintro e w1 ⟨rfl, rfl⟩)
      | ((with_reducible refine wpList_loadIf 31 (.tmp 4) ?_ (some 16) ?_ ?_ (bkv (b)) ?_ ?_); (· rfl); (· rfl); (· rfl); (· exact load_book kB0))
      | ((refine wpList_store_book (.tmp 8) (.tmp 16) kR1 (bkc_len noK) (b) ?_ ?_ ?_ ?_ ?_ ?_); (· rfl); (· rfl); (· rfl); (· rfl); (· rfl)))
    exact bodyPost_ret (v := .tuple #[bkv (b), .int .i64 4]) (res_book rfl _ rfl rfl (kR1.row (bkc b))) rfl ⟨by rw [HE.out], hB0.grown (grownBy_row _ _ _) hB0.size (fun e he => by cases he; omega)⟩
end Go.Proofs.YtfoemkmoambagaaGreat
namespace Go.Proofs.YtfoemkmoambagaaGreat
open Go.RowKit Go.Shelf
def unvE (s : Es) (r a : Int) (n : Nat) : Es × Int := if (takeB s.va r a n).2 ≠ 0 then (s, 31) else ({ s with va := (takeB s.va r a n).1 }, 0)
set_option maxRecDepth 100000 in
set_option maxHeartbeats 4000000 in
theorem unvault_any (s : Es) (v : Value) (hs : OkK s.va) (r a : Int) {n : Nat} (hn : n < M4) {B : Nat} (w : World) (hB : Blk w B 35 (stc s v)) :
    Calls Tryz.prog 82 #[.pointer (some ⟨B, 0, none⟩), .int .i64 r, .int .i64 a, wn n] w (EndE w B v (unvE s r a n)) := by
  have hmx : Tryz.prog.follows .mixedOrders = true := by kernel_rfl
  have hM := (Mem.startB hB).allocN rfl 28 (ws (nw n))
  have HC := Lib.hid (fun W => bookTake_any s.va hs r a n hn W)
  clear hB
  go_enter Tryz.func82, Tryz.ntmps82
  go_upto_region 1 with fail
  go_cut [8, 9] (fun p f wc => ∃ N, p = .pointer (some ⟨N, 0, none⟩) ∧ f = .int .i64 (takeB s.va r a n).2 ∧ Mem w (some B) [(N, 31, bkc ((takeB s.va r a n).1)), (w.heap.size, 28, ws (nw n)), (B, 35, stc s v)] wc)
  case first =>
    refine wp_region_M (fun W => Mem w (some B) [(w.heap.size, 28, ws (nw n)), (B, 35, stc s v)] W) (fun W => Mem w (some B) [(w.heap.size, 28, ws (nw n)), (B, 35, stc s v)] W) hmx hM.drew ?_
    clear hM
    rintro Y1 hM
    have hS := hM.sub (.cons_cons _ (.cons_cons _ .slnil))
    refine tD 7 [.val 0 (some 11) (pt B 0), .val 1 (some 12) (pt B 0), .val 2 (some 13) (pt B 66), .load 3 (some 14) 31 (pt B 66) (bkv s.va), .val 4 (some 15) (.int .i64 r), .val 5 (some 16) (.int .i64 a), .load 6 (some 17) 28 (pt w.heap.size 0) (wn (n))] ⟨fun W h => ld_va (s := s) (h.at 1 rfl), fun W h => load_wn (h.at 0 rfl), trivial⟩ hS ?_
    refine oT 7 11 6 ?_ ?_
    · refine cD (some 18) 58 #[bkv s.va, .int .i64 r, .int .i64 a, wn (n)] ((HC.out _).mono ?_)
      rintro e Y2 ⟨rfl, hb⟩
      refine And.intro (hS.below hb) ?_
      replace hS := hS.below hb
      replace hM := hM.below hb
      clear hb
      refine tD 3 [.val 8 (some 10) (.tuple #[bkv ((takeB s.va r a n).1), .int .i64 (takeB s.va r a n).2]), .val 9 (some 19) (bkv ((takeB s.va r a n).1)), .val 10 (some 20) (.int .i64 (takeB s.va r a n).2)] trivial hS ?_
      refine oD 11 2 (rD (some 8) (pt Y2.heap.size 0) (Y2.alloc (.cells (bkc noK).toArray 31)) (hS.other _) ?_)
      replace hS := hS.other (.cells (bkc noK).toArray 31)
      replace hM := hM.alloc 31 (bkc noK)
      generalize World.alloc _ _ = Y3 at *
      generalize Y2.heap.size = N at *
      have hM1 := hM.set 0 (cs' := bkc ((takeB s.va r a n).1)) rfl rfl
      refine oD 12 1 (sD 31 (pt N 0) (bkv ((takeB s.va r a n).1)) (sto_bk (hM.at 0 rfl) _) (hM1.sub (.cons _ (.cons_cons _ (.cons_cons _ .slnil)))) ?_)
      replace hS := hM1.sub (.cons _ (.cons_cons _ (.cons_cons _ .slnil)))
      replace hM := hM1
      clear hM1
      generalize World.setRow _ _ _ = Y4 at *
      refine tD 0 [.val 13 (some 9) (.int .i64 (takeB s.va r a n).2)] trivial hS ?_
      refine dD ?_
      try simp only [puts, Tk.put, Act.put, List.setIfInBounds_toArray, List.set_cons_zero, List.set_cons_succ]
      clear hS
      go_wp2_with fail
      go_meet
      exact ⟨_, rfl, rfl, hM⟩
    · refine rD (some 8) (pt Y1.heap.size 0) (Y1.alloc (.cells (bkc noK).toArray 31)) (hS.other _) ?_
      replace hS := hS.other (.cells (bkc noK).toArray 31)
      replace hM := hM.alloc 31 (bkc noK)
      generalize World.alloc _ _ = Y5 at *
      generalize Y1.heap.size = N at *
      refine oD 7 5 (cD (some 18) 58 #[bkv s.va, .int .i64 r, .int .i64 a, wn (n)] ((HC.out _).mono ?_))
      rintro e Y6 ⟨rfl, hb⟩
      refine And.intro (hS.below hb) ?_
      replace hS := hS.below hb
      replace hM := hM.below hb
      clear hb
      refine tD 2 [.val 8 (some 10) (.tuple #[bkv ((takeB s.va r a n).1), .int .i64 (takeB s.va r a n).2]), .val 9 (some 19) (bkv ((takeB s.va r a n).1)), .val 10 (some 20) (.int .i64 (takeB s.va r a n).2)] trivial hS ?_
      have hM1 := hM.set 0 (cs' := bkc ((takeB s.va r a n).1)) rfl rfl
      refine oD 12 1 (sD 31 (pt N 0) (bkv ((takeB s.va r a n).1)) (sto_bk (hM.at 0 rfl) _) (hM1.sub (.cons _ (.cons_cons _ (.cons_cons _ .slnil)))) ?_)
      replace hS := hM1.sub (.cons _ (.cons_cons _ (.cons_cons _ .slnil)))
      replace hM := hM1
      clear hM1
      generalize World.setRow _ _ _ = Y7 at *
      refine tD 0 [.val 13 (some 9) (.int .i64 (takeB s.va r a n).2)] trivial hS ?_
      refine dD ?_
      try simp only [puts, Tk.put, Act.put, List.setIfInBounds_toArray, List.set_cons_zero, List.set_cons_succ]
      clear hS
      go_wp2_with fail
      go_meet
      exact ⟨_, rfl, rfl, hM⟩
  case rest =>
    obtain ⟨N, rfl, rfl, hM⟩ := hcut
    go_upto_region 2 with fail
    refine wp_region_fromM (fun W => Mem w (some B) [(N, 31, bkc ((takeB s.va r a n).1)), (w.heap.size, 28, ws (nw n)), (B, 35, stc s v)] W) hM ?_
    clear hM
    rintro Y8 hM
    refine tF 2 [.val 0 (some 21) (.int .i64 (takeB s.va r a n).2), .val 1 (some 22) (.bool ((takeB s.va r a n).2 == 0))] trivial ?_
    refine cF (some 23) 57 #[.bool ((takeB s.va r a n).2 == 0), .int .i64 31] ((demand_any _ _ _).mono ?_)
    rintro e W1 (⟨h, rfl, rfl⟩ | ⟨h, rfl, rfl⟩)
    case inr => exact And.intro rfl (EndE.pan hM.g (by decide) (by unfold unvE; rw [if_pos (ne_of_beq_false h)]) rfl (BlkN.of (hM.at 2 rfl)))
    have h := eq_of_beq h
    refine dF ?_
    try simp only [puts, Tk.put, Act.put, List.setIfInBounds_toArray, List.set_cons_zero, List.set_cons_succ]
    go_upto_region 3 with fail
    refine wp_region_fromM (fun W => Mem w (some B) [(N, 31, bkc ((takeB s.va r a n).1)), (w.heap.size, 28, ws (nw n)), (B, 35, stc s v)] W) hM ?_
    clear hM
    rintro Y9 hM
    refine tF 4 [.val 0 (some 24) (pt B 0), .load 1 (some 25) 31 (pt N 0) (bkv ((takeB s.va r a n).1)), .val 2 (some 26) (pt B 0), .val 3 (some 27) (pt B 66)] ⟨load_book (hM.at 0 rfl), trivial⟩ ?_
    refine sF 31 (pt B 66) (bkv ((takeB s.va r a n).1)) (sto_va (hM.at 2 rfl) _) ?_
    replace hM := hM.set 2 (cs' := stc { s with va := (takeB s.va r a n).1 } v) rfl rfl
    generalize World.setRow _ _ _ = Y10 at *
    refine dF ?_
    try simp only [puts, Tk.put, Act.put, List.setIfInBounds_toArray, List.set_cons_zero, List.set_cons_succ]
    go_wp2_with fail
    go_end0
    exact EndE.ok hM.g (by unfold unvE; rw [if_neg (not_not_intro h)]) (hM.at 2 rfl)
theorem growI_any (s : Es) (v : Value) {z : Int} (hz : 0 ≤ z ∧ z ≤ 1) (hh : s.he z.toNat < M4) {n : Nat} (hn : n < M4) {B : Nat} (w : World) (hB : Blk w B 35 (stc s v)) :
    Calls Tryz.prog 81 #[.pointer (some ⟨B, 0, none⟩), .int .i64 z, wn n] w (EndE w B v (growE s z.toNat n)) := by
  obtain ⟨a, rfl⟩ : ∃ a : Nat, z = a := ⟨z.toNat, by omega⟩
  exact esc_grow_any s v (by omega) hh hn w hB
theorem shrinkI_any (s : Es) (v : Value) {z : Int} (hz : 0 ≤ z ∧ z ≤ 1) (hh : s.he z.toNat < M4) {n : Nat} (hn : n < M4) {B : Nat} (w : World) (hB : Blk w B 35 (stc s v)) :
    Calls Tryz.prog 83 #[.pointer (some ⟨B, 0, none⟩), .int .i64 z, wn n] w (EndE w B v (shrinkE s z.toNat n)) := by
  obtain ⟨a, rfl⟩ : ∃ a : Nat, z = a := ⟨z.toNat, by omega⟩
  exact esc_shrink_any s v (by omega) hh hn w hB
def depE (s : Es) (t : Tr) : Es × Int :=
  if (takeB s.pu t.fr t.az (amT t)).2 ≠ 0 then (s, (takeB s.pu t.fr t.az (amT t)).2) else if (giveB s.va t.iv.ro t.az (amT t)).2 ≠ 0 then (s, (giveB s.va t.iv.ro t.az (amT t)).2) else growE { s with pu := (takeB s.pu t.fr t.az (amT t)).1, va := (giveB s.va t.iv.ro t.az (amT t)).1 } t.az.toNat (amT t)
set_option maxRecDepth 100000 in
set_option maxHeartbeats 4000000 in
theorem deposit_any (s : Es) (v : Value) (hs : OkE s) (t : Tr) (ht : OkT t) (hz : 0 ≤ t.az ∧ t.az ≤ 1) {B : Nat} (w : World) (hB : Blk w B 35 (stc s v)) :
    Calls Tryz.prog 62 #[.pointer (some ⟨B, 0, none⟩), txv t] w (EndE w B v (depE s t)) := by
  have hmx : Tryz.prog.follows .mixedOrders = true := by kernel_rfl
  have hM := (Mem.startB hB).allocN rfl 44 (txc t)
  have hn : amT t < M4 := val_lt ht.a
  have HA := Lib.hid (fun W => bookTake_any s.pu hs.p t.fr t.az (amT t) hn W)
  have HG := Lib.hid (fun W => bookGive_any s.va hs.v t.iv.ro t.az (amT t) hn W)
  have HO := Lib.hid (okE_he hs hz.1 hz.2)
  clear hB
  go_enter Tryz.func62, Tryz.ntmps62
  go_upto_region 1 with fail
  refine wp_region_M (fun W => Mem w (some B) [(w.heap.size, 44, txc t)] W) (fun W => Mem w (some B) [(w.heap.size, 44, txc t), (B, 35, stc s v)] W) hmx hM.drew ?_
  clear hM
  rintro Y1 hM
  have hS := hM.sub (.cons_cons _ (.cons _ .slnil))
  refine tD 8 [.val 0 (some 4) (pt B 0), .val 1 (some 5) (pt B 0), .val 2 (some 6) (pt B 0), .val 3 (some 7) (pt B 2), .val 5 (some 9) (pt w.heap.size 0), .load 6 (some 10) 3 (pt w.heap.size 0) (.int .i64 t.fr), .val 7 (some 11) (pt w.heap.size 3), .load 8 (some 12) 3 (pt w.heap.size 3) (.int .i64 t.az), .val 9 (some 13) (pt w.heap.size 4), .load 10 (some 14) 28 (pt w.heap.size 4) (wn (amT t))] ⟨fun W h => ld_int (h.at 0 rfl) 0 rfl, fun W h => ld_int (h.at 0 rfl) 3 rfl, fun W h => ld_am (h.at 0 rfl) ht, trivial⟩ hS ?_
  refine oD 4 7 (lD (some 8) 31 (pt B 2) (bkv s.pu) (ld_pu (s := s) (hM.at 1 rfl)) (hS) ?_)
  refine oD 11 6 (cD (some 15) 58 #[bkv s.pu, .int .i64 t.fr, .int .i64 t.az, wn (amT t)] ((HA.out _).mono ?_))
  rintro e W1 ⟨rfl, hb⟩
  refine And.intro (hS.below hb) ?_
  replace hS := hS.below hb
  replace hM := hM.below hb
  clear hb
  refine tD 4 [.val 12 (some 16) (bkv ((takeB s.pu t.fr t.az (amT t)).1)), .val 13 (some 17) (.int .i64 ((takeB s.pu t.fr t.az (amT t)).2))] trivial hS ?_
  refine oD 14 3 (cD (some 18) 60 #[bkv ((takeB s.pu t.fr t.az (amT t)).1), .int .i64 ((takeB s.pu t.fr t.az (amT t)).2)] ((must_two _ _ _).mono ?_))
  rintro e W2 (⟨hc, rfl, hb⟩ | ⟨hc, rfl, hb⟩)
  case inr =>
    replace hM := hM.below hb
    exact And.intro rfl (EndE.pan hM.g hc (by unfold depE; rw [if_pos hc]) rfl (BlkN.of (hM.at 1 rfl)))
  refine And.intro (hS.below hb) ?_
  replace hS := hS.below hb
  replace hM := hM.below hb
  clear hb
  refine tD 1 [.val 15 (some 19) (pt B 0), .val 16 (some 20) (pt B 2)] trivial hS ?_
  have hM1 := hM.set 1 (cs' := stc ({ s with pu := (takeB s.pu t.fr t.az (amT t)).1 }) v) rfl rfl
  refine oD 17 0 (sD 31 (pt B 2) (bkv ((takeB s.pu t.fr t.az (amT t)).1)) (sto_pu (hM.at 1 rfl) _) (hM1.sub (.cons_cons _ (.cons _ .slnil))) ?_)
  replace hS := hM1.sub (.cons_cons _ (.cons _ .slnil))
  replace hM := hM1
  clear hM1
  generalize World.setRow _ _ _ = Y2 at *
  refine dD ?_
  try simp only [puts, Tk.put, Act.put, List.setIfInBounds_toArray, List.set_cons_zero, List.set_cons_succ]
  clear hS
  have h1 := Lib.hid (not_not_intro hc)
  clear hc
  go_upto_region 2 with fail
  refine wp_region_M (fun W => Mem w (some B) [(w.heap.size, 44, txc t)] W) (fun W => Mem w (some B) [(w.heap.size, 44, txc t), (B, 35, stc ({ s with pu := (takeB s.pu t.fr t.az (amT t)).1 }) v)] W) hmx hM.drew ?_
  clear hM
  rintro Y3 hM
  have hS := hM.sub (.cons_cons _ (.cons _ .slnil))
  refine tD 8 [.val 0 (some 21) (pt B 0), .val 1 (some 22) (pt B 0), .val 2 (some 23) (pt B 0), .val 3 (some 24) (pt B 66), .val 5 (some 26) (pt w.heap.size 8), .val 6 (some 27) (pt w.heap.size 10), .load 7 (some 28) 3 (pt w.heap.size 10) (.int .i64 t.iv.ro), .val 8 (some 29) (pt w.heap.size 3), .load 9 (some 30) 3 (pt w.heap.size 3) (.int .i64 t.az), .val 10 (some 31) (pt w.heap.size 4), .load 11 (some 32) 28 (pt w.heap.size 4) (wn (amT t))] ⟨fun W h => ld_int (h.at 0 rfl) 10 rfl, fun W h => ld_int (h.at 0 rfl) 3 rfl, fun W h => ld_am (h.at 0 rfl) ht, trivial⟩ hS ?_
  refine oD 4 7 (lD (some 25) 31 (pt B 66) (bkv s.va) (ld_va (s := { s with pu := (takeB s.pu t.fr t.az (amT t)).1 }) (hM.at 1 rfl)) (hS) ?_)
  refine oD 12 6 (cD (some 33) 80 #[bkv s.va, .int .i64 t.iv.ro, .int .i64 t.az, wn (amT t)] ((HG.out _).mono ?_))
  rintro e W1 ⟨rfl, hb⟩
  refine And.intro (hS.below hb) ?_
  replace hS := hS.below hb
  replace hM := hM.below hb
  clear hb
  refine tD 4 [.val 13 (some 34) (bkv ((giveB s.va t.iv.ro t.az (amT t)).1)), .val 14 (some 35) (.int .i64 ((giveB s.va t.iv.ro t.az (amT t)).2))] trivial hS ?_
  refine oD 15 3 (cD (some 36) 60 #[bkv ((giveB s.va t.iv.ro t.az (amT t)).1), .int .i64 ((giveB s.va t.iv.ro t.az (amT t)).2)] ((must_two _ _ _).mono ?_))
  rintro e W2 (⟨hc, rfl, hb⟩ | ⟨hc, rfl, hb⟩)
  case inr =>
    replace hM := hM.below hb
    exact And.intro rfl (EndE.pan hM.g hc (by unfold depE; rw [if_neg h1.out, if_pos hc]) rfl (BlkN.of (hM.at 1 rfl)))
  refine And.intro (hS.below hb) ?_
  replace hS := hS.below hb
  replace hM := hM.below hb
  clear hb
  refine tD 1 [.val 16 (some 37) (pt B 0), .val 17 (some 38) (pt B 66)] trivial hS ?_
  have hM1 := hM.set 1 (cs' := stc ({ s with pu := (takeB s.pu t.fr t.az (amT t)).1, va := (giveB s.va t.iv.ro t.az (amT t)).1 }) v) rfl rfl
  refine oD 18 0 (sD 31 (pt B 66) (bkv ((giveB s.va t.iv.ro t.az (amT t)).1)) (sto_va (hM.at 1 rfl) _) (hM1.sub (.cons_cons _ (.cons _ .slnil))) ?_)
  replace hS := hM1.sub (.cons_cons _ (.cons _ .slnil))
  replace hM := hM1
  clear hM1
  generalize World.setRow _ _ _ = Y4 at *
  refine dD ?_
  try simp only [puts, Tk.put, Act.put, List.setIfInBounds_toArray, List.set_cons_zero, List.set_cons_succ]
  clear hS
  have h2 := Lib.hid (not_not_intro hc)
  clear hc
  go_upto_region 3 with fail
  refine wp_region_fromM (fun W => Mem w (some B) [(w.heap.size, 44, txc t), (B, 35, stc ({ s with pu := (takeB s.pu t.fr t.az (amT t)).1, va := (giveB s.va t.iv.ro t.az (amT t)).1 }) v)] W) hM ?_
  clear hM
  rintro Y5 hM
  refine tF 5 [.val 0 (some 39) (pt B 0), .val 1 (some 40) (pt w.heap.size 3), .load 2 (some 41) 3 (pt w.heap.size 3) (.int .i64 t.az), .val 3 (some 42) (pt w.heap.size 4), .load 4 (some 43) 28 (pt w.heap.size 4) (wn (amT t))] ⟨ld_int (hM.at 0 rfl) 3 rfl, ld_am (hM.at 0 rfl) ht, trivial⟩ ?_
  refine cF (some 44) 81 #[pt B 0, .int .i64 t.az, wn (amT t)] ((growI_any ({ s with pu := (takeB s.pu t.fr t.az (amT t)).1, va := (giveB s.va t.iv.ro t.az (amT t)).1 }) _ hz HO.out hn _ (hM.at 1 rfl)).mono ?_)
  rintro e W1 h
  rcases h.two with ⟨h0, rfl, _, _⟩ | ⟨h0, rfl, _⟩
  case inr => exact And.intro rfl (EndE.last hM.g h (by unfold depE; rw [if_neg h1.out, if_neg h2.out]))
  refine dF ?_
  try simp only [puts, Tk.put, Act.put, List.setIfInBounds_toArray, List.set_cons_zero, List.set_cons_succ]
  go_wp2_with fail
  go_end0
  exact EndE.last hM.g h (by unfold depE; rw [if_neg h1.out, if_neg h2.out])
def wdrE (s : Es) (t : Tr) : Es × Int :=
  if ¬ (2 ≤ t.fr ∧ t.fr ≤ 3) then (s, 37) else if (unvE s t.fr t.az (amT t)).2 ≠ 0 then (s, (unvE s t.fr t.az (amT t)).2) else if (giveB s.pu t.fr t.az (amT t)).2 ≠ 0 then (s, (giveB s.pu t.fr t.az (amT t)).2) else shrinkE { s with va := (takeB s.va t.fr t.az (amT t)).1, pu := (giveB s.pu t.fr t.az (amT t)).1 } t.az.toNat (amT t)
theorem unvE_ok {s : Es} {r a : Int} {n : Nat} (h : (unvE s r a n).2 = 0) : (unvE s r a n).1 = { s with va := (takeB s.va r a n).1 } := by
  unfold unvE at h ⊢
  by_cases e : (takeB s.va r a n).2 ≠ 0
  · rw [if_pos e] at h; exact absurd h (show ¬ (31 : Int) = 0 by decide)
  · rw [if_neg e]
set_option maxRecDepth 100000 in
set_option maxHeartbeats 4000000 in
theorem withdraw_any (s : Es) (v : Value) (hs : OkE s) (t : Tr) (ht : OkT t) (hz : 0 ≤ t.az ∧ t.az ≤ 1) {B : Nat} (w : World) (hB : Blk w B 35 (stc s v)) :
    Calls Tryz.prog 63 #[.pointer (some ⟨B, 0, none⟩), txv t] w (EndE w B v (wdrE s t)) := by
  have hmx : Tryz.prog.follows .mixedOrders = true := by kernel_rfl
  have hM := (Mem.startB hB).allocN rfl 44 (txc t)
  have hn : amT t < M4 := val_lt ht.a
  have HG := Lib.hid (fun W => bookGive_any s.pu hs.p t.fr t.az (amT t) hn W)
  have HO := Lib.hid (okE_he hs hz.1 hz.2)
  clear hB
  go_enter Tryz.func63, Tryz.ntmps63
  by_cases hf : 2 ≤ t.fr
  case neg =>
    go_upto_region 1 with fail
    refine wp_region_fromM (fun W => Mem w (some B) [(w.heap.size, 44, txc t), (B, 35, stc s v)] W) hM ?_
    clear hM
    rintro Y1 hM
    refine tF 8 [.val 0 (some 4) (pt w.heap.size 0), .load 1 (some 5) 3 (pt w.heap.size 0) (.int .i64 t.fr), .alt 2 (some 6) (.bool (decide (t.fr ≥ 2))) (.bool false), .val 3 (some 7) (.bool false), .skip 4 (some 8), .skip 5 (some 9), .skip 6 (some 10), .val 7 (some 11) (.bool false)] ⟨ld_int (hM.at 0 rfl) 0 rfl, congrArg Value.bool (decide_eq_false hf), trivial⟩ ?_
    refine cF (some 12) 57 #[.bool false, .int .i64 37] ((demand_any _ _ _).mono ?_)
    rintro e W1 (⟨h, rfl, rfl⟩ | ⟨h, rfl, rfl⟩)
    case inl => exact absurd h (by decide)
    exact And.intro rfl (EndE.pan hM.g (by decide) (by unfold wdrE; rw [if_pos (fun e => hf e.1)]) rfl (BlkN.of (hM.at 1 rfl)))
  go_upto_region 1 with fail
  refine wp_region_fromM (fun W => Mem w (some B) [(w.heap.size, 44, txc t), (B, 35, stc s v)] W) hM ?_
  clear hM
  rintro Y2 hM
  refine tF 8 [.val 0 (some 4) (pt w.heap.size 0), .load 1 (some 5) 3 (pt w.heap.size 0) (.int .i64 t.fr), .alt 2 (some 6) (.bool (decide (t.fr ≥ 2))) (.bool true), .val 3 (some 7) (.bool true), .val 4 (some 8) (pt w.heap.size 0), .load 5 (some 9) 3 (pt w.heap.size 0) (.int .i64 t.fr), .val 6 (some 10) (.bool (decide (t.fr ≤ 3))), .val 7 (some 11) (.bool (decide (t.fr ≤ 3)))] ⟨ld_int (hM.at 0 rfl) 0 rfl, congrArg Value.bool (decide_eq_true hf), ld_int (hM.at 0 rfl) 0 rfl, trivial⟩ ?_
  refine cF (some 12) 57 #[.bool (decide (t.fr ≤ 3)), .int .i64 37] ((demand_any _ _ _).mono ?_)
  rintro e W1 (⟨h, rfl, rfl⟩ | ⟨h, rfl, rfl⟩)
  case inr => exact And.intro rfl (EndE.pan hM.g (by decide) (by unfold wdrE; rw [if_pos (fun e => absurd e.2 (of_decide_eq_false h))]) rfl (BlkN.of (hM.at 1 rfl)))
  have h1 := Lib.hid (not_not_intro (And.intro hf (of_decide_eq_true h)))
  clear h
  refine dF ?_
  try simp only [puts, Tk.put, Act.put, List.setIfInBounds_toArray, List.set_cons_zero, List.set_cons_succ]
  go_upto_region 2 with fail
  refine wp_region_fromM (fun W => Mem w (some B) [(w.heap.size, 44, txc t), (B, 35, stc s v)] W) hM ?_
  clear hM
  rintro Y3 hM
  refine tF 7 [.val 0 (some 13) (pt B 0), .val 1 (some 14) (pt w.heap.size 0), .load 2 (some 15) 3 (pt w.heap.size 0) (.int .i64 t.fr), .val 3 (some 16) (pt w.heap.size 3), .load 4 (some 17) 3 (pt w.heap.size 3) (.int .i64 t.az), .val 5 (some 18) (pt w.heap.size 4), .load 6 (some 19) 28 (pt w.heap.size 4) (wn (amT t))] ⟨ld_int (hM.at 0 rfl) 0 rfl, ld_int (hM.at 0 rfl) 3 rfl, ld_am (hM.at 0 rfl) ht, trivial⟩ ?_
  refine cF (some 20) 82 #[pt B 0, .int .i64 t.fr, .int .i64 t.az, wn (amT t)] ((unvault_any s v hs.v _ _ hn _ (hM.at 1 rfl)).mono ?_)
  rintro e W1 h
  rcases h.two with ⟨h0, rfl, hg, hN⟩ | ⟨h0, rfl, _⟩
  case inr => exact And.intro rfl (EndE.fail hM.g h h0 (by unfold wdrE; rw [if_neg h1.out, if_pos h0]))
  rw [unvE_ok h0] at hN
  replace hM := hM.call 1 rfl rfl hg hN
  have h2 := Lib.hid (not_not_intro h0)
  clear h h0 hg hN
  refine dF ?_
  try simp only [puts, Tk.put, Act.put, List.setIfInBounds_toArray, List.set_cons_zero, List.set_cons_succ]
  go_upto_region 3 with fail
  refine wp_region_M (fun W => Mem w (some B) [(w.heap.size, 44, txc t)] W) (fun W => Mem w (some B) [(w.heap.size, 44, txc t), (B, 35, stc { s with va := (takeB s.va t.fr t.az (amT t)).1 } v)] W) hmx hM.drew ?_
  clear hM
  rintro Y4 hM
  have hS := hM.sub (.cons_cons _ (.cons _ .slnil))
  refine tD 8 [.val 0 (some 21) (pt B 0), .val 1 (some 22) (pt B 0), .val 2 (some 23) (pt B 0), .val 3 (some 24) (pt B 2), .val 5 (some 26) (pt w.heap.size 0), .load 6 (some 27) 3 (pt w.heap.size 0) (.int .i64 t.fr), .val 7 (some 28) (pt w.heap.size 3), .load 8 (some 29) 3 (pt w.heap.size 3) (.int .i64 t.az), .val 9 (some 30) (pt w.heap.size 4), .load 10 (some 31) 28 (pt w.heap.size 4) (wn (amT t))] ⟨fun W h => ld_int (h.at 0 rfl) 0 rfl, fun W h => ld_int (h.at 0 rfl) 3 rfl, fun W h => ld_am (h.at 0 rfl) ht, trivial⟩ hS ?_
  refine oD 4 7 (lD (some 25) 31 (pt B 2) (bkv s.pu) (ld_pu (s := { s with va := (takeB s.va t.fr t.az (amT t)).1 }) (hM.at 1 rfl)) (hS) ?_)
  refine oD 11 6 (cD (some 32) 80 #[bkv s.pu, .int .i64 t.fr, .int .i64 t.az, wn (amT t)] ((HG.out _).mono ?_))
  rintro e W1 ⟨rfl, hb⟩
  refine And.intro (hS.below hb) ?_
  replace hS := hS.below hb
  replace hM := hM.below hb
  clear hb
  refine tD 4 [.val 12 (some 33) (bkv ((giveB s.pu t.fr t.az (amT t)).1)), .val 13 (some 34) (.int .i64 ((giveB s.pu t.fr t.az (amT t)).2))] trivial hS ?_
  refine oD 14 3 (cD (some 35) 60 #[bkv ((giveB s.pu t.fr t.az (amT t)).1), .int .i64 ((giveB s.pu t.fr t.az (amT t)).2)] ((must_two _ _ _).mono ?_))
  rintro e W2 (⟨hc, rfl, hb⟩ | ⟨hc, rfl, hb⟩)
  case inr =>
    replace hM := hM.below hb
    exact And.intro rfl (EndE.pan hM.g hc (by unfold wdrE; rw [if_neg h1.out, if_neg h2.out, if_pos hc]) rfl (BlkN.of (hM.at 1 rfl)))
  refine And.intro (hS.below hb) ?_
  replace hS := hS.below hb
  replace hM := hM.below hb
  clear hb
  refine tD 1 [.val 15 (some 36) (pt B 0), .val 16 (some 37) (pt B 2)] trivial hS ?_
  have hM1 := hM.set 1 (cs' := stc ({ s with va := (takeB s.va t.fr t.az (amT t)).1, pu := (giveB s.pu t.fr t.az (amT t)).1 }) v) rfl rfl
  refine oD 17 0 (sD 31 (pt B 2) (bkv ((giveB s.pu t.fr t.az (amT t)).1)) (sto_pu (hM.at 1 rfl) _) (hM1.sub (.cons_cons _ (.cons _ .slnil))) ?_)
  replace hS := hM1.sub (.cons_cons _ (.cons _ .slnil))
  replace hM := hM1
  clear hM1
  generalize World.setRow _ _ _ = Y5 at *
  refine dD ?_
  try simp only [puts, Tk.put, Act.put, List.setIfInBounds_toArray, List.set_cons_zero, List.set_cons_succ]
  clear hS
  have h3 := Lib.hid (not_not_intro hc)
  clear hc
  go_upto_region 4 with fail
  refine wp_region_fromM (fun W => Mem w (some B) [(w.heap.size, 44, txc t), (B, 35, stc ({ s with va := (takeB s.va t.fr t.az (amT t)).1, pu := (giveB s.pu t.fr t.az (amT t)).1 }) v)] W) hM ?_
  clear hM
  rintro Y6 hM
  refine tF 5 [.val 0 (some 38) (pt B 0), .val 1 (some 39) (pt w.heap.size 3), .load 2 (some 40) 3 (pt w.heap.size 3) (.int .i64 t.az), .val 3 (some 41) (pt w.heap.size 4), .load 4 (some 42) 28 (pt w.heap.size 4) (wn (amT t))] ⟨ld_int (hM.at 0 rfl) 3 rfl, ld_am (hM.at 0 rfl) ht, trivial⟩ ?_
  refine cF (some 43) 83 #[pt B 0, .int .i64 t.az, wn (amT t)] ((shrinkI_any ({ s with va := (takeB s.va t.fr t.az (amT t)).1, pu := (giveB s.pu t.fr t.az (amT t)).1 }) _ hz HO.out hn _ (hM.at 1 rfl)).mono ?_)
  rintro e W1 h
  rcases h.two with ⟨h0, rfl, _, _⟩ | ⟨h0, rfl, _⟩
  case inr => exact And.intro rfl (EndE.last hM.g h (by unfold wdrE; rw [if_neg h1.out, if_neg h2.out, if_neg h3.out]))
  refine dF ?_
  try simp only [puts, Tk.put, Act.put, List.setIfInBounds_toArray, List.set_cons_zero, List.set_cons_succ]
  go_wp2_with fail
  go_end0
  exact EndE.last hM.g h (by unfold wdrE; rw [if_neg h1.out, if_neg h2.out, if_neg h3.out])
end Go.Proofs.YtfoemkmoambagaaGreat
namespace Go.Proofs.YtfoemkmoambagaaGreat
open Go.RowKit Go.Shelf
def holdB (n l m : Int) : Bool := decide (l ≤ n ∧ n ≤ m)
theorem hold_yes {n l m : Int} (h1 : l ≤ n) (h2 : n ≤ m) : holdB n l m = true := decide_eq_true ⟨h1, h2⟩
theorem hold_no {n l m : Int} (h : ¬ (l ≤ n ∧ n ≤ m)) : holdB n l m = false := decide_eq_false h
theorem holds_any (n l m : Int) (w : World) :
    Calls Tryz.prog 69 #[.agg #[.int .i64 n, .int .i64 l, .int .i64 m]] w fun e W' => e = .returned (.bool (holdB n l m)) ∧ Below w.heap.size w W' := by
  by_cases h1 : l ≤ n
  · by_cases h2 : n ≤ m
    · rw [hold_yes h1 h2]
      go_enter Tryz.func69, Tryz.ntmps69
      go_wp2
      go_ret
      exact ⟨rfl, chain0 _ _⟩
    · rw [hold_no (by omega)]
      go_enter Tryz.func69, Tryz.ntmps69
      go_wp2
      go_ret
      exact ⟨rfl, chain0 _ _⟩
  · rw [hold_no (by omega)]
    go_enter Tryz.func69, Tryz.ntmps69
    go_wp2
    go_ret
    exact ⟨rfl, chain0 _ _⟩
abbrev bndc (i : Trf) : Array Value := #[.int .i64 i.us, .int .i64 0, .int .i64 1, .int .i64 (i.rt.size : Nat), .int .i64 8, .int .i64 8, .int .i64 i.ro, .int .i64 2, .int .i64 3, .int .i64 i.se, .int .i64 0, .int .i64 1, .int .i64 i.re, .int .i64 0, .int .i64 1, .int .i64 i.to, .int .i64 0, .int .i64 7, .int .i64 (i.id.size : Nat), .int .i64 1, .int .i64 16]
abbrev bndv (i : Trf) : Value := .agg (bndc i)
def z21 : List Value := [.int .i64 0, .int .i64 0, .int .i64 0, .int .i64 0, .int .i64 0, .int .i64 0, .int .i64 0, .int .i64 0, .int .i64 0, .int .i64 0, .int .i64 0, .int .i64 0, .int .i64 0, .int .i64 0, .int .i64 0, .int .i64 0, .int .i64 0, .int .i64 0, .int .i64 0, .int .i64 0, .int .i64 0]
set_option maxRecDepth 100000 in
theorem bounds_any (i : Trf) (w : World) :
    Calls Tryz.prog 68 #[ivv i] w fun e W' => e = .returned (bndv i) ∧ Below w.heap.size w W' := by
  have HB := Lib.hid (fun (W : World) (hz : W.heap.size = w.heap.size + 1) => Blk.new' (vs := z21) (t := 116) hz)
  go_enter Tryz.func68, Tryz.ntmps68
  go_wp2_with (refine wpList_buildTo rfl 116 _ rfl (some 26) rfl (bndc i) (by kernel_rfl) ?_; go_must (refine wpList_store_rowTo rfl 116 (.tmp 2) (.tmp 26) rfl rfl (w.heap.size + 1) (bndc i) rfl rfl 116 z21.toArray (HB.out _ (by simp)) (by kernel_rfl) rfl (by simp [bndc, Value.oneCell']) ?_))
  have hg := setRow_heap _ _ _ (bndc i) _ _ (HB.out (w.alloc (.cells #[.int .i64 i.us, .string i.rt, .int .i64 i.ro, .int .i64 i.se, .int .i64 i.re, .int .i64 i.to, .string i.id] 40)) (by simp))
  have hr := fun tmps hp => results_cell_row (P := Tryz.prog) (fn := Tryz.f68) (p := 2) (ty := 116) rfl tmps _ (w.heap.size + 1) _ (bndc i) (0, 0) _ hp hg Tryz.underlying116 rfl (by kernel_rfl)
  exact bodyPost_ret (v := bndv i) (hr _ rfl) rfl ⟨rfl, below_setRow (chainA (chain0 w _) _) (Nat.le_add_right _ 1) _⟩
def bN (i : Trf) (k : Nat) : Int := match k with | 0 => i.us | 1 => i.rt.size | 2 => i.ro | 3 => i.se | 4 => i.re | 5 => i.to | _ => i.id.size
def bL (k : Nat) : Int := match k with | 0 => 0 | 1 => 8 | 2 => 2 | 3 => 0 | 4 => 0 | 5 => 0 | _ => 1
def bM (k : Nat) : Int := match k with | 0 => 1 | 1 => 8 | 2 => 3 | 3 => 1 | 4 => 1 | 5 => 7 | _ => 16
def bOk (i : Trf) (k : Nat) : Bool := holdB (bN i k) (bL k) (bM k)
theorem may_of {i : Trf} (h : ∀ j, j < 7 → bOk i j = true) : maybeI i := by
  have g := fun j hj => of_decide_eq_true (h j hj)
  have h0 : 0 ≤ i.us ∧ i.us ≤ 1 := g 0 (by omega)
  have h1 : 8 ≤ (i.rt.size : Int) ∧ (i.rt.size : Int) ≤ 8 := g 1 (by omega)
  have h2 : 2 ≤ i.ro ∧ i.ro ≤ 3 := g 2 (by omega)
  have h3 : 0 ≤ i.se ∧ i.se ≤ 1 := g 3 (by omega)
  have h4 : 0 ≤ i.re ∧ i.re ≤ 1 := g 4 (by omega)
  have h5 : 0 ≤ i.to ∧ i.to ≤ 7 := g 5 (by omega)
  have h6 : 1 ≤ (i.id.size : Int) ∧ (i.id.size : Int) ≤ 16 := g 6 (by omega)
  exact ⟨h0, by omega, h2, h3, h4, h5, by omega, by omega⟩
theorem may_not {i : Trf} {j : Nat} (hj : j < 7) (h : bOk i j = false) : ¬ maybeI i := by
  intro ⟨h0, h1, h2, h3, h4, h5, h6, h7⟩
  have g := of_decide_eq_false h
  apply g
  match j, hj with
  | 0, _ => exact h0
  | 1, _ => exact ⟨show (8 : Int) ≤ (i.rt.size : Int) by omega, show (i.rt.size : Int) ≤ 8 by omega⟩
  | 2, _ => exact h2
  | 3, _ => exact h3
  | 4, _ => exact h4
  | 5, _ => exact h5
  | 6, _ => exact ⟨show (1 : Int) ≤ (i.id.size : Int) by omega, show (i.id.size : Int) ≤ 16 by omega⟩
set_option maxRecDepth 100000 in
theorem idx_bound (i : Trf) (w : World) {k : Nat} (hk : k < 7) :
    (Instr.index 116 (bndv i) (.int .i64 k)).run Tryz.prog w = .ok (.agg #[.int .i64 (bN i k), .int .i64 (bL k), .int .i64 (bM k)]) w := by
  have hs : ∀ j : Nat, (sizeOf 115).run Tryz.prog w = .ok 3 w := fun _ => by kernel_rfl
  have e1 : (Instr.index 116 (bndv i) (.int .i64 k)).run Tryz.prog w = .ok (.agg (List.take 3 (List.drop (k * 3) (bndc i).toList)).toArray) w := by
    have h1 : (0 : Int) ≤ (k : Int) ∧ (k : Int) < 7 := ⟨by omega, by omega⟩
    simp [Instr.index, run_underlying Tryz.underlying116, asIntOf, h1, hs 0, go_sem]
    exact fun h => absurd h (by omega)
  rw [e1]
  match k, hk with
  | 0, _ => rfl
  | 1, _ => rfl
  | 2, _ => rfl
  | 3, _ => rfl
  | 4, _ => rfl
  | 5, _ => rfl
  | 6, _ => rfl
set_option maxRecDepth 100000 in
set_option maxHeartbeats 1000000 in
theorem check_any (i : Trf) (w : World) :
    Calls Tryz.prog 47 #[ivv i] w fun e W' => e = .returned (.int .i64 (errI i)) ∧ Below w.heap.size w W' := by
  have HB := Lib.hid (bounds_any i)
  go_enter Tryz.func47, Tryz.ntmps47
  go_wp2_with (go_at_call 68; refine (HB.out _).mono ?_; rintro e w1 ⟨rfl, hb1⟩)
  have hB := chain (chain0 w _) hb1
  go_loopw [7] (fun n wr => ∃ k : Nat, k ≤ 7 ∧ n = .int .i64 k ∧ (∀ j, j < k → bOk i j = true) ∧ Below w.heap.size w wr) (fun n _ => 7 - (intOf n).toNat)
  case atStart => exact ⟨0, by omega, rfl, fun j hj => absurd hj (by omega), hB⟩
  case round =>
    clear hb1 hB
    obtain ⟨k, hk, rfl, hall, hB⟩ := hrel
    have HA := Lib.hid hall
    clear hall
    by_cases hlt : k < 7
    · have hlt' : (k : Int) < 7 := by omega
      have HI := Lib.hid (fun W => idx_bound i W hlt)
      have H0 := holds_any (bN i k) (bL k) (bM k)
      by_cases hb : bOk i k = true
      · have HN : Hid (∀ j, j < k + 1 → bOk i j = true) := Lib.hid fun j hj => by
          by_cases hjk : j < k
          · exact HA.out j hjk
          · obtain rfl : j = k := by omega
            exact hb
        rw [show holdB (bN i k) (bL k) (bM k) = true from hb] at H0
        have H1 := Lib.hid H0
        clear H0 hb HA HB
        generalize bN i k = x0 at *
        generalize bL k = x1 at *
        generalize bM k = x2 at *
        go_wp2_with (first
          | (go_at_call 69; refine (H1.out _).mono ?_; rintro e w2 ⟨rfl, hb2⟩)
          | (refine wpList_indexTo rfl 116 (.tmp 6) (.tmp 7) rfl (some 9) rfl _ (HI.out _) ?_))
        go_roundw
        case rel => exact ⟨k + 1, by omega, by go_num, HN.out, chain (chainA hB _) hb2⟩
        case measure => simp [intOf]; omega
      · replace hb : bOk i k = false := by simpa using hb
        have HN := Lib.hid (may_not hlt hb)
        rw [show holdB (bN i k) (bL k) (bM k) = false from hb] at H0
        have H1 := Lib.hid H0
        clear H0 hb HA HB
        generalize bN i k = x0 at *
        generalize bL k = x1 at *
        generalize bM k = x2 at *
        go_wp2_with (first
          | (go_at_call 69; refine (H1.out _).mono ?_; rintro e w2 ⟨rfl, hb2⟩)
          | (refine wpList_indexTo rfl 116 (.tmp 6) (.tmp 7) rfl (some 9) rfl _ (HI.out _) ?_))
        go_ret
        exact ⟨by rw [errI, if_neg HN.out]; rfl, chain (chainA hB _) hb2⟩
    · obtain rfl : k = 7 := by omega
      go_wp2
      go_ret
      exact ⟨by rw [errI, if_pos (may_of HA.out)]; rfl, hB⟩
set_option maxRecDepth 100000 in
theorem sound_any (v : Sid) (w : World) :
    Calls Tryz.prog 54 #[svv v] w fun e W' => e = .returned (.int .i64 (errV v)) ∧ Below w.heap.size w W' := by
  have hweq := @run_equalIn_wide
  by_cases h0 : v.a0 = 0 ∧ v.a1 = 0 ∧ v.a2 = 0 ∧ v.a3 = 0
  · have hE : errV v = 36 := if_neg fun h => h.1 h0
    rw [hE]
    have hq : wEq (v.a0 : Nat) (v.a1 : Nat) (v.a2 : Nat) (v.a3 : Nat) 0 0 0 0 = true := by
      obtain ⟨e0, e1, e2, e3⟩ := h0
      rw [e0, e1, e2, e3]; rfl
    clear hE h0
    go_enter Tryz.func54, Tryz.ntmps54
    go_wp2
    go_ret
    exact ⟨rfl, chainA (chain0 w _) _⟩
  · have hq : wEq (v.a0 : Nat) (v.a1 : Nat) (v.a2 : Nat) (v.a3 : Nat) 0 0 0 0 = false := wEq_not (by omega)
    have H0 := holds_any v.x 0 1099511627776
    by_cases hx : 0 ≤ v.x ∧ v.x ≤ 1099511627776
    · have hE : errV v = 0 := if_pos ⟨h0, hx⟩
      rw [hold_yes hx.1 hx.2] at H0
      rw [hE]
      have H1 := Lib.hid H0
      clear H0 h0 hx hE
      go_enter Tryz.func54, Tryz.ntmps54
      go_wp2_with (go_at_call 69; refine (H1.out _).mono ?_; rintro e w2 ⟨rfl, hb2⟩)
      go_ret
      exact ⟨rfl, chain (chainA (chain0 w _) _) hb2⟩
    · have hE : errV v = 36 := if_neg fun h => hx h.2
      rw [hold_no hx] at H0
      rw [hE]
      have H1 := Lib.hid H0
      clear H0 h0 hx hE
      go_enter Tryz.func54, Tryz.ntmps54
      go_wp2_with (go_at_call 69; refine (H1.out _).mono ?_; rintro e w2 ⟨rfl, hb2⟩)
      go_ret
      exact ⟨rfl, chain (chainA (chain0 w _) _) hb2⟩
end Go.Proofs.YtfoemkmoambagaaGreat
namespace Go.Proofs.YtfoemkmoambagaaGreat
open Go.RowKit Go.Shelf
theorem txsWithin_any (n l m : Int) (w : World) :
    Calls Tryz.prog 28 #[.int .i64 n, .int .i64 l, .int .i64 m] w fun e W' => e = .returned (.bool (holdB n l m)) ∧ w = W' := by
  by_cases h1 : l ≤ n
  · by_cases h2 : n ≤ m
    · rw [hold_yes h1 h2]
      go_enter Tryz.func28, Tryz.ntmps28
      go_wp2
      go_ret
      exact ⟨rfl, rfl⟩
    · rw [hold_no (by omega)]
      go_enter Tryz.func28, Tryz.ntmps28
      go_wp2
      go_ret
      exact ⟨rfl, rfl⟩
  · rw [hold_no (by omega)]
    go_enter Tryz.func28, Tryz.ntmps28
    go_wp2
    go_ret
    exact ⟨rfl, rfl⟩
set_option maxRecDepth 100000 in
set_option maxHeartbeats 2000000 in
theorem checkMove_any (t : Tr) (w : World) :
    Calls Tryz.prog 29 #[txv t] w fun e W' => e = .returned (.int .i64 (errM t)) ∧ Below w.heap.size w W' := by
  have hweq := @run_equalIn_wide
  have kB := Blk.new w 44 (txc t)
  have hB := chain0 w (.cells (txc t).toArray 44)
  have c2 := (kB.cell 2).trans rfl
  have c10 := (kB.cell 10).trans rfl
  have c13 := (kB.cell 13).trans rfl
  by_cases h0 : zeroA t
  · have hq : wEq (t.a0 : Nat) (t.a1 : Nat) (t.a2 : Nat) (t.a3 : Nat) 0 0 0 0 = true := by
      obtain ⟨e0, e1, e2, e3⟩ := h0
      rw [e0, e1, e2, e3]; rfl
    have HE : Hid (errM t = 36) := Lib.hid (if_pos h0)
    clear h0
    go_enter Tryz.func29, Tryz.ntmps29
    go_wp2_with (first
      | ((with_reducible refine wpList_loadIf 28 (.tmp 3) ?_ (some 4) ?_ ?_ (wv t.a0 t.a1 t.a2 t.a3) ?_ ?_); (· rfl); (· rfl); (· rfl); (· exact load_am kB))
      | (go_at_call 28; refine (txsWithin_any _ _ _ _).mono ?_; rintro e w1 ⟨rfl, rfl⟩))
    go_ret
    exact ⟨by rw [HE.out]; rfl, hB⟩
  · have hq : wEq (t.a0 : Nat) (t.a1 : Nat) (t.a2 : Nat) (t.a3 : Nat) 0 0 0 0 = false := wEq_not (by unfold zeroA at h0; omega)
    by_cases hk1 : t.kd = 1
    · have q1 : (t.kd == 1) = true := by simpa using hk1
      have q2 : (t.kd == 2) = false := by simp [hk1]
      by_cases hr : 0 ≤ t.iv.to ∧ t.iv.to ≤ 7
      · have HE : Hid (errM t = 0) := Lib.hid (by rw [errM, if_neg h0, if_pos hk1, if_pos hr])
        have hh := hold_yes hr.1 hr.2
        clear h0 hk1 hr
        go_enter Tryz.func29, Tryz.ntmps29
        go_wp2_with (first
          | ((with_reducible refine wpList_loadIf 28 (.tmp 3) ?_ (some 4) ?_ ?_ (wv t.a0 t.a1 t.a2 t.a3) ?_ ?_); (· rfl); (· rfl); (· rfl); (· exact load_am kB))
          | (go_at_call 28; refine (txsWithin_any _ _ _ _).mono ?_; rintro e w1 ⟨rfl, rfl⟩))
        go_ret
        exact ⟨by rw [HE.out]; rfl, hB⟩
      · have HE : Hid (errM t = 39) := Lib.hid (by rw [errM, if_neg h0, if_pos hk1, if_neg hr])
        have hh := hold_no hr
        clear h0 hk1 hr
        go_enter Tryz.func29, Tryz.ntmps29
        go_wp2_with (first
          | ((with_reducible refine wpList_loadIf 28 (.tmp 3) ?_ (some 4) ?_ ?_ (wv t.a0 t.a1 t.a2 t.a3) ?_ ?_); (· rfl); (· rfl); (· rfl); (· exact load_am kB))
          | (go_at_call 28; refine (txsWithin_any _ _ _ _).mono ?_; rintro e w1 ⟨rfl, rfl⟩))
        go_ret
        exact ⟨by rw [HE.out]; rfl, hB⟩
    · have q1 : (t.kd == 1) = false := by simpa using hk1
      by_cases hk2 : t.kd = 2
      · have q2 : (t.kd == 2) = true := by simpa using hk2
        by_cases hr : 2 ≤ t.iv.ro ∧ t.iv.ro ≤ 3
        · have HE : Hid (errM t = 0) := Lib.hid (by rw [errM, if_neg h0, if_neg hk1, if_pos hk2, if_pos hr])
          have hh := hold_yes hr.1 hr.2
          clear h0 hk1 hk2 hr
          go_enter Tryz.func29, Tryz.ntmps29
          go_wp2_with (first
            | ((with_reducible refine wpList_loadIf 28 (.tmp 3) ?_ (some 4) ?_ ?_ (wv t.a0 t.a1 t.a2 t.a3) ?_ ?_); (· rfl); (· rfl); (· rfl); (· exact load_am kB))
            | (go_at_call 28; refine (txsWithin_any _ _ _ _).mono ?_; rintro e w1 ⟨rfl, rfl⟩))
          go_ret
          exact ⟨by rw [HE.out]; rfl, hB⟩
        · have HE : Hid (errM t = 39) := Lib.hid (by rw [errM, if_neg h0, if_neg hk1, if_pos hk2, if_neg hr])
          have hh := hold_no hr
          clear h0 hk1 hk2 hr
          go_enter Tryz.func29, Tryz.ntmps29
          go_wp2_with (first
            | ((with_reducible refine wpList_loadIf 28 (.tmp 3) ?_ (some 4) ?_ ?_ (wv t.a0 t.a1 t.a2 t.a3) ?_ ?_); (· rfl); (· rfl); (· rfl); (· exact load_am kB))
            | (go_at_call 28; refine (txsWithin_any _ _ _ _).mono ?_; rintro e w1 ⟨rfl, rfl⟩))
          go_ret
          exact ⟨by rw [HE.out]; rfl, hB⟩
      · have q2 : (t.kd == 2) = false := by simpa using hk2
        have HE : Hid (errM t = 0) := Lib.hid (by rw [errM, if_neg h0, if_neg hk1, if_neg hk2])
        clear h0 hk1 hk2
        go_enter Tryz.func29, Tryz.ntmps29
        go_wp2_with (first
          | ((with_reducible refine wpList_loadIf 28 (.tmp 3) ?_ (some 4) ?_ ?_ (wv t.a0 t.a1 t.a2 t.a3) ?_ ?_); (· rfl); (· rfl); (· rfl); (· exact load_am kB))
          | (go_at_call 28; refine (txsWithin_any _ _ _ _).mono ?_; rintro e w1 ⟨rfl, rfl⟩))
        go_ret
        exact ⟨by rw [HE.out]; rfl, hB⟩
set_option maxRecDepth 100000 in
set_option maxHeartbeats 2000000 in
theorem checkTransfer_any (t : Tr) (w : World) :
    Calls Tryz.prog 30 #[txv t] w fun e W' => e = .returned (.int .i64 (errF t)) ∧ Below w.heap.size w W' := by
  have kB := Blk.new w 44 (txc t)
  have hB := chain0 w (.cells (txc t).toArray 44)
  have HI := Lib.hid (check_any t.iv)
  have HV := Lib.hid (sound_any t.vr)
  by_cases hi : maybeI t.iv
  · have E1 := Lib.hid (errI_zero hi)
    by_cases hv : maybeV t.vr
    · have E2 := Lib.hid (errV_zero hv)
      by_cases hs : t.sg.size ≤ 1024
      · have HE : Hid (errF t = 0) := Lib.hid (by rw [errF, if_pos hi, if_pos hv, if_pos hs])
        clear hi hv
        go_enter Tryz.func30, Tryz.ntmps30
        go_wp2_with (first
          | ((with_reducible refine wpList_loadIf 40 (.tmp 5) ?_ (some 6) ?_ ?_ (ivv t.iv) ?_ ?_); (· rfl); (· rfl); (· rfl); (· exact load_iv kB))
          | ((with_reducible refine wpList_loadIf 42 (.tmp 11) ?_ (some 12) ?_ ?_ (svv t.vr) ?_ ?_); (· rfl); (· rfl); (· rfl); (· exact load_vr kB))
          | (go_at_call 47; refine (HI.out _).mono ?_; rw [E1.out]; rintro e w1 ⟨rfl, hb⟩; replace kB := kB.below hb kB.lt; replace hB := chain hB hb; clear hb; have c24 := (kB.cell 24).trans rfl)
          | (go_at_call 54; refine (HV.out _).mono ?_; rw [E2.out]; rintro e w2 ⟨rfl, hb⟩; replace kB := kB.below hb kB.lt; replace hB := chain hB hb; clear hb c24; have c24 := (kB.cell 24).trans rfl))
        go_ret
        exact ⟨by rw [HE.out]; rfl, hB⟩
      · have HE : Hid (errF t = 5) := Lib.hid (by rw [errF, if_pos hi, if_pos hv, if_neg hs])
        have hs2 : 1024 < t.sg.size := by omega
        clear hi hv hs
        go_enter Tryz.func30, Tryz.ntmps30
        go_wp2_with (first
          | ((with_reducible refine wpList_loadIf 40 (.tmp 5) ?_ (some 6) ?_ ?_ (ivv t.iv) ?_ ?_); (· rfl); (· rfl); (· rfl); (· exact load_iv kB))
          | ((with_reducible refine wpList_loadIf 42 (.tmp 11) ?_ (some 12) ?_ ?_ (svv t.vr) ?_ ?_); (· rfl); (· rfl); (· rfl); (· exact load_vr kB))
          | (go_at_call 47; refine (HI.out _).mono ?_; rw [E1.out]; rintro e w1 ⟨rfl, hb⟩; replace kB := kB.below hb kB.lt; replace hB := chain hB hb; clear hb; have c24 := (kB.cell 24).trans rfl)
          | (go_at_call 54; refine (HV.out _).mono ?_; rw [E2.out]; rintro e w2 ⟨rfl, hb⟩; replace kB := kB.below hb kB.lt; replace hB := chain hB hb; clear hb c24; have c24 := (kB.cell 24).trans rfl))
        go_ret
        exact ⟨by rw [HE.out]; rfl, hB⟩
    · have E2 := Lib.hid (errV_bad hv)
      have HE : Hid (errF t = 36) := Lib.hid (by rw [errF, if_pos hi, if_neg hv])
      clear hi hv
      go_enter Tryz.func30, Tryz.ntmps30
      go_wp2_with (first
        | ((with_reducible refine wpList_loadIf 40 (.tmp 5) ?_ (some 6) ?_ ?_ (ivv t.iv) ?_ ?_); (· rfl); (· rfl); (· rfl); (· exact load_iv kB))
        | ((with_reducible refine wpList_loadIf 42 (.tmp 11) ?_ (some 12) ?_ ?_ (svv t.vr) ?_ ?_); (· rfl); (· rfl); (· rfl); (· exact load_vr kB))
        | (go_at_call 47; refine (HI.out _).mono ?_; rw [E1.out]; rintro e w1 ⟨rfl, hb⟩; replace kB := kB.below hb kB.lt; replace hB := chain hB hb; clear hb; have c24 := (kB.cell 24).trans rfl)
        | (go_at_call 54; refine (HV.out _).mono ?_; rw [E2.out]; rintro e w2 ⟨rfl, hb⟩; replace kB := kB.below hb kB.lt; replace hB := chain hB hb; clear hb c24; have c24 := (kB.cell 24).trans rfl))
      go_ret
      exact ⟨by rw [HE.out]; rfl, hB⟩
  · have E1 := Lib.hid (errI_bad hi)
    have HE : Hid (errF t = 39) := Lib.hid (by rw [errF, if_neg hi])
    have E2 : Hid (errV t.vr = errV t.vr) := Lib.hid rfl
    clear hi
    go_enter Tryz.func30, Tryz.ntmps30
    go_wp2_with (first
      | ((with_reducible refine wpList_loadIf 40 (.tmp 5) ?_ (some 6) ?_ ?_ (ivv t.iv) ?_ ?_); (· rfl); (· rfl); (· rfl); (· exact load_iv kB))
      | ((with_reducible refine wpList_loadIf 42 (.tmp 11) ?_ (some 12) ?_ ?_ (svv t.vr) ?_ ?_); (· rfl); (· rfl); (· rfl); (· exact load_vr kB))
      | (go_at_call 47; refine (HI.out _).mono ?_; rw [E1.out]; rintro e w1 ⟨rfl, hb⟩; replace kB := kB.below hb kB.lt; replace hB := chain hB hb; clear hb; have c24 := (kB.cell 24).trans rfl)
      | (go_at_call 54; refine (HV.out _).mono ?_; rw [E2.out]; rintro e w2 ⟨rfl, hb⟩; replace kB := kB.below hb kB.lt; replace hB := chain hB hb; clear hb c24; have c24 := (kB.cell 24).trans rfl))
    go_ret
    exact ⟨by rw [HE.out]; rfl, hB⟩
set_option maxRecDepth 100000 in
set_option maxHeartbeats 2000000 in
theorem txsCheck_any (t : Tr) (w : World) :
    Calls Tryz.prog 10 #[txv t] w fun e W' => e = .returned (.int .i64 (errT t)) ∧ Below w.heap.size w W' := by
  have kB := Blk.new w 44 (txc t)
  have hB := chain0 w (.cells (txc t).toArray 44)
  have HM := Lib.hid (checkMove_any t)
  have HF := Lib.hid (checkTransfer_any t)
  have c0 := (kB.cell 0).trans rfl
  have c1 := (kB.cell 1).trans rfl
  have c2 := (kB.cell 2).trans rfl
  have c3 := (kB.cell 3).trans rfl
  by_cases hk : 1 ≤ t.kd ∧ t.kd ≤ 6
  · have g0 := hold_yes hk.1 hk.2
    by_cases hr : (0 ≤ t.fr ∧ t.fr ≤ 7) ∧ (0 ≤ t.no ∧ t.no ≤ 1099511627776) ∧ (0 ≤ t.az ∧ t.az ≤ 1)
    · have g1 := hold_yes hr.1.1 hr.1.2
      have g2 := hold_yes hr.2.1.1 hr.2.1.2
      have g3 := hold_yes hr.2.2.1 hr.2.2.2
      by_cases hm : t.kd ≤ 3
      · have g4 := hold_yes hk.1 hm
        have HE : Hid (errT t = errM t) := Lib.hid (by rw [errT, if_pos hk, if_pos hr, if_pos hm])
        clear hk hr hm
        go_enter Tryz.func10, Tryz.ntmps10
        go_wp2_with (first
          | (first | ((with_reducible refine wpList_loadIf 44 (.tmp 1) ?_ (some 26) ?_ ?_ (txv t) ?_ ?_); (· rfl); (· rfl); (· rfl); (· exact load_tx kB)) | ((with_reducible refine wpList_loadIf 44 (.tmp 1) ?_ (some 28) ?_ ?_ (txv t) ?_ ?_); (· rfl); (· rfl); (· rfl); (· exact load_tx kB)))
          | (go_at_call 28; refine (txsWithin_any _ _ _ _).mono ?_; rintro e w1 ⟨rfl, rfl⟩)
          | (go_at_call 29; refine (HM.out _).mono ?_; rintro e w2 ⟨rfl, hb⟩; replace hB := chain hB hb)
          | (go_at_call 30; refine (HF.out _).mono ?_; rintro e w2 ⟨rfl, hb⟩; replace hB := chain hB hb))
        go_ret
        exact ⟨by rw [HE.out]; rfl, hB⟩
      · have g4 : holdB t.kd 1 3 = false := hold_no (fun h => hm h.2)
        have HE : Hid (errT t = errF t) := Lib.hid (by rw [errT, if_pos hk, if_pos hr, if_neg hm])
        clear hk hr hm
        go_enter Tryz.func10, Tryz.ntmps10
        go_wp2_with (first
          | (first | ((with_reducible refine wpList_loadIf 44 (.tmp 1) ?_ (some 26) ?_ ?_ (txv t) ?_ ?_); (· rfl); (· rfl); (· rfl); (· exact load_tx kB)) | ((with_reducible refine wpList_loadIf 44 (.tmp 1) ?_ (some 28) ?_ ?_ (txv t) ?_ ?_); (· rfl); (· rfl); (· rfl); (· exact load_tx kB)))
          | (go_at_call 28; refine (txsWithin_any _ _ _ _).mono ?_; rintro e w1 ⟨rfl, rfl⟩)
          | (go_at_call 29; refine (HM.out _).mono ?_; rintro e w2 ⟨rfl, hb⟩; replace hB := chain hB hb)
          | (go_at_call 30; refine (HF.out _).mono ?_; rintro e w2 ⟨rfl, hb⟩; replace hB := chain hB hb))
        go_ret
        exact ⟨by rw [HE.out]; rfl, hB⟩
    · have HE : Hid (errT t = 4) := Lib.hid (by rw [errT, if_pos hk, if_neg hr])
      clear hk
      by_cases h1 : 0 ≤ t.fr ∧ t.fr ≤ 7
      · have g1 := hold_yes h1.1 h1.2
        by_cases h2 : 0 ≤ t.no ∧ t.no ≤ 1099511627776
        · have g2 := hold_yes h2.1 h2.2
          have g3 : holdB t.az 0 1 = false := hold_no (fun h => hr ⟨h1, h2, h⟩)
          clear hr h1 h2
          go_enter Tryz.func10, Tryz.ntmps10
          go_wp2_with (first
            | (first | ((with_reducible refine wpList_loadIf 44 (.tmp 1) ?_ (some 26) ?_ ?_ (txv t) ?_ ?_); (· rfl); (· rfl); (· rfl); (· exact load_tx kB)) | ((with_reducible refine wpList_loadIf 44 (.tmp 1) ?_ (some 28) ?_ ?_ (txv t) ?_ ?_); (· rfl); (· rfl); (· rfl); (· exact load_tx kB)))
            | (go_at_call 28; refine (txsWithin_any _ _ _ _).mono ?_; rintro e w1 ⟨rfl, rfl⟩)
            | (go_at_call 29; refine (HM.out _).mono ?_; rintro e w2 ⟨rfl, hb⟩; replace hB := chain hB hb)
            | (go_at_call 30; refine (HF.out _).mono ?_; rintro e w2 ⟨rfl, hb⟩; replace hB := chain hB hb))
          go_ret
          exact ⟨by rw [HE.out]; rfl, hB⟩
        · have g2 := hold_no h2
          clear hr h1 h2
          go_enter Tryz.func10, Tryz.ntmps10
          go_wp2_with (first
            | (first | ((with_reducible refine wpList_loadIf 44 (.tmp 1) ?_ (some 26) ?_ ?_ (txv t) ?_ ?_); (· rfl); (· rfl); (· rfl); (· exact load_tx kB)) | ((with_reducible refine wpList_loadIf 44 (.tmp 1) ?_ (some 28) ?_ ?_ (txv t) ?_ ?_); (· rfl); (· rfl); (· rfl); (· exact load_tx kB)))
            | (go_at_call 28; refine (txsWithin_any _ _ _ _).mono ?_; rintro e w1 ⟨rfl, rfl⟩)
            | (go_at_call 29; refine (HM.out _).mono ?_; rintro e w2 ⟨rfl, hb⟩; replace hB := chain hB hb)
            | (go_at_call 30; refine (HF.out _).mono ?_; rintro e w2 ⟨rfl, hb⟩; replace hB := chain hB hb))
          go_ret
          exact ⟨by rw [HE.out]; rfl, hB⟩
      · have g1 := hold_no h1
        clear hr h1
        go_enter Tryz.func10, Tryz.ntmps10
        go_wp2_with (first
          | (first | ((with_reducible refine wpList_loadIf 44 (.tmp 1) ?_ (some 26) ?_ ?_ (txv t) ?_ ?_); (· rfl); (· rfl); (· rfl); (· exact load_tx kB)) | ((with_reducible refine wpList_loadIf 44 (.tmp 1) ?_ (some 28) ?_ ?_ (txv t) ?_ ?_); (· rfl); (· rfl); (· rfl); (· exact load_tx kB)))
          | (go_at_call 28; refine (txsWithin_any _ _ _ _).mono ?_; rintro e w1 ⟨rfl, rfl⟩)
          | (go_at_call 29; refine (HM.out _).mono ?_; rintro e w2 ⟨rfl, hb⟩; replace hB := chain hB hb)
          | (go_at_call 30; refine (HF.out _).mono ?_; rintro e w2 ⟨rfl, hb⟩; replace hB := chain hB hb))
        go_ret
        exact ⟨by rw [HE.out]; rfl, hB⟩
  · have g0 := hold_no hk
    have HE : Hid (errT t = 12) := Lib.hid (by rw [errT, if_neg hk])
    clear hk
    go_enter Tryz.func10, Tryz.ntmps10
    go_wp2_with (first
      | (first | ((with_reducible refine wpList_loadIf 44 (.tmp 1) ?_ (some 26) ?_ ?_ (txv t) ?_ ?_); (· rfl); (· rfl); (· rfl); (· exact load_tx kB)) | ((with_reducible refine wpList_loadIf 44 (.tmp 1) ?_ (some 28) ?_ ?_ (txv t) ?_ ?_); (· rfl); (· rfl); (· rfl); (· exact load_tx kB)))
      | (go_at_call 28; refine (txsWithin_any _ _ _ _).mono ?_; rintro e w1 ⟨rfl, rfl⟩)
      | (go_at_call 29; refine (HM.out _).mono ?_; rintro e w2 ⟨rfl, hb⟩; replace hB := chain hB hb)
      | (go_at_call 30; refine (HF.out _).mono ?_; rintro e w2 ⟨rfl, hb⟩; replace hB := chain hB hb))
    go_ret
    exact ⟨by rw [HE.out]; rfl, hB⟩
end Go.Proofs.YtfoemkmoambagaaGreat
