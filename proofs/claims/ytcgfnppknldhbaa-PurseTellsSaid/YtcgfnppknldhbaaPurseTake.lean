/-
  purse: what is taken.
-/
import Derived.Test.YtcgfnppknldhbaaPurseChk
import Derived.Test.YtcgfnppknldhbaaPurseW
import Derived.Test.YtcgfnppknldhbaaHeldMono
import Derived.Deep.Cut
import Derived.Deep.CutRange
import Derived.Deep.DeepCutAuto
import Derived.Outline
namespace Go.Proofs.Ytcgfnppknldhbaa
open Go.RowKit Go.Shelf

set_option maxRecDepth 100000 in
set_option maxHeartbeats 4000000 in
theorem bookTake_any (b : Bk) (hb : OkK b) (a s : Int) (n : Nat) (hn : n < M4) (w : World) :
    Calls Try.prog 8 #[bkv b, .int .i64 a, .int .i64 s, wn n] w fun e W' => e = .returned (.tuple #[bkv (takeB b a s n).1, .int .i64 (takeB b a s n).2]) ∧ Below w.heap.size w W' := by
  have hmx : Try.prog.follows .mixedOrders = true := by kernel_rfl
  have kB0 := ((Blk.new w 27 (bkc b)).alloc (.cells (ws (nw n)).toArray 24)).alloc (.cells (bkc noK).toArray 27)
  have kA0 : Blk (((w.alloc (.cells (bkc b).toArray 27)).alloc (.cells (ws (nw n)).toArray 24)).alloc (.cells (bkc noK).toArray 27)) (w.heap.size + 1) 24 (ws (nw n)) := (Blk.new' (by simp)).alloc _
  have kR0 : Blk (((w.alloc (.cells (bkc b).toArray 27)).alloc (.cells (ws (nw n)).toArray 24)).alloc (.cells (bkc noK).toArray 27)) (w.heap.size + 1 + 1) 27 (bkc noK) := Blk.new' (by simp)
  have hB0 := chainA (chainA (chain0 w (.cells (bkc b).toArray 27)) (.cells (ws (nw n)).toArray 24)) (.cells (bkc noK).toArray 27)
  rw [bkc_no] at kB0 kA0 hB0
  have kR1 : Blk (((w.alloc (.cells (bkc b).toArray 27)).alloc (.cells (ws (nw n)).toArray 24)).alloc (.cells (List.replicate 64 (Value.int .u64 0)).toArray 27)) (w.heap.size + 1 + 1) 27 (bkc noK) := by rw [bkc_no] at kR0 ⊢; exact kR0
  clear kR0
  by_cases h : atS a s
  · have HP : Hid (placeB a s = true) := Lib.hid (decide_eq_true h)
    have HY := Lib.hid (fun k => takeB_yes (b := b) (n := n) h k)
    have HN := Lib.hid (fun k => takeB_low (b := b) (n := n) h k)
    have hs16 := slot_lt h
    obtain ⟨⟨h1, h2⟩, h3, h4⟩ := h
    obtain ⟨i, rfl⟩ : ∃ i : Nat, a = i := ⟨a.toNat, by omega⟩
    obtain ⟨j, rfl⟩ : ∃ j : Nat, s = j := ⟨s.toNat, by omega⟩
    have hi : i < 8 := by omega
    have hj : j < 2 := by omega
    have hbs := hb (2 * i + j) (by omega)
    replace HY : Hid (_ → takeB b (i : Int) (j : Int) n = (updB b (2 * i + j) (b (2 * i + j) - n), 0)) := HY
    replace HN : Hid (_ → takeB b (i : Int) (j : Int) n = (b, 30)) := HN
    have HC := Lib.hid (subN_any hbs hn)
    clear hs16 hbs
    generalize hq : b (2 * i + j) = q at *
    have HQ := Lib.hid hq
    clear hq
    go_enter Try.func8, Try.ntmps8
    go_upto_region 3 with (go_at_call 16; refine (isPlace_any _ _ _).mono ?_; rw [HP.out]; rintro e w1 ⟨rfl, rfl⟩)
    generalize hX : World.alloc (World.alloc (World.alloc _ _) _) _ = X
    have kB : Blk X w.heap.size 27 (bkc b) := by rw [← hX]; exact kB0
    have kA : Blk X (w.heap.size + 1) 24 (ws (nw n)) := by rw [← hX]; exact kA0
    have kR : Blk X (w.heap.size + 1 + 1) 27 (bkc noK) := by rw [← hX]; exact kR1
    have hB : Below w.heap.size w X := by rw [← hX]; exact hB0
    clear hX kB0 kA0 kR1 hB0
    go_cut [10, 11] (fun p f wc => NewN X (q - n) p wc ∧ f = .bool (lessB q n))
    case first =>
      refine wp_region_held_drew (S := fun W => Below X.heap.size X W) hmx (Below.refl _ X).drew ?_
      intro hS
      have hl : ∀ W, Below X.heap.size X W → (Instr.loadAt 24 (.pointer (some ⟨w.heap.size, i * 8 + j * 4, none⟩))).run Try.prog W = .ok (wn q) W := fun W h => by have := load_slot (kB.below h kB.lt) hi hj; rw [HQ.out] at this; exact this
      have HL := Lib.hid hl
      clear hl
      generalize X.drew = Y at *
      refine' wpAnyH_take (i := 0) (oi := _) (v := _) ?hi27 (by kernel_rfl) (by kernel_rfl) (by kernel_rfl) ?hQ27 (Or.inl ⟨?hw27, ?hy27⟩) hS ?rest27
      case hi27 => simp only [List.getElem?_toArray, List.getElem?_cons_zero]; rfl
      case hQ27 => exact fun _ _ _ h => h
      case hw27 => rfl
      case hy27 => intro W' hS'; go_simp; with_reducible rfl
      try simp only [Act.put, List.setIfInBounds_toArray, List.set_cons_zero, List.set_cons_succ]
      refine' wpAnyH_take (i := 1) (oi := _) (v := _) ?hi28 (by kernel_rfl) (by kernel_rfl) (by kernel_rfl) ?hQ28 (Or.inl ⟨?hw28, ?hy28⟩) hS ?rest28
      case hi28 => simp only [List.getElem?_toArray, List.getElem?_cons_succ, List.getElem?_cons_zero]; rfl
      case hQ28 => exact fun _ _ _ h => h
      case hw28 => rfl
      case hy28 => intro W' hS'; go_simp; with_reducible rfl
      try simp only [Act.put, List.setIfInBounds_toArray, List.set_cons_zero, List.set_cons_succ]
      refine' wpAnyH_take (i := 2) (oi := _) (v := _) ?hi29 (by kernel_rfl) (by kernel_rfl) (by kernel_rfl) ?hQ29 (Or.inl ⟨?hw29, ?hy29⟩) hS ?rest29
      case hi29 => simp only [List.getElem?_toArray, List.getElem?_cons_succ, List.getElem?_cons_zero]; rfl
      case hQ29 => exact fun _ _ _ h => h
      case hw29 => rfl
      case hy29 => intro W' hS'; go_simp; with_reducible rfl
      try simp only [Act.put, List.setIfInBounds_toArray, List.set_cons_zero, List.set_cons_succ]
      refine' wpAnyH_take (i := 3) (oi := _) (v := _) ?hi30 (by kernel_rfl) (by kernel_rfl) (by kernel_rfl) ?hQ30 (Or.inl ⟨?hw30, ?hy30⟩) hS ?rest30
      case hi30 => simp only [List.getElem?_toArray, List.getElem?_cons_succ, List.getElem?_cons_zero]; rfl
      case hQ30 => exact fun _ _ _ h => h
      case hw30 => rfl
      case hy30 => intro W' hS'; go_simp; with_reducible rfl
      try simp only [Act.put, List.setIfInBounds_toArray, List.set_cons_zero, List.set_cons_succ]
      refine' wpAnyH_take (i := 4) (oi := _) (v := wn q) ?hi31 (by kernel_rfl) (by kernel_rfl) (by kernel_rfl) ?hQ31 (Or.inl ⟨?hw31, ?hy31⟩) hS ?rest31
      case hi31 => simp only [List.getElem?_toArray, List.getElem?_cons_succ, List.getElem?_cons_zero]; rfl
      case hQ31 => exact fun _ _ _ h => h
      case hw31 => rfl
      case hy31 => exact fun W' hS' => exec_load 24 (.tmp 21) rfl _ W' (HL.out W' hS')
      try simp only [Act.put, List.setIfInBounds_toArray, List.set_cons_zero, List.set_cons_succ]
      refine' wpAnyH_take (i := 5) (oi := _) (v := wn n) ?hi32 (by kernel_rfl) (by kernel_rfl) (by kernel_rfl) ?hQ32 (Or.inl ⟨?hw32, ?hy32⟩) hS ?rest32
      case hi32 => simp only [List.getElem?_toArray, List.getElem?_cons_succ, List.getElem?_cons_zero]; rfl
      case hQ32 => exact fun _ _ _ h => h
      case hw32 => rfl
      case hy32 => exact fun W' hS' => exec_load 24 (.tmp 7) rfl _ W' (load_wn (kA.below hS' kA.lt))
      try simp only [Act.put, List.setIfInBounds_toArray, List.set_cons_zero, List.set_cons_succ]
      refine wpAnyH_ready (rs := [6, 10]) (by kernel_rfl) (by simp) ?_
      refine' AllReadyH.cons (o := _) ?ho33 (fun K hK => ?st33) (AllReadyH.cons (o := _) ?ho34 (fun K hK => ?st34) AllReadyH.nil)
      case ho33 => simp only [List.getElem?_toArray, List.getElem?_cons_succ, List.getElem?_cons_zero]; rfl
      case ho34 => simp only [List.getElem?_toArray, List.getElem?_cons_succ, List.getElem?_cons_zero]; rfl
      case st33 =>
        go_simp
        refine (HC.out _).mono ?_
        rintro e Y1 ⟨rfl, hb1⟩
        refine hK.out _ _ (hS.trans (hb1.mono hS.size)) (fun hS => ?_)
        clear hK K
        try simp only [Act.put, List.setIfInBounds_toArray, List.set_cons_zero, List.set_cons_succ]
        refine' wpAnyH_take (i := 7) (oi := _) (v := _) ?hi35 (by kernel_rfl) (by kernel_rfl) (by kernel_rfl) ?hQ35 (Or.inl ⟨?hw35, ?hy35⟩) hS ?rest35
        case hi35 => simp only [List.getElem?_toArray, List.getElem?_cons_succ, List.getElem?_cons_zero]; rfl
        case hQ35 => exact fun _ _ _ h => h
        case hw35 => rfl
        case hy35 => intro W' hS'; go_simp; with_reducible rfl
        try simp only [Act.put, List.setIfInBounds_toArray, List.set_cons_zero, List.set_cons_succ]
        refine' wpAnyH_take (i := 8) (oi := _) (v := _) ?hi36 (by kernel_rfl) (by kernel_rfl) (by kernel_rfl) ?hQ36 (Or.inl ⟨?hw36, ?hy36⟩) hS ?rest36
        case hi36 => simp only [List.getElem?_toArray, List.getElem?_cons_succ, List.getElem?_cons_zero]; rfl
        case hQ36 => exact fun _ _ _ h => h
        case hw36 => rfl
        case hy36 => intro W' hS'; go_simp; with_reducible rfl
        try simp only [Act.put, List.setIfInBounds_toArray, List.set_cons_zero, List.set_cons_succ]
        refine' wpAnyH_take (i := 9) (oi := _) (v := _) ?hi37 (by kernel_rfl) (by kernel_rfl) (by kernel_rfl) ?hQ37 (Or.inl ⟨?hw37, ?hy37⟩) hS ?rest37
        case hi37 => simp only [List.getElem?_toArray, List.getElem?_cons_succ, List.getElem?_cons_zero]; rfl
        case hQ37 => exact fun _ _ _ h => h
        case hw37 => rfl
        case hy37 => intro W' hS'; go_simp; with_reducible rfl
        try simp only [Act.put, List.setIfInBounds_toArray, List.set_cons_zero, List.set_cons_succ]
        refine wpAnyH_ready (rs := [10]) (by kernel_rfl) (by simp) ?_
        refine' AllReadyH.cons (o := _) ?ho38 (fun K hK => ?st38) AllReadyH.nil
        case ho38 => simp only [List.getElem?_toArray, List.getElem?_cons_succ, List.getElem?_cons_zero]; rfl
        case st38 =>
          go_simp
          have hN : X.heap.size ≤ Y1.heap.size := hS.size
          refine hK.out _ _ (hS.alloc hS.size _) (fun hS => ?_)
          clear hK K
          try simp only [Act.put, List.setIfInBounds_toArray, List.set_cons_zero, List.set_cons_succ]
          have kN : Blk (Y1.alloc (.cells #[.int .u64 0, .int .u64 0, .int .u64 0, .int .u64 0] 24)) Y1.heap.size 24 (ws (nw 0)) := by rw [ws_no]; exact Blk.new _ _ _
          generalize Y1.alloc (.cells #[.int .u64 0, .int .u64 0, .int .u64 0, .int .u64 0] 24) = U at *
          generalize Y1.heap.size = BN at *
          refine wpAnyH_ready (rs := [11]) (by kernel_rfl) (by simp) ?_
          refine' AllReadyH.cons (o := _) ?ho39 (fun K hK => ?st39) AllReadyH.nil
          case ho39 => simp only [List.getElem?_toArray, List.getElem?_cons_succ, List.getElem?_cons_zero]; rfl
          case st39 =>
            refine wp_store_wn (.tmp 10) (.tmp 25) kN (q - n) rfl rfl rfl rfl ?_
            have hS1 := hS.grown (grownBy_row U BN (ws (nw (q - n))).toArray) hS.size (fun e he => by cases he; exact hN)
            have kN1 := kN.row (ws (nw (q - n)))
            refine hK.out _ _ hS1 (fun hS => ?_)
            clear hK K hS1
            try simp only [Act.put, List.setIfInBounds_toArray, List.set_cons_zero, List.set_cons_succ]
            refine' wpAnyH_take (i := 12) (oi := _) (v := _) ?hi40 (by kernel_rfl) (by kernel_rfl) (by kernel_rfl) ?hQ40 (Or.inl ⟨?hw40, ?hy40⟩) hS ?rest40
            case hi40 => simp only [List.getElem?_toArray, List.getElem?_cons_succ, List.getElem?_cons_zero]; rfl
            case hQ40 => exact fun _ _ _ h => h
            case hw40 => rfl
            case hy40 => intro W' hS'; go_simp; with_reducible rfl
            try simp only [Act.put, List.setIfInBounds_toArray, List.set_cons_zero, List.set_cons_succ]
            refine wpAnyH_done (by kernel_rfl) ?_ _
            go_wp2_with fail
            go_meet
            exact ⟨⟨_, rfl, kN1, hN, hS⟩, rfl⟩
      case st34 =>
        go_simp
        have hN : X.heap.size ≤ Y.heap.size := hS.size
        refine hK.out _ _ (hS.alloc hS.size _) (fun hS => ?_)
        clear hK K
        try simp only [Act.put, List.setIfInBounds_toArray, List.set_cons_zero, List.set_cons_succ]
        have kN : Blk (Y.alloc (.cells #[.int .u64 0, .int .u64 0, .int .u64 0, .int .u64 0] 24)) Y.heap.size 24 (ws (nw 0)) := by rw [ws_no]; exact Blk.new _ _ _
        generalize Y.alloc (.cells #[.int .u64 0, .int .u64 0, .int .u64 0, .int .u64 0] 24) = Y2 at *
        generalize Y.heap.size = BN at *
        refine wpAnyH_ready (rs := [6]) (by kernel_rfl) (by simp) ?_
        refine' AllReadyH.cons (o := _) ?ho41 (fun K hK => ?st41) AllReadyH.nil
        case ho41 => simp only [List.getElem?_toArray, List.getElem?_cons_succ, List.getElem?_cons_zero]; rfl
        case st41 =>
          go_simp
          refine (HC.out _).mono ?_
          rintro e U ⟨rfl, hb1⟩
          refine hK.out _ _ (hS.trans (hb1.mono hS.size)) (fun hS => ?_)
          clear hK K
          try simp only [Act.put, List.setIfInBounds_toArray, List.set_cons_zero, List.set_cons_succ]
          have kN := kN.below hb1 kN.lt
          clear hb1
          refine' wpAnyH_take (i := 7) (oi := _) (v := _) ?hi42 (by kernel_rfl) (by kernel_rfl) (by kernel_rfl) ?hQ42 (Or.inl ⟨?hw42, ?hy42⟩) hS ?rest42
          case hi42 => simp only [List.getElem?_toArray, List.getElem?_cons_succ, List.getElem?_cons_zero]; rfl
          case hQ42 => exact fun _ _ _ h => h
          case hw42 => rfl
          case hy42 => intro W' hS'; go_simp; with_reducible rfl
          try simp only [Act.put, List.setIfInBounds_toArray, List.set_cons_zero, List.set_cons_succ]
          refine' wpAnyH_take (i := 8) (oi := _) (v := _) ?hi43 (by kernel_rfl) (by kernel_rfl) (by kernel_rfl) ?hQ43 (Or.inl ⟨?hw43, ?hy43⟩) hS ?rest43
          case hi43 => simp only [List.getElem?_toArray, List.getElem?_cons_succ, List.getElem?_cons_zero]; rfl
          case hQ43 => exact fun _ _ _ h => h
          case hw43 => rfl
          case hy43 => intro W' hS'; go_simp; with_reducible rfl
          try simp only [Act.put, List.setIfInBounds_toArray, List.set_cons_zero, List.set_cons_succ]
          refine' wpAnyH_take (i := 9) (oi := _) (v := _) ?hi44 (by kernel_rfl) (by kernel_rfl) (by kernel_rfl) ?hQ44 (Or.inl ⟨?hw44, ?hy44⟩) hS ?rest44
          case hi44 => simp only [List.getElem?_toArray, List.getElem?_cons_succ, List.getElem?_cons_zero]; rfl
          case hQ44 => exact fun _ _ _ h => h
          case hw44 => rfl
          case hy44 => intro W' hS'; go_simp; with_reducible rfl
          try simp only [Act.put, List.setIfInBounds_toArray, List.set_cons_zero, List.set_cons_succ]
          refine wpAnyH_ready (rs := [11]) (by kernel_rfl) (by simp) ?_
          refine' AllReadyH.cons (o := _) ?ho45 (fun K hK => ?st45) AllReadyH.nil
          case ho45 => simp only [List.getElem?_toArray, List.getElem?_cons_succ, List.getElem?_cons_zero]; rfl
          case st45 =>
            refine wp_store_wn (.tmp 10) (.tmp 25) kN (q - n) rfl rfl rfl rfl ?_
            have hS1 := hS.grown (grownBy_row U BN (ws (nw (q - n))).toArray) hS.size (fun e he => by cases he; exact hN)
            have kN1 := kN.row (ws (nw (q - n)))
            refine hK.out _ _ hS1 (fun hS => ?_)
            clear hK K hS1
            try simp only [Act.put, List.setIfInBounds_toArray, List.set_cons_zero, List.set_cons_succ]
            refine' wpAnyH_take (i := 12) (oi := _) (v := _) ?hi46 (by kernel_rfl) (by kernel_rfl) (by kernel_rfl) ?hQ46 (Or.inl ⟨?hw46, ?hy46⟩) hS ?rest46
            case hi46 => simp only [List.getElem?_toArray, List.getElem?_cons_succ, List.getElem?_cons_zero]; rfl
            case hQ46 => exact fun _ _ _ h => h
            case hw46 => rfl
            case hy46 => intro W' hS'; go_simp; with_reducible rfl
            try simp only [Act.put, List.setIfInBounds_toArray, List.set_cons_zero, List.set_cons_succ]
            refine wpAnyH_done (by kernel_rfl) ?_ _
            go_wp2_with fail
            go_meet
            exact ⟨⟨_, rfl, kN1, hN, hS⟩, rfl⟩
    case rest =>
      obtain ⟨⟨B, rfl, kN, hN, hbx⟩, rfl⟩ := hcut
      have hBne : w.heap.size ≠ B := by have := kB.lt; omega
      replace kB := kB.below hbx kB.lt
      replace kR := kR.below hbx kR.lt
      replace hB := chain hB hbx
      have hzX : X.heap.size ≤ wc.heap.size := hbx.size
      have hxR : w.heap.size + 1 + 1 < wc.heap.size := kR.lt
      clear hbx kA hN hzX
      by_cases hf : n ≤ q
      · rw [show lessB q n = true from decide_eq_true hf]
        replace HY := Lib.hid (HY.out (by rw [← HQ.out] at hf; exact hf))
        clear hf HN HP HC HQ
        go_upto_region 6 with fail
        refine wp_region_held_drew (S := fun W => Blk W B 24 (ws (nw (q - n)))) hmx kN.drew ?_
        intro hS
        replace kB : Blk wc.drew _ _ _ := kB
        replace kR : Blk wc.drew _ _ _ := kR
        replace hB := hB.drew
        replace hxR : _ < wc.drew.heap.size := hxR
        clear kN
        generalize wc.drew = Y at *
        refine' wpAnyH_take (i := 0) (oi := _) (v := _) ?hi47 (by kernel_rfl) (by kernel_rfl) (by kernel_rfl) ?hQ47 (Or.inl ⟨?hw47, ?hy47⟩) hS ?rest47
        case hi47 => simp only [List.getElem?_toArray, List.getElem?_cons_zero]; rfl
        case hQ47 => exact fun _ _ _ h => h
        case hw47 => rfl
        case hy47 => intro W' hS'; go_simp; with_reducible rfl
        try simp only [Act.put, List.setIfInBounds_toArray, List.set_cons_zero, List.set_cons_succ]
        refine' wpAnyH_take (i := 1) (oi := _) (v := _) ?hi48 (by kernel_rfl) (by kernel_rfl) (by kernel_rfl) ?hQ48 (Or.inl ⟨?hw48, ?hy48⟩) hS ?rest48
        case hi48 => simp only [List.getElem?_toArray, List.getElem?_cons_succ, List.getElem?_cons_zero]; rfl
        case hQ48 => exact fun _ _ _ h => h
        case hw48 => rfl
        case hy48 => intro W' hS'; go_simp; with_reducible rfl
        try simp only [Act.put, List.setIfInBounds_toArray, List.set_cons_zero, List.set_cons_succ]
        refine' wpAnyH_take (i := 2) (oi := _) (v := wn (q - n)) ?hi49 (by kernel_rfl) (by kernel_rfl) (by kernel_rfl) ?hQ49 (Or.inl ⟨?hw49, ?hy49⟩) hS ?rest49
        case hi49 => simp only [List.getElem?_toArray, List.getElem?_cons_succ, List.getElem?_cons_zero]; rfl
        case hQ49 => exact fun _ _ _ h => h
        case hw49 => rfl
        case hy49 => exact fun W' hS' => exec_load 24 (.tmp 10) rfl _ W' (load_wn hS')
        try simp only [Act.put, List.setIfInBounds_toArray, List.set_cons_zero, List.set_cons_succ]
        refine' wpAnyH_take (i := 3) (oi := _) (v := _) ?hi50 (by kernel_rfl) (by kernel_rfl) (by kernel_rfl) ?hQ50 (Or.inl ⟨?hw50, ?hy50⟩) hS ?rest50
        case hi50 => simp only [List.getElem?_toArray, List.getElem?_cons_succ, List.getElem?_cons_zero]; rfl
        case hQ50 => exact fun _ _ _ h => h
        case hw50 => rfl
        case hy50 => intro W' hS'; go_simp; with_reducible rfl
        try simp only [Act.put, List.setIfInBounds_toArray, List.set_cons_zero, List.set_cons_succ]
        refine' wpAnyH_take (i := 4) (oi := _) (v := _) ?hi51 (by kernel_rfl) (by kernel_rfl) (by kernel_rfl) ?hQ51 (Or.inl ⟨?hw51, ?hy51⟩) hS ?rest51
        case hi51 => simp only [List.getElem?_toArray, List.getElem?_cons_succ, List.getElem?_cons_zero]; rfl
        case hQ51 => exact fun _ _ _ h => h
        case hw51 => rfl
        case hy51 => intro W' hS'; go_simp; with_reducible rfl
        try simp only [Act.put, List.setIfInBounds_toArray, List.set_cons_zero, List.set_cons_succ]
        refine wpAnyH_ready (rs := [5]) (by kernel_rfl) (by simp) ?_
        refine' AllReadyH.cons (o := _) ?ho52 (fun K hK => ?st52) AllReadyH.nil
        case ho52 => simp only [List.getElem?_toArray, List.getElem?_cons_succ, List.getElem?_cons_zero]; rfl
        case st52 =>
          refine wp_store_slot (.tmp 34) (.tmp 32) kB hi hj (q - n) rfl rfl rfl rfl ?_
          replace hB := hB.grown (grownBy_row Y w.heap.size (bkc (updB b (2 * i + j) (q - n))).toArray) hB.size (fun e he => by cases he; exact Nat.le_refl _)
          replace kR := kR.rowO (bkc (updB b (2 * i + j) (q - n))).toArray (show w.heap.size + 1 + 1 ≠ w.heap.size by omega)
          replace kB := kB.row (bkc (updB b (2 * i + j) (q - n)))
          refine hK.out _ _ (hS.rowO _ (fun e => hBne e.symm)) (fun _ => ?_)
          clear hK K hS
          generalize World.setRow _ _ _ = Z at *
          try simp only [Act.put, List.setIfInBounds_toArray, List.set_cons_zero, List.set_cons_succ]
          refine wpAnyH_done (by kernel_rfl) ?_ _
          go_wp2_with (first
            | ((with_reducible refine wpList_loadIf 27 (.tmp 4) ?_ (some 35) ?_ ?_ (bkv (updB b (2 * i + j) (q - n))) ?_ ?_); (· rfl); (· rfl); (· rfl); (· exact load_book kB))
            | ((refine wpList_store_book (.tmp 8) (.tmp 35) kR (bkc_len noK) (updB b (2 * i + j) (q - n)) ?_ ?_ ?_ ?_ ?_ ?_); (· rfl); (· rfl); (· rfl); (· rfl); (· rfl)))
          exact bodyPost_ret (v := .tuple #[bkv (updB b (2 * i + j) (q - n)), .int .i64 0]) (res_book rfl _ rfl rfl (kR.row _)) rfl ⟨by rw [HY.out], hB.grown (grownBy_row _ _ _) hB.size (fun e he => by cases he; omega)⟩
      · rw [show lessB q n = false from decide_eq_false hf]
        replace HN := Lib.hid (HN.out (by rw [← HQ.out] at hf; exact hf))
        clear hf HY HP HC HQ kN
        go_wp2_with (first
          | ((with_reducible refine wpList_loadIf 27 (.tmp 4) ?_ (some 29) ?_ ?_ (bkv (b)) ?_ ?_); (· rfl); (· rfl); (· rfl); (· exact load_book kB))
          | ((refine wpList_store_book (.tmp 8) (.tmp 29) kR (bkc_len noK) (b) ?_ ?_ ?_ ?_ ?_ ?_); (· rfl); (· rfl); (· rfl); (· rfl); (· rfl)))
        exact bodyPost_ret (v := .tuple #[bkv (b), .int .i64 30]) (res_book rfl _ rfl rfl (kR.row _)) rfl ⟨by rw [HN.out], hB.grown (grownBy_row _ _ _) hB.size (fun e he => by cases he; omega)⟩
  · have HP : Hid (placeB a s = false) := Lib.hid (decide_eq_false h)
    have HE := Lib.hid (takeB_no (b := b) (n := n) h)
    clear h
    go_enter Try.func8, Try.ntmps8
    go_wp2_with (first
      | (go_at_call 16; refine (isPlace_any _ _ _).mono ?_; rw [HP.out]; rintro e w1 ⟨rfl, rfl⟩)
      | ((with_reducible refine wpList_loadIf 27 (.tmp 4) ?_ (some 16) ?_ ?_ (bkv (b)) ?_ ?_); (· rfl); (· rfl); (· rfl); (· exact load_book kB0))
      | ((refine wpList_store_book (.tmp 8) (.tmp 16) kR1 (bkc_len noK) (b) ?_ ?_ ?_ ?_ ?_ ?_); (· rfl); (· rfl); (· rfl); (· rfl); (· rfl)))
    exact bodyPost_ret (v := .tuple #[bkv (b), .int .i64 4]) (res_book rfl _ rfl rfl (kR1.row (bkc b))) rfl ⟨by rw [HE.out], hB0.grown (grownBy_row _ _ _) hB0.size (fun e he => by cases he; omega)⟩
end Go.Proofs.Ytcgfnppknldhbaa
