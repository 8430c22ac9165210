/-
  purse: what is given.
-/
import Derived.Test.YtcgfnppknldhbaaPurseChk
import Derived.Test.YtcgfnppknldhbaaPurseW
import Derived.Test.YtcgfnppknldhbaaHeldMono
import Derived.Deep.Cut
import Derived.Deep.CutRange
import Derived.Deep.DeepCutAuto
import Derived.Outline
namespace Go.Proofs.Ytcgfnppknldhbaa
open Go.RowKit Go.Shelf

set_option maxRecDepth 100000 in
set_option maxHeartbeats 4000000 in
theorem bookGive_any (b : Bk) (hb : OkK b) (a s : Int) (n : Nat) (hn : n < M4) (w : World) :
    Calls Try.prog 7 #[bkv b, .int .i64 a, .int .i64 s, wn n] w fun e W' => e = .returned (.tuple #[bkv (giveB b a s n).1, .int .i64 (giveB b a s n).2]) ∧ Below w.heap.size w W' := by
  have hmx : Try.prog.follows .mixedOrders = true := by kernel_rfl
  have kB0 := ((Blk.new w 27 (bkc b)).alloc (.cells (ws (nw n)).toArray 24)).alloc (.cells (bkc noK).toArray 27)
  have kA0 : Blk (((w.alloc (.cells (bkc b).toArray 27)).alloc (.cells (ws (nw n)).toArray 24)).alloc (.cells (bkc noK).toArray 27)) (w.heap.size + 1) 24 (ws (nw n)) := (Blk.new' (by simp)).alloc _
  have kR0 : Blk (((w.alloc (.cells (bkc b).toArray 27)).alloc (.cells (ws (nw n)).toArray 24)).alloc (.cells (bkc noK).toArray 27)) (w.heap.size + 1 + 1) 27 (bkc noK) := Blk.new' (by simp)
  have hB0 := chainA (chainA (chain0 w (.cells (bkc b).toArray 27)) (.cells (ws (nw n)).toArray 24)) (.cells (bkc noK).toArray 27)
  rw [bkc_no] at kB0 kA0 hB0
  have kR1 : Blk (((w.alloc (.cells (bkc b).toArray 27)).alloc (.cells (ws (nw n)).toArray 24)).alloc (.cells (List.replicate 64 (Value.int .u64 0)).toArray 27)) (w.heap.size + 1 + 1) 27 (bkc noK) := by rw [bkc_no] at kR0 ⊢; exact kR0
  clear kR0
  by_cases h : atS a s
  · have HP : Hid (placeB a s = true) := Lib.hid (decide_eq_true h)
    have HY := Lib.hid (fun k => giveB_yes (b := b) (n := n) h k)
    have HN := Lib.hid (fun k => giveB_over (b := b) (n := n) h k)
    have hs16 := slot_lt h
    obtain ⟨⟨h1, h2⟩, h3, h4⟩ := h
    obtain ⟨i, rfl⟩ : ∃ i : Nat, a = i := ⟨a.toNat, by omega⟩
    obtain ⟨j, rfl⟩ : ∃ j : Nat, s = j := ⟨s.toNat, by omega⟩
    have hi : i < 8 := by omega
    have hj : j < 2 := by omega
    have hbs := hb (2 * i + j) (by omega)
    replace HY : Hid (_ → giveB b (i : Int) (j : Int) n = (updB b (2 * i + j) (b (2 * i + j) + n), 0)) := HY
    replace HN : Hid (_ → giveB b (i : Int) (j : Int) n = (b, 38)) := HN
    have HC := Lib.hid (addN_any hbs hn)
    clear hs16 hbs
    generalize hq : b (2 * i + j) = q at *
    have HQ := Lib.hid hq
    clear hq
    go_enter Try.func7, Try.ntmps7
    go_upto_region 3 with (go_at_call 16; refine (isPlace_any _ _ _).mono ?_; rw [HP.out]; rintro e w1 ⟨rfl, rfl⟩)
    generalize hX : World.alloc (World.alloc (World.alloc _ _) _) _ = X
    have kB : Blk X w.heap.size 27 (bkc b) := by rw [← hX]; exact kB0
    have kA : Blk X (w.heap.size + 1) 24 (ws (nw n)) := by rw [← hX]; exact kA0
    have kR : Blk X (w.heap.size + 1 + 1) 27 (bkc noK) := by rw [← hX]; exact kR1
    have hB : Below w.heap.size w X := by rw [← hX]; exact hB0
    clear hX kB0 kA0 kR1 hB0
    go_cut [10, 11] (fun p f wc => NewN X (addN q n) p wc ∧ f = .bool (fitB q n))
    case first =>
      refine wp_region_held_drew (S := fun W => Below X.heap.size X W) hmx (Below.refl _ X).drew ?_
      intro hS
      have hl : ∀ W, Below X.heap.size X W → (Instr.loadAt 24 (.pointer (some ⟨w.heap.size, i * 8 + j * 4, none⟩))).run Try.prog W = .ok (wn q) W := fun W h => by have := load_slot (kB.below h kB.lt) hi hj; rw [HQ.out] at this; exact this
      have HL := Lib.hid hl
      clear hl
      generalize X.drew = Y at *
      refine' wpAnyH_take (i := 0) (oi := _) (v := _) ?hi1 (by kernel_rfl) (by kernel_rfl) (by kernel_rfl) ?hQ1 (Or.inl ⟨?hw1, ?hy1⟩) hS ?rest1
      case hi1 => simp only [List.getElem?_toArray, List.getElem?_cons_zero]; rfl
      case hQ1 => exact fun _ _ _ h => h
      case hw1 => rfl
      case hy1 => intro W' hS'; go_simp; with_reducible rfl
      try simp only [Act.put, List.setIfInBounds_toArray, List.set_cons_zero, List.set_cons_succ]
      refine' wpAnyH_take (i := 1) (oi := _) (v := _) ?hi2 (by kernel_rfl) (by kernel_rfl) (by kernel_rfl) ?hQ2 (Or.inl ⟨?hw2, ?hy2⟩) hS ?rest2
      case hi2 => simp only [List.getElem?_toArray, List.getElem?_cons_succ, List.getElem?_cons_zero]; rfl
      case hQ2 => exact fun _ _ _ h => h
      case hw2 => rfl
      case hy2 => intro W' hS'; go_simp; with_reducible rfl
      try simp only [Act.put, List.setIfInBounds_toArray, List.set_cons_zero, List.set_cons_succ]
      refine' wpAnyH_take (i := 2) (oi := _) (v := _) ?hi3 (by kernel_rfl) (by kernel_rfl) (by kernel_rfl) ?hQ3 (Or.inl ⟨?hw3, ?hy3⟩) hS ?rest3
      case hi3 => simp only [List.getElem?_toArray, List.getElem?_cons_succ, List.getElem?_cons_zero]; rfl
      case hQ3 => exact fun _ _ _ h => h
      case hw3 => rfl
      case hy3 => intro W' hS'; go_simp; with_reducible rfl
      try simp only [Act.put, List.setIfInBounds_toArray, List.set_cons_zero, List.set_cons_succ]
      refine' wpAnyH_take (i := 3) (oi := _) (v := _) ?hi4 (by kernel_rfl) (by kernel_rfl) (by kernel_rfl) ?hQ4 (Or.inl ⟨?hw4, ?hy4⟩) hS ?rest4
      case hi4 => simp only [List.getElem?_toArray, List.getElem?_cons_succ, List.getElem?_cons_zero]; rfl
      case hQ4 => exact fun _ _ _ h => h
      case hw4 => rfl
      case hy4 => intro W' hS'; go_simp; with_reducible rfl
      try simp only [Act.put, List.setIfInBounds_toArray, List.set_cons_zero, List.set_cons_succ]
      refine' wpAnyH_take (i := 4) (oi := _) (v := wn q) ?hi5 (by kernel_rfl) (by kernel_rfl) (by kernel_rfl) ?hQ5 (Or.inl ⟨?hw5, ?hy5⟩) hS ?rest5
      case hi5 => simp only [List.getElem?_toArray, List.getElem?_cons_succ, List.getElem?_cons_zero]; rfl
      case hQ5 => exact fun _ _ _ h => h
      case hw5 => rfl
      case hy5 => exact fun W' hS' => exec_load 24 (.tmp 21) rfl _ W' (HL.out W' hS')
      try simp only [Act.put, List.setIfInBounds_toArray, List.set_cons_zero, List.set_cons_succ]
      refine' wpAnyH_take (i := 5) (oi := _) (v := wn n) ?hi6 (by kernel_rfl) (by kernel_rfl) (by kernel_rfl) ?hQ6 (Or.inl ⟨?hw6, ?hy6⟩) hS ?rest6
      case hi6 => simp only [List.getElem?_toArray, List.getElem?_cons_succ, List.getElem?_cons_zero]; rfl
      case hQ6 => exact fun _ _ _ h => h
      case hw6 => rfl
      case hy6 => exact fun W' hS' => exec_load 24 (.tmp 7) rfl _ W' (load_wn (kA.below hS' kA.lt))
      try simp only [Act.put, List.setIfInBounds_toArray, List.set_cons_zero, List.set_cons_succ]
      refine wpAnyH_ready (rs := [6, 10]) (by kernel_rfl) (by simp) ?_
      refine' AllReadyH.cons (o := _) ?ho7 (fun K hK => ?st7) (AllReadyH.cons (o := _) ?ho8 (fun K hK => ?st8) AllReadyH.nil)
      case ho7 => simp only [List.getElem?_toArray, List.getElem?_cons_succ, List.getElem?_cons_zero]; rfl
      case ho8 => simp only [List.getElem?_toArray, List.getElem?_cons_succ, List.getElem?_cons_zero]; rfl
      case st7 =>
        go_simp
        refine (HC.out _).mono ?_
        rintro e Y1 ⟨rfl, hb1⟩
        refine hK.out _ _ (hS.trans (hb1.mono hS.size)) (fun hS => ?_)
        clear hK K
        try simp only [Act.put, List.setIfInBounds_toArray, List.set_cons_zero, List.set_cons_succ]
        refine' wpAnyH_take (i := 7) (oi := _) (v := _) ?hi9 (by kernel_rfl) (by kernel_rfl) (by kernel_rfl) ?hQ9 (Or.inl ⟨?hw9, ?hy9⟩) hS ?rest9
        case hi9 => simp only [List.getElem?_toArray, List.getElem?_cons_succ, List.getElem?_cons_zero]; rfl
        case hQ9 => exact fun _ _ _ h => h
        case hw9 => rfl
        case hy9 => intro W' hS'; go_simp; with_reducible rfl
        try simp only [Act.put, List.setIfInBounds_toArray, List.set_cons_zero, List.set_cons_succ]
        refine' wpAnyH_take (i := 8) (oi := _) (v := _) ?hi10 (by kernel_rfl) (by kernel_rfl) (by kernel_rfl) ?hQ10 (Or.inl ⟨?hw10, ?hy10⟩) hS ?rest10
        case hi10 => simp only [List.getElem?_toArray, List.getElem?_cons_succ, List.getElem?_cons_zero]; rfl
        case hQ10 => exact fun _ _ _ h => h
        case hw10 => rfl
        case hy10 => intro W' hS'; go_simp; with_reducible rfl
        try simp only [Act.put, List.setIfInBounds_toArray, List.set_cons_zero, List.set_cons_succ]
        refine' wpAnyH_take (i := 9) (oi := _) (v := _) ?hi11 (by kernel_rfl) (by kernel_rfl) (by kernel_rfl) ?hQ11 (Or.inl ⟨?hw11, ?hy11⟩) hS ?rest11
        case hi11 => simp only [List.getElem?_toArray, List.getElem?_cons_succ, List.getElem?_cons_zero]; rfl
        case hQ11 => exact fun _ _ _ h => h
        case hw11 => rfl
        case hy11 => intro W' hS'; go_simp; with_reducible rfl
        try simp only [Act.put, List.setIfInBounds_toArray, List.set_cons_zero, List.set_cons_succ]
        refine wpAnyH_ready (rs := [10]) (by kernel_rfl) (by simp) ?_
        refine' AllReadyH.cons (o := _) ?ho12 (fun K hK => ?st12) AllReadyH.nil
        case ho12 => simp only [List.getElem?_toArray, List.getElem?_cons_succ, List.getElem?_cons_zero]; rfl
        case st12 =>
          go_simp
          have hN : X.heap.size ≤ Y1.heap.size := hS.size
          refine hK.out _ _ (hS.alloc hS.size _) (fun hS => ?_)
          clear hK K
          try simp only [Act.put, List.setIfInBounds_toArray, List.set_cons_zero, List.set_cons_succ]
          have kN : Blk (Y1.alloc (.cells #[.int .u64 0, .int .u64 0, .int .u64 0, .int .u64 0] 24)) Y1.heap.size 24 (ws (nw 0)) := by rw [ws_no]; exact Blk.new _ _ _
          generalize Y1.alloc (.cells #[.int .u64 0, .int .u64 0, .int .u64 0, .int .u64 0] 24) = U at *
          generalize Y1.heap.size = BN at *
          refine wpAnyH_ready (rs := [11]) (by kernel_rfl) (by simp) ?_
          refine' AllReadyH.cons (o := _) ?ho13 (fun K hK => ?st13) AllReadyH.nil
          case ho13 => simp only [List.getElem?_toArray, List.getElem?_cons_succ, List.getElem?_cons_zero]; rfl
          case st13 =>
            refine wp_store_wn (.tmp 10) (.tmp 25) kN (addN q n) rfl rfl rfl rfl ?_
            have hS1 := hS.grown (grownBy_row U BN (ws (nw (addN q n))).toArray) hS.size (fun e he => by cases he; exact hN)
            have kN1 := kN.row (ws (nw (addN q n)))
            refine hK.out _ _ hS1 (fun hS => ?_)
            clear hK K hS1
            try simp only [Act.put, List.setIfInBounds_toArray, List.set_cons_zero, List.set_cons_succ]
            refine' wpAnyH_take (i := 12) (oi := _) (v := _) ?hi14 (by kernel_rfl) (by kernel_rfl) (by kernel_rfl) ?hQ14 (Or.inl ⟨?hw14, ?hy14⟩) hS ?rest14
            case hi14 => simp only [List.getElem?_toArray, List.getElem?_cons_succ, List.getElem?_cons_zero]; rfl
            case hQ14 => exact fun _ _ _ h => h
            case hw14 => rfl
            case hy14 => intro W' hS'; go_simp; with_reducible rfl
            try simp only [Act.put, List.setIfInBounds_toArray, List.set_cons_zero, List.set_cons_succ]
            refine wpAnyH_done (by kernel_rfl) ?_ _
            go_wp2_with fail
            go_meet
            exact ⟨⟨_, rfl, kN1, hN, hS⟩, rfl⟩
      case st8 =>
        go_simp
        have hN : X.heap.size ≤ Y.heap.size := hS.size
        refine hK.out _ _ (hS.alloc hS.size _) (fun hS => ?_)
        clear hK K
        try simp only [Act.put, List.setIfInBounds_toArray, List.set_cons_zero, List.set_cons_succ]
        have kN : Blk (Y.alloc (.cells #[.int .u64 0, .int .u64 0, .int .u64 0, .int .u64 0] 24)) Y.heap.size 24 (ws (nw 0)) := by rw [ws_no]; exact Blk.new _ _ _
        generalize Y.alloc (.cells #[.int .u64 0, .int .u64 0, .int .u64 0, .int .u64 0] 24) = Y2 at *
        generalize Y.heap.size = BN at *
        refine wpAnyH_ready (rs := [6]) (by kernel_rfl) (by simp) ?_
        refine' AllReadyH.cons (o := _) ?ho15 (fun K hK => ?st15) AllReadyH.nil
        case ho15 => simp only [List.getElem?_toArray, List.getElem?_cons_succ, List.getElem?_cons_zero]; rfl
        case st15 =>
          go_simp
          refine (HC.out _).mono ?_
          rintro e U ⟨rfl, hb1⟩
          refine hK.out _ _ (hS.trans (hb1.mono hS.size)) (fun hS => ?_)
          clear hK K
          try simp only [Act.put, List.setIfInBounds_toArray, List.set_cons_zero, List.set_cons_succ]
          have kN := kN.below hb1 kN.lt
          clear hb1
          refine' wpAnyH_take (i := 7) (oi := _) (v := _) ?hi16 (by kernel_rfl) (by kernel_rfl) (by kernel_rfl) ?hQ16 (Or.inl ⟨?hw16, ?hy16⟩) hS ?rest16
          case hi16 => simp only [List.getElem?_toArray, List.getElem?_cons_succ, List.getElem?_cons_zero]; rfl
          case hQ16 => exact fun _ _ _ h => h
          case hw16 => rfl
          case hy16 => intro W' hS'; go_simp; with_reducible rfl
          try simp only [Act.put, List.setIfInBounds_toArray, List.set_cons_zero, List.set_cons_succ]
          refine' wpAnyH_take (i := 8) (oi := _) (v := _) ?hi17 (by kernel_rfl) (by kernel_rfl) (by kernel_rfl) ?hQ17 (Or.inl ⟨?hw17, ?hy17⟩) hS ?rest17
          case hi17 => simp only [List.getElem?_toArray, List.getElem?_cons_succ, List.getElem?_cons_zero]; rfl
          case hQ17 => exact fun _ _ _ h => h
          case hw17 => rfl
          case hy17 => intro W' hS'; go_simp; with_reducible rfl
          try simp only [Act.put, List.setIfInBounds_toArray, List.set_cons_zero, List.set_cons_succ]
          refine' wpAnyH_take (i := 9) (oi := _) (v := _) ?hi18 (by kernel_rfl) (by kernel_rfl) (by kernel_rfl) ?hQ18 (Or.inl ⟨?hw18, ?hy18⟩) hS ?rest18
          case hi18 => simp only [List.getElem?_toArray, List.getElem?_cons_succ, List.getElem?_cons_zero]; rfl
          case hQ18 => exact fun _ _ _ h => h
          case hw18 => rfl
          case hy18 => intro W' hS'; go_simp; with_reducible rfl
          try simp only [Act.put, List.setIfInBounds_toArray, List.set_cons_zero, List.set_cons_succ]
          refine wpAnyH_ready (rs := [11]) (by kernel_rfl) (by simp) ?_
          refine' AllReadyH.cons (o := _) ?ho19 (fun K hK => ?st19) AllReadyH.nil
          case ho19 => simp only [List.getElem?_toArray, List.getElem?_cons_succ, List.getElem?_cons_zero]; rfl
          case st19 =>
            refine wp_store_wn (.tmp 10) (.tmp 25) kN (addN q n) rfl rfl rfl rfl ?_
            have hS1 := hS.grown (grownBy_row U BN (ws (nw (addN q n))).toArray) hS.size (fun e he => by cases he; exact hN)
            have kN1 := kN.row (ws (nw (addN q n)))
            refine hK.out _ _ hS1 (fun hS => ?_)
            clear hK K hS1
            try simp only [Act.put, List.setIfInBounds_toArray, List.set_cons_zero, List.set_cons_succ]
            refine' wpAnyH_take (i := 12) (oi := _) (v := _) ?hi20 (by kernel_rfl) (by kernel_rfl) (by kernel_rfl) ?hQ20 (Or.inl ⟨?hw20, ?hy20⟩) hS ?rest20
            case hi20 => simp only [List.getElem?_toArray, List.getElem?_cons_succ, List.getElem?_cons_zero]; rfl
            case hQ20 => exact fun _ _ _ h => h
            case hw20 => rfl
            case hy20 => intro W' hS'; go_simp; with_reducible rfl
            try simp only [Act.put, List.setIfInBounds_toArray, List.set_cons_zero, List.set_cons_succ]
            refine wpAnyH_done (by kernel_rfl) ?_ _
            go_wp2_with fail
            go_meet
            exact ⟨⟨_, rfl, kN1, hN, hS⟩, rfl⟩
    case rest =>
      obtain ⟨⟨B, rfl, kN, hN, hbx⟩, rfl⟩ := hcut
      have hBne : w.heap.size ≠ B := by have := kB.lt; omega
      replace kB := kB.below hbx kB.lt
      replace kR := kR.below hbx kR.lt
      replace hB := chain hB hbx
      have hzX : X.heap.size ≤ wc.heap.size := hbx.size
      have hxR : w.heap.size + 1 + 1 < wc.heap.size := kR.lt
      clear hbx kA hN hzX
      by_cases hf : q + n < M4
      · rw [show fitB q n = true from decide_eq_true hf]
        replace HY := Lib.hid (HY.out (by rw [← HQ.out] at hf; exact hf))
        rw [show addN q n = q + n from if_pos hf] at kN
        clear hf HN HP HC HQ
        go_upto_region 6 with fail
        refine wp_region_held_drew (S := fun W => Blk W B 24 (ws (nw (q + n)))) hmx kN.drew ?_
        intro hS
        replace kB : Blk wc.drew _ _ _ := kB
        replace kR : Blk wc.drew _ _ _ := kR
        replace hB := hB.drew
        replace hxR : _ < wc.drew.heap.size := hxR
        clear kN
        generalize wc.drew = Y at *
        refine' wpAnyH_take (i := 0) (oi := _) (v := _) ?hi21 (by kernel_rfl) (by kernel_rfl) (by kernel_rfl) ?hQ21 (Or.inl ⟨?hw21, ?hy21⟩) hS ?rest21
        case hi21 => simp only [List.getElem?_toArray, List.getElem?_cons_zero]; rfl
        case hQ21 => exact fun _ _ _ h => h
        case hw21 => rfl
        case hy21 => intro W' hS'; go_simp; with_reducible rfl
        try simp only [Act.put, List.setIfInBounds_toArray, List.set_cons_zero, List.set_cons_succ]
        refine' wpAnyH_take (i := 1) (oi := _) (v := _) ?hi22 (by kernel_rfl) (by kernel_rfl) (by kernel_rfl) ?hQ22 (Or.inl ⟨?hw22, ?hy22⟩) hS ?rest22
        case hi22 => simp only [List.getElem?_toArray, List.getElem?_cons_succ, List.getElem?_cons_zero]; rfl
        case hQ22 => exact fun _ _ _ h => h
        case hw22 => rfl
        case hy22 => intro W' hS'; go_simp; with_reducible rfl
        try simp only [Act.put, List.setIfInBounds_toArray, List.set_cons_zero, List.set_cons_succ]
        refine' wpAnyH_take (i := 2) (oi := _) (v := wn (q + n)) ?hi23 (by kernel_rfl) (by kernel_rfl) (by kernel_rfl) ?hQ23 (Or.inl ⟨?hw23, ?hy23⟩) hS ?rest23
        case hi23 => simp only [List.getElem?_toArray, List.getElem?_cons_succ, List.getElem?_cons_zero]; rfl
        case hQ23 => exact fun _ _ _ h => h
        case hw23 => rfl
        case hy23 => exact fun W' hS' => exec_load 24 (.tmp 10) rfl _ W' (load_wn hS')
        try simp only [Act.put, List.setIfInBounds_toArray, List.set_cons_zero, List.set_cons_succ]
        refine' wpAnyH_take (i := 3) (oi := _) (v := _) ?hi24 (by kernel_rfl) (by kernel_rfl) (by kernel_rfl) ?hQ24 (Or.inl ⟨?hw24, ?hy24⟩) hS ?rest24
        case hi24 => simp only [List.getElem?_toArray, List.getElem?_cons_succ, List.getElem?_cons_zero]; rfl
        case hQ24 => exact fun _ _ _ h => h
        case hw24 => rfl
        case hy24 => intro W' hS'; go_simp; with_reducible rfl
        try simp only [Act.put, List.setIfInBounds_toArray, List.set_cons_zero, List.set_cons_succ]
        refine' wpAnyH_take (i := 4) (oi := _) (v := _) ?hi25 (by kernel_rfl) (by kernel_rfl) (by kernel_rfl) ?hQ25 (Or.inl ⟨?hw25, ?hy25⟩) hS ?rest25
        case hi25 => simp only [List.getElem?_toArray, List.getElem?_cons_succ, List.getElem?_cons_zero]; rfl
        case hQ25 => exact fun _ _ _ h => h
        case hw25 => rfl
        case hy25 => intro W' hS'; go_simp; with_reducible rfl
        try simp only [Act.put, List.setIfInBounds_toArray, List.set_cons_zero, List.set_cons_succ]
        refine wpAnyH_ready (rs := [5]) (by kernel_rfl) (by simp) ?_
        refine' AllReadyH.cons (o := _) ?ho26 (fun K hK => ?st26) AllReadyH.nil
        case ho26 => simp only [List.getElem?_toArray, List.getElem?_cons_succ, List.getElem?_cons_zero]; rfl
        case st26 =>
          refine wp_store_slot (.tmp 34) (.tmp 32) kB hi hj (q + n) rfl rfl rfl rfl ?_
          replace hB := hB.grown (grownBy_row Y w.heap.size (bkc (updB b (2 * i + j) (q + n))).toArray) hB.size (fun e he => by cases he; exact Nat.le_refl _)
          replace kR := kR.rowO (bkc (updB b (2 * i + j) (q + n))).toArray (show w.heap.size + 1 + 1 ≠ w.heap.size by omega)
          replace kB := kB.row (bkc (updB b (2 * i + j) (q + n)))
          refine hK.out _ _ (hS.rowO _ (fun e => hBne e.symm)) (fun _ => ?_)
          clear hK K hS
          generalize World.setRow _ _ _ = Z at *
          try simp only [Act.put, List.setIfInBounds_toArray, List.set_cons_zero, List.set_cons_succ]
          refine wpAnyH_done (by kernel_rfl) ?_ _
          go_wp2_with (first
            | ((with_reducible refine wpList_loadIf 27 (.tmp 4) ?_ (some 35) ?_ ?_ (bkv (updB b (2 * i + j) (q + n))) ?_ ?_); (· rfl); (· rfl); (· rfl); (· exact load_book kB))
            | ((refine wpList_store_book (.tmp 8) (.tmp 35) kR (bkc_len noK) (updB b (2 * i + j) (q + n)) ?_ ?_ ?_ ?_ ?_ ?_); (· rfl); (· rfl); (· rfl); (· rfl); (· rfl)))
          exact bodyPost_ret (v := .tuple #[bkv (updB b (2 * i + j) (q + n)), .int .i64 0]) (res_book rfl _ rfl rfl (kR.row _)) rfl ⟨by rw [HY.out], hB.grown (grownBy_row _ _ _) hB.size (fun e he => by cases he; omega)⟩
      · rw [show fitB q n = false from decide_eq_false hf]
        replace HN := Lib.hid (HN.out (by rw [← HQ.out] at hf; exact hf))
        clear hf HY HP HC HQ kN
        go_wp2_with (first
          | ((with_reducible refine wpList_loadIf 27 (.tmp 4) ?_ (some 29) ?_ ?_ (bkv (b)) ?_ ?_); (· rfl); (· rfl); (· rfl); (· exact load_book kB))
          | ((refine wpList_store_book (.tmp 8) (.tmp 29) kR (bkc_len noK) (b) ?_ ?_ ?_ ?_ ?_ ?_); (· rfl); (· rfl); (· rfl); (· rfl); (· rfl)))
        exact bodyPost_ret (v := .tuple #[bkv (b), .int .i64 38]) (res_book rfl _ rfl rfl (kR.row _)) rfl ⟨by rw [HN.out], hB.grown (grownBy_row _ _ _) hB.size (fun e he => by cases he; omega)⟩
  · have HP : Hid (placeB a s = false) := Lib.hid (decide_eq_false h)
    have HE := Lib.hid (giveB_no (b := b) (n := n) h)
    clear h
    go_enter Try.func7, Try.ntmps7
    go_wp2_with (first
      | (go_at_call 16; refine (isPlace_any _ _ _).mono ?_; rw [HP.out]; rintro e w1 ⟨rfl, rfl⟩)
      | ((with_reducible refine wpList_loadIf 27 (.tmp 4) ?_ (some 16) ?_ ?_ (bkv (b)) ?_ ?_); (· rfl); (· rfl); (· rfl); (· exact load_book kB0))
      | ((refine wpList_store_book (.tmp 8) (.tmp 16) kR1 (bkc_len noK) (b) ?_ ?_ ?_ ?_ ?_ ?_); (· rfl); (· rfl); (· rfl); (· rfl); (· rfl)))
    exact bodyPost_ret (v := .tuple #[bkv (b), .int .i64 4]) (res_book rfl _ rfl rfl (kR1.row (bkc b))) rfl ⟨by rw [HE.out], hB0.grown (grownBy_row _ _ _) hB0.size (fun e he => by cases he; omega)⟩
end Go.Proofs.Ytcgfnppknldhbaa
