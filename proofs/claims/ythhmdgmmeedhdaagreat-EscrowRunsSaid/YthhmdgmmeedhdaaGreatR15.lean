/-
  The page: a lock is paid out, given back; kinds 1 to 3; The page: kinds 1 to 3
-/
import Derived.Test.YthhmdgmmeedhdaaGreatR14
namespace Go.Proofs.YthhmdgmmeedhdaaGreat
open Go.RowKit Go.Shelf
attribute [local irreducible] wpFrom
abbrev qfq1 (s : Es) (t : Tr) : Es := { s with pu := (giveB (giveB s.pu t.iv.to t.iv.re (amV t - feT t)).1 t.fr t.iv.re (feT t)).1, he := updB s.he t.iv.re.toNat (s.he t.iv.re.toNat - amV t) }
abbrev qfq2 (s : Es) (t : Tr) : Es := { s with pu := (giveB s.pu t.iv.us t.iv.se (amV t)).1, he := updB s.he t.iv.se.toNat (s.he t.iv.se.toNat - amV t) }
abbrev qfq3 (s : Es) (t : Tr) : Es := { s with pu := (giveB (giveB s.pu t.iv.to t.iv.re (amV t - feT t)).1 t.fr t.iv.re (feT t)).1 }
abbrev qfq4 (s : Es) (t : Tr) : Es := { s with va := (giveB s.va t.iv.ro t.iv.se (amV t)).1 }
abbrev qfq5 (s : Es) (t : Tr) : Es := { s with va := (giveB s.va t.iv.ro t.iv.re (amV t)).1 }
abbrev qfq6 (s : Es) (t : Tr) : Es := { s with pu := (giveB s.pu t.iv.us t.iv.se (amV t)).1 }
abbrev gfq1 (s : Es) (t : Tr) := giveB (giveB s.pu t.iv.to t.iv.re (amV t - feT t)).1 t.fr t.iv.re (feT t)
abbrev gfq2 (s : Es) (t : Tr) := giveB s.pu t.iv.to t.iv.re (amV t - feT t)
abbrev gfq3 (s : Es) (t : Tr) := shrinkE (qfq3 s t) t.iv.re.toNat (amV t)
abbrev gfq4 (s : Es) (t : Tr) := shrinkE (qfq6 s t) t.iv.se.toNat (amV t)
abbrev gfq5 (s : Es) (t : Tr) := giveB s.va t.iv.ro t.iv.re (amV t)
abbrev gfq6 (s : Es) (t : Tr) := giveB s.pu t.iv.us t.iv.se (amV t)
theorem give_sd {s : Es} {a n : Nat} (h : n ≤ s.he a) : (shrinkE s a n).2 = 0 := by rw [shrink_yes h]
theorem give_sn {s : Es} {a n : Nat} (h : ¬ n ≤ s.he a) : (shrinkE s a n).2 ≠ 0 := by rw [shrink_no h]; exact n38
theorem grow_sd {s : Es} {a n : Nat} (h : s.he a + n < M4) : (growE s a n).2 = 0 := by rw [grow_yes h]
theorem grow_sn {s : Es} {a n : Nat} (h : ¬ s.he a + n < M4) : (growE s a n).2 ≠ 0 := by rw [grow_no h]; exact n38
set_option maxRecDepth 100000 in
set_option maxHeartbeats 4000000 in
theorem refFulfil_esc (s : Es) (v : Value) (hs : OkE s) (t : Tr) (ht : OkT t) (hfr : 0 ≤ t.fr ∧ t.fr ≤ 7) (hF : errF t = 0) (w : World) {lo hi : Nat} (hl : RSl lkc lo hi w v s.lk) (hhi : hi ≤ w.heap.size) (hr : (s.lk.length + 1) * 40 ≤ 140737488355328) :
  Calls Tryz.prog 36 #[stv s v, txv t] w (RetE (fulE orcB s t) w) := by
 have hmx : Tryz.prog.follows .mixedOrders = true := by kernel_rfl
 have hv := hl.one
 have HL := Lib.hid hl
 obtain ⟨⟨hus, _, hro, hse, hre, hto, _⟩, _, _⟩ := errF_all hF
 have hn : amV t < M4 := val_lt ht.v
 have HS := Lib.hid (okE_he hs hse.1 hse.2)
 have HR := Lib.hid (okE_he hs hre.1 hre.2)
 have hf : feT t < M4 := val_lt ht.f
 have hd : (amV t - feT t) < M4 := Nat.lt_of_le_of_lt (Nat.sub_le _ _) hn
 have a1 : atS t.iv.to t.iv.re := ⟨by omega, by omega⟩
 have a2 : atS t.fr t.iv.re := ⟨by omega, by omega⟩
 have a3 : atS t.iv.ro t.iv.se := ⟨by omega, by omega⟩
 clear hl
 have hM := Mem.start w
 go_enter Tryz.func36, Tryz.ntmps36
 go_upto_region 0 with fail
 refine wp_region_fromM (fun W => Mem w none [] W) hM ?_
 clear hM
 rintro Y1 hM
 refine rF (some 2) (pt Y1.heap.size 0) (Y1.alloc (.cells (stc s v).toArray 39)) ?_
 replace hM := hM.alloc 39 (stc s v)
 generalize World.alloc _ _ = Y2 at *
 generalize hNe : Y1.heap.size = P at *
 clear hNe
 refine rF (some 3) (pt Y2.heap.size 0) (Y2.alloc (.cells (txc t).toArray 50)) ?_
 replace hM := hM.alloc 50 (txc t)
 generalize World.alloc _ _ = Y3 at *
 generalize hNe : Y2.heap.size = X at *
 clear hNe
 refine rF (some 4) (pt Y3.heap.size 0) (Y3.alloc (.cells (stc zS nilV).toArray 39)) ?_
 replace hM := hM.alloc 39 (stc zS nilV)
 generalize World.alloc _ _ = Y4 at *
 generalize hNe : Y3.heap.size = R at *
 clear hNe
 refine tF 4 [.v 3 5 (.int .i64 0)] trivial ?_
 refine eF ?_
 go_upto_region 1 with fail
 refine wp_region_fromM _ hM ?_
 clear hM
 rintro Y5 hM
 refine tF 2 [.l 0 14 39 (pt P 0) (stv (s) (v)), .l 1 15 50 (pt X 0) (txv t)] ⟨rld_st (s := s) hM.a2, ld_tx hM.a1, trivial⟩ ?_
 refine cF (some 16) 72 #[stv (s) (v), txv t] ((refOpen_esc s v t ht _ (HL.out.below hM.b hhi) (Nat.le_trans hhi hM.size)).mono ?_)
 rintro e W1 ⟨rfl, hb⟩
 replace hM := hM.below hb
 clear hb
 refine tF 8 [.v 3 13 (.tuple #[.int .i64 ((openE orcB s t).1 : Int), .int .i64 (openE orcB s t).2]), .v 4 17 (.int .i64 ((openE orcB s t).1 : Int)), .v 5 18 (.int .i64 (openE orcB s t).2), .v 6 6 (.int .i64 ((openE orcB s t).1 : Int)), .v 7 7 (.int .i64 (openE orcB s t).2)] trivial ?_
 refine eF ?_
 go_upto_region 2 with fail
 refine wp_region_fromM _ hM ?_
 clear hM
 rintro Y6 hM
 refine tF 5 [.v 0 20 (pt X 15), .v 1 21 (pt X 15), .l 2 22 27 (pt X 15) (wn (amV t)), .v 3 23 (pt X 20), .l 4 24 27 (pt X 20) (wn (feT t))] ⟨ld_av hM.a1 ht, ld_fe hM.a1 ht, trivial⟩ ?_
 refine cF (some 25) _ _ ((refSubN_any hn hf _).mono ?_)
 rintro e W1 ⟨rfl, hb⟩
 replace hM := hM.below hb
 clear hb
 refine tF 9 [.v 6 19 (.tuple #[wn (amV t - feT t), .bool (lessB (amV t) (feT t))]), .v 7 26 (wn (amV t - feT t)), .v 8 27 (.bool (lessB (amV t) (feT t)))] trivial ?_
 refine rF (some 8) (pt W1.heap.size 0) (W1.alloc (.cells (ws (nw 0)).toArray 27)) ?_
 replace hM := hM.alloc 27 (ws (nw 0))
 generalize World.alloc _ _ = Y7 at *
 generalize hNe : W1.heap.size = N at *
 clear hNe
 refine sF _ _ (wn (amV t - feT t)) (sto_wn hM.a0 _) ?_
 replace hM := hM.set 0 (cs' := ws (nw (amV t - feT t))) rfl rfl
 generalize World.setRow _ _ _ = Y8 at *
 refine tF 12 [.v 11 9 (.bool (lessB (amV t) (feT t)))] trivial ?_
 refine eF ?_
 by_cases hq : (openE orcB s t).2 = 0
 case pos =>
  have h1 := Lib.hid hq
  clear hq
  by_cases hq : s.tm < t.vr.x
  case pos =>
   have h2 := Lib.hid hq
   clear hq
   by_cases hq : feT t ≤ amV t
   case pos =>
    have h3 := Lib.hid hq
    clear hq
    by_cases hq : signB t 1 = true
    case pos =>
     have h4 := Lib.hid hq
     clear hq
     go_upto_region 3 with fail
     refine wp_region_fromM _ hM ?_
     clear hM
     rintro Y9 hM
     refine tF 3 [.v 0 29 (.int .i64 (openE orcB s t).2), .a 1 30 (.bool ((openE orcB s t).2 != 0)) (.bool false), .v 2 28 (.bool false)] ⟨cB (by rw [h1.out]; rfl), trivial⟩ ?_
     refine eF ?_
     go_upto_region 5 with fail
     refine wp_region_fromM _ hM ?_
     clear hM
     rintro Y10 hM
     refine tF 7 [.v 0 34 (pt P 1), .l 1 35 3 (pt P 1) (.int .i64 s.tm), .v 2 36 (pt X 15), .v 3 37 (pt X 19), .l 4 38 3 (pt X 19) (.int .i64 t.vr.x), .a 5 39 (.bool (decide (s.tm ≥ t.vr.x))) (.bool false), .v 6 33 (.bool false)] ⟨ld_int hM.a3 1 rfl, ld_int hM.a2 19 rfl, cB (decide_eq_false (by have := h2.out; omega)), trivial⟩ ?_
     refine eF ?_
     go_upto_region 7 with fail
     refine wp_region_fromM _ hM ?_
     clear hM
     rintro Y11 hM
     refine tF 3 [.a 0 42 ((.bool (lessB (amV t) (feT t)))) (.bool true), .v 1 43 (.bool false), .v 2 41 (.bool false)] ⟨cB (decide_eq_true h3.out), trivial⟩ ?_
     refine eF ?_
     go_upto_region 9 with fail
     refine wp_region_fromM _ hM ?_
     clear hM
     rintro Y12 hM
     refine tF 1 [.l 0 46 50 (pt X 0) (txv t)] ⟨ld_tx hM.a2, trivial⟩ ?_
     refine cF (some 47) _ _ ((refSigned_any t ht 1 _).mono ?_)
     rintro e W1 ⟨rfl, hb⟩
     replace hM := hM.below hb
     clear hb
     refine tF 4 [.a 2 48 ((.bool (!signB t 1))) (.bool false), .v 3 45 (.bool false)] ⟨cB (by rw [h4.out]; rfl), trivial⟩ ?_
     refine eF ?_
     obtain ⟨x, hx, _⟩ := open_some h1.out
     have HX := Lib.hid hx
     clear hx
     go_upto_region 11 with fail
     refine wp_region_fromM _ hM ?_
     clear hM
     rintro Y13 hM
     refine tF 3 [.v 0 10 (.bool true), .v 1 11 (.bool true), .v 2 12 (.bool true)] trivial ?_
     refine eF ?_
     by_cases hq : s.sd = 1
     case pos =>
      have h5 := Lib.hid hq
      clear hq
      go_upto_region 12 with fail
      refine wp_region_fromM _ hM ?_
      clear hM
      rintro Y14 hM
      refine tF 3 [.v 0 50 (pt P 0), .l 1 51 3 (pt P 0) (.int .i64 s.sd), .a 2 52 (.bool (s.sd == 1)) (.bool true)] ⟨ld_int hM.a3 0 rfl, cB (beq_iff_eq.2 h5.out), trivial⟩ ?_
      refine eF ?_
      go_upto_region 13 with fail
      refine wp_region_fromM _ hM ?_
      clear hM
      rintro Y15 hM
      refine tF 11 [.v 0 54 (pt P 2), .l 1 55 36 (pt P 2) (bkv s.pu), .v 2 56 (pt X 8), .v 3 57 (pt X 13), .l 4 58 3 (pt X 13) (.int .i64 t.iv.to), .a 5 59 (.int .i64 (IntKind.i64.wrap (2 * t.iv.to))) (.int .i64 (2 * t.iv.to)), .v 6 60 (pt X 8), .v 7 61 (pt X 12), .l 8 62 3 (pt X 12) (.int .i64 t.iv.re), .a 9 63 (.int .i64 (IntKind.i64.wrap (2 * t.iv.to + t.iv.re))) (.int .i64 (slotS t.iv.to t.iv.re : Nat)), .l 10 64 27 (pt N 0) (wn ((amV t - feT t)))] ⟨rld_pu (s := s) hM.a3, ld_int hM.a2 13 rfl, cI (wrap_dbl (by omega)), ld_int hM.a2 12 rfl, cI (wrap_slot a1), load_wn hM.a0, trivial⟩ ?_
      refine cF (some 65) _ _ ((refMore_any s.pu hs.p a1 hd _).mono ?_)
      rintro e W1 ⟨rfl, hb⟩
      replace hM := hM.below hb
      clear hb
      refine tF 16 [.v 12 53 (.tuple #[bkv (gfq2 s t).1, .bool (decide ((gfq2 s t).2 = 0))]), .v 13 66 (bkv (gfq2 s t).1), .v 14 67 (.bool (decide ((gfq2 s t).2 = 0))), .v 15 68 (pt P 2)] trivial ?_
      refine sF _ _ _ (rsto_pu (s := s) hM.a3 (gfq2 s t).1) ?_
      replace hM := hM.set 3 (cs' := stc ({ s with pu := (gfq2 s t).1 }) v) rfl rfl
      generalize World.setRow _ _ _ = Y16 at *
      refine tF 18 [.v 17 10 (.bool (decide ((gfq2 s t).2 = 0)))] trivial ?_
      refine eF ?_
      go_upto_region 14 with fail
      refine wp_region_fromM _ hM ?_
      clear hM
      rintro Y17 hM
      refine tF 11 [.v 0 70 (pt P 2), .l 1 71 36 (pt P 2) (bkv ((gfq2 s t).1)), .v 2 72 (pt X 0), .l 3 73 3 (pt X 0) (.int .i64 t.fr), .a 4 74 (.int .i64 (IntKind.i64.wrap (2 * t.fr))) (.int .i64 (2 * t.fr)), .v 5 75 (pt X 8), .v 6 76 (pt X 12), .l 7 77 3 (pt X 12) (.int .i64 t.iv.re), .a 8 78 (.int .i64 (IntKind.i64.wrap (2 * t.fr + t.iv.re))) (.int .i64 (slotS t.fr t.iv.re : Nat)), .v 9 79 (pt X 20), .l 10 80 27 (pt X 20) (wn (feT t))] ⟨rld_pu (s := { s with pu := (gfq2 s t).1 }) hM.a3, ld_int hM.a2 0 rfl, cI (wrap_dbl (by omega)), ld_int hM.a2 12 rfl, cI (wrap_slot a2), ld_fe hM.a2 ht, trivial⟩ ?_
      refine cF (some 81) 74 #[bkv ((gfq2 s t).1), .int .i64 (slotS t.fr t.iv.re : Nat), wn (feT t)] ((refMore_any (gfq2 s t).1 (okK_give hs.p _ _ _) a2 hf _).mono ?_)
      rintro e W1 ⟨rfl, hb⟩
      replace hM := hM.below hb
      clear hb
      refine tF 16 [.v 12 69 (.tuple #[bkv (gfq1 s t).1, .bool (decide ((gfq1 s t).2 = 0))]), .v 13 82 (bkv (gfq1 s t).1), .v 14 83 (.bool (decide ((gfq1 s t).2 = 0))), .v 15 84 (pt P 2)] trivial ?_
      refine sF _ _ _ (rsto_pu (s := { s with pu := (gfq2 s t).1 }) hM.a3 (gfq1 s t).1) ?_
      replace hM := hM.set 3 (cs' := stc (qfq3 s t) v) rfl rfl
      generalize World.setRow _ _ _ = Y18 at *
      refine tF 18 [.v 17 11 (.bool (decide ((gfq1 s t).2 = 0)))] trivial ?_
      refine eF ?_
      go_upto_region 15 with fail
      refine wp_region_fromM _ hM ?_
      clear hM
      rintro Y19 hM
      refine tF 7 [.l 0 86 39 (pt P 0) (stv (qfq3 s t) (v)), .v 1 87 (pt X 8), .v 2 88 (pt X 12), .l 3 89 3 (pt X 12) (.int .i64 t.iv.re), .v 4 90 (pt X 15), .v 5 91 (pt X 15), .l 6 92 27 (pt X 15) (wn (amV t))] ⟨rld_st (s := (qfq3 s t)) hM.a3, ld_int hM.a2 12 rfl, ld_av hM.a2 ht, trivial⟩ ?_
      refine cF (some 93) _ _ ((refHeldDown_any (qfq3 s t) v hre HR.out hn hv _).mono ?_)
      rintro e W1 ⟨rfl, hb⟩
      replace hM := hM.below hb
      clear hb
      refine tF 11 [.v 8 85 (.tuple #[stv (gfq3 s t).1 v, .bool (decide ((gfq3 s t).2 = 0))]), .v 9 94 (stv (gfq3 s t).1 v), .v 10 95 (.bool (decide ((gfq3 s t).2 = 0)))] trivial ?_
      refine sF _ _ _ (rsto_st hM.a3 (stc_len _ _) (gfq3 s t).1 hv) ?_
      replace hM := hM.set 3 (cs' := stc (gfq3 s t).1 v) rfl rfl
      generalize World.setRow _ _ _ = Y20 at *
      refine tF 13 [.v 12 12 (.bool (decide ((gfq3 s t).2 = 0)))] trivial ?_
      refine eF ?_
      by_cases hq : (gfq2 s t).2 = 0
      case pos =>
       have h6 := Lib.hid hq
       clear hq
       by_cases hq : (gfq1 s t).2 = 0
       case pos =>
        have h7 := Lib.hid hq
        clear hq
        by_cases hq : amV t ≤ s.he t.iv.re.toNat
        case pos =>
         have h9 := Lib.hid hq
         clear hq
         have h8 : Hid ((gfq3 s t).2 = 0) := Lib.hid (give_sd (s := (qfq3 s t)) h9.out)
         go_upto_region 17 with fail
         refine wp_region_fromM _ hM ?_
         clear hM
         rintro Y21 hM
         refine tF 10 [.a 0 114 (.bool (decide ((gfq2 s t).2 = 0))) (.bool true), .v 1 115 (.bool false), .v 2 116 (.bool false), .a 3 117 (.bool (decide ((gfq1 s t).2 = 0))) (.bool true), .v 4 118 (.bool false), .v 5 119 (.bool false), .v 6 120 (.bool false), .a 7 121 (.bool (decide ((gfq3 s t).2 = 0))) (.bool true), .v 8 122 (.bool false), .v 9 123 (.bool false)] ⟨cB (decide_eq_true h6.out), cB (decide_eq_true h7.out), cB (decide_eq_true h8.out), trivial⟩ ?_
         refine eF ?_
         rw [show (gfq3 s t).1 = (qfq1 s t) from congrArg Prod.fst (shrink_yes (s := (qfq3 s t)) h9.out)] at hM
         go_upto_region 19 with fail
         refine wp_region_fromM _ hM ?_
         clear hM
         rintro Y22 hM
         refine tF 2 [.l 0 125 39 (pt P 0) (stv (qfq1 s t) (v)), .v 1 126 (.int .i64 ((openE orcB s t).1 : Int))] ⟨rld_st (s := (qfq1 s t)) hM.a3, trivial⟩ ?_
         refine cF (some 127) 75 #[stv (qfq1 s t) (v), .int .i64 ((openE orcB s t).1 : Int), .int .i64 2] ((refEnded_any (qfq1 s t) v (openE orcB s t).1 2 HX.out _ (HL.out.below hM.b hhi) (Nat.le_trans hhi hM.size) (Nat.le_trans (Nat.mul_le_mul_right 40 (Nat.le_succ _)) hr)).mono ?_)
         rintro e W1 ⟨v1, rfl, hO, hb⟩
         have hkR := hM.a1.lt
         replace hM := hM.below hb
         clear hb
         have hO1 := OwnM.row hO (B := R) (fun k hk => by have := (World.ownsRow.lt hO k hk).1; omega) (stc (qfq1 s t) v1).toArray
         refine sF _ _ _ (rsto_st hM.a1 (stc_len _ _) (qfq1 s t) (OwnM.one hO).1) ?_
         replace hM := hM.set 1 (cs' := stc (qfq1 s t) v1) rfl rfl
         generalize World.setRow _ _ _ = Y23 at *
         refine tF 5 [.v 4 5 (.int .i64 0)] trivial ?_
         refine eF ?_
         have fin : RetE (fulE orcB s t) w (.returned (.tuple #[stv (qfq1 s t) v1, .int .i64 0])) Y23 := RetE.ok (s'' := { s with pu := (gfq1 s t).1, he := updB s.he t.iv.re.toNat (s.he t.iv.re.toNat - amV t), lk := endE s.lk (openE orcB s t).1 2 }) (by unfold fulE; rw [if_neg (not_not_intro h1.out), if_neg (show ¬ t.vr.x ≤ s.tm by have := h2.out; omega), if_neg (not_not_intro h3.out), if_neg (show ¬ orcB.sg t 1 = false by rw [show orcB.sg t 1 = signB t 1 from rfl, h4.out]; decide), if_pos h5.out, if_neg (fun e => e.elim (fun e => e h6.out) fun e => e.elim (fun e => e h7.out) fun e => e h9.out)]) rfl (OwnM.one hO1).1 ((OwnM.rsl hO1).mono (Nat.zero_le _) (Nat.le_refl _)) hM.b
         go_wp2_with fail
         exact bodyPost_ret (v := .tuple #[stv (qfq1 s t) v1, .int .i64 0]) (res_two rfl _ rfl rfl (rlv_st hM.a1)) rfl fin
        have h9 := Lib.hid hq
        clear hq
        have h8 : Hid (¬ (gfq3 s t).2 = 0) := Lib.hid (give_sn (s := (qfq3 s t)) h9.out)
        go_upto_region 17 with fail
        refine wp_region_fromM _ hM ?_
        clear hM
        rintro Y24 hM
        refine tF 10 [.a 0 114 (.bool (decide ((gfq2 s t).2 = 0))) (.bool true), .v 1 115 (.bool false), .v 2 116 (.bool false), .a 3 117 (.bool (decide ((gfq1 s t).2 = 0))) (.bool true), .v 4 118 (.bool false), .v 5 119 (.bool false), .v 6 120 (.bool false), .a 7 121 (.bool (decide ((gfq3 s t).2 = 0))) (.bool false), .v 8 122 (.bool true), .v 9 123 (.bool true)] ⟨cB (decide_eq_true h6.out), cB (decide_eq_true h7.out), cB (decide_eq_false h8.out), trivial⟩ ?_
        refine eF ?_
        go_upto_region 18 with fail
        refine wp_region_fromM _ hM ?_
        clear hM
        rintro Y25 hM
        refine tF 1 [.l 0 124 39 (pt P 0) (stv ((gfq3 s t).1) (v))] ⟨rld_st (s := (gfq3 s t).1) hM.a3, trivial⟩ ?_
        refine sF _ _ _ (rsto_st hM.a1 (stc_len _ _) ((gfq3 s t).1) hv) ?_
        replace hM := hM.set 1 (cs' := stc ((gfq3 s t).1) v) rfl rfl
        generalize World.setRow _ _ _ = Y26 at *
        refine tF 3 [.v 2 5 (.int .i64 38)] trivial ?_
        refine eF ?_
        have fin : RetE (fulE orcB s t) w (.returned (.tuple #[stv ((gfq3 s t).1) v, .int .i64 38])) Y26 := RetE.bad (by unfold fulE; rw [if_neg (not_not_intro h1.out), if_neg (show ¬ t.vr.x ≤ s.tm by have := h2.out; omega), if_neg (not_not_intro h3.out), if_neg (show ¬ orcB.sg t 1 = false by rw [show orcB.sg t 1 = signB t 1 from rfl, h4.out]; decide), if_pos h5.out, if_pos (.inr (.inr h9.out))]) (by decide) hv hM.b
        go_wp2_with fail
        exact bodyPost_ret (v := .tuple #[stv ((gfq3 s t).1) v, .int .i64 38]) (res_two rfl _ rfl rfl (rlv_st hM.a1)) rfl fin
       have h7 := Lib.hid hq
       clear hq
       go_upto_region 17 with fail
       refine wp_region_fromM _ hM ?_
       clear hM
       rintro Y27 hM
       refine tF 10 [.a 0 114 (.bool (decide ((gfq2 s t).2 = 0))) (.bool true), .v 1 115 (.bool false), .v 2 116 (.bool false), .a 3 117 (.bool (decide ((gfq1 s t).2 = 0))) (.bool false), .v 4 118 (.bool true), .v 5 119 (.bool true), .v 6 120 (.bool true), .skip 7 (some 121), .skip 8 (some 122), .v 9 123 (.bool true)] ⟨cB (decide_eq_true h6.out), cB (decide_eq_false h7.out), trivial⟩ ?_
       refine eF ?_
       go_upto_region 18 with fail
       refine wp_region_fromM _ hM ?_
       clear hM
       rintro Y28 hM
       refine tF 1 [.l 0 124 39 (pt P 0) (stv ((gfq3 s t).1) (v))] ⟨rld_st (s := (gfq3 s t).1) hM.a3, trivial⟩ ?_
       refine sF _ _ _ (rsto_st hM.a1 (stc_len _ _) ((gfq3 s t).1) hv) ?_
       replace hM := hM.set 1 (cs' := stc ((gfq3 s t).1) v) rfl rfl
       generalize World.setRow _ _ _ = Y29 at *
       refine tF 3 [.v 2 5 (.int .i64 38)] trivial ?_
       refine eF ?_
       have fin : RetE (fulE orcB s t) w (.returned (.tuple #[stv ((gfq3 s t).1) v, .int .i64 38])) Y29 := RetE.bad (by unfold fulE; rw [if_neg (not_not_intro h1.out), if_neg (show ¬ t.vr.x ≤ s.tm by have := h2.out; omega), if_neg (not_not_intro h3.out), if_neg (show ¬ orcB.sg t 1 = false by rw [show orcB.sg t 1 = signB t 1 from rfl, h4.out]; decide), if_pos h5.out, if_pos (.inr (.inl h7.out))]) (by decide) hv hM.b
       go_wp2_with fail
       exact bodyPost_ret (v := .tuple #[stv ((gfq3 s t).1) v, .int .i64 38]) (res_two rfl _ rfl rfl (rlv_st hM.a1)) rfl fin
      have h6 := Lib.hid hq
      clear hq
      go_upto_region 17 with fail
      refine wp_region_fromM _ hM ?_
      clear hM
      rintro Y30 hM
      refine tF 10 [.a 0 114 (.bool (decide ((gfq2 s t).2 = 0))) (.bool false), .v 1 115 (.bool true), .v 2 116 (.bool true), .skip 3 (some 117), .skip 4 (some 118), .v 5 119 (.bool true), .v 6 120 (.bool true), .skip 7 (some 121), .skip 8 (some 122), .v 9 123 (.bool true)] ⟨cB (decide_eq_false h6.out), trivial⟩ ?_
      refine eF ?_
      go_upto_region 18 with fail
      refine wp_region_fromM _ hM ?_
      clear hM
      rintro Y31 hM
      refine tF 1 [.l 0 124 39 (pt P 0) (stv ((gfq3 s t).1) (v))] ⟨rld_st (s := (gfq3 s t).1) hM.a3, trivial⟩ ?_
      refine sF _ _ _ (rsto_st hM.a1 (stc_len _ _) ((gfq3 s t).1) hv) ?_
      replace hM := hM.set 1 (cs' := stc ((gfq3 s t).1) v) rfl rfl
      generalize World.setRow _ _ _ = Y32 at *
      refine tF 3 [.v 2 5 (.int .i64 38)] trivial ?_
      refine eF ?_
      have fin : RetE (fulE orcB s t) w (.returned (.tuple #[stv ((gfq3 s t).1) v, .int .i64 38])) Y32 := RetE.bad (by unfold fulE; rw [if_neg (not_not_intro h1.out), if_neg (show ¬ t.vr.x ≤ s.tm by have := h2.out; omega), if_neg (not_not_intro h3.out), if_neg (show ¬ orcB.sg t 1 = false by rw [show orcB.sg t 1 = signB t 1 from rfl, h4.out]; decide), if_pos h5.out, if_pos (.inl h6.out)]) (by decide) hv hM.b
      go_wp2_with fail
      exact bodyPost_ret (v := .tuple #[stv ((gfq3 s t).1) v, .int .i64 38]) (res_two rfl _ rfl rfl (rlv_st hM.a1)) rfl fin
     have h5 := Lib.hid hq
     clear hq
     go_upto_region 12 with fail
     refine wp_region_fromM _ hM ?_
     clear hM
     rintro Y33 hM
     refine tF 3 [.v 0 50 (pt P 0), .l 1 51 3 (pt P 0) (.int .i64 s.sd), .a 2 52 (.bool (s.sd == 1)) (.bool false)] ⟨ld_int hM.a3 0 rfl, cB (beq_eq_false_iff_ne.2 h5.out), trivial⟩ ?_
     refine eF ?_
     go_upto_region 16 with fail
     refine wp_region_fromM _ hM ?_
     clear hM
     rintro Y34 hM
     refine tF 13 [.v 0 97 (pt P 66), .l 1 98 36 (pt P 66) (bkv s.va), .v 2 99 (pt X 8), .v 3 100 (pt X 10), .l 4 101 3 (pt X 10) (.int .i64 t.iv.ro), .a 5 102 (.int .i64 (IntKind.i64.wrap (2 * t.iv.ro))) (.int .i64 (2 * t.iv.ro)), .v 6 103 (pt X 8), .v 7 104 (pt X 11), .l 8 105 3 (pt X 11) (.int .i64 t.iv.se), .a 9 106 (.int .i64 (IntKind.i64.wrap (2 * t.iv.ro + t.iv.se))) (.int .i64 (slotS t.iv.ro t.iv.se : Nat)), .v 10 107 (pt X 15), .v 11 108 (pt X 15), .l 12 109 27 (pt X 15) (wn (amV t))] ⟨rld_va (s := s) hM.a3, ld_int hM.a2 10 rfl, cI (wrap_dbl (by omega)), ld_int hM.a2 11 rfl, cI (wrap_slot a3), ld_av hM.a2 ht, trivial⟩ ?_
     refine cF (some 110) _ _ ((refMore_any s.va hs.v a3 hn _).mono ?_)
     rintro e W1 ⟨rfl, hb⟩
     replace hM := hM.below hb
     clear hb
     refine tF 18 [.v 14 96 (.tuple #[bkv (giveB s.va t.iv.ro t.iv.se (amV t)).1, .bool (decide ((giveB s.va t.iv.ro t.iv.se (amV t)).2 = 0))]), .v 15 111 (bkv (giveB s.va t.iv.ro t.iv.se (amV t)).1), .v 16 112 (.bool (decide ((giveB s.va t.iv.ro t.iv.se (amV t)).2 = 0))), .v 17 113 (pt P 66)] trivial ?_
     refine sF _ _ _ (rsto_va (s := s) hM.a3 (giveB s.va t.iv.ro t.iv.se (amV t)).1) ?_
     replace hM := hM.set 3 (cs' := stc (qfq4 s t) v) rfl rfl
     generalize World.setRow _ _ _ = Y35 at *
     refine tF 20 [.v 19 10 (.bool (decide ((giveB s.va t.iv.ro t.iv.se (amV t)).2 = 0)))] trivial ?_
     refine eF ?_
     by_cases hq : (giveB s.va t.iv.ro t.iv.se (amV t)).2 = 0
     case pos =>
      have h6 := Lib.hid hq
      clear hq
      go_upto_region 17 with fail
      refine wp_region_fromM _ hM ?_
      clear hM
      rintro Y36 hM
      refine tF 10 [.a 0 114 (.bool (decide ((giveB s.va t.iv.ro t.iv.se (amV t)).2 = 0))) (.bool true), .v 1 115 (.bool false), .v 2 116 (.bool false), .v 3 117 (.bool true), .v 4 118 (.bool false), .v 5 119 (.bool false), .v 6 120 (.bool false), .v 7 121 (.bool true), .v 8 122 (.bool false), .v 9 123 (.bool false)] ⟨cB (decide_eq_true h6.out), trivial⟩ ?_
      refine eF ?_
      go_upto_region 19 with fail
      refine wp_region_fromM _ hM ?_
      clear hM
      rintro Y37 hM
      refine tF 2 [.l 0 125 39 (pt P 0) (stv (qfq4 s t) (v)), .v 1 126 (.int .i64 ((openE orcB s t).1 : Int))] ⟨rld_st (s := (qfq4 s t)) hM.a3, trivial⟩ ?_
      refine cF (some 127) 75 #[stv (qfq4 s t) (v), .int .i64 ((openE orcB s t).1 : Int), .int .i64 2] ((refEnded_any (qfq4 s t) v (openE orcB s t).1 2 HX.out _ (HL.out.below hM.b hhi) (Nat.le_trans hhi hM.size) (Nat.le_trans (Nat.mul_le_mul_right 40 (Nat.le_succ _)) hr)).mono ?_)
      rintro e W1 ⟨v1, rfl, hO, hb⟩
      have hkR := hM.a1.lt
      replace hM := hM.below hb
      clear hb
      have hO1 := OwnM.row hO (B := R) (fun k hk => by have := (World.ownsRow.lt hO k hk).1; omega) (stc (qfq4 s t) v1).toArray
      refine sF _ _ _ (rsto_st hM.a1 (stc_len _ _) (qfq4 s t) (OwnM.one hO).1) ?_
      replace hM := hM.set 1 (cs' := stc (qfq4 s t) v1) rfl rfl
      generalize World.setRow _ _ _ = Y38 at *
      refine tF 5 [.v 4 5 (.int .i64 0)] trivial ?_
      refine eF ?_
      have fin : RetE (fulE orcB s t) w (.returned (.tuple #[stv (qfq4 s t) v1, .int .i64 0])) Y38 := RetE.ok (s'' := { s with va := (giveB s.va t.iv.ro t.iv.se (amV t)).1, lk := endE s.lk (openE orcB s t).1 2 }) (by unfold fulE; rw [if_neg (not_not_intro h1.out), if_neg (show ¬ t.vr.x ≤ s.tm by have := h2.out; omega), if_neg (not_not_intro h3.out), if_neg (show ¬ orcB.sg t 1 = false by rw [show orcB.sg t 1 = signB t 1 from rfl, h4.out]; decide), if_neg h5.out, if_neg (not_not_intro h6.out)]) rfl (OwnM.one hO1).1 ((OwnM.rsl hO1).mono (Nat.zero_le _) (Nat.le_refl _)) hM.b
      go_wp2_with fail
      exact bodyPost_ret (v := .tuple #[stv (qfq4 s t) v1, .int .i64 0]) (res_two rfl _ rfl rfl (rlv_st hM.a1)) rfl fin
     have h6 := Lib.hid hq
     clear hq
     go_upto_region 17 with fail
     refine wp_region_fromM _ hM ?_
     clear hM
     rintro Y39 hM
     refine tF 10 [.a 0 114 (.bool (decide ((giveB s.va t.iv.ro t.iv.se (amV t)).2 = 0))) (.bool false), .v 1 115 (.bool true), .v 2 116 (.bool true), .skip 3 (some 117), .skip 4 (some 118), .v 5 119 (.bool true), .v 6 120 (.bool true), .skip 7 (some 121), .skip 8 (some 122), .v 9 123 (.bool true)] ⟨cB (decide_eq_false h6.out), trivial⟩ ?_
     refine eF ?_
     go_upto_region 18 with fail
     refine wp_region_fromM _ hM ?_
     clear hM
     rintro Y40 hM
     refine tF 1 [.l 0 124 39 (pt P 0) (stv (qfq4 s t) (v))] ⟨rld_st (s := (qfq4 s t)) hM.a3, trivial⟩ ?_
     refine sF _ _ _ (rsto_st hM.a1 (stc_len _ _) (qfq4 s t) hv) ?_
     replace hM := hM.set 1 (cs' := stc (qfq4 s t) v) rfl rfl
     generalize World.setRow _ _ _ = Y41 at *
     refine tF 3 [.v 2 5 (.int .i64 38)] trivial ?_
     refine eF ?_
     have fin : RetE (fulE orcB s t) w (.returned (.tuple #[stv (qfq4 s t) v, .int .i64 38])) Y41 := RetE.bad (by unfold fulE; rw [if_neg (not_not_intro h1.out), if_neg (show ¬ t.vr.x ≤ s.tm by have := h2.out; omega), if_neg (not_not_intro h3.out), if_neg (show ¬ orcB.sg t 1 = false by rw [show orcB.sg t 1 = signB t 1 from rfl, h4.out]; decide), if_neg h5.out, if_pos h6.out]) (by decide) hv hM.b
     go_wp2_with fail
     exact bodyPost_ret (v := .tuple #[stv (qfq4 s t) v, .int .i64 38]) (res_two rfl _ rfl rfl (rlv_st hM.a1)) rfl fin
    have h4 := Lib.hid hq
    clear hq
    go_upto_region 3 with fail
    refine wp_region_fromM _ hM ?_
    clear hM
    rintro Y42 hM
    refine tF 3 [.v 0 29 (.int .i64 (openE orcB s t).2), .a 1 30 (.bool ((openE orcB s t).2 != 0)) (.bool false), .v 2 28 (.bool false)] ⟨cB (by rw [h1.out]; rfl), trivial⟩ ?_
    refine eF ?_
    go_upto_region 5 with fail
    refine wp_region_fromM _ hM ?_
    clear hM
    rintro Y43 hM
    refine tF 7 [.v 0 34 (pt P 1), .l 1 35 3 (pt P 1) (.int .i64 s.tm), .v 2 36 (pt X 15), .v 3 37 (pt X 19), .l 4 38 3 (pt X 19) (.int .i64 t.vr.x), .a 5 39 (.bool (decide (s.tm ≥ t.vr.x))) (.bool false), .v 6 33 (.bool false)] ⟨ld_int hM.a3 1 rfl, ld_int hM.a2 19 rfl, cB (decide_eq_false (by have := h2.out; omega)), trivial⟩ ?_
    refine eF ?_
    go_upto_region 7 with fail
    refine wp_region_fromM _ hM ?_
    clear hM
    rintro Y44 hM
    refine tF 3 [.a 0 42 ((.bool (lessB (amV t) (feT t)))) (.bool true), .v 1 43 (.bool false), .v 2 41 (.bool false)] ⟨cB (decide_eq_true h3.out), trivial⟩ ?_
    refine eF ?_
    go_upto_region 9 with fail
    refine wp_region_fromM _ hM ?_
    clear hM
    rintro Y45 hM
    refine tF 1 [.l 0 46 50 (pt X 0) (txv t)] ⟨ld_tx hM.a2, trivial⟩ ?_
    refine cF (some 47) _ _ ((refSigned_any t ht 1 _).mono ?_)
    rintro e W1 ⟨rfl, hb⟩
    replace hM := hM.below hb
    clear hb
    refine tF 4 [.a 2 48 ((.bool (!signB t 1))) (.bool true), .v 3 45 (.bool true)] ⟨cB (by rw [Bool.eq_false_iff.2 h4.out]; rfl), trivial⟩ ?_
    refine eF ?_
    go_upto_region 10 with fail
    refine wp_region_fromM _ hM ?_
    clear hM
    rintro Y46 hM
    refine tF 1 [.l 0 49 39 (pt P 0) (stv (s) (v))] ⟨rld_st (s := s) hM.a3, trivial⟩ ?_
    refine sF _ _ _ (rsto_st hM.a1 (stc_len _ _) (s) hv) ?_
    replace hM := hM.set 1 (cs' := stc (s) v) rfl rfl
    generalize World.setRow _ _ _ = Y47 at *
    refine tF 3 [.v 2 5 (.int .i64 35)] trivial ?_
    refine eF ?_
    have fin : RetE (fulE orcB s t) w (.returned (.tuple #[stv (s) v, .int .i64 35])) Y47 := RetE.bad (by unfold fulE; rw [if_neg (not_not_intro h1.out), if_neg (show ¬ t.vr.x ≤ s.tm by have := h2.out; omega), if_neg (not_not_intro h3.out), if_pos (show orcB.sg t 1 = false from Bool.eq_false_iff.2 h4.out)]) (by decide) hv hM.b
    go_wp2_with fail
    exact bodyPost_ret (v := .tuple #[stv (s) v, .int .i64 35]) (res_two rfl _ rfl rfl (rlv_st hM.a1)) rfl fin
   have h3 := Lib.hid hq
   clear hq
   go_upto_region 3 with fail
   refine wp_region_fromM _ hM ?_
   clear hM
   rintro Y48 hM
   refine tF 3 [.v 0 29 (.int .i64 (openE orcB s t).2), .a 1 30 (.bool ((openE orcB s t).2 != 0)) (.bool false), .v 2 28 (.bool false)] ⟨cB (by rw [h1.out]; rfl), trivial⟩ ?_
   refine eF ?_
   go_upto_region 5 with fail
   refine wp_region_fromM _ hM ?_
   clear hM
   rintro Y49 hM
   refine tF 7 [.v 0 34 (pt P 1), .l 1 35 3 (pt P 1) (.int .i64 s.tm), .v 2 36 (pt X 15), .v 3 37 (pt X 19), .l 4 38 3 (pt X 19) (.int .i64 t.vr.x), .a 5 39 (.bool (decide (s.tm ≥ t.vr.x))) (.bool false), .v 6 33 (.bool false)] ⟨ld_int hM.a3 1 rfl, ld_int hM.a2 19 rfl, cB (decide_eq_false (by have := h2.out; omega)), trivial⟩ ?_
   refine eF ?_
   go_upto_region 7 with fail
   refine wp_region_fromM _ hM ?_
   clear hM
   rintro Y50 hM
   refine tF 3 [.a 0 42 ((.bool (lessB (amV t) (feT t)))) (.bool false), .v 1 43 (.bool true), .v 2 41 (.bool true)] ⟨cB (decide_eq_false h3.out), trivial⟩ ?_
   refine eF ?_
   go_upto_region 8 with fail
   refine wp_region_fromM _ hM ?_
   clear hM
   rintro Y51 hM
   refine tF 1 [.l 0 44 39 (pt P 0) (stv (s) (v))] ⟨rld_st (s := s) hM.a3, trivial⟩ ?_
   refine sF _ _ _ (rsto_st hM.a1 (stc_len _ _) (s) hv) ?_
   replace hM := hM.set 1 (cs' := stc (s) v) rfl rfl
   generalize World.setRow _ _ _ = Y52 at *
   refine tF 3 [.v 2 5 (.int .i64 36)] trivial ?_
   refine eF ?_
   have fin : RetE (fulE orcB s t) w (.returned (.tuple #[stv (s) v, .int .i64 36])) Y52 := RetE.bad (by unfold fulE; rw [if_neg (not_not_intro h1.out), if_neg (show ¬ t.vr.x ≤ s.tm by have := h2.out; omega), if_pos h3.out]) (by decide) hv hM.b
   go_wp2_with fail
   exact bodyPost_ret (v := .tuple #[stv (s) v, .int .i64 36]) (res_two rfl _ rfl rfl (rlv_st hM.a1)) rfl fin
  have h2 := Lib.hid hq
  clear hq
  go_upto_region 3 with fail
  refine wp_region_fromM _ hM ?_
  clear hM
  rintro Y53 hM
  refine tF 3 [.v 0 29 (.int .i64 (openE orcB s t).2), .a 1 30 (.bool ((openE orcB s t).2 != 0)) (.bool false), .v 2 28 (.bool false)] ⟨cB (by rw [h1.out]; rfl), trivial⟩ ?_
  refine eF ?_
  go_upto_region 5 with fail
  refine wp_region_fromM _ hM ?_
  clear hM
  rintro Y54 hM
  refine tF 7 [.v 0 34 (pt P 1), .l 1 35 3 (pt P 1) (.int .i64 s.tm), .v 2 36 (pt X 15), .v 3 37 (pt X 19), .l 4 38 3 (pt X 19) (.int .i64 t.vr.x), .a 5 39 (.bool (decide (s.tm ≥ t.vr.x))) (.bool true), .v 6 33 (.bool true)] ⟨ld_int hM.a3 1 rfl, ld_int hM.a2 19 rfl, cB (decide_eq_true (by have := h2.out; omega)), trivial⟩ ?_
  refine eF ?_
  go_upto_region 6 with fail
  refine wp_region_fromM _ hM ?_
  clear hM
  rintro Y55 hM
  refine tF 1 [.l 0 40 39 (pt P 0) (stv (s) (v))] ⟨rld_st (s := s) hM.a3, trivial⟩ ?_
  refine sF _ _ _ (rsto_st hM.a1 (stc_len _ _) (s) hv) ?_
  replace hM := hM.set 1 (cs' := stc (s) v) rfl rfl
  generalize World.setRow _ _ _ = Y56 at *
  refine tF 3 [.v 2 5 (.int .i64 34)] trivial ?_
  refine eF ?_
  have fin : RetE (fulE orcB s t) w (.returned (.tuple #[stv (s) v, .int .i64 34])) Y56 := RetE.bad (by unfold fulE; rw [if_neg (not_not_intro h1.out), if_pos (show t.vr.x ≤ s.tm by have := h2.out; omega)]) (by decide) hv hM.b
  go_wp2_with fail
  exact bodyPost_ret (v := .tuple #[stv (s) v, .int .i64 34]) (res_two rfl _ rfl rfl (rlv_st hM.a1)) rfl fin
 have h1 := Lib.hid hq
 clear hq
 go_upto_region 3 with fail
 refine wp_region_fromM _ hM ?_
 clear hM
 rintro Y57 hM
 refine tF 3 [.v 0 29 (.int .i64 (openE orcB s t).2), .a 1 30 (.bool ((openE orcB s t).2 != 0)) (.bool true), .v 2 28 (.bool true)] ⟨cB (bne_iff_ne.2 h1.out), trivial⟩ ?_
 refine eF ?_
 skip
 go_upto_region 4 with fail
 refine wp_region_fromM _ hM ?_
 clear hM
 rintro Y58 hM
 refine tF 2 [.l 0 31 39 (pt P 0) (stv (s) (v)), .v 1 32 (.int .i64 (openE orcB s t).2)] ⟨rld_st (s := s) hM.a3, trivial⟩ ?_
 refine sF _ _ _ (rsto_st hM.a1 (stc_len _ _) (s) hv) ?_
 replace hM := hM.set 1 (cs' := stc (s) v) rfl rfl
 generalize World.setRow _ _ _ = Y59 at *
 refine tF 4 [.v 3 5 (.int .i64 (openE orcB s t).2)] trivial ?_
 refine eF ?_
 have fin : RetE (fulE orcB s t) w (.returned (.tuple #[stv (s) v, .int .i64 (openE orcB s t).2])) Y59 := RetE.bad (by unfold fulE; rw [if_pos h1.out]) (h1.out) hv hM.b
 go_wp2_with fail
 exact bodyPost_ret (v := .tuple #[stv (s) v, .int .i64 (openE orcB s t).2]) (res_two rfl _ rfl rfl (rlv_st hM.a1)) rfl fin
set_option maxRecDepth 100000 in
set_option maxHeartbeats 4000000 in
theorem refCancel_esc (s : Es) (v : Value) (hs : OkE s) (t : Tr) (ht : OkT t) (hF : errF t = 0) (w : World) {lo hi : Nat} (hl : RSl lkc lo hi w v s.lk) (hhi : hi ≤ w.heap.size) (hr : (s.lk.length + 1) * 40 ≤ 140737488355328) :
  Calls Tryz.prog 37 #[stv s v, txv t] w (RetE (canE orcB s t) w) := by
 have hmx : Tryz.prog.follows .mixedOrders = true := by kernel_rfl
 have hv := hl.one
 have HL := Lib.hid hl
 obtain ⟨⟨hus, _, hro, hse, hre, hto, _⟩, _, _⟩ := errF_all hF
 have hn : amV t < M4 := val_lt ht.v
 have HS := Lib.hid (okE_he hs hse.1 hse.2)
 have HR := Lib.hid (okE_he hs hre.1 hre.2)
 have a1 : atS t.iv.ro t.iv.re := ⟨by omega, by omega⟩
 have a2 : atS t.iv.us t.iv.se := ⟨by omega, by omega⟩
 clear hl
 have hM := Mem.start w
 go_enter Tryz.func37, Tryz.ntmps37
 go_upto_region 0 with fail
 refine wp_region_fromM (fun W => Mem w none [] W) hM ?_
 clear hM
 rintro Y1 hM
 refine rF (some 2) (pt Y1.heap.size 0) (Y1.alloc (.cells (stc s v).toArray 39)) ?_
 replace hM := hM.alloc 39 (stc s v)
 generalize World.alloc _ _ = Y2 at *
 generalize hNe : Y1.heap.size = P at *
 clear hNe
 refine rF (some 3) (pt Y2.heap.size 0) (Y2.alloc (.cells (txc t).toArray 50)) ?_
 replace hM := hM.alloc 50 (txc t)
 generalize World.alloc _ _ = Y3 at *
 generalize hNe : Y2.heap.size = X at *
 clear hNe
 refine rF (some 4) (pt Y3.heap.size 0) (Y3.alloc (.cells (stc zS nilV).toArray 39)) ?_
 replace hM := hM.alloc 39 (stc zS nilV)
 generalize World.alloc _ _ = Y4 at *
 generalize hNe : Y3.heap.size = R at *
 clear hNe
 refine tF 4 [.v 3 5 (.int .i64 0)] trivial ?_
 refine eF ?_
 go_upto_region 1 with fail
 refine wp_region_fromM _ hM ?_
 clear hM
 rintro Y5 hM
 refine tF 2 [.l 0 12 39 (pt P 0) (stv (s) (v)), .l 1 13 50 (pt X 0) (txv t)] ⟨rld_st (s := s) hM.a2, ld_tx hM.a1, trivial⟩ ?_
 refine cF (some 14) 72 #[stv (s) (v), txv t] ((refOpen_esc s v t ht _ (HL.out.below hM.b hhi) (Nat.le_trans hhi hM.size)).mono ?_)
 rintro e W1 ⟨rfl, hb⟩
 replace hM := hM.below hb
 clear hb
 refine tF 8 [.v 3 11 (.tuple #[.int .i64 ((openE orcB s t).1 : Int), .int .i64 (openE orcB s t).2]), .v 4 15 (.int .i64 ((openE orcB s t).1 : Int)), .v 5 16 (.int .i64 (openE orcB s t).2), .v 6 6 (.int .i64 ((openE orcB s t).1 : Int)), .v 7 7 (.int .i64 (openE orcB s t).2)] trivial ?_
 refine eF ?_
 go_upto_region 2 with fail
 refine wp_region_fromM _ hM ?_
 clear hM
 rintro Y6 hM
 refine tF 7 [.v 0 17 (pt P 1), .l 1 18 3 (pt P 1) (.int .i64 s.tm), .v 2 19 (pt X 15), .v 3 20 (pt X 19), .l 4 21 3 (pt X 19) (.int .i64 t.vr.x), .v 5 22 (.bool (decide (s.tm < t.vr.x))), .v 6 8 (.bool (decide (s.tm < t.vr.x)))] ⟨ld_int hM.a2 1 rfl, ld_int hM.a1 19 rfl, trivial⟩ ?_
 refine eF ?_
 by_cases hq : (openE orcB s t).2 = 0
 case pos =>
  have h1 := Lib.hid hq
  clear hq
  obtain ⟨x, hx, _⟩ := open_some h1.out
  have HX := Lib.hid hx
  clear hx
  go_upto_region 3 with fail
  refine wp_region_fromM _ hM ?_
  clear hM
  rintro Y7 hM
  refine tF 3 [.v 0 24 (.int .i64 (openE orcB s t).2), .a 1 25 (.bool ((openE orcB s t).2 != 0)) (.bool false), .v 2 23 (.bool false)] ⟨cB (by rw [h1.out]; rfl), trivial⟩ ?_
  refine eF ?_
  by_cases hq : s.sd = 1
  case pos =>
   have h3 := Lib.hid hq
   clear hq
   by_cases hq : s.tm < t.vr.x
   case pos =>
    have h2 := Lib.hid hq
    clear hq
    by_cases hq : signB t 2 = true
    case pos =>
     have h4 := Lib.hid hq
     clear hq
     go_upto_region 5 with fail
     refine wp_region_fromM _ hM ?_
     clear hM
     rintro Y8 hM
     refine tF 8 [.a 0 29 (.bool (decide (s.tm < t.vr.x))) (.bool true), .v 1 30 (.bool true), .v 2 31 (pt P 0), .l 3 32 3 (pt P 0) (.int .i64 s.sd), .a 4 33 (.bool (s.sd == 1)) (.bool true), .v 5 34 (.bool true), .v 6 35 (.bool true), .l 7 36 50 (pt X 0) (txv t)] ⟨cB (decide_eq_true h2.out), ld_int hM.a2 0 rfl, cB (beq_iff_eq.2 h3.out), ld_tx hM.a1, trivial⟩ ?_
     refine cF (some 37) _ _ ((refSigned_any t ht 2 _).mono ?_)
     rintro e W1 ⟨rfl, hb⟩
     replace hM := hM.below hb
     clear hb
     refine tF 12 [.a 9 38 ((.bool (!signB t 2))) (.bool false), .v 10 39 (.bool false), .v 11 28 (.bool false)] ⟨cB (by rw [h4.out]; rfl), trivial⟩ ?_
     refine eF ?_
     go_upto_region 7 with fail
     refine wp_region_fromM _ hM ?_
     clear hM
     rintro Y9 hM
     refine tF 15 [.a 0 42 (.bool (decide (s.tm < t.vr.x))) (.bool true), .v 1 43 (.bool true), .v 2 44 (pt P 0), .l 3 45 3 (pt P 0) (.int .i64 s.sd), .a 4 46 (.bool (s.sd == 0)) (.bool false), .v 5 47 (.bool false), .v 6 48 (.bool false), .skip 7 (some 49), .skip 8 (some 50), .skip 9 (some 51), .skip 10 (some 52), .skip 11 (some 53), .skip 12 (some 54), .v 13 55 (.bool false), .v 14 41 (.bool false)] ⟨cB (decide_eq_true h2.out), ld_int hM.a2 0 rfl, cB (by rw [h3.out]; rfl), trivial⟩ ?_
     refine eF ?_
     go_upto_region 9 with fail
     refine wp_region_fromM _ hM ?_
     clear hM
     rintro Y10 hM
     refine tF 2 [.v 0 9 (.bool true), .v 1 10 (.bool true)] trivial ?_
     refine eF ?_
     go_upto_region 10 with fail
     refine wp_region_fromM _ hM ?_
     clear hM
     rintro Y11 hM
     refine tF 3 [.v 0 57 (pt P 0), .l 1 58 3 (pt P 0) (.int .i64 s.sd), .a 2 59 (.bool (s.sd == 1)) (.bool true)] ⟨ld_int hM.a2 0 rfl, cB (beq_iff_eq.2 h3.out), trivial⟩ ?_
     refine eF ?_
     go_upto_region 11 with fail
     refine wp_region_fromM _ hM ?_
     clear hM
     rintro Y12 hM
     refine tF 13 [.v 0 61 (pt P 66), .l 1 62 36 (pt P 66) (bkv s.va), .v 2 63 (pt X 8), .v 3 64 (pt X 10), .l 4 65 3 (pt X 10) (.int .i64 t.iv.ro), .a 5 66 (.int .i64 (IntKind.i64.wrap (2 * t.iv.ro))) (.int .i64 (2 * t.iv.ro)), .v 6 67 (pt X 8), .v 7 68 (pt X 12), .l 8 69 3 (pt X 12) (.int .i64 t.iv.re), .a 9 70 (.int .i64 (IntKind.i64.wrap (2 * t.iv.ro + t.iv.re))) (.int .i64 (slotS t.iv.ro t.iv.re : Nat)), .v 10 71 (pt X 15), .v 11 72 (pt X 15), .l 12 73 27 (pt X 15) (wn (amV t))] ⟨rld_va (s := s) hM.a2, ld_int hM.a1 10 rfl, cI (wrap_dbl (by omega)), ld_int hM.a1 12 rfl, cI (wrap_slot a1), ld_av hM.a1 ht, trivial⟩ ?_
     refine cF (some 74) _ _ ((refMore_any s.va hs.v a1 hn _).mono ?_)
     rintro e W1 ⟨rfl, hb⟩
     replace hM := hM.below hb
     clear hb
     refine tF 18 [.v 14 60 (.tuple #[bkv (gfq5 s t).1, .bool (decide ((gfq5 s t).2 = 0))]), .v 15 75 (bkv (gfq5 s t).1), .v 16 76 (.bool (decide ((gfq5 s t).2 = 0))), .v 17 77 (pt P 66)] trivial ?_
     refine sF _ _ _ (rsto_va (s := s) hM.a2 (gfq5 s t).1) ?_
     replace hM := hM.set 2 (cs' := stc (qfq5 s t) v) rfl rfl
     generalize World.setRow _ _ _ = Y13 at *
     refine tF 20 [.v 19 9 (.bool (decide ((gfq5 s t).2 = 0)))] trivial ?_
     refine eF ?_
     by_cases hq : (gfq5 s t).2 = 0
     case pos =>
      have h6 := Lib.hid hq
      clear hq
      go_upto_region 14 with fail
      refine wp_region_fromM _ hM ?_
      clear hM
      rintro Y14 hM
      refine tF 6 [.a 0 107 (.bool (decide ((gfq5 s t).2 = 0))) (.bool true), .v 1 108 (.bool false), .v 2 109 (.bool false), .v 3 110 (.bool true), .v 4 111 (.bool false), .v 5 112 (.bool false)] ⟨cB (decide_eq_true h6.out), trivial⟩ ?_
      refine eF ?_
      go_upto_region 16 with fail
      refine wp_region_fromM _ hM ?_
      clear hM
      rintro Y15 hM
      refine tF 2 [.l 0 114 39 (pt P 0) (stv (qfq5 s t) (v)), .v 1 115 (.int .i64 ((openE orcB s t).1 : Int))] ⟨rld_st (s := (qfq5 s t)) hM.a2, trivial⟩ ?_
      refine cF (some 116) 75 #[stv (qfq5 s t) (v), .int .i64 ((openE orcB s t).1 : Int), .int .i64 3] ((refEnded_any (qfq5 s t) v (openE orcB s t).1 3 HX.out _ (HL.out.below hM.b hhi) (Nat.le_trans hhi hM.size) (Nat.le_trans (Nat.mul_le_mul_right 40 (Nat.le_succ _)) hr)).mono ?_)
      rintro e W1 ⟨v1, rfl, hO, hb⟩
      have hkR := hM.a0.lt
      replace hM := hM.below hb
      clear hb
      have hO1 := OwnM.row hO (B := R) (fun k hk => by have := (World.ownsRow.lt hO k hk).1; omega) (stc (qfq5 s t) v1).toArray
      refine sF _ _ _ (rsto_st hM.a0 (stc_len _ _) (qfq5 s t) (OwnM.one hO).1) ?_
      replace hM := hM.set 0 (cs' := stc (qfq5 s t) v1) rfl rfl
      generalize World.setRow _ _ _ = Y16 at *
      refine tF 5 [.v 4 5 (.int .i64 0)] trivial ?_
      refine eF ?_
      have fin : RetE (canE orcB s t) w (.returned (.tuple #[stv (qfq5 s t) v1, .int .i64 0])) Y16 := RetE.ok (s'' := { s with va := (gfq5 s t).1, lk := endE s.lk (openE orcB s t).1 3 }) (by unfold canE; rw [if_neg (not_not_intro h1.out), if_neg (show ¬ (s.tm < t.vr.x ∧ s.sd = 1 ∧ orcB.sg t 2 = false) from fun e => absurd (show signB t 2 = false from e.2.2) (by rw [h4.out]; decide)), if_neg (show ¬ (s.tm < t.vr.x ∧ s.sd ≠ 1 ∧ t.fr ≠ t.iv.ro) from fun e => e.2.1 h3.out), if_pos h3.out, if_neg (not_not_intro h6.out)]) rfl (OwnM.one hO1).1 ((OwnM.rsl hO1).mono (Nat.zero_le _) (Nat.le_refl _)) hM.b
      go_wp2_with fail
      exact bodyPost_ret (v := .tuple #[stv (qfq5 s t) v1, .int .i64 0]) (res_two rfl _ rfl rfl (rlv_st hM.a0)) rfl fin
     have h6 := Lib.hid hq
     clear hq
     go_upto_region 14 with fail
     refine wp_region_fromM _ hM ?_
     clear hM
     rintro Y17 hM
     refine tF 6 [.a 0 107 (.bool (decide ((gfq5 s t).2 = 0))) (.bool false), .v 1 108 (.bool true), .v 2 109 (.bool true), .skip 3 (some 110), .skip 4 (some 111), .v 5 112 (.bool true)] ⟨cB (decide_eq_false h6.out), trivial⟩ ?_
     refine eF ?_
     go_upto_region 15 with fail
     refine wp_region_fromM _ hM ?_
     clear hM
     rintro Y18 hM
     refine tF 1 [.l 0 113 39 (pt P 0) (stv (qfq5 s t) (v))] ⟨rld_st (s := (qfq5 s t)) hM.a2, trivial⟩ ?_
     refine sF _ _ _ (rsto_st hM.a0 (stc_len _ _) (qfq5 s t) hv) ?_
     replace hM := hM.set 0 (cs' := stc (qfq5 s t) v) rfl rfl
     generalize World.setRow _ _ _ = Y19 at *
     refine tF 3 [.v 2 5 (.int .i64 38)] trivial ?_
     refine eF ?_
     have fin : RetE (canE orcB s t) w (.returned (.tuple #[stv (qfq5 s t) v, .int .i64 38])) Y19 := RetE.bad (by unfold canE; rw [if_neg (not_not_intro h1.out), if_neg (show ¬ (s.tm < t.vr.x ∧ s.sd = 1 ∧ orcB.sg t 2 = false) from fun e => absurd (show signB t 2 = false from e.2.2) (by rw [h4.out]; decide)), if_neg (show ¬ (s.tm < t.vr.x ∧ s.sd ≠ 1 ∧ t.fr ≠ t.iv.ro) from fun e => e.2.1 h3.out), if_pos h3.out, if_pos h6.out]) (by decide) hv hM.b
     go_wp2_with fail
     exact bodyPost_ret (v := .tuple #[stv (qfq5 s t) v, .int .i64 38]) (res_two rfl _ rfl rfl (rlv_st hM.a0)) rfl fin
    have h4 := Lib.hid hq
    clear hq
    go_upto_region 5 with fail
    refine wp_region_fromM _ hM ?_
    clear hM
    rintro Y20 hM
    refine tF 8 [.a 0 29 (.bool (decide (s.tm < t.vr.x))) (.bool true), .v 1 30 (.bool true), .v 2 31 (pt P 0), .l 3 32 3 (pt P 0) (.int .i64 s.sd), .a 4 33 (.bool (s.sd == 1)) (.bool true), .v 5 34 (.bool true), .v 6 35 (.bool true), .l 7 36 50 (pt X 0) (txv t)] ⟨cB (decide_eq_true h2.out), ld_int hM.a2 0 rfl, cB (beq_iff_eq.2 h3.out), ld_tx hM.a1, trivial⟩ ?_
    refine cF (some 37) _ _ ((refSigned_any t ht 2 _).mono ?_)
    rintro e W1 ⟨rfl, hb⟩
    replace hM := hM.below hb
    clear hb
    refine tF 12 [.a 9 38 ((.bool (!signB t 2))) (.bool true), .v 10 39 (.bool true), .v 11 28 (.bool true)] ⟨cB (by rw [Bool.eq_false_iff.2 h4.out]; rfl), trivial⟩ ?_
    refine eF ?_
    go_upto_region 6 with fail
    refine wp_region_fromM _ hM ?_
    clear hM
    rintro Y21 hM
    refine tF 1 [.l 0 40 39 (pt P 0) (stv (s) (v))] ⟨rld_st (s := s) hM.a2, trivial⟩ ?_
    refine sF _ _ _ (rsto_st hM.a0 (stc_len _ _) (s) hv) ?_
    replace hM := hM.set 0 (cs' := stc (s) v) rfl rfl
    generalize World.setRow _ _ _ = Y22 at *
    refine tF 3 [.v 2 5 (.int .i64 35)] trivial ?_
    refine eF ?_
    have fin : RetE (canE orcB s t) w (.returned (.tuple #[stv (s) v, .int .i64 35])) Y22 := RetE.bad (by unfold canE; rw [if_neg (not_not_intro h1.out), if_pos (show s.tm < t.vr.x ∧ s.sd = 1 ∧ orcB.sg t 2 = false from ⟨h2.out, h3.out, Bool.eq_false_iff.2 h4.out⟩)]) (by decide) hv hM.b
    go_wp2_with fail
    exact bodyPost_ret (v := .tuple #[stv (s) v, .int .i64 35]) (res_two rfl _ rfl rfl (rlv_st hM.a0)) rfl fin
   have h2 := Lib.hid hq
   clear hq
   go_upto_region 5 with fail
   refine wp_region_fromM _ hM ?_
   clear hM
   rintro Y23 hM
   refine tF 8 [.a 0 29 (.bool (decide (s.tm < t.vr.x))) (.bool false), .v 1 30 (.bool false), .skip 2 (some 31), .skip 3 (some 32), .skip 4 (some 33), .v 5 34 (.bool false), .v 6 35 (.bool false), .skip 7 (some 36)] ⟨cB (decide_eq_false h2.out), trivial⟩ ?_
   refine tF 12 [.skip 8 (some 37), .skip 9 (some 38), .v 10 39 (.bool false), .v 11 28 (.bool false)] trivial ?_
   refine eF ?_
   go_upto_region 7 with fail
   refine wp_region_fromM _ hM ?_
   clear hM
   rintro Y24 hM
   refine tF 15 [.a 0 42 (.bool (decide (s.tm < t.vr.x))) (.bool false), .v 1 43 (.bool false), .skip 2 (some 44), .skip 3 (some 45), .skip 4 (some 46), .v 5 47 (.bool false), .v 6 48 (.bool false), .skip 7 (some 49), .skip 8 (some 50), .skip 9 (some 51), .skip 10 (some 52), .skip 11 (some 53), .skip 12 (some 54), .v 13 55 (.bool false), .v 14 41 (.bool false)] ⟨cB (decide_eq_false h2.out), trivial⟩ ?_
   refine eF ?_
   go_upto_region 9 with fail
   refine wp_region_fromM _ hM ?_
   clear hM
   rintro Y25 hM
   refine tF 2 [.v 0 9 (.bool true), .v 1 10 (.bool true)] trivial ?_
   refine eF ?_
   go_upto_region 10 with fail
   refine wp_region_fromM _ hM ?_
   clear hM
   rintro Y26 hM
   refine tF 3 [.v 0 57 (pt P 0), .l 1 58 3 (pt P 0) (.int .i64 s.sd), .a 2 59 (.bool (s.sd == 1)) (.bool true)] ⟨ld_int hM.a2 0 rfl, cB (beq_iff_eq.2 h3.out), trivial⟩ ?_
   refine eF ?_
   go_upto_region 11 with fail
   refine wp_region_fromM _ hM ?_
   clear hM
   rintro Y27 hM
   refine tF 13 [.v 0 61 (pt P 66), .l 1 62 36 (pt P 66) (bkv s.va), .v 2 63 (pt X 8), .v 3 64 (pt X 10), .l 4 65 3 (pt X 10) (.int .i64 t.iv.ro), .a 5 66 (.int .i64 (IntKind.i64.wrap (2 * t.iv.ro))) (.int .i64 (2 * t.iv.ro)), .v 6 67 (pt X 8), .v 7 68 (pt X 12), .l 8 69 3 (pt X 12) (.int .i64 t.iv.re), .a 9 70 (.int .i64 (IntKind.i64.wrap (2 * t.iv.ro + t.iv.re))) (.int .i64 (slotS t.iv.ro t.iv.re : Nat)), .v 10 71 (pt X 15), .v 11 72 (pt X 15), .l 12 73 27 (pt X 15) (wn (amV t))] ⟨rld_va (s := s) hM.a2, ld_int hM.a1 10 rfl, cI (wrap_dbl (by omega)), ld_int hM.a1 12 rfl, cI (wrap_slot a1), ld_av hM.a1 ht, trivial⟩ ?_
   refine cF (some 74) _ _ ((refMore_any s.va hs.v a1 hn _).mono ?_)
   rintro e W1 ⟨rfl, hb⟩
   replace hM := hM.below hb
   clear hb
   refine tF 18 [.v 14 60 (.tuple #[bkv (gfq5 s t).1, .bool (decide ((gfq5 s t).2 = 0))]), .v 15 75 (bkv (gfq5 s t).1), .v 16 76 (.bool (decide ((gfq5 s t).2 = 0))), .v 17 77 (pt P 66)] trivial ?_
   refine sF _ _ _ (rsto_va (s := s) hM.a2 (gfq5 s t).1) ?_
   replace hM := hM.set 2 (cs' := stc (qfq5 s t) v) rfl rfl
   generalize World.setRow _ _ _ = Y28 at *
   refine tF 20 [.v 19 9 (.bool (decide ((gfq5 s t).2 = 0)))] trivial ?_
   refine eF ?_
   by_cases hq : (gfq5 s t).2 = 0
   case pos =>
    have h6 := Lib.hid hq
    clear hq
    go_upto_region 14 with fail
    refine wp_region_fromM _ hM ?_
    clear hM
    rintro Y29 hM
    refine tF 6 [.a 0 107 (.bool (decide ((gfq5 s t).2 = 0))) (.bool true), .v 1 108 (.bool false), .v 2 109 (.bool false), .v 3 110 (.bool true), .v 4 111 (.bool false), .v 5 112 (.bool false)] ⟨cB (decide_eq_true h6.out), trivial⟩ ?_
    refine eF ?_
    go_upto_region 16 with fail
    refine wp_region_fromM _ hM ?_
    clear hM
    rintro Y30 hM
    refine tF 2 [.l 0 114 39 (pt P 0) (stv (qfq5 s t) (v)), .v 1 115 (.int .i64 ((openE orcB s t).1 : Int))] ⟨rld_st (s := (qfq5 s t)) hM.a2, trivial⟩ ?_
    refine cF (some 116) 75 #[stv (qfq5 s t) (v), .int .i64 ((openE orcB s t).1 : Int), .int .i64 3] ((refEnded_any (qfq5 s t) v (openE orcB s t).1 3 HX.out _ (HL.out.below hM.b hhi) (Nat.le_trans hhi hM.size) (Nat.le_trans (Nat.mul_le_mul_right 40 (Nat.le_succ _)) hr)).mono ?_)
    rintro e W1 ⟨v1, rfl, hO, hb⟩
    have hkR := hM.a0.lt
    replace hM := hM.below hb
    clear hb
    have hO1 := OwnM.row hO (B := R) (fun k hk => by have := (World.ownsRow.lt hO k hk).1; omega) (stc (qfq5 s t) v1).toArray
    refine sF _ _ _ (rsto_st hM.a0 (stc_len _ _) (qfq5 s t) (OwnM.one hO).1) ?_
    replace hM := hM.set 0 (cs' := stc (qfq5 s t) v1) rfl rfl
    generalize World.setRow _ _ _ = Y31 at *
    refine tF 5 [.v 4 5 (.int .i64 0)] trivial ?_
    refine eF ?_
    have fin : RetE (canE orcB s t) w (.returned (.tuple #[stv (qfq5 s t) v1, .int .i64 0])) Y31 := RetE.ok (s'' := { s with va := (gfq5 s t).1, lk := endE s.lk (openE orcB s t).1 3 }) (by unfold canE; rw [if_neg (not_not_intro h1.out), if_neg (show ¬ (s.tm < t.vr.x ∧ s.sd = 1 ∧ orcB.sg t 2 = false) from fun e => h2.out e.1), if_neg (show ¬ (s.tm < t.vr.x ∧ s.sd ≠ 1 ∧ t.fr ≠ t.iv.ro) from fun e => h2.out e.1), if_pos h3.out, if_neg (not_not_intro h6.out)]) rfl (OwnM.one hO1).1 ((OwnM.rsl hO1).mono (Nat.zero_le _) (Nat.le_refl _)) hM.b
    go_wp2_with fail
    exact bodyPost_ret (v := .tuple #[stv (qfq5 s t) v1, .int .i64 0]) (res_two rfl _ rfl rfl (rlv_st hM.a0)) rfl fin
   have h6 := Lib.hid hq
   clear hq
   go_upto_region 14 with fail
   refine wp_region_fromM _ hM ?_
   clear hM
   rintro Y32 hM
   refine tF 6 [.a 0 107 (.bool (decide ((gfq5 s t).2 = 0))) (.bool false), .v 1 108 (.bool true), .v 2 109 (.bool true), .skip 3 (some 110), .skip 4 (some 111), .v 5 112 (.bool true)] ⟨cB (decide_eq_false h6.out), trivial⟩ ?_
   refine eF ?_
   go_upto_region 15 with fail
   refine wp_region_fromM _ hM ?_
   clear hM
   rintro Y33 hM
   refine tF 1 [.l 0 113 39 (pt P 0) (stv (qfq5 s t) (v))] ⟨rld_st (s := (qfq5 s t)) hM.a2, trivial⟩ ?_
   refine sF _ _ _ (rsto_st hM.a0 (stc_len _ _) (qfq5 s t) hv) ?_
   replace hM := hM.set 0 (cs' := stc (qfq5 s t) v) rfl rfl
   generalize World.setRow _ _ _ = Y34 at *
   refine tF 3 [.v 2 5 (.int .i64 38)] trivial ?_
   refine eF ?_
   have fin : RetE (canE orcB s t) w (.returned (.tuple #[stv (qfq5 s t) v, .int .i64 38])) Y34 := RetE.bad (by unfold canE; rw [if_neg (not_not_intro h1.out), if_neg (show ¬ (s.tm < t.vr.x ∧ s.sd = 1 ∧ orcB.sg t 2 = false) from fun e => h2.out e.1), if_neg (show ¬ (s.tm < t.vr.x ∧ s.sd ≠ 1 ∧ t.fr ≠ t.iv.ro) from fun e => h2.out e.1), if_pos h3.out, if_pos h6.out]) (by decide) hv hM.b
   go_wp2_with fail
   exact bodyPost_ret (v := .tuple #[stv (qfq5 s t) v, .int .i64 38]) (res_two rfl _ rfl rfl (rlv_st hM.a0)) rfl fin
  have h3 := Lib.hid hq
  clear hq
  by_cases hq : s.tm < t.vr.x
  case pos =>
   have h2 := Lib.hid hq
   clear hq
   by_cases hq : t.fr = t.iv.ro
   case pos =>
    have h4 := Lib.hid hq
    clear hq
    go_upto_region 5 with fail
    refine wp_region_fromM _ hM ?_
    clear hM
    rintro Y35 hM
    refine tF 8 [.a 0 29 (.bool (decide (s.tm < t.vr.x))) (.bool true), .v 1 30 (.bool true), .v 2 31 (pt P 0), .l 3 32 3 (pt P 0) (.int .i64 s.sd), .a 4 33 (.bool (s.sd == 1)) (.bool false), .v 5 34 (.bool false), .v 6 35 (.bool false), .skip 7 (some 36)] ⟨cB (decide_eq_true h2.out), ld_int hM.a2 0 rfl, cB (beq_eq_false_iff_ne.2 h3.out), trivial⟩ ?_
    refine tF 12 [.skip 8 (some 37), .skip 9 (some 38), .v 10 39 (.bool false), .v 11 28 (.bool false)] trivial ?_
    refine eF ?_
    go_upto_region 7 with fail
    refine wp_region_fromM _ hM ?_
    clear hM
    rintro Y36 hM
    refine tF 15 [.a 0 42 (.bool (decide (s.tm < t.vr.x))) (.bool true), .v 1 43 (.bool true), .v 2 44 (pt P 0), .l 3 45 3 (pt P 0) (.int .i64 s.sd), .a 4 46 (.bool (s.sd == 0)) (.bool true), .v 5 47 (.bool true), .v 6 48 (.bool true), .v 7 49 (pt X 0), .l 8 50 3 (pt X 0) (.int .i64 t.fr), .v 9 51 (pt X 8), .v 10 52 (pt X 10), .l 11 53 3 (pt X 10) (.int .i64 t.iv.ro), .a 12 54 (.bool (t.fr != t.iv.ro)) (.bool false), .v 13 55 (.bool false), .v 14 41 (.bool false)] ⟨cB (decide_eq_true h2.out), ld_int hM.a2 0 rfl, cB (beq_iff_eq.2 (by have := h3.out; have := hs.d; omega)), ld_int hM.a1 0 rfl, ld_int hM.a1 10 rfl, cB (by rw [h4.out]; exact bne_self_eq_false _), trivial⟩ ?_
    refine eF ?_
    go_upto_region 9 with fail
    refine wp_region_fromM _ hM ?_
    clear hM
    rintro Y37 hM
    refine tF 2 [.v 0 9 (.bool true), .v 1 10 (.bool true)] trivial ?_
    refine eF ?_
    go_upto_region 10 with fail
    refine wp_region_fromM _ hM ?_
    clear hM
    rintro Y38 hM
    refine tF 3 [.v 0 57 (pt P 0), .l 1 58 3 (pt P 0) (.int .i64 s.sd), .a 2 59 (.bool (s.sd == 1)) (.bool false)] ⟨ld_int hM.a2 0 rfl, cB (beq_eq_false_iff_ne.2 h3.out), trivial⟩ ?_
    refine eF ?_
    go_upto_region 12 with fail
    refine wp_region_fromM _ hM ?_
    clear hM
    rintro Y39 hM
    refine tF 13 [.v 0 79 (pt P 2), .l 1 80 36 (pt P 2) (bkv s.pu), .v 2 81 (pt X 8), .v 3 82 (pt X 8), .l 4 83 3 (pt X 8) (.int .i64 t.iv.us), .a 5 84 (.int .i64 (IntKind.i64.wrap (2 * t.iv.us))) (.int .i64 (2 * t.iv.us)), .v 6 85 (pt X 8), .v 7 86 (pt X 11), .l 8 87 3 (pt X 11) (.int .i64 t.iv.se), .a 9 88 (.int .i64 (IntKind.i64.wrap (2 * t.iv.us + t.iv.se))) (.int .i64 (slotS t.iv.us t.iv.se : Nat)), .v 10 89 (pt X 15), .v 11 90 (pt X 15), .l 12 91 27 (pt X 15) (wn (amV t))] ⟨rld_pu (s := s) hM.a2, ld_int hM.a1 8 rfl, cI (wrap_dbl (by omega)), ld_int hM.a1 11 rfl, cI (wrap_slot a2), ld_av hM.a1 ht, trivial⟩ ?_
    refine cF (some 92) _ _ ((refMore_any s.pu hs.p a2 hn _).mono ?_)
    rintro e W1 ⟨rfl, hb⟩
    replace hM := hM.below hb
    clear hb
    refine tF 18 [.v 14 78 (.tuple #[bkv (gfq6 s t).1, .bool (decide ((gfq6 s t).2 = 0))]), .v 15 93 (bkv (gfq6 s t).1), .v 16 94 (.bool (decide ((gfq6 s t).2 = 0))), .v 17 95 (pt P 2)] trivial ?_
    refine sF _ _ _ (rsto_pu (s := s) hM.a2 (gfq6 s t).1) ?_
    replace hM := hM.set 2 (cs' := stc (qfq6 s t) v) rfl rfl
    generalize World.setRow _ _ _ = Y40 at *
    refine tF 20 [.v 19 9 (.bool (decide ((gfq6 s t).2 = 0)))] trivial ?_
    refine eF ?_
    go_upto_region 13 with fail
    refine wp_region_fromM _ hM ?_
    clear hM
    rintro Y41 hM
    refine tF 7 [.l 0 97 39 (pt P 0) (stv (qfq6 s t) (v)), .v 1 98 (pt X 8), .v 2 99 (pt X 11), .l 3 100 3 (pt X 11) (.int .i64 t.iv.se), .v 4 101 (pt X 15), .v 5 102 (pt X 15), .l 6 103 27 (pt X 15) (wn (amV t))] ⟨rld_st (s := (qfq6 s t)) hM.a2, ld_int hM.a1 11 rfl, ld_av hM.a1 ht, trivial⟩ ?_
    refine cF (some 104) _ _ ((refHeldDown_any (qfq6 s t) v hse HS.out hn hv _).mono ?_)
    rintro e W1 ⟨rfl, hb⟩
    replace hM := hM.below hb
    clear hb
    refine tF 11 [.v 8 96 (.tuple #[stv (gfq4 s t).1 v, .bool (decide ((gfq4 s t).2 = 0))]), .v 9 105 (stv (gfq4 s t).1 v), .v 10 106 (.bool (decide ((gfq4 s t).2 = 0)))] trivial ?_
    refine sF _ _ _ (rsto_st hM.a2 (stc_len _ _) (gfq4 s t).1 hv) ?_
    replace hM := hM.set 2 (cs' := stc (gfq4 s t).1 v) rfl rfl
    generalize World.setRow _ _ _ = Y42 at *
    refine tF 13 [.v 12 10 (.bool (decide ((gfq4 s t).2 = 0)))] trivial ?_
    refine eF ?_
    by_cases hq : (gfq6 s t).2 = 0
    case pos =>
     have h6 := Lib.hid hq
     clear hq
     by_cases hq : amV t ≤ s.he t.iv.se.toNat
     case pos =>
      have h9 := Lib.hid hq
      clear hq
      have h8 : Hid ((gfq4 s t).2 = 0) := Lib.hid (give_sd (s := (qfq6 s t)) h9.out)
      go_upto_region 14 with fail
      refine wp_region_fromM _ hM ?_
      clear hM
      rintro Y43 hM
      refine tF 6 [.a 0 107 (.bool (decide ((gfq6 s t).2 = 0))) (.bool true), .v 1 108 (.bool false), .v 2 109 (.bool false), .a 3 110 (.bool (decide ((gfq4 s t).2 = 0))) (.bool true), .v 4 111 (.bool false), .v 5 112 (.bool false)] ⟨cB (decide_eq_true h6.out), cB (decide_eq_true h8.out), trivial⟩ ?_
      refine eF ?_
      rw [show (gfq4 s t).1 = (qfq2 s t) from congrArg Prod.fst (shrink_yes (s := (qfq6 s t)) h9.out)] at hM
      go_upto_region 16 with fail
      refine wp_region_fromM _ hM ?_
      clear hM
      rintro Y44 hM
      refine tF 2 [.l 0 114 39 (pt P 0) (stv (qfq2 s t) (v)), .v 1 115 (.int .i64 ((openE orcB s t).1 : Int))] ⟨rld_st (s := (qfq2 s t)) hM.a2, trivial⟩ ?_
      refine cF (some 116) 75 #[stv (qfq2 s t) (v), .int .i64 ((openE orcB s t).1 : Int), .int .i64 3] ((refEnded_any (qfq2 s t) v (openE orcB s t).1 3 HX.out _ (HL.out.below hM.b hhi) (Nat.le_trans hhi hM.size) (Nat.le_trans (Nat.mul_le_mul_right 40 (Nat.le_succ _)) hr)).mono ?_)
      rintro e W1 ⟨v1, rfl, hO, hb⟩
      have hkR := hM.a0.lt
      replace hM := hM.below hb
      clear hb
      have hO1 := OwnM.row hO (B := R) (fun k hk => by have := (World.ownsRow.lt hO k hk).1; omega) (stc (qfq2 s t) v1).toArray
      refine sF _ _ _ (rsto_st hM.a0 (stc_len _ _) (qfq2 s t) (OwnM.one hO).1) ?_
      replace hM := hM.set 0 (cs' := stc (qfq2 s t) v1) rfl rfl
      generalize World.setRow _ _ _ = Y45 at *
      refine tF 5 [.v 4 5 (.int .i64 0)] trivial ?_
      refine eF ?_
      have fin : RetE (canE orcB s t) w (.returned (.tuple #[stv (qfq2 s t) v1, .int .i64 0])) Y45 := RetE.ok (s'' := { s with pu := (gfq6 s t).1, he := updB s.he t.iv.se.toNat (s.he t.iv.se.toNat - amV t), lk := endE s.lk (openE orcB s t).1 3 }) (by unfold canE; rw [if_neg (not_not_intro h1.out), if_neg (show ¬ (s.tm < t.vr.x ∧ s.sd = 1 ∧ orcB.sg t 2 = false) from fun e => h3.out e.2.1), if_neg (show ¬ (s.tm < t.vr.x ∧ s.sd ≠ 1 ∧ t.fr ≠ t.iv.ro) from fun e => e.2.2 h4.out), if_neg h3.out, if_neg (fun e => e.elim (fun e => e h6.out) fun e => e h9.out)]) rfl (OwnM.one hO1).1 ((OwnM.rsl hO1).mono (Nat.zero_le _) (Nat.le_refl _)) hM.b
      go_wp2_with fail
      exact bodyPost_ret (v := .tuple #[stv (qfq2 s t) v1, .int .i64 0]) (res_two rfl _ rfl rfl (rlv_st hM.a0)) rfl fin
     have h9 := Lib.hid hq
     clear hq
     have h8 : Hid (¬ (gfq4 s t).2 = 0) := Lib.hid (give_sn (s := (qfq6 s t)) h9.out)
     go_upto_region 14 with fail
     refine wp_region_fromM _ hM ?_
     clear hM
     rintro Y46 hM
     refine tF 6 [.a 0 107 (.bool (decide ((gfq6 s t).2 = 0))) (.bool true), .v 1 108 (.bool false), .v 2 109 (.bool false), .a 3 110 (.bool (decide ((gfq4 s t).2 = 0))) (.bool false), .v 4 111 (.bool true), .v 5 112 (.bool true)] ⟨cB (decide_eq_true h6.out), cB (decide_eq_false h8.out), trivial⟩ ?_
     refine eF ?_
     go_upto_region 15 with fail
     refine wp_region_fromM _ hM ?_
     clear hM
     rintro Y47 hM
     refine tF 1 [.l 0 113 39 (pt P 0) (stv ((gfq4 s t).1) (v))] ⟨rld_st (s := (gfq4 s t).1) hM.a2, trivial⟩ ?_
     refine sF _ _ _ (rsto_st hM.a0 (stc_len _ _) ((gfq4 s t).1) hv) ?_
     replace hM := hM.set 0 (cs' := stc ((gfq4 s t).1) v) rfl rfl
     generalize World.setRow _ _ _ = Y48 at *
     refine tF 3 [.v 2 5 (.int .i64 38)] trivial ?_
     refine eF ?_
     have fin : RetE (canE orcB s t) w (.returned (.tuple #[stv ((gfq4 s t).1) v, .int .i64 38])) Y48 := RetE.bad (by unfold canE; rw [if_neg (not_not_intro h1.out), if_neg (show ¬ (s.tm < t.vr.x ∧ s.sd = 1 ∧ orcB.sg t 2 = false) from fun e => h3.out e.2.1), if_neg (show ¬ (s.tm < t.vr.x ∧ s.sd ≠ 1 ∧ t.fr ≠ t.iv.ro) from fun e => e.2.2 h4.out), if_neg h3.out, if_pos (.inr h9.out)]) (by decide) hv hM.b
     go_wp2_with fail
     exact bodyPost_ret (v := .tuple #[stv ((gfq4 s t).1) v, .int .i64 38]) (res_two rfl _ rfl rfl (rlv_st hM.a0)) rfl fin
    have h6 := Lib.hid hq
    clear hq
    go_upto_region 14 with fail
    refine wp_region_fromM _ hM ?_
    clear hM
    rintro Y49 hM
    refine tF 6 [.a 0 107 (.bool (decide ((gfq6 s t).2 = 0))) (.bool false), .v 1 108 (.bool true), .v 2 109 (.bool true), .skip 3 (some 110), .skip 4 (some 111), .v 5 112 (.bool true)] ⟨cB (decide_eq_false h6.out), trivial⟩ ?_
    refine eF ?_
    go_upto_region 15 with fail
    refine wp_region_fromM _ hM ?_
    clear hM
    rintro Y50 hM
    refine tF 1 [.l 0 113 39 (pt P 0) (stv ((gfq4 s t).1) (v))] ⟨rld_st (s := (gfq4 s t).1) hM.a2, trivial⟩ ?_
    refine sF _ _ _ (rsto_st hM.a0 (stc_len _ _) ((gfq4 s t).1) hv) ?_
    replace hM := hM.set 0 (cs' := stc ((gfq4 s t).1) v) rfl rfl
    generalize World.setRow _ _ _ = Y51 at *
    refine tF 3 [.v 2 5 (.int .i64 38)] trivial ?_
    refine eF ?_
    have fin : RetE (canE orcB s t) w (.returned (.tuple #[stv ((gfq4 s t).1) v, .int .i64 38])) Y51 := RetE.bad (by unfold canE; rw [if_neg (not_not_intro h1.out), if_neg (show ¬ (s.tm < t.vr.x ∧ s.sd = 1 ∧ orcB.sg t 2 = false) from fun e => h3.out e.2.1), if_neg (show ¬ (s.tm < t.vr.x ∧ s.sd ≠ 1 ∧ t.fr ≠ t.iv.ro) from fun e => e.2.2 h4.out), if_neg h3.out, if_pos (.inl h6.out)]) (by decide) hv hM.b
    go_wp2_with fail
    exact bodyPost_ret (v := .tuple #[stv ((gfq4 s t).1) v, .int .i64 38]) (res_two rfl _ rfl rfl (rlv_st hM.a0)) rfl fin
   have h4 := Lib.hid hq
   clear hq
   go_upto_region 5 with fail
   refine wp_region_fromM _ hM ?_
   clear hM
   rintro Y52 hM
   refine tF 8 [.a 0 29 (.bool (decide (s.tm < t.vr.x))) (.bool true), .v 1 30 (.bool true), .v 2 31 (pt P 0), .l 3 32 3 (pt P 0) (.int .i64 s.sd), .a 4 33 (.bool (s.sd == 1)) (.bool false), .v 5 34 (.bool false), .v 6 35 (.bool false), .skip 7 (some 36)] ⟨cB (decide_eq_true h2.out), ld_int hM.a2 0 rfl, cB (beq_eq_false_iff_ne.2 h3.out), trivial⟩ ?_
   refine tF 12 [.skip 8 (some 37), .skip 9 (some 38), .v 10 39 (.bool false), .v 11 28 (.bool false)] trivial ?_
   refine eF ?_
   go_upto_region 7 with fail
   refine wp_region_fromM _ hM ?_
   clear hM
   rintro Y53 hM
   refine tF 15 [.a 0 42 (.bool (decide (s.tm < t.vr.x))) (.bool true), .v 1 43 (.bool true), .v 2 44 (pt P 0), .l 3 45 3 (pt P 0) (.int .i64 s.sd), .a 4 46 (.bool (s.sd == 0)) (.bool true), .v 5 47 (.bool true), .v 6 48 (.bool true), .v 7 49 (pt X 0), .l 8 50 3 (pt X 0) (.int .i64 t.fr), .v 9 51 (pt X 8), .v 10 52 (pt X 10), .l 11 53 3 (pt X 10) (.int .i64 t.iv.ro), .a 12 54 (.bool (t.fr != t.iv.ro)) (.bool true), .v 13 55 (.bool true), .v 14 41 (.bool true)] ⟨cB (decide_eq_true h2.out), ld_int hM.a2 0 rfl, cB (beq_iff_eq.2 (by have := h3.out; have := hs.d; omega)), ld_int hM.a1 0 rfl, ld_int hM.a1 10 rfl, cB (bne_iff_ne.2 h4.out), trivial⟩ ?_
   refine eF ?_
   go_upto_region 8 with fail
   refine wp_region_fromM _ hM ?_
   clear hM
   rintro Y54 hM
   refine tF 1 [.l 0 56 39 (pt P 0) (stv (s) (v))] ⟨rld_st (s := s) hM.a2, trivial⟩ ?_
   refine sF _ _ _ (rsto_st hM.a0 (stc_len _ _) (s) hv) ?_
   replace hM := hM.set 0 (cs' := stc (s) v) rfl rfl
   generalize World.setRow _ _ _ = Y55 at *
   refine tF 3 [.v 2 5 (.int .i64 37)] trivial ?_
   refine eF ?_
   have fin : RetE (canE orcB s t) w (.returned (.tuple #[stv (s) v, .int .i64 37])) Y55 := RetE.bad (by unfold canE; rw [if_neg (not_not_intro h1.out), if_neg (show ¬ (s.tm < t.vr.x ∧ s.sd = 1 ∧ orcB.sg t 2 = false) from fun e => h3.out e.2.1), if_pos (show s.tm < t.vr.x ∧ s.sd ≠ 1 ∧ t.fr ≠ t.iv.ro from ⟨h2.out, h3.out, h4.out⟩)]) (by decide) hv hM.b
   go_wp2_with fail
   exact bodyPost_ret (v := .tuple #[stv (s) v, .int .i64 37]) (res_two rfl _ rfl rfl (rlv_st hM.a0)) rfl fin
  have h2 := Lib.hid hq
  clear hq
  go_upto_region 5 with fail
  refine wp_region_fromM _ hM ?_
  clear hM
  rintro Y56 hM
  refine tF 8 [.a 0 29 (.bool (decide (s.tm < t.vr.x))) (.bool false), .v 1 30 (.bool false), .skip 2 (some 31), .skip 3 (some 32), .skip 4 (some 33), .v 5 34 (.bool false), .v 6 35 (.bool false), .skip 7 (some 36)] ⟨cB (decide_eq_false h2.out), trivial⟩ ?_
  refine tF 12 [.skip 8 (some 37), .skip 9 (some 38), .v 10 39 (.bool false), .v 11 28 (.bool false)] trivial ?_
  refine eF ?_
  go_upto_region 7 with fail
  refine wp_region_fromM _ hM ?_
  clear hM
  rintro Y57 hM
  refine tF 15 [.a 0 42 (.bool (decide (s.tm < t.vr.x))) (.bool false), .v 1 43 (.bool false), .skip 2 (some 44), .skip 3 (some 45), .skip 4 (some 46), .v 5 47 (.bool false), .v 6 48 (.bool false), .skip 7 (some 49), .skip 8 (some 50), .skip 9 (some 51), .skip 10 (some 52), .skip 11 (some 53), .skip 12 (some 54), .v 13 55 (.bool false), .v 14 41 (.bool false)] ⟨cB (decide_eq_false h2.out), trivial⟩ ?_
  refine eF ?_
  go_upto_region 9 with fail
  refine wp_region_fromM _ hM ?_
  clear hM
  rintro Y58 hM
  refine tF 2 [.v 0 9 (.bool true), .v 1 10 (.bool true)] trivial ?_
  refine eF ?_
  go_upto_region 10 with fail
  refine wp_region_fromM _ hM ?_
  clear hM
  rintro Y59 hM
  refine tF 3 [.v 0 57 (pt P 0), .l 1 58 3 (pt P 0) (.int .i64 s.sd), .a 2 59 (.bool (s.sd == 1)) (.bool false)] ⟨ld_int hM.a2 0 rfl, cB (beq_eq_false_iff_ne.2 h3.out), trivial⟩ ?_
  refine eF ?_
  go_upto_region 12 with fail
  refine wp_region_fromM _ hM ?_
  clear hM
  rintro Y60 hM
  refine tF 13 [.v 0 79 (pt P 2), .l 1 80 36 (pt P 2) (bkv s.pu), .v 2 81 (pt X 8), .v 3 82 (pt X 8), .l 4 83 3 (pt X 8) (.int .i64 t.iv.us), .a 5 84 (.int .i64 (IntKind.i64.wrap (2 * t.iv.us))) (.int .i64 (2 * t.iv.us)), .v 6 85 (pt X 8), .v 7 86 (pt X 11), .l 8 87 3 (pt X 11) (.int .i64 t.iv.se), .a 9 88 (.int .i64 (IntKind.i64.wrap (2 * t.iv.us + t.iv.se))) (.int .i64 (slotS t.iv.us t.iv.se : Nat)), .v 10 89 (pt X 15), .v 11 90 (pt X 15), .l 12 91 27 (pt X 15) (wn (amV t))] ⟨rld_pu (s := s) hM.a2, ld_int hM.a1 8 rfl, cI (wrap_dbl (by omega)), ld_int hM.a1 11 rfl, cI (wrap_slot a2), ld_av hM.a1 ht, trivial⟩ ?_
  refine cF (some 92) _ _ ((refMore_any s.pu hs.p a2 hn _).mono ?_)
  rintro e W1 ⟨rfl, hb⟩
  replace hM := hM.below hb
  clear hb
  refine tF 18 [.v 14 78 (.tuple #[bkv (gfq6 s t).1, .bool (decide ((gfq6 s t).2 = 0))]), .v 15 93 (bkv (gfq6 s t).1), .v 16 94 (.bool (decide ((gfq6 s t).2 = 0))), .v 17 95 (pt P 2)] trivial ?_
  refine sF _ _ _ (rsto_pu (s := s) hM.a2 (gfq6 s t).1) ?_
  replace hM := hM.set 2 (cs' := stc (qfq6 s t) v) rfl rfl
  generalize World.setRow _ _ _ = Y61 at *
  refine tF 20 [.v 19 9 (.bool (decide ((gfq6 s t).2 = 0)))] trivial ?_
  refine eF ?_
  go_upto_region 13 with fail
  refine wp_region_fromM _ hM ?_
  clear hM
  rintro Y62 hM
  refine tF 7 [.l 0 97 39 (pt P 0) (stv (qfq6 s t) (v)), .v 1 98 (pt X 8), .v 2 99 (pt X 11), .l 3 100 3 (pt X 11) (.int .i64 t.iv.se), .v 4 101 (pt X 15), .v 5 102 (pt X 15), .l 6 103 27 (pt X 15) (wn (amV t))] ⟨rld_st (s := (qfq6 s t)) hM.a2, ld_int hM.a1 11 rfl, ld_av hM.a1 ht, trivial⟩ ?_
  refine cF (some 104) _ _ ((refHeldDown_any (qfq6 s t) v hse HS.out hn hv _).mono ?_)
  rintro e W1 ⟨rfl, hb⟩
  replace hM := hM.below hb
  clear hb
  refine tF 11 [.v 8 96 (.tuple #[stv (gfq4 s t).1 v, .bool (decide ((gfq4 s t).2 = 0))]), .v 9 105 (stv (gfq4 s t).1 v), .v 10 106 (.bool (decide ((gfq4 s t).2 = 0)))] trivial ?_
  refine sF _ _ _ (rsto_st hM.a2 (stc_len _ _) (gfq4 s t).1 hv) ?_
  replace hM := hM.set 2 (cs' := stc (gfq4 s t).1 v) rfl rfl
  generalize World.setRow _ _ _ = Y63 at *
  refine tF 13 [.v 12 10 (.bool (decide ((gfq4 s t).2 = 0)))] trivial ?_
  refine eF ?_
  by_cases hq : (gfq6 s t).2 = 0
  case pos =>
   have h6 := Lib.hid hq
   clear hq
   by_cases hq : amV t ≤ s.he t.iv.se.toNat
   case pos =>
    have h9 := Lib.hid hq
    clear hq
    have h8 : Hid ((gfq4 s t).2 = 0) := Lib.hid (give_sd (s := (qfq6 s t)) h9.out)
    go_upto_region 14 with fail
    refine wp_region_fromM _ hM ?_
    clear hM
    rintro Y64 hM
    refine tF 6 [.a 0 107 (.bool (decide ((gfq6 s t).2 = 0))) (.bool true), .v 1 108 (.bool false), .v 2 109 (.bool false), .a 3 110 (.bool (decide ((gfq4 s t).2 = 0))) (.bool true), .v 4 111 (.bool false), .v 5 112 (.bool false)] ⟨cB (decide_eq_true h6.out), cB (decide_eq_true h8.out), trivial⟩ ?_
    refine eF ?_
    rw [show (gfq4 s t).1 = (qfq2 s t) from congrArg Prod.fst (shrink_yes (s := (qfq6 s t)) h9.out)] at hM
    go_upto_region 16 with fail
    refine wp_region_fromM _ hM ?_
    clear hM
    rintro Y65 hM
    refine tF 2 [.l 0 114 39 (pt P 0) (stv (qfq2 s t) (v)), .v 1 115 (.int .i64 ((openE orcB s t).1 : Int))] ⟨rld_st (s := (qfq2 s t)) hM.a2, trivial⟩ ?_
    refine cF (some 116) 75 #[stv (qfq2 s t) (v), .int .i64 ((openE orcB s t).1 : Int), .int .i64 3] ((refEnded_any (qfq2 s t) v (openE orcB s t).1 3 HX.out _ (HL.out.below hM.b hhi) (Nat.le_trans hhi hM.size) (Nat.le_trans (Nat.mul_le_mul_right 40 (Nat.le_succ _)) hr)).mono ?_)
    rintro e W1 ⟨v1, rfl, hO, hb⟩
    have hkR := hM.a0.lt
    replace hM := hM.below hb
    clear hb
    have hO1 := OwnM.row hO (B := R) (fun k hk => by have := (World.ownsRow.lt hO k hk).1; omega) (stc (qfq2 s t) v1).toArray
    refine sF _ _ _ (rsto_st hM.a0 (stc_len _ _) (qfq2 s t) (OwnM.one hO).1) ?_
    replace hM := hM.set 0 (cs' := stc (qfq2 s t) v1) rfl rfl
    generalize World.setRow _ _ _ = Y66 at *
    refine tF 5 [.v 4 5 (.int .i64 0)] trivial ?_
    refine eF ?_
    have fin : RetE (canE orcB s t) w (.returned (.tuple #[stv (qfq2 s t) v1, .int .i64 0])) Y66 := RetE.ok (s'' := { s with pu := (gfq6 s t).1, he := updB s.he t.iv.se.toNat (s.he t.iv.se.toNat - amV t), lk := endE s.lk (openE orcB s t).1 3 }) (by unfold canE; rw [if_neg (not_not_intro h1.out), if_neg (show ¬ (s.tm < t.vr.x ∧ s.sd = 1 ∧ orcB.sg t 2 = false) from fun e => h2.out e.1), if_neg (show ¬ (s.tm < t.vr.x ∧ s.sd ≠ 1 ∧ t.fr ≠ t.iv.ro) from fun e => h2.out e.1), if_neg h3.out, if_neg (fun e => e.elim (fun e => e h6.out) fun e => e h9.out)]) rfl (OwnM.one hO1).1 ((OwnM.rsl hO1).mono (Nat.zero_le _) (Nat.le_refl _)) hM.b
    go_wp2_with fail
    exact bodyPost_ret (v := .tuple #[stv (qfq2 s t) v1, .int .i64 0]) (res_two rfl _ rfl rfl (rlv_st hM.a0)) rfl fin
   have h9 := Lib.hid hq
   clear hq
   have h8 : Hid (¬ (gfq4 s t).2 = 0) := Lib.hid (give_sn (s := (qfq6 s t)) h9.out)
   go_upto_region 14 with fail
   refine wp_region_fromM _ hM ?_
   clear hM
   rintro Y67 hM
   refine tF 6 [.a 0 107 (.bool (decide ((gfq6 s t).2 = 0))) (.bool true), .v 1 108 (.bool false), .v 2 109 (.bool false), .a 3 110 (.bool (decide ((gfq4 s t).2 = 0))) (.bool false), .v 4 111 (.bool true), .v 5 112 (.bool true)] ⟨cB (decide_eq_true h6.out), cB (decide_eq_false h8.out), trivial⟩ ?_
   refine eF ?_
   go_upto_region 15 with fail
   refine wp_region_fromM _ hM ?_
   clear hM
   rintro Y68 hM
   refine tF 1 [.l 0 113 39 (pt P 0) (stv ((gfq4 s t).1) (v))] ⟨rld_st (s := (gfq4 s t).1) hM.a2, trivial⟩ ?_
   refine sF _ _ _ (rsto_st hM.a0 (stc_len _ _) ((gfq4 s t).1) hv) ?_
   replace hM := hM.set 0 (cs' := stc ((gfq4 s t).1) v) rfl rfl
   generalize World.setRow _ _ _ = Y69 at *
   refine tF 3 [.v 2 5 (.int .i64 38)] trivial ?_
   refine eF ?_
   have fin : RetE (canE orcB s t) w (.returned (.tuple #[stv ((gfq4 s t).1) v, .int .i64 38])) Y69 := RetE.bad (by unfold canE; rw [if_neg (not_not_intro h1.out), if_neg (show ¬ (s.tm < t.vr.x ∧ s.sd = 1 ∧ orcB.sg t 2 = false) from fun e => h2.out e.1), if_neg (show ¬ (s.tm < t.vr.x ∧ s.sd ≠ 1 ∧ t.fr ≠ t.iv.ro) from fun e => h2.out e.1), if_neg h3.out, if_pos (.inr h9.out)]) (by decide) hv hM.b
   go_wp2_with fail
   exact bodyPost_ret (v := .tuple #[stv ((gfq4 s t).1) v, .int .i64 38]) (res_two rfl _ rfl rfl (rlv_st hM.a0)) rfl fin
  have h6 := Lib.hid hq
  clear hq
  go_upto_region 14 with fail
  refine wp_region_fromM _ hM ?_
  clear hM
  rintro Y70 hM
  refine tF 6 [.a 0 107 (.bool (decide ((gfq6 s t).2 = 0))) (.bool false), .v 1 108 (.bool true), .v 2 109 (.bool true), .skip 3 (some 110), .skip 4 (some 111), .v 5 112 (.bool true)] ⟨cB (decide_eq_false h6.out), trivial⟩ ?_
  refine eF ?_
  go_upto_region 15 with fail
  refine wp_region_fromM _ hM ?_
  clear hM
  rintro Y71 hM
  refine tF 1 [.l 0 113 39 (pt P 0) (stv ((gfq4 s t).1) (v))] ⟨rld_st (s := (gfq4 s t).1) hM.a2, trivial⟩ ?_
  refine sF _ _ _ (rsto_st hM.a0 (stc_len _ _) ((gfq4 s t).1) hv) ?_
  replace hM := hM.set 0 (cs' := stc ((gfq4 s t).1) v) rfl rfl
  generalize World.setRow _ _ _ = Y72 at *
  refine tF 3 [.v 2 5 (.int .i64 38)] trivial ?_
  refine eF ?_
  have fin : RetE (canE orcB s t) w (.returned (.tuple #[stv ((gfq4 s t).1) v, .int .i64 38])) Y72 := RetE.bad (by unfold canE; rw [if_neg (not_not_intro h1.out), if_neg (show ¬ (s.tm < t.vr.x ∧ s.sd = 1 ∧ orcB.sg t 2 = false) from fun e => h2.out e.1), if_neg (show ¬ (s.tm < t.vr.x ∧ s.sd ≠ 1 ∧ t.fr ≠ t.iv.ro) from fun e => h2.out e.1), if_neg h3.out, if_pos (.inl h6.out)]) (by decide) hv hM.b
  go_wp2_with fail
  exact bodyPost_ret (v := .tuple #[stv ((gfq4 s t).1) v, .int .i64 38]) (res_two rfl _ rfl rfl (rlv_st hM.a0)) rfl fin
 have h1 := Lib.hid hq
 clear hq
 go_upto_region 3 with fail
 refine wp_region_fromM _ hM ?_
 clear hM
 rintro Y73 hM
 refine tF 3 [.v 0 24 (.int .i64 (openE orcB s t).2), .a 1 25 (.bool ((openE orcB s t).2 != 0)) (.bool true), .v 2 23 (.bool true)] ⟨cB (bne_iff_ne.2 h1.out), trivial⟩ ?_
 refine eF ?_
 go_upto_region 4 with fail
 refine wp_region_fromM _ hM ?_
 clear hM
 rintro Y74 hM
 refine tF 2 [.l 0 26 39 (pt P 0) (stv (s) (v)), .v 1 27 (.int .i64 (openE orcB s t).2)] ⟨rld_st (s := s) hM.a2, trivial⟩ ?_
 refine sF _ _ _ (rsto_st hM.a0 (stc_len _ _) (s) hv) ?_
 replace hM := hM.set 0 (cs' := stc (s) v) rfl rfl
 generalize World.setRow _ _ _ = Y75 at *
 refine tF 4 [.v 3 5 (.int .i64 (openE orcB s t).2)] trivial ?_
 refine eF ?_
 have fin : RetE (canE orcB s t) w (.returned (.tuple #[stv (s) v, .int .i64 (openE orcB s t).2])) Y75 := RetE.bad (by unfold canE; rw [if_pos h1.out]) (h1.out) hv hM.b
 go_wp2_with fail
 exact bodyPost_ret (v := .tuple #[stv (s) v, .int .i64 (openE orcB s t).2]) (res_two rfl _ rfl rfl (rlv_st hM.a0)) rfl fin
end Go.Proofs.YthhmdgmmeedhdaaGreat
namespace Go.Proofs.YthhmdgmmeedhdaaGreat
open Go.RowKit Go.Shelf
attribute [local irreducible] wpFrom
abbrev qfr1 (s : Es) (t : Tr) : Es := { s with pu := (takeB s.pu t.fr t.az (amT t)).1, va := (giveB s.va t.iv.ro t.az (amT t)).1, he := updB s.he t.az.toNat (s.he t.az.toNat + amT t) }
abbrev qfr2 (s : Es) (t : Tr) : Es := { s with va := (takeB s.va t.fr t.az (amT t)).1, pu := (giveB s.pu t.fr t.az (amT t)).1, he := updB s.he t.az.toNat (s.he t.az.toNat - amT t) }
abbrev qfr3 (s : Es) (t : Tr) : Es := { s with pu := (takeB s.pu t.fr t.az (amT t)).1, va := (giveB s.va t.iv.ro t.az (amT t)).1 }
abbrev qfr4 (s : Es) (t : Tr) : Es := { s with va := (takeB s.va t.fr t.az (amT t)).1, pu := (giveB s.pu t.fr t.az (amT t)).1 }
abbrev qfr5 (s : Es) (t : Tr) : Es := { s with pu := (giveB (takeB s.pu t.fr t.az (amT t)).1 t.iv.to t.az (amT t)).1 }
abbrev qfr6 (s : Es) (t : Tr) : Es := { s with pu := (takeB s.pu t.fr t.az (amT t)).1 }
abbrev gfr1 (s : Es) (t : Tr) := giveB (takeB s.pu t.fr t.az (amT t)).1 t.iv.to t.az (amT t)
abbrev gfr2 (s : Es) (t : Tr) := shrinkE (qfr4 s t) t.az.toNat (amT t)
abbrev gfr3 (s : Es) (t : Tr) := growE (qfr3 s t) t.az.toNat (amT t)
abbrev gfr4 (s : Es) (t : Tr) := takeB s.pu t.fr t.az (amT t)
abbrev gfr5 (s : Es) (t : Tr) := takeB s.va t.fr t.az (amT t)
set_option maxRecDepth 100000 in
set_option maxHeartbeats 4000000 in
theorem refPlain_esc (s : Es) (v : Value) (hs : OkE s) (t : Tr) (ht : OkT t) (he : errT t = 0) (w : World) {lo hi : Nat} (hl : RSl lkc lo hi w v s.lk) (hhi : hi ≤ w.heap.size) :
  Calls Tryz.prog 38 #[stv s v, txv t] w (RetE (plainE s t) w) := by
 have hmx : Tryz.prog.follows .mixedOrders = true := by kernel_rfl
 have hv := hl.one
 have HL := Lib.hid hl
 obtain ⟨hkd, hfr, _, haz, hm, _⟩ := errT_all he
 have hn : amT t < M4 := val_lt ht.a
 have HZ := Lib.hid (okE_he hs haz.1 haz.2)
 have a1 : atS t.fr t.az := ⟨by omega, by omega⟩
 clear hl
 have hM := Mem.start w
 go_enter Tryz.func38, Tryz.ntmps38
 go_upto_region 0 with fail
 refine wp_region_fromM (fun W => Mem w none [] W) hM ?_
 clear hM
 rintro Y1 hM
 refine rF (some 2) (pt Y1.heap.size 0) (Y1.alloc (.cells (stc s v).toArray 39)) ?_
 replace hM := hM.alloc 39 (stc s v)
 generalize World.alloc _ _ = Y2 at *
 generalize hNe : Y1.heap.size = P at *
 clear hNe
 refine rF (some 3) (pt Y2.heap.size 0) (Y2.alloc (.cells (txc t).toArray 50)) ?_
 replace hM := hM.alloc 50 (txc t)
 generalize World.alloc _ _ = Y3 at *
 generalize hNe : Y2.heap.size = X at *
 clear hNe
 refine rF (some 4) (pt Y3.heap.size 0) (Y3.alloc (.cells (stc zS nilV).toArray 39)) ?_
 replace hM := hM.alloc 39 (stc zS nilV)
 generalize World.alloc _ _ = Y4 at *
 generalize hNe : Y3.heap.size = R at *
 clear hNe
 refine tF 4 [.v 3 5 (.int .i64 0)] trivial ?_
 refine eF ?_
 go_upto_region 1 with fail
 refine wp_region_fromM _ hM ?_
 clear hM
 rintro Y5 hM
 refine tF 2 [.v 0 6 (.bool true), .v 1 7 (.bool true)] trivial ?_
 refine eF ?_
 go_upto_region 2 with fail
 refine wp_region_fromM _ hM ?_
 clear hM
 rintro Y6 hM
 refine tF 7 [.v 0 9 (pt X 0), .l 1 10 3 (pt X 0) (.int .i64 t.fr), .a 2 11 (.int .i64 (IntKind.i64.wrap (2 * t.fr))) (.int .i64 (2 * t.fr)), .v 3 12 (pt X 3), .l 4 13 3 (pt X 3) (.int .i64 t.az), .a 5 14 (.int .i64 (IntKind.i64.wrap (2 * t.fr + t.az))) (.int .i64 (slotS t.fr t.az : Nat)), .v 6 8 (.int .i64 (slotS t.fr t.az : Nat))] ⟨ld_int hM.a1 0 rfl, cI (wrap_dbl (by omega)), ld_int hM.a1 3 rfl, cI (wrap_slot a1), trivial⟩ ?_
 refine eF ?_
 go_upto_region 3 with fail
 refine wp_region_fromM _ hM ?_
 clear hM
 rintro Y7 hM
 refine tF 2 [.v 0 15 (pt X 2), .l 1 16 3 (pt X 2) (.int .i64 t.kd)] ⟨ld_int hM.a1 2 rfl, trivial⟩ ?_
 refine eF ?_
 by_cases hq : t.kd = 1
 case pos =>
  have h1 := Lib.hid hq
  clear hq
  go_upto_region 11 with fail
  refine wp_region_fromM _ hM ?_
  clear hM
  rintro Y8 hM
  refine tF 2 [.a 0 59 (.bool (t.kd == 1)) (.bool true), .v 1 58 (.bool true)] ⟨cB (beq_iff_eq.2 h1.out), trivial⟩ ?_
  refine eF ?_
  have tt := errM_to (hm (by have := h1.out; omega)) h1.out
  have a2 : atS t.iv.to t.az := ⟨by omega, by omega⟩
  go_upto_region 12 with fail
  refine wp_region_fromM _ hM ?_
  clear hM
  rintro Y9 hM
  refine tF 5 [.v 0 61 (pt P 2), .l 1 62 36 (pt P 2) (bkv s.pu), .v 2 63 (.int .i64 (slotS t.fr t.az : Nat)), .v 3 64 (pt X 4), .l 4 65 27 (pt X 4) (wn (amT t))] ⟨rld_pu (s := s) hM.a2, ld_am hM.a1 ht, trivial⟩ ?_
  refine cF (some 66) _ _ ((refLess_any s.pu hs.p a1 hn _).mono ?_)
  rintro e W1 ⟨rfl, hb⟩
  replace hM := hM.below hb
  clear hb
  refine tF 10 [.v 6 60 (.tuple #[bkv (gfr4 s t).1, .bool (decide ((gfr4 s t).2 = 0))]), .v 7 67 (bkv (gfr4 s t).1), .v 8 68 (.bool (decide ((gfr4 s t).2 = 0))), .v 9 69 (pt P 2)] trivial ?_
  refine sF _ _ _ (rsto_pu (s := s) hM.a2 (gfr4 s t).1) ?_
  replace hM := hM.set 2 (cs' := stc (qfr6 s t) v) rfl rfl
  generalize World.setRow _ _ _ = Y10 at *
  refine tF 12 [.v 11 6 (.bool (decide ((gfr4 s t).2 = 0)))] trivial ?_
  refine eF ?_
  by_cases hq : (gfr4 s t).2 = 0
  case pos =>
   have h2 := Lib.hid hq
   clear hq
   go_upto_region 13 with fail
   refine wp_region_fromM _ hM ?_
   clear hM
   rintro Y11 hM
   refine tF 2 [.a 0 70 (.bool (decide ((gfr4 s t).2 = 0))) (.bool true), .v 1 71 (.bool false)] ⟨cB (decide_eq_true h2.out), trivial⟩ ?_
   refine eF ?_
   go_upto_region 15 with fail
   refine wp_region_fromM _ hM ?_
   clear hM
   rintro Y12 hM
   refine tF 11 [.v 0 74 (pt P 2), .l 1 75 36 (pt P 2) (bkv ((gfr4 s t).1)), .v 2 76 (pt X 8), .v 3 77 (pt X 13), .l 4 78 3 (pt X 13) (.int .i64 t.iv.to), .a 5 79 (.int .i64 (IntKind.i64.wrap (2 * t.iv.to))) (.int .i64 (2 * t.iv.to)), .v 6 80 (pt X 3), .l 7 81 3 (pt X 3) (.int .i64 t.az), .a 8 82 (.int .i64 (IntKind.i64.wrap (2 * t.iv.to + t.az))) (.int .i64 (slotS t.iv.to t.az : Nat)), .v 9 83 (pt X 4), .l 10 84 27 (pt X 4) (wn (amT t))] ⟨rld_pu (s := (qfr6 s t)) hM.a2, ld_int hM.a1 13 rfl, cI (wrap_dbl (by omega)), ld_int hM.a1 3 rfl, cI (wrap_slot a2), ld_am hM.a1 ht, trivial⟩ ?_
   refine cF (some 85) 74 #[bkv ((gfr4 s t).1), .int .i64 (slotS t.iv.to t.az : Nat), wn (amT t)] ((refMore_any (gfr4 s t).1 (okK_take hs.p _ _ _) a2 hn _).mono ?_)
   rintro e W1 ⟨rfl, hb⟩
   replace hM := hM.below hb
   clear hb
   refine tF 16 [.v 12 73 (.tuple #[bkv (gfr1 s t).1, .bool (decide ((gfr1 s t).2 = 0))]), .v 13 86 (bkv (gfr1 s t).1), .v 14 87 (.bool (decide ((gfr1 s t).2 = 0))), .v 15 88 (pt P 2)] trivial ?_
   refine sF _ _ _ (rsto_pu (s := (qfr6 s t)) hM.a2 (gfr1 s t).1) ?_
   replace hM := hM.set 2 (cs' := stc (qfr5 s t) v) rfl rfl
   generalize World.setRow _ _ _ = Y13 at *
   refine tF 18 [.v 17 6 (.bool (decide ((gfr1 s t).2 = 0)))] trivial ?_
   refine eF ?_
   by_cases hq : (gfr1 s t).2 = 0
   case pos =>
    have h3 := Lib.hid hq
    clear hq
    go_upto_region 22 with fail
    refine wp_region_fromM _ hM ?_
    clear hM
    rintro Y14 hM
    refine tF 6 [.a 0 129 (.bool (decide ((gfr1 s t).2 = 0))) (.bool true), .v 1 130 (.bool false), .v 2 131 (.bool false), .v 3 132 (.bool true), .v 4 133 (.bool false), .v 5 134 (.bool false)] ⟨cB (decide_eq_true h3.out), trivial⟩ ?_
    refine eF ?_
    go_upto_region 24 with fail
    refine wp_region_fromM _ hM ?_
    clear hM
    rintro Y15 hM
    refine tF 1 [.l 0 136 39 (pt P 0) (stv (qfr5 s t) (v))] ⟨rld_st (s := (qfr5 s t)) hM.a2, trivial⟩ ?_
    refine sF _ _ _ (rsto_st hM.a0 (stc_len _ _) (qfr5 s t) hv) ?_
    replace hM := hM.set 0 (cs' := stc (qfr5 s t) v) rfl rfl
    generalize World.setRow _ _ _ = Y16 at *
    refine tF 3 [.v 2 5 (.int .i64 0)] trivial ?_
    refine eF ?_
    have fin : RetE (plainE s t) w (.returned (.tuple #[stv (qfr5 s t) v, .int .i64 0])) Y16 := RetE.ok (s'' := (qfr5 s t)) (by unfold plainE; rw [if_pos h1.out, if_neg (not_not_intro h2.out), if_neg (not_not_intro h3.out)]) rfl hv (HL.out.all hhi hM.b) hM.b
    go_wp2_with fail
    exact bodyPost_ret (v := .tuple #[stv (qfr5 s t) v, .int .i64 0]) (res_two rfl _ rfl rfl (rlv_st hM.a0)) rfl fin
   have h3 := Lib.hid hq
   clear hq
   go_upto_region 22 with fail
   refine wp_region_fromM _ hM ?_
   clear hM
   rintro Y17 hM
   refine tF 6 [.a 0 129 (.bool (decide ((gfr1 s t).2 = 0))) (.bool false), .v 1 130 (.bool true), .v 2 131 (.bool true), .skip 3 (some 132), .skip 4 (some 133), .v 5 134 (.bool true)] ⟨cB (decide_eq_false h3.out), trivial⟩ ?_
   refine eF ?_
   go_upto_region 23 with fail
   refine wp_region_fromM _ hM ?_
   clear hM
   rintro Y18 hM
   refine tF 1 [.l 0 135 39 (pt P 0) (stv (qfr5 s t) (v))] ⟨rld_st (s := (qfr5 s t)) hM.a2, trivial⟩ ?_
   refine sF _ _ _ (rsto_st hM.a0 (stc_len _ _) (qfr5 s t) hv) ?_
   replace hM := hM.set 0 (cs' := stc (qfr5 s t) v) rfl rfl
   generalize World.setRow _ _ _ = Y19 at *
   refine tF 3 [.v 2 5 (.int .i64 38)] trivial ?_
   refine eF ?_
   have fin : RetE (plainE s t) w (.returned (.tuple #[stv (qfr5 s t) v, .int .i64 38])) Y19 := RetE.bad (by unfold plainE; rw [if_pos h1.out, if_neg (not_not_intro h2.out), if_pos h3.out]) (by decide) hv hM.b
   go_wp2_with fail
   exact bodyPost_ret (v := .tuple #[stv (qfr5 s t) v, .int .i64 38]) (res_two rfl _ rfl rfl (rlv_st hM.a0)) rfl fin
  have h2 := Lib.hid hq
  clear hq
  go_upto_region 13 with fail
  refine wp_region_fromM _ hM ?_
  clear hM
  rintro Y20 hM
  refine tF 2 [.a 0 70 (.bool (decide ((gfr4 s t).2 = 0))) (.bool false), .v 1 71 (.bool true)] ⟨cB (decide_eq_false h2.out), trivial⟩ ?_
  refine eF ?_
  go_upto_region 14 with fail
  refine wp_region_fromM _ hM ?_
  clear hM
  rintro Y21 hM
  refine tF 1 [.l 0 72 39 (pt P 0) (stv (qfr6 s t) (v))] ⟨rld_st (s := (qfr6 s t)) hM.a2, trivial⟩ ?_
  refine sF _ _ _ (rsto_st hM.a0 (stc_len _ _) (qfr6 s t) hv) ?_
  replace hM := hM.set 0 (cs' := stc (qfr6 s t) v) rfl rfl
  generalize World.setRow _ _ _ = Y22 at *
  refine tF 3 [.v 2 5 (.int .i64 30)] trivial ?_
  refine eF ?_
  have fin : RetE (plainE s t) w (.returned (.tuple #[stv (qfr6 s t) v, .int .i64 30])) Y22 := RetE.bad (by unfold plainE; rw [if_pos h1.out, if_pos h2.out]) (by decide) hv hM.b
  go_wp2_with fail
  exact bodyPost_ret (v := .tuple #[stv (qfr6 s t) v, .int .i64 30]) (res_two rfl _ rfl rfl (rlv_st hM.a0)) rfl fin
 have h1 := Lib.hid hq
 clear hq
 by_cases hq : t.kd = 2
 case pos =>
  have h2 := Lib.hid hq
  clear hq
  go_upto_region 11 with fail
  refine wp_region_fromM _ hM ?_
  clear hM
  rintro Y23 hM
  refine tF 2 [.a 0 59 (.bool (t.kd == 1)) (.bool false), .v 1 58 (.bool false)] ⟨cB (beq_eq_false_iff_ne.2 h1.out), trivial⟩ ?_
  refine eF ?_
  go_upto_region 16 with fail
  refine wp_region_fromM _ hM ?_
  clear hM
  rintro Y24 hM
  refine tF 2 [.a 0 90 (.bool (t.kd == 2)) (.bool true), .v 1 89 (.bool true)] ⟨cB (beq_iff_eq.2 h2.out), trivial⟩ ?_
  refine eF ?_
  have rr := errM_ro (hm (by have := h2.out; omega)) h2.out
  have a2 : atS t.iv.ro t.az := ⟨by omega, by omega⟩
  go_upto_region 17 with fail
  refine wp_region_fromM _ hM ?_
  clear hM
  rintro Y25 hM
  refine tF 5 [.v 0 92 (pt P 2), .l 1 93 36 (pt P 2) (bkv s.pu), .v 2 94 (.int .i64 (slotS t.fr t.az : Nat)), .v 3 95 (pt X 4), .l 4 96 27 (pt X 4) (wn (amT t))] ⟨rld_pu (s := s) hM.a2, ld_am hM.a1 ht, trivial⟩ ?_
  refine cF (some 97) _ _ ((refLess_any s.pu hs.p a1 hn _).mono ?_)
  rintro e W1 ⟨rfl, hb⟩
  replace hM := hM.below hb
  clear hb
  refine tF 10 [.v 6 91 (.tuple #[bkv (gfr4 s t).1, .bool (decide ((gfr4 s t).2 = 0))]), .v 7 98 (bkv (gfr4 s t).1), .v 8 99 (.bool (decide ((gfr4 s t).2 = 0))), .v 9 100 (pt P 2)] trivial ?_
  refine sF _ _ _ (rsto_pu (s := s) hM.a2 (gfr4 s t).1) ?_
  replace hM := hM.set 2 (cs' := stc (qfr6 s t) v) rfl rfl
  generalize World.setRow _ _ _ = Y26 at *
  refine tF 12 [.v 11 6 (.bool (decide ((gfr4 s t).2 = 0)))] trivial ?_
  refine eF ?_
  by_cases hq : (gfr4 s t).2 = 0
  case pos =>
   have h3 := Lib.hid hq
   clear hq
   go_upto_region 18 with fail
   refine wp_region_fromM _ hM ?_
   clear hM
   rintro Y27 hM
   refine tF 2 [.a 0 101 (.bool (decide ((gfr4 s t).2 = 0))) (.bool true), .v 1 102 (.bool false)] ⟨cB (decide_eq_true h3.out), trivial⟩ ?_
   refine eF ?_
   go_upto_region 20 with fail
   refine wp_region_fromM _ hM ?_
   clear hM
   rintro Y28 hM
   refine tF 11 [.v 0 105 (pt P 66), .l 1 106 36 (pt P 66) (bkv s.va), .v 2 107 (pt X 8), .v 3 108 (pt X 10), .l 4 109 3 (pt X 10) (.int .i64 t.iv.ro), .a 5 110 (.int .i64 (IntKind.i64.wrap (2 * t.iv.ro))) (.int .i64 (2 * t.iv.ro)), .v 6 111 (pt X 3), .l 7 112 3 (pt X 3) (.int .i64 t.az), .a 8 113 (.int .i64 (IntKind.i64.wrap (2 * t.iv.ro + t.az))) (.int .i64 (slotS t.iv.ro t.az : Nat)), .v 9 114 (pt X 4), .l 10 115 27 (pt X 4) (wn (amT t))] ⟨rld_va (s := (qfr6 s t)) hM.a2, ld_int hM.a1 10 rfl, cI (wrap_dbl (by omega)), ld_int hM.a1 3 rfl, cI (wrap_slot a2), ld_am hM.a1 ht, trivial⟩ ?_
   refine cF (some 116) _ _ ((refMore_any s.va hs.v a2 hn _).mono ?_)
   rintro e W1 ⟨rfl, hb⟩
   replace hM := hM.below hb
   clear hb
   refine tF 16 [.v 12 104 (.tuple #[bkv (giveB s.va t.iv.ro t.az (amT t)).1, .bool (decide ((giveB s.va t.iv.ro t.az (amT t)).2 = 0))]), .v 13 117 (bkv (giveB s.va t.iv.ro t.az (amT t)).1), .v 14 118 (.bool (decide ((giveB s.va t.iv.ro t.az (amT t)).2 = 0))), .v 15 119 (pt P 66)] trivial ?_
   refine sF _ _ _ (rsto_va (s := (qfr6 s t)) hM.a2 (giveB s.va t.iv.ro t.az (amT t)).1) ?_
   replace hM := hM.set 2 (cs' := stc (qfr3 s t) v) rfl rfl
   generalize World.setRow _ _ _ = Y29 at *
   refine tF 18 [.v 17 6 (.bool (decide ((giveB s.va t.iv.ro t.az (amT t)).2 = 0)))] trivial ?_
   refine eF ?_
   go_upto_region 21 with fail
   refine wp_region_fromM _ hM ?_
   clear hM
   rintro Y30 hM
   refine tF 5 [.l 0 121 39 (pt P 0) (stv (qfr3 s t) (v)), .v 1 122 (pt X 3), .l 2 123 3 (pt X 3) (.int .i64 t.az), .v 3 124 (pt X 4), .l 4 125 27 (pt X 4) (wn (amT t))] ⟨rld_st (s := (qfr3 s t)) hM.a2, ld_int hM.a1 3 rfl, ld_am hM.a1 ht, trivial⟩ ?_
   refine cF (some 126) _ _ ((refHeldUp_any (qfr3 s t) v haz HZ.out hn hv _).mono ?_)
   rintro e W1 ⟨rfl, hb⟩
   replace hM := hM.below hb
   clear hb
   refine tF 9 [.v 6 120 (.tuple #[stv (gfr3 s t).1 v, .bool (decide ((gfr3 s t).2 = 0))]), .v 7 127 (stv (gfr3 s t).1 v), .v 8 128 (.bool (decide ((gfr3 s t).2 = 0)))] trivial ?_
   refine sF _ _ _ (rsto_st hM.a2 (stc_len _ _) (gfr3 s t).1 hv) ?_
   replace hM := hM.set 2 (cs' := stc (gfr3 s t).1 v) rfl rfl
   generalize World.setRow _ _ _ = Y31 at *
   refine tF 11 [.v 10 7 (.bool (decide ((gfr3 s t).2 = 0)))] trivial ?_
   refine eF ?_
   by_cases hq : (giveB s.va t.iv.ro t.az (amT t)).2 = 0
   case pos =>
    have h4 := Lib.hid hq
    clear hq
    by_cases hq : s.he t.az.toNat + amT t < M4
    case pos =>
     have h5 := Lib.hid hq
     clear hq
     have h6 : Hid ((gfr3 s t).2 = 0) := Lib.hid (grow_sd (s := (qfr3 s t)) h5.out)
     go_upto_region 22 with fail
     refine wp_region_fromM _ hM ?_
     clear hM
     rintro Y32 hM
     refine tF 6 [.a 0 129 (.bool (decide ((giveB s.va t.iv.ro t.az (amT t)).2 = 0))) (.bool true), .v 1 130 (.bool false), .v 2 131 (.bool false), .a 3 132 (.bool (decide ((gfr3 s t).2 = 0))) (.bool true), .v 4 133 (.bool false), .v 5 134 (.bool false)] ⟨cB (decide_eq_true h4.out), cB (decide_eq_true h6.out), trivial⟩ ?_
     refine eF ?_
     rw [show (gfr3 s t).1 = (qfr1 s t) from congrArg Prod.fst (grow_yes (s := (qfr3 s t)) h5.out)] at hM
     go_upto_region 24 with fail
     refine wp_region_fromM _ hM ?_
     clear hM
     rintro Y33 hM
     refine tF 1 [.l 0 136 39 (pt P 0) (stv (qfr1 s t) (v))] ⟨rld_st (s := (qfr1 s t)) hM.a2, trivial⟩ ?_
     refine sF _ _ _ (rsto_st hM.a0 (stc_len _ _) (qfr1 s t) hv) ?_
     replace hM := hM.set 0 (cs' := stc (qfr1 s t) v) rfl rfl
     generalize World.setRow _ _ _ = Y34 at *
     refine tF 3 [.v 2 5 (.int .i64 0)] trivial ?_
     refine eF ?_
     have fin : RetE (plainE s t) w (.returned (.tuple #[stv (qfr1 s t) v, .int .i64 0])) Y34 := RetE.ok (s'' := (qfr1 s t)) (by unfold plainE; rw [if_neg h1.out, if_pos h2.out, if_neg (not_not_intro h3.out), if_neg (fun e => e.elim (fun e => e h4.out) fun e => e h5.out)]) rfl hv (HL.out.all hhi hM.b) hM.b
     go_wp2_with fail
     exact bodyPost_ret (v := .tuple #[stv (qfr1 s t) v, .int .i64 0]) (res_two rfl _ rfl rfl (rlv_st hM.a0)) rfl fin
    have h5 := Lib.hid hq
    clear hq
    have h6 : Hid (¬ (gfr3 s t).2 = 0) := Lib.hid (grow_sn (s := (qfr3 s t)) h5.out)
    go_upto_region 22 with fail
    refine wp_region_fromM _ hM ?_
    clear hM
    rintro Y35 hM
    refine tF 6 [.a 0 129 (.bool (decide ((giveB s.va t.iv.ro t.az (amT t)).2 = 0))) (.bool true), .v 1 130 (.bool false), .v 2 131 (.bool false), .a 3 132 (.bool (decide ((gfr3 s t).2 = 0))) (.bool false), .v 4 133 (.bool true), .v 5 134 (.bool true)] ⟨cB (decide_eq_true h4.out), cB (decide_eq_false h6.out), trivial⟩ ?_
    refine eF ?_
    go_upto_region 23 with fail
    refine wp_region_fromM _ hM ?_
    clear hM
    rintro Y36 hM
    refine tF 1 [.l 0 135 39 (pt P 0) (stv ((gfr3 s t).1) (v))] ⟨rld_st (s := (gfr3 s t).1) hM.a2, trivial⟩ ?_
    refine sF _ _ _ (rsto_st hM.a0 (stc_len _ _) ((gfr3 s t).1) hv) ?_
    replace hM := hM.set 0 (cs' := stc ((gfr3 s t).1) v) rfl rfl
    generalize World.setRow _ _ _ = Y37 at *
    refine tF 3 [.v 2 5 (.int .i64 38)] trivial ?_
    refine eF ?_
    have fin : RetE (plainE s t) w (.returned (.tuple #[stv ((gfr3 s t).1) v, .int .i64 38])) Y37 := RetE.bad (by unfold plainE; rw [if_neg h1.out, if_pos h2.out, if_neg (not_not_intro h3.out), if_pos (.inr h5.out)]) (by decide) hv hM.b
    go_wp2_with fail
    exact bodyPost_ret (v := .tuple #[stv ((gfr3 s t).1) v, .int .i64 38]) (res_two rfl _ rfl rfl (rlv_st hM.a0)) rfl fin
   have h4 := Lib.hid hq
   clear hq
   go_upto_region 22 with fail
   refine wp_region_fromM _ hM ?_
   clear hM
   rintro Y38 hM
   refine tF 6 [.a 0 129 (.bool (decide ((giveB s.va t.iv.ro t.az (amT t)).2 = 0))) (.bool false), .v 1 130 (.bool true), .v 2 131 (.bool true), .skip 3 (some 132), .skip 4 (some 133), .v 5 134 (.bool true)] ⟨cB (decide_eq_false h4.out), trivial⟩ ?_
   refine eF ?_
   go_upto_region 23 with fail
   refine wp_region_fromM _ hM ?_
   clear hM
   rintro Y39 hM
   refine tF 1 [.l 0 135 39 (pt P 0) (stv ((gfr3 s t).1) (v))] ⟨rld_st (s := (gfr3 s t).1) hM.a2, trivial⟩ ?_
   refine sF _ _ _ (rsto_st hM.a0 (stc_len _ _) ((gfr3 s t).1) hv) ?_
   replace hM := hM.set 0 (cs' := stc ((gfr3 s t).1) v) rfl rfl
   generalize World.setRow _ _ _ = Y40 at *
   refine tF 3 [.v 2 5 (.int .i64 38)] trivial ?_
   refine eF ?_
   have fin : RetE (plainE s t) w (.returned (.tuple #[stv ((gfr3 s t).1) v, .int .i64 38])) Y40 := RetE.bad (by unfold plainE; rw [if_neg h1.out, if_pos h2.out, if_neg (not_not_intro h3.out), if_pos (.inl h4.out)]) (by decide) hv hM.b
   go_wp2_with fail
   exact bodyPost_ret (v := .tuple #[stv ((gfr3 s t).1) v, .int .i64 38]) (res_two rfl _ rfl rfl (rlv_st hM.a0)) rfl fin
  have h3 := Lib.hid hq
  clear hq
  go_upto_region 18 with fail
  refine wp_region_fromM _ hM ?_
  clear hM
  rintro Y41 hM
  refine tF 2 [.a 0 101 (.bool (decide ((gfr4 s t).2 = 0))) (.bool false), .v 1 102 (.bool true)] ⟨cB (decide_eq_false h3.out), trivial⟩ ?_
  refine eF ?_
  go_upto_region 19 with fail
  refine wp_region_fromM _ hM ?_
  clear hM
  rintro Y42 hM
  refine tF 1 [.l 0 103 39 (pt P 0) (stv (qfr6 s t) (v))] ⟨rld_st (s := (qfr6 s t)) hM.a2, trivial⟩ ?_
  refine sF _ _ _ (rsto_st hM.a0 (stc_len _ _) (qfr6 s t) hv) ?_
  replace hM := hM.set 0 (cs' := stc (qfr6 s t) v) rfl rfl
  generalize World.setRow _ _ _ = Y43 at *
  refine tF 3 [.v 2 5 (.int .i64 30)] trivial ?_
  refine eF ?_
  have fin : RetE (plainE s t) w (.returned (.tuple #[stv (qfr6 s t) v, .int .i64 30])) Y43 := RetE.bad (by unfold plainE; rw [if_neg h1.out, if_pos h2.out, if_pos h3.out]) (by decide) hv hM.b
  go_wp2_with fail
  exact bodyPost_ret (v := .tuple #[stv (qfr6 s t) v, .int .i64 30]) (res_two rfl _ rfl rfl (rlv_st hM.a0)) rfl fin
 have h2 := Lib.hid hq
 clear hq
 go_upto_region 11 with fail
 refine wp_region_fromM _ hM ?_
 clear hM
 rintro Y44 hM
 refine tF 2 [.a 0 59 (.bool (t.kd == 1)) (.bool false), .v 1 58 (.bool false)] ⟨cB (beq_eq_false_iff_ne.2 h1.out), trivial⟩ ?_
 refine eF ?_
 go_upto_region 16 with fail
 refine wp_region_fromM _ hM ?_
 clear hM
 rintro Y45 hM
 refine tF 2 [.a 0 90 (.bool (t.kd == 2)) (.bool false), .v 1 89 (.bool false)] ⟨cB (beq_eq_false_iff_ne.2 h2.out), trivial⟩ ?_
 refine eF ?_
 by_cases hq : 2 ≤ t.fr ∧ t.fr ≤ 3
 case pos =>
  have h7 := Lib.hid hq
  clear hq
  go_upto_region 4 with fail
  refine wp_region_fromM _ hM ?_
  clear hM
  rintro Y46 hM
  refine tF 8 [.v 0 17 (pt X 0), .l 1 18 3 (pt X 0) (.int .i64 t.fr), .a 2 19 (.bool (decide (t.fr < 2))) (.bool false), .v 3 20 (.bool false), .v 4 21 (pt X 0), .l 5 22 3 (pt X 0) (.int .i64 t.fr), .a 6 23 (.bool (decide (t.fr > 3))) (.bool false), .v 7 24 (.bool false)] ⟨ld_int hM.a1 0 rfl, cB (decide_eq_false (by have := h7.out; omega)), ld_int hM.a1 0 rfl, cB (decide_eq_false (by have := h7.out; omega)), trivial⟩ ?_
  refine eF ?_
  go_upto_region 6 with fail
  refine wp_region_fromM _ hM ?_
  clear hM
  rintro Y47 hM
  refine tF 5 [.v 0 27 (pt P 66), .l 1 28 36 (pt P 66) (bkv s.va), .v 2 29 (.int .i64 (slotS t.fr t.az : Nat)), .v 3 30 (pt X 4), .l 4 31 27 (pt X 4) (wn (amT t))] ⟨rld_va (s := s) hM.a2, ld_am hM.a1 ht, trivial⟩ ?_
  refine cF (some 32) _ _ ((refLess_any s.va hs.v a1 hn _).mono ?_)
  rintro e W1 ⟨rfl, hb⟩
  replace hM := hM.below hb
  clear hb
  refine tF 10 [.v 6 26 (.tuple #[bkv (gfr5 s t).1, .bool (decide ((gfr5 s t).2 = 0))]), .v 7 33 (bkv (gfr5 s t).1), .v 8 34 (.bool (decide ((gfr5 s t).2 = 0))), .v 9 35 (pt P 66)] trivial ?_
  refine sF _ _ _ (rsto_va (s := s) hM.a2 (gfr5 s t).1) ?_
  replace hM := hM.set 2 (cs' := stc ({ s with va := (gfr5 s t).1 }) v) rfl rfl
  generalize World.setRow _ _ _ = Y48 at *
  refine tF 12 [.v 11 6 (.bool (decide ((gfr5 s t).2 = 0)))] trivial ?_
  refine eF ?_
  by_cases hq : (gfr5 s t).2 = 0
  case pos =>
   have h3 := Lib.hid hq
   clear hq
   go_upto_region 7 with fail
   refine wp_region_fromM _ hM ?_
   clear hM
   rintro Y49 hM
   refine tF 2 [.a 0 36 (.bool (decide ((gfr5 s t).2 = 0))) (.bool true), .v 1 37 (.bool false)] ⟨cB (decide_eq_true h3.out), trivial⟩ ?_
   refine eF ?_
   go_upto_region 9 with fail
   refine wp_region_fromM _ hM ?_
   clear hM
   rintro Y50 hM
   refine tF 5 [.v 0 40 (pt P 2), .l 1 41 36 (pt P 2) (bkv s.pu), .v 2 42 (.int .i64 (slotS t.fr t.az : Nat)), .v 3 43 (pt X 4), .l 4 44 27 (pt X 4) (wn (amT t))] ⟨rld_pu (s := { s with va := (gfr5 s t).1 }) hM.a2, ld_am hM.a1 ht, trivial⟩ ?_
   refine cF (some 45) _ _ ((refMore_any s.pu hs.p a1 hn _).mono ?_)
   rintro e W1 ⟨rfl, hb⟩
   replace hM := hM.below hb
   clear hb
   refine tF 10 [.v 6 39 (.tuple #[bkv (giveB s.pu t.fr t.az (amT t)).1, .bool (decide ((giveB s.pu t.fr t.az (amT t)).2 = 0))]), .v 7 46 (bkv (giveB s.pu t.fr t.az (amT t)).1), .v 8 47 (.bool (decide ((giveB s.pu t.fr t.az (amT t)).2 = 0))), .v 9 48 (pt P 2)] trivial ?_
   refine sF _ _ _ (rsto_pu (s := { s with va := (gfr5 s t).1 }) hM.a2 (giveB s.pu t.fr t.az (amT t)).1) ?_
   replace hM := hM.set 2 (cs' := stc (qfr4 s t) v) rfl rfl
   generalize World.setRow _ _ _ = Y51 at *
   refine tF 12 [.v 11 6 (.bool (decide ((giveB s.pu t.fr t.az (amT t)).2 = 0)))] trivial ?_
   refine eF ?_
   go_upto_region 10 with fail
   refine wp_region_fromM _ hM ?_
   clear hM
   rintro Y52 hM
   refine tF 5 [.l 0 50 39 (pt P 0) (stv (qfr4 s t) (v)), .v 1 51 (pt X 3), .l 2 52 3 (pt X 3) (.int .i64 t.az), .v 3 53 (pt X 4), .l 4 54 27 (pt X 4) (wn (amT t))] ⟨rld_st (s := (qfr4 s t)) hM.a2, ld_int hM.a1 3 rfl, ld_am hM.a1 ht, trivial⟩ ?_
   refine cF (some 55) _ _ ((refHeldDown_any (qfr4 s t) v haz HZ.out hn hv _).mono ?_)
   rintro e W1 ⟨rfl, hb⟩
   replace hM := hM.below hb
   clear hb
   refine tF 9 [.v 6 49 (.tuple #[stv (gfr2 s t).1 v, .bool (decide ((gfr2 s t).2 = 0))]), .v 7 56 (stv (gfr2 s t).1 v), .v 8 57 (.bool (decide ((gfr2 s t).2 = 0)))] trivial ?_
   refine sF _ _ _ (rsto_st hM.a2 (stc_len _ _) (gfr2 s t).1 hv) ?_
   replace hM := hM.set 2 (cs' := stc (gfr2 s t).1 v) rfl rfl
   generalize World.setRow _ _ _ = Y53 at *
   refine tF 11 [.v 10 7 (.bool (decide ((gfr2 s t).2 = 0)))] trivial ?_
   refine eF ?_
   by_cases hq : (giveB s.pu t.fr t.az (amT t)).2 = 0
   case pos =>
    have h4 := Lib.hid hq
    clear hq
    by_cases hq : amT t ≤ s.he t.az.toNat
    case pos =>
     have h5 := Lib.hid hq
     clear hq
     have h6 : Hid ((gfr2 s t).2 = 0) := Lib.hid (give_sd (s := (qfr4 s t)) h5.out)
     go_upto_region 22 with fail
     refine wp_region_fromM _ hM ?_
     clear hM
     rintro Y54 hM
     refine tF 6 [.a 0 129 (.bool (decide ((giveB s.pu t.fr t.az (amT t)).2 = 0))) (.bool true), .v 1 130 (.bool false), .v 2 131 (.bool false), .a 3 132 (.bool (decide ((gfr2 s t).2 = 0))) (.bool true), .v 4 133 (.bool false), .v 5 134 (.bool false)] ⟨cB (decide_eq_true h4.out), cB (decide_eq_true h6.out), trivial⟩ ?_
     refine eF ?_
     rw [show (gfr2 s t).1 = (qfr2 s t) from congrArg Prod.fst (shrink_yes (s := (qfr4 s t)) h5.out)] at hM
     go_upto_region 24 with fail
     refine wp_region_fromM _ hM ?_
     clear hM
     rintro Y55 hM
     refine tF 1 [.l 0 136 39 (pt P 0) (stv (qfr2 s t) (v))] ⟨rld_st (s := (qfr2 s t)) hM.a2, trivial⟩ ?_
     refine sF _ _ _ (rsto_st hM.a0 (stc_len _ _) (qfr2 s t) hv) ?_
     replace hM := hM.set 0 (cs' := stc (qfr2 s t) v) rfl rfl
     generalize World.setRow _ _ _ = Y56 at *
     refine tF 3 [.v 2 5 (.int .i64 0)] trivial ?_
     refine eF ?_
     have fin : RetE (plainE s t) w (.returned (.tuple #[stv (qfr2 s t) v, .int .i64 0])) Y56 := RetE.ok (s'' := (qfr2 s t)) (by unfold plainE; rw [if_neg h1.out, if_neg h2.out, if_neg (not_not_intro h7.out), if_neg (not_not_intro h3.out), if_neg (fun e => e.elim (fun e => e h4.out) fun e => e h5.out)]) rfl hv (HL.out.all hhi hM.b) hM.b
     go_wp2_with fail
     exact bodyPost_ret (v := .tuple #[stv (qfr2 s t) v, .int .i64 0]) (res_two rfl _ rfl rfl (rlv_st hM.a0)) rfl fin
    have h5 := Lib.hid hq
    clear hq
    have h6 : Hid (¬ (gfr2 s t).2 = 0) := Lib.hid (give_sn (s := (qfr4 s t)) h5.out)
    go_upto_region 22 with fail
    refine wp_region_fromM _ hM ?_
    clear hM
    rintro Y57 hM
    refine tF 6 [.a 0 129 (.bool (decide ((giveB s.pu t.fr t.az (amT t)).2 = 0))) (.bool true), .v 1 130 (.bool false), .v 2 131 (.bool false), .a 3 132 (.bool (decide ((gfr2 s t).2 = 0))) (.bool false), .v 4 133 (.bool true), .v 5 134 (.bool true)] ⟨cB (decide_eq_true h4.out), cB (decide_eq_false h6.out), trivial⟩ ?_
    refine eF ?_
    go_upto_region 23 with fail
    refine wp_region_fromM _ hM ?_
    clear hM
    rintro Y58 hM
    refine tF 1 [.l 0 135 39 (pt P 0) (stv ((gfr2 s t).1) (v))] ⟨rld_st (s := (gfr2 s t).1) hM.a2, trivial⟩ ?_
    refine sF _ _ _ (rsto_st hM.a0 (stc_len _ _) ((gfr2 s t).1) hv) ?_
    replace hM := hM.set 0 (cs' := stc ((gfr2 s t).1) v) rfl rfl
    generalize World.setRow _ _ _ = Y59 at *
    refine tF 3 [.v 2 5 (.int .i64 38)] trivial ?_
    refine eF ?_
    have fin : RetE (plainE s t) w (.returned (.tuple #[stv ((gfr2 s t).1) v, .int .i64 38])) Y59 := RetE.bad (by unfold plainE; rw [if_neg h1.out, if_neg h2.out, if_neg (not_not_intro h7.out), if_neg (not_not_intro h3.out), if_pos (.inr h5.out)]) (by decide) hv hM.b
    go_wp2_with fail
    exact bodyPost_ret (v := .tuple #[stv ((gfr2 s t).1) v, .int .i64 38]) (res_two rfl _ rfl rfl (rlv_st hM.a0)) rfl fin
   have h4 := Lib.hid hq
   clear hq
   go_upto_region 22 with fail
   refine wp_region_fromM _ hM ?_
   clear hM
   rintro Y60 hM
   refine tF 6 [.a 0 129 (.bool (decide ((giveB s.pu t.fr t.az (amT t)).2 = 0))) (.bool false), .v 1 130 (.bool true), .v 2 131 (.bool true), .skip 3 (some 132), .skip 4 (some 133), .v 5 134 (.bool true)] ⟨cB (decide_eq_false h4.out), trivial⟩ ?_
   refine eF ?_
   go_upto_region 23 with fail
   refine wp_region_fromM _ hM ?_
   clear hM
   rintro Y61 hM
   refine tF 1 [.l 0 135 39 (pt P 0) (stv ((gfr2 s t).1) (v))] ⟨rld_st (s := (gfr2 s t).1) hM.a2, trivial⟩ ?_
   refine sF _ _ _ (rsto_st hM.a0 (stc_len _ _) ((gfr2 s t).1) hv) ?_
   replace hM := hM.set 0 (cs' := stc ((gfr2 s t).1) v) rfl rfl
   generalize World.setRow _ _ _ = Y62 at *
   refine tF 3 [.v 2 5 (.int .i64 38)] trivial ?_
   refine eF ?_
   have fin : RetE (plainE s t) w (.returned (.tuple #[stv ((gfr2 s t).1) v, .int .i64 38])) Y62 := RetE.bad (by unfold plainE; rw [if_neg h1.out, if_neg h2.out, if_neg (not_not_intro h7.out), if_neg (not_not_intro h3.out), if_pos (.inl h4.out)]) (by decide) hv hM.b
   go_wp2_with fail
   exact bodyPost_ret (v := .tuple #[stv ((gfr2 s t).1) v, .int .i64 38]) (res_two rfl _ rfl rfl (rlv_st hM.a0)) rfl fin
  have h3 := Lib.hid hq
  clear hq
  go_upto_region 7 with fail
  refine wp_region_fromM _ hM ?_
  clear hM
  rintro Y63 hM
  refine tF 2 [.a 0 36 (.bool (decide ((gfr5 s t).2 = 0))) (.bool false), .v 1 37 (.bool true)] ⟨cB (decide_eq_false h3.out), trivial⟩ ?_
  refine eF ?_
  go_upto_region 8 with fail
  refine wp_region_fromM _ hM ?_
  clear hM
  rintro Y64 hM
  refine tF 1 [.l 0 38 39 (pt P 0) (stv ({ s with va := (gfr5 s t).1 }) (v))] ⟨rld_st (s := { s with va := (gfr5 s t).1 }) hM.a2, trivial⟩ ?_
  refine sF _ _ _ (rsto_st hM.a0 (stc_len _ _) ({ s with va := (gfr5 s t).1 }) hv) ?_
  replace hM := hM.set 0 (cs' := stc ({ s with va := (gfr5 s t).1 }) v) rfl rfl
  generalize World.setRow _ _ _ = Y65 at *
  refine tF 3 [.v 2 5 (.int .i64 31)] trivial ?_
  refine eF ?_
  have fin : RetE (plainE s t) w (.returned (.tuple #[stv ({ s with va := (gfr5 s t).1 }) v, .int .i64 31])) Y65 := RetE.bad (by unfold plainE; rw [if_neg h1.out, if_neg h2.out, if_neg (not_not_intro h7.out), if_pos h3.out]) (by decide) hv hM.b
  go_wp2_with fail
  exact bodyPost_ret (v := .tuple #[stv ({ s with va := (gfr5 s t).1 }) v, .int .i64 31]) (res_two rfl _ rfl rfl (rlv_st hM.a0)) rfl fin
 have h8 := Lib.hid hq
 clear hq
 by_cases hq : t.fr < 2
 case pos =>
  have h7 : Hid (t.fr < 2) := Lib.hid (by have := h8.out; omega)
  clear hq
  go_upto_region 4 with fail
  refine wp_region_fromM _ hM ?_
  clear hM
  rintro Y66 hM
  refine tF 8 [.v 0 17 (pt X 0), .l 1 18 3 (pt X 0) (.int .i64 t.fr), .a 2 19 (.bool (decide (t.fr < 2))) (.bool true), .v 3 20 (.bool true), .skip 4 (some 21), .skip 5 (some 22), .skip 6 (some 23), .v 7 24 (.bool true)] ⟨ld_int hM.a1 0 rfl, cB (decide_eq_true (by have := h7.out; omega)), trivial⟩ ?_
  refine eF ?_
  go_upto_region 5 with fail
  refine wp_region_fromM _ hM ?_
  clear hM
  rintro Y67 hM
  refine tF 1 [.l 0 25 39 (pt P 0) (stv (s) (v))] ⟨rld_st (s := s) hM.a2, trivial⟩ ?_
  refine sF _ _ _ (rsto_st hM.a0 (stc_len _ _) (s) hv) ?_
  replace hM := hM.set 0 (cs' := stc (s) v) rfl rfl
  generalize World.setRow _ _ _ = Y68 at *
  refine tF 3 [.v 2 5 (.int .i64 37)] trivial ?_
  refine eF ?_
  have fin : RetE (plainE s t) w (.returned (.tuple #[stv (s) v, .int .i64 37])) Y68 := RetE.bad (by unfold plainE; rw [if_neg h1.out, if_neg h2.out, if_pos h8.out]) (by decide) hv hM.b
  go_wp2_with fail
  exact bodyPost_ret (v := .tuple #[stv (s) v, .int .i64 37]) (res_two rfl _ rfl rfl (rlv_st hM.a0)) rfl fin
 have h7 : Hid (t.fr > 3) := Lib.hid (by have := h8.out; omega)
 clear hq
 go_upto_region 4 with fail
 refine wp_region_fromM _ hM ?_
 clear hM
 rintro Y69 hM
 refine tF 8 [.v 0 17 (pt X 0), .l 1 18 3 (pt X 0) (.int .i64 t.fr), .a 2 19 (.bool (decide (t.fr < 2))) (.bool false), .v 3 20 (.bool false), .v 4 21 (pt X 0), .l 5 22 3 (pt X 0) (.int .i64 t.fr), .a 6 23 (.bool (decide (t.fr > 3))) (.bool true), .v 7 24 (.bool true)] ⟨ld_int hM.a1 0 rfl, cB (decide_eq_false (by have := h7.out; omega)), ld_int hM.a1 0 rfl, cB (decide_eq_true (by have := h7.out; omega)), trivial⟩ ?_
 refine eF ?_
 go_upto_region 5 with fail
 refine wp_region_fromM _ hM ?_
 clear hM
 rintro Y70 hM
 refine tF 1 [.l 0 25 39 (pt P 0) (stv (s) (v))] ⟨rld_st (s := s) hM.a2, trivial⟩ ?_
 refine sF _ _ _ (rsto_st hM.a0 (stc_len _ _) (s) hv) ?_
 replace hM := hM.set 0 (cs' := stc (s) v) rfl rfl
 generalize World.setRow _ _ _ = Y71 at *
 refine tF 3 [.v 2 5 (.int .i64 37)] trivial ?_
 refine eF ?_
 have fin : RetE (plainE s t) w (.returned (.tuple #[stv (s) v, .int .i64 37])) Y71 := RetE.bad (by unfold plainE; rw [if_neg h1.out, if_neg h2.out, if_pos h8.out]) (by decide) hv hM.b
 go_wp2_with fail
 exact bodyPost_ret (v := .tuple #[stv (s) v, .int .i64 37]) (res_two rfl _ rfl rfl (rlv_st hM.a0)) rfl fin
end Go.Proofs.YthhmdgmmeedhdaaGreat
