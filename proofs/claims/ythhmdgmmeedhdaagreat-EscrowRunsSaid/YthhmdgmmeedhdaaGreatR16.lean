/-
  The page: a transaction is applied; What all readings of arguments share; A wide number among the arguments is four words; A number and a text have one cell each; Sizes within an argument; A transfer, and a side's data, among the arguments; A transaction among the arguments; A slice of structs among the arguments; A side's state, and a row of transactions, or of numbers, among the arguments
-/
import Derived.Test.YthhmdgmmeedhdaaGreatRows
import Derived.ProofKit
import Derived.OpenShut
import Derived.Laws.IdiomArrays
import Derived.Lib.SmallJoins
import Derived.Below
import Derived.Deep.Slices
import Derived.SizedLaws
import Derived.Carry
import Derived.ChangeMaps5
import Derived.JoinedCond
import Derived.Deep.Fields
import Derived.Test.YthhmdgmmeedhdaaGreatR15
namespace Go.Proofs.YthhmdgmmeedhdaaGreat
open Go.RowKit Go.Shelf
attribute [local irreducible] wpFrom
theorem RetE.yes {p : Es × Int} {w W' : World} {e : Ending} (h : RetE p w e W') (h0 : p.2 = 0) : ∃ v', e = .returned (.tuple #[stv p.1 v', .int .i64 0]) ∧ v'.oneCell' = true ∧ RSl lkc 0 W'.heap.size W' v' p.1.lk ∧ Below w.heap.size w W' := by
 obtain ⟨s', v', h1, h2, h3, h4⟩ := h
 have k := h3 h0
 rw [k.1, h0] at h1
 exact ⟨v', h1, h2, k.2, h4⟩
theorem RetE.no {p : Es × Int} {w W' : World} {e : Ending} (h : RetE p w e W') (_ : p.2 ≠ 0) : ∃ s' v', e = .returned (.tuple #[stv s' v', .int .i64 p.2]) ∧ v'.oneCell' = true ∧ Below w.heap.size w W' := by
 obtain ⟨s', v', h1, h2, _, h4⟩ := h
 exact ⟨s', v', h1, h2, h4⟩
def RApplyR (p : Es × Int × Bool) (w : World) (e : Ending) (W' : World) : Prop := ∃ v', e = .returned (.tuple #[stv p.1 v', .int .i64 p.2.1, .bool p.2.2]) ∧ v'.oneCell' = true ∧ RSl lkc 0 W'.heap.size W' v' p.1.lk ∧ Below w.heap.size w W'
theorem RApplyR.of {p : Es × Int × Bool} {w W' : World} {s' : Es} {v' : Value} {c : Int} {b : Bool} (hp : p = (s', c, b)) (hv : v'.oneCell' = true) (hl : RSl lkc 0 W'.heap.size W' v' s'.lk) (hb : Below w.heap.size w W') : RApplyR p w (.returned (.tuple #[stv s' v', .int .i64 c, .bool b])) W' := by
 subst hp
 exact ⟨v', rfl, hv, hl, hb⟩
theorem res_rap {fn : Func} {p q r : Tmp} (h : fn.results = #[.cell p 39, .tmp q, .tmp r]) (tmps : Array Value) {w : World} {g : Nat} {T : TypeId} {s : Es} {v a b : Value} (hp : tmps.getD p undef = .pointer (some ⟨g, 0, none⟩)) (hq : tmps.getD q undef = a) (hr : tmps.getD r undef = b) (hg : Blk w g T (stc s v)) :
  (results fn tmps).run Tryz.prog w = .ok (.tuple #[stv s v, a, b]) w := by
 have hp' : tmps[p]?.getD undef = .pointer (some ⟨g, 0, none⟩) := by simpa using hp
 have hq' : tmps[q]?.getD undef = a := by simpa using hq
 have hr' : tmps[r]?.getD undef = b := by simpa using hr
 simp [results, h, hp', hq', hr', asAddr, rlv_st hg]
theorem paid_is {s : Es} {t : Tr} (h : 0 ≤ t.fr ∧ t.fr ≤ 7) (h3 : 1 ≤ s.pu (2 * t.fr.toNat)) : { s with pu := (takeB s.pu t.fr 0 1).1, bu := s.bu + 1, no := updNo s.no t.fr.toNat (s.no t.fr.toNat + 1) } = paidE s t := by
 have a1 : atS t.fr 0 := ⟨by omega, by omega⟩
 have hsl : slotS t.fr 0 = 2 * t.fr.toNat := rfl
 unfold paidE
 rw [takeB_yes a1 (by rw [hsl]; exact h3), hsl]
 have : updNo s.no t.fr.toNat (s.no t.fr.toNat + 1) = fun i => if i = t.fr.toNat then s.no i + 1 else s.no i := by
  funext i
  unfold updNo
  by_cases e : i = t.fr.toNat
  ·
   rw [if_pos e, if_pos e, e]
  ·
   rw [if_neg e, if_neg e]
 rw [this]
def isStr : Value → Bool
 | .string _ => true
 | _ => false
theorem zS_str : (stc zS nilV).all (fun c => !isStr c) = true := by kernel_rfl
theorem RSl.off {W : World} {v : Value} {l : List Lk} {G : Nat} {T : TypeId} {vs : List Value} (h : RSl lkc 0 W.heap.size W v l) (hG : Blk W G T vs) (hs : vs.all (fun c => !isStr c) = true) (cs : Array Value) : RSl lkc 0 (W.setRow G cs).heap.size (W.setRow G cs) v l := by
 have hg := grownBy_row W G cs
 obtain ⟨a, cap, e, hc, hx, h0 | ⟨b, off, ha, hl, hh, ho⟩⟩ := h
 ·
  exact ⟨a, cap, e, hc, hx, .inl h0⟩
 ·
  cases l with
  | nil => exact ⟨a, cap, e, hc, hx, .inl rfl⟩
  | cons x l =>
   refine ⟨a, cap, e, hc, hx, .inr ⟨b, off, ha, hl, Nat.lt_of_lt_of_le hh hg.size, ho.kept hh hg (fun k => ?_)⟩⟩
   have h1 := ho 0 (.string x.ke) rfl
   have hbG : b = G := by simpa using k
   rw [Nat.add_zero, hbG, hG.cell] at h1
   have := List.all_eq_true.1 hs _ (List.mem_of_getElem? h1)
   simp [isStr] at this
theorem rsto_bu {W : World} {B : Nat} {T : TypeId} {s : Es} {v : Value} (h : Blk W B T (stc s v)) (n : Nat) : (Instr.storeAt 27 (.pointer (some ⟨B, 146, none⟩)) (wn n)).run Tryz.prog W = .ok () (W.setRow B (stc { s with bu := n } v).toArray) := sto_bu h n
set_option maxRecDepth 100000 in
set_option maxHeartbeats 4000000 in
theorem refApply_esc (s : Es) (v : Value) (hs : OkE s) (t : Tr) (ht : OkT t) (w : World) {lo hi : Nat} (hl : RSl lkc lo hi w v s.lk) (hhi : hi ≤ w.heap.size) (hr : (s.lk.length + 1) * 40 ≤ 140737488355328) :
  Calls Tryz.prog 13 #[stv s v, txv t] w (RApplyR (applyE orcB s t) w) := by
 have hmx : Tryz.prog.follows .mixedOrders = true := by kernel_rfl
 have hv := hl.one
 have HL := Lib.hid hl
 have m1 : (1 : Nat) < M4 := by decide
 clear hl
 have hM := Mem.start w
 go_enter Tryz.func13, Tryz.ntmps13
 go_upto_region 0 with fail
 refine wp_region_fromM (fun W => Mem w none [] W) hM ?_
 clear hM
 rintro Y1 hM
 refine rF (some 2) (pt Y1.heap.size 0) (Y1.alloc (.cells (stc s v).toArray 39)) ?_
 replace hM := hM.alloc 39 (stc s v)
 generalize World.alloc _ _ = Y2 at *
 generalize hNe : Y1.heap.size = P at *
 clear hNe
 refine rF (some 3) (pt Y2.heap.size 0) (Y2.alloc (.cells (txc t).toArray 50)) ?_
 replace hM := hM.alloc 50 (txc t)
 generalize World.alloc _ _ = Y3 at *
 generalize hNe : Y2.heap.size = X at *
 clear hNe
 refine rF (some 4) (pt Y3.heap.size 0) (Y3.alloc (.cells (stc zS nilV).toArray 39)) ?_
 replace hM := hM.alloc 39 (stc zS nilV)
 generalize World.alloc _ _ = Y4 at *
 generalize hNe : Y3.heap.size = R at *
 clear hNe
 refine tF 5 [.v 3 5 (.int .i64 0), .v 4 6 (.bool false)] trivial ?_
 refine eF ?_
 go_upto_region 1 with fail
 refine wp_region_fromM _ hM ?_
 clear hM
 rintro Y5 hM
 refine tF 1 [.l 0 14 50 (pt X 0) (txv t)] ⟨ld_tx hM.a1, trivial⟩ ?_
 refine cF (some 15) 33 #[txv t] ((refTx_any _ _).mono ?_)
 rintro e W1 ⟨rfl, hb⟩
 replace hM := hM.below hb
 clear hb
 refine tF 3 [.v 2 7 (.int .i64 (errT t))] trivial ?_
 refine eF ?_
 by_cases hq : errT t = 0
 case pos =>
  have h1 := Lib.hid hq
  clear hq
  go_upto_region 2 with fail
  refine wp_region_fromM _ hM ?_
  clear hM
  rintro Y6 hM
  refine tF 2 [.v 0 16 (.int .i64 (errT t)), .a 1 17 (.bool (errT t != 0)) (.bool false)] ⟨cB (by rw [h1.out]; rfl), trivial⟩ ?_
  refine eF ?_
  obtain ⟨hkd, hfr, hnn, haz, hm, hFF⟩ := errT_all h1.out
  have a1 : atS t.fr 0 := ⟨by omega, by omega⟩
  by_cases hq : t.no = s.no t.fr.toNat
  case pos =>
   have h2 := Lib.hid hq
   clear hq
   go_upto_region 4 with fail
   refine wp_region_M (fun W => Mem w none [(R, 39, stc zS nilV), (X, 50, txc t), (P, 39, stc s v)] W) (fun W => Mem w none [(R, 39, stc zS nilV), (X, 50, txc t), (P, 39, stc s v)] W) hmx hM.drew ?_
   clear hM
   rintro Y7 hM
   have hS := hM.sub (.cons_cons _ (.cons_cons _ (.cons_cons _ .slnil)))
   refine tD 0 [.v 0 20 (pt X 1), .l 1 21 3 (pt X 1) (.int .i64 t.no), .v 2 22 (pt X 0), .l 3 23 3 (pt X 0) (.int .i64 t.fr), .v 4 24 (pt P 130), .x 5 25 31 (pt P 130) (.int .i64 t.fr) (pt P (130 + t.fr.toNat)), .l 6 26 3 (pt P (130 + t.fr.toNat)) (.int .i64 (s.no (t.fr.toNat))), .a 7 27 (.bool (t.no != s.no t.fr.toNat)) (.bool false)] ⟨fun W h => ld_int h.a1 1 rfl, fun W h => ld_int h.a1 0 rfl, fun W h => idx_noI hfr, fun W h => ld_no (s := s) h.a2 (by omega), cB (by rw [h2.out]; exact bne_self_eq_false _), trivial⟩ hS ?_
   refine eD ?_
   clear hS
   go_upto_region 6 with fail
   refine wp_region_fromM _ hM ?_
   clear hM
   rintro Y8 hM
   refine tF 6 [.v 0 30 (pt P 2), .l 1 31 36 (pt P 2) (bkv s.pu), .v 2 32 (pt X 0), .l 3 33 3 (pt X 0) (.int .i64 t.fr), .a 4 34 (.int .i64 (IntKind.i64.wrap (2 * t.fr))) (.int .i64 (slotS t.fr 0 : Nat)), .v 5 35 (wn 1)] ⟨rld_pu (s := s) hM.a2, ld_int hM.a1 0 rfl, cI ((wrap_dbl (by omega)).trans (show 2 * t.fr = ((2 * t.fr.toNat + 0 : Nat) : Int) by omega)), trivial⟩ ?_
   refine cF (some 36) _ _ ((refLess_any s.pu hs.p a1 m1 _).mono ?_)
   rintro e W1 ⟨rfl, hb⟩
   replace hM := hM.below hb
   clear hb
   refine tF 10 [.v 7 29 (.tuple #[bkv (takeB s.pu t.fr 0 1).1, .bool (decide ((takeB s.pu t.fr 0 1).2 = 0))]), .v 8 37 (bkv (takeB s.pu t.fr 0 1).1), .v 9 38 (.bool (decide ((takeB s.pu t.fr 0 1).2 = 0)))] trivial ?_
   refine rF (some 8) (pt W1.heap.size 0) (W1.alloc (.cells (bkc noK).toArray 36)) ?_
   replace hM := hM.alloc 36 (bkc noK)
   generalize World.alloc _ _ = Y9 at *
   generalize hNe : W1.heap.size = K at *
   clear hNe
   refine sF _ _ _ (rsto_bk hM.a0 (takeB s.pu t.fr 0 1).1) ?_
   replace hM := hM.set 0 (cs' := bkc (takeB s.pu t.fr 0 1).1) rfl rfl
   generalize World.setRow _ _ _ = Y10 at *
   refine tF 13 [.v 12 9 (.bool (decide ((takeB s.pu t.fr 0 1).2 = 0)))] trivial ?_
   refine eF ?_
   go_upto_region 7 with fail
   refine wp_region_fromM _ hM ?_
   clear hM
   rintro Y11 hM
   refine tF 3 [.v 0 40 (pt P 146), .l 1 41 27 (pt P 146) (wn s.bu), .v 2 42 (wn 1)] ⟨rld_bu (s := s) hM.a3, trivial⟩ ?_
   refine cF (some 43) _ _ ((refAddN_any hs.b m1 _).mono ?_)
   rintro e W1 ⟨rfl, hb⟩
   replace hM := hM.below hb
   clear hb
   refine tF 7 [.v 4 39 (.tuple #[wn (addN s.bu 1), .bool (fitB s.bu 1)]), .v 5 44 (wn (addN s.bu 1)), .v 6 45 (.bool (fitB s.bu 1))] trivial ?_
   refine rF (some 10) (pt W1.heap.size 0) (W1.alloc (.cells (ws (nw 0)).toArray 27)) ?_
   replace hM := hM.alloc 27 (ws (nw 0))
   generalize World.alloc _ _ = Y12 at *
   generalize hNe : W1.heap.size = N at *
   clear hNe
   refine sF _ _ (wn (addN s.bu 1)) (sto_wn hM.a0 _) ?_
   replace hM := hM.set 0 (cs' := ws (nw (addN s.bu 1))) rfl rfl
   generalize World.setRow _ _ _ = Y13 at *
   refine tF 10 [.v 9 11 (.bool (fitB s.bu 1))] trivial ?_
   refine eF ?_
   by_cases hq : 1 ≤ s.pu (2 * t.fr.toNat)
   case pos =>
    have h3 := Lib.hid hq
    clear hq
    have h6 : Hid ((takeB s.pu t.fr 0 1).2 = 0) := Lib.hid (by rw [takeB_yes a1 h3.out])
    by_cases hq : s.bu + 1 < M4
    case pos =>
     have h4 := Lib.hid hq
     clear hq
     go_upto_region 8 with fail
     refine wp_region_fromM _ hM ?_
     clear hM
     rintro Y14 hM
     refine tF 6 [.a 0 46 (.bool (decide ((takeB s.pu t.fr 0 1).2 = 0))) (.bool true), .v 1 47 (.bool false), .v 2 48 (.bool false), .a 3 49 (.bool (fitB s.bu 1)) (.bool true), .v 4 50 (.bool false), .v 5 51 (.bool false)] ⟨cB (decide_eq_true h6.out), cB (decide_eq_true h4.out), trivial⟩ ?_
     refine eF ?_
     rw [show addN s.bu 1 = s.bu + 1 from if_pos h4.out] at hM
     go_upto_region 10 with fail
     refine wp_region_M (fun W => Mem w none [(N, 27, ws (nw (s.bu + 1))), (K, 36, bkc (takeB s.pu t.fr 0 1).1), (R, 39, stc zS nilV), (X, 50, txc t)] W) (fun W => Mem w none [(N, 27, ws (nw (s.bu + 1))), (K, 36, bkc (takeB s.pu t.fr 0 1).1), (R, 39, stc zS nilV), (X, 50, txc t), (P, 39, stc s v)] W) hmx hM.drew ?_
     clear hM
     rintro Y15 hM
     have hS := hM.sub (.cons_cons _ (.cons_cons _ (.cons_cons _ (.cons_cons _ (.cons _ .slnil)))))
     refine tD 3 [.l 0 53 36 (pt K 0) (bkv ((takeB s.pu t.fr 0 1).1)), .l 1 54 27 (pt N 0) (wn (s.bu + 1)), .v 2 55 (pt P 2)] ⟨fun W h => rload_book h.a1, fun W h => load_wn h.a0, trivial⟩ hS ?_
     have hM1 := hM.set 4 (cs' := stc ({ s with pu := (takeB s.pu t.fr 0 1).1 }) v) rfl rfl
     refine oD 3 2 (sD _ _ _ (rsto_pu (s := s) hM.a4 (takeB s.pu t.fr 0 1).1) (hM1.sub (.cons_cons _ (.cons_cons _ (.cons_cons _ (.cons_cons _ (.cons _ .slnil)))))) ?_)
     replace hS := hM1.sub (.cons_cons _ (.cons_cons _ (.cons_cons _ (.cons_cons _ (.cons _ .slnil)))))
     replace hM := hM1
     clear hM1
     generalize World.setRow _ _ _ = Y16 at *
     refine tD 1 [.v 4 56 (pt P 146)] trivial hS ?_
     have hM1 := hM.set 4 (cs' := stc ({ s with pu := (takeB s.pu t.fr 0 1).1, bu := s.bu + 1 }) v) rfl rfl
     refine oD 5 0 (sD _ _ _ (rsto_bu (s := { s with pu := (takeB s.pu t.fr 0 1).1 }) hM.a4 (s.bu + 1)) (hM1.sub (.cons_cons _ (.cons_cons _ (.cons_cons _ (.cons_cons _ (.cons _ .slnil)))))) ?_)
     replace hS := hM1.sub (.cons_cons _ (.cons_cons _ (.cons_cons _ (.cons_cons _ (.cons _ .slnil)))))
     replace hM := hM1
     clear hM1
     generalize World.setRow _ _ _ = Y17 at *
     refine eD ?_
     clear hS
     go_upto_region 11 with fail
     refine wp_region_fromM _ hM ?_
     clear hM
     rintro Y18 hM
     refine tF 8 [.v 0 57 (pt X 0), .l 1 58 3 (pt X 0) (.int .i64 t.fr), .v 2 59 (pt P 130), .x 3 60 31 (pt P 130) (.int .i64 t.fr) (pt P (130 + t.fr.toNat)), .l 4 61 3 (pt P (130 + t.fr.toNat)) (.int .i64 (s.no (t.fr.toNat))), .a 5 62 (.int .i64 (IntKind.i64.wrap (s.no t.fr.toNat + 1))) (.int .i64 (s.no t.fr.toNat + 1)), .v 6 63 (pt P 130), .x 7 64 31 (pt P 130) (.int .i64 t.fr) (pt P (130 + t.fr.toNat))] ⟨ld_int hM.a3 0 rfl, idx_noI hfr, ld_no (s := { s with pu := (takeB s.pu t.fr 0 1).1, bu := s.bu + 1 }) hM.a4 (by omega), cI (IntWalk.i64_in _ (by have := hnn; have := h2.out; omega)), idx_noI hfr, trivial⟩ ?_
     refine sF _ _ (.int .i64 (s.no t.fr.toNat + 1)) (sto_no (s := { s with pu := (takeB s.pu t.fr 0 1).1, bu := s.bu + 1 }) hM.a4 (show t.fr.toNat < 8 by omega) _) ?_
     replace hM := hM.set 4 (cs' := stc ({ s with pu := (takeB s.pu t.fr 0 1).1, bu := s.bu + 1, no := updNo s.no t.fr.toNat (s.no t.fr.toNat + 1) }) v) rfl rfl
     generalize World.setRow _ _ _ = Y19 at *
     refine eF ?_
     rw [paid_is hfr h3.out] at hM
     have hs1 := paid_ok hs (⟨h1.out, h2.out, h3.out, h4.out⟩ : takenE s t)
     go_upto_region 12 with fail
     refine wp_region_fromM _ hM ?_
     clear hM
     rintro Y20 hM
     refine rF (some 12) (pt Y20.heap.size 0) (Y20.alloc (.cells (stc zS nilV).toArray 39)) ?_
     replace hM := hM.alloc 39 (stc zS nilV)
     generalize World.alloc _ _ = Y21 at *
     generalize hNe : Y20.heap.size = G at *
     clear hNe
     refine eF ?_
     go_upto_region 13 with fail
     refine wp_region_fromM _ hM ?_
     clear hM
     rintro Y22 hM
     refine tF 1 [.v 0 13 (.int .i64 0)] trivial ?_
     refine eF ?_
     go_upto_region 14 with fail
     refine wp_region_fromM _ hM ?_
     clear hM
     rintro Y23 hM
     refine tF 2 [.v 0 65 (pt X 2), .l 1 66 3 (pt X 2) (.int .i64 t.kd)] ⟨ld_int hM.a4 2 rfl, trivial⟩ ?_
     refine eF ?_
     by_cases hq : t.kd = 4
     case pos =>
      have hk4 := Lib.hid hq
      clear hq
      go_upto_region 16 with fail
      refine wp_region_fromM _ hM ?_
      clear hM
      rintro Y24 hM
      refine tF 2 [.a 0 74 (.bool (t.kd == 4)) (.bool true), .v 1 73 (.bool true)] ⟨cB (beq_iff_eq.2 hk4.out), trivial⟩ ?_
      refine eF ?_
      have hD : (doneE orcB (paidE s t) t) = prepE orcB (paidE s t) t := by unfold doneE; rw [if_pos hk4.out]
      have hF := hFF (by have := hk4.out; omega)
      by_cases hq : (prepE orcB (paidE s t) t).2 = 0
      case pos =>
       have hd := Lib.hid hq
       clear hq
       have hd0 : Hid ((doneE orcB (paidE s t) t).2 = 0) := Lib.hid (by rw [hD]; exact hd.out)
       go_upto_region 17 with fail
       refine wp_region_fromM _ hM ?_
       clear hM
       rintro Y25 hM
       refine tF 2 [.l 0 76 39 (pt P 0) (stv (paidE s t) (v)), .l 1 77 50 (pt X 0) (txv t)] ⟨rld_st (s := paidE s t) hM.a5, ld_tx hM.a4, trivial⟩ ?_
       refine cF (some 78) 35 #[stv (paidE s t) (v), txv t] ((((refPrepare_esc (paidE s t) v hs1 t ht hfr hF _ (show RSl lkc lo hi _ v (paidE s t).lk from HL.out.below hM.b hhi) (Nat.le_trans hhi hM.size) (show (s.lk.length + 1) * 40 ≤ 140737488355328 from hr)).mono fun _ _ h => h.yes hd.out)).mono ?_)
       rintro e W1 ⟨v1, rfl, hv1, hL1, hb⟩
       have hGl := hM.a0.lt
       replace hM := hM.below hb
       clear hb
       refine tF 6 [.v 3 75 (.tuple #[stv (prepE orcB (paidE s t) t).1 v1, .int .i64 0]), .v 4 79 (stv (prepE orcB (paidE s t) t).1 v1), .v 5 80 (.int .i64 0)] trivial ?_
       replace hL1 := hL1.off hM.a0 zS_str (stc ((prepE orcB (paidE s t) t).1) v1).toArray
       refine sF _ _ _ (rsto_st hM.a0 (stc_len _ _) ((prepE orcB (paidE s t) t).1) hv1) ?_
       replace hM := hM.set 0 (cs' := stc ((prepE orcB (paidE s t) t).1) v1) rfl rfl
       generalize World.setRow _ _ _ = Y26 at *
       refine tF 8 [.v 7 13 (.int .i64 0)] trivial ?_
       refine eF ?_
       go_upto_region 22 with fail
       refine wp_region_fromM (fun W => Mem w none [(G, 39, stc ((prepE orcB (paidE s t) t).1) v1), (N, 27, ws (nw (s.bu + 1))), (K, 36, bkc (takeB s.pu t.fr 0 1).1), (R, 39, stc zS nilV), (X, 50, txc t), (P, 39, stc (paidE s t) v)] W ∧ RSl lkc 0 W.heap.size W v1 ((prepE orcB (paidE s t) t).1).lk) ⟨hM, hL1⟩ ?_
       clear hM hL1
       rintro Y27 ⟨hM, hL1⟩
       refine tF 2 [.v 0 97 (.int .i64 0), .v 1 98 (.bool false)] trivial ?_
       refine eF ?_
       go_upto_region 24 with fail
       refine wp_region_fromM (fun W => Mem w none [(G, 39, stc ((prepE orcB (paidE s t) t).1) v1), (N, 27, ws (nw (s.bu + 1))), (K, 36, bkc (takeB s.pu t.fr 0 1).1), (R, 39, stc zS nilV), (X, 50, txc t), (P, 39, stc (paidE s t) v)] W ∧ RSl lkc 0 W.heap.size W v1 ((prepE orcB (paidE s t) t).1).lk) ⟨hM, hL1⟩ ?_
       clear hM hL1
       rintro Y28 ⟨hM, hL1⟩
       refine tF 1 [.l 0 101 39 (pt G 0) (stv ((prepE orcB (paidE s t) t).1) (v1))] ⟨rld_st (s := (prepE orcB (paidE s t) t).1) hM.a0, trivial⟩ ?_
       replace hL1 := hL1.off hM.a3 zS_str (stc ((prepE orcB (paidE s t) t).1) v1).toArray
       refine sF _ _ _ (rsto_st hM.a3 (stc_len _ _) ((prepE orcB (paidE s t) t).1) hv1) ?_
       replace hM := hM.set 3 (cs' := stc ((prepE orcB (paidE s t) t).1) v1) rfl rfl
       generalize World.setRow _ _ _ = Y29 at *
       refine tF 4 [.v 2 5 (.int .i64 0), .v 3 6 (.bool true)] trivial ?_
       refine eF ?_
       have fin : RApplyR (applyE orcB s t) w (.returned (.tuple #[stv ((prepE orcB (paidE s t) t).1) v1, .int .i64 0, .bool true])) Y29 := RApplyR.of (by unfold applyE; rw [if_neg (not_not_intro h1.out), if_neg (not_not_intro h2.out), if_neg (fun e => e.elim (fun e => e h3.out) fun e => e h4.out), if_neg (not_not_intro hd0.out), hD]) hv1 (hL1) hM.b
       go_wp2_with fail
       exact bodyPost_ret (v := .tuple #[stv ((prepE orcB (paidE s t) t).1) v1, .int .i64 0, .bool true]) (res_rap rfl _ rfl rfl rfl hM.a3) rfl fin
      have hd := Lib.hid hq
      clear hq
      have hd0 : Hid ((doneE orcB (paidE s t) t).2 ≠ 0) := Lib.hid (by rw [hD]; exact hd.out)
      go_upto_region 17 with fail
      refine wp_region_fromM _ hM ?_
      clear hM
      rintro Y30 hM
      refine tF 2 [.l 0 76 39 (pt P 0) (stv (paidE s t) (v)), .l 1 77 50 (pt X 0) (txv t)] ⟨rld_st (s := paidE s t) hM.a5, ld_tx hM.a4, trivial⟩ ?_
      refine cF (some 78) 35 #[stv (paidE s t) (v), txv t] ((((refPrepare_esc (paidE s t) v hs1 t ht hfr hF _ (show RSl lkc lo hi _ v (paidE s t).lk from HL.out.below hM.b hhi) (Nat.le_trans hhi hM.size) (show (s.lk.length + 1) * 40 ≤ 140737488355328 from hr)).mono fun _ _ h => h.no hd.out)).mono ?_)
      rintro e W1 ⟨s1, v1, rfl, hv1, hb⟩
      have hGl := hM.a0.lt
      replace hM := hM.below hb
      clear hb
      refine tF 6 [.v 3 75 (.tuple #[stv s1 v1, .int .i64 (prepE orcB (paidE s t) t).2]), .v 4 79 (stv s1 v1), .v 5 80 (.int .i64 (prepE orcB (paidE s t) t).2)] trivial ?_
      refine sF _ _ _ (rsto_st hM.a0 (stc_len _ _) (s1) hv1) ?_
      replace hM := hM.set 0 (cs' := stc (s1) v1) rfl rfl
      generalize World.setRow _ _ _ = Y31 at *
      refine tF 8 [.v 7 13 (.int .i64 (prepE orcB (paidE s t) t).2)] trivial ?_
      refine eF ?_
      go_upto_region 22 with fail
      refine wp_region_fromM _ hM ?_
      clear hM
      rintro Y32 hM
      refine tF 2 [.v 0 97 (.int .i64 (prepE orcB (paidE s t) t).2), .a 1 98 (.bool ((prepE orcB (paidE s t) t).2 != 0)) (.bool true)] ⟨cB (bne_iff_ne.2 hd.out), trivial⟩ ?_
      refine eF ?_
      go_upto_region 23 with fail
      refine wp_region_fromM _ hM ?_
      clear hM
      rintro Y33 hM
      refine tF 2 [.l 0 99 39 (pt P 0) (stv (paidE s t) (v)), .v 1 100 (.int .i64 (prepE orcB (paidE s t) t).2)] ⟨rld_st (s := paidE s t) hM.a5, trivial⟩ ?_
      refine sF _ _ _ (rsto_st hM.a3 (stc_len _ _) (paidE s t) hv) ?_
      replace hM := hM.set 3 (cs' := stc (paidE s t) v) rfl rfl
      generalize World.setRow _ _ _ = Y34 at *
      refine tF 5 [.v 3 5 (.int .i64 (prepE orcB (paidE s t) t).2), .v 4 6 (.bool true)] trivial ?_
      refine eF ?_
      have fin : RApplyR (applyE orcB s t) w (.returned (.tuple #[stv (paidE s t) v, .int .i64 (prepE orcB (paidE s t) t).2, .bool true])) Y34 := RApplyR.of (by unfold applyE; rw [if_neg (not_not_intro h1.out), if_neg (not_not_intro h2.out), if_neg (fun e => e.elim (fun e => e h3.out) fun e => e h4.out), if_pos hd0.out, hD]) hv (HL.out.all hhi hM.b) hM.b
      go_wp2_with fail
      exact bodyPost_ret (v := .tuple #[stv (paidE s t) v, .int .i64 (prepE orcB (paidE s t) t).2, .bool true]) (res_rap rfl _ rfl rfl rfl hM.a3) rfl fin
     have hk4 := Lib.hid hq
     clear hq
     by_cases hq : t.kd = 5
     case pos =>
      have hk5 := Lib.hid hq
      clear hq
      go_upto_region 16 with fail
      refine wp_region_fromM _ hM ?_
      clear hM
      rintro Y35 hM
      refine tF 2 [.a 0 74 (.bool (t.kd == 4)) (.bool false), .v 1 73 (.bool false)] ⟨cB (beq_eq_false_iff_ne.2 hk4.out), trivial⟩ ?_
      refine eF ?_
      go_upto_region 18 with fail
      refine wp_region_fromM _ hM ?_
      clear hM
      rintro Y36 hM
      refine tF 2 [.a 0 82 (.bool (t.kd == 5)) (.bool true), .v 1 81 (.bool true)] ⟨cB (beq_iff_eq.2 hk5.out), trivial⟩ ?_
      refine eF ?_
      have hD : (doneE orcB (paidE s t) t) = fulE orcB (paidE s t) t := by unfold doneE; rw [if_neg hk4.out, if_pos hk5.out]
      have hF := hFF (by have := hk5.out; omega)
      by_cases hq : (fulE orcB (paidE s t) t).2 = 0
      case pos =>
       have hd := Lib.hid hq
       clear hq
       have hd0 : Hid ((doneE orcB (paidE s t) t).2 = 0) := Lib.hid (by rw [hD]; exact hd.out)
       go_upto_region 19 with fail
       refine wp_region_fromM _ hM ?_
       clear hM
       rintro Y37 hM
       refine tF 2 [.l 0 84 39 (pt P 0) (stv (paidE s t) (v)), .l 1 85 50 (pt X 0) (txv t)] ⟨rld_st (s := paidE s t) hM.a5, ld_tx hM.a4, trivial⟩ ?_
       refine cF (some 86) 36 #[stv (paidE s t) (v), txv t] ((((refFulfil_esc (paidE s t) v hs1 t ht hfr hF _ (show RSl lkc lo hi _ v (paidE s t).lk from HL.out.below hM.b hhi) (Nat.le_trans hhi hM.size) (show (s.lk.length + 1) * 40 ≤ 140737488355328 from hr)).mono fun _ _ h => h.yes hd.out)).mono ?_)
       rintro e W1 ⟨v1, rfl, hv1, hL1, hb⟩
       have hGl := hM.a0.lt
       replace hM := hM.below hb
       clear hb
       refine tF 6 [.v 3 83 (.tuple #[stv (fulE orcB (paidE s t) t).1 v1, .int .i64 0]), .v 4 87 (stv (fulE orcB (paidE s t) t).1 v1), .v 5 88 (.int .i64 0)] trivial ?_
       replace hL1 := hL1.off hM.a0 zS_str (stc ((fulE orcB (paidE s t) t).1) v1).toArray
       refine sF _ _ _ (rsto_st hM.a0 (stc_len _ _) ((fulE orcB (paidE s t) t).1) hv1) ?_
       replace hM := hM.set 0 (cs' := stc ((fulE orcB (paidE s t) t).1) v1) rfl rfl
       generalize World.setRow _ _ _ = Y38 at *
       refine tF 8 [.v 7 13 (.int .i64 0)] trivial ?_
       refine eF ?_
       go_upto_region 22 with fail
       refine wp_region_fromM (fun W => Mem w none [(G, 39, stc ((fulE orcB (paidE s t) t).1) v1), (N, 27, ws (nw (s.bu + 1))), (K, 36, bkc (takeB s.pu t.fr 0 1).1), (R, 39, stc zS nilV), (X, 50, txc t), (P, 39, stc (paidE s t) v)] W ∧ RSl lkc 0 W.heap.size W v1 ((fulE orcB (paidE s t) t).1).lk) ⟨hM, hL1⟩ ?_
       clear hM hL1
       rintro Y39 ⟨hM, hL1⟩
       refine tF 2 [.v 0 97 (.int .i64 0), .v 1 98 (.bool false)] trivial ?_
       refine eF ?_
       go_upto_region 24 with fail
       refine wp_region_fromM (fun W => Mem w none [(G, 39, stc ((fulE orcB (paidE s t) t).1) v1), (N, 27, ws (nw (s.bu + 1))), (K, 36, bkc (takeB s.pu t.fr 0 1).1), (R, 39, stc zS nilV), (X, 50, txc t), (P, 39, stc (paidE s t) v)] W ∧ RSl lkc 0 W.heap.size W v1 ((fulE orcB (paidE s t) t).1).lk) ⟨hM, hL1⟩ ?_
       clear hM hL1
       rintro Y40 ⟨hM, hL1⟩
       refine tF 1 [.l 0 101 39 (pt G 0) (stv ((fulE orcB (paidE s t) t).1) (v1))] ⟨rld_st (s := (fulE orcB (paidE s t) t).1) hM.a0, trivial⟩ ?_
       replace hL1 := hL1.off hM.a3 zS_str (stc ((fulE orcB (paidE s t) t).1) v1).toArray
       refine sF _ _ _ (rsto_st hM.a3 (stc_len _ _) ((fulE orcB (paidE s t) t).1) hv1) ?_
       replace hM := hM.set 3 (cs' := stc ((fulE orcB (paidE s t) t).1) v1) rfl rfl
       generalize World.setRow _ _ _ = Y41 at *
       refine tF 4 [.v 2 5 (.int .i64 0), .v 3 6 (.bool true)] trivial ?_
       refine eF ?_
       have fin : RApplyR (applyE orcB s t) w (.returned (.tuple #[stv ((fulE orcB (paidE s t) t).1) v1, .int .i64 0, .bool true])) Y41 := RApplyR.of (by unfold applyE; rw [if_neg (not_not_intro h1.out), if_neg (not_not_intro h2.out), if_neg (fun e => e.elim (fun e => e h3.out) fun e => e h4.out), if_neg (not_not_intro hd0.out), hD]) hv1 (hL1) hM.b
       go_wp2_with fail
       exact bodyPost_ret (v := .tuple #[stv ((fulE orcB (paidE s t) t).1) v1, .int .i64 0, .bool true]) (res_rap rfl _ rfl rfl rfl hM.a3) rfl fin
      have hd := Lib.hid hq
      clear hq
      have hd0 : Hid ((doneE orcB (paidE s t) t).2 ≠ 0) := Lib.hid (by rw [hD]; exact hd.out)
      go_upto_region 19 with fail
      refine wp_region_fromM _ hM ?_
      clear hM
      rintro Y42 hM
      refine tF 2 [.l 0 84 39 (pt P 0) (stv (paidE s t) (v)), .l 1 85 50 (pt X 0) (txv t)] ⟨rld_st (s := paidE s t) hM.a5, ld_tx hM.a4, trivial⟩ ?_
      refine cF (some 86) 36 #[stv (paidE s t) (v), txv t] ((((refFulfil_esc (paidE s t) v hs1 t ht hfr hF _ (show RSl lkc lo hi _ v (paidE s t).lk from HL.out.below hM.b hhi) (Nat.le_trans hhi hM.size) (show (s.lk.length + 1) * 40 ≤ 140737488355328 from hr)).mono fun _ _ h => h.no hd.out)).mono ?_)
      rintro e W1 ⟨s1, v1, rfl, hv1, hb⟩
      have hGl := hM.a0.lt
      replace hM := hM.below hb
      clear hb
      refine tF 6 [.v 3 83 (.tuple #[stv s1 v1, .int .i64 (fulE orcB (paidE s t) t).2]), .v 4 87 (stv s1 v1), .v 5 88 (.int .i64 (fulE orcB (paidE s t) t).2)] trivial ?_
      refine sF _ _ _ (rsto_st hM.a0 (stc_len _ _) (s1) hv1) ?_
      replace hM := hM.set 0 (cs' := stc (s1) v1) rfl rfl
      generalize World.setRow _ _ _ = Y43 at *
      refine tF 8 [.v 7 13 (.int .i64 (fulE orcB (paidE s t) t).2)] trivial ?_
      refine eF ?_
      go_upto_region 22 with fail
      refine wp_region_fromM _ hM ?_
      clear hM
      rintro Y44 hM
      refine tF 2 [.v 0 97 (.int .i64 (fulE orcB (paidE s t) t).2), .a 1 98 (.bool ((fulE orcB (paidE s t) t).2 != 0)) (.bool true)] ⟨cB (bne_iff_ne.2 hd.out), trivial⟩ ?_
      refine eF ?_
      go_upto_region 23 with fail
      refine wp_region_fromM _ hM ?_
      clear hM
      rintro Y45 hM
      refine tF 2 [.l 0 99 39 (pt P 0) (stv (paidE s t) (v)), .v 1 100 (.int .i64 (fulE orcB (paidE s t) t).2)] ⟨rld_st (s := paidE s t) hM.a5, trivial⟩ ?_
      refine sF _ _ _ (rsto_st hM.a3 (stc_len _ _) (paidE s t) hv) ?_
      replace hM := hM.set 3 (cs' := stc (paidE s t) v) rfl rfl
      generalize World.setRow _ _ _ = Y46 at *
      refine tF 5 [.v 3 5 (.int .i64 (fulE orcB (paidE s t) t).2), .v 4 6 (.bool true)] trivial ?_
      refine eF ?_
      have fin : RApplyR (applyE orcB s t) w (.returned (.tuple #[stv (paidE s t) v, .int .i64 (fulE orcB (paidE s t) t).2, .bool true])) Y46 := RApplyR.of (by unfold applyE; rw [if_neg (not_not_intro h1.out), if_neg (not_not_intro h2.out), if_neg (fun e => e.elim (fun e => e h3.out) fun e => e h4.out), if_pos hd0.out, hD]) hv (HL.out.all hhi hM.b) hM.b
      go_wp2_with fail
      exact bodyPost_ret (v := .tuple #[stv (paidE s t) v, .int .i64 (fulE orcB (paidE s t) t).2, .bool true]) (res_rap rfl _ rfl rfl rfl hM.a3) rfl fin
     have hk5 := Lib.hid hq
     clear hq
     by_cases hq : t.kd = 6
     case pos =>
      have hk6 := Lib.hid hq
      clear hq
      go_upto_region 16 with fail
      refine wp_region_fromM _ hM ?_
      clear hM
      rintro Y47 hM
      refine tF 2 [.a 0 74 (.bool (t.kd == 4)) (.bool false), .v 1 73 (.bool false)] ⟨cB (beq_eq_false_iff_ne.2 hk4.out), trivial⟩ ?_
      refine eF ?_
      go_upto_region 18 with fail
      refine wp_region_fromM _ hM ?_
      clear hM
      rintro Y48 hM
      refine tF 2 [.a 0 82 (.bool (t.kd == 5)) (.bool false), .v 1 81 (.bool false)] ⟨cB (beq_eq_false_iff_ne.2 hk5.out), trivial⟩ ?_
      refine eF ?_
      go_upto_region 20 with fail
      refine wp_region_fromM _ hM ?_
      clear hM
      rintro Y49 hM
      refine tF 2 [.a 0 90 (.bool (t.kd == 6)) (.bool true), .v 1 89 (.bool true)] ⟨cB (beq_iff_eq.2 hk6.out), trivial⟩ ?_
      refine eF ?_
      have hD : (doneE orcB (paidE s t) t) = canE orcB (paidE s t) t := by unfold doneE; rw [if_neg hk4.out, if_neg hk5.out, if_pos hk6.out]
      have hF := hFF (by have := hk6.out; omega)
      by_cases hq : (canE orcB (paidE s t) t).2 = 0
      case pos =>
       have hd := Lib.hid hq
       clear hq
       have hd0 : Hid ((doneE orcB (paidE s t) t).2 = 0) := Lib.hid (by rw [hD]; exact hd.out)
       go_upto_region 21 with fail
       refine wp_region_fromM _ hM ?_
       clear hM
       rintro Y50 hM
       refine tF 2 [.l 0 92 39 (pt P 0) (stv (paidE s t) (v)), .l 1 93 50 (pt X 0) (txv t)] ⟨rld_st (s := paidE s t) hM.a5, ld_tx hM.a4, trivial⟩ ?_
       refine cF (some 94) 37 #[stv (paidE s t) (v), txv t] ((((refCancel_esc (paidE s t) v hs1 t ht hF _ (show RSl lkc lo hi _ v (paidE s t).lk from HL.out.below hM.b hhi) (Nat.le_trans hhi hM.size) (show (s.lk.length + 1) * 40 ≤ 140737488355328 from hr)).mono fun _ _ h => h.yes hd.out)).mono ?_)
       rintro e W1 ⟨v1, rfl, hv1, hL1, hb⟩
       have hGl := hM.a0.lt
       replace hM := hM.below hb
       clear hb
       refine tF 6 [.v 3 91 (.tuple #[stv (canE orcB (paidE s t) t).1 v1, .int .i64 0]), .v 4 95 (stv (canE orcB (paidE s t) t).1 v1), .v 5 96 (.int .i64 0)] trivial ?_
       replace hL1 := hL1.off hM.a0 zS_str (stc ((canE orcB (paidE s t) t).1) v1).toArray
       refine sF _ _ _ (rsto_st hM.a0 (stc_len _ _) ((canE orcB (paidE s t) t).1) hv1) ?_
       replace hM := hM.set 0 (cs' := stc ((canE orcB (paidE s t) t).1) v1) rfl rfl
       generalize World.setRow _ _ _ = Y51 at *
       refine tF 8 [.v 7 13 (.int .i64 0)] trivial ?_
       refine eF ?_
       go_upto_region 22 with fail
       refine wp_region_fromM (fun W => Mem w none [(G, 39, stc ((canE orcB (paidE s t) t).1) v1), (N, 27, ws (nw (s.bu + 1))), (K, 36, bkc (takeB s.pu t.fr 0 1).1), (R, 39, stc zS nilV), (X, 50, txc t), (P, 39, stc (paidE s t) v)] W ∧ RSl lkc 0 W.heap.size W v1 ((canE orcB (paidE s t) t).1).lk) ⟨hM, hL1⟩ ?_
       clear hM hL1
       rintro Y52 ⟨hM, hL1⟩
       refine tF 2 [.v 0 97 (.int .i64 0), .v 1 98 (.bool false)] trivial ?_
       refine eF ?_
       go_upto_region 24 with fail
       refine wp_region_fromM (fun W => Mem w none [(G, 39, stc ((canE orcB (paidE s t) t).1) v1), (N, 27, ws (nw (s.bu + 1))), (K, 36, bkc (takeB s.pu t.fr 0 1).1), (R, 39, stc zS nilV), (X, 50, txc t), (P, 39, stc (paidE s t) v)] W ∧ RSl lkc 0 W.heap.size W v1 ((canE orcB (paidE s t) t).1).lk) ⟨hM, hL1⟩ ?_
       clear hM hL1
       rintro Y53 ⟨hM, hL1⟩
       refine tF 1 [.l 0 101 39 (pt G 0) (stv ((canE orcB (paidE s t) t).1) (v1))] ⟨rld_st (s := (canE orcB (paidE s t) t).1) hM.a0, trivial⟩ ?_
       replace hL1 := hL1.off hM.a3 zS_str (stc ((canE orcB (paidE s t) t).1) v1).toArray
       refine sF _ _ _ (rsto_st hM.a3 (stc_len _ _) ((canE orcB (paidE s t) t).1) hv1) ?_
       replace hM := hM.set 3 (cs' := stc ((canE orcB (paidE s t) t).1) v1) rfl rfl
       generalize World.setRow _ _ _ = Y54 at *
       refine tF 4 [.v 2 5 (.int .i64 0), .v 3 6 (.bool true)] trivial ?_
       refine eF ?_
       have fin : RApplyR (applyE orcB s t) w (.returned (.tuple #[stv ((canE orcB (paidE s t) t).1) v1, .int .i64 0, .bool true])) Y54 := RApplyR.of (by unfold applyE; rw [if_neg (not_not_intro h1.out), if_neg (not_not_intro h2.out), if_neg (fun e => e.elim (fun e => e h3.out) fun e => e h4.out), if_neg (not_not_intro hd0.out), hD]) hv1 (hL1) hM.b
       go_wp2_with fail
       exact bodyPost_ret (v := .tuple #[stv ((canE orcB (paidE s t) t).1) v1, .int .i64 0, .bool true]) (res_rap rfl _ rfl rfl rfl hM.a3) rfl fin
      have hd := Lib.hid hq
      clear hq
      have hd0 : Hid ((doneE orcB (paidE s t) t).2 ≠ 0) := Lib.hid (by rw [hD]; exact hd.out)
      go_upto_region 21 with fail
      refine wp_region_fromM _ hM ?_
      clear hM
      rintro Y55 hM
      refine tF 2 [.l 0 92 39 (pt P 0) (stv (paidE s t) (v)), .l 1 93 50 (pt X 0) (txv t)] ⟨rld_st (s := paidE s t) hM.a5, ld_tx hM.a4, trivial⟩ ?_
      refine cF (some 94) 37 #[stv (paidE s t) (v), txv t] ((((refCancel_esc (paidE s t) v hs1 t ht hF _ (show RSl lkc lo hi _ v (paidE s t).lk from HL.out.below hM.b hhi) (Nat.le_trans hhi hM.size) (show (s.lk.length + 1) * 40 ≤ 140737488355328 from hr)).mono fun _ _ h => h.no hd.out)).mono ?_)
      rintro e W1 ⟨s1, v1, rfl, hv1, hb⟩
      have hGl := hM.a0.lt
      replace hM := hM.below hb
      clear hb
      refine tF 6 [.v 3 91 (.tuple #[stv s1 v1, .int .i64 (canE orcB (paidE s t) t).2]), .v 4 95 (stv s1 v1), .v 5 96 (.int .i64 (canE orcB (paidE s t) t).2)] trivial ?_
      refine sF _ _ _ (rsto_st hM.a0 (stc_len _ _) (s1) hv1) ?_
      replace hM := hM.set 0 (cs' := stc (s1) v1) rfl rfl
      generalize World.setRow _ _ _ = Y56 at *
      refine tF 8 [.v 7 13 (.int .i64 (canE orcB (paidE s t) t).2)] trivial ?_
      refine eF ?_
      go_upto_region 22 with fail
      refine wp_region_fromM _ hM ?_
      clear hM
      rintro Y57 hM
      refine tF 2 [.v 0 97 (.int .i64 (canE orcB (paidE s t) t).2), .a 1 98 (.bool ((canE orcB (paidE s t) t).2 != 0)) (.bool true)] ⟨cB (bne_iff_ne.2 hd.out), trivial⟩ ?_
      refine eF ?_
      go_upto_region 23 with fail
      refine wp_region_fromM _ hM ?_
      clear hM
      rintro Y58 hM
      refine tF 2 [.l 0 99 39 (pt P 0) (stv (paidE s t) (v)), .v 1 100 (.int .i64 (canE orcB (paidE s t) t).2)] ⟨rld_st (s := paidE s t) hM.a5, trivial⟩ ?_
      refine sF _ _ _ (rsto_st hM.a3 (stc_len _ _) (paidE s t) hv) ?_
      replace hM := hM.set 3 (cs' := stc (paidE s t) v) rfl rfl
      generalize World.setRow _ _ _ = Y59 at *
      refine tF 5 [.v 3 5 (.int .i64 (canE orcB (paidE s t) t).2), .v 4 6 (.bool true)] trivial ?_
      refine eF ?_
      have fin : RApplyR (applyE orcB s t) w (.returned (.tuple #[stv (paidE s t) v, .int .i64 (canE orcB (paidE s t) t).2, .bool true])) Y59 := RApplyR.of (by unfold applyE; rw [if_neg (not_not_intro h1.out), if_neg (not_not_intro h2.out), if_neg (fun e => e.elim (fun e => e h3.out) fun e => e h4.out), if_pos hd0.out, hD]) hv (HL.out.all hhi hM.b) hM.b
      go_wp2_with fail
      exact bodyPost_ret (v := .tuple #[stv (paidE s t) v, .int .i64 (canE orcB (paidE s t) t).2, .bool true]) (res_rap rfl _ rfl rfl rfl hM.a3) rfl fin
     have hk6 := Lib.hid hq
     clear hq
     go_upto_region 16 with fail
     refine wp_region_fromM _ hM ?_
     clear hM
     rintro Y60 hM
     refine tF 2 [.a 0 74 (.bool (t.kd == 4)) (.bool false), .v 1 73 (.bool false)] ⟨cB (beq_eq_false_iff_ne.2 hk4.out), trivial⟩ ?_
     refine eF ?_
     go_upto_region 18 with fail
     refine wp_region_fromM _ hM ?_
     clear hM
     rintro Y61 hM
     refine tF 2 [.a 0 82 (.bool (t.kd == 5)) (.bool false), .v 1 81 (.bool false)] ⟨cB (beq_eq_false_iff_ne.2 hk5.out), trivial⟩ ?_
     refine eF ?_
     go_upto_region 20 with fail
     refine wp_region_fromM _ hM ?_
     clear hM
     rintro Y62 hM
     refine tF 2 [.a 0 90 (.bool (t.kd == 6)) (.bool false), .v 1 89 (.bool false)] ⟨cB (beq_eq_false_iff_ne.2 hk6.out), trivial⟩ ?_
     refine eF ?_
     have hD : (doneE orcB (paidE s t) t) = plainE (paidE s t) t := by unfold doneE; rw [if_neg hk4.out, if_neg hk5.out, if_neg hk6.out]
     by_cases hq : (plainE (paidE s t) t).2 = 0
     case pos =>
      have hd := Lib.hid hq
      clear hq
      have hd0 : Hid ((doneE orcB (paidE s t) t).2 = 0) := Lib.hid (by rw [hD]; exact hd.out)
      go_upto_region 15 with fail
      refine wp_region_fromM _ hM ?_
      clear hM
      rintro Y63 hM
      refine tF 2 [.l 0 68 39 (pt P 0) (stv (paidE s t) (v)), .l 1 69 50 (pt X 0) (txv t)] ⟨rld_st (s := paidE s t) hM.a5, ld_tx hM.a4, trivial⟩ ?_
      refine cF (some 70) 38 #[stv (paidE s t) (v), txv t] ((((refPlain_esc (paidE s t) v hs1 t ht h1.out _ (show RSl lkc lo hi _ v (paidE s t).lk from HL.out.below hM.b hhi) (Nat.le_trans hhi hM.size)).mono fun _ _ h => h.yes hd.out)).mono ?_)
      rintro e W1 ⟨v1, rfl, hv1, hL1, hb⟩
      have hGl := hM.a0.lt
      replace hM := hM.below hb
      clear hb
      refine tF 6 [.v 3 67 (.tuple #[stv (plainE (paidE s t) t).1 v1, .int .i64 0]), .v 4 71 (stv (plainE (paidE s t) t).1 v1), .v 5 72 (.int .i64 0)] trivial ?_
      replace hL1 := hL1.off hM.a0 zS_str (stc ((plainE (paidE s t) t).1) v1).toArray
      refine sF _ _ _ (rsto_st hM.a0 (stc_len _ _) ((plainE (paidE s t) t).1) hv1) ?_
      replace hM := hM.set 0 (cs' := stc ((plainE (paidE s t) t).1) v1) rfl rfl
      generalize World.setRow _ _ _ = Y64 at *
      refine tF 8 [.v 7 13 (.int .i64 0)] trivial ?_
      refine eF ?_
      go_upto_region 22 with fail
      refine wp_region_fromM (fun W => Mem w none [(G, 39, stc ((plainE (paidE s t) t).1) v1), (N, 27, ws (nw (s.bu + 1))), (K, 36, bkc (takeB s.pu t.fr 0 1).1), (R, 39, stc zS nilV), (X, 50, txc t), (P, 39, stc (paidE s t) v)] W ∧ RSl lkc 0 W.heap.size W v1 ((plainE (paidE s t) t).1).lk) ⟨hM, hL1⟩ ?_
      clear hM hL1
      rintro Y65 ⟨hM, hL1⟩
      refine tF 2 [.v 0 97 (.int .i64 0), .v 1 98 (.bool false)] trivial ?_
      refine eF ?_
      go_upto_region 24 with fail
      refine wp_region_fromM (fun W => Mem w none [(G, 39, stc ((plainE (paidE s t) t).1) v1), (N, 27, ws (nw (s.bu + 1))), (K, 36, bkc (takeB s.pu t.fr 0 1).1), (R, 39, stc zS nilV), (X, 50, txc t), (P, 39, stc (paidE s t) v)] W ∧ RSl lkc 0 W.heap.size W v1 ((plainE (paidE s t) t).1).lk) ⟨hM, hL1⟩ ?_
      clear hM hL1
      rintro Y66 ⟨hM, hL1⟩
      refine tF 1 [.l 0 101 39 (pt G 0) (stv ((plainE (paidE s t) t).1) (v1))] ⟨rld_st (s := (plainE (paidE s t) t).1) hM.a0, trivial⟩ ?_
      replace hL1 := hL1.off hM.a3 zS_str (stc ((plainE (paidE s t) t).1) v1).toArray
      refine sF _ _ _ (rsto_st hM.a3 (stc_len _ _) ((plainE (paidE s t) t).1) hv1) ?_
      replace hM := hM.set 3 (cs' := stc ((plainE (paidE s t) t).1) v1) rfl rfl
      generalize World.setRow _ _ _ = Y67 at *
      refine tF 4 [.v 2 5 (.int .i64 0), .v 3 6 (.bool true)] trivial ?_
      refine eF ?_
      have fin : RApplyR (applyE orcB s t) w (.returned (.tuple #[stv ((plainE (paidE s t) t).1) v1, .int .i64 0, .bool true])) Y67 := RApplyR.of (by unfold applyE; rw [if_neg (not_not_intro h1.out), if_neg (not_not_intro h2.out), if_neg (fun e => e.elim (fun e => e h3.out) fun e => e h4.out), if_neg (not_not_intro hd0.out), hD]) hv1 (hL1) hM.b
      go_wp2_with fail
      exact bodyPost_ret (v := .tuple #[stv ((plainE (paidE s t) t).1) v1, .int .i64 0, .bool true]) (res_rap rfl _ rfl rfl rfl hM.a3) rfl fin
     have hd := Lib.hid hq
     clear hq
     have hd0 : Hid ((doneE orcB (paidE s t) t).2 ≠ 0) := Lib.hid (by rw [hD]; exact hd.out)
     go_upto_region 15 with fail
     refine wp_region_fromM _ hM ?_
     clear hM
     rintro Y68 hM
     refine tF 2 [.l 0 68 39 (pt P 0) (stv (paidE s t) (v)), .l 1 69 50 (pt X 0) (txv t)] ⟨rld_st (s := paidE s t) hM.a5, ld_tx hM.a4, trivial⟩ ?_
     refine cF (some 70) 38 #[stv (paidE s t) (v), txv t] ((((refPlain_esc (paidE s t) v hs1 t ht h1.out _ (show RSl lkc lo hi _ v (paidE s t).lk from HL.out.below hM.b hhi) (Nat.le_trans hhi hM.size)).mono fun _ _ h => h.no hd.out)).mono ?_)
     rintro e W1 ⟨s1, v1, rfl, hv1, hb⟩
     have hGl := hM.a0.lt
     replace hM := hM.below hb
     clear hb
     refine tF 6 [.v 3 67 (.tuple #[stv s1 v1, .int .i64 (plainE (paidE s t) t).2]), .v 4 71 (stv s1 v1), .v 5 72 (.int .i64 (plainE (paidE s t) t).2)] trivial ?_
     refine sF _ _ _ (rsto_st hM.a0 (stc_len _ _) (s1) hv1) ?_
     replace hM := hM.set 0 (cs' := stc (s1) v1) rfl rfl
     generalize World.setRow _ _ _ = Y69 at *
     refine tF 8 [.v 7 13 (.int .i64 (plainE (paidE s t) t).2)] trivial ?_
     refine eF ?_
     go_upto_region 22 with fail
     refine wp_region_fromM _ hM ?_
     clear hM
     rintro Y70 hM
     refine tF 2 [.v 0 97 (.int .i64 (plainE (paidE s t) t).2), .a 1 98 (.bool ((plainE (paidE s t) t).2 != 0)) (.bool true)] ⟨cB (bne_iff_ne.2 hd.out), trivial⟩ ?_
     refine eF ?_
     go_upto_region 23 with fail
     refine wp_region_fromM _ hM ?_
     clear hM
     rintro Y71 hM
     refine tF 2 [.l 0 99 39 (pt P 0) (stv (paidE s t) (v)), .v 1 100 (.int .i64 (plainE (paidE s t) t).2)] ⟨rld_st (s := paidE s t) hM.a5, trivial⟩ ?_
     refine sF _ _ _ (rsto_st hM.a3 (stc_len _ _) (paidE s t) hv) ?_
     replace hM := hM.set 3 (cs' := stc (paidE s t) v) rfl rfl
     generalize World.setRow _ _ _ = Y72 at *
     refine tF 5 [.v 3 5 (.int .i64 (plainE (paidE s t) t).2), .v 4 6 (.bool true)] trivial ?_
     refine eF ?_
     have fin : RApplyR (applyE orcB s t) w (.returned (.tuple #[stv (paidE s t) v, .int .i64 (plainE (paidE s t) t).2, .bool true])) Y72 := RApplyR.of (by unfold applyE; rw [if_neg (not_not_intro h1.out), if_neg (not_not_intro h2.out), if_neg (fun e => e.elim (fun e => e h3.out) fun e => e h4.out), if_pos hd0.out, hD]) hv (HL.out.all hhi hM.b) hM.b
     go_wp2_with fail
     exact bodyPost_ret (v := .tuple #[stv (paidE s t) v, .int .i64 (plainE (paidE s t) t).2, .bool true]) (res_rap rfl _ rfl rfl rfl hM.a3) rfl fin
    have h4 := Lib.hid hq
    clear hq
    go_upto_region 8 with fail
    refine wp_region_fromM _ hM ?_
    clear hM
    rintro Y73 hM
    refine tF 6 [.a 0 46 (.bool (decide ((takeB s.pu t.fr 0 1).2 = 0))) (.bool true), .v 1 47 (.bool false), .v 2 48 (.bool false), .a 3 49 (.bool (fitB s.bu 1)) (.bool false), .v 4 50 (.bool true), .v 5 51 (.bool true)] ⟨cB (decide_eq_true h6.out), cB (decide_eq_false h4.out), trivial⟩ ?_
    refine eF ?_
    go_upto_region 9 with fail
    refine wp_region_fromM _ hM ?_
    clear hM
    rintro Y74 hM
    refine tF 1 [.l 0 52 39 (pt P 0) (stv (s) (v))] ⟨rld_st (s := s) hM.a4, trivial⟩ ?_
    refine sF _ _ _ (rsto_st hM.a2 (stc_len _ _) (s) hv) ?_
    replace hM := hM.set 2 (cs' := stc (s) v) rfl rfl
    generalize World.setRow _ _ _ = Y75 at *
    refine tF 4 [.v 2 5 (.int .i64 21), .v 3 6 (.bool false)] trivial ?_
    refine eF ?_
    have fin : RApplyR (applyE orcB s t) w (.returned (.tuple #[stv (s) v, .int .i64 21, .bool false])) Y75 := RApplyR.of (by unfold applyE; rw [if_neg (not_not_intro h1.out), if_neg (not_not_intro h2.out), if_pos (.inr h4.out)]) hv (HL.out.all hhi hM.b) hM.b
    go_wp2_with fail
    exact bodyPost_ret (v := .tuple #[stv (s) v, .int .i64 21, .bool false]) (res_rap rfl _ rfl rfl rfl hM.a2) rfl fin
   have h3 := Lib.hid hq
   clear hq
   have h6 : Hid (¬ (takeB s.pu t.fr 0 1).2 = 0) := Lib.hid (by rw [takeB_low a1 h3.out]; exact n30)
   go_upto_region 8 with fail
   refine wp_region_fromM _ hM ?_
   clear hM
   rintro Y76 hM
   refine tF 6 [.a 0 46 (.bool (decide ((takeB s.pu t.fr 0 1).2 = 0))) (.bool false), .v 1 47 (.bool true), .v 2 48 (.bool true), .skip 3 (some 49), .skip 4 (some 50), .v 5 51 (.bool true)] ⟨cB (decide_eq_false h6.out), trivial⟩ ?_
   refine eF ?_
   go_upto_region 9 with fail
   refine wp_region_fromM _ hM ?_
   clear hM
   rintro Y77 hM
   refine tF 1 [.l 0 52 39 (pt P 0) (stv (s) (v))] ⟨rld_st (s := s) hM.a4, trivial⟩ ?_
   refine sF _ _ _ (rsto_st hM.a2 (stc_len _ _) (s) hv) ?_
   replace hM := hM.set 2 (cs' := stc (s) v) rfl rfl
   generalize World.setRow _ _ _ = Y78 at *
   refine tF 4 [.v 2 5 (.int .i64 21), .v 3 6 (.bool false)] trivial ?_
   refine eF ?_
   have fin : RApplyR (applyE orcB s t) w (.returned (.tuple #[stv (s) v, .int .i64 21, .bool false])) Y78 := RApplyR.of (by unfold applyE; rw [if_neg (not_not_intro h1.out), if_neg (not_not_intro h2.out), if_pos (.inl h3.out)]) hv (HL.out.all hhi hM.b) hM.b
   go_wp2_with fail
   exact bodyPost_ret (v := .tuple #[stv (s) v, .int .i64 21, .bool false]) (res_rap rfl _ rfl rfl rfl hM.a2) rfl fin
  have h2 := Lib.hid hq
  clear hq
  go_upto_region 4 with fail
  refine wp_region_M (fun W => Mem w none [(R, 39, stc zS nilV), (X, 50, txc t), (P, 39, stc s v)] W) (fun W => Mem w none [(R, 39, stc zS nilV), (X, 50, txc t), (P, 39, stc s v)] W) hmx hM.drew ?_
  clear hM
  rintro Y79 hM
  have hS := hM.sub (.cons_cons _ (.cons_cons _ (.cons_cons _ .slnil)))
  refine tD 0 [.v 0 20 (pt X 1), .l 1 21 3 (pt X 1) (.int .i64 t.no), .v 2 22 (pt X 0), .l 3 23 3 (pt X 0) (.int .i64 t.fr), .v 4 24 (pt P 130), .x 5 25 31 (pt P 130) (.int .i64 t.fr) (pt P (130 + t.fr.toNat)), .l 6 26 3 (pt P (130 + t.fr.toNat)) (.int .i64 (s.no (t.fr.toNat))), .a 7 27 (.bool (t.no != s.no t.fr.toNat)) (.bool true)] ⟨fun W h => ld_int h.a1 1 rfl, fun W h => ld_int h.a1 0 rfl, fun W h => idx_noI hfr, fun W h => ld_no (s := s) h.a2 (by omega), cB (bne_iff_ne.2 h2.out), trivial⟩ hS ?_
  refine eD ?_
  clear hS
  go_upto_region 5 with fail
  refine wp_region_fromM _ hM ?_
  clear hM
  rintro Y80 hM
  refine tF 1 [.l 0 28 39 (pt P 0) (stv (s) (v))] ⟨rld_st (s := s) hM.a2, trivial⟩ ?_
  refine sF _ _ _ (rsto_st hM.a0 (stc_len _ _) (s) hv) ?_
  replace hM := hM.set 0 (cs' := stc (s) v) rfl rfl
  generalize World.setRow _ _ _ = Y81 at *
  refine tF 4 [.v 2 5 (.int .i64 20), .v 3 6 (.bool false)] trivial ?_
  refine eF ?_
  have fin : RApplyR (applyE orcB s t) w (.returned (.tuple #[stv (s) v, .int .i64 20, .bool false])) Y81 := RApplyR.of (by unfold applyE; rw [if_neg (not_not_intro h1.out), if_pos h2.out]) hv (HL.out.all hhi hM.b) hM.b
  go_wp2_with fail
  exact bodyPost_ret (v := .tuple #[stv (s) v, .int .i64 20, .bool false]) (res_rap rfl _ rfl rfl rfl hM.a0) rfl fin
 have h1 := Lib.hid hq
 clear hq
 go_upto_region 2 with fail
 refine wp_region_fromM _ hM ?_
 clear hM
 rintro Y82 hM
 refine tF 2 [.v 0 16 (.int .i64 (errT t)), .a 1 17 (.bool (errT t != 0)) (.bool true)] ⟨cB (bne_iff_ne.2 h1.out), trivial⟩ ?_
 refine eF ?_
 go_upto_region 3 with fail
 refine wp_region_fromM _ hM ?_
 clear hM
 rintro Y83 hM
 refine tF 2 [.l 0 18 39 (pt P 0) (stv (s) (v)), .v 1 19 (.int .i64 (errT t))] ⟨rld_st (s := s) hM.a2, trivial⟩ ?_
 refine sF _ _ _ (rsto_st hM.a0 (stc_len _ _) (s) hv) ?_
 replace hM := hM.set 0 (cs' := stc (s) v) rfl rfl
 generalize World.setRow _ _ _ = Y84 at *
 refine tF 5 [.v 3 5 (.int .i64 (errT t)), .v 4 6 (.bool false)] trivial ?_
 refine eF ?_
 have fin : RApplyR (applyE orcB s t) w (.returned (.tuple #[stv (s) v, .int .i64 (errT t), .bool false])) Y84 := RApplyR.of (by unfold applyE; rw [if_pos h1.out]) hv (HL.out.all hhi hM.b) hM.b
 go_wp2_with fail
 exact bodyPost_ret (v := .tuple #[stv (s) v, .int .i64 (errT t), .bool false]) (res_rap rfl _ rfl rfl rfl hM.a0) rfl fin
end Go.Proofs.YthhmdgmmeedhdaaGreat
namespace Go.Proofs.YthhmdgmmeedhdaaGreat
open Go.ChangeShapes Go.WideShapes Go.ChangeAt Go.RowKit
theorem Tryz.own : ownKnob Tryz.prog.godebug = none := by kernel_rfl
theorem Tryz.laidOut : laidOutB Tryz.prog = true := by kernel_rfl
theorem wf_i64 {x : Int} (h : (Lit.int .i64 x).wf = true) : -9223372036854775808 ≤ x ∧ x ≤ 9223372036854775807 := by
 simp [Lit.wf, IntKind.min, IntKind.max, IntKind.bits, IntKind.signed] at h
 omega
theorem list_of {α : Type} {Q : Nat → α → Prop} : ∀ {n : Nat}, (∀ i, i < n → ∃ x, Q i x) → ∃ l : List α, l.length = n ∧ ∀ k x, l[k]? = some x → Q k x
 | 0, _ => ⟨[], rfl, fun k x h => by simp at h⟩
 | n + 1, h => by
  obtain ⟨l, hl, hq⟩ := list_of (n := n) (fun i hi => h i (by omega))
  obtain ⟨y, hy⟩ := h n (by omega)
  refine ⟨l ++ [y], by simp [hl], fun k x hx => ?_⟩
  by_cases hk : k < n
  ·
   rw [List.getElem?_append_left (by omega)] at hx
   exact hq k x hx
  ·
   rw [List.getElem?_append_right (by omega)] at hx
   have : k = n := by
    have := (List.getElem?_eq_some_iff.1 hx).1
    simp at this
    omega
   subst this
   simp [hl] at hx
   rw [← hx]; exact hy
theorem add_plain (b off q : Nat) : (⟨b, off, none⟩ : Addr).add q = ⟨b, off + q, none⟩ := by cases q <;> simp [Addr.add]
end Go.Proofs.YthhmdgmmeedhdaaGreat
namespace Go.Proofs.YthhmdgmmeedhdaaGreat
open Go.ChangeShapes Go.WideShapes Go.ChangeAt Go.RowKit
theorem Tryz.cells24 : Tryz.prog.cellsOf 27 = 4 := by kernel_rfl
theorem Tryz.cells22 : Tryz.prog.cellsOf 25 = 1 := by kernel_rfl
theorem wf_u64 {x : Int} (h : (Lit.int .u64 x).wf = true) : ∃ n : Nat, x = (n : Int) ∧ n < M := by
 have h' : 0 ≤ x ∧ x < 18446744073709551616 := by
  simp [Lit.wf, IntKind.min, IntKind.max, IntKind.bits, IntKind.signed] at h
  omega
 obtain ⟨n, rfl⟩ := Int.eq_ofNat_of_zero_le h'.1
 exact ⟨n, rfl, by unfold M; omega⟩
end Go.Proofs.YthhmdgmmeedhdaaGreat
namespace Go.Proofs.YthhmdgmmeedhdaaGreat
theorem Tryz.cellsInt : Tryz.prog.cellsOf 3 = 1 := by kernel_rfl
theorem Tryz.cellsStr : Tryz.prog.cellsOf 9 = 1 := by kernel_rfl
end Go.Proofs.YthhmdgmmeedhdaaGreat
namespace Go.Proofs.YthhmdgmmeedhdaaGreat
open Go.ChangeShapes Go.WideShapes Go.ChangeAt Go.RowKit Go.Deep
theorem sized_in {H : Type} {P : Program} {ts : List TypeId} {ds : List (DataW H)} (h : (DataW.weightsEach P ts ds).all (· ≤ reachBytes) = true) {j : Nat} {t : TypeId} {d : DataW H} (ht : ts[j]? = some t) (hd : ds[j]? = some d) (n : Nat) (hn : n ∈ d.weights P t) : n ≤ 140737488351232 := by
 have := List.all_eq_true.1 h _ (DataW.weights_mem_each ht hd n hn)
 have h2 := of_decide_eq_true this
 simp only [reachBytes] at h2
 exact h2
theorem weightsAll_mem {H : Type} {P : Program} {e : TypeId} : ∀ {l : List (DataW H)} {d : DataW H}, d ∈ l → ∀ n ∈ d.weights P e, n ∈ DataW.weightsAll P e l
 | [], _, h, _, _ => by cases h
 | x :: l, d, h, n, hn => by
  simp only [DataW.weightsAll, List.mem_append]
  rcases List.mem_cons.1 h with rfl | h
  ·
   exact .inl hn
  ·
   exact .inr (weightsAll_mem h n hn)
end Go.Proofs.YthhmdgmmeedhdaaGreat
namespace Go.Proofs.YthhmdgmmeedhdaaGreat
open Go.ChangeShapes Go.WideShapes Go.ChangeAt Go.RowKit Go.Deep
theorem Tryz.cellsInv : Tryz.prog.cellsOf 46 = 7 := by kernel_rfl
theorem Tryz.cellsVar : Tryz.prog.cellsOf 48 = 5 := by kernel_rfl
set_option maxRecDepth 100000 in
theorem trod_inv {H : Type} {enc : TypeId × Value → H} {w : World} {base : Nat} {spare : Nat → Bool} {held : Bool} {fuel : Nat} {cs : List Value} {x : DataW H × List MemPlace}
  (h : DataW.trod enc Tryz.prog w base spare held fuel 46 cs = some x) :
  ∃ i : Trf, cs = ivc i ∧ i.rt.data.toList.length ∈ x.1.weights Tryz.prog 46 ∧ i.id.data.toList.length ∈ x.1.weights Tryz.prog 46 := by
 obtain ⟨xs, n, _, hx, hcl, hlen, hg⟩ := DataW.trod_struct Tryz.underlying46 h
 rw [Tryz.cellsInv] at hcl
 match cs, hcl with
 | [c0, c1, c2, c3, c4, c5, c6], _ =>
 match xs, hlen with
 | [y0, y1, y2, y3, y4, y5, y6], _ =>
 have h0 := hg 0 ⟨ "User", 3, 0, false, "", "", 0⟩ rfl
 have h1 := hg 1 ⟨ "Root", 9, 1, false, "", "", 8⟩ rfl
 have h2 := hg 2 ⟨ "Router", 3, 2, false, "", "", 24⟩ rfl
 have h3 := hg 3 ⟨ "Send", 3, 3, false, "", "", 32⟩ rfl
 have h4 := hg 4 ⟨ "Recv", 3, 4, false, "", "", 40⟩ rfl
 have h5 := hg 5 ⟨ "To", 3, 5, false, "", "", 48⟩ rfl
 have h6 := hg 6 ⟨ "Id", 9, 6, false, "", "", 56⟩ rfl
 dsimp only at h0 h1 h2 h3 h4 h5 h6
 rw [Tryz.cellsInt] at h0 h2 h3 h4 h5
 rw [Tryz.cellsStr] at h1 h6
 simp only [List.drop_succ_cons, List.drop_zero, List.take_succ_cons, List.take_zero, List.getElem?_cons_zero, List.getElem?_cons_succ] at h0 h1 h2 h3 h4 h5 h6
 obtain ⟨z0, e0, hx0, wf0⟩ := DataW.trod_int Tryz.underlying3 h0
 obtain ⟨s1, e1, hx1, _⟩ := DataW.trod_string Tryz.underlying9 h1
 obtain ⟨z2, e2, hx2, wf2⟩ := DataW.trod_int Tryz.underlying3 h2
 obtain ⟨z3, e3, hx3, wf3⟩ := DataW.trod_int Tryz.underlying3 h3
 obtain ⟨z4, e4, hx4, wf4⟩ := DataW.trod_int Tryz.underlying3 h4
 obtain ⟨z5, e5, hx5, wf5⟩ := DataW.trod_int Tryz.underlying3 h5
 obtain ⟨s6, e6, hx6, _⟩ := DataW.trod_string Tryz.underlying9 h6
 simp at e0 e1 e2 e3 e4 e5 e6
 subst e0 e1 e2 e3 e4 e5 e6
 refine ⟨⟨z0, s1, z2, z3, z4, z5, s6⟩, rfl, ?_, ?_⟩
 ·
  rw [hx]
  have : y1.1 = .lit (.string s1.data.toList) := by rw [hx1]
  simp [DataW.weights, DataW.weightsEach, Tryz.underlying46, this]
 ·
  rw [hx]
  have : y6.1 = .lit (.string s6.data.toList) := by rw [hx6]
  simp [DataW.weights, DataW.weightsEach, Tryz.underlying46, this]
set_option maxRecDepth 100000 in
theorem trod_var {H : Type} {enc : TypeId × Value → H} {w : World} {base : Nat} {spare : Nat → Bool} {held : Bool} {fuel : Nat} {cs : List Value} {x : DataW H × List MemPlace}
  (h : DataW.trod enc Tryz.prog w base spare held fuel 48 cs = some x) :
  ∃ v : Sid, cs = svc v ∧ Ok4 v.a0 v.a1 v.a2 v.a3 := by
 obtain ⟨xs, n, _, hx, hcl, hlen, hg⟩ := DataW.trod_struct Tryz.underlying48 h
 rw [Tryz.cellsVar] at hcl
 match cs, hcl with
 | [c0, c1, c2, c3, c4], _ =>
 match xs, hlen with
 | [y0, y1], _ =>
 have h0 := hg 0 ⟨ "Amount", 27, 0, false, "", "", 0⟩ rfl
 have h1 := hg 1 ⟨ "Expiry", 3, 4, false, "", "", 32⟩ rfl
 dsimp only at h0 h1
 rw [Tryz.cells24] at h0
 rw [Tryz.cellsInt] at h1
 simp only [List.drop_succ_cons, List.drop_zero, List.take_succ_cons, List.take_zero, List.getElem?_cons_zero, List.getElem?_cons_succ] at h0 h1
 obtain ⟨u0, u1, u2, u3, m, hx3, g0, g1, g2, g3⟩ := trod_array4 Tryz.underlying27 Tryz.cells22 h0
 obtain ⟨v0, k0, _, wg0⟩ := DataW.trod_int Tryz.underlying25 g0
 obtain ⟨v1, k1, _, wg1⟩ := DataW.trod_int Tryz.underlying25 g1
 obtain ⟨v2, k2, _, wg2⟩ := DataW.trod_int Tryz.underlying25 g2
 obtain ⟨v3, k3, _, wg3⟩ := DataW.trod_int Tryz.underlying25 g3
 obtain ⟨z1, e1, hx1, wf1⟩ := DataW.trod_int Tryz.underlying3 h1
 obtain ⟨a0, rfl, q0⟩ := wf_u64 wg0
 obtain ⟨a1, rfl, q1⟩ := wf_u64 wg1
 obtain ⟨a2, rfl, q2⟩ := wf_u64 wg2
 obtain ⟨a3, rfl, q3⟩ := wf_u64 wg3
 simp at e1 k0 k1 k2 k3
 subst e1 k0 k1 k2 k3
 exact ⟨⟨a0, a1, a2, a3, z1⟩, rfl, ⟨q0, q1, q2, q3⟩⟩
end Go.Proofs.YthhmdgmmeedhdaaGreat
namespace Go.Proofs.YthhmdgmmeedhdaaGreat
open Go.ChangeShapes Go.WideShapes Go.ChangeAt Go.RowKit Go.Deep
theorem Tryz.cellsTx : Tryz.prog.cellsOf 50 = 25 := by kernel_rfl
theorem trod_wide4 {H : Type} {enc : TypeId × Value → H} {w : World} {base : Nat} {spare : Nat → Bool} {held : Bool} {fuel : Nat} {c0 c1 c2 c3 : Value} {x : DataW H × List MemPlace}
  (h : DataW.trod enc Tryz.prog w base spare held fuel 27 [c0, c1, c2, c3] = some x) :
  ∃ a0 a1 a2 a3 : Nat, c0 = .int .u64 (a0 : Int) ∧ c1 = .int .u64 (a1 : Int) ∧ c2 = .int .u64 (a2 : Int) ∧ c3 = .int .u64 (a3 : Int) ∧ Ok4 a0 a1 a2 a3 := by
 obtain ⟨u0, u1, u2, u3, m, hx3, g0, g1, g2, g3⟩ := trod_array4 Tryz.underlying27 Tryz.cells22 h
 obtain ⟨v0, k0, _, wg0⟩ := DataW.trod_int Tryz.underlying25 g0
 obtain ⟨v1, k1, _, wg1⟩ := DataW.trod_int Tryz.underlying25 g1
 obtain ⟨v2, k2, _, wg2⟩ := DataW.trod_int Tryz.underlying25 g2
 obtain ⟨v3, k3, _, wg3⟩ := DataW.trod_int Tryz.underlying25 g3
 obtain ⟨a0, rfl, q0⟩ := wf_u64 wg0
 obtain ⟨a1, rfl, q1⟩ := wf_u64 wg1
 obtain ⟨a2, rfl, q2⟩ := wf_u64 wg2
 obtain ⟨a3, rfl, q3⟩ := wf_u64 wg3
 simp at k0 k1 k2 k3
 exact ⟨a0, a1, a2, a3, k0, k1, k2, k3, ⟨q0, q1, q2, q3⟩⟩
set_option maxRecDepth 100000 in
set_option maxHeartbeats 1000000 in
theorem trod_tx {H : Type} {enc : TypeId × Value → H} {w : World} {base : Nat} {spare : Nat → Bool} {held : Bool} {fuel : Nat} {cs : List Value} {x : DataW H × List MemPlace}
  (h : DataW.trod enc Tryz.prog w base spare held fuel 50 cs = some x) :
  ∃ t : Tr, cs = txc t ∧ OkT t := by
 obtain ⟨xs, n, _, hx, hcl, hlen, hg⟩ := DataW.trod_struct Tryz.underlying50 h
 rw [Tryz.cellsTx] at hcl
 match cs, hcl with
 | [c0, c1, c2, c3, c4, c5, c6, c7, c8, c9, c10, c11, c12, c13, c14, c15, c16, c17, c18, c19, c20, c21, c22, c23, c24], _ =>
 match xs, hlen with
 | [y0, y1, y2, y3, y4, y5, y6, y7, y8], _ =>
 have h0 := hg 0 ⟨ "From", 3, 0, false, "", "", 0⟩ rfl
 have h1 := hg 1 ⟨ "Nonce", 3, 1, false, "", "", 8⟩ rfl
 have h2 := hg 2 ⟨ "Kind", 3, 2, false, "", "", 16⟩ rfl
 have h3 := hg 3 ⟨ "Asset", 3, 3, false, "", "", 24⟩ rfl
 have h4 := hg 4 ⟨ "Amount", 27, 4, false, "", "", 32⟩ rfl
 have h5 := hg 5 ⟨ "Inv", 46, 8, false, "", "", 64⟩ rfl
 have h6 := hg 6 ⟨ "Var", 48, 15, false, "", "", 136⟩ rfl
 have h7 := hg 7 ⟨ "Fee", 27, 20, false, "", "", 176⟩ rfl
 have h8 := hg 8 ⟨ "Sig", 9, 24, false, "", "", 208⟩ rfl
 dsimp only at h0 h1 h2 h3 h4 h5 h6 h7 h8
 rw [Tryz.cellsInt] at h0 h1 h2 h3
 rw [Tryz.cells24] at h4 h7
 rw [Tryz.cellsInv] at h5
 rw [Tryz.cellsVar] at h6
 rw [Tryz.cellsStr] at h8
 simp only [List.drop_succ_cons, List.drop_zero, List.take_succ_cons, List.take_zero, List.getElem?_cons_zero, List.getElem?_cons_succ] at h0 h1 h2 h3 h4 h5 h6 h7 h8
 obtain ⟨z0, e0, _, _⟩ := DataW.trod_int Tryz.underlying3 h0
 obtain ⟨z1, e1, _, _⟩ := DataW.trod_int Tryz.underlying3 h1
 obtain ⟨z2, e2, _, _⟩ := DataW.trod_int Tryz.underlying3 h2
 obtain ⟨z3, e3, _, _⟩ := DataW.trod_int Tryz.underlying3 h3
 obtain ⟨a0, a1, a2, a3, f0, f1, f2, f3, hk⟩ := trod_wide4 h4
 obtain ⟨i, hi, _, _⟩ := trod_inv h5
 obtain ⟨v, hv, hk2⟩ := trod_var h6
 obtain ⟨b0, b1, b2, b3, g0, g1, g2, g3, hk3⟩ := trod_wide4 h7
 obtain ⟨s8, e8, _, _⟩ := DataW.trod_string Tryz.underlying9 h8
 simp at e0 e1 e2 e3 e8
 simp only [ivc, List.cons.injEq, and_true] at hi
 simp only [svc, List.cons.injEq, and_true] at hv
 obtain ⟨q0, q1, q2, q3, q4, q5, q6⟩ := hi
 obtain ⟨r0, r1, r2, r3, r4⟩ := hv
 subst e0 e1 e2 e3 f0 f1 f2 f3 q0 q1 q2 q3 q4 q5 q6 r0 r1 r2 r3 r4 g0 g1 g2 g3 e8
 exact ⟨⟨z0, z1, z2, z3, a0, a1, a2, a3, i, v, b0, b1, b2, b3, s8⟩, rfl, ⟨hk, hk2, hk3⟩⟩
end Go.Proofs.YthhmdgmmeedhdaaGreat
namespace Go.Proofs.YthhmdgmmeedhdaaGreat
open Go.ChangeShapes Go.WideShapes Go.ChangeAt Go.RowKit Go.Deep
theorem open_rsl {α : Type} {f : α → List Value} {n : Nat} {T E : TypeId} {P : α → Prop} (hn : ∀ x, (f x).length = n) (h0n : 0 < n) (hu : Tryz.prog.underlying T = some (.slice E)) (hc : Tryz.prog.cellsOf E = n)
  {H : Type} {enc : TypeId × Value → H} {W : World} {base : Nat} {spare : Nat → Bool} {held : Bool} {a : Option Addr} {len cap : Nat} {d : DataW H} {p : List MemPlace}
  (hopen : ∀ (fuel : Nat) (cs : List Value) (x : DataW H × List MemPlace), DataW.trod enc Tryz.prog W base spare held fuel E cs = some x → (∀ m ∈ x.1.weights Tryz.prog E, m ≤ 140737488351232) → ∃ y, P y ∧ cs = f y)
  (h : DataW.Trod enc Tryz.prog W base spare held T (.slice a len cap) d p) (hw : ∀ m ∈ d.weights Tryz.prog T, m ≤ 140737488351232) :
  ∃ l : List α, RSl f 0 W.heap.size W (.slice a len cap) l ∧ ∀ x ∈ l, P x := by
 obtain ⟨fuel, hf⟩ := h
 rcases open_slice hu hf with h0 | ⟨ad, l, c, m, q, D, Pl, hcs, hb, hl, hm, hmm, hx, hi⟩
 ·
  obtain ⟨hcs, _⟩ := h0
  simp [Value.cells] at hcs
  obtain ⟨rfl, rfl, rfl⟩ := hcs
  exact ⟨[], RSl.nil _ _ _, fun x hx => by simp at hx⟩
 ·
  simp [Value.cells] at hcs
  obtain ⟨rfl, rfl, rfl⟩ := hcs
  have hlm : len ≤ m := by rw [hmm]; split <;> omega
  have hd : d = .slice ((List.range len).map D) ((List.range (m - len)).map fun j => D (len + j)) := (Prod.mk.inj hx).1
  have hwe : ∀ i, i < len → ∀ k ∈ (D i).weights Tryz.prog E, k ≤ 140737488351232 := fun i hil k hk => by
   refine hw k ?_
   rw [hd]
   simp only [DataW.weights, hu, List.mem_cons, List.mem_append]
   exact .inr (.inl (weightsAll_mem (List.mem_map.2 ⟨i, List.mem_range.2 hil, rfl⟩) k hk))
  have key : ∀ i, i < len → ∃ y : α, P y ∧ ∀ j v, (f y)[j]? = some v → W.cell? (ad.add (i * n + j)) = some v := fun i hil => by
   obtain ⟨cs', hcc, ht⟩ := hi i (by omega)
   rw [hc] at hcc
   obtain ⟨y, hy, rfl⟩ := hopen _ _ _ ht (hwe i hil)
   obtain ⟨_, hcl, hat⟩ := World.cells?_some hcc
   refine ⟨y, hy, fun j v hv => ?_⟩
   have hj : j < n := by have := (List.getElem?_eq_some_iff.1 hv).1; rwa [hn] at this
   have := hat j hj
   rw [add_add] at this
   rw [this, hv]
  obtain ⟨l, hl', hp⟩ := list_of key
  subst hl'
  refine ⟨l, ?_, fun x hx => ?_⟩
  ·
   refine ⟨some ad, cap, rfl, hl, hm, ?_⟩
   by_cases hl0 : l = []
   ·
    exact .inl hl0
   ·
    obtain ⟨y0, l', rfl⟩ := List.exists_cons_of_ne_nil hl0
    obtain ⟨v0, hv0⟩ : ∃ v0, (f y0)[0]? = some v0 := ⟨_, List.getElem?_eq_getElem (by rw [hn]; exact h0n)⟩
    have h0 := (hp 0 y0 rfl).2 0 _ hv0
    obtain ⟨b, off, sp⟩ := ad
    have hsp : sp = none := by
     cases sp with
     | none => rfl
     | some _ => simp [Addr.add, World.cell?] at h0; split at h0 <;> simp at h0
    subst hsp
    rw [Nat.zero_mul, Nat.zero_add, add_plain] at h0
    refine .inr ⟨b, off, rfl, Nat.zero_le _, World.block_lt_of_cell? W _ h0, fun k v hk => ?_⟩
    have hkl : k < (y0 :: l').length * n := by have := (List.getElem?_eq_some_iff.1 hk).1; rwa [flat_len hn] at this
    have hq : k / n < (y0 :: l').length := Nat.div_lt_of_lt_mul (by rw [Nat.mul_comm]; exact hkl)
    have hy := List.getElem?_eq_getElem hq
    have hmod : k % n < n := Nat.mod_lt _ h0n
    have hcell := flat_cell hn hy hmod
    rw [show k / n * n + k % n = k by rw [Nat.mul_comm]; exact Nat.div_add_mod k n, hk] at hcell
    have := (hp (k / n) _ hy).2 (k % n) v hcell.symm
    rw [add_plain, show k / n * n + k % n = k by rw [Nat.mul_comm]; exact Nat.div_add_mod k n] at this
    exact this
  ·
   obtain ⟨i, hi'⟩ := List.mem_iff_getElem?.1 hx
   exact (hp i x hi').1
end Go.Proofs.YthhmdgmmeedhdaaGreat
namespace Go.Proofs.YthhmdgmmeedhdaaGreat
open Go.ChangeShapes Go.WideShapes Go.ChangeAt Go.RowKit Go.Deep
set_option maxRecDepth 100000 in
theorem open_txs {H : Type} {enc : TypeId × Value → H} {W : World} {base : Nat} {spare : Nat → Bool} {held : Bool} {a : Option Addr} {len cap : Nat} {d : DataW H} {p : List MemPlace}
  (h : DataW.Trod enc Tryz.prog W base spare held 22 (.slice a len cap) d p) (hw : ∀ m ∈ d.weights Tryz.prog 22, m ≤ 140737488351232) :
  ∃ l : List Tr, RSl (fun t => txc t) 0 W.heap.size W (.slice a len cap) l ∧ ∀ x ∈ l, OkT x :=
 open_rsl (n := 25) (fun _ => rfl) (by omega) Tryz.underlying22 Tryz.cellsTx (fun _ _ _ hq _ => by obtain ⟨t, e, hk⟩ := trod_tx hq; exact ⟨t, hk, e⟩) h hw
set_option maxRecDepth 100000 in
theorem open_ints {H : Type} {enc : TypeId × Value → H} {W : World} {base : Nat} {spare : Nat → Bool} {held : Bool} {a : Option Addr} {len cap : Nat} {d : DataW H} {p : List MemPlace}
  (h : DataW.Trod enc Tryz.prog W base spare held 23 (.slice a len cap) d p) (hw : ∀ m ∈ d.weights Tryz.prog 23, m ≤ 140737488351232) :
  ∃ l : List Int, RSl (fun y : Int => [Value.int .i64 y]) 0 W.heap.size W (.slice a len cap) l ∧ ∀ x ∈ l, True :=
 open_rsl (n := 1) (P := fun _ => True) (fun _ => rfl) (by omega) Tryz.underlying23 Tryz.cellsInt (fun _ _ _ hq _ => by obtain ⟨z, e, _, _⟩ := DataW.trod_int Tryz.underlying3 hq; exact ⟨z, trivial, e⟩) h hw
end Go.Proofs.YthhmdgmmeedhdaaGreat
