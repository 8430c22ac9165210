/-
  escrow: what is taken out of a vault; deposit, withdraw; Which transfers and sides' data may be: deal's Check and Sound; Which transactions may be: txs's Check; Appending a slice of octets, nil or not; A range over a function whose body never leaves, where the iterator has a loop over an iterator of its own; A range over a function whose body never leaves: what is yielded is told by a relation of 
-/
import Derived.Outline
import Derived.Great.BuildSlice
import Derived.WalkSpells
import Derived.Laws.CopyOwn
import Derived.Laws.OwnMore
import Derived.RangeFuncNested
import Derived.RangeFuncCalls
import Derived.RangeFuncIn
import Derived.WalkKit
import Derived.Test.YthhmdgmmeedhdaaGreatProg
import Derived.Lib.ConvBytes
import Derived.Laws.AppendOwn
import Derived.Test.YthhmdgmmeedhdaaGreatR04
namespace Go.Proofs.YthhmdgmmeedhdaaGreat
open Go.RowKit Go.Shelf
def unvE (s : Es) (r a : Int) (n : Nat) : Es × Int := if (takeB s.va r a n).2 ≠ 0 then (s, 31) else ({ s with va := (takeB s.va r a n).1 }, 0)
set_option maxRecDepth 100000 in
set_option maxHeartbeats 4000000 in
theorem unvault_any (s : Es) (v : Value) (hs : OkK s.va) (r a : Int) {n : Nat} (hn : n < M4) {B : Nat} (w : World) (hB : Blk w B 34 (stc s v)) :
  Calls Tryz.prog 98 #[.pointer (some ⟨B, 0, none⟩), .int .i64 r, .int .i64 a, wn n] w (EndE w B v (unvE s r a n)) := by
 have hmx : Tryz.prog.follows .mixedOrders = true := by kernel_rfl
 have hM := (Mem.startB hB).allocN rfl 27 (ws (nw n))
 have HC := Lib.hid (fun W => bookTake_any s.va hs r a n hn W)
 clear hB
 go_enter Tryz.func98, Tryz.ntmps98
 go_upto_region 1 with fail
 go_cut [8, 9] (fun p f wc => ∃ N, p = .pointer (some ⟨N, 0, none⟩) ∧ f = .int .i64 (takeB s.va r a n).2 ∧ Mem w (some B) [(N, 30, bkc ((takeB s.va r a n).1)), (w.heap.size, 27, ws (nw n)), (B, 34, stc s v)] wc)
 case first =>
  refine wp_region_M (fun W => Mem w (some B) [(w.heap.size, 27, ws (nw n)), (B, 34, stc s v)] W) (fun W => Mem w (some B) [(w.heap.size, 27, ws (nw n)), (B, 34, stc s v)] W) hmx hM.drew ?_
  clear hM
  rintro Y1 hM
  have hS := hM.sub (.cons_cons _ (.cons_cons _ .slnil))
  refine tD 7 [.v 0 11 (pt B 0), .v 1 12 (pt B 0), .v 2 13 (pt B 66), .l 3 14 30 (pt B 66) (bkv s.va), .v 4 15 (.int .i64 r), .v 5 16 (.int .i64 a), .l 6 17 27 (pt w.heap.size 0) (wn (n))] ⟨fun W h => ld_va (s := s) h.a1, fun W h => load_wn h.a0, trivial⟩ hS ?_
  refine oT 7 11 6 ?_ ?_
  ·
   refine cD (some 18) _ _ ((HC.out _).mono ?_)
   rintro e Y2 ⟨rfl, hb⟩
   refine And.intro (hS.below hb) ?_
   replace hS := hS.below hb
   replace hM := hM.below hb
   clear hb
   refine tD 3 [.v 8 10 (.tuple #[bkv ((takeB s.va r a n).1), .int .i64 (takeB s.va r a n).2]), .v 9 19 (bkv ((takeB s.va r a n).1)), .v 10 20 (.int .i64 (takeB s.va r a n).2)] trivial hS ?_
   refine oD 11 2 (rD (some 8) (pt Y2.heap.size 0) (Y2.alloc (.cells (bkc noK).toArray 30)) (hS.other _) ?_)
   replace hS := hS.other (.cells (bkc noK).toArray 30)
   replace hM := hM.alloc 30 (bkc noK)
   generalize World.alloc _ _ = Y3 at *
   generalize Y2.heap.size = N at *
   have hM1 := hM.set 0 (cs' := bkc ((takeB s.va r a n).1)) rfl rfl
   refine oD 12 1 (sD _ _ (bkv ((takeB s.va r a n).1)) (sto_bk hM.a0 _) (hM1.sub (.cons _ (.cons_cons _ (.cons_cons _ .slnil)))) ?_)
   replace hS := hM1.sub (.cons _ (.cons_cons _ (.cons_cons _ .slnil)))
   replace hM := hM1
   clear hM1
   generalize World.setRow _ _ _ = Y4 at *
   refine tD 0 [.v 13 9 (.int .i64 (takeB s.va r a n).2)] trivial hS ?_
   refine eD ?_
   clear hS
   go_wp2_with fail
   go_meet
   exact ⟨_, rfl, rfl, hM⟩
  ·
   refine rD (some 8) (pt Y1.heap.size 0) (Y1.alloc (.cells (bkc noK).toArray 30)) (hS.other _) ?_
   replace hS := hS.other (.cells (bkc noK).toArray 30)
   replace hM := hM.alloc 30 (bkc noK)
   generalize World.alloc _ _ = Y5 at *
   generalize Y1.heap.size = N at *
   refine oD 7 5 (cD (some 18) _ _ ((HC.out _).mono ?_))
   rintro e Y6 ⟨rfl, hb⟩
   refine And.intro (hS.below hb) ?_
   replace hS := hS.below hb
   replace hM := hM.below hb
   clear hb
   refine tD 2 [.v 8 10 (.tuple #[bkv ((takeB s.va r a n).1), .int .i64 (takeB s.va r a n).2]), .v 9 19 (bkv ((takeB s.va r a n).1)), .v 10 20 (.int .i64 (takeB s.va r a n).2)] trivial hS ?_
   have hM1 := hM.set 0 (cs' := bkc ((takeB s.va r a n).1)) rfl rfl
   refine oD 12 1 (sD _ _ (bkv ((takeB s.va r a n).1)) (sto_bk hM.a0 _) (hM1.sub (.cons _ (.cons_cons _ (.cons_cons _ .slnil)))) ?_)
   replace hS := hM1.sub (.cons _ (.cons_cons _ (.cons_cons _ .slnil)))
   replace hM := hM1
   clear hM1
   generalize World.setRow _ _ _ = Y7 at *
   refine tD 0 [.v 13 9 (.int .i64 (takeB s.va r a n).2)] trivial hS ?_
   refine eD ?_
   clear hS
   go_wp2_with fail
   go_meet
   exact ⟨_, rfl, rfl, hM⟩
 case rest =>
  obtain ⟨N, rfl, rfl, hM⟩ := hcut
  go_upto_region 2 with fail
  refine wp_region_fromM _ hM ?_
  clear hM
  rintro Y8 hM
  refine tF 2 [.v 0 21 (.int .i64 (takeB s.va r a n).2), .v 1 22 (.bool ((takeB s.va r a n).2 == 0))] trivial ?_
  refine cF (some 23) 59 #[.bool ((takeB s.va r a n).2 == 0), .int .i64 31] ((demand_any _ _ _).mono ?_)
  rintro e W1 (⟨h, rfl, rfl⟩ | ⟨h, rfl, rfl⟩)
  case inr => exact And.intro rfl (EndE.pan hM.g (by decide) (by unfold unvE; rw [if_pos (ne_of_beq_false h)]) rfl (BlkN.of hM.a2))
  have h := eq_of_beq h
  refine eF ?_
  go_upto_region 3 with fail
  refine wp_region_fromM _ hM ?_
  clear hM
  rintro Y9 hM
  refine tF 4 [.v 0 24 (pt B 0), .l 1 25 30 (pt N 0) (bkv ((takeB s.va r a n).1)), .v 2 26 (pt B 0), .v 3 27 (pt B 66)] ⟨load_book hM.a0, trivial⟩ ?_
  refine sF _ _ (bkv ((takeB s.va r a n).1)) (sto_va hM.a2 _) ?_
  replace hM := hM.set 2 (cs' := stc { s with va := (takeB s.va r a n).1 } v) rfl rfl
  generalize World.setRow _ _ _ = Y10 at *
  refine eF ?_
  go_wp2_with fail
  go_end0
  exact EndE.ok hM.g (by unfold unvE; rw [if_neg (not_not_intro h)]) hM.a2
theorem growI_any (s : Es) (v : Value) {z : Int} (hz : 0 ≤ z ∧ z ≤ 1) (hh : s.he z.toNat < M4) {n : Nat} (hn : n < M4) {B : Nat} (w : World) (hB : Blk w B 34 (stc s v)) :
  Calls Tryz.prog 97 #[.pointer (some ⟨B, 0, none⟩), .int .i64 z, wn n] w (EndE w B v (growE s z.toNat n)) := by
 obtain ⟨a, rfl⟩ : ∃ a : Nat, z = a := ⟨z.toNat, by omega⟩
 exact esc_grow_any s v (by omega) hh hn w hB
theorem shrinkI_any (s : Es) (v : Value) {z : Int} (hz : 0 ≤ z ∧ z ≤ 1) (hh : s.he z.toNat < M4) {n : Nat} (hn : n < M4) {B : Nat} (w : World) (hB : Blk w B 34 (stc s v)) :
  Calls Tryz.prog 99 #[.pointer (some ⟨B, 0, none⟩), .int .i64 z, wn n] w (EndE w B v (shrinkE s z.toNat n)) := by
 obtain ⟨a, rfl⟩ : ∃ a : Nat, z = a := ⟨z.toNat, by omega⟩
 exact esc_shrink_any s v (by omega) hh hn w hB
def depE (s : Es) (t : Tr) : Es × Int :=
 if (takeB s.pu t.fr t.az (amT t)).2 ≠ 0 then (s, (takeB s.pu t.fr t.az (amT t)).2) else if (giveB s.va t.iv.ro t.az (amT t)).2 ≠ 0 then (s, (giveB s.va t.iv.ro t.az (amT t)).2) else growE { s with pu := (takeB s.pu t.fr t.az (amT t)).1, va := (giveB s.va t.iv.ro t.az (amT t)).1 } t.az.toNat (amT t)
set_option maxRecDepth 100000 in
set_option maxHeartbeats 4000000 in
theorem deposit_any (s : Es) (v : Value) (hs : OkE s) (t : Tr) (ht : OkT t) (hz : 0 ≤ t.az ∧ t.az ≤ 1) {B : Nat} (w : World) (hB : Blk w B 34 (stc s v)) :
  Calls Tryz.prog 64 #[.pointer (some ⟨B, 0, none⟩), txv t] w (EndE w B v (depE s t)) := by
 have hmx : Tryz.prog.follows .mixedOrders = true := by kernel_rfl
 have hM := (Mem.startB hB).allocN rfl 50 (txc t)
 have hn : amT t < M4 := val_lt ht.a
 have HA := Lib.hid (fun W => bookTake_any s.pu hs.p t.fr t.az (amT t) hn W)
 have HG := Lib.hid (fun W => bookGive_any s.va hs.v t.iv.ro t.az (amT t) hn W)
 have HO := Lib.hid (okE_he hs hz.1 hz.2)
 clear hB
 go_enter Tryz.func64, Tryz.ntmps64
 go_upto_region 1 with fail
 refine wp_region_M (fun W => Mem w (some B) [(w.heap.size, 50, txc t)] W) (fun W => Mem w (some B) [(w.heap.size, 50, txc t), (B, 34, stc s v)] W) hmx hM.drew ?_
 clear hM
 rintro Y1 hM
 have hS := hM.sub (.cons_cons _ (.cons _ .slnil))
 refine tD 8 [.v 0 4 (pt B 0), .v 1 5 (pt B 0), .v 2 6 (pt B 0), .v 3 7 (pt B 2), .v 5 9 (pt w.heap.size 0), .l 6 10 3 (pt w.heap.size 0) (.int .i64 t.fr), .v 7 11 (pt w.heap.size 3), .l 8 12 3 (pt w.heap.size 3) (.int .i64 t.az), .v 9 13 (pt w.heap.size 4), .l 10 14 27 (pt w.heap.size 4) (wn (amT t))] ⟨fun W h => ld_int h.a0 0 rfl, fun W h => ld_int h.a0 3 rfl, fun W h => ld_am h.a0 ht, trivial⟩ hS ?_
 refine oD 4 7 (lD (some 8) 30 (pt B 2) (bkv s.pu) (ld_pu (s := s) hM.a1) (hS) ?_)
 refine oD 11 6 (cD (some 15) _ _ ((HA.out _).mono ?_))
 rintro e W1 ⟨rfl, hb⟩
 refine And.intro (hS.below hb) ?_
 replace hS := hS.below hb
 replace hM := hM.below hb
 clear hb
 refine tD 4 [.v 12 16 (bkv ((takeB s.pu t.fr t.az (amT t)).1)), .v 13 17 (.int .i64 ((takeB s.pu t.fr t.az (amT t)).2))] trivial hS ?_
 refine oD 14 3 (cD (some 18) 62 #[bkv ((takeB s.pu t.fr t.az (amT t)).1), .int .i64 ((takeB s.pu t.fr t.az (amT t)).2)] ((must_two _ _ _).mono ?_))
 rintro e W2 (⟨hc, rfl, hb⟩ | ⟨hc, rfl, hb⟩)
 case inr =>
  replace hM := hM.below hb
  exact And.intro rfl (EndE.pan hM.g hc (by unfold depE; rw [if_pos hc]) rfl (BlkN.of hM.a1))
 refine And.intro (hS.below hb) ?_
 replace hS := hS.below hb
 replace hM := hM.below hb
 clear hb
 refine tD 1 [.v 15 19 (pt B 0), .v 16 20 (pt B 2)] trivial hS ?_
 have hM1 := hM.set 1 (cs' := stc ({ s with pu := (takeB s.pu t.fr t.az (amT t)).1 }) v) rfl rfl
 refine oD 17 0 (sD _ _ (bkv ((takeB s.pu t.fr t.az (amT t)).1)) (sto_pu hM.a1 _) (hM1.sub (.cons_cons _ (.cons _ .slnil))) ?_)
 replace hS := hM1.sub (.cons_cons _ (.cons _ .slnil))
 replace hM := hM1
 clear hM1
 generalize World.setRow _ _ _ = Y2 at *
 refine eD ?_
 clear hS
 have h1 := Lib.hid (not_not_intro hc)
 clear hc
 go_upto_region 2 with fail
 refine wp_region_M (fun W => Mem w (some B) [(w.heap.size, 50, txc t)] W) (fun W => Mem w (some B) [(w.heap.size, 50, txc t), (B, 34, stc ({ s with pu := (takeB s.pu t.fr t.az (amT t)).1 }) v)] W) hmx hM.drew ?_
 clear hM
 rintro Y3 hM
 have hS := hM.sub (.cons_cons _ (.cons _ .slnil))
 refine tD 8 [.v 0 21 (pt B 0), .v 1 22 (pt B 0), .v 2 23 (pt B 0), .v 3 24 (pt B 66), .v 5 26 (pt w.heap.size 8), .v 6 27 (pt w.heap.size 10), .l 7 28 3 (pt w.heap.size 10) (.int .i64 t.iv.ro), .v 8 29 (pt w.heap.size 3), .l 9 30 3 (pt w.heap.size 3) (.int .i64 t.az), .v 10 31 (pt w.heap.size 4), .l 11 32 27 (pt w.heap.size 4) (wn (amT t))] ⟨fun W h => ld_int h.a0 10 rfl, fun W h => ld_int h.a0 3 rfl, fun W h => ld_am h.a0 ht, trivial⟩ hS ?_
 refine oD 4 7 (lD (some 25) 30 (pt B 66) (bkv s.va) (ld_va (s := { s with pu := (takeB s.pu t.fr t.az (amT t)).1 }) hM.a1) (hS) ?_)
 refine oD 12 6 (cD (some 33) _ _ ((HG.out _).mono ?_))
 rintro e W1 ⟨rfl, hb⟩
 refine And.intro (hS.below hb) ?_
 replace hS := hS.below hb
 replace hM := hM.below hb
 clear hb
 refine tD 4 [.v 13 34 (bkv ((giveB s.va t.iv.ro t.az (amT t)).1)), .v 14 35 (.int .i64 ((giveB s.va t.iv.ro t.az (amT t)).2))] trivial hS ?_
 refine oD 15 3 (cD (some 36) 62 #[bkv ((giveB s.va t.iv.ro t.az (amT t)).1), .int .i64 ((giveB s.va t.iv.ro t.az (amT t)).2)] ((must_two _ _ _).mono ?_))
 rintro e W2 (⟨hc, rfl, hb⟩ | ⟨hc, rfl, hb⟩)
 case inr =>
  replace hM := hM.below hb
  exact And.intro rfl (EndE.pan hM.g hc (by unfold depE; rw [if_neg h1.out, if_pos hc]) rfl (BlkN.of hM.a1))
 refine And.intro (hS.below hb) ?_
 replace hS := hS.below hb
 replace hM := hM.below hb
 clear hb
 refine tD 1 [.v 16 37 (pt B 0), .v 17 38 (pt B 66)] trivial hS ?_
 have hM1 := hM.set 1 (cs' := stc ({ s with pu := (takeB s.pu t.fr t.az (amT t)).1, va := (giveB s.va t.iv.ro t.az (amT t)).1 }) v) rfl rfl
 refine oD 18 0 (sD _ _ (bkv ((giveB s.va t.iv.ro t.az (amT t)).1)) (sto_va hM.a1 _) (hM1.sub (.cons_cons _ (.cons _ .slnil))) ?_)
 replace hS := hM1.sub (.cons_cons _ (.cons _ .slnil))
 replace hM := hM1
 clear hM1
 generalize World.setRow _ _ _ = Y4 at *
 refine eD ?_
 clear hS
 have h2 := Lib.hid (not_not_intro hc)
 clear hc
 go_upto_region 3 with fail
 refine wp_region_fromM _ hM ?_
 clear hM
 rintro Y5 hM
 refine tF 5 [.v 0 39 (pt B 0), .v 1 40 (pt w.heap.size 3), .l 2 41 3 (pt w.heap.size 3) (.int .i64 t.az), .v 3 42 (pt w.heap.size 4), .l 4 43 27 (pt w.heap.size 4) (wn (amT t))] ⟨ld_int hM.a0 3 rfl, ld_am hM.a0 ht, trivial⟩ ?_
 refine cF (some 44) 97 #[pt B 0, .int .i64 t.az, wn (amT t)] ((growI_any ({ s with pu := (takeB s.pu t.fr t.az (amT t)).1, va := (giveB s.va t.iv.ro t.az (amT t)).1 }) _ hz HO.out hn _ hM.a1).mono ?_)
 rintro e W1 h
 rcases h.two with ⟨h0, rfl, _, _⟩ | ⟨h0, rfl, _⟩
 case inr => exact And.intro rfl (EndE.last hM.g h (by unfold depE; rw [if_neg h1.out, if_neg h2.out]))
 refine eF ?_
 go_wp2_with fail
 go_end0
 exact EndE.last hM.g h (by unfold depE; rw [if_neg h1.out, if_neg h2.out])
def wdrE (s : Es) (t : Tr) : Es × Int :=
 if ¬ (2 ≤ t.fr ∧ t.fr ≤ 3) then (s, 37) else if (unvE s t.fr t.az (amT t)).2 ≠ 0 then (s, (unvE s t.fr t.az (amT t)).2) else if (giveB s.pu t.fr t.az (amT t)).2 ≠ 0 then (s, (giveB s.pu t.fr t.az (amT t)).2) else shrinkE { s with va := (takeB s.va t.fr t.az (amT t)).1, pu := (giveB s.pu t.fr t.az (amT t)).1 } t.az.toNat (amT t)
theorem unvE_ok {s : Es} {r a : Int} {n : Nat} (h : (unvE s r a n).2 = 0) : (unvE s r a n).1 = { s with va := (takeB s.va r a n).1 } := by
 unfold unvE at h ⊢
 by_cases e : (takeB s.va r a n).2 ≠ 0
 ·
  rw [if_pos e] at h; exact absurd h (show ¬ (31 : Int) = 0 by decide)
 ·
  rw [if_neg e]
set_option maxRecDepth 100000 in
set_option maxHeartbeats 4000000 in
theorem withdraw_any (s : Es) (v : Value) (hs : OkE s) (t : Tr) (ht : OkT t) (hz : 0 ≤ t.az ∧ t.az ≤ 1) {B : Nat} (w : World) (hB : Blk w B 34 (stc s v)) :
  Calls Tryz.prog 65 #[.pointer (some ⟨B, 0, none⟩), txv t] w (EndE w B v (wdrE s t)) := by
 have hmx : Tryz.prog.follows .mixedOrders = true := by kernel_rfl
 have hM := (Mem.startB hB).allocN rfl 50 (txc t)
 have hn : amT t < M4 := val_lt ht.a
 have HG := Lib.hid (fun W => bookGive_any s.pu hs.p t.fr t.az (amT t) hn W)
 have HO := Lib.hid (okE_he hs hz.1 hz.2)
 clear hB
 go_enter Tryz.func65, Tryz.ntmps65
 by_cases hf : 2 ≤ t.fr
 case neg =>
  go_upto_region 1 with fail
  refine wp_region_fromM _ hM ?_
  clear hM
  rintro Y1 hM
  refine tF 8 [.v 0 4 (pt w.heap.size 0), .l 1 5 3 (pt w.heap.size 0) (.int .i64 t.fr), .a 2 6 (.bool (decide (t.fr ≥ 2))) (.bool false), .v 3 7 (.bool false), .skip 4 (some 8), .skip 5 (some 9), .skip 6 (some 10), .v 7 11 (.bool false)] ⟨ld_int hM.a0 0 rfl, cB (decide_eq_false hf), trivial⟩ ?_
  refine cF (some 12) 59 #[.bool false, .int .i64 37] ((demand_any _ _ _).mono ?_)
  rintro e W1 (⟨h, rfl, rfl⟩ | ⟨h, rfl, rfl⟩)
  case inl => exact absurd h (by decide)
  exact And.intro rfl (EndE.pan hM.g (by decide) (by unfold wdrE; rw [if_pos (fun e => hf e.1)]) rfl (BlkN.of hM.a1))
 go_upto_region 1 with fail
 refine wp_region_fromM _ hM ?_
 clear hM
 rintro Y2 hM
 refine tF 8 [.v 0 4 (pt w.heap.size 0), .l 1 5 3 (pt w.heap.size 0) (.int .i64 t.fr), .a 2 6 (.bool (decide (t.fr ≥ 2))) (.bool true), .v 3 7 (.bool true), .v 4 8 (pt w.heap.size 0), .l 5 9 3 (pt w.heap.size 0) (.int .i64 t.fr), .v 6 10 (.bool (decide (t.fr ≤ 3))), .v 7 11 (.bool (decide (t.fr ≤ 3)))] ⟨ld_int hM.a0 0 rfl, cB (decide_eq_true hf), ld_int hM.a0 0 rfl, trivial⟩ ?_
 refine cF (some 12) 59 #[.bool (decide (t.fr ≤ 3)), .int .i64 37] ((demand_any _ _ _).mono ?_)
 rintro e W1 (⟨h, rfl, rfl⟩ | ⟨h, rfl, rfl⟩)
 case inr => exact And.intro rfl (EndE.pan hM.g (by decide) (by unfold wdrE; rw [if_pos (fun e => absurd e.2 (of_decide_eq_false h))]) rfl (BlkN.of hM.a1))
 have h1 := Lib.hid (not_not_intro (And.intro hf (of_decide_eq_true h)))
 clear h
 refine eF ?_
 go_upto_region 2 with fail
 refine wp_region_fromM _ hM ?_
 clear hM
 rintro Y3 hM
 refine tF 7 [.v 0 13 (pt B 0), .v 1 14 (pt w.heap.size 0), .l 2 15 3 (pt w.heap.size 0) (.int .i64 t.fr), .v 3 16 (pt w.heap.size 3), .l 4 17 3 (pt w.heap.size 3) (.int .i64 t.az), .v 5 18 (pt w.heap.size 4), .l 6 19 27 (pt w.heap.size 4) (wn (amT t))] ⟨ld_int hM.a0 0 rfl, ld_int hM.a0 3 rfl, ld_am hM.a0 ht, trivial⟩ ?_
 refine cF (some 20) 98 #[pt B 0, .int .i64 t.fr, .int .i64 t.az, wn (amT t)] ((unvault_any s v hs.v _ _ hn _ hM.a1).mono ?_)
 rintro e W1 h
 rcases h.two with ⟨h0, rfl, hg, hN⟩ | ⟨h0, rfl, _⟩
 case inr => exact And.intro rfl (EndE.fail hM.g h h0 (by unfold wdrE; rw [if_neg h1.out, if_pos h0]))
 rw [unvE_ok h0] at hN
 replace hM := hM.call 1 rfl rfl hg hN
 have h2 := Lib.hid (not_not_intro h0)
 clear h h0 hg hN
 refine eF ?_
 go_upto_region 3 with fail
 refine wp_region_M (fun W => Mem w (some B) [(w.heap.size, 50, txc t)] W) (fun W => Mem w (some B) [(w.heap.size, 50, txc t), (B, 34, stc { s with va := (takeB s.va t.fr t.az (amT t)).1 } v)] W) hmx hM.drew ?_
 clear hM
 rintro Y4 hM
 have hS := hM.sub (.cons_cons _ (.cons _ .slnil))
 refine tD 8 [.v 0 21 (pt B 0), .v 1 22 (pt B 0), .v 2 23 (pt B 0), .v 3 24 (pt B 2), .v 5 26 (pt w.heap.size 0), .l 6 27 3 (pt w.heap.size 0) (.int .i64 t.fr), .v 7 28 (pt w.heap.size 3), .l 8 29 3 (pt w.heap.size 3) (.int .i64 t.az), .v 9 30 (pt w.heap.size 4), .l 10 31 27 (pt w.heap.size 4) (wn (amT t))] ⟨fun W h => ld_int h.a0 0 rfl, fun W h => ld_int h.a0 3 rfl, fun W h => ld_am h.a0 ht, trivial⟩ hS ?_
 refine oD 4 7 (lD (some 25) 30 (pt B 2) (bkv s.pu) (ld_pu (s := { s with va := (takeB s.va t.fr t.az (amT t)).1 }) hM.a1) (hS) ?_)
 refine oD 11 6 (cD (some 32) _ _ ((HG.out _).mono ?_))
 rintro e W1 ⟨rfl, hb⟩
 refine And.intro (hS.below hb) ?_
 replace hS := hS.below hb
 replace hM := hM.below hb
 clear hb
 refine tD 4 [.v 12 33 (bkv ((giveB s.pu t.fr t.az (amT t)).1)), .v 13 34 (.int .i64 ((giveB s.pu t.fr t.az (amT t)).2))] trivial hS ?_
 refine oD 14 3 (cD (some 35) 62 #[bkv ((giveB s.pu t.fr t.az (amT t)).1), .int .i64 ((giveB s.pu t.fr t.az (amT t)).2)] ((must_two _ _ _).mono ?_))
 rintro e W2 (⟨hc, rfl, hb⟩ | ⟨hc, rfl, hb⟩)
 case inr =>
  replace hM := hM.below hb
  exact And.intro rfl (EndE.pan hM.g hc (by unfold wdrE; rw [if_neg h1.out, if_neg h2.out, if_pos hc]) rfl (BlkN.of hM.a1))
 refine And.intro (hS.below hb) ?_
 replace hS := hS.below hb
 replace hM := hM.below hb
 clear hb
 refine tD 1 [.v 15 36 (pt B 0), .v 16 37 (pt B 2)] trivial hS ?_
 have hM1 := hM.set 1 (cs' := stc ({ s with va := (takeB s.va t.fr t.az (amT t)).1, pu := (giveB s.pu t.fr t.az (amT t)).1 }) v) rfl rfl
 refine oD 17 0 (sD _ _ (bkv ((giveB s.pu t.fr t.az (amT t)).1)) (sto_pu hM.a1 _) (hM1.sub (.cons_cons _ (.cons _ .slnil))) ?_)
 replace hS := hM1.sub (.cons_cons _ (.cons _ .slnil))
 replace hM := hM1
 clear hM1
 generalize World.setRow _ _ _ = Y5 at *
 refine eD ?_
 clear hS
 have h3 := Lib.hid (not_not_intro hc)
 clear hc
 go_upto_region 4 with fail
 refine wp_region_fromM _ hM ?_
 clear hM
 rintro Y6 hM
 refine tF 5 [.v 0 38 (pt B 0), .v 1 39 (pt w.heap.size 3), .l 2 40 3 (pt w.heap.size 3) (.int .i64 t.az), .v 3 41 (pt w.heap.size 4), .l 4 42 27 (pt w.heap.size 4) (wn (amT t))] ⟨ld_int hM.a0 3 rfl, ld_am hM.a0 ht, trivial⟩ ?_
 refine cF (some 43) 99 #[pt B 0, .int .i64 t.az, wn (amT t)] ((shrinkI_any ({ s with va := (takeB s.va t.fr t.az (amT t)).1, pu := (giveB s.pu t.fr t.az (amT t)).1 }) _ hz HO.out hn _ hM.a1).mono ?_)
 rintro e W1 h
 rcases h.two with ⟨h0, rfl, _, _⟩ | ⟨h0, rfl, _⟩
 case inr => exact And.intro rfl (EndE.last hM.g h (by unfold wdrE; rw [if_neg h1.out, if_neg h2.out, if_neg h3.out]))
 refine eF ?_
 go_wp2_with fail
 go_end0
 exact EndE.last hM.g h (by unfold wdrE; rw [if_neg h1.out, if_neg h2.out, if_neg h3.out])
end Go.Proofs.YthhmdgmmeedhdaaGreat
namespace Go.Proofs.YthhmdgmmeedhdaaGreat
open Go.RowKit Go.Shelf
def holdB (n l m : Int) : Bool := decide (l ≤ n ∧ n ≤ m)
theorem hold_yes {n l m : Int} (h1 : l ≤ n) (h2 : n ≤ m) : holdB n l m = true := decide_eq_true ⟨h1, h2⟩
theorem hold_no {n l m : Int} (h : ¬ (l ≤ n ∧ n ≤ m)) : holdB n l m = false := decide_eq_false h
theorem holds_any (n l m : Int) (w : World) :
  Calls Tryz.prog 80 #[.agg #[.int .i64 n, .int .i64 l, .int .i64 m]] w fun e W' => e = .returned (.bool (holdB n l m)) ∧ Below w.heap.size w W' := by
 by_cases h1 : l ≤ n
 ·
  by_cases h2 : n ≤ m
  ·
   rw [hold_yes h1 h2]
   go_enter Tryz.func80, Tryz.ntmps80
   go_wp2
   go_ret
   exact ⟨rfl, chain0 _ _⟩
  ·
   rw [hold_no (by omega)]
   go_enter Tryz.func80, Tryz.ntmps80
   go_wp2
   go_ret
   exact ⟨rfl, chain0 _ _⟩
 ·
  rw [hold_no (by omega)]
  go_enter Tryz.func80, Tryz.ntmps80
  go_wp2
  go_ret
  exact ⟨rfl, chain0 _ _⟩
abbrev bndc (i : Trf) : Array Value := #[.int .i64 i.us, .int .i64 0, .int .i64 1, .int .i64 (i.rt.size : Nat), .int .i64 8, .int .i64 8, .int .i64 i.ro, .int .i64 2, .int .i64 3, .int .i64 i.se, .int .i64 0, .int .i64 1, .int .i64 i.re, .int .i64 0, .int .i64 1, .int .i64 i.to, .int .i64 0, .int .i64 7, .int .i64 (i.id.size : Nat), .int .i64 1, .int .i64 16]
abbrev bndv (i : Trf) : Value := .agg (bndc i)
def z21 : List Value := [.int .i64 0, .int .i64 0, .int .i64 0, .int .i64 0, .int .i64 0, .int .i64 0, .int .i64 0, .int .i64 0, .int .i64 0, .int .i64 0, .int .i64 0, .int .i64 0, .int .i64 0, .int .i64 0, .int .i64 0, .int .i64 0, .int .i64 0, .int .i64 0, .int .i64 0, .int .i64 0, .int .i64 0]
set_option maxRecDepth 100000 in
theorem bounds_any (i : Trf) (w : World) :
  Calls Tryz.prog 79 #[ivv i] w fun e W' => e = .returned (bndv i) ∧ Below w.heap.size w W' := by
 have HB := Lib.hid (fun (W : World) (hz : W.heap.size = w.heap.size + 1) => Blk.new' (vs := z21) (t := 129) hz)
 go_enter Tryz.func79, Tryz.ntmps79
 go_wp2_with (refine wpList_buildTo rfl 129 _ rfl (some 26) rfl (bndc i) (by kernel_rfl) ?_; go_must (refine wpList_store_rowTo rfl 129 (.tmp 2) (.tmp 26) rfl rfl (w.heap.size + 1) (bndc i) rfl rfl 129 z21.toArray (HB.out _ (by simp)) (by kernel_rfl) rfl (by simp [bndc, Value.oneCell']) ?_))
 have hg := setRow_heap _ _ _ (bndc i) _ _ (HB.out (w.alloc (.cells #[.int .i64 i.us, .string i.rt, .int .i64 i.ro, .int .i64 i.se, .int .i64 i.re, .int .i64 i.to, .string i.id] 46)) (by simp))
 have hr := fun tmps hp => results_cell_row (P := Tryz.prog) (fn := Tryz.f79) (p := 2) (ty := 129) rfl tmps _ (w.heap.size + 1) _ (bndc i) (0, 0) _ hp hg Tryz.underlying129 rfl (by kernel_rfl)
 exact bodyPost_ret (v := bndv i) (hr _ rfl) rfl ⟨rfl, below_setRow (chainA (chain0 w _) _) (Nat.le_add_right _ 1) _⟩
def bN (i : Trf) (k : Nat) : Int := match k with | 0 => i.us | 1 => i.rt.size | 2 => i.ro | 3 => i.se | 4 => i.re | 5 => i.to | _ => i.id.size
def bL (k : Nat) : Int := match k with | 0 => 0 | 1 => 8 | 2 => 2 | 3 => 0 | 4 => 0 | 5 => 0 | _ => 1
def bM (k : Nat) : Int := match k with | 0 => 1 | 1 => 8 | 2 => 3 | 3 => 1 | 4 => 1 | 5 => 7 | _ => 16
def bOk (i : Trf) (k : Nat) : Bool := holdB (bN i k) (bL k) (bM k)
theorem may_of {i : Trf} (h : ∀ j, j < 7 → bOk i j = true) : maybeI i := by
 have g := fun j hj => of_decide_eq_true (h j hj)
 have h0 : 0 ≤ i.us ∧ i.us ≤ 1 := g 0 (by omega)
 have h1 : 8 ≤ (i.rt.size : Int) ∧ (i.rt.size : Int) ≤ 8 := g 1 (by omega)
 have h2 : 2 ≤ i.ro ∧ i.ro ≤ 3 := g 2 (by omega)
 have h3 : 0 ≤ i.se ∧ i.se ≤ 1 := g 3 (by omega)
 have h4 : 0 ≤ i.re ∧ i.re ≤ 1 := g 4 (by omega)
 have h5 : 0 ≤ i.to ∧ i.to ≤ 7 := g 5 (by omega)
 have h6 : 1 ≤ (i.id.size : Int) ∧ (i.id.size : Int) ≤ 16 := g 6 (by omega)
 exact ⟨h0, by omega, h2, h3, h4, h5, by omega, by omega⟩
theorem may_not {i : Trf} {j : Nat} (hj : j < 7) (h : bOk i j = false) : ¬ maybeI i := by
 intro ⟨h0, h1, h2, h3, h4, h5, h6, h7⟩
 have g := of_decide_eq_false h
 apply g
 match j, hj with
 | 0, _ => exact h0
 | 1, _ => exact ⟨show (8 : Int) ≤ (i.rt.size : Int) by omega, show (i.rt.size : Int) ≤ 8 by omega⟩
 | 2, _ => exact h2
 | 3, _ => exact h3
 | 4, _ => exact h4
 | 5, _ => exact h5
 | 6, _ => exact ⟨show (1 : Int) ≤ (i.id.size : Int) by omega, show (i.id.size : Int) ≤ 16 by omega⟩
set_option maxRecDepth 100000 in
theorem idx_bound (i : Trf) (w : World) {k : Nat} (hk : k < 7) :
  (Instr.index 129 (bndv i) (.int .i64 k)).run Tryz.prog w = .ok (.agg #[.int .i64 (bN i k), .int .i64 (bL k), .int .i64 (bM k)]) w := by
 have hs : ∀ j : Nat, (sizeOf 128).run Tryz.prog w = .ok 3 w := fun _ => by kernel_rfl
 have e1 : (Instr.index 129 (bndv i) (.int .i64 k)).run Tryz.prog w = .ok (.agg (List.take 3 (List.drop (k * 3) (bndc i).toList)).toArray) w := by
  have h1 : (0 : Int) ≤ (k : Int) ∧ (k : Int) < 7 := ⟨by omega, by omega⟩
  simp [Instr.index, run_underlying Tryz.underlying129, asIntOf, h1, hs 0, go_sem]
  exact fun h => absurd h (by omega)
 rw [e1]
 match k, hk with
 | 0, _ => rfl
 | 1, _ => rfl
 | 2, _ => rfl
 | 3, _ => rfl
 | 4, _ => rfl
 | 5, _ => rfl
 | 6, _ => rfl
set_option maxRecDepth 100000 in
set_option maxHeartbeats 1000000 in
theorem check_any (i : Trf) (w : World) :
  Calls Tryz.prog 45 #[ivv i] w fun e W' => e = .returned (.int .i64 (errI i)) ∧ Below w.heap.size w W' := by
 have HB := Lib.hid (bounds_any i)
 go_enter Tryz.func45, Tryz.ntmps45
 go_wp2_with (go_at_call 79; refine (HB.out _).mono ?_; rintro e w1 ⟨rfl, hb1⟩)
 have hB := chain (chain0 w _) hb1
 go_loopw [7] (fun n wr => ∃ k : Nat, k ≤ 7 ∧ n = .int .i64 k ∧ (∀ j, j < k → bOk i j = true) ∧ Below w.heap.size w wr) (fun n _ => 7 - (intOf n).toNat)
 case atStart => exact ⟨0, by omega, rfl, fun j hj => absurd hj (by omega), hB⟩
 case round =>
  clear hb1 hB
  obtain ⟨k, hk, rfl, hall, hB⟩ := hrel
  have HA := Lib.hid hall
  clear hall
  by_cases hlt : k < 7
  ·
   have hlt' : (k : Int) < 7 := by omega
   have HI := Lib.hid (fun W => idx_bound i W hlt)
   have H0 := holds_any (bN i k) (bL k) (bM k)
   by_cases hb : bOk i k = true
   ·
    have HN : Hid (∀ j, j < k + 1 → bOk i j = true) := Lib.hid fun j hj => by
     by_cases hjk : j < k
     ·
      exact HA.out j hjk
     ·
      obtain rfl : j = k := by omega
      exact hb
    rw [show holdB (bN i k) (bL k) (bM k) = true from hb] at H0
    have H1 := Lib.hid H0
    clear H0 hb HA HB
    generalize bN i k = x0 at *
    generalize bL k = x1 at *
    generalize bM k = x2 at *
    go_wp2_with (first
     | (go_at_call 80; refine (H1.out _).mono ?_; rintro e w2 ⟨rfl, hb2⟩)
     | (refine wpList_indexTo rfl 129 (.tmp 6) (.tmp 7) rfl (some 9) rfl _ (HI.out _) ?_))
    go_roundw
    case rel => exact ⟨k + 1, by omega, by go_num, HN.out, chain (chainA hB _) hb2⟩
    case measure => simp [intOf]; omega
   ·
    replace hb : bOk i k = false := by simpa using hb
    have HN := Lib.hid (may_not hlt hb)
    rw [show holdB (bN i k) (bL k) (bM k) = false from hb] at H0
    have H1 := Lib.hid H0
    clear H0 hb HA HB
    generalize bN i k = x0 at *
    generalize bL k = x1 at *
    generalize bM k = x2 at *
    go_wp2_with (first
     | (go_at_call 80; refine (H1.out _).mono ?_; rintro e w2 ⟨rfl, hb2⟩)
     | (refine wpList_indexTo rfl 129 (.tmp 6) (.tmp 7) rfl (some 9) rfl _ (HI.out _) ?_))
    go_ret
    exact ⟨by rw [errI, if_neg HN.out]; rfl, chain (chainA hB _) hb2⟩
  ·
   obtain rfl : k = 7 := by omega
   go_wp2
   go_ret
   exact ⟨by rw [errI, if_pos (may_of HA.out)]; rfl, hB⟩
set_option maxRecDepth 100000 in
theorem sound_any (v : Sid) (w : World) :
  Calls Tryz.prog 124 #[svv v] w fun e W' => e = .returned (.int .i64 (errV v)) ∧ Below w.heap.size w W' := by
 have hweq := @run_equalIn_wide
 by_cases h0 : v.a0 = 0 ∧ v.a1 = 0 ∧ v.a2 = 0 ∧ v.a3 = 0
 ·
  have hE : errV v = 36 := if_neg fun h => h.1 h0
  rw [hE]
  have hq : wEq (v.a0 : Nat) (v.a1 : Nat) (v.a2 : Nat) (v.a3 : Nat) 0 0 0 0 = true := by
   obtain ⟨e0, e1, e2, e3⟩ := h0
   rw [e0, e1, e2, e3]; rfl
  clear hE h0
  go_enter Tryz.func124, Tryz.ntmps124
  go_wp2
  go_ret
  exact ⟨rfl, chainA (chain0 w _) _⟩
 ·
  have hq : wEq (v.a0 : Nat) (v.a1 : Nat) (v.a2 : Nat) (v.a3 : Nat) 0 0 0 0 = false := wEq_not (by omega)
  have H0 := holds_any v.x 0 1099511627776
  by_cases hx : 0 ≤ v.x ∧ v.x ≤ 1099511627776
  ·
   have hE : errV v = 0 := if_pos ⟨h0, hx⟩
   rw [hold_yes hx.1 hx.2] at H0
   rw [hE]
   have H1 := Lib.hid H0
   clear H0 h0 hx hE
   go_enter Tryz.func124, Tryz.ntmps124
   go_wp2_with (go_at_call 80; refine (H1.out _).mono ?_; rintro e w2 ⟨rfl, hb2⟩)
   go_ret
   exact ⟨rfl, chain (chainA (chain0 w _) _) hb2⟩
  ·
   have hE : errV v = 36 := if_neg fun h => hx h.2
   rw [hold_no hx] at H0
   rw [hE]
   have H1 := Lib.hid H0
   clear H0 h0 hx hE
   go_enter Tryz.func124, Tryz.ntmps124
   go_wp2_with (go_at_call 80; refine (H1.out _).mono ?_; rintro e w2 ⟨rfl, hb2⟩)
   go_ret
   exact ⟨rfl, chain (chainA (chain0 w _) _) hb2⟩
end Go.Proofs.YthhmdgmmeedhdaaGreat
namespace Go.Proofs.YthhmdgmmeedhdaaGreat
open Go.RowKit Go.Shelf
theorem txsWithin_any (n l m : Int) (w : World) :
  Calls Tryz.prog 90 #[.int .i64 n, .int .i64 l, .int .i64 m] w fun e W' => e = .returned (.bool (holdB n l m)) ∧ w = W' := by
 by_cases h1 : l ≤ n
 ·
  by_cases h2 : n ≤ m
  ·
   rw [hold_yes h1 h2]
   go_enter Tryz.func90, Tryz.ntmps90
   go_wp2
   go_ret
   exact ⟨rfl, rfl⟩
  ·
   rw [hold_no (by omega)]
   go_enter Tryz.func90, Tryz.ntmps90
   go_wp2
   go_ret
   exact ⟨rfl, rfl⟩
 ·
  rw [hold_no (by omega)]
  go_enter Tryz.func90, Tryz.ntmps90
  go_wp2
  go_ret
  exact ⟨rfl, rfl⟩
set_option maxRecDepth 100000 in
set_option maxHeartbeats 2000000 in
theorem checkMove_any (t : Tr) (w : World) :
  Calls Tryz.prog 91 #[txv t] w fun e W' => e = .returned (.int .i64 (errM t)) ∧ Below w.heap.size w W' := by
 have hweq := @run_equalIn_wide
 have kB := Blk.new w 50 (txc t)
 have hB := chain0 w (.cells (txc t).toArray 50)
 have c2 := (kB.cell 2).trans rfl
 have c10 := (kB.cell 10).trans rfl
 have c13 := (kB.cell 13).trans rfl
 by_cases h0 : zeroA t
 ·
  have hq : wEq (t.a0 : Nat) (t.a1 : Nat) (t.a2 : Nat) (t.a3 : Nat) 0 0 0 0 = true := by
   obtain ⟨e0, e1, e2, e3⟩ := h0
   rw [e0, e1, e2, e3]; rfl
  have HE : Hid (errM t = 36) := Lib.hid (if_pos h0)
  clear h0
  go_enter Tryz.func91, Tryz.ntmps91
  go_wp2_with (first
   | ((with_reducible refine wpList_loadIf 27 (.tmp 3) ?_ (some 4) ?_ ?_ (wv t.a0 t.a1 t.a2 t.a3) ?_ ?_); (· rfl); (· rfl); (· rfl); (· exact load_am kB))
   | (go_at_call 90; refine (txsWithin_any _ _ _ _).mono ?_; rintro e w1 ⟨rfl, rfl⟩))
  go_ret
  exact ⟨by rw [HE.out]; rfl, hB⟩
 ·
  have hq : wEq (t.a0 : Nat) (t.a1 : Nat) (t.a2 : Nat) (t.a3 : Nat) 0 0 0 0 = false := wEq_not (by unfold zeroA at h0; omega)
  by_cases hk1 : t.kd = 1
  ·
   have q1 : (t.kd == 1) = true := by simpa using hk1
   have q2 : (t.kd == 2) = false := by simp [hk1]
   by_cases hr : 0 ≤ t.iv.to ∧ t.iv.to ≤ 7
   ·
    have HE : Hid (errM t = 0) := Lib.hid (by rw [errM, if_neg h0, if_pos hk1, if_pos hr])
    have hh := hold_yes hr.1 hr.2
    clear h0 hk1 hr
    go_enter Tryz.func91, Tryz.ntmps91
    go_wp2_with (first
     | ((with_reducible refine wpList_loadIf 27 (.tmp 3) ?_ (some 4) ?_ ?_ (wv t.a0 t.a1 t.a2 t.a3) ?_ ?_); (· rfl); (· rfl); (· rfl); (· exact load_am kB))
     | (go_at_call 90; refine (txsWithin_any _ _ _ _).mono ?_; rintro e w1 ⟨rfl, rfl⟩))
    go_ret
    exact ⟨by rw [HE.out]; rfl, hB⟩
   ·
    have HE : Hid (errM t = 39) := Lib.hid (by rw [errM, if_neg h0, if_pos hk1, if_neg hr])
    have hh := hold_no hr
    clear h0 hk1 hr
    go_enter Tryz.func91, Tryz.ntmps91
    go_wp2_with (first
     | ((with_reducible refine wpList_loadIf 27 (.tmp 3) ?_ (some 4) ?_ ?_ (wv t.a0 t.a1 t.a2 t.a3) ?_ ?_); (· rfl); (· rfl); (· rfl); (· exact load_am kB))
     | (go_at_call 90; refine (txsWithin_any _ _ _ _).mono ?_; rintro e w1 ⟨rfl, rfl⟩))
    go_ret
    exact ⟨by rw [HE.out]; rfl, hB⟩
  ·
   have q1 : (t.kd == 1) = false := by simpa using hk1
   by_cases hk2 : t.kd = 2
   ·
    have q2 : (t.kd == 2) = true := by simpa using hk2
    by_cases hr : 2 ≤ t.iv.ro ∧ t.iv.ro ≤ 3
    ·
     have HE : Hid (errM t = 0) := Lib.hid (by rw [errM, if_neg h0, if_neg hk1, if_pos hk2, if_pos hr])
     have hh := hold_yes hr.1 hr.2
     clear h0 hk1 hk2 hr
     go_enter Tryz.func91, Tryz.ntmps91
     go_wp2_with (first
      | ((with_reducible refine wpList_loadIf 27 (.tmp 3) ?_ (some 4) ?_ ?_ (wv t.a0 t.a1 t.a2 t.a3) ?_ ?_); (· rfl); (· rfl); (· rfl); (· exact load_am kB))
      | (go_at_call 90; refine (txsWithin_any _ _ _ _).mono ?_; rintro e w1 ⟨rfl, rfl⟩))
     go_ret
     exact ⟨by rw [HE.out]; rfl, hB⟩
    ·
     have HE : Hid (errM t = 39) := Lib.hid (by rw [errM, if_neg h0, if_neg hk1, if_pos hk2, if_neg hr])
     have hh := hold_no hr
     clear h0 hk1 hk2 hr
     go_enter Tryz.func91, Tryz.ntmps91
     go_wp2_with (first
      | ((with_reducible refine wpList_loadIf 27 (.tmp 3) ?_ (some 4) ?_ ?_ (wv t.a0 t.a1 t.a2 t.a3) ?_ ?_); (· rfl); (· rfl); (· rfl); (· exact load_am kB))
      | (go_at_call 90; refine (txsWithin_any _ _ _ _).mono ?_; rintro e w1 ⟨rfl, rfl⟩))
     go_ret
     exact ⟨by rw [HE.out]; rfl, hB⟩
   ·
    have q2 : (t.kd == 2) = false := by simpa using hk2
    have HE : Hid (errM t = 0) := Lib.hid (by rw [errM, if_neg h0, if_neg hk1, if_neg hk2])
    clear h0 hk1 hk2
    go_enter Tryz.func91, Tryz.ntmps91
    go_wp2_with (first
     | ((with_reducible refine wpList_loadIf 27 (.tmp 3) ?_ (some 4) ?_ ?_ (wv t.a0 t.a1 t.a2 t.a3) ?_ ?_); (· rfl); (· rfl); (· rfl); (· exact load_am kB))
     | (go_at_call 90; refine (txsWithin_any _ _ _ _).mono ?_; rintro e w1 ⟨rfl, rfl⟩))
    go_ret
    exact ⟨by rw [HE.out]; rfl, hB⟩
set_option maxRecDepth 100000 in
set_option maxHeartbeats 2000000 in
theorem checkTransfer_any (t : Tr) (w : World) :
  Calls Tryz.prog 92 #[txv t] w fun e W' => e = .returned (.int .i64 (errF t)) ∧ Below w.heap.size w W' := by
 have kB := Blk.new w 50 (txc t)
 have hB := chain0 w (.cells (txc t).toArray 50)
 have HI := Lib.hid (check_any t.iv)
 have HV := Lib.hid (sound_any t.vr)
 by_cases hi : maybeI t.iv
 ·
  have E1 := Lib.hid (errI_zero hi)
  by_cases hv : maybeV t.vr
  ·
   have E2 := Lib.hid (errV_zero hv)
   by_cases hs : t.sg.size ≤ 1024
   ·
    have HE : Hid (errF t = 0) := Lib.hid (by rw [errF, if_pos hi, if_pos hv, if_pos hs])
    clear hi hv
    go_enter Tryz.func92, Tryz.ntmps92
    go_wp2_with (first
     | ((with_reducible refine wpList_loadIf 46 (.tmp 5) ?_ (some 6) ?_ ?_ (ivv t.iv) ?_ ?_); (· rfl); (· rfl); (· rfl); (· exact load_iv kB))
     | ((with_reducible refine wpList_loadIf 48 (.tmp 11) ?_ (some 12) ?_ ?_ (svv t.vr) ?_ ?_); (· rfl); (· rfl); (· rfl); (· exact load_vr kB))
     | (go_at_call 45; refine (HI.out _).mono ?_; rw [E1.out]; rintro e w1 ⟨rfl, hb⟩; replace kB := kB.below hb kB.lt; replace hB := chain hB hb; clear hb; have c24 := (kB.cell 24).trans rfl)
     | (go_at_call 124; refine (HV.out _).mono ?_; rw [E2.out]; rintro e w2 ⟨rfl, hb⟩; replace kB := kB.below hb kB.lt; replace hB := chain hB hb; clear hb c24; have c24 := (kB.cell 24).trans rfl))
    go_ret
    exact ⟨by rw [HE.out]; rfl, hB⟩
   ·
    have HE : Hid (errF t = 5) := Lib.hid (by rw [errF, if_pos hi, if_pos hv, if_neg hs])
    have hs2 : 1024 < t.sg.size := by omega
    clear hi hv hs
    go_enter Tryz.func92, Tryz.ntmps92
    go_wp2_with (first
     | ((with_reducible refine wpList_loadIf 46 (.tmp 5) ?_ (some 6) ?_ ?_ (ivv t.iv) ?_ ?_); (· rfl); (· rfl); (· rfl); (· exact load_iv kB))
     | ((with_reducible refine wpList_loadIf 48 (.tmp 11) ?_ (some 12) ?_ ?_ (svv t.vr) ?_ ?_); (· rfl); (· rfl); (· rfl); (· exact load_vr kB))
     | (go_at_call 45; refine (HI.out _).mono ?_; rw [E1.out]; rintro e w1 ⟨rfl, hb⟩; replace kB := kB.below hb kB.lt; replace hB := chain hB hb; clear hb; have c24 := (kB.cell 24).trans rfl)
     | (go_at_call 124; refine (HV.out _).mono ?_; rw [E2.out]; rintro e w2 ⟨rfl, hb⟩; replace kB := kB.below hb kB.lt; replace hB := chain hB hb; clear hb c24; have c24 := (kB.cell 24).trans rfl))
    go_ret
    exact ⟨by rw [HE.out]; rfl, hB⟩
  ·
   have E2 := Lib.hid (errV_bad hv)
   have HE : Hid (errF t = 36) := Lib.hid (by rw [errF, if_pos hi, if_neg hv])
   clear hi hv
   go_enter Tryz.func92, Tryz.ntmps92
   go_wp2_with (first
    | ((with_reducible refine wpList_loadIf 46 (.tmp 5) ?_ (some 6) ?_ ?_ (ivv t.iv) ?_ ?_); (· rfl); (· rfl); (· rfl); (· exact load_iv kB))
    | ((with_reducible refine wpList_loadIf 48 (.tmp 11) ?_ (some 12) ?_ ?_ (svv t.vr) ?_ ?_); (· rfl); (· rfl); (· rfl); (· exact load_vr kB))
    | (go_at_call 45; refine (HI.out _).mono ?_; rw [E1.out]; rintro e w1 ⟨rfl, hb⟩; replace kB := kB.below hb kB.lt; replace hB := chain hB hb; clear hb; have c24 := (kB.cell 24).trans rfl)
    | (go_at_call 124; refine (HV.out _).mono ?_; rw [E2.out]; rintro e w2 ⟨rfl, hb⟩; replace kB := kB.below hb kB.lt; replace hB := chain hB hb; clear hb c24; have c24 := (kB.cell 24).trans rfl))
   go_ret
   exact ⟨by rw [HE.out]; rfl, hB⟩
 ·
  have E1 := Lib.hid (errI_bad hi)
  have HE : Hid (errF t = 39) := Lib.hid (by rw [errF, if_neg hi])
  have E2 : Hid (errV t.vr = errV t.vr) := Lib.hid rfl
  clear hi
  go_enter Tryz.func92, Tryz.ntmps92
  go_wp2_with (first
   | ((with_reducible refine wpList_loadIf 46 (.tmp 5) ?_ (some 6) ?_ ?_ (ivv t.iv) ?_ ?_); (· rfl); (· rfl); (· rfl); (· exact load_iv kB))
   | ((with_reducible refine wpList_loadIf 48 (.tmp 11) ?_ (some 12) ?_ ?_ (svv t.vr) ?_ ?_); (· rfl); (· rfl); (· rfl); (· exact load_vr kB))
   | (go_at_call 45; refine (HI.out _).mono ?_; rw [E1.out]; rintro e w1 ⟨rfl, hb⟩; replace kB := kB.below hb kB.lt; replace hB := chain hB hb; clear hb; have c24 := (kB.cell 24).trans rfl)
   | (go_at_call 124; refine (HV.out _).mono ?_; rw [E2.out]; rintro e w2 ⟨rfl, hb⟩; replace kB := kB.below hb kB.lt; replace hB := chain hB hb; clear hb c24; have c24 := (kB.cell 24).trans rfl))
  go_ret
  exact ⟨by rw [HE.out]; rfl, hB⟩
set_option maxRecDepth 100000 in
set_option maxHeartbeats 2000000 in
theorem txsCheck_any (t : Tr) (w : World) :
  Calls Tryz.prog 58 #[txv t] w fun e W' => e = .returned (.int .i64 (errT t)) ∧ Below w.heap.size w W' := by
 have kB := Blk.new w 50 (txc t)
 have hB := chain0 w (.cells (txc t).toArray 50)
 have HM := Lib.hid (checkMove_any t)
 have HF := Lib.hid (checkTransfer_any t)
 have c0 := (kB.cell 0).trans rfl
 have c1 := (kB.cell 1).trans rfl
 have c2 := (kB.cell 2).trans rfl
 have c3 := (kB.cell 3).trans rfl
 by_cases hk : 1 ≤ t.kd ∧ t.kd ≤ 6
 ·
  have g0 := hold_yes hk.1 hk.2
  by_cases hr : (0 ≤ t.fr ∧ t.fr ≤ 7) ∧ (0 ≤ t.no ∧ t.no ≤ 1099511627776) ∧ (0 ≤ t.az ∧ t.az ≤ 1)
  ·
   have g1 := hold_yes hr.1.1 hr.1.2
   have g2 := hold_yes hr.2.1.1 hr.2.1.2
   have g3 := hold_yes hr.2.2.1 hr.2.2.2
   by_cases hm : t.kd ≤ 3
   ·
    have g4 := hold_yes hk.1 hm
    have HE : Hid (errT t = errM t) := Lib.hid (by rw [errT, if_pos hk, if_pos hr, if_pos hm])
    clear hk hr hm
    go_enter Tryz.func58, Tryz.ntmps58
    go_wp2_with (first
     | (first | ((with_reducible refine wpList_loadIf 50 (.tmp 1) ?_ (some 26) ?_ ?_ (txv t) ?_ ?_); (· rfl); (· rfl); (· rfl); (· exact load_tx kB)) | ((with_reducible refine wpList_loadIf 50 (.tmp 1) ?_ (some 28) ?_ ?_ (txv t) ?_ ?_); (· rfl); (· rfl); (· rfl); (· exact load_tx kB)))
     | (go_at_call 90; refine (txsWithin_any _ _ _ _).mono ?_; rintro e w1 ⟨rfl, rfl⟩)
     | (go_at_call 91; refine (HM.out _).mono ?_; rintro e w2 ⟨rfl, hb⟩; replace hB := chain hB hb)
     | (go_at_call 92; refine (HF.out _).mono ?_; rintro e w2 ⟨rfl, hb⟩; replace hB := chain hB hb))
    go_ret
    exact ⟨by rw [HE.out]; rfl, hB⟩
   ·
    have g4 : holdB t.kd 1 3 = false := hold_no (fun h => hm h.2)
    have HE : Hid (errT t = errF t) := Lib.hid (by rw [errT, if_pos hk, if_pos hr, if_neg hm])
    clear hk hr hm
    go_enter Tryz.func58, Tryz.ntmps58
    go_wp2_with (first
     | (first | ((with_reducible refine wpList_loadIf 50 (.tmp 1) ?_ (some 26) ?_ ?_ (txv t) ?_ ?_); (· rfl); (· rfl); (· rfl); (· exact load_tx kB)) | ((with_reducible refine wpList_loadIf 50 (.tmp 1) ?_ (some 28) ?_ ?_ (txv t) ?_ ?_); (· rfl); (· rfl); (· rfl); (· exact load_tx kB)))
     | (go_at_call 90; refine (txsWithin_any _ _ _ _).mono ?_; rintro e w1 ⟨rfl, rfl⟩)
     | (go_at_call 91; refine (HM.out _).mono ?_; rintro e w2 ⟨rfl, hb⟩; replace hB := chain hB hb)
     | (go_at_call 92; refine (HF.out _).mono ?_; rintro e w2 ⟨rfl, hb⟩; replace hB := chain hB hb))
    go_ret
    exact ⟨by rw [HE.out]; rfl, hB⟩
  ·
   have HE : Hid (errT t = 4) := Lib.hid (by rw [errT, if_pos hk, if_neg hr])
   clear hk
   by_cases h1 : 0 ≤ t.fr ∧ t.fr ≤ 7
   ·
    have g1 := hold_yes h1.1 h1.2
    by_cases h2 : 0 ≤ t.no ∧ t.no ≤ 1099511627776
    ·
     have g2 := hold_yes h2.1 h2.2
     have g3 : holdB t.az 0 1 = false := hold_no (fun h => hr ⟨h1, h2, h⟩)
     clear hr h1 h2
     go_enter Tryz.func58, Tryz.ntmps58
     go_wp2_with (first
      | (first | ((with_reducible refine wpList_loadIf 50 (.tmp 1) ?_ (some 26) ?_ ?_ (txv t) ?_ ?_); (· rfl); (· rfl); (· rfl); (· exact load_tx kB)) | ((with_reducible refine wpList_loadIf 50 (.tmp 1) ?_ (some 28) ?_ ?_ (txv t) ?_ ?_); (· rfl); (· rfl); (· rfl); (· exact load_tx kB)))
      | (go_at_call 90; refine (txsWithin_any _ _ _ _).mono ?_; rintro e w1 ⟨rfl, rfl⟩)
      | (go_at_call 91; refine (HM.out _).mono ?_; rintro e w2 ⟨rfl, hb⟩; replace hB := chain hB hb)
      | (go_at_call 92; refine (HF.out _).mono ?_; rintro e w2 ⟨rfl, hb⟩; replace hB := chain hB hb))
     go_ret
     exact ⟨by rw [HE.out]; rfl, hB⟩
    ·
     have g2 := hold_no h2
     clear hr h1 h2
     go_enter Tryz.func58, Tryz.ntmps58
     go_wp2_with (first
      | (first | ((with_reducible refine wpList_loadIf 50 (.tmp 1) ?_ (some 26) ?_ ?_ (txv t) ?_ ?_); (· rfl); (· rfl); (· rfl); (· exact load_tx kB)) | ((with_reducible refine wpList_loadIf 50 (.tmp 1) ?_ (some 28) ?_ ?_ (txv t) ?_ ?_); (· rfl); (· rfl); (· rfl); (· exact load_tx kB)))
      | (go_at_call 90; refine (txsWithin_any _ _ _ _).mono ?_; rintro e w1 ⟨rfl, rfl⟩)
      | (go_at_call 91; refine (HM.out _).mono ?_; rintro e w2 ⟨rfl, hb⟩; replace hB := chain hB hb)
      | (go_at_call 92; refine (HF.out _).mono ?_; rintro e w2 ⟨rfl, hb⟩; replace hB := chain hB hb))
     go_ret
     exact ⟨by rw [HE.out]; rfl, hB⟩
   ·
    have g1 := hold_no h1
    clear hr h1
    go_enter Tryz.func58, Tryz.ntmps58
    go_wp2_with (first
     | (first | ((with_reducible refine wpList_loadIf 50 (.tmp 1) ?_ (some 26) ?_ ?_ (txv t) ?_ ?_); (· rfl); (· rfl); (· rfl); (· exact load_tx kB)) | ((with_reducible refine wpList_loadIf 50 (.tmp 1) ?_ (some 28) ?_ ?_ (txv t) ?_ ?_); (· rfl); (· rfl); (· rfl); (· exact load_tx kB)))
     | (go_at_call 90; refine (txsWithin_any _ _ _ _).mono ?_; rintro e w1 ⟨rfl, rfl⟩)
     | (go_at_call 91; refine (HM.out _).mono ?_; rintro e w2 ⟨rfl, hb⟩; replace hB := chain hB hb)
     | (go_at_call 92; refine (HF.out _).mono ?_; rintro e w2 ⟨rfl, hb⟩; replace hB := chain hB hb))
    go_ret
    exact ⟨by rw [HE.out]; rfl, hB⟩
 ·
  have g0 := hold_no hk
  have HE : Hid (errT t = 12) := Lib.hid (by rw [errT, if_neg hk])
  clear hk
  go_enter Tryz.func58, Tryz.ntmps58
  go_wp2_with (first
   | (first | ((with_reducible refine wpList_loadIf 50 (.tmp 1) ?_ (some 26) ?_ ?_ (txv t) ?_ ?_); (· rfl); (· rfl); (· rfl); (· exact load_tx kB)) | ((with_reducible refine wpList_loadIf 50 (.tmp 1) ?_ (some 28) ?_ ?_ (txv t) ?_ ?_); (· rfl); (· rfl); (· rfl); (· exact load_tx kB)))
   | (go_at_call 90; refine (txsWithin_any _ _ _ _).mono ?_; rintro e w1 ⟨rfl, rfl⟩)
   | (go_at_call 91; refine (HM.out _).mono ?_; rintro e w2 ⟨rfl, hb⟩; replace hB := chain hB hb)
   | (go_at_call 92; refine (HF.out _).mono ?_; rintro e w2 ⟨rfl, hb⟩; replace hB := chain hB hb))
  go_ret
  exact ⟨by rw [HE.out]; rfl, hB⟩
end Go.Proofs.YthhmdgmmeedhdaaGreat
namespace Go.Proofs.YthhmdgmmeedhdaaGreat
open Go.RowKit Go.Shelf
theorem run_append_b {P : Program} (w : World) (base : Nat) (t ty e : TypeId) (i : TypeInfo) (z : Value) (ht : P.underlying t = some (.slice e)) (hi : P.info? e = some i) (hz : i.zero = some z)
  (hsize : i.size = 1) (hby : i.bytes = 1) (hzs : z.cells.size = 1) (v : Value) (n : Nat) (xs : List Value) (hown : w.ownsRow base e 1 v n xs)
  {lo hi' : Nat} {sv : Value} {l : List UInt8} (hsv : BSl lo hi' w sv l) (h63 : n + l.length ≤ 140737488355328) (hbase : base ≤ w.heap.size) :
  ∃ v' w', (Builtin.append_ #[t, t] ty #[v, sv]).run P w = .ok v' w' ∧ w'.ownsRow base e 1 v' (n + l.length) (xs ++ l.map bv) ∧ w.grownBy w' v.ownBlock := by
 obtain ⟨a, cap, rfl, _, h0⟩ := hsv
 rcases a with _ | ad
 ·
  have hl : l = [] := by
   rcases h0 with h0 | ⟨_, _, h, _⟩
   ·
    exact h0
   ·
    cases h
  subst hl
  refine ⟨v, w, ?_, by simpa using hown, World.grownBy.refl w _⟩
  rcases hown.2 with ⟨rfl, rfl⟩ | ⟨g, c, cur, rfl, _, _, hnc, _⟩
  ·
   simp [Builtin.append_, run_underlying ht, sizeOf, typeInfo, hi, Builtin.lenOf, Builtin.firstCells]
  ·
   simp [Builtin.append_, run_underlying ht, sizeOf, typeInfo, hi, Builtin.lenOf, Builtin.firstCells, hnc, storeCells]
 ·
  obtain ⟨v', w', hr, h2, h3, _⟩ := run_append_own (P := P) w base t ty e i z 1 1 ht hi hz hsize hby hzs (by omega) v n xs hown ad l.length cap (l.map bv) (by simp)
   (fun j u hu => by
    rcases h0 with rfl | ⟨b, off, ha, _, _, ho⟩
    ·
     simp at hu
    ·
     cases ha
     rw [List.getElem?_map] at hu
     obtain ⟨x, hx, rfl⟩ := Option.map_eq_some_iff.1 hu
     have hp : (⟨b, off, none⟩ : Addr).add j = ⟨b, off + j, none⟩ := by cases j <;> simp [Addr.add]
     rw [hp]; exact ho j x hx)
   (by intro u hu; obtain ⟨x, _, rfl⟩ := List.mem_map.1 hu; rfl) (by unfold maxLen; omega) (by omega) hbase
  exact ⟨v', w', hr, h2, h3⟩
theorem wpList_append_b {P : Program} (w : World) {ops : Array Oper} {rest : List Oper} {o : Oper} {a : Act} {Q : Exit → Act → World → Prop}
  (hg : o.guard = none) (s x : Operand) (t : TypeId) (hop : o.op = Op.call { callee := Callee.builtin Builtin.append, args := #[s, x], argTypes := #[t, t] })
  (base : Nat) (e : TypeId) (i : TypeInfo) (z : Value) (ht : P.underlying t = some (.slice e)) (hi : P.info? e = some i) (hz : i.zero = some z)
  (hsize : i.size = 1) (hby : i.bytes = 1) (hzs : z.cells.size = 1) (v : Value) (n : Nat) (xs : List Value) (hs : a.eval s = v) (hown : w.ownsRow base e 1 v n xs)
  {lo hi' : Nat} (sv : Value) (l : List UInt8) (hx : a.eval x = sv) (hsv : BSl lo hi' w sv l) (h63 : n + l.length ≤ 140737488355328) (hbase : base ≤ w.heap.size)
  (hK : ∀ v' w', w'.ownsRow base e 1 v' (n + l.length) (xs ++ l.map bv) → w.grownBy w' v.ownBlock → wpList P ops Q rest (a.put o.dst v') w') :
  wpList P ops Q (o :: rest) a w := by
 refine wpList_plain hg fun K hK' => ?_
 obtain ⟨v', w', hrun, r1, r2⟩ := run_append_b (P := P) w base t o.type e i z ht hi hz hsize hby hzs v n xs hown hsv h63 hbase
 unfold Oper.wp
 simp [execOp, hop, resolve, invoke, builtin, hs, hx, hrun, Result.andThen]
 exact hK' _ _ (hK v' w' r1 r2)
theorem wpListIn_append_b {F : Fence} {m : Nat} {P : Program} (w : World) {ops : Array Oper} {rest : List Oper} {o : Oper} {a : Act} {Q : Exit → Act → World → Prop}
  (hg : o.guard = none) (s x : Operand) (t : TypeId) (hop : o.op = Op.call { callee := Callee.builtin Builtin.append, args := #[s, x], argTypes := #[t, t] })
  (base : Nat) (e : TypeId) (i : TypeInfo) (z : Value) (ht : P.underlying t = some (.slice e)) (hi : P.info? e = some i) (hz : i.zero = some z)
  (hsize : i.size = 1) (hby : i.bytes = 1) (hzs : z.cells.size = 1) (v : Value) (n : Nat) (xs : List Value) (hs : a.eval s = v) (hown : w.ownsRow base e 1 v n xs)
  {lo hi' : Nat} (sv : Value) (l : List UInt8) (hx : a.eval x = sv) (hsv : BSl lo hi' w sv l) (h63 : n + l.length ≤ 140737488355328) (hbase : base ≤ w.heap.size)
  (hK : ∀ v' w', w'.ownsRow base e 1 v' (n + l.length) (xs ++ l.map bv) → w.grownBy w' v.ownBlock → wpListIn F m P ops Q rest (a.put o.dst v') w') :
  wpListIn F m P ops Q (o :: rest) a w := by
 refine wpListIn_plain hg fun K hK' => ?_
 obtain ⟨v', w', hrun, r1, r2⟩ := run_append_b (P := P) w base t o.type e i z ht hi hz hsize hby hzs v n xs hown hsv h63 hbase
 unfold Oper.wpIn
 refine ⟨?_, ?_⟩
 ·
  simp [Oper.about, hop, resolve, Target.leads, Sem.run_pure]
 ·
  rw [Oper.semAt_plain F _ _ (by rw [hop]; intro c hc'; cases hc')]
  simp [execOp, hop, resolve, invoke, builtin, hs, hx, hrun, Result.andThen]
  exact hK' _ _ (hK v' w' r1 r2)
def ByO (l : List UInt8) (w : World) (e : Ending) (W' : World) : Prop := ∃ sv, e = .returned sv ∧ W'.ownsRow w.heap.size 5 1 sv l.length (l.map bv) ∧ Below w.heap.size w W'
end Go.Proofs.YthhmdgmmeedhdaaGreat
namespace Go.Proofs.YthhmdgmmeedhdaaGreat
open Go.RowKit
variable {F : Fence} {n : Nat} {P : Program}
def SeqAll {α : Type} (F : Fence) (n : Nat) (P : Program) (g : Nat) (lb : Array Value) (encs : α → Array Value) (Kp : Nat → World → World → Prop) (ys : List α) (w : World) : Prop :=
 ∀ (l : Nat) (J : Nat → World → Prop) (W : World), Below w.heap.size w W → w.heap.size ≤ l → l < W.heap.size → OwnFrom W.heap.size J →
  (∀ k x W1, ys[k]? = some x → J k W1 → YieldAt F (n - 1) P l (encs x) W1 fun e W' => e = .returned (.bool true) ∧ J (k + 1) W' ∧ Kp l W1 W') →
  J 0 W → CallsIn F n P g (#[.func (.yield l) #[] #[]] ++ lb) W fun e W' => (∃ v, e = .returned v) ∧ J ys.length W'
def goesOn (B : Nat) (Kp : World → World → Prop) (I : World → Prop) (W : World) : Exit → Act → World → Prop
 | .normal, _, W' => KeepsFrom B W W' ∧ Kp W W' ∧ I W'
 | _, _, _ => False
theorem wpIn_rangeFunc_all {α : Type} {g : Operand} {ps : Array Tmp} {assign body : Code} {Q : Exit → Act → World → Prop} {a : Act} {w : World}
  (hro : F.round = none) (h1 : 1 ≤ n) {gf : Nat} {lb : Array Value} (hg : a.eval g = .func (.func gf) #[] lb) (hFg : F.fn gf) (eg : ∀ args w, (callFunc gf args).run P w = .ok (.enter gf args) w)
  {encs : α → Array Value} {Kp : Nat → World → World → Prop} {ys : List α} {w0 : World} (hseq : SeqAll F (n - 1) P gf lb encs Kp ys w0)
  (hKt : ∀ {A B C : World}, Kp (w.heap.size + 1) A B → Kp (w.heap.size + 1) B C → Kp (w.heap.size + 1) A C) (hKb : ∀ (W : World) (o o' : Obj), W.heap[w.heap.size + 1]? = some o → o.isCells = false → o.isWalk = false → Kp (w.heap.size + 1) W (W.putObj (w.heap.size + 1) o')) (hb0 : Below w0.heap.size w0 w) (hps : ∀ x, (encs x).size = ps.size)
  (I : Nat → World → Prop) (hI : OwnFrom w.heap.size I) (h0 : I 0 w) (Ax : α → Act → World → Prop) (hAx : ∀ x a', OwnFrom w.heap.size (fun (_ : Unit) W => Ax x a' W))
  (hassign : ∀ (l k : Nat) (x : α) (W : World) (K : Act → World → Prop), I k W → (∀ a' W', KeepsFrom w.heap.size W W' → Kp (w.heap.size + 1) W W' → I k W' → Ax x a' W' → K a' W') →
   assign.wpIn (F.inRound l) (n - 1 - 1) P (Exit.then K (fun _ _ _ => False)) { tmps := (ps.zip (encs x)).foldl (fun t (p, v) => t.setIfInBounds p v) a.tmps, defers := [] } W)
  (hbody : ∀ (l k : Nat) (x : α) (a' : Act) (W : World), ys[k]? = some x → I k W → Ax x a' W → body.wpIn (F.inRound l) (n - 1 - 1) P (goesOn w.heap.size (Kp (w.heap.size + 1)) (I (k + 1)) W) a' W)
  (hdone : ∀ (D : Nat) (W : World), w.heap.size ≤ D → I ys.length W → W.heap[D]? = some (.deferred (some [])) → Q .normal { a with defers := { target := .collected D, args := #[] } :: a.defers } W) :
  (Code.rangeFunc g ps assign body).wpIn F n P Q a w := by
 refine wpIn_rangeFunc fun fn hfn => ?_
 rw [hro]
 have hZ : w.heap.size < w.heap.size + 1 := Nat.lt_succ_self _
 have R0 : { r : Loop // r.state = .ready ∧ r.pending = none ∧ r = { state := .ready, pending := none, fn, tmps := a.tmps, params := ps, assign, body, defers := w.heap.size } } := ⟨_, rfl, rfl, rfl⟩
 obtain ⟨r, hr1, hr2, hre⟩ := R0
 have hrun := run_enterLoop_outer (P := P) (w := w) fn a.tmps ps assign body
 rw [← hre] at hrun
 generalize hW1 : (w.alloc (.deferred (some []))).alloc (.loop r) = W1 at hrun
 have hsz : W1.heap.size = w.heap.size + 2 := by rw [← hW1]; simp
 have gw : w.grownBy (w.alloc (.deferred (some []))) none := World.grownBy_alloc _ _ _
 have hl1 : W1.heap[w.heap.size + 1]? = some (.loop r) := by
  rw [← hW1]; simpa using World.alloc_heap_new (w.alloc (.deferred (some []))) (.loop r)
 have hd1 : W1.heap[w.heap.size]? = some (.deferred (some [])) := by
  rw [← hW1]; exact (Below.heap_alloc _ _ _ (by simp)).trans (World.alloc_heap_new _ _)
 have hi1 : I 0 W1 := by rw [← hW1]; exact hI.alloc _ (hI.alloc _ h0)
 have hB1 : Below w0.heap.size w0 W1 := by
  rw [← hW1]; exact hb0.trans (((Below.refl w.heap.size w).alloc (Nat.le_refl _) _).alloc (by simp) _ |>.mono hb0.size)
 refine ⟨_, _, W1, { target := .fn (.func gf) lb, args := #[.func (.yield (w.heap.size + 1)) #[] #[]] }, W1, gf, #[.func (.yield (w.heap.size + 1)) #[] #[]] ++ lb, W1, hrun, by simp only [resolve, hg]; simp [go_sem], fun f' hf' => ?_, by simp [invoke, go_sem, eg], fun _ => h1, ?_⟩
 ·
  simp [Target.leads] at hf'; subst hf'; exact hFg
 refine (hseq (w.heap.size + 1) (fun k W => I k W ∧ W.heap[w.heap.size + 1]? = some (.loop r) ∧ W.heap[w.heap.size]? = some (.deferred (some []))) W1 hB1 (by have := hb0.size; omega) (by omega)
  (fun s A B row ⟨hi, hl, hd⟩ hg' hrow => ⟨hI s A B row hi hg' (fun q e => ⟨by have := (hrow q e).1; omega, (hrow q e).2⟩),
   (hg'.block _ (Array.getElem?_eq_some_iff.1 hl).1 (fun e => by have := (hrow _ e.symm).1; omega)).trans hl,
   (hg'.block _ (Array.getElem?_eq_some_iff.1 hd).1 (fun e => by have := (hrow _ e.symm).1; omega)).trans hd⟩) ?_ ⟨hi1, hl1, hd1⟩).mono ?_
 ·
  rintro k x W hx ⟨hi, hl, hd⟩
  have hy := run_yield (P := P) (args := encs x) hl (by rw [hre]; exact hps x)
  have hy' := hy
  rw [hre] at hy'
  refine ⟨_, _, _, _, hy', roundIn_of_wpIn hfn (hassign _ k x W _ hi fun a' Wa hkf hkp hia hax => ?_)⟩
  have hla := hkf.same _ _ (by omega) hl rfl
  have hda := hkf.same _ _ (Nat.le_refl _) hd rfl
  have hlt := (Array.getElem?_eq_some_iff.1 hla).1
  refine ⟨_, run_beginRound hla hr1, ?_⟩
  have hlb : (Wa.putObj (w.heap.size + 1) (.loop { r with state := .busy })).heap[w.heap.size + 1]? = some (.loop { r with state := .busy }) := World.putObj_heap_same hlt
  have hdb : (Wa.putObj (w.heap.size + 1) (.loop { r with state := .busy })).heap[w.heap.size]? = some (.deferred (some [])) := (World.putObj_heap_other (by omega)).trans hda
  have hkb := hKb Wa _ (.loop { r with state := .busy }) hla rfl rfl
  refine wpIn_mono (hbody _ k x a' _ hx (hI.putObj _ hia (by omega) hla rfl) ((hAx x a').putObj (s := ()) _ hax (by omega) hla rfl)) ?_
  rintro e a3 W3 hp
  cases e with
  | normal =>
   obtain ⟨hk3, hkp3, hi3⟩ := hp
   have hl3 := hk3.same _ _ (by omega) hlb rfl
   have hd3 := hk3.same _ _ (Nat.le_refl _) hdb rfl
   have hend := run_endRound (P := P) none hl3
   have hr' : ({ { r with state := .busy } with state := if (none : Option Code).isNone then .ready else .done, pending := none } : Loop) = r := by
    rw [hre]; simp
   rw [hr'] at hend
   refine ⟨_, _, hend, rfl, ⟨hI.putObj _ hi3 (by omega) hl3 rfl, World.putObj_heap_same (Array.getElem?_eq_some_iff.1 hl3).1, (World.putObj_heap_other (by omega)).trans hd3⟩, ?_⟩
   exact hKt hkp (hKt hkb (hKt hkp3 (hKb _ _ _ hl3 rfl rfl)))
  | ret => exact hp.elim
  | exit id => exact hp.elim
  | goto t => exact hp.elim
  | panic c => exact hp.elim
  | outgrown => exact hp.elim
 ·
  rintro e W2 ⟨⟨v, rfl⟩, hi, hl, hd⟩
  have hend := run_endLoop (P := P) hl (by rw [hr1]; simp)
  rw [hr2] at hend
  exact ⟨none, _, hend, hdone _ _ (Nat.le_refl _) (hI.putObj _ hi (by omega) hl rfl) ((World.putObj_heap_other (by omega)).trans hd)⟩
theorem wpIn_rangeFunc_allA {α : Type} {g : Operand} {ps : Array Tmp} {assign body : Code} {Q : Exit → Act → World → Prop} {a : Act} {w : World}
  (hro : F.round = none) (h1 : 1 ≤ n) {gf : Nat} {lb : Array Value} (hg : a.eval g = .func (.func gf) #[] lb) (hFg : F.fn gf) (eg : ∀ args w, (callFunc gf args).run P w = .ok (.enter gf args) w)
  {encs : α → Array Value} {Kp : Nat → World → World → Prop} {ys : List α} {w0 : World} (hseq : SeqAll F (n - 1) P gf lb encs Kp ys w0)
  (hKt : ∀ {A B C : World}, Kp (w.heap.size + 1) A B → Kp (w.heap.size + 1) B C → Kp (w.heap.size + 1) A C) (hKb : ∀ (W : World) (o o' : Obj), W.heap[w.heap.size + 1]? = some o → o.isCells = false → o.isWalk = false → Kp (w.heap.size + 1) W (W.putObj (w.heap.size + 1) o')) (hKr : ∀ W, Kp (w.heap.size + 1) W W) (hb0 : Below w0.heap.size w0 w) (hps : ∀ x, (encs x).size = ps.size)
  (I : Nat → World → Prop) (hI : OwnFrom w.heap.size I) (h0 : I 0 w) (a₁ : α → Act)
  (hassign : ∀ (l : Nat) (x : α) (W : World) (K : Act → World → Prop), K (a₁ x) W →
   assign.wpIn (F.inRound l) (n - 1 - 1) P (Exit.then K (fun _ _ _ => False)) { tmps := (ps.zip (encs x)).foldl (fun t (p, v) => t.setIfInBounds p v) a.tmps, defers := [] } W)
  (hbody : ∀ (l k : Nat) (x : α) (W : World), ys[k]? = some x → I k W → body.wpIn (F.inRound l) (n - 1 - 1) P (goesOn w.heap.size (Kp (w.heap.size + 1)) (I (k + 1)) W) (a₁ x) W)
  (hdone : ∀ (D : Nat) (W : World), w.heap.size ≤ D → I ys.length W → W.heap[D]? = some (.deferred (some [])) → Q .normal { a with defers := { target := .collected D, args := #[] } :: a.defers } W) :
  (Code.rangeFunc g ps assign body).wpIn F n P Q a w :=
 wpIn_rangeFunc_all hro h1 hg hFg eg hseq (fun h k => hKt h k) hKb hb0 hps I hI h0 (fun x a' _ => a' = a₁ x) (fun _ _ _ _ _ _ hs _ _ => hs)
  (fun l k x W K hi hK => hassign l x W K (hK _ _ (KeepsFrom.refl _ _) (hKr W) hi rfl)) (fun l k x a' W hx hi e => by subst e; exact hbody l k x W hx hi) hdone
def AllBut (B l : Nat) (W W' : World) : Prop := W.heap.size ≤ W'.heap.size ∧ ∀ k, k < W.heap.size → k ≠ B → k ≠ l → W'.heap[k]? = W.heap[k]?
theorem AllBut.refl (B l : Nat) (W : World) : AllBut B l W W := ⟨Nat.le_refl _, fun _ _ _ _ => rfl⟩
theorem AllBut.t {B l : Nat} {X Y Z : World} (h : AllBut B l X Y) (k : AllBut B l Y Z) : AllBut B l X Z :=
 ⟨Nat.le_trans h.1 k.1, fun j hj h1 h2 => (k.2 j (Nat.lt_of_lt_of_le hj h.1) h1 h2).trans (h.2 j hj h1 h2)⟩
theorem AllBut.b (B l : Nat) (W : World) (o' : Obj) : AllBut B l W (W.putObj l o') := ⟨by simp, fun j _ _ h2 => World.putObj_heap_other h2⟩
theorem AllBut.of_below {B l : Nat} {W W' : World} (h : Below W.heap.size W W') : AllBut B l W W' := ⟨h.size, fun j hj _ _ => h.block j hj⟩
theorem AllBut.of_grown {B l : Nat} {W W' : World} (h : W.grownBy W' (some B)) : AllBut B l W W' := ⟨h.size, fun j hj h1 _ => h.block j hj (fun e => h1 (Option.some.inj e))⟩
theorem grown_of_below {W W' : World} (h : Below W.heap.size W W') : W.grownBy W' none := ⟨h.os, h.tape, h.output, h.size, fun j hj _ => h.block j hj⟩
theorem roundIn_any {l' m m' : Nat} {P : Program} {l : Nat} {f : FuncId} {tmps : Array Value} {assign body : Code} {w : World} {R : Ending → World → Prop} (h : RoundIn Fence.wide m P l f tmps assign body w R) : RoundIn (Fence.wide.inRound l') m' P l f tmps assign body w R :=
 ⟨h.1, fun c cs _ => h.2 c cs (room_wide _)⟩
end Go.Proofs.YthhmdgmmeedhdaaGreat
namespace Go.Proofs.YthhmdgmmeedhdaaGreat
open Go.RowKit
variable {F : Fence} {n : Nat} {P : Program}
def SeqRel (F : Fence) (n : Nat) (P : Program) (g : Nat) (lb : Array Value) (N : Nat) (R : Nat → Array Value → World → Prop) (Kp : Nat → World → World → Prop) (w : World) : Prop :=
 ∀ (l : Nat) (J : Nat → World → Prop) (W : World), Below w.heap.size w W → w.heap.size ≤ l → l < W.heap.size → OwnFrom W.heap.size J →
  (∀ k x W1, k < N → R k x W1 → J k W1 → YieldAt F (n - 1) P l x W1 fun e W' => e = .returned (.bool true) ∧ J (k + 1) W' ∧ Kp l W1 W') →
  J 0 W → CallsIn F n P g (#[.func (.yield l) #[] #[]] ++ lb) W fun e W' => (∃ v, e = .returned v) ∧ J N W'
theorem wpIn_rangeFunc_rel {g : Operand} {ps : Array Tmp} {assign body : Code} {Q : Exit → Act → World → Prop} {a : Act} {w : World}
  (hro : F.round = none) (h1 : 1 ≤ n) {gf : Nat} {lb : Array Value} (hg : a.eval g = .func (.func gf) #[] lb) (hFg : F.fn gf) (eg : ∀ args w, (callFunc gf args).run P w = .ok (.enter gf args) w)
  {N : Nat} {R : Nat → Array Value → World → Prop} {Kp : Nat → World → World → Prop} {w0 : World} (hseq : SeqRel F (n - 1) P gf lb N R Kp w0)
  (hKt : ∀ {A B C : World}, Kp (w.heap.size + 1) A B → Kp (w.heap.size + 1) B C → Kp (w.heap.size + 1) A C) (hKb : ∀ (W : World) (o o' : Obj), W.heap[w.heap.size + 1]? = some o → o.isCells = false → o.isWalk = false → Kp (w.heap.size + 1) W (W.putObj (w.heap.size + 1) o')) (hb0 : Below w0.heap.size w0 w) (hps : ∀ k x W, R k x W → x.size = ps.size)
  (I : Nat → World → Prop) (hI : OwnFrom w.heap.size I) (h0 : I 0 w) (Ax : Nat → Array Value → Act → World → Prop) (hAx : ∀ k x a', OwnFrom w.heap.size (fun (_ : Unit) W => Ax k x a' W))
  (hassign : ∀ (l k : Nat) (x : Array Value) (W : World) (K : Act → World → Prop), k < N → R k x W → I k W → (∀ a' W', KeepsFrom w.heap.size W W' → Kp (w.heap.size + 1) W W' → I k W' → Ax k x a' W' → K a' W') →
   assign.wpIn (F.inRound l) (n - 1 - 1) P (Exit.then K (fun _ _ _ => False)) { tmps := (ps.zip x).foldl (fun t (p, v) => t.setIfInBounds p v) a.tmps, defers := [] } W)
  (hbody : ∀ (l k : Nat) (x : Array Value) (a' : Act) (W : World), k < N → I k W → Ax k x a' W → body.wpIn (F.inRound l) (n - 1 - 1) P (goesOn w.heap.size (Kp (w.heap.size + 1)) (I (k + 1)) W) a' W)
  (hdone : ∀ (D : Nat) (W : World), w.heap.size ≤ D → I N W → W.heap[D]? = some (.deferred (some [])) → Q .normal { a with defers := { target := .collected D, args := #[] } :: a.defers } W) :
  (Code.rangeFunc g ps assign body).wpIn F n P Q a w := by
 refine wpIn_rangeFunc fun fn hfn => ?_
 rw [hro]
 have hZ : w.heap.size < w.heap.size + 1 := Nat.lt_succ_self _
 have R0 : { r : Loop // r.state = .ready ∧ r.pending = none ∧ r = { state := .ready, pending := none, fn, tmps := a.tmps, params := ps, assign, body, defers := w.heap.size } } := ⟨_, rfl, rfl, rfl⟩
 obtain ⟨r, hr1, hr2, hre⟩ := R0
 have hrun := run_enterLoop_outer (P := P) (w := w) fn a.tmps ps assign body
 rw [← hre] at hrun
 generalize hW1 : (w.alloc (.deferred (some []))).alloc (.loop r) = W1 at hrun
 have hsz : W1.heap.size = w.heap.size + 2 := by rw [← hW1]; simp
 have gw : w.grownBy (w.alloc (.deferred (some []))) none := World.grownBy_alloc _ _ _
 have hl1 : W1.heap[w.heap.size + 1]? = some (.loop r) := by
  rw [← hW1]; simpa using World.alloc_heap_new (w.alloc (.deferred (some []))) (.loop r)
 have hd1 : W1.heap[w.heap.size]? = some (.deferred (some [])) := by
  rw [← hW1]; exact (Below.heap_alloc _ _ _ (by simp)).trans (World.alloc_heap_new _ _)
 have hi1 : I 0 W1 := by rw [← hW1]; exact hI.alloc _ (hI.alloc _ h0)
 have hB1 : Below w0.heap.size w0 W1 := by
  rw [← hW1]; exact hb0.trans (((Below.refl w.heap.size w).alloc (Nat.le_refl _) _).alloc (by simp) _ |>.mono hb0.size)
 refine ⟨_, _, W1, { target := .fn (.func gf) lb, args := #[.func (.yield (w.heap.size + 1)) #[] #[]] }, W1, gf, #[.func (.yield (w.heap.size + 1)) #[] #[]] ++ lb, W1, hrun, by simp only [resolve, hg]; simp [go_sem], fun f' hf' => ?_, by simp [invoke, go_sem, eg], fun _ => h1, ?_⟩
 ·
  simp [Target.leads] at hf'; subst hf'; exact hFg
 refine (hseq (w.heap.size + 1) (fun k W => I k W ∧ W.heap[w.heap.size + 1]? = some (.loop r) ∧ W.heap[w.heap.size]? = some (.deferred (some []))) W1 hB1 (by have := hb0.size; omega) (by omega)
  (fun s A B row ⟨hi, hl, hd⟩ hg' hrow => ⟨hI s A B row hi hg' (fun q e => ⟨by have := (hrow q e).1; omega, (hrow q e).2⟩),
   (hg'.block _ (Array.getElem?_eq_some_iff.1 hl).1 (fun e => by have := (hrow _ e.symm).1; omega)).trans hl,
   (hg'.block _ (Array.getElem?_eq_some_iff.1 hd).1 (fun e => by have := (hrow _ e.symm).1; omega)).trans hd⟩) ?_ ⟨hi1, hl1, hd1⟩).mono ?_
 ·
  rintro k x W hx hR ⟨hi, hl, hd⟩
  have hy := run_yield (P := P) (args := x) hl (by rw [hre]; exact hps k x W hR)
  have hy' := hy
  rw [hre] at hy'
  refine ⟨_, _, _, _, hy', roundIn_of_wpIn hfn (hassign _ k x W _ hx hR hi fun a' Wa hkf hkp hia hax => ?_)⟩
  have hla := hkf.same _ _ (by omega) hl rfl
  have hda := hkf.same _ _ (Nat.le_refl _) hd rfl
  have hlt := (Array.getElem?_eq_some_iff.1 hla).1
  refine ⟨_, run_beginRound hla hr1, ?_⟩
  have hlb : (Wa.putObj (w.heap.size + 1) (.loop { r with state := .busy })).heap[w.heap.size + 1]? = some (.loop { r with state := .busy }) := World.putObj_heap_same hlt
  have hdb : (Wa.putObj (w.heap.size + 1) (.loop { r with state := .busy })).heap[w.heap.size]? = some (.deferred (some [])) := (World.putObj_heap_other (by omega)).trans hda
  have hkb := hKb Wa _ (.loop { r with state := .busy }) hla rfl rfl
  refine wpIn_mono (hbody _ k x a' _ hx (hI.putObj _ hia (by omega) hla rfl) ((hAx k x a').putObj (s := ()) _ hax (by omega) hla rfl)) ?_
  rintro e a3 W3 hp
  cases e with
  | normal =>
   obtain ⟨hk3, hkp3, hi3⟩ := hp
   have hl3 := hk3.same _ _ (by omega) hlb rfl
   have hd3 := hk3.same _ _ (Nat.le_refl _) hdb rfl
   have hend := run_endRound (P := P) none hl3
   have hr' : ({ { r with state := .busy } with state := if (none : Option Code).isNone then .ready else .done, pending := none } : Loop) = r := by
    rw [hre]; simp
   rw [hr'] at hend
   refine ⟨_, _, hend, rfl, ⟨hI.putObj _ hi3 (by omega) hl3 rfl, World.putObj_heap_same (Array.getElem?_eq_some_iff.1 hl3).1, (World.putObj_heap_other (by omega)).trans hd3⟩, ?_⟩
   exact hKt hkp (hKt hkb (hKt hkp3 (hKb _ _ _ hl3 rfl rfl)))
  | ret => exact hp.elim
  | exit id => exact hp.elim
  | goto t => exact hp.elim
  | panic c => exact hp.elim
  | outgrown => exact hp.elim
 ·
  rintro e W2 ⟨⟨v, rfl⟩, hi, hl, hd⟩
  have hend := run_endLoop (P := P) hl (by rw [hr1]; simp)
  rw [hr2] at hend
  exact ⟨none, _, hend, hdone _ _ (Nat.le_refl _) (hI.putObj _ hi (by omega) hl rfl) ((World.putObj_heap_other (by omega)).trans hd)⟩
theorem wpIn_rangeFunc_relA {α : Type} {g : Operand} {ps : Array Tmp} {assign body : Code} {Q : Exit → Act → World → Prop} {a : Act} {w : World}
  (hro : F.round = none) (h1 : 1 ≤ n) {gf : Nat} {lb : Array Value} (hg : a.eval g = .func (.func gf) #[] lb) (hFg : F.fn gf) (eg : ∀ args w, (callFunc gf args).run P w = .ok (.enter gf args) w)
  {N : Nat} {encs : α → Array Value} {R : Nat → α → World → Prop} {Kp : Nat → World → World → Prop} {w0 : World} (hseq : SeqRel F (n - 1) P gf lb N (fun k x W => ∃ y, R k y W ∧ x = encs y) Kp w0)
  (hKt : ∀ {A B C : World}, Kp (w.heap.size + 1) A B → Kp (w.heap.size + 1) B C → Kp (w.heap.size + 1) A C) (hKb : ∀ (W : World) (o o' : Obj), W.heap[w.heap.size + 1]? = some o → o.isCells = false → o.isWalk = false → Kp (w.heap.size + 1) W (W.putObj (w.heap.size + 1) o')) (hKr : ∀ W, Kp (w.heap.size + 1) W W) (hb0 : Below w0.heap.size w0 w) (hps : ∀ y, (encs y).size = ps.size)
  (I : Nat → World → Prop) (hI : OwnFrom w.heap.size I) (h0 : I 0 w) (hR : ∀ k y, OwnFrom w.heap.size (fun (_ : Unit) W => R k y W)) (a₁ : α → Act)
  (hassign : ∀ (l k : Nat) (y : α) (W : World) (K : Act → World → Prop), R k y W → K (a₁ y) W →
   assign.wpIn (F.inRound l) (n - 1 - 1) P (Exit.then K (fun _ _ _ => False)) { tmps := (ps.zip (encs y)).foldl (fun t (p, v) => t.setIfInBounds p v) a.tmps, defers := [] } W)
  (hbody : ∀ (l k : Nat) (y : α) (W : World), k < N → I k W → R k y W → body.wpIn (F.inRound l) (n - 1 - 1) P (goesOn w.heap.size (Kp (w.heap.size + 1)) (I (k + 1)) W) (a₁ y) W)
  (hdone : ∀ (D : Nat) (W : World), w.heap.size ≤ D → I N W → W.heap[D]? = some (.deferred (some [])) → Q .normal { a with defers := { target := .collected D, args := #[] } :: a.defers } W) :
  (Code.rangeFunc g ps assign body).wpIn F n P Q a w :=
 wpIn_rangeFunc_rel hro h1 hg hFg eg hseq (fun h k => hKt h k) hKb hb0 (fun k x W ⟨y, _, e⟩ => by rw [e]; exact hps y) I hI h0 (fun k x a' W => ∃ y, a' = a₁ y ∧ R k y W) (fun k x a' s A B row ⟨y, e, h⟩ hg' hr => ⟨y, e, hR k y s A B row h hg' hr⟩)
  (fun l k x W K _ hr hi hK => by
   obtain ⟨y, hy, rfl⟩ := hr
   exact hassign l k y W K hy (hK _ _ (KeepsFrom.refl _ _) (hKr W) hi ⟨y, rfl, hy⟩))
  (fun l k x a' W hx hi e => by obtain ⟨y, rfl, hr⟩ := e; exact hbody l k y W hx hi hr) hdone
end Go.Proofs.YthhmdgmmeedhdaaGreat
namespace Go.Proofs.YthhmdgmmeedhdaaGreat
open Go.RowKit Go.Shelf
attribute [local go_sem] Oper.semAt_some
abbrev SX (m n : Nat) (w : World) := { x : Value × List UInt8 // BSl 0 n w x.1 x.2 ∧ x.2.length ≤ m }
abbrev sxEnc {o n : Nat} {w : World} (x : SX o n w) : Array Value := #[x.1.1]
def SRow {o n : Nat} {w : World} (W : World) (b off : Nat) (l : List (SX o n w)) : Prop := ∀ k x, l[k]? = some x → W.cell? ⟨b, off + k, none⟩ = some x.1.1
theorem SRow.below {o n : Nat} {w : World} {W W' : World} {m b off : Nat} {l : List (SX o n w)} (h : SRow W b off l) (hb : Below m W W') (hlt : b < m) : SRow W' b off l := fun k x hx => (hb.cell (p := ⟨b, _, none⟩) hlt).trans (h k x hx)
def SSl {o n : Nat} {w : World} (m : Nat) (W : World) (sv : Value) (zs : List (SX o n w)) : Prop :=
 ∃ a cap, sv = .slice a zs.length cap ∧ (zs = [] ∨ ∃ b off, a = some ⟨b, off, none⟩ ∧ b < m ∧ SRow W b off zs)
theorem SSl.below {o n : Nat} {w : World} {m k : Nat} {W W' : World} {sv : Value} {zs : List (SX o n w)} (h : SSl m W sv zs) (hb : Below k W W') (hm : m ≤ k) : SSl m W' sv zs := by
 obtain ⟨a, cap, e, h0 | ⟨b, off, ha, hl, ho⟩⟩ := h
 ·
  exact ⟨a, cap, e, .inl h0⟩
 ·
  exact ⟨a, cap, e, .inr ⟨b, off, ha, hl, ho.below hb (by omega)⟩⟩
def flat {o n : Nat} {w : World} (l : List (SX o n w)) : List UInt8 := (l.map fun x => x.1.2).flatten
theorem flat_snoc {o n : Nat} {w : World} (l : List (SX o n w)) (x : SX o n w) : flat (l ++ [x]) = flat l ++ x.1.2 := by simp [flat]
set_option maxRecDepth 100000 in
set_option maxHeartbeats 4000000 in
theorem valuesS1_in (F : Fence) (n : Nat) (h7 : F.fn 140) (hro : F.round = none) (hn : 1 ≤ n) (l Bs n₀ b off cap : Nat) {m₁ n₁ : Nat} {w₁ : World} (zs : List (SX m₁ n₁ w₁)) (hreach : zs.length ≤ 140737488351232) (hb : b < n₀) (J Jx : List (SX m₁ n₁ w₁) → World → Prop)
  (W : World)
  (hY : ∀ pre x W, J pre W → zs[pre.length]? = some x → YieldAt F (n - 1) Tryz.prog l (sxEnc x) W fun e W' =>
   (e = .returned (.bool true) ∧ J (pre ++ [x]) W' ∧ Below n₀ W W') ∨ (e = .returned (.bool false) ∧ Jx (pre ++ [x]) W'))
  (hBs : W.cell? ⟨Bs, 0, none⟩ = some (.slice (some ⟨b, off, none⟩) zs.length cap)) (hc : SRow W b off zs) (h0 : J [] W) :
  CallsIn F n Tryz.prog 140 #[.func (.yield l) #[] #[], .pointer (some ⟨Bs, 0, none⟩)] W fun e W' => (∃ v, e = .returned v) ∧
   ((∃ ys, ys = zs ∧ J ys W') ∨ (∃ pre, True ∧ Jx pre W')) := by
 refine callsIn_of_wp Tryz.func140 rfl h7 ?_ hro
 simp only [Tryz.ntmps140, List.size_toArray, List.length_cons, List.length_nil, Nat.reduceAdd, Nat.reduceSub, Array.replicate_succ, Array.replicate_zero, List.push_toArray, List.append_toArray, List.nil_append, List.cons_append]
 gi_wp2
 gi_loopw [7] (fun i wr => ∃ k : Nat, k ≤ zs.length ∧ i = .int .i64 k ∧ J (zs.take k) wr ∧ Below n₀ W wr) (fun i _ => zs.length - (intOf i).toNat)
 case atStart => exact ⟨0, Nat.zero_le _, rfl, h0, Below.refl _ _⟩
 case round =>
  obtain ⟨k, hk, rfl, hJs, hnx⟩ := hrel
  by_cases hlt : k < zs.length
  ·
   obtain ⟨x, hx⟩ : ∃ x, zs[k]? = some x := ⟨_, List.getElem?_eq_getElem hlt⟩
   have c0 := (hc.below hnx hb) k x hx
   obtain ⟨⟨xa, xc, hxe, _⟩, _⟩ := x.2
   rw [hxe] at c0
   have hk0 : (k : Int) < (zs.length : Int) := by omega
   obtain ⟨fn, tmps, assign, body, hy, hR⟩ := hY (zs.take k) x wr hJs (by rw [List.length_take, Nat.min_eq_left (Nat.le_of_lt hlt)]; exact hx)
   have ht : zs.take (k + 1) = zs.take k ++ [x] := by rw [List.take_add_one, hx]; rfl
   rw [← ht] at hR
   have hE : sxEnc x = #[.slice xa x.1.2.length xc] := by show #[x.1.1] = _; rw [hxe]
   rw [hE] at hy
   clear ht hE hxe
   have HX := Lib.hid hx
   clear hx
   generalize hL : zs.length = len at *
   have HL := Lib.hid hL
   clear hL
   gi_wp2
   refine hR.mono ?_
   rintro e W3 (⟨rfl, hJ3, hk3⟩ | ⟨rfl, hJx3⟩)
   ·
    gi_wp2
    go_roundw
    case rel => exact ⟨k + 1, by omega, by simp, hJ3, hnx.trans hk3⟩
    case measure => simp [intOf]; omega
   ·
    gi_wp2
    refine bodyPost_ret (results_none rfl _ _ _) rfl ?_
    exact ⟨⟨_, rfl⟩, .inr ⟨_, trivial, hJx3⟩⟩
  ·
   obtain rfl : k = zs.length := by omega
   gi_wp2
   go_end0
   rw [List.take_length] at hJs
   exact ⟨⟨_, rfl⟩, .inl ⟨_, rfl, hJs⟩⟩
set_option maxRecDepth 100000 in
set_option maxHeartbeats 1000000 in
theorem valuesS1_nil_in {m₁ n₁ : Nat} {w₁ : World} (F : Fence) (n : Nat) (h7 : F.fn 140) (hro : F.round = none) (l Bs : Nat) (a : Option Addr) (cap : Nat) (J : List (SX m₁ n₁ w₁) → World → Prop) (W : World) (hBs : W.cell? ⟨Bs, 0, none⟩ = some (.slice a 0 cap)) (h0 : J [] W) :
  CallsIn F n Tryz.prog 140 #[.func (.yield l) #[] #[], .pointer (some ⟨Bs, 0, none⟩)] W fun e W' => (∃ v, e = .returned v) ∧ J [] W' := by
 refine callsIn_of_wp Tryz.func140 rfl h7 ?_ hro
 simp only [Tryz.ntmps140, List.size_toArray, List.length_cons, List.length_nil, Nat.reduceAdd, Nat.reduceSub, Array.replicate_succ, Array.replicate_zero, List.push_toArray, List.append_toArray, List.nil_append, List.cons_append]
 gi_wp2
 gi_loopw [7] (fun i wr => i = .int .i64 0 ∧ J [] wr) (fun _ _ => 0)
 case atStart => exact ⟨rfl, h0⟩
 case round =>
  obtain ⟨rfl, hJs⟩ := hrel
  gi_wp2
  go_end0
  exact ⟨⟨_, rfl⟩, hJs⟩
set_option maxHeartbeats 1000000 in
theorem valuesS_in (F : Fence) (n : Nat) (h5 : F.fn 116) (hro : F.round = none) (a : Option Addr) (len cap : Nat) (w : World) :
  CallsIn F n Tryz.prog 116 #[.slice a len cap] w fun e w' => e = .returned (.func (.func 140) #[] #[.pointer (some ⟨w.heap.size, 0, none⟩)]) ∧ w' = w.alloc (.cells #[.slice a len cap] 136) := by
 refine callsIn_of_wp Tryz.func116 rfl h5 ?_ hro
 simp only [Tryz.ntmps116, List.size_toArray, List.length_cons, List.length_nil, Nat.reduceAdd, Nat.reduceSub, Array.replicate_succ, Array.replicate_zero, List.push_toArray, List.append_toArray, List.nil_append, List.cons_append]
 gi_wp2
 go_ret
 exact ⟨rfl, rfl⟩
theorem valuesS_rel (m : Nat) (hm : 1 ≤ m) (Bs n₀ : Nat) (sv : Value) {m₁ n₁ : Nat} {w₁ : World} (zs : List (SX m₁ n₁ w₁)) (hreach : zs.length ≤ 140737488351232) (w : World) (hn₀ : n₀ ≤ w.heap.size)
  (hk : Boxed w Bs 136 sv) (hI : SSl n₀ w sv zs) :
  SeqRel Fence.wide m Tryz.prog 140 #[.pointer (some ⟨Bs, 0, none⟩)] zs.length (fun k x _ => ∃ y, zs[k]? = some y ∧ x = sxEnc y) (fun _ => Below n₀) w := fun l J W hW _ _ _ hY h0 => by
 have hc' := (hW.cell (p := ⟨Bs, 0, none⟩) hk.lt).trans hk.cell
 obtain ⟨a, cap, rfl, rfl | ⟨b, off, rfl, hb, hcs⟩⟩ := hI.below hW hn₀
 ·
  exact (valuesS1_nil_in (m₁ := m₁) (n₁ := n₁) (w₁ := w₁) Fence.wide m trivial rfl l Bs a cap (fun _ => J 0) W hc' h0).mono fun e W' ⟨he, hj⟩ => ⟨he, hj⟩
 ·
  refine (valuesS1_in Fence.wide m trivial rfl hm l Bs n₀ b off cap zs hreach hb (fun pre X => pre = zs.take pre.length ∧ J pre.length X) (fun _ _ => False) W (fun pre x W1 hj hx => ?_) hc' hcs ⟨rfl, h0⟩).mono ?_
  ·
   refine (hY pre.length (sxEnc x) W1 (List.getElem?_eq_some_iff.1 hx).1 ⟨x, hx, rfl⟩ hj.2).mono fun e W' h => .inl ⟨h.1, ⟨?_, by rw [List.length_append]; exact h.2.1⟩, h.2.2⟩
   rw [List.length_append, List.length_singleton, List.take_add_one, hx, ← hj.1]; rfl
  ·
   rintro e W' ⟨he, ⟨ys, rfl, _, hj⟩ | ⟨_, _, h⟩⟩
   ·
    exact ⟨he, hj⟩
   ·
    exact h.elim
end Go.Proofs.YthhmdgmmeedhdaaGreat
namespace Go.Proofs.YthhmdgmmeedhdaaGreat
open Go.RowKit Go.Shelf
attribute [local go_sem] Oper.semAt_some
theorem flat_prefix {o n : Nat} {w : World} (zs : List (SX o n w)) (k : Nat) : (flat (zs.take k)).length ≤ (flat zs).length := by
 have h : flat zs = flat (zs.take k) ++ flat (zs.drop k) := by
  unfold flat
  rw [← List.flatten_append, ← List.map_append, List.take_append_drop]
 rw [h, List.length_append]
 omega
theorem flat_take {o n : Nat} {w : World} (zs : List (SX o n w)) {k : Nat} {x : SX o n w} (hx : zs[k]? = some x) : flat (zs.take (k + 1)) = flat (zs.take k) ++ x.1.2 := by
 rw [List.take_add_one, hx]
 exact flat_snoc _ _
def CatI {o n : Nat} {w₁ : World} (N : Nat) (w : World) (zs : List (SX o n w₁)) (k : Nat) (W : World) : Prop :=
 (∃ v, Boxed W N 95 v ∧ W.ownsRow N 5 1 v (flat (zs.take k)).length ((flat (zs.take k)).map bv) ∧ True) ∧ Below N w W
theorem catI_own {o n : Nat} {w₁ : World} {N : Nat} {w : World} {B : Nat} (zs : List (SX o n w₁)) (h : N ≤ w.heap.size) (hB : N ≤ B) : OwnFrom B (CatI (o := o) (n := n) (w₁ := w₁) N w zs) :=
 OwnFrom.and (Own.from (holdsRow_own N N 95 5 1 (fun k : Nat => (flat (zs.take k)).length) (fun k => (flat (zs.take k)).map bv) (fun _ _ => True)) _) (ownFrom_below h hB)
set_option maxRecDepth 100000 in
set_option maxHeartbeats 4000000 in
theorem cat_in (m : Nat) (hm : 3 ≤ m) {o : Nat} (sv : Value) (w : World) (zs : List (SX o w.heap.size w)) (hreach : zs.length ≤ 140737488351232) (ho : (flat zs).length ≤ 140737488355328) (hsv : SSl w.heap.size w sv zs) :
  CallsIn Fence.wide m Tryz.prog 84 #[sv] w (ByW (flat zs) w) := by
 have h1 : 1 ≤ m := by omega
 have hsv0 := hsv
 obtain ⟨a, cap, rfl, hcs⟩ := hsv
 clear hcs
 refine callsIn_of_wp_marks Tryz.func84 rfl trivial ?_ rfl
 simp only [Tryz.ntmps84, List.size_toArray, List.length_cons, List.length_nil, Nat.reduceAdd, Nat.reduceSub, Array.replicate_succ, Array.replicate_zero, List.push_toArray, List.append_toArray, List.nil_append, List.cons_append]
 obtain ⟨i0, hi, hz0, hz1, hz2⟩ := info_parts Tryz.infoByte
 gi_wp2_with (refine ⟨trivial, ?_⟩; gi_at_call 116; refine (valuesS_in Fence.wide (m - 1) trivial rfl _ _ _ _).mono ?_; rintro e w' ⟨rfl, rfl⟩)
 generalize hW5 : World.alloc _ _ = W5
 have k0 : Boxed W5 w.heap.size 95 (.slice none 0 0) := by rw [← hW5]; exact (Boxed.new _ _ _).alloc _
 have k2 : Boxed W5 (w.heap.size + 1) 136 (.slice a zs.length cap) := by rw [← hW5]; exact Blk.new' (vs := [_]) (by simp)
 have hB0 : Below w.heap.size w W5 := by rw [← hW5]; exact chainA (chain0 _ _) _
 have hz : W5.heap.size = w.heap.size + 2 := by rw [← hW5]; simp
 clear hW5
 refine wpIn_rangeFunc_relA rfl h1 (gf := 140) (lb := #[.pointer (some ⟨w.heap.size + 1, 0, none⟩)]) rfl trivial (enters_of Tryz.func140 (by kernel_rfl) rfl)
  (valuesS_rel (m - 1) (by omega) (w.heap.size + 1) w.heap.size _ zs hreach W5 (by omega) k2 (hsv0.below hB0 (Nat.le_refl _))) (fun h k => h.trans k) (fun X o o' h2 h3 h4 => belowK_b (w := w) (Nat.le_refl _) _ _ o o' (by omega) h2 h3 h4) (fun X => Below.refl _ X) (Below.refl _ _) (fun _ => rfl)
  (CatI w.heap.size w zs) (catI_own zs (Nat.le_refl _) (by omega))
  ⟨⟨_, k0, World.ownsRow_nil _ _ _ _, trivial⟩, hB0⟩ (fun _ _ _ _ _ _ h _ _ => h) ?_ ?_ ?_ ?_
 rotate_left
 ·
  intro l k x W K _ hK
  gi_wp2
  exact hK
 ·
  rintro r k x W hlt ⟨⟨v, kv, hown, _⟩, hB⟩ hx
  have ko := kv.cell
  have kf := kv.frozen
  have hNW : w.heap.size ≤ W.heap.size := hB.size
  have hxs := x.2.1.below hB (Nat.le_refl _)
  have hfs := flat_take zs hx
  have hle := flat_prefix zs (k + 1)
  rw [hfs, List.length_append] at hle
  have HF := Lib.hid hfs
  clear hfs hx
  obtain ⟨⟨sx, l⟩, _⟩ := x
  dsimp only at hxs hle HF
  generalize zs.take k = pre at *
  gi_wp2_with (gi_at_builtin; refine wpListIn_append_b _ rfl _ _ 95 rfl w.heap.size 5 i0 (.int .u8 0) Tryz.underlying95 hi hz0 hz1 hz2 rfl v (flat pre).length ((flat pre).map bv) rfl hown sx l rfl hxs (by omega) hNW ?_; intro v' w1 hown' hgrow; obtain ⟨a', c', rfl⟩ := ownsRow_slice hown'; have kv1 := kv.kept hgrow (kv.not_row (by decide) hown); have ko1 := kv1.cell; have kf1 := kv1.frozen)
  have kv3 := kv1.set (.slice a' ((flat pre).length + l.length) c')
  have hrow3 := hown'.kept (grownBy_setCell' w1 w.heap.size (.slice a' ((flat pre).length + l.length) c')) (.inr (kv1.not_row (by decide) hown').symm)
  have hsp : Spares 5 W w1 := (Spares.of_below (Below.refl _ W)).grown hgrow (fun r e => .inr (ownsRow_block hown r e))
  have hbw := ((Below.refl w.heap.size W).grown hgrow hNW (fun j hj => (World.ownsRow.lt hown j hj).1)).setCell (p := ⟨w.heap.size, 0, none⟩) (Nat.le_refl _) (.slice a' ((flat pre).length + l.length) c')
  refine ⟨(hsp.others.trans (KeepsOthers.setCell _ _ _)).from _, hbw, ⟨_, kv3, ?_, trivial⟩, hB.trans hbw⟩
  rw [HF.out, List.map_append, List.length_append]
  exact hrow3
 ·
  rintro D W hD ⟨⟨v, kv, hown, _⟩, hB⟩ hK
  rw [List.take_length] at hown
  have ko := kv.cell
  have HZ := Lib.hid hz
  clear hz
  gi_wp2
  have hB' := hB.trans (belowK_b (w := w) (Nat.le_refl _) _ D _ (.deferred none) (by have := HZ.out; omega) hK rfl rfl)
  have hown3 := ownsRow_putObj hown (.deferred none) hK rfl
  refine ⟨by simp, .inl ⟨_, _, rfl, run_takeDeferred hK, ?_⟩⟩
  refine ⟨v, ?_, ?_⟩
  ·
   simp [results, Tryz.f84, go_sem]
  ·
   exact ⟨v, rfl, BSl.of_own hown3, hB'⟩
theorem cat_any {o : Nat} (sv : Value) (w : World) (zs : List (SX o w.heap.size w)) (hreach : zs.length ≤ 140737488351232) (ho : (flat zs).length ≤ 140737488355328) (hsv : SSl w.heap.size w sv zs) :
  Calls Tryz.prog 84 #[sv] w (ByW (flat zs) w) := callsIn_wide.1 (cat_in 3 (by omega) sv w zs hreach ho hsv)
end Go.Proofs.YthhmdgmmeedhdaaGreat
namespace Go.Proofs.YthhmdgmmeedhdaaGreat
open Go.RowKit Go.Shelf
set_option maxRecDepth 100000 in
set_option maxHeartbeats 1000000 in
theorem clone_any (l : List UInt8) (sv : Value) (w : World) {lo hi' : Nat} (hreach : l.length ≤ 140737488355328) (hsv : BSl lo hi' w sv l) (hhi : hi' ≤ w.heap.size) :
  Calls Tryz.prog 118 #[sv] w (ByO l w) := by
 obtain ⟨i0, hi, hz0, hz1, hz2⟩ := info_parts Tryz.infoByte
 have hsv0 := hsv
 obtain ⟨a, cap, rfl, hcap, h0⟩ := hsv
 rcases a with _ | ad
 ·
  have hl : l = [] := by
   rcases h0 with h0 | ⟨_, _, h, _⟩
   ·
    exact h0
   ·
    cases h
  subst hl
  have hnil := fun w => Lib.run_eql_slice_nil (P := Tryz.prog) w 95 5 none 0 cap 0 0 Tryz.underlying95
  change Calls _ _ #[.slice none 0 cap] _ _
  go_enter Tryz.func118, Tryz.ntmps118
  go_wp2
  go_ret
  exact ⟨_, rfl, World.ownsRow_nil _ _ _ _, Below.refl _ _⟩
 ·
  clear h0
  have hnil := fun w => Lib.run_eql_slice_nil (P := Tryz.prog) w 95 5 (some ad) l.length cap 0 0 Tryz.underlying95
  generalize hL : l.length = len at *
  have HL := Lib.hid hL
  clear hL
  go_enter Tryz.func118, Tryz.ntmps118
  go_wp2_with (at_builtin; refine wpList_append_b _ rfl _ _ 95 rfl w.heap.size 5 i0 (.int .u8 0) Tryz.underlying95 hi hz0 hz1 hz2 rfl _ 0 [] rfl (World.ownsRow_lit w #[] 0 (Nat.le_refl _) (by unfold maxLen; omega) rfl) _ l rfl (hsv0.below ((Below.refl hi' w).alloc hhi _) (Nat.le_refl _)) (by rw [HL.out]; omega) (by simp) ?_; intro v' w1 hown' hgrow)
  go_ret
  refine ⟨_, rfl, by simpa using hown', ((chain0 w _).grown hgrow (by simp) (fun k e => ?_))⟩
  have : w.heap.size = k := Option.some.inj e
  omega
end Go.Proofs.YthhmdgmmeedhdaaGreat
namespace Go.Proofs.YthhmdgmmeedhdaaGreat
open Go.RowKit Go.Shelf
theorem conv_bytes (w : World) (s : ByteArray) : ∃ c W', (convert 9 95 (.string s)).run Tryz.prog w = .ok (.slice (some ⟨w.heap.size, 0, none⟩) s.size c) W' ∧ s.size ≤ c ∧ Below w.heap.size w W' ∧ W'.heap.size = w.heap.size + 1 ∧ Octs W' w.heap.size 0 s.data.toList := by
 refine ⟨_, _, Lib.run_convert_string_bytes w 9 95 5 s Tryz.underlying9 Tryz.underlying95 Tryz.underlying5, grownCap_ge _ _ _ _, ?_, Lib.bytesWorld_size _ _ _, fun k x hx => ?_⟩
 ·
  refine ⟨rfl, rfl, rfl, by rw [Lib.bytesWorld_size]; omega, fun k hk => Lib.bytesWorld_at_old _ _ _ k hk⟩
 ·
  have hk : k < s.size := (List.getElem?_eq_some_iff.1 hx).1
  rw [Nat.zero_add, Lib.bytesWorld_cell w _ s k hk]
  simp only [List.getD, hx, Option.getD_some]
theorem conv_bsl {w W : World} {s : ByteArray} {c : Nat} (hc : s.size ≤ c) (hz : W.heap.size = w.heap.size + 1) (ho : Octs W w.heap.size 0 s.data.toList) : BSl w.heap.size W.heap.size W (.slice (some ⟨w.heap.size, 0, none⟩) s.size c) s.data.toList :=
 ⟨_, c, rfl, hc, .inr ⟨_, 0, rfl, Nat.le_refl _, by omega, ho⟩⟩
end Go.Proofs.YthhmdgmmeedhdaaGreat
namespace Go.Proofs.YthhmdgmmeedhdaaGreat
open Go.RowKit Go.Shelf
theorem fault_nil (w : World) :
  Calls Tryz.prog 117 #[.pointer none] w fun e W' => e = .returned (.int .i64 9) ∧ w = W' := by
 go_enter Tryz.func117, Tryz.ntmps117
 go_wp2
 go_ret
 exact ⟨rfl, rfl⟩
theorem fault_at {B : Nat} {m : Bool} {sv : Value} {x : Int} (w : World) (h : Blk w B 132 [.bool m, sv, .int .i64 x]) :
  Calls Tryz.prog 117 #[.pointer (some ⟨B, 0, none⟩)] w fun e W' => e = .returned (.int .i64 (if m then x else 9)) ∧ w = W' := by
 obtain ⟨c0, -, c2⟩ := h.c3
 cases m
 all_goals
  go_enter Tryz.func117, Tryz.ntmps117
  go_wp2
  go_ret
  exact ⟨rfl, rfl⟩
theorem fault_any {p : Option Addr} {s : St} (w : World) (h : ObjP 132 w p s) :
  Calls Tryz.prog 117 #[.pointer p] w fun e W' => e = .returned (.int .i64 s.2) ∧ w = W' := by
 rcases h with ⟨rfl, rfl⟩ | ⟨B, m, a, n, c, x, rfl, hb, ⟨rfl, rfl⟩ | ⟨rfl, rfl, _, _⟩⟩
 ·
  exact fault_nil w
 ·
  exact fault_at w hb
 ·
  exact fault_at w hb
theorem outFail_any {p : Option Addr} {s : St} (x : Int) (w : World) (h : ObjP 132 w p s) :
  Calls Tryz.prog 108 #[.pointer p, .int .i64 x] w (DidS 132 p (errS s x) w) := by
 by_cases hf : s.2 = 0
 ·
  have h' := h
  rcases h with ⟨rfl, rfl⟩ | ⟨B, m, a, n, c, x0, rfl, hb, ⟨rfl, rfl⟩ | ⟨rfl, hx, hok, hsl⟩⟩
  ·
   simp at hf
  ·
   simp at hf
  have e1 : errS s x = ([], x) := if_pos hf
  rw [e1]
  clear e1
  have HF := Lib.hid hf
  have HX := Lib.hid hx
  clear hf hx
  obtain ⟨-, c1, c2⟩ := hb.c3
  have f1 := hb.frozen 1
  have f2 := hb.frozen 2
  go_enter Tryz.func108, Tryz.ntmps108
  go_wp2_with (go_at_call 117; refine (fault_any _ h').mono ?_; rw [HF.out]; rintro e w' ⟨rfl, rfl⟩)
  go_end0
  refine ⟨rfl, .inr ⟨B, true, none, 0, 0, x, rfl, ?_, .inr ⟨rfl, rfl, ⟨fun _ => rfl, by simp⟩, BSl.nil _ _ _⟩⟩, ?_⟩
  ·
   exact (hb.set 1 (.slice none 0 0)).set 2 (.int .i64 x)
  ·
   exact (grownBy_setCell4 w B 1 _).trans (grownBy_setCell4 _ B 2 _)
 ·
  rw [errS_bad hf]
  have hf1 : (s.2 == 0) = false := by simpa using hf
  go_enter Tryz.func108, Tryz.ntmps108
  go_wp2_with (go_at_call 117; refine (fault_any _ h).mono ?_; rintro e w' ⟨rfl, rfl⟩)
  go_end0
  exact ⟨rfl, h, World.grownBy.refl _ _⟩
theorem cat2_any (l1 l2 : List UInt8) (s1 s2 : Value) (w : World) (hl : l1.length + l2.length ≤ 140737488355328) (h1 : BSl 0 w.heap.size w s1 l1) (h2 : BSl 0 w.heap.size w s2 l2) :
  Calls Tryz.prog 84 #[.slice (some ⟨w.heap.size, 0, none⟩) 2 2] (w.alloc (.cells #[s1, s2] 95)) (ByW (l1 ++ l2) (w.alloc (.cells #[s1, s2] 95))) := by
 have hb := chain0 w (.cells #[s1, s2] 95)
 have hz : (w.alloc (.cells #[s1, s2] 95)).heap.size = w.heap.size + 1 := by simp
 have k : Blk (w.alloc (.cells #[s1, s2] 95)) w.heap.size 95 [s1, s2] := Blk.new w 95 [s1, s2]
 generalize w.alloc (.cells #[s1, s2] 95) = W at *
 let zs : List (SX 140737488355328 W.heap.size W) := [⟨(s1, l1), (h1.below hb (Nat.le_refl _)).mono (Nat.le_refl _) (by omega), by simp only; omega⟩, ⟨(s2, l2), (h2.below hb (Nat.le_refl _)).mono (Nat.le_refl _) (by omega), by simp only; omega⟩]
 have hfl : flat zs = l1 ++ l2 := by simp [flat, zs]
 have := cat_any (.slice (some ⟨w.heap.size, 0, none⟩) 2 2) W zs (by simp [zs]) (by rw [hfl, List.length_append]; exact hl)
  ⟨_, _, rfl, .inr ⟨w.heap.size, 0, rfl, by omega, fun i x hx => by
   rw [Nat.zero_add, k.cell i]
   match i, hx with
   | 0, hx => simp only [zs, List.getElem?_cons_zero, Option.some.injEq] at hx; rw [← hx]; rfl
   | 1, hx => simp only [zs, List.getElem?_cons_zero, List.getElem?_cons_succ, Option.some.injEq] at hx; rw [← hx]; rfl
   | i + 2, hx => simp [zs] at hx⟩⟩
 rw [hfl] at this
 exact this
theorem outPut_any {p : Option Addr} {s : St} (l : List UInt8) (sv : Value) (w : World) (h : ObjP 132 w p s) (hl : l.length ≤ 140737488345000) (hsv : BSl 0 w.heap.size w sv l) :
  Calls Tryz.prog 109 #[.pointer p, sv] w (DidS 132 p (addS s l) w) := by
 by_cases hf : s.2 = 0
 ·
  have h' := h
  rcases h with ⟨rfl, rfl⟩ | ⟨B, m, a, n, c, x0, rfl, hb, ⟨rfl, rfl⟩ | ⟨rfl, hx, hok, hsl⟩⟩
  ·
   simp at hf
  ·
   simp at hf
  have hsv0 := hsv
  obtain ⟨a2, c2', rfl, _, _⟩ := hsv0
  have hsl0 := hsl
  obtain ⟨a', c', e', _, _⟩ := hsl0
  cases e'
  have h82 := hok.2
  have e1 : addS s l = if s.1.length + l.length ≤ 8192 then (s.1 ++ l, 0) else ([], 5) := if_pos hf
  rw [e1]
  clear e1
  have HF := Lib.hid hf
  have HX := Lib.hid hx
  clear hf hx
  obtain ⟨-, c1, -⟩ := hb.c3
  have f1 := hb.frozen 1
  generalize hn : s.1.length = n at *
  generalize hk : l.length = k at *
  have HN := Lib.hid hn
  have HK := Lib.hid hk
  clear hn hk
  have kp : ∀ {w1 : World}, Below (w.alloc (.cells #[Value.slice a n c, Value.slice a2 k c2'] 95)).heap.size (w.alloc (.cells #[Value.slice a n c, Value.slice a2 k c2'] 95)) w1 → Blk w1 B 132 [.bool true, .slice a n c, .int .i64 x0] := fun hb1 =>
   (hb.alloc _).below hb1 (Nat.lt_of_lt_of_le hb.lt (by simp))
  by_cases hfit : n + k ≤ 8192
  ·
   rw [if_pos hfit]
   have hgt : ¬ ((8192 : Int) < (n : Int) + (k : Int)) := by omega
   go_enter Tryz.func109, Tryz.ntmps109
   go_wp2_with (first
    | (go_at_call 117; refine (fault_any _ h').mono ?_; rw [HF.out]; rintro e w' ⟨rfl, rfl⟩)
    | (go_at_call 84; (refine (cat2_any s.1 l (Value.slice a n c) (Value.slice a2 k c2') w (by have := HN.out; have := HK.out; omega) hsl hsv).mono ?_; rintro e w1 ⟨v, rfl, hv, hb1⟩; obtain ⟨va, vc, rfl, hvc⟩ := hv.shape; have c1' := (kp hb1).c3.2.1; have f1' := (kp hb1).frozen 1)))
   go_end0
   have K1 := kp hb1
   rw [List.length_append] at hv
   have G1 := grownBy_setCell4 w1 B 1 (.slice va (s.1.length + l.length) vc)
   refine ⟨rfl, .inr ⟨B, true, va, s.1.length + l.length, vc, x0, rfl, K1.set 1 _, .inr ⟨rfl, HF.out.symm.trans HX.out, ⟨fun k => absurd rfl k, ?_⟩, ?_⟩⟩, ((World.grownBy_alloc w _ (some B)).trans (grew hb1 _)).trans G1⟩
   ·
    have := HN.out; have := HK.out
    simp only [List.length_append]; omega
   ·
    exact (hv.to (Nat.le_refl _) G1 (fun r e => by cases e; exact noOct3 K1)).mono (Nat.zero_le _) G1.size
  ·
   rw [if_neg hfit]
   have hgt : (8192 : Int) < (n : Int) + (k : Int) := by omega
   go_enter Tryz.func109, Tryz.ntmps109
   go_wp2_with (first
    | (go_at_call 117; refine (fault_any _ h').mono ?_; rw [HF.out]; rintro e w' ⟨rfl, rfl⟩)
    | (go_at_call 108; refine (outFail_any _ _ h').mono ?_; rintro e w' ⟨rfl, hO, hG⟩))
   go_end0
   exact ⟨rfl, (show errS s 5 = ([], 5) from if_pos HF.out) ▸ hO, hG⟩
 ·
  rw [addS_bad hf]
  have hf1 : (s.2 == 0) = false := by simpa using hf
  have hf2 : (s.2 != 0) = true := by simpa using hf
  go_enter Tryz.func109, Tryz.ntmps109
  go_wp2_with (go_at_call 117; refine (fault_any _ h).mono ?_; rintro e w' ⟨rfl, rfl⟩)
  go_end0
  exact ⟨rfl, h, World.grownBy.refl _ _⟩
theorem clamp6 : clamp 6 = 6 := rfl
theorem clamp2 : clamp 2 = 2 := rfl
theorem two_nat {n : Nat} (h : n < 18446744073709551616) : two (n : Int) = n := by unfold two; omega
theorem outNum_any {p : Option Addr} {s : St} (n : Int) (w : World) (h : ObjP 132 w p s) :
  Calls Tryz.prog 82 #[.pointer p, .int .i64 n] w (DidS 132 p (numS s n) w) := by
 by_cases hn : 0 ≤ n ∧ n ≤ 1099511627776
 ·
  have e1 : numS s n = addS s (octs (two n) 6) := if_pos hn
  rw [e1]
  clear e1
  obtain ⟨h0, h1⟩ := hn
  have g0 : ¬ n < 0 := by omega
  have g1 : ¬ 1099511627776 < n := by omega
  go_enter Tryz.func82, Tryz.ntmps82
  go_wp2_with (first
   | (go_at_call 110; refine (num_any n 6 (by omega) (by omega) w).mono ?_; rintro e w1 ⟨v, rfl, hv, hb1⟩; rw [clamp6] at hv)
   | (go_at_call 109; refine (outPut_any _ _ w1 (h.below hb1) (by rw [octs_length]; omega) (hv.mono (Nat.zero_le _) (Nat.le_refl _))).mono ?_; rintro e w' ⟨rfl, hO, hG⟩))
  go_end0
  exact ⟨rfl, hO, (grew hb1 _).trans hG⟩
 ·
  have e1 : numS s n = errS s 4 := if_neg hn
  rw [e1]
  clear e1
  by_cases h0 : n < 0
  all_goals
   have HN := Lib.hid hn
   clear hn
   try (have g1 : 1099511627776 < n := by have := HN.out; omega)
   go_enter Tryz.func82, Tryz.ntmps82
   go_wp2_with (first
    | (go_at_call 108; refine (outFail_any _ _ h).mono ?_; rintro e w' ⟨rfl, hO, hG⟩))
   go_end0
   exact ⟨rfl, hO, hG⟩
set_option maxRecDepth 100000 in
set_option maxHeartbeats 1000000 in
theorem outText_any {p : Option Addr} {s : St} (t : ByteArray) (w : World) (h : ObjP 132 w p s) :
  Calls Tryz.prog 81 #[.pointer p, .string t] w (DidS 132 p (txtS s t) w) := by
 by_cases hn : t.size ≤ 1024
 ·
  have e1 : txtS s t = addS s (octs t.size 2 ++ t.data.toList) := if_pos hn
  rw [e1]
  clear e1
  have htl : t.data.toList.length = t.size := by rw [Array.length_toList]; rfl
  have g1 : ¬ (1024 : Int) < (t.size : Int) := by omega
  have HL := Lib.hid htl
  clear htl
  go_enter Tryz.func81, Tryz.ntmps81
  go_wp2_with (first
   | (go_at_call 110; refine (num_any t.size 2 (by omega) (by omega) w).mono ?_; rintro e w1 ⟨v, rfl, hv, hb1⟩; rw [clamp2, two_nat (by omega)] at hv; obtain ⟨va, vm, vc, rfl⟩ := hv.shape3; obtain ⟨c2, w2, hcv, hc2, hb2, hz2, ho2⟩ := conv_bytes w1 t; have HZ2 := Lib.hid hz2; clear hz2; have hB2 := RowKit.Below.trans hb1 (hb2.mono hb1.size))
   | (go_at_call 84; refine (cat2_any (octs t.size 2) t.data.toList (.slice va vm vc) (.slice (some ⟨w1.heap.size, 0, none⟩) t.size c2) w2 (by rw [octs_length, HL.out]; omega) ((hv.below hb2 (Nat.le_refl _)).mono (Nat.zero_le _) hb2.size) ((conv_bsl hc2 HZ2.out ho2).mono (Nat.zero_le _) (Nat.le_refl _))).mono ?_; rintro e w3 ⟨v3, rfl, hv3, hb3⟩; have hB3 := RowKit.Below.trans (hB2.alloc hB2.size _) (hb3.mono (Nat.le_trans hB2.size (by simp))))
   | (go_at_call 109; refine (outPut_any (octs t.size 2 ++ t.data.toList) v3 w3 (h.below hB3) (by rw [List.length_append, octs_length, HL.out]; omega) (hv3.mono (Nat.zero_le _) (Nat.le_refl _))).mono ?_; rintro e w' ⟨rfl, hO, hG⟩))
  go_end0
  exact ⟨rfl, hO, (grew hB3 _).trans hG⟩
 ·
  have e1 : txtS s t = errS s 5 := if_neg hn
  rw [e1]
  clear e1
  have g1 : (1024 : Int) < (t.size : Int) := by omega
  go_enter Tryz.func81, Tryz.ntmps81
  go_wp2_with (first
   | (go_at_call 108; refine (outFail_any _ _ h).mono ?_; rintro e w' ⟨rfl, hO, hG⟩))
  go_end0
  exact ⟨rfl, hO, hG⟩
set_option maxRecDepth 100000 in
theorem outWide_any {p : Option Addr} {s : St} {a0 a1 a2 a3 : Nat} (ha : Ok4 a0 a1 a2 a3) (w : World) (h : ObjP 132 w p s) :
  Calls Tryz.prog 143 #[.pointer p, wv a0 a1 a2 a3] w (DidS 132 p (wideS s a0 a1 a2 a3) w) := by
 have hl : (wide8 a0 a1 a2 a3).length = 32 := by unfold wide8; simp only [List.length_append, octs_length]
 have HL := Lib.hid hl
 clear hl
 go_enter Tryz.func143, Tryz.ntmps143
 go_wp2_with (first
  | (go_at_call 156; refine (blobWide_any ha _).mono ?_; rintro e w1 ⟨v, rfl, hv, hb1⟩; have hB1 := chain (chain0 w _) hb1)
  | (go_at_call 109; refine (outPut_any _ _ w1 (h.below hB1) (by rw [HL.out]; omega) (hv.mono (Nat.zero_le _) (Nat.le_refl _))).mono ?_; rintro e w' ⟨rfl, hO, hG⟩))
 go_end0
 exact ⟨rfl, hO, (grew hB1 _).trans hG⟩
def ToldS (s : St) (w : World) (e : Ending) (W' : World) : Prop := ∃ sv, e = .returned (.tuple #[sv, .int .i64 s.2]) ∧ BSl 0 W'.heap.size W' sv s.1 ∧ Below w.heap.size w W'
theorem outDone_any {p : Option Addr} {s : St} (w : World) (h : ObjP 132 w p s) :
  Calls Tryz.prog 85 #[.pointer p] w (ToldS s w) := by
 by_cases hf : s.2 = 0
 ·
  have h' := h
  rcases h with ⟨rfl, rfl⟩ | ⟨B, m, a, n, c, x0, rfl, hb, ⟨rfl, rfl⟩ | ⟨rfl, hx, hok, hsl⟩⟩
  ·
   simp at hf
  ·
   simp at hf
  have h82 := hok.2
  obtain ⟨-, c1, -⟩ := hb.c3
  have HF := Lib.hid hf
  clear hf hx
  go_enter Tryz.func85, Tryz.ntmps85
  go_wp2_with (first
   | (go_at_call 117; refine (fault_any _ h').mono ?_; rw [HF.out]; rintro e w' ⟨rfl, rfl⟩)
   | (go_at_call 118; refine (clone_any s.1 _ _ (by omega) hsl (Nat.le_refl _)).mono ?_; rintro e w1 ⟨v, rfl, hv, hb1⟩))
  go_ret2
  exact ⟨v, by rw [HF.out]; rfl, (BSl.of_own hv).mono (Nat.zero_le _) (Nat.le_refl _), hb1⟩
 ·
  have hs1 := h.ok.1 hf
  have hf1 : (s.2 == 0) = false := by simpa using hf
  have hf2 : (s.2 != 0) = true := by simpa using hf
  have HS := Lib.hid hs1
  clear hs1
  go_enter Tryz.func85, Tryz.ntmps85
  go_wp2_with (first
   | (go_at_call 117; refine (fault_any _ h).mono ?_; rintro e w' ⟨rfl, rfl⟩))
  go_ret2
  exact ⟨_, rfl, by rw [HS.out]; exact BSl.nil _ _ _, Below.refl _ _⟩
theorem outNew_any (w : World) :
  Calls Tryz.prog 46 #[] w fun e W' => e = .returned (.pointer (some ⟨w.heap.size, 0, none⟩)) ∧ W'.heap.size = w.heap.size + 1 ∧ ObjP 132 W' (some ⟨w.heap.size, 0, none⟩) ([], 0) ∧ Below w.heap.size w W' := by
 go_enter Tryz.func46, Tryz.ntmps46
 go_wp2
 go_ret
 exact ⟨rfl, by simp, .inr ⟨_, true, none, 0, 0, 0, rfl, Blk.new w _ [_, _, _], .inr ⟨rfl, rfl, ⟨fun _ => rfl, by simp⟩, BSl.nil _ _ _⟩⟩, chain0 _ _⟩
end Go.Proofs.YthhmdgmmeedhdaaGreat
