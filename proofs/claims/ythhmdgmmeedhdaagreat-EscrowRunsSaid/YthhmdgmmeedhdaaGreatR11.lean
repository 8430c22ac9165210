/-
  purse: what is moved; escrow: what a transaction that was taken asks for; purse: a book in which all have as much; escrow: locks of one's own; genesis; time goes on; what became of a lock; escrow: a deed is tried: what was demanded and did not hold is told; the state is as it was; escrow: a transaction is applied; The program's order of things and the page's come to the same
-/
import Derived.Outline
import Derived.Defers
import Derived.Recover
import Derived.Test.YthhmdgmmeedhdaaGreatR10
namespace Go.Proofs.YthhmdgmmeedhdaaGreat
open Go.RowKit Go.Shelf
set_option maxRecDepth 100000 in
set_option maxHeartbeats 4000000 in
theorem bookMove_any (b : Bk) (hb : OkK b) (f t s : Int) (n : Nat) (hn : n < M4) (w : World) :
  Calls Tryz.prog 63 #[bkv b, .int .i64 f, .int .i64 t, .int .i64 s, wn n] w fun e W' => e = .returned (.tuple #[bkv (moveB b f t s n).1, .int .i64 (moveB b f t s n).2]) ∧ Below w.heap.size w W' := by
 have kB := ((Blk.new w 30 (bkc b)).alloc (.cells (ws (nw n)).toArray 27)).alloc (.cells (bkc noK).toArray 30)
 have kA : Blk (((w.alloc (.cells (bkc b).toArray 30)).alloc (.cells (ws (nw n)).toArray 27)).alloc (.cells (bkc noK).toArray 30)) (w.heap.size + 1) 27 (ws (nw n)) := (Blk.new' (by simp)).alloc _
 have kR0 : Blk (((w.alloc (.cells (bkc b).toArray 30)).alloc (.cells (ws (nw n)).toArray 27)).alloc (.cells (bkc noK).toArray 30)) (w.heap.size + 1 + 1) 30 (bkc noK) := Blk.new' (by simp)
 have hB := chainA (chainA (chain0 w (.cells (bkc b).toArray 30)) (.cells (ws (nw n)).toArray 27)) (.cells (bkc noK).toArray 30)
 rw [bkc_no] at kB kA hB
 have kR : Blk (((w.alloc (.cells (bkc b).toArray 30)).alloc (.cells (ws (nw n)).toArray 27)).alloc (.cells (List.replicate 64 (Value.int .u64 0)).toArray 30)) (w.heap.size + 1 + 1) 30 (bkc noK) := by rw [bkc_no] at kR0 ⊢; exact kR0
 clear kR0
 have HT := Lib.hid (fun W => bookTake_any b hb f s n hn W)
 have HG := Lib.hid (fun W => bookGive_any _ (okK_take hb f s n) t s n hn W)
 have HM1 := Lib.hid (fun h => moveB_low (b := b) (f := f) (t := t) (s := s) (n := n) h)
 have HM2 := Lib.hid (fun h k => moveB_yes (b := b) (f := f) (t := t) (s := s) (n := n) h k)
 have HM3 := Lib.hid (fun h k => moveB_over (b := b) (f := f) (t := t) (s := s) (n := n) h k)
 generalize moveB b f t s n = mv at *
 generalize takeB b f s n = tk at *
 generalize giveB tk.1 t s n = gv at *
 obtain ⟨bt, et⟩ := tk
 obtain ⟨bg, eg⟩ := gv
 dsimp only at *
 by_cases h1 : et = 0
 ·
  subst h1
  by_cases h2 : eg = 0
  ·
   subst h2
   have HE : Hid (mv = (bg, 0)) := Lib.hid (HM2.out rfl rfl)
   clear HM1 HM2 HM3
   go_enter Tryz.func63, Tryz.ntmps63
   go_wp2_with (first
    | ((with_reducible refine wpList_loadIf 30 (.tmp 5) ?_ (some 16) ?_ ?_ (bkv (b)) ?_ ?_); (· rfl); (· rfl); (· rfl); (· exact load_book kB))
    | ((with_reducible refine wpList_loadIf 27 (.tmp 9) ?_ (some 19) ?_ ?_ (wn (n)) ?_ ?_); (· rfl); (· rfl); (· rfl); (· exact load_wn kA))
    | (go_at_call 60; refine (HT.out _).mono ?_; rintro e w1 ⟨rfl, hb1⟩; replace kB := kB.below hb1 kB.lt; replace kA := kA.below hb1 kA.lt; replace kR := kR.below hb1 kR.lt; replace hB := chain hB hb1; clear hb1)
    | ((with_reducible refine wpList_storeN_book (.tmp 12) (.tmp 21) ?_ (bt) ?_ ?_ ?_ ?_ ?_ ?_); (· rfl); (· rfl); (· rfl); (· rfl); (· rfl); (· rfl); have kT := Blk.new w1 30 (bkc (bt)); replace kB := kB.alloc (.cells (bkc (bt)).toArray 30); replace kA := kA.alloc (.cells (bkc (bt)).toArray 30); replace kR := kR.alloc (.cells (bkc (bt)).toArray 30); replace hB := chainA hB (.cells (bkc (bt)).toArray 30))
    | ((with_reducible refine wpList_loadIf 30 (.tmp 12) ?_ (some 28) ?_ ?_ (bkv (bt)) ?_ ?_); (· rfl); (· rfl); (· rfl); (· exact load_book kT))
    | ((with_reducible refine wpList_loadIf 27 (.tmp 9) ?_ (some 31) ?_ ?_ (wn (n)) ?_ ?_); (· rfl); (· rfl); (· rfl); (· exact load_wn kA))
    | (go_at_call 96; refine (HG.out _).mono ?_; rintro e w2 ⟨rfl, hb2⟩; replace kB := kB.below hb2 kB.lt; replace kA := kA.below hb2 kA.lt; replace kR := kR.below hb2 kR.lt; replace kT := kT.below hb2 kT.lt; replace hB := chain hB hb2; clear hb2)
    | ((with_reducible refine wpList_storeN_book (.tmp 14) (.tmp 33) ?_ (bg) ?_ ?_ ?_ ?_ ?_ ?_); (· rfl); (· rfl); (· rfl); (· rfl); (· rfl); (· rfl); have kG := Blk.new w2 30 (bkc (bg)); replace kB := kB.alloc (.cells (bkc (bg)).toArray 30); replace kA := kA.alloc (.cells (bkc (bg)).toArray 30); replace kR := kR.alloc (.cells (bkc (bg)).toArray 30); replace kT := kT.alloc (.cells (bkc (bg)).toArray 30); replace hB := chainA hB (.cells (bkc (bg)).toArray 30))
    | ((with_reducible refine wpList_loadIf 30 (.tmp 14) ?_ (some 39) ?_ ?_ (bkv (bg)) ?_ ?_); (· rfl); (· rfl); (· rfl); (· exact load_book kG))
    | ((refine wpList_store_book (.tmp 10) (.tmp 39) kR (bkc_len noK) (bg) ?_ ?_ ?_ ?_ ?_ ?_); (· rfl); (· rfl); (· rfl); (· rfl); (· rfl)))
   exact bodyPost_ret (v := .tuple #[bkv (bg), .int .i64 0]) (res_book rfl _ rfl rfl (kR.row _)) rfl ⟨by rw [HE.out], hB.grown (grownBy_row _ _ _) hB.size (fun e he => by cases he; omega)⟩
  ·
   have HE : Hid (mv = (b, eg)) := Lib.hid (HM3.out rfl h2)
   have q2 : (eg != 0) = true := by simpa using h2
   clear HM1 HM2 HM3 h2
   go_enter Tryz.func63, Tryz.ntmps63
   go_wp2_with (first
    | ((with_reducible refine wpList_loadIf 30 (.tmp 5) ?_ (some 16) ?_ ?_ (bkv (b)) ?_ ?_); (· rfl); (· rfl); (· rfl); (· exact load_book kB))
    | ((with_reducible refine wpList_loadIf 27 (.tmp 9) ?_ (some 19) ?_ ?_ (wn (n)) ?_ ?_); (· rfl); (· rfl); (· rfl); (· exact load_wn kA))
    | (go_at_call 60; refine (HT.out _).mono ?_; rintro e w1 ⟨rfl, hb1⟩; replace kB := kB.below hb1 kB.lt; replace kA := kA.below hb1 kA.lt; replace kR := kR.below hb1 kR.lt; replace hB := chain hB hb1; clear hb1)
    | ((with_reducible refine wpList_storeN_book (.tmp 12) (.tmp 21) ?_ (bt) ?_ ?_ ?_ ?_ ?_ ?_); (· rfl); (· rfl); (· rfl); (· rfl); (· rfl); (· rfl); have kT := Blk.new w1 30 (bkc (bt)); replace kB := kB.alloc (.cells (bkc (bt)).toArray 30); replace kA := kA.alloc (.cells (bkc (bt)).toArray 30); replace kR := kR.alloc (.cells (bkc (bt)).toArray 30); replace hB := chainA hB (.cells (bkc (bt)).toArray 30))
    | ((with_reducible refine wpList_loadIf 30 (.tmp 12) ?_ (some 28) ?_ ?_ (bkv (bt)) ?_ ?_); (· rfl); (· rfl); (· rfl); (· exact load_book kT))
    | ((with_reducible refine wpList_loadIf 27 (.tmp 9) ?_ (some 31) ?_ ?_ (wn (n)) ?_ ?_); (· rfl); (· rfl); (· rfl); (· exact load_wn kA))
    | (go_at_call 96; refine (HG.out _).mono ?_; rintro e w2 ⟨rfl, hb2⟩; replace kB := kB.below hb2 kB.lt; replace kA := kA.below hb2 kA.lt; replace kR := kR.below hb2 kR.lt; replace kT := kT.below hb2 kT.lt; replace hB := chain hB hb2; clear hb2)
    | ((with_reducible refine wpList_storeN_book (.tmp 14) (.tmp 33) ?_ (bg) ?_ ?_ ?_ ?_ ?_ ?_); (· rfl); (· rfl); (· rfl); (· rfl); (· rfl); (· rfl); have kG := Blk.new w2 30 (bkc (bg)); replace kB := kB.alloc (.cells (bkc (bg)).toArray 30); replace kA := kA.alloc (.cells (bkc (bg)).toArray 30); replace kR := kR.alloc (.cells (bkc (bg)).toArray 30); replace kT := kT.alloc (.cells (bkc (bg)).toArray 30); replace hB := chainA hB (.cells (bkc (bg)).toArray 30))
    | ((with_reducible refine wpList_loadIf 30 (.tmp 5) ?_ (some 37) ?_ ?_ (bkv (b)) ?_ ?_); (· rfl); (· rfl); (· rfl); (· exact load_book kB))
    | ((refine wpList_store_book (.tmp 10) (.tmp 37) kR (bkc_len noK) (b) ?_ ?_ ?_ ?_ ?_ ?_); (· rfl); (· rfl); (· rfl); (· rfl); (· rfl)))
   exact bodyPost_ret (v := .tuple #[bkv (b), .int .i64 eg]) (res_book rfl _ rfl rfl (kR.row _)) rfl ⟨by rw [HE.out], hB.grown (grownBy_row _ _ _) hB.size (fun e he => by cases he; omega)⟩
 ·
  have HE : Hid (mv = (b, et)) := Lib.hid (HM1.out h1)
  have q1 : (et != 0) = true := by simpa using h1
  clear HM1 HM2 HM3 HG h1
  go_enter Tryz.func63, Tryz.ntmps63
  go_wp2_with (first
   | ((with_reducible refine wpList_loadIf 30 (.tmp 5) ?_ (some 16) ?_ ?_ (bkv (b)) ?_ ?_); (· rfl); (· rfl); (· rfl); (· exact load_book kB))
   | ((with_reducible refine wpList_loadIf 27 (.tmp 9) ?_ (some 19) ?_ ?_ (wn (n)) ?_ ?_); (· rfl); (· rfl); (· rfl); (· exact load_wn kA))
   | (go_at_call 60; refine (HT.out _).mono ?_; rintro e w1 ⟨rfl, hb1⟩; replace kB := kB.below hb1 kB.lt; replace kA := kA.below hb1 kA.lt; replace kR := kR.below hb1 kR.lt; replace hB := chain hB hb1; clear hb1)
   | ((with_reducible refine wpList_storeN_book (.tmp 12) (.tmp 21) ?_ (bt) ?_ ?_ ?_ ?_ ?_ ?_); (· rfl); (· rfl); (· rfl); (· rfl); (· rfl); (· rfl); have kT := Blk.new w1 30 (bkc (bt)); replace kB := kB.alloc (.cells (bkc (bt)).toArray 30); replace kA := kA.alloc (.cells (bkc (bt)).toArray 30); replace kR := kR.alloc (.cells (bkc (bt)).toArray 30); replace hB := chainA hB (.cells (bkc (bt)).toArray 30))
   | ((with_reducible refine wpList_loadIf 30 (.tmp 5) ?_ (some 25) ?_ ?_ (bkv (b)) ?_ ?_); (· rfl); (· rfl); (· rfl); (· exact load_book kB))
   | ((refine wpList_store_book (.tmp 10) (.tmp 25) kR (bkc_len noK) (b) ?_ ?_ ?_ ?_ ?_ ?_); (· rfl); (· rfl); (· rfl); (· rfl); (· rfl)))
  exact bodyPost_ret (v := .tuple #[bkv (b), .int .i64 et]) (res_book rfl _ rfl rfl (kR.row _)) rfl ⟨by rw [HE.out], hB.grown (grownBy_row _ _ _) hB.size (fun e he => by cases he; omega)⟩
end Go.Proofs.YthhmdgmmeedhdaaGreat
namespace Go.Proofs.YthhmdgmmeedhdaaGreat
open Go.RowKit Go.Shelf
def payP (s : Es) (t : Tr) : Es × Int := if (moveB s.pu t.fr t.iv.to t.az (amT t)).2 ≠ 0 then (s, (moveB s.pu t.fr t.iv.to t.az (amT t)).2) else ({ s with pu := (moveB s.pu t.fr t.iv.to t.az (amT t)).1 }, 0)
def doP (s : Es) (t : Tr) : Es × Int :=
 if t.kd = 1 then payP s t else if t.kd = 2 then depE s t else if t.kd = 3 then wdrE s t else if t.kd = 4 then prepP s t else if t.kd = 5 then fulP s t else canP s t
theorem dep_lk {s : Es} {t : Tr} : (depE s t).1.lk = s.lk := by
 unfold depE growE
 repeat (first | rfl | split)
theorem wdr_lk {s : Es} {t : Tr} : (wdrE s t).1.lk = s.lk := by
 unfold wdrE shrinkE
 repeat (first | rfl | split)
theorem EndL.last {w W W' : World} {B b0 : Nat} {p q : Es × Int} {e : Ending} (hg : w.grownBy W (some B)) (hb : b0 ≤ w.heap.size) (h : EndL W B b0 q e W') (hp : p = q) : EndL w B b0 p e W' := by
 subst hp
 exact ⟨(Turn.of hg hb).trans h.1, h.2⟩
set_option maxRecDepth 100000 in
set_option maxHeartbeats 4000000 in
theorem do_any (s : Es) (v : Value) (hs : OkE s) (t : Tr) (ht : OkT t) (he : errT t = 0) {B b0 : Nat} (w : World) (hBb : B < b0) (hb0 : b0 ≤ w.heap.size) (hB : Blk w B 34 (stc s v)) (ho : OwnL b0 w v s.lk) (hr : (s.lk.length + 1) * 40 ≤ 140737488355328) :
  Calls Tryz.prog 32 #[.pointer (some ⟨B, 0, none⟩), txv t] w (EndL w B b0 (doP s t)) := by
 have hmx : Tryz.prog.follows .mixedOrders = true := by kernel_rfl
 have hM := (Mem.startB hB).allocN rfl 50 (txc t)
 have hn : amT t < M4 := val_lt ht.a
 obtain ⟨hk, _, _, hz, _, hF⟩ := errT_all he
 have HK := Lib.hid hk
 have HZ := Lib.hid hz
 have HF := Lib.hid (fun k => (errF_all (hF k)).1)
 have HA := Lib.hid (fun W => bookMove_any s.pu hs.p t.fr t.iv.to t.az (amT t) hn W)
 have HO := Lib.hid ho
 clear hB ho hk hz hF
 go_enter Tryz.func32, Tryz.ntmps32
 go_upto_region 1 with fail
 refine wp_region_fromM _ hM ?_
 clear hM
 rintro Y1 hM
 refine tF 2 [.v 0 4 (pt w.heap.size 2), .l 1 5 3 (pt w.heap.size 2) (.int .i64 t.kd)] ⟨ld_int hM.a0 2 rfl, trivial⟩ ?_
 refine eF ?_
 by_cases hk : t.kd = 1
 case pos =>
  have hk1 := Lib.hid hk
  clear hk
  go_upto_region 2 with fail
  refine wp_region_fromM _ hM ?_
  clear hM
  rintro Y2 hM
  refine tF 2 [.a 0 7 (.bool (t.kd == 1)) (.bool true), .v 1 6 (.bool true)] ⟨cB (by rw [hk1.out]; rfl), trivial⟩ ?_
  refine eF ?_
  go_upto_region 3 with fail
  refine wp_region_M (fun W => Mem w (some B) [(w.heap.size, 50, txc t)] W) (fun W => Mem w (some B) [(w.heap.size, 50, txc t), (B, 34, stc s v)] W) hmx hM.drew ?_
  clear hM
  rintro Y3 hM
  have hS := hM.sub (.cons_cons _ (.cons _ .slnil))
  refine tD 8 [.v 0 8 (pt B 0), .v 1 9 (pt B 0), .v 2 10 (pt B 0), .v 3 11 (pt B 2), .v 5 13 (pt w.heap.size 0), .l 6 14 3 (pt w.heap.size 0) (.int .i64 t.fr), .v 7 15 (pt w.heap.size 8), .v 8 16 (pt w.heap.size 13), .l 9 17 3 (pt w.heap.size 13) (.int .i64 t.iv.to), .v 10 18 (pt w.heap.size 3), .l 11 19 3 (pt w.heap.size 3) (.int .i64 t.az), .v 12 20 (pt w.heap.size 4), .l 13 21 27 (pt w.heap.size 4) (wn (amT t))] ⟨fun W h => ld_int h.a0 0 rfl, fun W h => ld_int h.a0 13 rfl, fun W h => ld_int h.a0 3 rfl, fun W h => ld_am h.a0 ht, trivial⟩ hS ?_
  refine oD 4 7 (lD (some 12) 30 (pt B 2) (bkv s.pu) (ld_pu hM.a1) (hS) ?_)
  refine oD 14 6 (cD (some 22) _ _ ((HA.out _).mono ?_))
  rintro e W1 ⟨rfl, hb⟩
  refine And.intro (hS.below hb) ?_
  replace hS := hS.below hb
  replace hM := hM.below hb
  clear hb
  refine tD 4 [.v 15 23 (bkv (moveB s.pu t.fr t.iv.to t.az (amT t)).1), .v 16 24 (.int .i64 (moveB s.pu t.fr t.iv.to t.az (amT t)).2)] trivial hS ?_
  refine oD 17 3 (cD (some 25) 62 #[bkv (moveB s.pu t.fr t.iv.to t.az (amT t)).1, .int .i64 (moveB s.pu t.fr t.iv.to t.az (amT t)).2] ((must_two _ _ _).mono ?_))
  rintro e W2 (⟨hc, rfl, hb⟩ | ⟨hc, rfl, hb⟩)
  case inr =>
   replace hM := hM.below hb
   exact And.intro rfl (EndL.pan hM.g hb0 hc (by unfold doP payP; rw [if_pos hk1.out, if_pos hc]) rfl (BlkN.of hM.a1))
  refine And.intro (hS.below hb) ?_
  replace hS := hS.below hb
  replace hM := hM.below hb
  clear hb
  refine tD 1 [.v 18 26 (pt B 0), .v 19 27 (pt B 2)] trivial hS ?_
  have hM1 := hM.set 1 (cs' := stc { s with pu := (moveB s.pu t.fr t.iv.to t.az (amT t)).1 } v) rfl rfl
  refine oD 20 0 (sD _ _ (bkv (moveB s.pu t.fr t.iv.to t.az (amT t)).1) (sto_pu hM.a1 _) (hM1.sub (.cons_cons _ (.cons _ .slnil))) ?_)
  replace hS := hM1.sub (.cons_cons _ (.cons _ .slnil))
  replace hM := hM1
  clear hM1
  generalize World.setRow _ _ _ = Y4 at *
  refine eD ?_
  clear hS
  have hp : doP s t = ({ s with pu := (moveB s.pu t.fr t.iv.to t.az (amT t)).1 }, 0) := by unfold doP payP; rw [if_pos hk1.out, if_neg (not_not_intro hc)]
  have fin : EndL w B b0 (doP s t) (.returned (.tuple #[])) Y4 := EndL.of (p := doP s t) (grownBy_refl w _) hb0 hBb (by rw [hp]; exact HO.out) (EndE.ok hM.g rfl hM.a1) hp
  clear hp hc hk1
  go_wp2_with fail
  go_end0
  exact fin
 have h1 := Lib.hid hk
 clear hk
 go_upto_region 2 with fail
 refine wp_region_fromM _ hM ?_
 clear hM
 rintro Y5 hM
 refine tF 2 [.a 0 7 (.bool (t.kd == 1)) (.bool false), .v 1 6 (.bool false)] ⟨cB (beq_eq_false_iff_ne.2 h1.out), trivial⟩ ?_
 refine eF ?_
 by_cases hk : t.kd = 2
 case pos =>
  have hk1 := Lib.hid hk
  clear hk
  go_upto_region 4 with fail
  refine wp_region_fromM _ hM ?_
  clear hM
  rintro Y6 hM
  refine tF 2 [.a 0 29 (.bool (t.kd == 2)) (.bool true), .v 1 28 (.bool true)] ⟨cB (by rw [hk1.out]; rfl), trivial⟩ ?_
  refine eF ?_
  go_upto_region 5 with fail
  refine wp_region_fromM _ hM ?_
  clear hM
  rintro Y7 hM
  refine tF 2 [.v 0 30 (pt B 0), .l 1 31 50 (pt w.heap.size 0) (txv t)] ⟨ld_tx hM.a0, trivial⟩ ?_
  refine cF (some 32) 64 #[pt B 0, txv t] ((deposit_any s v hs t ht HZ.out _ hM.a1).mono ?_)
  rintro e W1 h
  have hp : doP s t = depE s t := by unfold doP; rw [if_neg h1.out, if_pos hk1.out]
  have fin : EndL w B b0 (doP s t) e W1 := EndL.of hM.g hb0 hBb (by rw [hp, dep_lk]; exact HO.out) h hp
  rcases h.two with ⟨h0, rfl, _, _⟩ | ⟨h0, rfl, _⟩
  case inr => exact And.intro rfl fin
  refine eF ?_
  clear hp h h0 hk1
  go_wp2_with fail
  go_end0
  exact fin
 have h2 := Lib.hid hk
 clear hk
 go_upto_region 4 with fail
 refine wp_region_fromM _ hM ?_
 clear hM
 rintro Y8 hM
 refine tF 2 [.a 0 29 (.bool (t.kd == 2)) (.bool false), .v 1 28 (.bool false)] ⟨cB (beq_eq_false_iff_ne.2 h2.out), trivial⟩ ?_
 refine eF ?_
 by_cases hk : t.kd = 3
 case pos =>
  have hk1 := Lib.hid hk
  clear hk
  go_upto_region 6 with fail
  refine wp_region_fromM _ hM ?_
  clear hM
  rintro Y9 hM
  refine tF 2 [.a 0 34 (.bool (t.kd == 3)) (.bool true), .v 1 33 (.bool true)] ⟨cB (by rw [hk1.out]; rfl), trivial⟩ ?_
  refine eF ?_
  go_upto_region 7 with fail
  refine wp_region_fromM _ hM ?_
  clear hM
  rintro Y10 hM
  refine tF 2 [.v 0 35 (pt B 0), .l 1 36 50 (pt w.heap.size 0) (txv t)] ⟨ld_tx hM.a0, trivial⟩ ?_
  refine cF (some 37) 65 #[pt B 0, txv t] ((withdraw_any s v hs t ht HZ.out _ hM.a1).mono ?_)
  rintro e W1 h
  have hp : doP s t = wdrE s t := by unfold doP; rw [if_neg h1.out, if_neg h2.out, if_pos hk1.out]
  have fin : EndL w B b0 (doP s t) e W1 := EndL.of hM.g hb0 hBb (by rw [hp, wdr_lk]; exact HO.out) h hp
  rcases h.two with ⟨h0, rfl, _, _⟩ | ⟨h0, rfl, _⟩
  case inr => exact And.intro rfl fin
  refine eF ?_
  clear hp h h0 hk1
  go_wp2_with fail
  go_end0
  exact fin
 have h3 := Lib.hid hk
 clear hk
 go_upto_region 6 with fail
 refine wp_region_fromM _ hM ?_
 clear hM
 rintro Y11 hM
 refine tF 2 [.a 0 34 (.bool (t.kd == 3)) (.bool false), .v 1 33 (.bool false)] ⟨cB (beq_eq_false_iff_ne.2 h3.out), trivial⟩ ?_
 refine eF ?_
 by_cases hk : t.kd = 4
 case pos =>
  have hk1 := Lib.hid hk
  clear hk
  go_upto_region 8 with fail
  refine wp_region_fromM _ hM ?_
  clear hM
  rintro Y12 hM
  refine tF 2 [.a 0 39 (.bool (t.kd == 4)) (.bool true), .v 1 38 (.bool true)] ⟨cB (by rw [hk1.out]; rfl), trivial⟩ ?_
  refine eF ?_
  go_upto_region 9 with fail
  refine wp_region_fromM _ hM ?_
  clear hM
  rintro Y13 hM
  refine tF 2 [.v 0 40 (pt B 0), .l 1 41 50 (pt w.heap.size 0) (txv t)] ⟨ld_tx hM.a0, trivial⟩ ?_
  refine cF (some 42) 66 #[pt B 0, txv t] ((prepare_any s v hs t ht (HF.out (by have := hk1.out; omega)).2.2.2.1 _ hBb (Nat.le_trans hb0 hM.size) hM.a1 (HO.out.grown hBb hM.g) hr).mono ?_)
  rintro e W1 h
  have hp : doP s t = prepP s t := by unfold doP; rw [if_neg h1.out, if_neg h2.out, if_neg h3.out, if_pos hk1.out]
  have fin : EndL w B b0 (doP s t) e W1 := EndL.last hM.g hb0 h hp
  rcases h.two with ⟨h0, rfl, _, _⟩ | ⟨h0, rfl, _⟩
  case inr => exact And.intro rfl fin
  refine eF ?_
  clear hp h h0 hk1
  go_wp2_with fail
  go_end0
  exact fin
 have h4 := Lib.hid hk
 clear hk
 go_upto_region 8 with fail
 refine wp_region_fromM _ hM ?_
 clear hM
 rintro Y14 hM
 refine tF 2 [.a 0 39 (.bool (t.kd == 4)) (.bool false), .v 1 38 (.bool false)] ⟨cB (beq_eq_false_iff_ne.2 h4.out), trivial⟩ ?_
 refine eF ?_
 by_cases hk : t.kd = 5
 case pos =>
  have hk1 := Lib.hid hk
  clear hk
  go_upto_region 10 with fail
  refine wp_region_fromM _ hM ?_
  clear hM
  rintro Y15 hM
  refine tF 2 [.a 0 44 (.bool (t.kd == 5)) (.bool true), .v 1 43 (.bool true)] ⟨cB (by rw [hk1.out]; rfl), trivial⟩ ?_
  refine eF ?_
  go_upto_region 11 with fail
  refine wp_region_fromM _ hM ?_
  clear hM
  rintro Y16 hM
  refine tF 2 [.v 0 45 (pt B 0), .l 1 46 50 (pt w.heap.size 0) (txv t)] ⟨ld_tx hM.a0, trivial⟩ ?_
  refine cF (some 47) 67 #[pt B 0, txv t] ((fulfil_any s v hs t ht ⟨(HF.out (by have := hk1.out; omega)).2.2.2.1, (HF.out (by have := hk1.out; omega)).2.2.2.2.1⟩ _ hBb (Nat.le_trans hb0 hM.size) hM.a1 (HO.out.grown hBb hM.g)).mono ?_)
  rintro e W1 h
  have hp : doP s t = fulP s t := by unfold doP; rw [if_neg h1.out, if_neg h2.out, if_neg h3.out, if_neg h4.out, if_pos hk1.out]
  have fin : EndL w B b0 (doP s t) e W1 := EndL.last hM.g hb0 h hp
  rcases h.two with ⟨h0, rfl, _, _⟩ | ⟨h0, rfl, _⟩
  case inr => exact And.intro rfl fin
  refine eF ?_
  clear hp h h0 hk1
  go_wp2_with fail
  go_end0
  exact fin
 have h5 := Lib.hid hk
 clear hk
 go_upto_region 10 with fail
 refine wp_region_fromM _ hM ?_
 clear hM
 rintro Y17 hM
 refine tF 2 [.a 0 44 (.bool (t.kd == 5)) (.bool false), .v 1 43 (.bool false)] ⟨cB (beq_eq_false_iff_ne.2 h5.out), trivial⟩ ?_
 refine eF ?_
 have hk : t.kd = 6 := by have := HK.out; have := h1.out; have := h2.out; have := h3.out; have := h4.out; have := h5.out; omega
 have hk1 := Lib.hid hk
 clear hk
 go_upto_region 12 with fail
 refine wp_region_fromM _ hM ?_
 clear hM
 rintro Y18 hM
 refine tF 2 [.a 0 49 (.bool (t.kd == 6)) (.bool true), .v 1 48 (.bool true)] ⟨cB (by rw [hk1.out]; rfl), trivial⟩ ?_
 refine eF ?_
 go_upto_region 13 with fail
 refine wp_region_fromM _ hM ?_
 clear hM
 rintro Y19 hM
 refine tF 2 [.v 0 50 (pt B 0), .l 1 51 50 (pt w.heap.size 0) (txv t)] ⟨ld_tx hM.a0, trivial⟩ ?_
 refine cF (some 52) 68 #[pt B 0, txv t] ((cancel_any s v hs t ht ⟨(HF.out (by have := hk1.out; omega)).2.2.2.1, (HF.out (by have := hk1.out; omega)).2.2.2.2.1⟩ _ hBb (Nat.le_trans hb0 hM.size) hM.a1 (HO.out.grown hBb hM.g)).mono ?_)
 rintro e W1 h
 have hp : doP s t = canP s t := by unfold doP; rw [if_neg h1.out, if_neg h2.out, if_neg h3.out, if_neg h4.out, if_neg h5.out]
 have fin : EndL w B b0 (doP s t) e W1 := EndL.last hM.g hb0 h hp
 rcases h.two with ⟨h0, rfl, _, _⟩ | ⟨h0, rfl, _⟩
 case inr => exact And.intro rfl fin
 refine eF ?_
 clear hp h h0 hk1
 go_wp2_with fail
 go_end0
 exact fin
end Go.Proofs.YthhmdgmmeedhdaaGreat
namespace Go.Proofs.YthhmdgmmeedhdaaGreat
open Go.RowKit Go.Shelf
def evB (n m : Nat) : Bk := fun i => if i < m then n else 0
theorem ev_zero (n : Nat) : bkc (evB n 0) = bkc noK := bkc_ext fun j _ => if_neg (Nat.not_lt_zero j)
theorem ev_full (n : Nat) : bkc (evB n 16) = bkc (fun _ => n) := bkc_ext fun _ h => if_pos h
theorem ev_set (n m : Nat) : bkc (updB (evB n m) m n) = bkc (evB n (m + 1)) := bkc_ext fun i _ => by
 unfold evB
 by_cases e : i = m
 ·
  subst e; rw [updB_at, if_pos (by omega)]
 ·
  rw [updB_ne _ _ e]
  by_cases h : i < m
  ·
   rw [if_pos h, if_pos (by omega)]
  ·
   rw [if_neg h, if_neg (by omega)]
set_option maxRecDepth 100000 in
set_option maxHeartbeats 4000000 in
theorem bookEven_any (n : Nat) (hn : n < M) (w : World) :
  Calls Tryz.prog 24 #[.int .u64 (n : Int)] w fun e W' => e = .returned (bkv (fun _ => n)) ∧ Below w.heap.size w W' := by
 have hmx : Tryz.prog.follows .mixedOrders = true := by kernel_rfl
 have kR0 : Blk ((w.alloc (.cells (List.replicate 64 (Value.int .u64 0)).toArray 30)).alloc (.cells (List.replicate 64 (Value.int .u64 0)).toArray 30)) w.heap.size 30 (List.replicate 64 (Value.int .u64 0)) := (Blk.new' rfl).alloc _
 have kB0 : Blk ((w.alloc (.cells (List.replicate 64 (Value.int .u64 0)).toArray 30)).alloc (.cells (List.replicate 64 (Value.int .u64 0)).toArray 30)) (w.heap.size + 1) 30 (List.replicate 64 (Value.int .u64 0)) := Blk.new' (by simp)
 have hB0 := chainA (chain0 w (.cells (List.replicate 64 (Value.int .u64 0)).toArray 30)) (.cells (List.replicate 64 (Value.int .u64 0)).toArray 30)
 have HN := Lib.hid hn
 clear hn
 go_enter Tryz.func24, Tryz.ntmps24
 go_wp2_with ((with_reducible refine wpList_loadIf 30 (.tmp 3) ?_ (some 7) ?_ ?_ (bkv noK) ?_ ?_); (· rfl); (· rfl); (· rfl); (· exact load_book (by rw [bkc_no]; exact kB0)))
 generalize hX : World.alloc (World.alloc _ _) _ = X
 replace kR0 : Blk X w.heap.size 30 (bkc noK) := by rw [bkc_no, ← hX]; exact kR0
 replace kB0 : Blk X (w.heap.size + 1) 30 (bkc (evB n 0)) := by rw [ev_zero, bkc_no, ← hX]; exact kB0
 replace hB0 : Below w.heap.size w X := by rw [← hX]; exact hB0
 clear hX
 go_loopw [8] (fun i wr => ∃ k : Nat, k ≤ 8 ∧ i = .int .i64 k ∧ Blk wr (w.heap.size + 1) 30 (bkc (evB n (2 * k))) ∧ Blk wr w.heap.size 30 (bkc noK) ∧ Below w.heap.size w wr) (fun i _ => 8 - (intOf i).toNat)
 case atStart => exact ⟨0, by omega, rfl, kB0, kR0, hB0⟩
 clear kR0 kB0 hB0
 case round =>
  obtain ⟨k, hk, rfl, kB, kR, hB⟩ := hrel
  by_cases hlt : k < 8
  ·
   have hlt' : (k : Int) < 8 := by omega
   obtain ⟨wo, rfl⟩ : ∃ wo : World, wo = wr := ⟨_, rfl⟩
   have kB1 := kB.alloc (.cells (rowB noK (2 * k) 2).toArray 28)
   have kR1 := kR.alloc (.cells (rowB noK (2 * k) 2).toArray 28)
   have hB1 := chainA hB (.cells (rowB noK (2 * k) 2).toArray 28)
   clear kB kR hB
   go_wp2_with (first
    | ((with_reducible refine wpList_indexTo ?_ 30 (.tmp 7) (.tmp 8) ?_ (some 11) ?_ (.agg (rowB noK (2 * k) 2).toArray) ?_ ?_); (· rfl); (· rfl); (· rfl); (· exact idx_row noK _ hlt))
    | ((with_reducible refine wpList_storeN 28 (.tmp 5) (.tmp 11) (.agg (rowB noK (2 * k) 2).toArray) (rowB noK (2 * k) 2) ?_ ?_ ?_ ?_ ?_ ?_ ?_ ?_ ?_ ?_); (· rfl); (· rfl); (· kernel_rfl); (· exact rowB_one _ _ _); (· rfl); (· rfl); (· rfl); (· rfl); (· rfl)))
   generalize wo.alloc _ = X1 at *
   go_loopw [12] (fun i wr => ∃ j : Nat, j ≤ 2 ∧ i = .int .i64 j ∧ Blk wr (w.heap.size + 1) 30 (bkc (evB n (2 * k + j))) ∧ Blk wr w.heap.size 30 (bkc noK) ∧ Below w.heap.size w wr) (fun i _ => 2 - (intOf i).toNat)
   case atStart => exact ⟨0, by omega, rfl, kB1, kR1, hB1⟩
   clear kB1 kR1 hB1
   case round =>
    obtain ⟨j, hj, rfl, kB, kR, hB⟩ := hrel
    by_cases hjt : j < 2
    ·
     have hjt' : (j : Int) < 2 := by omega
     have HS := Lib.hid (ev_set n (2 * k + j))
     go_wp2_with fail
     refine wp_region_held_drew (S := fun W => True) hmx trivial ?_
     intro hS
     have hd : Below wr.heap.size wr wr.drew := (Below.refl _ wr).drew
     replace kB : Blk wr.drew _ _ _ := kB
     replace kR : Blk wr.drew _ _ _ := kR
     replace hB := hB.drew
     generalize wr.drew = Y at *
     refine' wpAnyH_take (i := 0) (oi := _) (v := _) ?hi1 (by kernel_rfl) (by kernel_rfl) (by kernel_rfl) ?hQ1 (Or.inl ⟨?hw1, ?hy1⟩) hS ?rest1
     case hi1 => simp only [List.getElem?_toArray, List.getElem?_cons_zero]; rfl
     case hQ1 => exact fun _ _ _ h => h
     case hw1 => rfl
     case hy1 => intro W' hS'; go_simp; with_reducible rfl
     try simp only [Act.put, List.setIfInBounds_toArray, List.set_cons_zero, List.set_cons_succ]
     refine' wpAnyH_take (i := 1) (oi := _) (v := _) ?hi2 (by kernel_rfl) (by kernel_rfl) (by kernel_rfl) ?hQ2 (Or.inl ⟨?hw2, ?hy2⟩) hS ?rest2
     case hi2 => simp only [List.getElem?_toArray, List.getElem?_cons_succ, List.getElem?_cons_zero]; rfl
     case hQ2 => exact fun _ _ _ h => h
     case hw2 => rfl
     case hy2 => intro W' hS'; go_simp; with_reducible rfl
     try simp only [Act.put, List.setIfInBounds_toArray, List.set_cons_zero, List.set_cons_succ]
     refine' wpAnyH_take (i := 2) (oi := _) (v := _) ?hi3 (by kernel_rfl) (by kernel_rfl) (by kernel_rfl) ?hQ3 (Or.inl ⟨?hw3, ?hy3⟩) hS ?rest3
     case hi3 => simp only [List.getElem?_toArray, List.getElem?_cons_succ, List.getElem?_cons_zero]; rfl
     case hQ3 => exact fun _ _ _ h => h
     case hw3 => rfl
     case hy3 => intro W' hS'; go_simp; with_reducible rfl
     try simp only [Act.put, List.setIfInBounds_toArray, List.set_cons_zero, List.set_cons_succ]
     refine' wpAnyH_take (i := 4) (oi := _) (v := _) ?hi4 (by kernel_rfl) (by kernel_rfl) (by kernel_rfl) ?hQ4 (Or.inl ⟨?hw4, ?hy4⟩) hS ?rest4
     case hi4 => simp only [List.getElem?_toArray, List.getElem?_cons_succ, List.getElem?_cons_zero]; rfl
     case hQ4 => exact fun _ _ _ h => h
     case hw4 => rfl
     case hy4 => intro W' hS'; go_simp; with_reducible rfl
     try simp only [Act.put, List.setIfInBounds_toArray, List.set_cons_zero, List.set_cons_succ]
     refine wpAnyH_ready (rs := [3]) (by kernel_rfl) (by simp) ?_
     refine' AllReadyH.cons (o := _) ?ho5 (fun K hK => ?st5) AllReadyH.nil
     case ho5 => simp only [List.getElem?_toArray, List.getElem?_cons_succ, List.getElem?_cons_zero]; rfl
     case st5 =>
      go_simp
      refine (ofN_any n HN.out _).mono ?_
      rintro e Y1 ⟨rfl, hb⟩
      replace kB := kB.below hb kB.lt
      replace kR := kR.below hb kR.lt
      replace hB := chain hB hb
      clear hb
      refine hK.out _ _ trivial (fun hS => ?_)
      clear hK K
      try simp only [Act.put, List.setIfInBounds_toArray, List.set_cons_zero, List.set_cons_succ]
      refine' wpAnyH_take (i := 5) (oi := _) (v := _) ?hi6 (by kernel_rfl) (by kernel_rfl) (by kernel_rfl) ?hQ6 (Or.inl ⟨?hw6, ?hy6⟩) hS ?rest6
      case hi6 => simp only [List.getElem?_toArray, List.getElem?_cons_succ, List.getElem?_cons_zero]; rfl
      case hQ6 => exact fun _ _ _ h => h
      case hw6 => rfl
      case hy6 => intro W' hS'; go_simp; with_reducible rfl
      try simp only [Act.put, List.setIfInBounds_toArray, List.set_cons_zero, List.set_cons_succ]
      refine wpAnyH_ready (rs := [6]) (by kernel_rfl) (by simp) ?_
      refine' AllReadyH.cons (o := _) ?ho7 (fun K hK => ?st7) AllReadyH.nil
      case ho7 => simp only [List.getElem?_toArray, List.getElem?_cons_succ, List.getElem?_cons_zero]; rfl
      case st7 =>
       refine wp_store_slot (.tmp 20) (.tmp 18) kB hlt hjt n rfl rfl rfl rfl ?_
       have hB2 := hB.grown (grownBy_row _ (w.heap.size + 1) (bkc (updB (evB n (2 * k + j)) (2 * k + j) n)).toArray) hB.size (fun e he => by cases he; omega)
       have kR2 := kR.rowO (bkc (updB (evB n (2 * k + j)) (2 * k + j) n)).toArray (show w.heap.size ≠ w.heap.size + 1 by omega)
       have kB2 := kB.row (bkc (updB (evB n (2 * k + j)) (2 * k + j) n))
       rw [HS.out] at hB2 kR2 kB2 ⊢
       refine hK.out _ _ trivial (fun hS => ?_)
       clear hK K
       try simp only [Act.put, List.setIfInBounds_toArray, List.set_cons_zero, List.set_cons_succ]
       refine wpAnyH_done (by kernel_rfl) ?_ _
       go_wp2_with fail
       go_roundw
       case rel => exact ⟨j + 1, by omega, by simp, kB2, kR2, hB2⟩
       case measure => simp [intOf]; omega
    ·
     obtain rfl : j = 2 := by omega
     go_wp2_with fail
     go_roundw
     case rel => exact ⟨k + 1, by omega, by simp, kB, kR, hB⟩
     case measure => simp [intOf]; omega
  ·
   obtain rfl : k = 8 := by omega
   rw [show 2 * 8 = 16 from rfl, ev_full] at kB
   go_wp2_with (first
    | ((with_reducible refine wpList_loadIf 30 (.tmp 3) ?_ (some 23) ?_ ?_ (bkv (fun _ => n)) ?_ ?_); (· rfl); (· rfl); (· rfl); (· exact load_book kB))
    | ((refine wpList_store_book (.tmp 2) (.tmp 23) kR (bkc_len noK) (fun _ => n) ?_ ?_ ?_ ?_ ?_ ?_); (· rfl); (· rfl); (· rfl); (· rfl); (· rfl)))
   exact bodyPost_ret (v := bkv (fun _ => n)) (res_bk rfl _ rfl (kR.row _)) rfl ⟨rfl, hB.grown (grownBy_row _ _ _) hB.size (fun e he => by cases he; omega)⟩
end Go.Proofs.YthhmdgmmeedhdaaGreat
namespace Go.Proofs.YthhmdgmmeedhdaaGreat
open Go.RowKit Go.Shelf
theorem OwnL.low {b b' : Nat} {W : World} {v : Value} {l : List Lk} (h : OwnL b W v l) (hb : b' ≤ b) : OwnL b' W v l := by
 refine ⟨h.1, ?_⟩
 rcases h.2 with h0 | ⟨g, cap, cur, e, hg, r⟩
 ·
  exact .inl h0
 ·
  exact .inr ⟨g, cap, cur, e, Nat.le_trans hb hg, r⟩
theorem OwnL.none (b : Nat) (W : World) : OwnL b W (.slice none 0 0) [] := ⟨rfl, .inl ⟨rfl, rfl⟩⟩
def CloneR (l : List Lk) (w : World) (e : Ending) (W' : World) : Prop := ∃ v', e = .returned v' ∧ OwnL w.heap.size W' v' l ∧ Below w.heap.size w W'
set_option maxRecDepth 100000 in
set_option maxHeartbeats 4000000 in
theorem cloneL_any (l : List Lk) (v : Value) (w : World) {lo hi : Nat} (hl : RSl lkc lo hi w v l) (hhi : hi ≤ w.heap.size) (hr : l.length * 40 ≤ 140737488355328) :
  Calls Tryz.prog 56 #[v] w (CloneR l w) := by
 have hl0 := Lib.hid hl
 obtain ⟨hi', rfl⟩ : ∃ h, h = hi := ⟨_, rfl⟩
 obtain ⟨a, cap, rfl, _, _, h0⟩ := hl
 rcases a with _ | ad
 ·
  have hn : l = [] := by
   rcases h0 with h0 | ⟨_, _, h, _⟩
   ·
    exact h0
   ·
    cases h
  subst hn
  change Calls _ _ #[.slice none 0 cap] _ _
  go_enter Tryz.func56, Tryz.ntmps56
  go_upto_region 1 with fail
  refine wp_region_from ?_
  refine tF 2 [.v 0 3 (.slice none 0 cap), .v 1 4 (.bool true)] trivial ?_
  refine eF ?_
  go_wp2_with fail
  go_ret
  exact ⟨_, rfl, OwnL.none _ _, Below.refl _ _⟩
 ·
  go_enter Tryz.func56, Tryz.ntmps56
  go_upto_region 1 with fail
  refine wp_region_from ?_
  refine tF 2 [.v 0 3 (.slice (some ad) l.length cap), .v 1 4 (.bool false)] trivial ?_
  refine eF ?_
  go_upto_region 3 with fail
  refine wp_region_from ?_
  refine rF (some 5) (.slice (some ⟨w.heap.size, 0, none⟩) 0 0) (w.alloc (.cells #[] 63)) ?_
  refine tF 2 [.v 1 6 (.slice (some ad) l.length cap)] trivial ?_
  have hown : OwnL w.heap.size (w.alloc (.cells #[] 63)) (.slice (some ⟨w.heap.size, 0, none⟩) 0 0) [] := World.ownsRow_lit w #[] 0 (Nat.le_refl _) (by unfold maxLen; omega) rfl
  have hb1 := chain0 w (.cells #[] 63)
  have hi0 : (Tryz.prog.info? 63).map (fun i => (i.zero, i.size, i.bytes)) = some (some (.agg #[.string ⟨#[]⟩, .string ⟨#[]⟩, .int .i64 0]), 3, 40) := by kernel_rfl
  obtain ⟨i0, hi, hz0, hz1, hz2⟩ := info_parts hi0
  have hlm := hl0.out.len
  obtain ⟨v', W', hrun, hO, hg, _⟩ := run_append_own (P := Tryz.prog) (w.alloc (.cells #[] 63)) w.heap.size 32 32 63 i0 _ 3 40 Tryz.underlying32 hi hz0 hz1 hz2 rfl (by decide) _ 0 [] hown ad l.length cap (flatR lkc l) (flat_len lkc_len l)
   (hl0.out.below ((Below.refl hi' w).alloc hhi _) (Nat.le_refl _)).cells (by
    intro u hu
    obtain ⟨y, _, hy⟩ := List.mem_flatMap.1 hu
    have h3 : u = .string y.ke ∨ u = .string y.dg ∨ u = .int .i64 y.st := by unfold lkc at hy; simpa using hy
    rcases h3 with rfl | rfl | rfl <;> rfl) (by rw [Nat.zero_add]; exact hlm) (by rw [Nat.zero_add]; exact hr) hb1.size
  refine wpFrom_append (d := some 7) (t := 32) (t' := 32) (ty := 32) (v := .slice (some ⟨w.heap.size, 0, none⟩) 0 0) (x := .slice (some ad) l.length cap) (by kernel_rfl) hrun ?_
  refine tF 4 [.v 3 2 (v')] trivial ?_
  refine eF ?_
  go_wp2_with fail
  go_ret
  refine ⟨_, rfl, ?_, hb1.grown hg hb1.size (fun k e => by have : w.heap.size = k := Option.some.inj e; omega)⟩
  unfold OwnL
  rw [Nat.zero_add, List.nil_append] at hO
  exact hO
abbrev nilV : Value := .slice none 0 0
def zS : Es := ⟨0, 0, noK, noK, fun _ => 0, noK, 0, []⟩
theorem res_st {fn : Func} {p : Tmp} (h : fn.results = #[.cell p 34]) (tmps : Array Value) {w : World} {g : Nat} {T : TypeId} {s : Es} {v : Value} (hp : tmps.getD p undef = .pointer (some ⟨g, 0, none⟩)) (hg : Blk w g T (stc s v)) :
  (results fn tmps).run Tryz.prog w = .ok (stv s v) w :=
 results_cell_row h tmps w g T (stc s v).toArray (0, 0) _ hp hg Tryz.underlying34 rfl (by rw [List.size_toArray, stc_len]; exact info_st)
def OwnR (s : Es) (w : World) (e : Ending) (W' : World) : Prop := ∃ v', e = .returned (stv s v') ∧ OwnL w.heap.size W' v' s.lk ∧ Below w.heap.size w W'
set_option maxRecDepth 100000 in
set_option maxHeartbeats 4000000 in
theorem own_any (s : Es) (v : Value) (w : World) {lo hi : Nat} (hl : RSl lkc lo hi w v s.lk) (hhi : hi ≤ w.heap.size) (hr : s.lk.length * 40 ≤ 140737488355328) :
  Calls Tryz.prog 27 #[stv s v] w (OwnR s w) := by
 have hM := Mem.start w
 have HL := Lib.hid hl
 clear hl
 go_enter Tryz.func27, Tryz.ntmps27
 go_upto_region 0 with fail
 refine wp_region_fromM (fun W => Mem w none [] W) hM ?_
 clear hM
 rintro Y1 hM
 refine rF (some 1) (pt Y1.heap.size 0) (Y1.alloc (.cells (stc s v).toArray 34)) ?_
 replace hM := hM.alloc 34 (stc s v)
 generalize World.alloc _ _ = Y2 at *
 generalize hNe : Y1.heap.size = P at *
 clear hNe
 refine rF (some 2) (pt Y2.heap.size 0) (Y2.alloc (.cells (stc zS nilV).toArray 34)) ?_
 replace hM := hM.alloc 34 (stc zS nilV)
 generalize World.alloc _ _ = Y3 at *
 generalize hNe : Y2.heap.size = R at *
 clear hNe
 refine eF ?_
 go_upto_region 1 with fail
 refine wp_region_fromM _ hM ?_
 clear hM
 rintro Y4 hM
 refine tF 2 [.v 0 3 (pt P 150), .l 1 4 32 (pt P 150) (v)] ⟨ld_lk (s := s) hM.a1, trivial⟩ ?_
 refine cF (some 5) 56 #[v] ((cloneL_any s.lk v _ (HL.out.below hM.b hhi) (Nat.le_trans hhi hM.size) hr).mono ?_)
 rintro e W1 ⟨v1, rfl, hO, hb⟩
 have hP := hM.a1.lt
 have hR := hM.a0.lt
 have hsz := hM.size
 replace hM := hM.below hb
 clear hb
 refine tF 4 [.v 3 6 (pt P 150)] trivial ?_
 have hg1 := grownBy_row W1 P (stc s v1).toArray
 have hO1 := hO.grown hP hg1
 refine sF 32 (pt P 150) (v1) (sto_lk hM.a1 hO.one.1 hO.one.2) ?_
 replace hM := hM.set 1 (cs' := stc s v1) rfl rfl
 generalize World.setRow _ _ _ = Y5 at *
 refine eF ?_
 clear hg1
 go_upto_region 2 with fail
 refine wp_region_fromM (fun W => Mem w none [(R, 34, stc zS nilV), (P, 34, stc s v1)] W ∧ OwnL Y4.heap.size W v1 s.lk) ⟨hM, hO1⟩ ?_
 clear hM hO1
 rintro Y6 ⟨hM, hO1⟩
 refine tF 1 [.l 0 7 34 (pt P 0) (stv (s) (v1))] ⟨ld_st hM.a1, trivial⟩ ?_
 have hg2 := grownBy_row Y6 R (stc s v1).toArray
 have hO2 := hO1.grown hR hg2
 refine sF 34 (pt R 0) (stv (s) (v1)) (sto_st hM.a0 (stc_len _ _) s hO1.one.1) ?_
 replace hM := hM.set 0 (cs' := stc s v1) rfl rfl
 generalize World.setRow _ _ _ = Y7 at *
 refine eF ?_
 clear hg2
 go_wp2_with fail
 exact bodyPost_ret (v := stv s v1) (res_st rfl _ rfl hM.a0) rfl ⟨v1, rfl, hO2.low hsz, hM.b⟩
def nearI (n m : Int) : Int := max 0 (min n m)
theorem nearest_any (n m : Int) (w : World) : Calls Tryz.prog 26 #[.int .i64 n, .int .i64 m] w fun e W' => e = .returned (.int .i64 (nearI n m)) ∧ W' = w := by
 by_cases h1 : m < n
 ·
  by_cases h2 : 0 < m
  ·
   have H := Lib.hid (show nearI n m = m by unfold nearI; omega)
   rw [H.out]
   go_enter Tryz.func26, Tryz.ntmps26
   go_wp2
   go_ret
   exact ⟨rfl, rfl⟩
  ·
   have H := Lib.hid (show nearI n m = 0 by unfold nearI; omega)
   rw [H.out]
   go_enter Tryz.func26, Tryz.ntmps26
   go_wp2
   go_ret
   exact ⟨rfl, rfl⟩
 ·
  by_cases h2 : 0 < n
  ·
   have H := Lib.hid (show nearI n m = n by unfold nearI; omega)
   rw [H.out]
   go_enter Tryz.func26, Tryz.ntmps26
   go_wp2
   go_ret
   exact ⟨rfl, rfl⟩
  ·
   have H := Lib.hid (show nearI n m = 0 by unfold nearI; omega)
   rw [H.out]
   go_enter Tryz.func26, Tryz.ntmps26
   go_wp2
   go_ret
   exact ⟨rfl, rfl⟩
def genP (a b : Int) : Es := ⟨nearI a 1, nearI b 1099511627776, fun _ => 1000, noK, fun _ => 0, noK, 0, []⟩
set_option maxRecDepth 100000 in
set_option maxHeartbeats 4000000 in
theorem genesis_any (a b : Int) (w : World) :
  Calls Tryz.prog 9 #[.int .i64 a, .int .i64 b] w fun e W' => e = .returned (stv (genP a b) nilV) ∧ Below w.heap.size w W' := by
 have hM := Mem.start w
 go_enter Tryz.func9, Tryz.ntmps9
 go_upto_region 0 with fail
 refine wp_region_fromM (fun W => Mem w none [] W) hM ?_
 clear hM
 rintro Y1 hM
 refine rF (some 4) (pt Y1.heap.size 0) (Y1.alloc (.cells (stc zS nilV).toArray 34)) ?_
 replace hM := hM.alloc 34 (stc zS nilV)
 generalize World.alloc _ _ = Y2 at *
 generalize hNe : Y1.heap.size = R at *
 clear hNe
 refine eF ?_
 go_upto_region 1 with fail
 refine wp_region_fromM _ hM ?_
 clear hM
 rintro Y3 hM
 refine tF 1 [.v 0 5 (.int .i64 a)] trivial ?_
 refine cF (some 6) 26 #[.int .i64 a, .int .i64 1] ((nearest_any _ _ _).mono ?_)
 rintro e W1 ⟨rfl, rfl⟩
 refine tF 3 [.v 2 7 (.int .i64 b)] trivial ?_
 refine cF (some 8) 26 #[.int .i64 b, .int .i64 1099511627776] ((nearest_any _ _ _).mono ?_)
 rintro e W1 ⟨rfl, rfl⟩
 refine cF (some 9) _ _ ((bookEven_any 1000 (by unfold M; decide) _).mono ?_)
 rintro e W2 ⟨rfl, hb⟩
 replace hM := hM.below hb
 clear hb
 refine tF 6 [.v 5 10 (stv (genP a b) nilV)] trivial ?_
 refine sF 34 (pt R 0) (stv (genP a b) nilV) (sto_st hM.a0 (stc_len _ _) (genP a b) rfl) ?_
 replace hM := hM.set 0 (cs' := stc (genP a b) nilV) rfl rfl
 generalize World.setRow _ _ _ = Y4 at *
 refine eF ?_
 go_wp2_with fail
 exact bodyPost_ret (v := stv (genP a b) nilV) (res_st rfl _ rfl hM.a0) rfl ⟨rfl, hM.b⟩
def riseP (s : Es) (n : Int) : Es := { s with tm := s.tm + nearI n (1099511627776 - s.tm) }
set_option maxRecDepth 100000 in
set_option maxHeartbeats 4000000 in
theorem esc_rise_any (s : Es) (v : Value) (n : Int) (w : World) (ht : 0 ≤ s.tm ∧ s.tm ≤ 1099511627776) {lo hi : Nat} (hl : RSl lkc lo hi w v s.lk) (hhi : hi ≤ w.heap.size) (hr : s.lk.length * 40 ≤ 140737488355328) :
  Calls Tryz.prog 11 #[stv s v, .int .i64 n] w (OwnR (riseP s n) w) := by
 have hmx : Tryz.prog.follows .mixedOrders = true := by kernel_rfl
 have hM := Mem.start w
 have HL := Lib.hid hl
 clear hl
 go_enter Tryz.func11, Tryz.ntmps11
 go_upto_region 0 with fail
 refine wp_region_fromM (fun W => Mem w none [] W) hM ?_
 clear hM
 rintro Y1 hM
 refine rF (some 2) (pt Y1.heap.size 0) (Y1.alloc (.cells (stc s v).toArray 34)) ?_
 replace hM := hM.alloc 34 (stc s v)
 generalize World.alloc _ _ = Y2 at *
 generalize hNe : Y1.heap.size = P at *
 clear hNe
 refine rF (some 4) (pt Y2.heap.size 0) (Y2.alloc (.cells (stc zS nilV).toArray 34)) ?_
 replace hM := hM.alloc 34 (stc zS nilV)
 generalize World.alloc _ _ = Y3 at *
 generalize hNe : Y2.heap.size = R at *
 clear hNe
 refine eF ?_
 go_upto_region 1 with fail
 refine wp_region_fromM _ hM ?_
 clear hM
 rintro Y4 hM
 refine tF 1 [.l 0 5 34 (pt P 0) (stv (s) (v))] ⟨ld_st hM.a1, trivial⟩ ?_
 refine cF (some 6) 27 #[stv (s) (v)] ((own_any s v _ (HL.out.below hM.b hhi) (Nat.le_trans hhi hM.size) hr).mono ?_)
 rintro e W1 ⟨v1, rfl, hO, hb⟩
 have hP := hM.a1.lt
 have hR := hM.a0.lt
 have hsz := hM.size
 replace hM := hM.below hb
 clear hb
 have hg1 := grownBy_row W1 P (stc s v1).toArray
 replace hO := hO.grown hP hg1
 refine sF 34 (pt P 0) (stv s v1) (sto_st hM.a1 (stc_len _ _) s hO.one.1) ?_
 replace hM := hM.set 1 (cs' := stc s v1) rfl rfl
 generalize World.setRow _ _ _ = Y5 at *
 refine eF ?_
 clear hg1
 go_upto_region 2 with fail
 replace hO : OwnL Y4.heap.size (World.drew _) v1 s.lk := hO.drew
 refine wp_region_M (fun W => Mem w none [(R, 34, stc zS nilV)] W) (fun W => Mem w none [(R, 34, stc zS nilV), (P, 34, stc s v1)] W ∧ OwnL Y4.heap.size W v1 s.lk) hmx ⟨hM.drew, hO⟩ ?_
 clear hM hO
 rintro Y6 ⟨hM, hO⟩
 have hS := hM.sub (.cons_cons _ (.cons _ .slnil))
 refine tD 7 [.v 0 7 (pt P 1), .v 2 9 (.int .i64 n), .v 3 10 (pt P 1)] trivial hS ?_
 refine oT 1 4 6 ?_ ?_
 ·
  refine lD (some 8) 3 (pt P 1) (.int .i64 s.tm) (ld_int hM.a1 1 rfl) (hS) ?_
  refine oD 4 5 (lD (some 11) 3 (pt P 1) (.int .i64 s.tm) (ld_int hM.a1 1 rfl) (hS) ?_)
  refine tD 4 [.a 5 12 (.int .i64 (IntKind.i64.wrap (1099511627776 - s.tm))) (.int .i64 (1099511627776 - s.tm))] ⟨cI (IntWalk.i64_in _ (by omega)), trivial⟩ hS ?_
  refine oD 6 3 (cD (some 13) 26 #[.int .i64 n, .int .i64 (1099511627776 - s.tm)] ((nearest_any _ _ _).mono ?_))
  rintro e Y7 ⟨rfl, rfl⟩
  refine And.intro (hS) ?_
  refine tD 1 [.a 7 14 (.int .i64 (IntKind.i64.wrap (s.tm + nearI n (1099511627776 - s.tm)))) (.int .i64 (s.tm + nearI n (1099511627776 - s.tm))), .v 8 15 (pt P 1)] ⟨cI (IntWalk.i64_in _ (by unfold nearI; omega)), trivial⟩ hS ?_
  have hg2 := grownBy_row Y7 P (stc (riseP s n) v1).toArray
  have hO2 := hO.grown hP hg2
  have hM1 := hM.set 1 (cs' := stc (riseP s n) v1) rfl rfl
  refine oD 9 0 (sD (w' := Y7.setRow P (stc (riseP s n) v1).toArray) 3 (pt P 1) (.int .i64 (s.tm + nearI n (1099511627776 - s.tm))) (sto_tm hM.a1 _) (hM1.sub (.cons_cons _ (.cons _ .slnil))) ?_)
  replace hS := hM1.sub (.cons_cons _ (.cons _ .slnil))
  replace hM := hM1
  clear hM1
  generalize World.setRow _ _ _ = Y8 at *
  refine eD ?_
  clear hS hg2
  go_upto_region 3 with fail
  refine wp_region_fromM (fun W => Mem w none [(R, 34, stc zS nilV), (P, 34, stc (riseP s n) v1)] W ∧ OwnL Y4.heap.size W v1 s.lk) ⟨hM, hO2⟩ ?_
  clear hM hO2
  rintro Y9 ⟨hM, hO2⟩
  refine tF 1 [.l 0 16 34 (pt P 0) (stv (riseP s n) (v1))] ⟨ld_st hM.a1, trivial⟩ ?_
  have hg3 := grownBy_row Y9 R (stc (riseP s n) v1).toArray
  have hO3 := hO2.grown hR hg3
  refine sF 34 (pt R 0) (stv (riseP s n) (v1)) (sto_st hM.a0 (stc_len _ _) (riseP s n) hO2.one.1) ?_
  replace hM := hM.set 0 (cs' := stc (riseP s n) v1) rfl rfl
  generalize World.setRow _ _ _ = Y10 at *
  refine eF ?_
  clear hg3
  go_wp2_with fail
  exact bodyPost_ret (v := stv (riseP s n) v1) (res_st rfl _ rfl hM.a0) rfl ⟨v1, rfl, hO3.low hsz, hM.b⟩
 ·
  refine lD (some 11) 3 (pt P 1) (.int .i64 s.tm) (ld_int hM.a1 1 rfl) (hS) ?_
  refine tD 5 [.a 5 12 (.int .i64 (IntKind.i64.wrap (1099511627776 - s.tm))) (.int .i64 (1099511627776 - s.tm))] ⟨cI (IntWalk.i64_in _ (by omega)), trivial⟩ hS ?_
  refine oT 1 6 4 ?_ ?_
  ·
   refine lD (some 8) 3 (pt P 1) (.int .i64 s.tm) (ld_int hM.a1 1 rfl) (hS) ?_
   refine oD 6 3 (cD (some 13) 26 #[.int .i64 n, .int .i64 (1099511627776 - s.tm)] ((nearest_any _ _ _).mono ?_))
   rintro e Y11 ⟨rfl, rfl⟩
   refine And.intro (hS) ?_
   refine tD 1 [.a 7 14 (.int .i64 (IntKind.i64.wrap (s.tm + nearI n (1099511627776 - s.tm)))) (.int .i64 (s.tm + nearI n (1099511627776 - s.tm))), .v 8 15 (pt P 1)] ⟨cI (IntWalk.i64_in _ (by unfold nearI; omega)), trivial⟩ hS ?_
   have hg2 := grownBy_row Y11 P (stc (riseP s n) v1).toArray
   have hO2 := hO.grown hP hg2
   have hM1 := hM.set 1 (cs' := stc (riseP s n) v1) rfl rfl
   refine oD 9 0 (sD (w' := Y11.setRow P (stc (riseP s n) v1).toArray) 3 (pt P 1) (.int .i64 (s.tm + nearI n (1099511627776 - s.tm))) (sto_tm hM.a1 _) (hM1.sub (.cons_cons _ (.cons _ .slnil))) ?_)
   replace hS := hM1.sub (.cons_cons _ (.cons _ .slnil))
   replace hM := hM1
   clear hM1
   generalize World.setRow _ _ _ = Y12 at *
   refine eD ?_
   clear hS hg2
   go_upto_region 3 with fail
   refine wp_region_fromM (fun W => Mem w none [(R, 34, stc zS nilV), (P, 34, stc (riseP s n) v1)] W ∧ OwnL Y4.heap.size W v1 s.lk) ⟨hM, hO2⟩ ?_
   clear hM hO2
   rintro Y13 ⟨hM, hO2⟩
   refine tF 1 [.l 0 16 34 (pt P 0) (stv (riseP s n) (v1))] ⟨ld_st hM.a1, trivial⟩ ?_
   have hg3 := grownBy_row Y13 R (stc (riseP s n) v1).toArray
   have hO3 := hO2.grown hR hg3
   refine sF 34 (pt R 0) (stv (riseP s n) (v1)) (sto_st hM.a0 (stc_len _ _) (riseP s n) hO2.one.1) ?_
   replace hM := hM.set 0 (cs' := stc (riseP s n) v1) rfl rfl
   generalize World.setRow _ _ _ = Y14 at *
   refine eF ?_
   clear hg3
   go_wp2_with fail
   exact bodyPost_ret (v := stv (riseP s n) v1) (res_st rfl _ rfl hM.a0) rfl ⟨v1, rfl, hO3.low hsz, hM.b⟩
  ·
   refine cD (some 13) 26 #[.int .i64 n, .int .i64 (1099511627776 - s.tm)] ((nearest_any _ _ _).mono ?_)
   rintro e Y15 ⟨rfl, rfl⟩
   refine And.intro (hS) ?_
   refine oD 1 3 (lD (some 8) 3 (pt P 1) (.int .i64 s.tm) (ld_int hM.a1 1 rfl) (hS) ?_)
   refine tD 1 [.a 7 14 (.int .i64 (IntKind.i64.wrap (s.tm + nearI n (1099511627776 - s.tm)))) (.int .i64 (s.tm + nearI n (1099511627776 - s.tm))), .v 8 15 (pt P 1)] ⟨cI (IntWalk.i64_in _ (by unfold nearI; omega)), trivial⟩ hS ?_
   have hg2 := grownBy_row Y15 P (stc (riseP s n) v1).toArray
   have hO2 := hO.grown hP hg2
   have hM1 := hM.set 1 (cs' := stc (riseP s n) v1) rfl rfl
   refine oD 9 0 (sD (w' := Y15.setRow P (stc (riseP s n) v1).toArray) 3 (pt P 1) (.int .i64 (s.tm + nearI n (1099511627776 - s.tm))) (sto_tm hM.a1 _) (hM1.sub (.cons_cons _ (.cons _ .slnil))) ?_)
   replace hS := hM1.sub (.cons_cons _ (.cons _ .slnil))
   replace hM := hM1
   clear hM1
   generalize World.setRow _ _ _ = Y16 at *
   refine eD ?_
   clear hS hg2
   go_upto_region 3 with fail
   refine wp_region_fromM (fun W => Mem w none [(R, 34, stc zS nilV), (P, 34, stc (riseP s n) v1)] W ∧ OwnL Y4.heap.size W v1 s.lk) ⟨hM, hO2⟩ ?_
   clear hM hO2
   rintro Y17 ⟨hM, hO2⟩
   refine tF 1 [.l 0 16 34 (pt P 0) (stv (riseP s n) (v1))] ⟨ld_st hM.a1, trivial⟩ ?_
   have hg3 := grownBy_row Y17 R (stc (riseP s n) v1).toArray
   have hO3 := hO2.grown hR hg3
   refine sF 34 (pt R 0) (stv (riseP s n) (v1)) (sto_st hM.a0 (stc_len _ _) (riseP s n) hO2.one.1) ?_
   replace hM := hM.set 0 (cs' := stc (riseP s n) v1) rfl rfl
   generalize World.setRow _ _ _ = Y18 at *
   refine eF ?_
   clear hg3
   go_wp2_with fail
   exact bodyPost_ret (v := stv (riseP s n) v1) (res_st rfl _ rfl hM.a0) rfl ⟨v1, rfl, hO3.low hsz, hM.b⟩
end Go.Proofs.YthhmdgmmeedhdaaGreat
namespace Go.Proofs.YthhmdgmmeedhdaaGreat
open Go.RowKit Go.Shelf
section
variable {P : Program} {ops : Array Oper} {Q : Exit → Act → World → Prop}
theorem wpFrom_defer {k : Nat} {a : Act} {w : World} {d : Deferred} (hr : runAt P ops k a w = some (true, none, .ok (.defer d) w)) (h : wpFrom P ops Q (k + 1) { a with defers := d :: a.defers } w) : wpFrom P ops Q k a w := by
 obtain ⟨o, ho⟩ := some_of hr
 unfold runAt at hr
 rw [ho] at hr
 have e := Option.some.inj hr
 have h1 : Region.wanted o (yielded ops a.tmps) = true := congrArg Prod.fst e
 have h2 : o.dst = none := congrArg (fun x => x.2.1) e
 have h3 : (execOp a.eval o).run P w = .ok (.defer d) w := congrArg (fun x => x.2.2) e
 refine wpFrom_step ho fun K hK => ?_
 rw [if_pos h1]
 unfold Oper.wp
 rw [h3]
 have : K (({ a with defers := d :: a.defers } : Act).put o.dst undef) w := by rw [h2]; exact hK _ _ h
 exact this
end
theorem wp_act {P : Program} {c : Code} {Q : Exit → Act → World → Prop} {a a' : Act} {w : World} (h : a = a') (hw : c.wp P Q a' w) : c.wp P Q a w := by rw [h]; exact hw
theorem sto_er {W : World} {B : Nat} {T : TypeId} {x : Value} (h : Blk W B T [x]) (c : Int) : (Instr.storeAt 42 (.pointer (some ⟨B, 0, none⟩)) (.int .i64 c)).run Tryz.prog W = .ok () (W.setRow B [.int .i64 c].toArray) :=
 sto_part _ h 0 _ _ [.int .i64 c] rfl (by kernel_rfl) (Nat.le_refl _) rfl rfl
theorem catch_idle (p q r : Value) (w : World) :
  CallsD Tryz.prog 57 #[p, q, r] .returning w fun e u' W' => e = .returned (.tuple #[]) ∧ u' = .returning ∧ W' = w := by
 refine callsD_of_wpS Tryz.func57 rfl fun c₀ cs hu => ?_
 apply wpS_seq
 apply wpS_region
 simp [wpOpsS, go_sem, recoverD, hu, Tryz.ntmps57, Exit.thenS]
 apply wpS_seq
 apply wpS_seq
 apply wpS_region
 simp [wpOpsS, go_sem, Exit.thenS]
 refine wpS_cond (t := true) (by simp [Act.eval, Array.replicate]) ?_
 simp only [if_true]
 refine wpS_of_wp (wp_ret ?_)
 cases c₀
 simp_all [bodyPostS, results, Tryz.results57, Exit.thenS]
def CatchR (s : Es) (c : Int) (P Q R : Nat) (w : World) (W' : World) : Prop := ∃ v', Blk W' Q 34 (stc s v') ∧ Blk W' R 42 [.int .i64 c] ∧ OwnL w.heap.size W' v' s.lk ∧ Below P w W'
set_option maxRecDepth 100000 in
set_option maxHeartbeats 4000000 in
theorem catch_any (c : Int) (s : Es) (v : Value) {P Q R lo hi : Nat} (hPQ : P < Q) (hQR : Q < R) (w : World) (hP : Blk w P 34 (stc s v)) (hQ : BlkN w Q) {x : Value} (hR : Blk w R 42 [x]) (hl : RSl lkc lo hi w v s.lk) (hhi : hi ≤ w.heap.size) (hr : s.lk.length * 40 ≤ 140737488355328) :
  CallsD Tryz.prog 57 #[.pointer (some ⟨P, 0, none⟩), .pointer (some ⟨Q, 0, none⟩), .pointer (some ⟨R, 0, none⟩)] (.panicking [{ v := .iface 106 (.int .i64 c), recovered := false }]) w fun e u' W' => e = .returned (.tuple #[]) ∧ u' = .panicking [{ v := .iface 106 (.int .i64 c), recovered := true }] ∧ CatchR s c P Q R w W' := by
 obtain ⟨vs, hvs, hQ⟩ := hQ
 refine callsD_of_wpS Tryz.func57 rfl fun c₀ cs hu => ?_
 apply wpS_seq
 apply wpS_region
 simp [wpOpsS, go_sem, recoverD, hu, Tryz.ntmps57, Exit.thenS]
 refine wpS_of_wp ?_
 refine wp_act (a' := { tmps := #[.pointer (some ⟨P, 0, none⟩), .pointer (some ⟨Q, 0, none⟩), .pointer (some ⟨R, 0, none⟩), .iface 106 (.int .i64 c), undef, undef, .iface 106 (.int .i64 c), undef, undef, undef, undef, undef, undef, undef, undef, undef, undef, undef, undef, undef], defers := [] }) (by kernel_rfl) ?_
 go_upto_region 1 with fail
 refine wp_region_from ?_
 refine tF 2 [.v 0 7 (.iface 106 (.int .i64 c)), .v 1 8 (.bool false)] trivial ?_
 refine eF ?_
 go_upto_region 2 with fail
 refine wp_region_from ?_
 refine tF 7 [.v 0 10 (.iface 106 (.int .i64 c)), .v 1 11 (.tuple #[.int .i64 c, .bool true]), .v 2 9 (.tuple #[.int .i64 c, .bool true]), .v 3 12 (.int .i64 c), .v 4 13 (.bool true), .v 5 4 (.int .i64 c), .v 6 5 (.bool true)] trivial ?_
 refine eF ?_
 go_upto_region 3 with fail
 refine wp_region_from ?_
 refine tF 2 [.v 0 14 (.bool true), .v 1 15 (.bool false)] trivial ?_
 refine eF ?_
 go_upto_region 5 with fail
 refine wp_region_from ?_
 refine tF 1 [.l 0 17 34 (pt P 0) (stv s v)] ⟨ld_st hP, trivial⟩ ?_
 refine cF (some 18) _ _ ((own_any s v w hl hhi hr).mono ?_)
 rintro e W1 ⟨v1, rfl, hO, hb⟩
 refine tF 3 [.v 2 19 (.int .i64 c)] trivial ?_
 have hQ1 := hQ.below hb hQ.lt
 have hR1 := hR.below hb hR.lt
 have hQl := hQ.lt
 have hRl := hR.lt
 have hg1 := grownBy_row W1 Q (stc s v1).toArray
 have hO1 := hO.grown hQl hg1
 have hQ2 := hQ1.row (stc s v1)
 have hR2 := hR1.rowO (stc s v1).toArray (show R ≠ Q by omega)
 have hB0 : Below P w W1 := hb.mono (by omega)
 have hB1 := hB0.grown hg1 (show P ≤ W1.heap.size from Nat.le_trans (by omega) hb.size) (fun e he => by cases he; omega)
 refine sF _ _ _ (sto_st hQ1 hvs s hO.one.1) ?_
 generalize W1.setRow Q (stc s v1).toArray = W2 at *
 have hg2 := grownBy_row W2 R [.int .i64 c].toArray
 have hO2 := hO1.grown hRl hg2
 have hQ3 := hQ2.rowO [.int .i64 c].toArray (show Q ≠ R by omega)
 have hR3 := hR2.row [.int .i64 c]
 have hB2 := hB1.grown hg2 (Nat.le_trans (Nat.le_of_lt hP.lt) hB1.size) (fun e he => by cases he; omega)
 refine sF _ _ _ (sto_er hR2 c) ?_
 generalize W2.setRow R [.int .i64 c].toArray = W3 at *
 refine eF ?_
 clear hg1 hg2
 go_wp2_with fail
 exact ⟨rfl, _, rfl, _, by kernel_rfl, rfl, rfl, v1, hQ3, hR3, hO2, hB2⟩
def AttR (s : Es) (p : Es × Int) (w : World) (e : Ending) (W' : World) : Prop := ∃ v', e = .returned (.tuple #[stv (if p.2 = 0 then p.1 else s) v', .int .i64 p.2]) ∧ OwnL w.heap.size W' v' (if p.2 = 0 then p.1 else s).lk ∧ Below w.heap.size w W'
theorem res_att {fn : Func} {p q : Tmp} (h : fn.results = #[.cell p 34, .cell q 42]) (tmps : Array Value) {w : World} {g r : Nat} {T U : TypeId} {s : Es} {v : Value} {c : Int} (hp : tmps.getD p undef = .pointer (some ⟨g, 0, none⟩)) (hq : tmps.getD q undef = .pointer (some ⟨r, 0, none⟩)) (hg : Blk w g T (stc s v)) (hr : Blk w r U [.int .i64 c]) :
  (results fn tmps).run Tryz.prog w = .ok (.tuple #[stv s v, .int .i64 c]) w := by
 have hp' : tmps[p]?.getD undef = .pointer (some ⟨g, 0, none⟩) := by simpa using hp
 have hq' : tmps[q]?.getD undef = .pointer (some ⟨r, 0, none⟩) := by simpa using hq
 have hc := hr.cell 0
 have hagg : (isAgg 42).run Tryz.prog w = .ok false w := by kernel_rfl
 have h2 : (loadVar 42 ⟨r, 0, none⟩).run Tryz.prog w = .ok (.int .i64 c) w := by
  simp [loadVar, Sem.run_bind, hagg, hc]
 simp [results, h, hp', hq', asAddr, h2, run_loadVar_row w g T 34 (stc s v).toArray (0, 0) _ hg Tryz.underlying34 rfl (by rw [List.size_toArray, stc_len]; exact info_st)]
set_option maxRecDepth 100000 in
set_option maxHeartbeats 4000000 in
theorem attempt1_any (cap : Value) (s : Es) (v : Value) (p : Es × Int) (w : World) {lo : Nat} (hl : RSl lkc lo w.heap.size w v s.lk) (hr : s.lk.length * 40 ≤ 140737488355328)
  (hd : ∀ (W : World) (v1 : Value) (B b0 : Nat), Below w.heap.size w W → w.heap.size ≤ B → B < b0 → b0 ≤ W.heap.size → Blk W B 34 (stc s v1) → OwnL b0 W v1 s.lk → Calls Tryz.prog 29 #[.pointer (some ⟨B, 0, none⟩), cap] W (EndL W B b0 p)) :
  Calls Tryz.prog 28 #[stv s v, .func (.func 29) #[] #[cap]] w (AttR s p w) := by
 have HD := Lib.hid hd
 have HL := Lib.hid hl
 clear hd hl
 have hM := Mem.start w
 go_enter_defers Tryz.func28, Tryz.ntmps28
 go_upto_region 0 with fail
 refine wp_region_fromM (fun W => Mem w none [] W) hM ?_
 clear hM
 rintro Y1 hM
 refine rF (some 2) (pt Y1.heap.size 0) (Y1.alloc (.cells (stc s v).toArray 34)) ?_
 replace hM := hM.alloc 34 (stc s v)
 generalize World.alloc _ _ = Y2 at *
 generalize hNe : Y1.heap.size = P at *
 clear hNe
 have hP0 := hM.a0.lt
 refine rF (some 4) (pt Y2.heap.size 0) (Y2.alloc (.cells (stc zS nilV).toArray 34)) ?_
 replace hM := hM.alloc 34 (stc zS nilV)
 generalize World.alloc _ _ = Y3 at *
 generalize hNe : Y2.heap.size = Q at *
 clear hNe
 have hQ0 := hM.a0.lt
 refine rF (some 5) (pt Y3.heap.size 0) (Y3.alloc (.cells ([.int .i64 0]).toArray 42)) ?_
 replace hM := hM.alloc 42 ([.int .i64 0])
 generalize World.alloc _ _ = Y4 at *
 generalize hNe : Y3.heap.size = R at *
 clear hNe
 refine eF ?_
 have hQP : P < Q := (List.pairwise_cons.1 (List.pairwise_cons.1 hM.2.1).2).1 _ (List.mem_singleton.2 rfl)
 have hRQ : Q < R := (List.pairwise_cons.1 hM.2.1).1 _ (List.mem_cons_self ..)
 clear hP0 hQ0
 go_upto_region 1 with fail
 refine wp_region_fromM _ hM ?_
 clear hM
 rintro Y5 hM
 refine tF 1 [.v 0 6 (.func (.func 57) #[] #[.pointer (some ⟨P, 0, none⟩), .pointer (some ⟨Q, 0, none⟩), .pointer (some ⟨R, 0, none⟩)])] trivial ?_
 refine wpFrom_defer (d := { target := .fn (.func 57) #[.pointer (some ⟨P, 0, none⟩), .pointer (some ⟨Q, 0, none⟩), .pointer (some ⟨R, 0, none⟩)], args := #[] }) (by kernel_rfl) ?_
 refine eF ?_
 go_upto_region 2 with fail
 refine wp_region_fromM _ hM ?_
 clear hM
 rintro Y6 hM
 refine tF 1 [.l 0 7 34 (pt P 0) (stv (s) (v))] ⟨ld_st hM.a2, trivial⟩ ?_
 refine cF (some 8) 27 #[stv (s) (v)] ((own_any s v _ (HL.out.below hM.b (Nat.le_refl _)) hM.size hr).mono ?_)
 rintro e W1 ⟨v1, rfl, hO, hb⟩
 have hRl := hM.a0.lt
 replace hM := hM.below hb
 have hb1 := hb.size
 clear hb
 have hg1 := grownBy_row W1 Q (stc s v1).toArray
 replace hO := hO.grown (Nat.lt_trans hRQ hRl) hg1
 refine sF _ _ _ (sto_st hM.a1 (stc_len _ _) s hO.one.1) ?_
 replace hM := hM.set 1 (cs' := stc s v1) rfl rfl
 generalize World.setRow _ _ _ = Y7 at *
 refine eF ?_
 have hbw := Nat.le_trans hb1 hg1.size
 clear hg1 hb1
 go_upto_region 3 with fail
 refine wp_region_fromM (fun W => Mem w none [(R, 42, [.int .i64 0]), (Q, 34, stc s v1), (P, 34, stc s v)] W ∧ OwnL Y6.heap.size W v1 s.lk ∧ Y6.heap.size ≤ W.heap.size) ⟨hM, hO, hbw⟩ ?_
 clear hM hO hbw
 rintro Y8 ⟨hM, hO, hbw⟩
 refine tF 1 [.v 0 9 (.func (.func 29) #[] #[cap])] trivial ?_
 generalize hb0 : Y6.heap.size = b0 at *
 clear hb0
 refine cF (some 10) _ _ ((HD.out Y8 v1 Q b0 hM.b (hM.ge 1 rfl (by simp)) (Nat.lt_trans hRQ hRl) hbw hM.a1 hO).mono ?_)
 rintro e W2 h
 have hPb := Turn.blk (k := P) (b0 := b0) (B := Q) h.1 (by omega) (by omega) hM.a2
 have hRb := Turn.blk (k := R) (b0 := b0) (B := Q) h.1 hRl (by omega) hM.a0
 have hge := hM.ge 2 rfl (by simp)
 have hBl : Below w.heap.size w W2 := ⟨h.1.1.trans hM.b.os, h.1.2.1.trans hM.b.tape, h.1.2.2.1.trans hM.b.output, Nat.le_trans hM.b.size h.1.2.2.2.1, fun k hk => (h.1.2.2.2.2 k (by omega) (by omega)).trans (hM.b.block k hk)⟩
 rcases h.two with ⟨h0, rfl, _, v', hB, hO'⟩ | ⟨h0, rfl, _, hN⟩
 case inr =>
  refine leaves_cons (f := 57) (args := #[.pointer (some ⟨P, 0, none⟩), .pointer (some ⟨Q, 0, none⟩), .pointer (some ⟨R, 0, none⟩)]) (by simp) (by kernel_rfl) ?_
  refine (catch_any p.2 s v hQP hRQ W2 hPb hN hRb (HL.out.below hBl (Nat.le_refl _)) hBl.size hr).mono ?_
  rintro e u' W3 ⟨rfl, rfl, v2, hQ3, hR3, hO3, hB3⟩
  refine ⟨_, res_att rfl _ rfl rfl hQ3 hR3, v2, ?_, ?_, ?_⟩
  ·
   rw [if_neg h0]
  ·
   rw [if_neg h0]; exact hO3.low hBl.size
  ·
   exact hBl.trans (hB3.mono hge) 
 refine eF ?_
 clear h hO hM
 go_upto_region 4 with fail
 refine wp_region_from ?_
 refine tF 1 [.l 0 11 34 (pt Q 0) (stv p.1 v')] ⟨ld_st hB, trivial⟩ ?_
 have hg1 := grownBy_row W2 Q (stc p.1 v').toArray
 have hB1 := hB.row (stc p.1 v')
 have hRb1 := hRb.rowO (stc p.1 v').toArray (show R ≠ Q by omega)
 have hO1 := hO'.grown (show Q < b0 by omega) hg1
 have hBl1 := hBl.grown hg1 hBl.size (fun e he => by cases he; omega)
 refine sF _ _ _ (sto_st hB (stc_len _ _) p.1 hO'.one.1) ?_
 generalize W2.setRow Q (stc p.1 v').toArray = W3 at *
 have hg2 := grownBy_row W3 R [.int .i64 0].toArray
 have hB2 := hB1.rowO [.int .i64 0].toArray (show Q ≠ R by omega)
 have hRb2 := hRb1.row [.int .i64 0]
 have hO2 := hO1.grown hRl hg2
 have hBl2 := hBl1.grown hg2 hBl1.size (fun e he => by cases he; omega)
 refine sF _ _ _ (sto_er hRb1 0) ?_
 generalize W3.setRow R [.int .i64 0].toArray = W4 at *
 refine eF ?_
 have H0 := Lib.hid h0
 clear h0 hg1 hg2
 go_wp2_with fail
 refine leaves_cons (f := 57) (args := #[.pointer (some ⟨P, 0, none⟩), .pointer (some ⟨Q, 0, none⟩), .pointer (some ⟨R, 0, none⟩)]) (by simp) (by kernel_rfl) ?_
 refine (catch_idle _ _ _ W4).mono ?_
 rintro e u' W5 ⟨rfl, rfl, rfl⟩
 refine ⟨_, res_att rfl _ rfl rfl hB2 hRb2, v', ?_, ?_, hBl2⟩
 ·
  rw [if_pos H0.out, H0.out]
 ·
  rw [if_pos H0.out]; exact hO2.low (by omega)
set_option maxRecDepth 100000 in
set_option maxHeartbeats 4000000 in
theorem attempt2_any (cap : Value) (s : Es) (v : Value) (p : Es × Int) (w : World) {lo : Nat} (hl : RSl lkc lo w.heap.size w v s.lk) (hr : s.lk.length * 40 ≤ 140737488355328)
  (hd : ∀ (W : World) (v1 : Value) (B b0 : Nat), Below w.heap.size w W → w.heap.size ≤ B → B < b0 → b0 ≤ W.heap.size → Blk W B 34 (stc s v1) → OwnL b0 W v1 s.lk → Calls Tryz.prog 31 #[.pointer (some ⟨B, 0, none⟩), cap] W (EndL W B b0 p)) :
  Calls Tryz.prog 28 #[stv s v, .func (.func 31) #[] #[cap]] w (AttR s p w) := by
 have HD := Lib.hid hd
 have HL := Lib.hid hl
 clear hd hl
 have hM := Mem.start w
 go_enter_defers Tryz.func28, Tryz.ntmps28
 go_upto_region 0 with fail
 refine wp_region_fromM (fun W => Mem w none [] W) hM ?_
 clear hM
 rintro Y1 hM
 refine rF (some 2) (pt Y1.heap.size 0) (Y1.alloc (.cells (stc s v).toArray 34)) ?_
 replace hM := hM.alloc 34 (stc s v)
 generalize World.alloc _ _ = Y2 at *
 generalize hNe : Y1.heap.size = P at *
 clear hNe
 have hP0 := hM.a0.lt
 refine rF (some 4) (pt Y2.heap.size 0) (Y2.alloc (.cells (stc zS nilV).toArray 34)) ?_
 replace hM := hM.alloc 34 (stc zS nilV)
 generalize World.alloc _ _ = Y3 at *
 generalize hNe : Y2.heap.size = Q at *
 clear hNe
 have hQ0 := hM.a0.lt
 refine rF (some 5) (pt Y3.heap.size 0) (Y3.alloc (.cells ([.int .i64 0]).toArray 42)) ?_
 replace hM := hM.alloc 42 ([.int .i64 0])
 generalize World.alloc _ _ = Y4 at *
 generalize hNe : Y3.heap.size = R at *
 clear hNe
 refine eF ?_
 have hQP : P < Q := (List.pairwise_cons.1 (List.pairwise_cons.1 hM.2.1).2).1 _ (List.mem_singleton.2 rfl)
 have hRQ : Q < R := (List.pairwise_cons.1 hM.2.1).1 _ (List.mem_cons_self ..)
 clear hP0 hQ0
 go_upto_region 1 with fail
 refine wp_region_fromM _ hM ?_
 clear hM
 rintro Y5 hM
 refine tF 1 [.v 0 6 (.func (.func 57) #[] #[.pointer (some ⟨P, 0, none⟩), .pointer (some ⟨Q, 0, none⟩), .pointer (some ⟨R, 0, none⟩)])] trivial ?_
 refine wpFrom_defer (d := { target := .fn (.func 57) #[.pointer (some ⟨P, 0, none⟩), .pointer (some ⟨Q, 0, none⟩), .pointer (some ⟨R, 0, none⟩)], args := #[] }) (by kernel_rfl) ?_
 refine eF ?_
 go_upto_region 2 with fail
 refine wp_region_fromM _ hM ?_
 clear hM
 rintro Y6 hM
 refine tF 1 [.l 0 7 34 (pt P 0) (stv (s) (v))] ⟨ld_st hM.a2, trivial⟩ ?_
 refine cF (some 8) 27 #[stv (s) (v)] ((own_any s v _ (HL.out.below hM.b (Nat.le_refl _)) hM.size hr).mono ?_)
 rintro e W1 ⟨v1, rfl, hO, hb⟩
 have hRl := hM.a0.lt
 replace hM := hM.below hb
 have hb1 := hb.size
 clear hb
 have hg1 := grownBy_row W1 Q (stc s v1).toArray
 replace hO := hO.grown (Nat.lt_trans hRQ hRl) hg1
 refine sF _ _ _ (sto_st hM.a1 (stc_len _ _) s hO.one.1) ?_
 replace hM := hM.set 1 (cs' := stc s v1) rfl rfl
 generalize World.setRow _ _ _ = Y7 at *
 refine eF ?_
 have hbw := Nat.le_trans hb1 hg1.size
 clear hg1 hb1
 go_upto_region 3 with fail
 refine wp_region_fromM (fun W => Mem w none [(R, 42, [.int .i64 0]), (Q, 34, stc s v1), (P, 34, stc s v)] W ∧ OwnL Y6.heap.size W v1 s.lk ∧ Y6.heap.size ≤ W.heap.size) ⟨hM, hO, hbw⟩ ?_
 clear hM hO hbw
 rintro Y8 ⟨hM, hO, hbw⟩
 refine tF 1 [.v 0 9 (.func (.func 31) #[] #[cap])] trivial ?_
 generalize hb0 : Y6.heap.size = b0 at *
 clear hb0
 refine cF (some 10) _ _ ((HD.out Y8 v1 Q b0 hM.b (hM.ge 1 rfl (by simp)) (Nat.lt_trans hRQ hRl) hbw hM.a1 hO).mono ?_)
 rintro e W2 h
 have hPb := Turn.blk (k := P) (b0 := b0) (B := Q) h.1 (by omega) (by omega) hM.a2
 have hRb := Turn.blk (k := R) (b0 := b0) (B := Q) h.1 hRl (by omega) hM.a0
 have hge := hM.ge 2 rfl (by simp)
 have hBl : Below w.heap.size w W2 := ⟨h.1.1.trans hM.b.os, h.1.2.1.trans hM.b.tape, h.1.2.2.1.trans hM.b.output, Nat.le_trans hM.b.size h.1.2.2.2.1, fun k hk => (h.1.2.2.2.2 k (by omega) (by omega)).trans (hM.b.block k hk)⟩
 rcases h.two with ⟨h0, rfl, _, v', hB, hO'⟩ | ⟨h0, rfl, _, hN⟩
 case inr =>
  refine leaves_cons (f := 57) (args := #[.pointer (some ⟨P, 0, none⟩), .pointer (some ⟨Q, 0, none⟩), .pointer (some ⟨R, 0, none⟩)]) (by simp) (by kernel_rfl) ?_
  refine (catch_any p.2 s v hQP hRQ W2 hPb hN hRb (HL.out.below hBl (Nat.le_refl _)) hBl.size hr).mono ?_
  rintro e u' W3 ⟨rfl, rfl, v2, hQ3, hR3, hO3, hB3⟩
  refine ⟨_, res_att rfl _ rfl rfl hQ3 hR3, v2, ?_, ?_, ?_⟩
  ·
   rw [if_neg h0]
  ·
   rw [if_neg h0]; exact hO3.low hBl.size
  ·
   exact hBl.trans (hB3.mono hge) 
 refine eF ?_
 clear h hO hM
 go_upto_region 4 with fail
 refine wp_region_from ?_
 refine tF 1 [.l 0 11 34 (pt Q 0) (stv p.1 v')] ⟨ld_st hB, trivial⟩ ?_
 have hg1 := grownBy_row W2 Q (stc p.1 v').toArray
 have hB1 := hB.row (stc p.1 v')
 have hRb1 := hRb.rowO (stc p.1 v').toArray (show R ≠ Q by omega)
 have hO1 := hO'.grown (show Q < b0 by omega) hg1
 have hBl1 := hBl.grown hg1 hBl.size (fun e he => by cases he; omega)
 refine sF _ _ _ (sto_st hB (stc_len _ _) p.1 hO'.one.1) ?_
 generalize W2.setRow Q (stc p.1 v').toArray = W3 at *
 have hg2 := grownBy_row W3 R [.int .i64 0].toArray
 have hB2 := hB1.rowO [.int .i64 0].toArray (show Q ≠ R by omega)
 have hRb2 := hRb1.row [.int .i64 0]
 have hO2 := hO1.grown hRl hg2
 have hBl2 := hBl1.grown hg2 hBl1.size (fun e he => by cases he; omega)
 refine sF _ _ _ (sto_er hRb1 0) ?_
 generalize W3.setRow R [.int .i64 0].toArray = W4 at *
 refine eF ?_
 have H0 := Lib.hid h0
 clear h0 hg1 hg2
 go_wp2_with fail
 refine leaves_cons (f := 57) (args := #[.pointer (some ⟨P, 0, none⟩), .pointer (some ⟨Q, 0, none⟩), .pointer (some ⟨R, 0, none⟩)]) (by simp) (by kernel_rfl) ?_
 refine (catch_idle _ _ _ W4).mono ?_
 rintro e u' W5 ⟨rfl, rfl, rfl⟩
 refine ⟨_, res_att rfl _ rfl rfl hB2 hRb2, v', ?_, ?_, hBl2⟩
 ·
  rw [if_pos H0.out, H0.out]
 ·
  rw [if_pos H0.out]; exact hO2.low (by omega)
end Go.Proofs.YthhmdgmmeedhdaaGreat
namespace Go.Proofs.YthhmdgmmeedhdaaGreat
open Go.RowKit Go.Shelf
theorem AttR.ok {s : Es} {p : Es × Int} {w W' : World} {e : Ending} (h : AttR s p w e W') (hp : p.2 = 0) : ∃ v', e = .returned (.tuple #[stv p.1 v', .int .i64 0]) ∧ OwnL w.heap.size W' v' p.1.lk ∧ Below w.heap.size w W' := by
 obtain ⟨v', h1, h2, h3⟩ := h
 rw [if_pos hp, hp] at h1
 rw [if_pos hp] at h2
 exact ⟨v', h1, h2, h3⟩
theorem AttR.no {s : Es} {p : Es × Int} {w W' : World} {e : Ending} (h : AttR s p w e W') (hp : p.2 ≠ 0) : ∃ v', e = .returned (.tuple #[stv s v', .int .i64 p.2]) ∧ OwnL w.heap.size W' v' s.lk ∧ Below w.heap.size w W' := by
 obtain ⟨v', h1, h2, h3⟩ := h
 rw [if_neg hp] at h1 h2
 exact ⟨v', h1, h2, h3⟩
theorem chg_ok {s : Es} {t : Tr} (hs : OkE s) (h : (chgE s t).2 = 0) : errT t = 0 ∧ OkE (chgE s t).1 ∧ (chgE s t).1.lk = s.lk := by
 unfold chgE at h ⊢
 by_cases e1 : errT t ≠ 0
 ·
  rw [if_pos e1] at h; exact absurd h e1
 ·
  rw [if_neg e1] at h ⊢
  by_cases e2 : t.no ≠ s.no t.fr.toNat
  ·
   rw [if_pos e2] at h; exact absurd h (show ¬ (20 : Int) = 0 by decide)
  ·
   rw [if_neg e2] at h ⊢
   by_cases e3 : (takeB s.pu t.fr 0 1).2 ≠ 0
   ·
    rw [if_pos e3] at h; exact absurd h (show ¬ (21 : Int) = 0 by decide)
   ·
    rw [if_neg e3] at h ⊢
    by_cases e4 : ¬ s.bu + 1 < M4
    ·
     rw [if_pos e4] at h; exact absurd h (show ¬ (21 : Int) = 0 by decide)
    ·
     rw [if_neg e4]
     exact ⟨Decidable.not_not.1 e1, ⟨hs.t0, hs.t1, hs.d, okK_take hs.p _ _ _, hs.v, hs.h, Decidable.not_not.1 e4⟩, rfl⟩
theorem apply1_any (s : Es) (v : Value) (hs : OkE s) (t : Tr) {B b0 X : Nat} (w : World) (hBb : B < b0) (hb0 : b0 ≤ w.heap.size) (hB : Blk w B 34 (stc s v)) (ho : OwnL b0 w v s.lk) (hX : Blk w X 50 (txc t)) :
  Calls Tryz.prog 29 #[.pointer (some ⟨B, 0, none⟩), .pointer (some ⟨X, 0, none⟩)] w (EndL w B b0 (chgE s t)) := by
 go_enter Tryz.func29, Tryz.ntmps29
 go_upto_region 0 with fail
 refine wp_region_from ?_
 refine tF 2 [.v 0 3 (pt B 0), .l 1 4 50 (pt X 0) (txv t)] ⟨ld_tx hX, trivial⟩ ?_
 refine cF (some 5) _ _ ((charge_any s v hs t w hB).mono ?_)
 rintro e W1 h
 have fin : EndL w B b0 (chgE s t) e W1 := by
  by_cases h0 : (chgE s t).2 = 0
  ·
   exact EndL.of (grownBy_refl w _) hb0 hBb (by rw [(chg_ok hs h0).2.2]; exact ho) h rfl
  ·
   exact EndL.fail (grownBy_refl w _) hb0 h h0 rfl
 rcases h.two with ⟨h0, rfl, _, _⟩ | ⟨h0, rfl, _⟩
 case inr => exact And.intro rfl fin
 clear h h0
 refine eF ?_
 go_wp2_with fail
 go_end0
 exact fin
theorem apply2_any (s : Es) (v : Value) (hs : OkE s) (t : Tr) (ht : OkT t) (he : errT t = 0) {B b0 X : Nat} (w : World) (hBb : B < b0) (hb0 : b0 ≤ w.heap.size) (hB : Blk w B 34 (stc s v)) (ho : OwnL b0 w v s.lk) (hr : (s.lk.length + 1) * 40 ≤ 140737488355328) (hX : Blk w X 50 (txc t)) :
  Calls Tryz.prog 31 #[.pointer (some ⟨B, 0, none⟩), .pointer (some ⟨X, 0, none⟩)] w (EndL w B b0 (doP s t)) := by
 go_enter Tryz.func31, Tryz.ntmps31
 go_upto_region 0 with fail
 refine wp_region_from ?_
 refine tF 2 [.v 0 3 (pt B 0), .l 1 4 50 (pt X 0) (txv t)] ⟨ld_tx hX, trivial⟩ ?_
 refine cF (some 5) _ _ ((do_any s v hs t ht he w hBb hb0 hB ho hr).mono ?_)
 rintro e W1 h
 have fin := h
 rcases h.two with ⟨h0, rfl, _, _⟩ | ⟨h0, rfl, _⟩
 case inr => exact And.intro rfl fin
 clear h h0
 refine eF ?_
 go_wp2_with fail
 go_end0
 exact fin
def applyP (s : Es) (t : Tr) : Es × Int × Bool :=
 if (chgE s t).2 ≠ 0 then (s, (chgE s t).2, false) else if (doP (chgE s t).1 t).2 ≠ 0 then ((chgE s t).1, (doP (chgE s t).1 t).2, true) else ((doP (chgE s t).1 t).1, 0, true)
def ApplyR (p : Es × Int × Bool) (w : World) (e : Ending) (W' : World) : Prop := ∃ v', e = .returned (.tuple #[stv p.1 v', .int .i64 p.2.1, .bool p.2.2]) ∧ OwnL w.heap.size W' v' p.1.lk ∧ Below w.heap.size w W'
theorem res_app {fn : Func} {p q r : Tmp} (h : fn.results = #[.cell p 34, .tmp q, .tmp r]) (tmps : Array Value) {w : World} {g : Nat} {T : TypeId} {s : Es} {v a b : Value} (hp : tmps.getD p undef = .pointer (some ⟨g, 0, none⟩)) (hq : tmps.getD q undef = a) (hr : tmps.getD r undef = b) (hg : Blk w g T (stc s v)) :
  (results fn tmps).run Tryz.prog w = .ok (.tuple #[stv s v, a, b]) w := by
 have hp' : tmps[p]?.getD undef = .pointer (some ⟨g, 0, none⟩) := by simpa using hp
 have hq' : tmps[q]?.getD undef = a := by simpa using hq
 have hr' : tmps[r]?.getD undef = b := by simpa using hr
 simp [results, h, hp', hq', hr', asAddr, run_loadVar_row w g T 34 (stc s v).toArray (0, 0) _ hg Tryz.underlying34 rfl (by rw [List.size_toArray, stc_len]; exact info_st)]
theorem OwnL.row {b B : Nat} {W : World} {v : Value} {l : List Lk} (h : OwnL b W v l) (hne : ∀ k, v.ownBlock = some k → k ≠ B) (cs : Array Value) : OwnL b (W.setRow B cs) v l := by
 refine h.kept (grownBy_row W B cs) ?_
 cases hv : v.ownBlock with
 | none => exact .inl rfl
 | some k => exact .inr fun e => hne k hv (Option.some.inj e)
set_option maxRecDepth 100000 in
set_option maxHeartbeats 4000000 in
theorem esc_apply_any (s : Es) (v : Value) (hs : OkE s) (t : Tr) (ht : OkT t) (w : World) {lo hi : Nat} (hl : RSl lkc lo hi w v s.lk) (hhi : hi ≤ w.heap.size) (hr : (s.lk.length + 1) * 40 ≤ 140737488355328) :
  Calls Tryz.prog 12 #[stv s v, txv t] w (ApplyR (applyP s t) w) := by
 have HL := Lib.hid hl
 clear hl
 have hM := Mem.start w
 go_enter Tryz.func12, Tryz.ntmps12
 go_upto_region 0 with fail
 refine wp_region_fromM (fun W => Mem w none [] W) hM ?_
 clear hM
 rintro Y1 hM
 refine rF (some 2) (pt Y1.heap.size 0) (Y1.alloc (.cells (stc s v).toArray 34)) ?_
 replace hM := hM.alloc 34 (stc s v)
 generalize World.alloc _ _ = Y2 at *
 generalize hNe : Y1.heap.size = P at *
 clear hNe
 refine rF (some 3) (pt Y2.heap.size 0) (Y2.alloc (.cells (txc t).toArray 50)) ?_
 replace hM := hM.alloc 50 (txc t)
 generalize World.alloc _ _ = Y3 at *
 generalize hNe : Y2.heap.size = X at *
 clear hNe
 refine rF (some 4) (pt Y3.heap.size 0) (Y3.alloc (.cells (stc zS nilV).toArray 34)) ?_
 replace hM := hM.alloc 34 (stc zS nilV)
 generalize World.alloc _ _ = Y4 at *
 generalize hNe : Y3.heap.size = R at *
 clear hNe
 refine tF 5 [.v 3 5 (.int .i64 0), .v 4 6 (.bool false)] trivial ?_
 refine eF ?_
 by_cases hc : (chgE s t).2 = 0
 case neg =>
  have HC := Lib.hid hc
  clear hc
  go_upto_region 1 with fail
  refine wp_region_fromM _ hM ?_
  clear hM
  rintro Y5 hM
  refine tF 2 [.l 0 11 34 (pt P 0) (stv (s) (v)), .v 1 12 (.func (.func 29) #[] #[.pointer (some ⟨X, 0, none⟩)])] ⟨ld_st hM.a2, trivial⟩ ?_
  refine cF (some 13) _ _ ((((attempt1_any (.pointer (some ⟨X, 0, none⟩)) s v (chgE s t) Y5 ((HL.out.below hM.b hhi).wide (Nat.le_trans hhi hM.size)) (by omega) (fun W v1 B b0 hW hB1 hBb hb0 hB ho => apply1_any s v1 hs t W hBb hb0 hB ho (hM.a1.below hW hM.a1.lt))).mono fun _ _ h => h.no HC.out)).mono ?_)
  rintro e W1 ⟨v1, rfl, hO, hb⟩
  have hRY := hM.a0.lt
  have hk1 := fun k hk => hO.lt k hk
  replace hO := hO.low hM.size
  replace hM := hM.below hb
  clear hb
  replace hO := hO.alloc (.cells (stc zS nilV).toArray 34)
  refine tF 6 [.v 3 10 (.tuple #[stv (s) v1, .int .i64 (chgE s t).2]), .v 4 14 (stv (s) v1), .v 5 15 (.int .i64 (chgE s t).2)] trivial ?_
  refine rF (some 7) (pt W1.heap.size 0) (W1.alloc (.cells (stc zS nilV).toArray 34)) ?_
  replace hM := hM.alloc 34 (stc zS nilV)
  generalize World.alloc _ _ = Y6 at *
  generalize hNe : W1.heap.size = N at *
  clear hNe
  have hO1 := OwnL.row hO (B := N) (fun k hk => by have := hk1 k hk; omega) (stc (s) v1).toArray
  refine sF _ _ _ (sto_st hM.a0 (stc_len _ _) (s) (OwnL.one hO).1) ?_
  replace hM := hM.set 0 (cs' := stc (s) v1) rfl rfl
  generalize World.setRow _ _ _ = Y7 at *
  replace hO := hO1
  clear hO1
  refine tF 9 [.v 8 8 (.int .i64 (chgE s t).2)] trivial ?_
  refine eF ?_
  go_upto_region 2 with fail
  refine wp_region_fromM (fun W => Mem w none [(N, 34, stc (s) v1), (R, 34, stc zS nilV), (X, 50, txc t), (P, 34, stc s v)] W ∧ OwnL w.heap.size W v1 (s).lk) ⟨hM, hO⟩ ?_
  clear hM hO
  rintro Y8 ⟨hM, hO⟩
  refine tF 2 [.v 0 16 (.int .i64 (chgE s t).2), .a 1 17 (.bool ((chgE s t).2 != 0)) (.bool true)] ⟨cB (bne_iff_ne.2 HC.out), trivial⟩ ?_
  refine eF ?_
  go_upto_region 3 with fail
  refine wp_region_fromM (fun W => Mem w none [(N, 34, stc (s) v1), (R, 34, stc zS nilV), (X, 50, txc t), (P, 34, stc s v)] W ∧ OwnL w.heap.size W v1 (s).lk) ⟨hM, hO⟩ ?_
  clear hM hO
  rintro Y9 ⟨hM, hO⟩
  refine tF 2 [.l 0 18 34 (pt N 0) (stv (s) (v1)), .v 1 19 (.int .i64 (chgE s t).2)] ⟨ld_st hM.a0, trivial⟩ ?_
  have hO1 := OwnL.row hO (B := R) (fun k hk => by have := hk1 k hk; omega) (stc s v1).toArray
  refine sF _ _ _ (sto_st hM.a1 (stc_len _ _) s (OwnL.one hO).1) ?_
  replace hM := hM.set 1 (cs' := stc s v1) rfl rfl
  generalize World.setRow _ _ _ = Y10 at *
  refine tF 5 [.v 3 5 (.int .i64 (chgE s t).2), .v 4 6 (.bool false)] trivial ?_
  refine eF ?_
  have hO2 := hO1
  clear hk1
  go_wp2_with fail
  exact bodyPost_ret (v := .tuple #[stv s v1, .int .i64 (chgE s t).2, .bool false]) (res_app rfl _ rfl rfl rfl hM.a1) rfl ⟨v1, by unfold applyP; rw [if_pos HC.out], by unfold applyP; rw [if_pos HC.out]; exact hO2, hM.b⟩
 have HC := Lib.hid hc
 clear hc
 go_upto_region 1 with fail
 refine wp_region_fromM _ hM ?_
 clear hM
 rintro Y11 hM
 refine tF 2 [.l 0 11 34 (pt P 0) (stv (s) (v)), .v 1 12 (.func (.func 29) #[] #[.pointer (some ⟨X, 0, none⟩)])] ⟨ld_st hM.a2, trivial⟩ ?_
 refine cF (some 13) _ _ ((((attempt1_any (.pointer (some ⟨X, 0, none⟩)) s v (chgE s t) Y11 ((HL.out.below hM.b hhi).wide (Nat.le_trans hhi hM.size)) (by omega) (fun W v1 B b0 hW hB1 hBb hb0 hB ho => apply1_any s v1 hs t W hBb hb0 hB ho (hM.a1.below hW hM.a1.lt))).mono fun _ _ h => h.ok HC.out)).mono ?_)
 rintro e W1 ⟨v1, rfl, hO, hb⟩
 have hRY := hM.a0.lt
 have hk1 := fun k hk => hO.lt k hk
 replace hO := hO.low hM.size
 replace hM := hM.below hb
 clear hb
 replace hO := hO.alloc (.cells (stc zS nilV).toArray 34)
 refine tF 6 [.v 3 10 (.tuple #[stv ((chgE s t).1) v1, .int .i64 0]), .v 4 14 (stv ((chgE s t).1) v1), .v 5 15 (.int .i64 0)] trivial ?_
 refine rF (some 7) (pt W1.heap.size 0) (W1.alloc (.cells (stc zS nilV).toArray 34)) ?_
 replace hM := hM.alloc 34 (stc zS nilV)
 generalize World.alloc _ _ = Y12 at *
 generalize hNe : W1.heap.size = N at *
 clear hNe
 have hO1 := OwnL.row hO (B := N) (fun k hk => by have := hk1 k hk; omega) (stc ((chgE s t).1) v1).toArray
 refine sF _ _ _ (sto_st hM.a0 (stc_len _ _) ((chgE s t).1) (OwnL.one hO).1) ?_
 replace hM := hM.set 0 (cs' := stc ((chgE s t).1) v1) rfl rfl
 generalize World.setRow _ _ _ = Y13 at *
 replace hO := hO1
 clear hO1
 refine tF 9 [.v 8 8 (.int .i64 0)] trivial ?_
 refine eF ?_
 go_upto_region 2 with fail
 refine wp_region_fromM (fun W => Mem w none [(N, 34, stc ((chgE s t).1) v1), (R, 34, stc zS nilV), (X, 50, txc t), (P, 34, stc s v)] W ∧ OwnL w.heap.size W v1 ((chgE s t).1).lk) ⟨hM, hO⟩ ?_
 clear hM hO
 rintro Y14 ⟨hM, hO⟩
 refine tF 2 [.v 0 16 (.int .i64 0), .v 1 17 (.bool false)] trivial ?_
 refine eF ?_
 obtain ⟨he, hs1, hlk⟩ := chg_ok hs HC.out
 by_cases hd : (doP (chgE s t).1 t).2 = 0
 case pos =>
  have HD := Lib.hid hd
  clear hd
  go_upto_region 4 with fail
  refine wp_region_fromM (fun W => Mem w none [(N, 34, stc ((chgE s t).1) v1), (R, 34, stc zS nilV), (X, 50, txc t), (P, 34, stc s v)] W ∧ OwnL w.heap.size W v1 ((chgE s t).1).lk) ⟨hM, hO⟩ ?_
  clear hM hO
  rintro Y15 ⟨hM, hO⟩
  refine tF 2 [.l 0 21 34 (pt N 0) (stv ((chgE s t).1) (v1)), .v 1 22 (.func (.func 31) #[] #[.pointer (some ⟨X, 0, none⟩)])] ⟨ld_st hM.a0, trivial⟩ ?_
  refine cF (some 23) _ _ ((((attempt2_any (.pointer (some ⟨X, 0, none⟩)) (chgE s t).1 v1 (doP (chgE s t).1 t) Y15 (OwnL.rsl hO) (by rw [hlk]; omega) (fun W v2 B b0 hW hB1 hBb hb0 hB ho => apply2_any (chgE s t).1 v2 hs1 t ht he W hBb hb0 hB ho (by rw [hlk]; exact hr) (hM.a2.below hW hM.a2.lt))).mono fun _ _ h => h.ok HD.out)).mono ?_)
  rintro e W1 ⟨v2, rfl, hO, hb⟩
  have hRY2 := hM.a1.lt
  have hk2 := fun k hk => hO.lt k hk
  replace hO := hO.low hM.size
  replace hM := hM.below hb
  clear hb
  replace hO := hO.alloc (.cells (stc zS nilV).toArray 34)
  refine tF 6 [.v 3 20 (.tuple #[stv ((doP (chgE s t).1 t).1) v2, .int .i64 0]), .v 4 24 (stv ((doP (chgE s t).1 t).1) v2), .v 5 25 (.int .i64 0)] trivial ?_
  refine rF (some 9) (pt W1.heap.size 0) (W1.alloc (.cells (stc zS nilV).toArray 34)) ?_
  replace hM := hM.alloc 34 (stc zS nilV)
  generalize World.alloc _ _ = Y16 at *
  generalize hNe : W1.heap.size = N2 at *
  clear hNe
  have hO1 := OwnL.row hO (B := N2) (fun k hk => by have := hk2 k hk; omega) (stc ((doP (chgE s t).1 t).1) v2).toArray
  refine sF _ _ _ (sto_st hM.a0 (stc_len _ _) ((doP (chgE s t).1 t).1) (OwnL.one hO).1) ?_
  replace hM := hM.set 0 (cs' := stc ((doP (chgE s t).1 t).1) v2) rfl rfl
  generalize World.setRow _ _ _ = Y17 at *
  replace hO := hO1
  clear hO1
  refine tF 9 [.v 8 8 (.int .i64 0)] trivial ?_
  refine eF ?_
  go_upto_region 5 with fail
  refine wp_region_fromM (fun W => Mem w none [(N2, 34, stc ((doP (chgE s t).1 t).1) v2), (N, 34, stc ((chgE s t).1) v1), (R, 34, stc zS nilV), (X, 50, txc t), (P, 34, stc s v)] W ∧ OwnL w.heap.size W v2 ((doP (chgE s t).1 t).1).lk) ⟨hM, hO⟩ ?_
  clear hM hO
  rintro Y18 ⟨hM, hO⟩
  refine tF 2 [.l 0 26 34 (pt N2 0) (stv ((doP (chgE s t).1 t).1) (v2)), .v 1 27 (.int .i64 0)] ⟨ld_st hM.a0, trivial⟩ ?_
  have hO1 := OwnL.row hO (B := R) (fun k hk => by have := hk2 k hk; omega) (stc ((doP (chgE s t).1 t).1) v2).toArray
  refine sF _ _ _ (sto_st hM.a2 (stc_len _ _) ((doP (chgE s t).1 t).1) (OwnL.one hO).1) ?_
  replace hM := hM.set 2 (cs' := stc ((doP (chgE s t).1 t).1) v2) rfl rfl
  generalize World.setRow _ _ _ = Y19 at *
  refine tF 5 [.v 3 5 (.int .i64 0), .v 4 6 (.bool true)] trivial ?_
  refine eF ?_
  have hO2 := hO1
  clear hk1 hk2
  go_wp2_with fail
  exact bodyPost_ret (v := .tuple #[stv ((doP (chgE s t).1 t).1) v2, .int .i64 0, .bool true]) (res_app rfl _ rfl rfl rfl hM.a2) rfl ⟨v2, by unfold applyP; rw [if_neg (not_not_intro HC.out), if_neg (not_not_intro HD.out)], by unfold applyP; rw [if_neg (not_not_intro HC.out), if_neg (not_not_intro HD.out)]; exact hO2, hM.b⟩
 have HD := Lib.hid hd
 clear hd
 go_upto_region 4 with fail
 refine wp_region_fromM (fun W => Mem w none [(N, 34, stc ((chgE s t).1) v1), (R, 34, stc zS nilV), (X, 50, txc t), (P, 34, stc s v)] W ∧ OwnL w.heap.size W v1 ((chgE s t).1).lk) ⟨hM, hO⟩ ?_
 clear hM hO
 rintro Y20 ⟨hM, hO⟩
 refine tF 2 [.l 0 21 34 (pt N 0) (stv ((chgE s t).1) (v1)), .v 1 22 (.func (.func 31) #[] #[.pointer (some ⟨X, 0, none⟩)])] ⟨ld_st hM.a0, trivial⟩ ?_
 refine cF (some 23) _ _ ((((attempt2_any (.pointer (some ⟨X, 0, none⟩)) (chgE s t).1 v1 (doP (chgE s t).1 t) Y20 (OwnL.rsl hO) (by rw [hlk]; omega) (fun W v2 B b0 hW hB1 hBb hb0 hB ho => apply2_any (chgE s t).1 v2 hs1 t ht he W hBb hb0 hB ho (by rw [hlk]; exact hr) (hM.a2.below hW hM.a2.lt))).mono fun _ _ h => h.no HD.out)).mono ?_)
 rintro e W1 ⟨v2, rfl, hO, hb⟩
 have hRY2 := hM.a1.lt
 have hk2 := fun k hk => hO.lt k hk
 replace hO := hO.low hM.size
 replace hM := hM.below hb
 clear hb
 replace hO := hO.alloc (.cells (stc zS nilV).toArray 34)
 refine tF 6 [.v 3 20 (.tuple #[stv ((chgE s t).1) v2, .int .i64 (doP (chgE s t).1 t).2]), .v 4 24 (stv ((chgE s t).1) v2), .v 5 25 (.int .i64 (doP (chgE s t).1 t).2)] trivial ?_
 refine rF (some 9) (pt W1.heap.size 0) (W1.alloc (.cells (stc zS nilV).toArray 34)) ?_
 replace hM := hM.alloc 34 (stc zS nilV)
 generalize World.alloc _ _ = Y21 at *
 generalize hNe : W1.heap.size = N2 at *
 clear hNe
 have hO1 := OwnL.row hO (B := N2) (fun k hk => by have := hk2 k hk; omega) (stc ((chgE s t).1) v2).toArray
 refine sF _ _ _ (sto_st hM.a0 (stc_len _ _) ((chgE s t).1) (OwnL.one hO).1) ?_
 replace hM := hM.set 0 (cs' := stc ((chgE s t).1) v2) rfl rfl
 generalize World.setRow _ _ _ = Y22 at *
 replace hO := hO1
 clear hO1
 refine tF 9 [.v 8 8 (.int .i64 (doP (chgE s t).1 t).2)] trivial ?_
 refine eF ?_
 go_upto_region 5 with fail
 refine wp_region_fromM (fun W => Mem w none [(N2, 34, stc ((chgE s t).1) v2), (N, 34, stc ((chgE s t).1) v1), (R, 34, stc zS nilV), (X, 50, txc t), (P, 34, stc s v)] W ∧ OwnL w.heap.size W v2 ((chgE s t).1).lk) ⟨hM, hO⟩ ?_
 clear hM hO
 rintro Y23 ⟨hM, hO⟩
 refine tF 2 [.l 0 26 34 (pt N2 0) (stv ((chgE s t).1) (v2)), .v 1 27 (.int .i64 (doP (chgE s t).1 t).2)] ⟨ld_st hM.a0, trivial⟩ ?_
 have hO1 := OwnL.row hO (B := R) (fun k hk => by have := hk2 k hk; omega) (stc ((chgE s t).1) v2).toArray
 refine sF _ _ _ (sto_st hM.a2 (stc_len _ _) ((chgE s t).1) (OwnL.one hO).1) ?_
 replace hM := hM.set 2 (cs' := stc ((chgE s t).1) v2) rfl rfl
 generalize World.setRow _ _ _ = Y24 at *
 refine tF 5 [.v 3 5 (.int .i64 (doP (chgE s t).1 t).2), .v 4 6 (.bool true)] trivial ?_
 refine eF ?_
 have hO2 := hO1
 clear hk1 hk2
 go_wp2_with fail
 exact bodyPost_ret (v := .tuple #[stv ((chgE s t).1) v2, .int .i64 (doP (chgE s t).1 t).2, .bool true]) (res_app rfl _ rfl rfl rfl hM.a2) rfl ⟨v2, by unfold applyP; rw [if_neg (not_not_intro HC.out), if_pos HD.out], by unfold applyP; rw [if_neg (not_not_intro HC.out), if_pos HD.out]; exact hO2, hM.b⟩
end Go.Proofs.YthhmdgmmeedhdaaGreat
namespace Go.Proofs.YthhmdgmmeedhdaaGreat
open Go.RowKit Go.Shelf
theorem take_or {b : Bk} {a s : Int} {n : Nat} (h : atS a s) : (takeB b a s n).2 = 0 ∨ (takeB b a s n).2 = 30 := by
 by_cases k : n ≤ b (slotS a s)
 ·
  exact .inl (by rw [takeB_yes h k])
 ·
  exact .inr (by rw [takeB_low h k])
theorem give_or {b : Bk} {a s : Int} {n : Nat} (h : atS a s) : (giveB b a s n).2 = 0 ∨ (giveB b a s n).2 = 38 := by
 by_cases k : b (slotS a s) + n < M4
 ·
  exact .inl (by rw [giveB_yes h k])
 ·
  exact .inr (by rw [giveB_over h k])
theorem n30 : (30 : Int) ≠ 0 := by decide
theorem n38 : (38 : Int) ≠ 0 := by decide
theorem n31 : (31 : Int) ≠ 0 := by decide
theorem grow_yes {s : Es} {a n : Nat} (h : s.he a + n < M4) : growE s a n = ({ s with he := updB s.he a (s.he a + n) }, 0) := if_pos h
theorem grow_no {s : Es} {a n : Nat} (h : ¬ s.he a + n < M4) : growE s a n = (s, 38) := if_neg h
theorem shrink_yes {s : Es} {a n : Nat} (h : n ≤ s.he a) : shrinkE s a n = ({ s with he := updB s.he a (s.he a - n) }, 0) := if_pos h
theorem shrink_no {s : Es} {a n : Nat} (h : ¬ n ≤ s.he a) : shrinkE s a n = (s, 38) := if_neg h
theorem unv_yes {s : Es} {r a : Int} {n : Nat} (h : (takeB s.va r a n).2 = 0) : unvE s r a n = ({ s with va := (takeB s.va r a n).1 }, 0) := if_neg (not_not_intro h)
theorem unv_no {s : Es} {r a : Int} {n : Nat} (h : (takeB s.va r a n).2 ≠ 0) : unvE s r a n = (s, 31) := if_pos h
def Eq0 (p q : Es × Int) : Prop := p.2 = q.2 ∧ (q.2 = 0 → p.1 = q.1)
theorem Eq0.of {p q : Es × Int} (h : p = q) : Eq0 p q := by subst h; exact ⟨rfl, fun _ => rfl⟩
theorem Eq0.bad {p q : Es × Int} {c : Int} (hc : c ≠ 0) (hp : p.2 = c) (hq : q.2 = c) : Eq0 p q := ⟨by rw [hp, hq], fun h => absurd (hq.symm.trans h) hc⟩
theorem pay_eq {s : Es} {t : Tr} (h : errT t = 0) (k : t.kd = 1) : Eq0 (payP s t) (plainE s t) := by
 obtain ⟨_, fr, _, az, hm, _⟩ := errT_all h
 have tt := errM_to (hm (by omega)) k
 have a1 : atS t.fr t.az := ⟨by omega, by omega⟩
 have a2 : atS t.iv.to t.az := ⟨by omega, by omega⟩
 unfold plainE
 rw [if_pos k]
 unfold payP
 rcases take_or (b := s.pu) (n := amT t) a1 with h1 | h1
 ·
  rcases give_or (b := (takeB s.pu t.fr t.az (amT t)).1) (n := amT t) a2 with h2 | h2
  ·
   rw [moveB_yes h1 h2, if_neg (by simp), if_neg (not_not_intro h1), if_neg (not_not_intro h2)]
   exact Eq0.of rfl
  ·
   rw [moveB_over h1 (by rw [h2]; exact n38), if_pos (by show (giveB _ _ _ _).2 ≠ 0; rw [h2]; exact n38), if_neg (not_not_intro h1), if_pos (by rw [h2]; exact n38)]
   exact Eq0.bad n38 h2 rfl
 ·
  rw [moveB_low (by rw [h1]; exact n30), if_pos (by show (takeB _ _ _ _).2 ≠ 0; rw [h1]; exact n30), if_pos (by rw [h1]; exact n30)]
  exact Eq0.bad n30 h1 rfl
theorem dep_eq {s : Es} {t : Tr} (h : errT t = 0) (k : t.kd = 2) : Eq0 (depE s t) (plainE s t) := by
 obtain ⟨_, fr, _, az, hm, _⟩ := errT_all h
 have ro := errM_ro (hm (by omega)) k
 have a1 : atS t.fr t.az := ⟨by omega, by omega⟩
 have a2 : atS t.iv.ro t.az := ⟨by omega, by omega⟩
 unfold plainE
 rw [if_neg (show ¬ t.kd = 1 by omega), if_pos k]
 unfold depE
 rcases take_or (b := s.pu) (n := amT t) a1 with h1 | h1
 ·
  rw [if_neg (not_not_intro h1), if_neg (not_not_intro h1)]
  rcases give_or (b := s.va) (n := amT t) a2 with h2 | h2
  ·
   rw [if_neg (not_not_intro h2)]
   by_cases h3 : s.he t.az.toNat + amT t < M4
   ·
    rw [grow_yes (s := { s with pu := (takeB s.pu t.fr t.az (amT t)).1, va := (giveB s.va t.iv.ro t.az (amT t)).1 }) h3, if_neg (fun e => e.elim (fun e => e h2) (fun e => e h3))]
    exact Eq0.of rfl
   ·
    rw [grow_no (s := { s with pu := (takeB s.pu t.fr t.az (amT t)).1, va := (giveB s.va t.iv.ro t.az (amT t)).1 }) h3, if_pos (.inr h3)]
    exact Eq0.bad n38 rfl rfl
  ·
   rw [if_pos (by rw [h2]; exact n38), if_pos (.inl (by rw [h2]; exact n38))]
   exact Eq0.bad n38 h2 rfl
 ·
  rw [if_pos (by rw [h1]; exact n30), if_pos (by rw [h1]; exact n30)]
  exact Eq0.bad n30 h1 rfl
theorem wdr_eq {s : Es} {t : Tr} (h : errT t = 0) (k1 : t.kd ≠ 1) (k2 : t.kd ≠ 2) : Eq0 (wdrE s t) (plainE s t) := by
 obtain ⟨_, fr, _, az, _, _⟩ := errT_all h
 have a1 : atS t.fr t.az := ⟨by omega, by omega⟩
 unfold plainE
 rw [if_neg k1, if_neg k2]
 unfold wdrE
 by_cases h0 : 2 ≤ t.fr ∧ t.fr ≤ 3
 ·
  rw [if_neg (not_not_intro h0), if_neg (not_not_intro h0)]
  rcases take_or (b := s.va) (n := amT t) a1 with h1 | h1
  ·
   rw [unv_yes h1, if_neg (by simp), if_neg (not_not_intro h1)]
   rcases give_or (b := s.pu) (n := amT t) a1 with h2 | h2
   ·
    rw [if_neg (not_not_intro h2)]
    by_cases h3 : amT t ≤ s.he t.az.toNat
    ·
     rw [shrink_yes (s := { s with va := (takeB s.va t.fr t.az (amT t)).1, pu := (giveB s.pu t.fr t.az (amT t)).1 }) h3, if_neg (fun e => e.elim (fun e => e h2) (fun e => e h3))]
     exact Eq0.of rfl
    ·
     rw [shrink_no (s := { s with va := (takeB s.va t.fr t.az (amT t)).1, pu := (giveB s.pu t.fr t.az (amT t)).1 }) h3, if_pos (.inr h3)]
     exact Eq0.bad n38 rfl rfl
   ·
    rw [if_pos (by rw [h2]; exact n38), if_pos (.inl (by rw [h2]; exact n38))]
    exact Eq0.bad n38 h2 rfl
  ·
   have h1' : (takeB s.va t.fr t.az (amT t)).2 ≠ 0 := by rw [h1]; exact n30
   rw [unv_no h1', if_pos (show (31 : Int) ≠ 0 by decide), if_pos h1']
   exact Eq0.bad n31 rfl rfl
 ·
  rw [if_pos h0, if_pos h0]
  exact Eq0.of rfl
theorem prep_eq {s : Es} {t : Tr} (hs : OkE s) (h : errF t = 0) : Eq0 (prepP s t) (prepE orcB s t) := by
 obtain ⟨⟨us, _, ro, se, re, _⟩, _, _⟩ := errF_all h
 unfold prepP prepE
 by_cases h0 : (placeE s.lk (keyB t.iv)).isSome
 ·
  rw [if_pos h0, if_pos (show (placeE s.lk (orcB.ke t.iv)).isSome = true from h0)]
  exact Eq0.of rfl
 ·
  rw [if_neg h0, if_neg (show ¬ (placeE s.lk (orcB.ke t.iv)).isSome = true from h0)]
  by_cases h1 : t.vr.x > s.tm ∧ t.vr.x ≤ s.tm + 1024
  ·
   rw [if_neg (not_not_intro h1), if_neg (show ¬ (t.vr.x ≤ s.tm ∨ s.tm + 1024 < t.vr.x) by omega)]
   by_cases h2 : s.sd = 1
   ·
    rw [if_pos (show s.sd > 0 by omega), if_pos h2]
    by_cases h3 : t.fr = t.iv.ro
    ·
     rw [if_neg (not_not_intro h3), if_neg (not_not_intro h3), h3]
     have a1 : atS t.iv.ro t.iv.re := ⟨by omega, by omega⟩
     rcases take_or (b := s.va) (n := amV t) a1 with h4 | h4
     ·
      rw [unv_yes h4, if_neg (by simp), if_neg (not_not_intro h4)]
      exact Eq0.of rfl
     ·
      have h4' : (takeB s.va t.iv.ro t.iv.re (amV t)).2 ≠ 0 := by rw [h4]; exact n30
      rw [unv_no h4', if_pos (show (31 : Int) ≠ 0 by decide), if_pos h4']
      exact Eq0.bad n31 rfl rfl
    ·
     rw [if_pos h3, if_pos h3]
     exact Eq0.of rfl
   ·
    rw [if_neg (show ¬ s.sd > 0 by rcases hs.d with d | d <;> omega), if_neg h2]
    by_cases h3 : t.fr = t.iv.us
    ·
     rw [if_neg (not_not_intro h3), if_neg (not_not_intro h3), h3]
     have a1 : atS t.iv.us t.iv.se := ⟨by omega, by omega⟩
     rcases take_or (b := s.pu) (n := amV t) a1 with h4 | h4
     ·
      rw [if_neg (not_not_intro h4), if_neg (not_not_intro h4)]
      by_cases h5 : s.he t.iv.se.toNat + amV t < M4
      ·
       rw [grow_yes (s := { s with pu := (takeB s.pu t.iv.us t.iv.se (amV t)).1 }) h5, if_neg (by simp), if_neg (not_not_intro h5)]
       exact Eq0.of rfl
      ·
       rw [grow_no (s := { s with pu := (takeB s.pu t.iv.us t.iv.se (amV t)).1 }) h5, if_pos (show (38 : Int) ≠ 0 by decide), if_pos h5]
       exact Eq0.bad n38 rfl rfl
     ·
      rw [if_pos (by rw [h4]; exact n30), if_pos (by rw [h4]; exact n30)]
      exact Eq0.bad n30 h4 rfl
    ·
     rw [if_pos h3, if_pos h3]
     exact Eq0.of rfl
  ·
   rw [if_pos h1, if_pos (show t.vr.x ≤ s.tm ∨ s.tm + 1024 < t.vr.x by omega)]
   exact Eq0.of rfl
theorem ful_eq {s : Es} {t : Tr} (hs : OkE s) (h : errF t = 0) (hfr : 0 ≤ t.fr ∧ t.fr ≤ 7) : Eq0 (fulP s t) (fulE orcB s t) := by
 obtain ⟨⟨us, _, ro, se, re, tt, _⟩, _, _⟩ := errF_all h
 unfold fulP fulE
 by_cases h0 : (openE orcB s t).2 ≠ 0
 ·
  rw [if_pos h0, if_pos h0]
  exact Eq0.of rfl
 ·
  rw [if_neg h0, if_neg h0]
  by_cases h1 : s.tm < t.vr.x
  ·
   rw [if_neg (not_not_intro h1), if_neg (show ¬ t.vr.x ≤ s.tm by omega)]
   by_cases h2 : feT t ≤ amV t
   ·
    rw [if_neg (not_not_intro h2), if_neg (not_not_intro h2)]
    by_cases h3 : signB t 1 = true
    ·
     rw [if_neg (not_not_intro h3), if_neg (show ¬ orcB.sg t 1 = false by rw [show orcB.sg t 1 = signB t 1 from rfl, h3]; decide)]
     by_cases h4 : s.sd = 1
     ·
      rw [if_pos (show s.sd > 0 by omega), if_pos h4]
      have a1 : atS t.iv.to t.iv.re := ⟨by omega, by omega⟩
      have a2 : atS t.fr t.iv.re := ⟨by omega, by omega⟩
      rcases give_or (b := s.pu) (n := amV t - feT t) a1 with h5 | h5
      ·
       rw [if_neg (not_not_intro h5)]
       rcases give_or (b := (giveB s.pu t.iv.to t.iv.re (amV t - feT t)).1) (n := feT t) a2 with h6 | h6
       ·
        rw [if_neg (not_not_intro h6)]
        by_cases h7 : amV t ≤ s.he t.iv.re.toNat
        ·
         rw [shrink_yes (s := { s with pu := (giveB (giveB s.pu t.iv.to t.iv.re (amV t - feT t)).1 t.fr t.iv.re (feT t)).1 }) h7, if_neg (by simp), if_neg (fun e => e.elim (fun e => e h5) fun e => e.elim (fun e => e h6) fun e => e h7)]
         exact Eq0.of rfl
        ·
         rw [shrink_no (s := { s with pu := (giveB (giveB s.pu t.iv.to t.iv.re (amV t - feT t)).1 t.fr t.iv.re (feT t)).1 }) h7, if_pos (show (38 : Int) ≠ 0 by decide), if_pos (.inr (.inr h7))]
         exact Eq0.bad n38 rfl rfl
       ·
        rw [if_pos (by rw [h6]; exact n38), if_pos (.inr (.inl (by rw [h6]; exact n38)))]
        exact Eq0.bad n38 h6 rfl
      ·
       rw [if_pos (by rw [h5]; exact n38), if_pos (.inl (by rw [h5]; exact n38))]
       exact Eq0.bad n38 h5 rfl
     ·
      rw [if_neg (show ¬ s.sd > 0 by rcases hs.d with d | d <;> omega), if_neg h4]
      have a1 : atS t.iv.ro t.iv.se := ⟨by omega, by omega⟩
      rcases give_or (b := s.va) (n := amV t) a1 with h5 | h5
      ·
       rw [if_neg (not_not_intro h5), if_neg (not_not_intro h5)]
       exact Eq0.of rfl
      ·
       rw [if_pos (by rw [h5]; exact n38), if_pos (by rw [h5]; exact n38)]
       exact Eq0.bad n38 h5 rfl
    ·
     rw [if_pos h3, if_pos (show orcB.sg t 1 = false from Bool.eq_false_iff.2 h3)]
     exact Eq0.of rfl
   ·
    rw [if_pos h2, if_pos h2]
    exact Eq0.of rfl
  ·
   rw [if_pos h1, if_pos (show t.vr.x ≤ s.tm by omega)]
   exact Eq0.of rfl
theorem can_eq {s : Es} {t : Tr} (hs : OkE s) (h : errF t = 0) : Eq0 (canP s t) (canE orcB s t) := by
 obtain ⟨⟨us, _, ro, se, re, tt, _⟩, _, _⟩ := errF_all h
 unfold canP canE
 by_cases h0 : (openE orcB s t).2 ≠ 0
 ·
  rw [if_pos h0, if_pos h0]
  exact Eq0.of rfl
 ·
  rw [if_neg h0, if_neg h0]
  by_cases h4 : s.sd = 1
  ·
   rw [if_pos (show s.sd > 0 by omega)]
   by_cases h1 : s.tm < t.vr.x ∧ ¬ signB t 2 = true
   ·
    rw [if_pos h1, if_pos (show s.tm < t.vr.x ∧ s.sd = 1 ∧ orcB.sg t 2 = false from ⟨h1.1, h4, Bool.eq_false_iff.2 h1.2⟩)]
    exact Eq0.of rfl
   ·
    rw [if_neg h1, if_neg (fun e : s.tm < t.vr.x ∧ s.sd = 1 ∧ orcB.sg t 2 = false => h1 ⟨e.1, by rw [show signB t 2 = false from e.2.2]; decide⟩), if_neg (show ¬ (s.tm < t.vr.x ∧ s.sd ≠ 1 ∧ t.fr ≠ t.iv.ro) from fun e => e.2.1 h4), if_pos h4]
    have a1 : atS t.iv.ro t.iv.re := ⟨by omega, by omega⟩
    rcases give_or (b := s.va) (n := amV t) a1 with h5 | h5
    ·
     rw [if_neg (not_not_intro h5), if_neg (not_not_intro h5)]
     exact Eq0.of rfl
    ·
     rw [if_pos (by rw [h5]; exact n38), if_pos (by rw [h5]; exact n38)]
     exact Eq0.bad n38 h5 rfl
  ·
   rw [if_neg (show ¬ s.sd > 0 by rcases hs.d with d | d <;> omega), if_neg (show ¬ (s.tm < t.vr.x ∧ s.sd = 1 ∧ orcB.sg t 2 = false) from fun e => h4 e.2.1)]
   by_cases h1 : s.tm < t.vr.x ∧ ¬ t.fr = t.iv.ro
   ·
    rw [if_pos h1, if_pos (show s.tm < t.vr.x ∧ s.sd ≠ 1 ∧ t.fr ≠ t.iv.ro from ⟨h1.1, h4, h1.2⟩)]
    exact Eq0.of rfl
   ·
    rw [if_neg h1, if_neg (show ¬ (s.tm < t.vr.x ∧ s.sd ≠ 1 ∧ t.fr ≠ t.iv.ro) from fun e => h1 ⟨e.1, e.2.2⟩), if_neg h4]
    have a1 : atS t.iv.us t.iv.se := ⟨by omega, by omega⟩
    rcases give_or (b := s.pu) (n := amV t) a1 with h5 | h5
    ·
     rw [if_neg (not_not_intro h5)]
     by_cases h7 : amV t ≤ s.he t.iv.se.toNat
     ·
      rw [shrink_yes (s := { s with pu := (giveB s.pu t.iv.us t.iv.se (amV t)).1 }) h7, if_neg (by simp), if_neg (fun e => e.elim (fun e => e h5) fun e => e h7)]
      exact Eq0.of rfl
     ·
      rw [shrink_no (s := { s with pu := (giveB s.pu t.iv.us t.iv.se (amV t)).1 }) h7, if_pos (show (38 : Int) ≠ 0 by decide), if_pos (.inr h7)]
      exact Eq0.bad n38 rfl rfl
    ·
     rw [if_pos (by rw [h5]; exact n38), if_pos (.inl (by rw [h5]; exact n38))]
     exact Eq0.bad n38 h5 rfl
theorem do_eq {s : Es} {t : Tr} (hs : OkE s) (h : errT t = 0) : Eq0 (doP s t) (doneE orcB s t) := by
 obtain ⟨hk, fr, _, _, _, hf⟩ := errT_all h
 unfold doP doneE
 by_cases k1 : t.kd = 1
 ·
  rw [if_pos k1, if_neg (show ¬ t.kd = 4 by omega), if_neg (show ¬ t.kd = 5 by omega), if_neg (show ¬ t.kd = 6 by omega)]; exact pay_eq h k1
 ·
  rw [if_neg k1]
  by_cases k2 : t.kd = 2
  ·
   rw [if_pos k2, if_neg (show ¬ t.kd = 4 by omega), if_neg (show ¬ t.kd = 5 by omega), if_neg (show ¬ t.kd = 6 by omega)]; exact dep_eq h k2
  ·
   rw [if_neg k2]
   by_cases k3 : t.kd = 3
   ·
    rw [if_pos k3, if_neg (show ¬ t.kd = 4 by omega), if_neg (show ¬ t.kd = 5 by omega), if_neg (show ¬ t.kd = 6 by omega)]; exact wdr_eq h k1 k2
   ·
    rw [if_neg k3]
    by_cases k4 : t.kd = 4
    ·
     rw [if_pos k4, if_pos k4]; exact prep_eq hs (hf (by omega))
    ·
     rw [if_neg k4, if_neg k4]
     by_cases k5 : t.kd = 5
     ·
      rw [if_pos k5, if_pos k5]; exact ful_eq hs (hf (by omega)) fr
     ·
      rw [if_neg k5, if_neg k5, if_pos (show t.kd = 6 by omega)]; exact can_eq hs (hf (by omega))
theorem paid_eq {s : Es} {t : Tr} (h : errT t = 0) (h2 : t.no = s.no t.fr.toNat) (h3 : 1 ≤ s.pu (2 * t.fr.toNat)) (h4 : s.bu + 1 < M4) : chgE s t = (paidE s t, 0) := by
 obtain ⟨_, fr, _, _, _, _⟩ := errT_all h
 have a1 : atS t.fr 0 := ⟨by omega, by omega⟩
 have hsl : slotS t.fr 0 = 2 * t.fr.toNat := rfl
 unfold chgE
 rw [if_neg (not_not_intro h), if_neg (not_not_intro h2), takeB_yes a1 (by rw [hsl]; exact h3), if_neg (by simp), if_neg (not_not_intro h4)]
 unfold paidE
 rw [hsl]
 have : updNo s.no t.fr.toNat (s.no t.fr.toNat + 1) = fun i => if i = t.fr.toNat then s.no i + 1 else s.no i := by
  funext i
  unfold updNo
  by_cases e : i = t.fr.toNat
  ·
   rw [if_pos e, if_pos e, e]
  ·
   rw [if_neg e, if_neg e]
 rw [this]
theorem apply_eq {s : Es} (hs : OkE s) (t : Tr) : applyP s t = applyE orcB s t := by
 unfold applyP applyE
 by_cases h : errT t ≠ 0
 ·
  have e : chgE s t = (s, errT t) := by unfold chgE; rw [if_pos h]
  rw [e, if_pos h, if_pos h]
 ·
  rw [if_neg h]
  have h1 := Decidable.not_not.1 h
  obtain ⟨_, fr, _, _, _, _⟩ := errT_all h1
  have a1 : atS t.fr 0 := ⟨by omega, by omega⟩
  have hsl : slotS t.fr 0 = 2 * t.fr.toNat := rfl
  by_cases h2 : t.no ≠ s.no t.fr.toNat
  ·
   have e : chgE s t = (s, 20) := by unfold chgE; rw [if_neg h, if_pos h2]
   rw [e, if_pos (show (20 : Int) ≠ 0 by decide), if_pos h2]
  ·
   rw [if_neg h2]
   by_cases h3 : 1 ≤ s.pu (2 * t.fr.toNat)
   ·
    by_cases h4 : s.bu + 1 < M4
    ·
     have e := paid_eq h1 (Decidable.not_not.1 h2) h3 h4
     rw [e, if_neg (by simp), if_neg (show ¬ (¬ 1 ≤ s.pu (2 * t.fr.toNat) ∨ ¬ s.bu + 1 < M4) from fun x => x.elim (fun x => x h3) fun x => x h4)]
     have hp : OkE (paidE s t) := by
      have := (chg_ok hs (by rw [e])).2.1
      rwa [e] at this
     obtain ⟨d1, d2⟩ := do_eq hp h1
     dsimp only
     rw [d1]
     by_cases h5 : (doneE orcB (paidE s t) t).2 ≠ 0
     ·
      rw [if_pos h5, if_pos h5]
     ·
      rw [if_neg h5, if_neg h5, d2 (Decidable.not_not.1 h5)]
    ·
     have e : chgE s t = (s, 21) := by
      unfold chgE
      rw [if_neg h, if_neg h2, takeB_yes a1 (by rw [hsl]; exact h3), if_neg (by simp), if_pos h4]
     rw [e, if_pos (show (21 : Int) ≠ 0 by decide), if_pos (.inr h4)]
   ·
    have e : chgE s t = (s, 21) := by
     unfold chgE
     rw [if_neg h, if_neg h2, takeB_low a1 (by rw [hsl]; exact h3), if_pos (show (30 : Int) ≠ 0 by decide)]
    rw [e, if_pos (show (21 : Int) ≠ 0 by decide), if_pos (.inl h3)]
end Go.Proofs.YthhmdgmmeedhdaaGreat
