/-
  purse: what is moved; escrow: what a transaction that was taken asks for; purse: a book in which all have as much; escrow: locks of one's own; genesis; time goes on; what became of a lock; escrow: a deed is tried: what was demanded and did not hold is told; the state is as it was
-/
import Derived.Outline
import Derived.Defers
import Derived.Recover
import Derived.Test.YtfoemkmoambagaaGreatK09
namespace Go.Proofs.YtfoemkmoambagaaGreat
open Go.RowKit Go.Shelf
set_option maxRecDepth 100000 in
set_option maxHeartbeats 4000000 in
theorem bookMove_any (b : Bk) (hb : OkK b) (f t s : Int) (n : Nat) (hn : n < M4) (w : World) :
    Calls Tryz.prog 61 #[bkv b, .int .i64 f, .int .i64 t, .int .i64 s, wn n] w fun e W' => e = .returned (.tuple #[bkv (moveB b f t s n).1, .int .i64 (moveB b f t s n).2]) ∧ Below w.heap.size w W' := by
  have kB := ((Blk.new w 31 (bkc b)).alloc (.cells (ws (nw n)).toArray 28)).alloc (.cells (bkc noK).toArray 31)
  have kA : Blk (((w.alloc (.cells (bkc b).toArray 31)).alloc (.cells (ws (nw n)).toArray 28)).alloc (.cells (bkc noK).toArray 31)) (w.heap.size + 1) 28 (ws (nw n)) := (Blk.new' (by simp)).alloc _
  have kR0 : Blk (((w.alloc (.cells (bkc b).toArray 31)).alloc (.cells (ws (nw n)).toArray 28)).alloc (.cells (bkc noK).toArray 31)) (w.heap.size + 1 + 1) 31 (bkc noK) := Blk.new' (by simp)
  have hB := chainA (chainA (chain0 w (.cells (bkc b).toArray 31)) (.cells (ws (nw n)).toArray 28)) (.cells (bkc noK).toArray 31)
  rw [bkc_no] at kB kA hB
  have kR : Blk (((w.alloc (.cells (bkc b).toArray 31)).alloc (.cells (ws (nw n)).toArray 28)).alloc (.cells (List.replicate 64 (Value.int .u64 0)).toArray 31)) (w.heap.size + 1 + 1) 31 (bkc noK) := by rw [bkc_no] at kR0 ⊢; exact kR0
  clear kR0
  have HT := Lib.hid (fun W => bookTake_any b hb f s n hn W)
  have HG := Lib.hid (fun W => bookGive_any _ (okK_take hb f s n) t s n hn W)
  have HM1 := Lib.hid (fun h => moveB_low (b := b) (f := f) (t := t) (s := s) (n := n) h)
  have HM2 := Lib.hid (fun h k => moveB_yes (b := b) (f := f) (t := t) (s := s) (n := n) h k)
  have HM3 := Lib.hid (fun h k => moveB_over (b := b) (f := f) (t := t) (s := s) (n := n) h k)
  generalize moveB b f t s n = mv at *
  generalize takeB b f s n = tk at *
  generalize giveB tk.1 t s n = gv at *
  obtain ⟨bt, et⟩ := tk
  obtain ⟨bg, eg⟩ := gv
  dsimp only at *
  by_cases h1 : et = 0
  · subst h1
    by_cases h2 : eg = 0
    · subst h2
      have HE : Hid (mv = (bg, 0)) := Lib.hid (HM2.out rfl rfl)
      clear HM1 HM2 HM3
      go_enter Tryz.func61, Tryz.ntmps61
      go_wp2_with (first
        | ((with_reducible refine wpList_loadIf 31 (.tmp 5) ?_ (some 16) ?_ ?_ (bkv (b)) ?_ ?_); (· rfl); (· rfl); (· rfl); (· exact load_book kB))
        | ((with_reducible refine wpList_loadIf 28 (.tmp 9) ?_ (some 19) ?_ ?_ (wn (n)) ?_ ?_); (· rfl); (· rfl); (· rfl); (· exact load_wn kA))
        | (go_at_call 58; refine (HT.out _).mono ?_; rintro e w1 ⟨rfl, hb1⟩; replace kB := kB.below hb1 kB.lt; replace kA := kA.below hb1 kA.lt; replace kR := kR.below hb1 kR.lt; replace hB := chain hB hb1; clear hb1)
        | ((with_reducible refine wpList_storeN_book (.tmp 12) (.tmp 21) ?_ (bt) ?_ ?_ ?_ ?_ ?_ ?_); (· rfl); (· rfl); (· rfl); (· rfl); (· rfl); (· rfl); have kT := Blk.new w1 31 (bkc (bt)); replace kB := kB.alloc (.cells (bkc (bt)).toArray 31); replace kA := kA.alloc (.cells (bkc (bt)).toArray 31); replace kR := kR.alloc (.cells (bkc (bt)).toArray 31); replace hB := chainA hB (.cells (bkc (bt)).toArray 31))
        | ((with_reducible refine wpList_loadIf 31 (.tmp 12) ?_ (some 28) ?_ ?_ (bkv (bt)) ?_ ?_); (· rfl); (· rfl); (· rfl); (· exact load_book kT))
        | ((with_reducible refine wpList_loadIf 28 (.tmp 9) ?_ (some 31) ?_ ?_ (wn (n)) ?_ ?_); (· rfl); (· rfl); (· rfl); (· exact load_wn kA))
        | (go_at_call 80; refine (HG.out _).mono ?_; rintro e w2 ⟨rfl, hb2⟩; replace kB := kB.below hb2 kB.lt; replace kA := kA.below hb2 kA.lt; replace kR := kR.below hb2 kR.lt; replace kT := kT.below hb2 kT.lt; replace hB := chain hB hb2; clear hb2)
        | ((with_reducible refine wpList_storeN_book (.tmp 14) (.tmp 33) ?_ (bg) ?_ ?_ ?_ ?_ ?_ ?_); (· rfl); (· rfl); (· rfl); (· rfl); (· rfl); (· rfl); have kG := Blk.new w2 31 (bkc (bg)); replace kB := kB.alloc (.cells (bkc (bg)).toArray 31); replace kA := kA.alloc (.cells (bkc (bg)).toArray 31); replace kR := kR.alloc (.cells (bkc (bg)).toArray 31); replace kT := kT.alloc (.cells (bkc (bg)).toArray 31); replace hB := chainA hB (.cells (bkc (bg)).toArray 31))
        | ((with_reducible refine wpList_loadIf 31 (.tmp 14) ?_ (some 39) ?_ ?_ (bkv (bg)) ?_ ?_); (· rfl); (· rfl); (· rfl); (· exact load_book kG))
        | ((refine wpList_store_book (.tmp 10) (.tmp 39) kR (bkc_len noK) (bg) ?_ ?_ ?_ ?_ ?_ ?_); (· rfl); (· rfl); (· rfl); (· rfl); (· rfl)))
      exact bodyPost_ret (v := .tuple #[bkv (bg), .int .i64 0]) (res_book rfl _ rfl rfl (kR.row _)) rfl ⟨by rw [HE.out], hB.grown (grownBy_row _ _ _) hB.size (fun e he => by cases he; omega)⟩
    · have HE : Hid (mv = (b, eg)) := Lib.hid (HM3.out rfl h2)
      have q2 : (eg != 0) = true := by simpa using h2
      clear HM1 HM2 HM3 h2
      go_enter Tryz.func61, Tryz.ntmps61
      go_wp2_with (first
        | ((with_reducible refine wpList_loadIf 31 (.tmp 5) ?_ (some 16) ?_ ?_ (bkv (b)) ?_ ?_); (· rfl); (· rfl); (· rfl); (· exact load_book kB))
        | ((with_reducible refine wpList_loadIf 28 (.tmp 9) ?_ (some 19) ?_ ?_ (wn (n)) ?_ ?_); (· rfl); (· rfl); (· rfl); (· exact load_wn kA))
        | (go_at_call 58; refine (HT.out _).mono ?_; rintro e w1 ⟨rfl, hb1⟩; replace kB := kB.below hb1 kB.lt; replace kA := kA.below hb1 kA.lt; replace kR := kR.below hb1 kR.lt; replace hB := chain hB hb1; clear hb1)
        | ((with_reducible refine wpList_storeN_book (.tmp 12) (.tmp 21) ?_ (bt) ?_ ?_ ?_ ?_ ?_ ?_); (· rfl); (· rfl); (· rfl); (· rfl); (· rfl); (· rfl); have kT := Blk.new w1 31 (bkc (bt)); replace kB := kB.alloc (.cells (bkc (bt)).toArray 31); replace kA := kA.alloc (.cells (bkc (bt)).toArray 31); replace kR := kR.alloc (.cells (bkc (bt)).toArray 31); replace hB := chainA hB (.cells (bkc (bt)).toArray 31))
        | ((with_reducible refine wpList_loadIf 31 (.tmp 12) ?_ (some 28) ?_ ?_ (bkv (bt)) ?_ ?_); (· rfl); (· rfl); (· rfl); (· exact load_book kT))
        | ((with_reducible refine wpList_loadIf 28 (.tmp 9) ?_ (some 31) ?_ ?_ (wn (n)) ?_ ?_); (· rfl); (· rfl); (· rfl); (· exact load_wn kA))
        | (go_at_call 80; refine (HG.out _).mono ?_; rintro e w2 ⟨rfl, hb2⟩; replace kB := kB.below hb2 kB.lt; replace kA := kA.below hb2 kA.lt; replace kR := kR.below hb2 kR.lt; replace kT := kT.below hb2 kT.lt; replace hB := chain hB hb2; clear hb2)
        | ((with_reducible refine wpList_storeN_book (.tmp 14) (.tmp 33) ?_ (bg) ?_ ?_ ?_ ?_ ?_ ?_); (· rfl); (· rfl); (· rfl); (· rfl); (· rfl); (· rfl); have kG := Blk.new w2 31 (bkc (bg)); replace kB := kB.alloc (.cells (bkc (bg)).toArray 31); replace kA := kA.alloc (.cells (bkc (bg)).toArray 31); replace kR := kR.alloc (.cells (bkc (bg)).toArray 31); replace kT := kT.alloc (.cells (bkc (bg)).toArray 31); replace hB := chainA hB (.cells (bkc (bg)).toArray 31))
        | ((with_reducible refine wpList_loadIf 31 (.tmp 5) ?_ (some 37) ?_ ?_ (bkv (b)) ?_ ?_); (· rfl); (· rfl); (· rfl); (· exact load_book kB))
        | ((refine wpList_store_book (.tmp 10) (.tmp 37) kR (bkc_len noK) (b) ?_ ?_ ?_ ?_ ?_ ?_); (· rfl); (· rfl); (· rfl); (· rfl); (· rfl)))
      exact bodyPost_ret (v := .tuple #[bkv (b), .int .i64 eg]) (res_book rfl _ rfl rfl (kR.row _)) rfl ⟨by rw [HE.out], hB.grown (grownBy_row _ _ _) hB.size (fun e he => by cases he; omega)⟩
  · have HE : Hid (mv = (b, et)) := Lib.hid (HM1.out h1)
    have q1 : (et != 0) = true := by simpa using h1
    clear HM1 HM2 HM3 HG h1
    go_enter Tryz.func61, Tryz.ntmps61
    go_wp2_with (first
      | ((with_reducible refine wpList_loadIf 31 (.tmp 5) ?_ (some 16) ?_ ?_ (bkv (b)) ?_ ?_); (· rfl); (· rfl); (· rfl); (· exact load_book kB))
      | ((with_reducible refine wpList_loadIf 28 (.tmp 9) ?_ (some 19) ?_ ?_ (wn (n)) ?_ ?_); (· rfl); (· rfl); (· rfl); (· exact load_wn kA))
      | (go_at_call 58; refine (HT.out _).mono ?_; rintro e w1 ⟨rfl, hb1⟩; replace kB := kB.below hb1 kB.lt; replace kA := kA.below hb1 kA.lt; replace kR := kR.below hb1 kR.lt; replace hB := chain hB hb1; clear hb1)
      | ((with_reducible refine wpList_storeN_book (.tmp 12) (.tmp 21) ?_ (bt) ?_ ?_ ?_ ?_ ?_ ?_); (· rfl); (· rfl); (· rfl); (· rfl); (· rfl); (· rfl); have kT := Blk.new w1 31 (bkc (bt)); replace kB := kB.alloc (.cells (bkc (bt)).toArray 31); replace kA := kA.alloc (.cells (bkc (bt)).toArray 31); replace kR := kR.alloc (.cells (bkc (bt)).toArray 31); replace hB := chainA hB (.cells (bkc (bt)).toArray 31))
      | ((with_reducible refine wpList_loadIf 31 (.tmp 5) ?_ (some 25) ?_ ?_ (bkv (b)) ?_ ?_); (· rfl); (· rfl); (· rfl); (· exact load_book kB))
      | ((refine wpList_store_book (.tmp 10) (.tmp 25) kR (bkc_len noK) (b) ?_ ?_ ?_ ?_ ?_ ?_); (· rfl); (· rfl); (· rfl); (· rfl); (· rfl)))
    exact bodyPost_ret (v := .tuple #[bkv (b), .int .i64 et]) (res_book rfl _ rfl rfl (kR.row _)) rfl ⟨by rw [HE.out], hB.grown (grownBy_row _ _ _) hB.size (fun e he => by cases he; omega)⟩
end Go.Proofs.YtfoemkmoambagaaGreat
namespace Go.Proofs.YtfoemkmoambagaaGreat
open Go.RowKit Go.Shelf
def payP (s : Es) (t : Tr) : Es × Int := if (moveB s.pu t.fr t.iv.to t.az (amT t)).2 ≠ 0 then (s, (moveB s.pu t.fr t.iv.to t.az (amT t)).2) else ({ s with pu := (moveB s.pu t.fr t.iv.to t.az (amT t)).1 }, 0)
def doP (s : Es) (t : Tr) : Es × Int :=
  if t.kd = 1 then payP s t else if t.kd = 2 then depE s t else if t.kd = 3 then wdrE s t else if t.kd = 4 then prepP s t else if t.kd = 5 then fulP s t else canP s t
theorem dep_lk {s : Es} {t : Tr} : (depE s t).1.lk = s.lk := by
  unfold depE growE
  repeat (first | rfl | split)
theorem wdr_lk {s : Es} {t : Tr} : (wdrE s t).1.lk = s.lk := by
  unfold wdrE shrinkE
  repeat (first | rfl | split)
theorem EndL.last {w W W' : World} {B b0 : Nat} {p q : Es × Int} {e : Ending} (hg : w.grownBy W (some B)) (hb : b0 ≤ w.heap.size) (h : EndL W B b0 q e W') (hp : p = q) : EndL w B b0 p e W' := by
  subst hp
  exact ⟨(Turn.of hg hb).trans h.1, h.2⟩
set_option maxRecDepth 100000 in
set_option maxHeartbeats 4000000 in
theorem do_any (s : Es) (v : Value) (hs : OkE s) (t : Tr) (ht : OkT t) (he : errT t = 0) {B b0 : Nat} (w : World) (hBb : B < b0) (hb0 : b0 ≤ w.heap.size) (hB : Blk w B 35 (stc s v)) (ho : OwnL b0 w v s.lk) (hr : (s.lk.length + 1) * 40 ≤ 140737488355328) :
    Calls Tryz.prog 40 #[.pointer (some ⟨B, 0, none⟩), txv t] w (EndL w B b0 (doP s t)) := by
  have hmx : Tryz.prog.follows .mixedOrders = true := by kernel_rfl
  have hM := (Mem.startB hB).allocN rfl 44 (txc t)
  have hn : amT t < M4 := val_lt ht.a
  obtain ⟨hk, _, _, hz, _, hF⟩ := errT_all he
  have HK := Lib.hid hk
  have HZ := Lib.hid hz
  have HF := Lib.hid (fun k => (errF_all (hF k)).1)
  have HA := Lib.hid (fun W => bookMove_any s.pu hs.p t.fr t.iv.to t.az (amT t) hn W)
  have HO := Lib.hid ho
  clear hB ho hk hz hF
  go_enter Tryz.func40, Tryz.ntmps40
  go_upto_region 1 with fail
  refine wp_region_fromM (fun W => Mem w (some B) [(w.heap.size, 44, txc t), (B, 35, stc s v)] W) hM ?_
  clear hM
  rintro Y1 hM
  refine tF 2 [.val 0 (some 4) (pt w.heap.size 2), .load 1 (some 5) 3 (pt w.heap.size 2) (.int .i64 t.kd)] ⟨ld_int (hM.at 0 rfl) 2 rfl, trivial⟩ ?_
  refine dF ?_
  try simp only [puts, Tk.put, Act.put, List.setIfInBounds_toArray, List.set_cons_zero, List.set_cons_succ]
  by_cases hk : t.kd = 1
  case pos =>
    have hk1 := Lib.hid hk
    clear hk
    go_upto_region 2 with fail
    refine wp_region_fromM (fun W => Mem w (some B) [(w.heap.size, 44, txc t), (B, 35, stc s v)] W) hM ?_
    clear hM
    rintro Y2 hM
    refine tF 2 [.alt 0 (some 7) (.bool (t.kd == 1)) (.bool true), .val 1 (some 6) (.bool true)] ⟨congrArg Value.bool (by rw [hk1.out]; rfl), trivial⟩ ?_
    refine dF ?_
    try simp only [puts, Tk.put, Act.put, List.setIfInBounds_toArray, List.set_cons_zero, List.set_cons_succ]
    go_upto_region 3 with fail
    refine wp_region_M (fun W => Mem w (some B) [(w.heap.size, 44, txc t)] W) (fun W => Mem w (some B) [(w.heap.size, 44, txc t), (B, 35, stc s v)] W) hmx hM.drew ?_
    clear hM
    rintro Y3 hM
    have hS := hM.sub (.cons_cons _ (.cons _ .slnil))
    refine tD 8 [.val 0 (some 8) (pt B 0), .val 1 (some 9) (pt B 0), .val 2 (some 10) (pt B 0), .val 3 (some 11) (pt B 2), .val 5 (some 13) (pt w.heap.size 0), .load 6 (some 14) 3 (pt w.heap.size 0) (.int .i64 t.fr), .val 7 (some 15) (pt w.heap.size 8), .val 8 (some 16) (pt w.heap.size 13), .load 9 (some 17) 3 (pt w.heap.size 13) (.int .i64 t.iv.to), .val 10 (some 18) (pt w.heap.size 3), .load 11 (some 19) 3 (pt w.heap.size 3) (.int .i64 t.az), .val 12 (some 20) (pt w.heap.size 4), .load 13 (some 21) 28 (pt w.heap.size 4) (wn (amT t))] ⟨fun W h => ld_int (h.at 0 rfl) 0 rfl, fun W h => ld_int (h.at 0 rfl) 13 rfl, fun W h => ld_int (h.at 0 rfl) 3 rfl, fun W h => ld_am (h.at 0 rfl) ht, trivial⟩ hS ?_
    refine oD 4 7 (lD (some 12) 31 (pt B 2) (bkv s.pu) (ld_pu (hM.at 1 rfl)) (hS) ?_)
    refine oD 14 6 (cD (some 22) 61 #[bkv s.pu, .int .i64 t.fr, .int .i64 t.iv.to, .int .i64 t.az, wn (amT t)] ((HA.out _).mono ?_))
    rintro e W1 ⟨rfl, hb⟩
    refine And.intro (hS.below hb) ?_
    replace hS := hS.below hb
    replace hM := hM.below hb
    clear hb
    refine tD 4 [.val 15 (some 23) (bkv (moveB s.pu t.fr t.iv.to t.az (amT t)).1), .val 16 (some 24) (.int .i64 (moveB s.pu t.fr t.iv.to t.az (amT t)).2)] trivial hS ?_
    refine oD 17 3 (cD (some 25) 60 #[bkv (moveB s.pu t.fr t.iv.to t.az (amT t)).1, .int .i64 (moveB s.pu t.fr t.iv.to t.az (amT t)).2] ((must_two _ _ _).mono ?_))
    rintro e W2 (⟨hc, rfl, hb⟩ | ⟨hc, rfl, hb⟩)
    case inr =>
      replace hM := hM.below hb
      exact And.intro rfl (EndL.pan hM.g hb0 hc (by unfold doP payP; rw [if_pos hk1.out, if_pos hc]) rfl (BlkN.of (hM.at 1 rfl)))
    refine And.intro (hS.below hb) ?_
    replace hS := hS.below hb
    replace hM := hM.below hb
    clear hb
    refine tD 1 [.val 18 (some 26) (pt B 0), .val 19 (some 27) (pt B 2)] trivial hS ?_
    have hM1 := hM.set 1 (cs' := stc { s with pu := (moveB s.pu t.fr t.iv.to t.az (amT t)).1 } v) rfl rfl
    refine oD 20 0 (sD 31 (pt B 2) (bkv (moveB s.pu t.fr t.iv.to t.az (amT t)).1) (sto_pu (hM.at 1 rfl) _) (hM1.sub (.cons_cons _ (.cons _ .slnil))) ?_)
    replace hS := hM1.sub (.cons_cons _ (.cons _ .slnil))
    replace hM := hM1
    clear hM1
    generalize World.setRow _ _ _ = Y4 at *
    refine dD ?_
    try simp only [puts, Tk.put, Act.put, List.setIfInBounds_toArray, List.set_cons_zero, List.set_cons_succ]
    clear hS
    have hp : doP s t = ({ s with pu := (moveB s.pu t.fr t.iv.to t.az (amT t)).1 }, 0) := by unfold doP payP; rw [if_pos hk1.out, if_neg (not_not_intro hc)]
    have fin : EndL w B b0 (doP s t) (.returned (.tuple #[])) Y4 := EndL.of (p := doP s t) (grownBy_refl w _) hb0 hBb (by rw [hp]; exact HO.out) (EndE.ok hM.g rfl (hM.at 1 rfl)) hp
    clear hp hc hk1
    go_wp2_with fail
    go_end0
    exact fin
  have h1 := Lib.hid hk
  clear hk
  go_upto_region 2 with fail
  refine wp_region_fromM (fun W => Mem w (some B) [(w.heap.size, 44, txc t), (B, 35, stc s v)] W) hM ?_
  clear hM
  rintro Y5 hM
  refine tF 2 [.alt 0 (some 7) (.bool (t.kd == 1)) (.bool false), .val 1 (some 6) (.bool false)] ⟨congrArg Value.bool (beq_eq_false_iff_ne.2 h1.out), trivial⟩ ?_
  refine dF ?_
  try simp only [puts, Tk.put, Act.put, List.setIfInBounds_toArray, List.set_cons_zero, List.set_cons_succ]
  by_cases hk : t.kd = 2
  case pos =>
    have hk1 := Lib.hid hk
    clear hk
    go_upto_region 4 with fail
    refine wp_region_fromM (fun W => Mem w (some B) [(w.heap.size, 44, txc t), (B, 35, stc s v)] W) hM ?_
    clear hM
    rintro Y6 hM
    refine tF 2 [.alt 0 (some 29) (.bool (t.kd == 2)) (.bool true), .val 1 (some 28) (.bool true)] ⟨congrArg Value.bool (by rw [hk1.out]; rfl), trivial⟩ ?_
    refine dF ?_
    try simp only [puts, Tk.put, Act.put, List.setIfInBounds_toArray, List.set_cons_zero, List.set_cons_succ]
    go_upto_region 5 with fail
    refine wp_region_fromM (fun W => Mem w (some B) [(w.heap.size, 44, txc t), (B, 35, stc s v)] W) hM ?_
    clear hM
    rintro Y7 hM
    refine tF 2 [.val 0 (some 30) (pt B 0), .load 1 (some 31) 44 (pt w.heap.size 0) (txv t)] ⟨ld_tx (hM.at 0 rfl), trivial⟩ ?_
    refine cF (some 32) 62 #[pt B 0, txv t] ((deposit_any s v hs t ht HZ.out _ (hM.at 1 rfl)).mono ?_)
    rintro e W1 h
    have hp : doP s t = depE s t := by unfold doP; rw [if_neg h1.out, if_pos hk1.out]
    have fin : EndL w B b0 (doP s t) e W1 := EndL.of hM.g hb0 hBb (by rw [hp, dep_lk]; exact HO.out) h hp
    rcases h.two with ⟨h0, rfl, _, _⟩ | ⟨h0, rfl, _⟩
    case inr => exact And.intro rfl fin
    refine dF ?_
    try simp only [puts, Tk.put, Act.put, List.setIfInBounds_toArray, List.set_cons_zero, List.set_cons_succ]
    clear hp h h0 hk1
    go_wp2_with fail
    go_end0
    exact fin
  have h2 := Lib.hid hk
  clear hk
  go_upto_region 4 with fail
  refine wp_region_fromM (fun W => Mem w (some B) [(w.heap.size, 44, txc t), (B, 35, stc s v)] W) hM ?_
  clear hM
  rintro Y8 hM
  refine tF 2 [.alt 0 (some 29) (.bool (t.kd == 2)) (.bool false), .val 1 (some 28) (.bool false)] ⟨congrArg Value.bool (beq_eq_false_iff_ne.2 h2.out), trivial⟩ ?_
  refine dF ?_
  try simp only [puts, Tk.put, Act.put, List.setIfInBounds_toArray, List.set_cons_zero, List.set_cons_succ]
  by_cases hk : t.kd = 3
  case pos =>
    have hk1 := Lib.hid hk
    clear hk
    go_upto_region 6 with fail
    refine wp_region_fromM (fun W => Mem w (some B) [(w.heap.size, 44, txc t), (B, 35, stc s v)] W) hM ?_
    clear hM
    rintro Y9 hM
    refine tF 2 [.alt 0 (some 34) (.bool (t.kd == 3)) (.bool true), .val 1 (some 33) (.bool true)] ⟨congrArg Value.bool (by rw [hk1.out]; rfl), trivial⟩ ?_
    refine dF ?_
    try simp only [puts, Tk.put, Act.put, List.setIfInBounds_toArray, List.set_cons_zero, List.set_cons_succ]
    go_upto_region 7 with fail
    refine wp_region_fromM (fun W => Mem w (some B) [(w.heap.size, 44, txc t), (B, 35, stc s v)] W) hM ?_
    clear hM
    rintro Y10 hM
    refine tF 2 [.val 0 (some 35) (pt B 0), .load 1 (some 36) 44 (pt w.heap.size 0) (txv t)] ⟨ld_tx (hM.at 0 rfl), trivial⟩ ?_
    refine cF (some 37) 63 #[pt B 0, txv t] ((withdraw_any s v hs t ht HZ.out _ (hM.at 1 rfl)).mono ?_)
    rintro e W1 h
    have hp : doP s t = wdrE s t := by unfold doP; rw [if_neg h1.out, if_neg h2.out, if_pos hk1.out]
    have fin : EndL w B b0 (doP s t) e W1 := EndL.of hM.g hb0 hBb (by rw [hp, wdr_lk]; exact HO.out) h hp
    rcases h.two with ⟨h0, rfl, _, _⟩ | ⟨h0, rfl, _⟩
    case inr => exact And.intro rfl fin
    refine dF ?_
    try simp only [puts, Tk.put, Act.put, List.setIfInBounds_toArray, List.set_cons_zero, List.set_cons_succ]
    clear hp h h0 hk1
    go_wp2_with fail
    go_end0
    exact fin
  have h3 := Lib.hid hk
  clear hk
  go_upto_region 6 with fail
  refine wp_region_fromM (fun W => Mem w (some B) [(w.heap.size, 44, txc t), (B, 35, stc s v)] W) hM ?_
  clear hM
  rintro Y11 hM
  refine tF 2 [.alt 0 (some 34) (.bool (t.kd == 3)) (.bool false), .val 1 (some 33) (.bool false)] ⟨congrArg Value.bool (beq_eq_false_iff_ne.2 h3.out), trivial⟩ ?_
  refine dF ?_
  try simp only [puts, Tk.put, Act.put, List.setIfInBounds_toArray, List.set_cons_zero, List.set_cons_succ]
  by_cases hk : t.kd = 4
  case pos =>
    have hk1 := Lib.hid hk
    clear hk
    go_upto_region 8 with fail
    refine wp_region_fromM (fun W => Mem w (some B) [(w.heap.size, 44, txc t), (B, 35, stc s v)] W) hM ?_
    clear hM
    rintro Y12 hM
    refine tF 2 [.alt 0 (some 39) (.bool (t.kd == 4)) (.bool true), .val 1 (some 38) (.bool true)] ⟨congrArg Value.bool (by rw [hk1.out]; rfl), trivial⟩ ?_
    refine dF ?_
    try simp only [puts, Tk.put, Act.put, List.setIfInBounds_toArray, List.set_cons_zero, List.set_cons_succ]
    go_upto_region 9 with fail
    refine wp_region_fromM (fun W => Mem w (some B) [(w.heap.size, 44, txc t), (B, 35, stc s v)] W) hM ?_
    clear hM
    rintro Y13 hM
    refine tF 2 [.val 0 (some 40) (pt B 0), .load 1 (some 41) 44 (pt w.heap.size 0) (txv t)] ⟨ld_tx (hM.at 0 rfl), trivial⟩ ?_
    refine cF (some 42) 64 #[pt B 0, txv t] ((prepare_any s v hs t ht (HF.out (by have := hk1.out; omega)).2.2.2.1 _ hBb (Nat.le_trans hb0 hM.size) (hM.at 1 rfl) (HO.out.grown hBb hM.g) hr).mono ?_)
    rintro e W1 h
    have hp : doP s t = prepP s t := by unfold doP; rw [if_neg h1.out, if_neg h2.out, if_neg h3.out, if_pos hk1.out]
    have fin : EndL w B b0 (doP s t) e W1 := EndL.last hM.g hb0 h hp
    rcases h.two with ⟨h0, rfl, _, _⟩ | ⟨h0, rfl, _⟩
    case inr => exact And.intro rfl fin
    refine dF ?_
    try simp only [puts, Tk.put, Act.put, List.setIfInBounds_toArray, List.set_cons_zero, List.set_cons_succ]
    clear hp h h0 hk1
    go_wp2_with fail
    go_end0
    exact fin
  have h4 := Lib.hid hk
  clear hk
  go_upto_region 8 with fail
  refine wp_region_fromM (fun W => Mem w (some B) [(w.heap.size, 44, txc t), (B, 35, stc s v)] W) hM ?_
  clear hM
  rintro Y14 hM
  refine tF 2 [.alt 0 (some 39) (.bool (t.kd == 4)) (.bool false), .val 1 (some 38) (.bool false)] ⟨congrArg Value.bool (beq_eq_false_iff_ne.2 h4.out), trivial⟩ ?_
  refine dF ?_
  try simp only [puts, Tk.put, Act.put, List.setIfInBounds_toArray, List.set_cons_zero, List.set_cons_succ]
  by_cases hk : t.kd = 5
  case pos =>
    have hk1 := Lib.hid hk
    clear hk
    go_upto_region 10 with fail
    refine wp_region_fromM (fun W => Mem w (some B) [(w.heap.size, 44, txc t), (B, 35, stc s v)] W) hM ?_
    clear hM
    rintro Y15 hM
    refine tF 2 [.alt 0 (some 44) (.bool (t.kd == 5)) (.bool true), .val 1 (some 43) (.bool true)] ⟨congrArg Value.bool (by rw [hk1.out]; rfl), trivial⟩ ?_
    refine dF ?_
    try simp only [puts, Tk.put, Act.put, List.setIfInBounds_toArray, List.set_cons_zero, List.set_cons_succ]
    go_upto_region 11 with fail
    refine wp_region_fromM (fun W => Mem w (some B) [(w.heap.size, 44, txc t), (B, 35, stc s v)] W) hM ?_
    clear hM
    rintro Y16 hM
    refine tF 2 [.val 0 (some 45) (pt B 0), .load 1 (some 46) 44 (pt w.heap.size 0) (txv t)] ⟨ld_tx (hM.at 0 rfl), trivial⟩ ?_
    refine cF (some 47) 65 #[pt B 0, txv t] ((fulfil_any s v hs t ht ⟨(HF.out (by have := hk1.out; omega)).2.2.2.1, (HF.out (by have := hk1.out; omega)).2.2.2.2.1⟩ _ hBb (Nat.le_trans hb0 hM.size) (hM.at 1 rfl) (HO.out.grown hBb hM.g)).mono ?_)
    rintro e W1 h
    have hp : doP s t = fulP s t := by unfold doP; rw [if_neg h1.out, if_neg h2.out, if_neg h3.out, if_neg h4.out, if_pos hk1.out]
    have fin : EndL w B b0 (doP s t) e W1 := EndL.last hM.g hb0 h hp
    rcases h.two with ⟨h0, rfl, _, _⟩ | ⟨h0, rfl, _⟩
    case inr => exact And.intro rfl fin
    refine dF ?_
    try simp only [puts, Tk.put, Act.put, List.setIfInBounds_toArray, List.set_cons_zero, List.set_cons_succ]
    clear hp h h0 hk1
    go_wp2_with fail
    go_end0
    exact fin
  have h5 := Lib.hid hk
  clear hk
  go_upto_region 10 with fail
  refine wp_region_fromM (fun W => Mem w (some B) [(w.heap.size, 44, txc t), (B, 35, stc s v)] W) hM ?_
  clear hM
  rintro Y17 hM
  refine tF 2 [.alt 0 (some 44) (.bool (t.kd == 5)) (.bool false), .val 1 (some 43) (.bool false)] ⟨congrArg Value.bool (beq_eq_false_iff_ne.2 h5.out), trivial⟩ ?_
  refine dF ?_
  try simp only [puts, Tk.put, Act.put, List.setIfInBounds_toArray, List.set_cons_zero, List.set_cons_succ]
  have hk : t.kd = 6 := by have := HK.out; have := h1.out; have := h2.out; have := h3.out; have := h4.out; have := h5.out; omega
  have hk1 := Lib.hid hk
  clear hk
  go_upto_region 12 with fail
  refine wp_region_fromM (fun W => Mem w (some B) [(w.heap.size, 44, txc t), (B, 35, stc s v)] W) hM ?_
  clear hM
  rintro Y18 hM
  refine tF 2 [.alt 0 (some 49) (.bool (t.kd == 6)) (.bool true), .val 1 (some 48) (.bool true)] ⟨congrArg Value.bool (by rw [hk1.out]; rfl), trivial⟩ ?_
  refine dF ?_
  try simp only [puts, Tk.put, Act.put, List.setIfInBounds_toArray, List.set_cons_zero, List.set_cons_succ]
  go_upto_region 13 with fail
  refine wp_region_fromM (fun W => Mem w (some B) [(w.heap.size, 44, txc t), (B, 35, stc s v)] W) hM ?_
  clear hM
  rintro Y19 hM
  refine tF 2 [.val 0 (some 50) (pt B 0), .load 1 (some 51) 44 (pt w.heap.size 0) (txv t)] ⟨ld_tx (hM.at 0 rfl), trivial⟩ ?_
  refine cF (some 52) 66 #[pt B 0, txv t] ((cancel_any s v hs t ht ⟨(HF.out (by have := hk1.out; omega)).2.2.2.1, (HF.out (by have := hk1.out; omega)).2.2.2.2.1⟩ _ hBb (Nat.le_trans hb0 hM.size) (hM.at 1 rfl) (HO.out.grown hBb hM.g)).mono ?_)
  rintro e W1 h
  have hp : doP s t = canP s t := by unfold doP; rw [if_neg h1.out, if_neg h2.out, if_neg h3.out, if_neg h4.out, if_neg h5.out]
  have fin : EndL w B b0 (doP s t) e W1 := EndL.last hM.g hb0 h hp
  rcases h.two with ⟨h0, rfl, _, _⟩ | ⟨h0, rfl, _⟩
  case inr => exact And.intro rfl fin
  refine dF ?_
  try simp only [puts, Tk.put, Act.put, List.setIfInBounds_toArray, List.set_cons_zero, List.set_cons_succ]
  clear hp h h0 hk1
  go_wp2_with fail
  go_end0
  exact fin
end Go.Proofs.YtfoemkmoambagaaGreat
namespace Go.Proofs.YtfoemkmoambagaaGreat
open Go.RowKit Go.Shelf
def evB (n m : Nat) : Bk := fun i => if i < m then n else 0
theorem ev_zero (n : Nat) : bkc (evB n 0) = bkc noK := bkc_ext fun j _ => if_neg (Nat.not_lt_zero j)
theorem ev_full (n : Nat) : bkc (evB n 16) = bkc (fun _ => n) := bkc_ext fun _ h => if_pos h
theorem ev_set (n m : Nat) : bkc (updB (evB n m) m n) = bkc (evB n (m + 1)) := bkc_ext fun i _ => by
  unfold evB
  by_cases e : i = m
  · subst e; rw [updB_at, if_pos (by omega)]
  · rw [updB_ne _ _ e]
    by_cases h : i < m
    · rw [if_pos h, if_pos (by omega)]
    · rw [if_neg h, if_neg (by omega)]
set_option maxRecDepth 100000 in
set_option maxHeartbeats 4000000 in
theorem bookEven_any (n : Nat) (hn : n < M) (w : World) :
    Calls Tryz.prog 27 #[.int .u64 (n : Int)] w fun e W' => e = .returned (bkv (fun _ => n)) ∧ Below w.heap.size w W' := by
  have hmx : Tryz.prog.follows .mixedOrders = true := by kernel_rfl
  have kR0 : Blk ((w.alloc (.cells (List.replicate 64 (Value.int .u64 0)).toArray 31)).alloc (.cells (List.replicate 64 (Value.int .u64 0)).toArray 31)) w.heap.size 31 (List.replicate 64 (Value.int .u64 0)) := (Blk.new' rfl).alloc _
  have kB0 : Blk ((w.alloc (.cells (List.replicate 64 (Value.int .u64 0)).toArray 31)).alloc (.cells (List.replicate 64 (Value.int .u64 0)).toArray 31)) (w.heap.size + 1) 31 (List.replicate 64 (Value.int .u64 0)) := Blk.new' (by simp)
  have hB0 := chainA (chain0 w (.cells (List.replicate 64 (Value.int .u64 0)).toArray 31)) (.cells (List.replicate 64 (Value.int .u64 0)).toArray 31)
  have HN := Lib.hid hn
  clear hn
  go_enter Tryz.func27, Tryz.ntmps27
  go_wp2_with ((with_reducible refine wpList_loadIf 31 (.tmp 3) ?_ (some 7) ?_ ?_ (bkv noK) ?_ ?_); (· rfl); (· rfl); (· rfl); (· exact load_book (by rw [bkc_no]; exact kB0)))
  generalize hX : World.alloc (World.alloc _ _) _ = X
  replace kR0 : Blk X w.heap.size 31 (bkc noK) := by rw [bkc_no, ← hX]; exact kR0
  replace kB0 : Blk X (w.heap.size + 1) 31 (bkc (evB n 0)) := by rw [ev_zero, bkc_no, ← hX]; exact kB0
  replace hB0 : Below w.heap.size w X := by rw [← hX]; exact hB0
  clear hX
  go_loopw [8] (fun i wr => ∃ k : Nat, k ≤ 8 ∧ i = .int .i64 k ∧ Blk wr (w.heap.size + 1) 31 (bkc (evB n (2 * k))) ∧ Blk wr w.heap.size 31 (bkc noK) ∧ Below w.heap.size w wr) (fun i _ => 8 - (intOf i).toNat)
  case atStart => exact ⟨0, by omega, rfl, kB0, kR0, hB0⟩
  clear kR0 kB0 hB0
  case round =>
    obtain ⟨k, hk, rfl, kB, kR, hB⟩ := hrel
    by_cases hlt : k < 8
    · have hlt' : (k : Int) < 8 := by omega
      obtain ⟨wo, rfl⟩ : ∃ wo : World, wo = wr := ⟨_, rfl⟩
      have kB1 := kB.alloc (.cells (rowB noK (2 * k) 2).toArray 29)
      have kR1 := kR.alloc (.cells (rowB noK (2 * k) 2).toArray 29)
      have hB1 := chainA hB (.cells (rowB noK (2 * k) 2).toArray 29)
      clear kB kR hB
      go_wp2_with (first
        | ((with_reducible refine wpList_indexTo ?_ 31 (.tmp 7) (.tmp 8) ?_ (some 11) ?_ (.agg (rowB noK (2 * k) 2).toArray) ?_ ?_); (· rfl); (· rfl); (· rfl); (· exact idx_row noK _ hlt))
        | ((with_reducible refine wpList_storeN 29 (.tmp 5) (.tmp 11) (.agg (rowB noK (2 * k) 2).toArray) (rowB noK (2 * k) 2) ?_ ?_ ?_ ?_ ?_ ?_ ?_ ?_ ?_ ?_); (· rfl); (· rfl); (· kernel_rfl); (· exact rowB_one _ _ _); (· rfl); (· rfl); (· rfl); (· rfl); (· rfl)))
      generalize wo.alloc _ = X1 at *
      go_loopw [12] (fun i wr => ∃ j : Nat, j ≤ 2 ∧ i = .int .i64 j ∧ Blk wr (w.heap.size + 1) 31 (bkc (evB n (2 * k + j))) ∧ Blk wr w.heap.size 31 (bkc noK) ∧ Below w.heap.size w wr) (fun i _ => 2 - (intOf i).toNat)
      case atStart => exact ⟨0, by omega, rfl, kB1, kR1, hB1⟩
      clear kB1 kR1 hB1
      case round =>
        obtain ⟨j, hj, rfl, kB, kR, hB⟩ := hrel
        by_cases hjt : j < 2
        · have hjt' : (j : Int) < 2 := by omega
          have HS := Lib.hid (ev_set n (2 * k + j))
          go_wp2_with fail
          refine wp_region_held_drew (S := fun W => True) hmx trivial ?_
          intro hS
          have hd : Below wr.heap.size wr wr.drew := (Below.refl _ wr).drew
          replace kB : Blk wr.drew _ _ _ := kB
          replace kR : Blk wr.drew _ _ _ := kR
          replace hB := hB.drew
          generalize wr.drew = Y at *
          refine' wpAnyH_take (i := 0) (oi := _) (v := _) ?hi1 (by kernel_rfl) (by kernel_rfl) (by kernel_rfl) ?hQ1 (Or.inl ⟨?hw1, ?hy1⟩) hS ?rest1
          case hi1 => simp only [List.getElem?_toArray, List.getElem?_cons_zero]; rfl
          case hQ1 => exact fun _ _ _ h => h
          case hw1 => rfl
          case hy1 => intro W' hS'; go_simp; with_reducible rfl
          try simp only [Act.put, List.setIfInBounds_toArray, List.set_cons_zero, List.set_cons_succ]
          refine' wpAnyH_take (i := 1) (oi := _) (v := _) ?hi2 (by kernel_rfl) (by kernel_rfl) (by kernel_rfl) ?hQ2 (Or.inl ⟨?hw2, ?hy2⟩) hS ?rest2
          case hi2 => simp only [List.getElem?_toArray, List.getElem?_cons_succ, List.getElem?_cons_zero]; rfl
          case hQ2 => exact fun _ _ _ h => h
          case hw2 => rfl
          case hy2 => intro W' hS'; go_simp; with_reducible rfl
          try simp only [Act.put, List.setIfInBounds_toArray, List.set_cons_zero, List.set_cons_succ]
          refine' wpAnyH_take (i := 2) (oi := _) (v := _) ?hi3 (by kernel_rfl) (by kernel_rfl) (by kernel_rfl) ?hQ3 (Or.inl ⟨?hw3, ?hy3⟩) hS ?rest3
          case hi3 => simp only [List.getElem?_toArray, List.getElem?_cons_succ, List.getElem?_cons_zero]; rfl
          case hQ3 => exact fun _ _ _ h => h
          case hw3 => rfl
          case hy3 => intro W' hS'; go_simp; with_reducible rfl
          try simp only [Act.put, List.setIfInBounds_toArray, List.set_cons_zero, List.set_cons_succ]
          refine' wpAnyH_take (i := 4) (oi := _) (v := _) ?hi4 (by kernel_rfl) (by kernel_rfl) (by kernel_rfl) ?hQ4 (Or.inl ⟨?hw4, ?hy4⟩) hS ?rest4
          case hi4 => simp only [List.getElem?_toArray, List.getElem?_cons_succ, List.getElem?_cons_zero]; rfl
          case hQ4 => exact fun _ _ _ h => h
          case hw4 => rfl
          case hy4 => intro W' hS'; go_simp; with_reducible rfl
          try simp only [Act.put, List.setIfInBounds_toArray, List.set_cons_zero, List.set_cons_succ]
          refine wpAnyH_ready (rs := [3]) (by kernel_rfl) (by simp) ?_
          refine' AllReadyH.cons (o := _) ?ho5 (fun K hK => ?st5) AllReadyH.nil
          case ho5 => simp only [List.getElem?_toArray, List.getElem?_cons_succ, List.getElem?_cons_zero]; rfl
          case st5 =>
            go_simp
            refine (ofN_any n HN.out _).mono ?_
            rintro e Y1 ⟨rfl, hb⟩
            replace kB := kB.below hb kB.lt
            replace kR := kR.below hb kR.lt
            replace hB := chain hB hb
            clear hb
            refine hK.out _ _ trivial (fun hS => ?_)
            clear hK K
            try simp only [Act.put, List.setIfInBounds_toArray, List.set_cons_zero, List.set_cons_succ]
            refine' wpAnyH_take (i := 5) (oi := _) (v := _) ?hi6 (by kernel_rfl) (by kernel_rfl) (by kernel_rfl) ?hQ6 (Or.inl ⟨?hw6, ?hy6⟩) hS ?rest6
            case hi6 => simp only [List.getElem?_toArray, List.getElem?_cons_succ, List.getElem?_cons_zero]; rfl
            case hQ6 => exact fun _ _ _ h => h
            case hw6 => rfl
            case hy6 => intro W' hS'; go_simp; with_reducible rfl
            try simp only [Act.put, List.setIfInBounds_toArray, List.set_cons_zero, List.set_cons_succ]
            refine wpAnyH_ready (rs := [6]) (by kernel_rfl) (by simp) ?_
            refine' AllReadyH.cons (o := _) ?ho7 (fun K hK => ?st7) AllReadyH.nil
            case ho7 => simp only [List.getElem?_toArray, List.getElem?_cons_succ, List.getElem?_cons_zero]; rfl
            case st7 =>
              refine wp_store_slot (.tmp 20) (.tmp 18) kB hlt hjt n rfl rfl rfl rfl ?_
              have hB2 := hB.grown (grownBy_row _ (w.heap.size + 1) (bkc (updB (evB n (2 * k + j)) (2 * k + j) n)).toArray) hB.size (fun e he => by cases he; omega)
              have kR2 := kR.rowO (bkc (updB (evB n (2 * k + j)) (2 * k + j) n)).toArray (show w.heap.size ≠ w.heap.size + 1 by omega)
              have kB2 := kB.row (bkc (updB (evB n (2 * k + j)) (2 * k + j) n))
              rw [HS.out] at hB2 kR2 kB2 ⊢
              refine hK.out _ _ trivial (fun hS => ?_)
              clear hK K
              try simp only [Act.put, List.setIfInBounds_toArray, List.set_cons_zero, List.set_cons_succ]
              refine wpAnyH_done (by kernel_rfl) ?_ _
              go_wp2_with fail
              go_roundw
              case rel => exact ⟨j + 1, by omega, by simp, kB2, kR2, hB2⟩
              case measure => simp [intOf]; omega
        · obtain rfl : j = 2 := by omega
          go_wp2_with fail
          go_roundw
          case rel => exact ⟨k + 1, by omega, by simp, kB, kR, hB⟩
          case measure => simp [intOf]; omega
    · obtain rfl : k = 8 := by omega
      rw [show 2 * 8 = 16 from rfl, ev_full] at kB
      go_wp2_with (first
        | ((with_reducible refine wpList_loadIf 31 (.tmp 3) ?_ (some 23) ?_ ?_ (bkv (fun _ => n)) ?_ ?_); (· rfl); (· rfl); (· rfl); (· exact load_book kB))
        | ((refine wpList_store_book (.tmp 2) (.tmp 23) kR (bkc_len noK) (fun _ => n) ?_ ?_ ?_ ?_ ?_ ?_); (· rfl); (· rfl); (· rfl); (· rfl); (· rfl)))
      exact bodyPost_ret (v := bkv (fun _ => n)) (res_bk rfl _ rfl (kR.row _)) rfl ⟨rfl, hB.grown (grownBy_row _ _ _) hB.size (fun e he => by cases he; omega)⟩
end Go.Proofs.YtfoemkmoambagaaGreat
namespace Go.Proofs.YtfoemkmoambagaaGreat
open Go.RowKit Go.Shelf
theorem OwnL.low {b b' : Nat} {W : World} {v : Value} {l : List Lk} (h : OwnL b W v l) (hb : b' ≤ b) : OwnL b' W v l := by
  refine ⟨h.1, ?_⟩
  rcases h.2 with h0 | ⟨g, cap, cur, e, hg, r⟩
  · exact .inl h0
  · exact .inr ⟨g, cap, cur, e, Nat.le_trans hb hg, r⟩
theorem OwnL.below {b : Nat} {W W' : World} {v : Value} {l : List Lk} (h : OwnL b W v l) (hb : Below W.heap.size W W') : OwnL b W' v l :=
  h.kept (row := none) ⟨hb.os, hb.tape, hb.output, hb.size, fun k hk _ => hb.block k hk⟩ (by cases v.ownBlock <;> simp)
theorem OwnL.none (b : Nat) (W : World) : OwnL b W (.slice none 0 0) [] := ⟨rfl, .inl ⟨rfl, rfl⟩⟩
def CloneR (l : List Lk) (w : World) (e : Ending) (W' : World) : Prop := ∃ v', e = .returned v' ∧ OwnL w.heap.size W' v' l ∧ Below w.heap.size w W'
set_option maxRecDepth 100000 in
set_option maxHeartbeats 4000000 in
theorem cloneL_any (l : List Lk) (v : Value) (w : World) {lo hi : Nat} (hl : RSl lkc lo hi w v l) (hhi : hi ≤ w.heap.size) (hr : l.length * 40 ≤ 140737488355328) :
    Calls Tryz.prog 45 #[v] w (CloneR l w) := by
  have hl0 := Lib.hid hl
  obtain ⟨hi', rfl⟩ : ∃ h, h = hi := ⟨_, rfl⟩
  obtain ⟨a, cap, rfl, _, _, h0⟩ := hl
  rcases a with _ | ad
  · have hn : l = [] := by
      rcases h0 with h0 | ⟨_, _, h, _⟩
      · exact h0
      · cases h
    subst hn
    change Calls _ _ #[.slice none 0 cap] _ _
    go_enter Tryz.func45, Tryz.ntmps45
    go_upto_region 1 with fail
    refine wp_region_from ?_
    refine tF 2 [.val 0 (some 3) (.slice none 0 cap), .val 1 (some 4) (.bool true)] trivial ?_
    refine dF ?_
    try simp only [puts, Tk.put, Act.put, List.setIfInBounds_toArray, List.set_cons_zero, List.set_cons_succ]
    go_wp2_with fail
    go_ret
    exact ⟨_, rfl, OwnL.none _ _, Below.refl _ _⟩
  · go_enter Tryz.func45, Tryz.ntmps45
    go_upto_region 1 with fail
    refine wp_region_from ?_
    refine tF 2 [.val 0 (some 3) (.slice (some ad) l.length cap), .val 1 (some 4) (.bool false)] trivial ?_
    refine dF ?_
    try simp only [puts, Tk.put, Act.put, List.setIfInBounds_toArray, List.set_cons_zero, List.set_cons_succ]
    go_upto_region 3 with fail
    refine wp_region_from ?_
    refine rF (some 5) (.slice (some ⟨w.heap.size, 0, none⟩) 0 0) (w.alloc (.cells #[] 91)) ?_
    refine tF 2 [.val 1 (some 6) (.slice (some ad) l.length cap)] trivial ?_
    have hown : OwnL w.heap.size (w.alloc (.cells #[] 91)) (.slice (some ⟨w.heap.size, 0, none⟩) 0 0) [] := World.ownsRow_lit w #[] 0 (Nat.le_refl _) (by unfold maxLen; omega) rfl
    have hb1 := chain0 w (.cells #[] 91)
    have hi0 : (Tryz.prog.info? 91).map (fun i => (i.zero, i.size, i.bytes)) = some (some (.agg #[.string ⟨#[]⟩, .string ⟨#[]⟩, .int .i64 0]), 3, 40) := by kernel_rfl
    obtain ⟨i0, hi, hz0, hz1, hz2⟩ := info_parts hi0
    have hlm := hl0.out.len
    obtain ⟨v', W', hrun, hO, hg, _⟩ := run_append_own (P := Tryz.prog) (w.alloc (.cells #[] 91)) w.heap.size 33 33 91 i0 _ 3 40 Tryz.underlying33 hi hz0 hz1 hz2 rfl (by decide) _ 0 [] hown ad l.length cap (flatR lkc l) (flat_len lkc_len l)
      (hl0.out.below ((Below.refl hi' w).alloc hhi _) (Nat.le_refl _)).cells (by
        intro u hu
        obtain ⟨y, _, hy⟩ := List.mem_flatMap.1 hu
        have h3 : u = .string y.ke ∨ u = .string y.dg ∨ u = .int .i64 y.st := by unfold lkc at hy; simpa using hy
        rcases h3 with rfl | rfl | rfl <;> rfl) (by rw [Nat.zero_add]; exact hlm) (by rw [Nat.zero_add]; exact hr) hb1.size
    refine wpFrom_append (d := some 7) (t := 33) (t' := 33) (ty := 33) (v := .slice (some ⟨w.heap.size, 0, none⟩) 0 0) (x := .slice (some ad) l.length cap) (by kernel_rfl) hrun ?_
    refine tF 4 [.val 3 (some 2) (v')] trivial ?_
    refine dF ?_
    try simp only [puts, Tk.put, Act.put, List.setIfInBounds_toArray, List.set_cons_zero, List.set_cons_succ]
    go_wp2_with fail
    go_ret
    refine ⟨_, rfl, ?_, hb1.grown hg hb1.size (fun k e => by have : w.heap.size = k := Option.some.inj e; omega)⟩
    unfold OwnL
    rw [Nat.zero_add, List.nil_append] at hO
    exact hO
abbrev nilV : Value := .slice none 0 0
def zS : Es := ⟨0, 0, noK, noK, fun _ => 0, noK, 0, []⟩
theorem res_st {fn : Func} {p : Tmp} (h : fn.results = #[.cell p 35]) (tmps : Array Value) {w : World} {g : Nat} {T : TypeId} {s : Es} {v : Value} (hp : tmps.getD p undef = .pointer (some ⟨g, 0, none⟩)) (hg : Blk w g T (stc s v)) :
    (results fn tmps).run Tryz.prog w = .ok (stv s v) w :=
  results_cell_row h tmps w g T (stc s v).toArray (0, 0) _ hp hg Tryz.underlying35 rfl (by rw [List.size_toArray, stc_len]; exact info_st)
def OwnR (s : Es) (w : World) (e : Ending) (W' : World) : Prop := ∃ v', e = .returned (stv s v') ∧ OwnL w.heap.size W' v' s.lk ∧ Below w.heap.size w W'
set_option maxRecDepth 100000 in
set_option maxHeartbeats 4000000 in
theorem own_any (s : Es) (v : Value) (w : World) {lo hi : Nat} (hl : RSl lkc lo hi w v s.lk) (hhi : hi ≤ w.heap.size) (hr : s.lk.length * 40 ≤ 140737488355328) :
    Calls Tryz.prog 43 #[stv s v] w (OwnR s w) := by
  have hM := Mem.start w
  have HL := Lib.hid hl
  clear hl
  go_enter Tryz.func43, Tryz.ntmps43
  go_upto_region 0 with fail
  refine wp_region_fromM (fun W => Mem w none [] W) hM ?_
  clear hM
  rintro Y1 hM
  refine rF (some 1) (pt Y1.heap.size 0) (Y1.alloc (.cells (stc s v).toArray 35)) ?_
  replace hM := hM.alloc 35 (stc s v)
  generalize World.alloc _ _ = Y2 at *
  generalize hNe : Y1.heap.size = P at *
  clear hNe
  refine rF (some 2) (pt Y2.heap.size 0) (Y2.alloc (.cells (stc zS nilV).toArray 35)) ?_
  replace hM := hM.alloc 35 (stc zS nilV)
  generalize World.alloc _ _ = Y3 at *
  generalize hNe : Y2.heap.size = R at *
  clear hNe
  refine dF ?_
  try simp only [Act.put, List.setIfInBounds_toArray, List.set_cons_zero, List.set_cons_succ]
  go_upto_region 1 with fail
  refine wp_region_fromM (fun W => Mem w none [(R, 35, stc zS nilV), (P, 35, stc s v)] W) hM ?_
  clear hM
  rintro Y4 hM
  refine tF 2 [.val 0 (some 3) (pt P 150), .load 1 (some 4) 33 (pt P 150) (v)] ⟨ld_lk (s := s) (hM.at 1 rfl), trivial⟩ ?_
  refine cF (some 5) 45 #[v] ((cloneL_any s.lk v _ (HL.out.below hM.b hhi) (Nat.le_trans hhi hM.size) hr).mono ?_)
  rintro e W1 ⟨v1, rfl, hO, hb⟩
  have hP := (hM.at 1 rfl).lt
  have hR := (hM.at 0 rfl).lt
  have hsz := hM.size
  replace hM := hM.below hb
  clear hb
  refine tF 4 [.val 3 (some 6) (pt P 150)] trivial ?_
  have hg1 := grownBy_row W1 P (stc s v1).toArray
  have hO1 := hO.grown hP hg1
  refine sF 33 (pt P 150) (v1) (sto_lk (hM.at 1 rfl) hO.one.1 hO.one.2) ?_
  replace hM := hM.set 1 (cs' := stc s v1) rfl rfl
  generalize World.setRow _ _ _ = Y5 at *
  refine dF ?_
  try simp only [puts, Tk.put, Act.put, List.setIfInBounds_toArray, List.set_cons_zero, List.set_cons_succ]
  clear hg1
  go_upto_region 2 with fail
  refine wp_region_fromM (fun W => Mem w none [(R, 35, stc zS nilV), (P, 35, stc s v1)] W ∧ OwnL Y4.heap.size W v1 s.lk) ⟨hM, hO1⟩ ?_
  clear hM hO1
  rintro Y6 ⟨hM, hO1⟩
  refine tF 1 [.load 0 (some 7) 35 (pt P 0) (stv (s) (v1))] ⟨ld_st (hM.at 1 rfl), trivial⟩ ?_
  have hg2 := grownBy_row Y6 R (stc s v1).toArray
  have hO2 := hO1.grown hR hg2
  refine sF 35 (pt R 0) (stv (s) (v1)) (sto_st (hM.at 0 rfl) (stc_len _ _) s hO1.one.1) ?_
  replace hM := hM.set 0 (cs' := stc s v1) rfl rfl
  generalize World.setRow _ _ _ = Y7 at *
  refine dF ?_
  try simp only [puts, Tk.put, Act.put, List.setIfInBounds_toArray, List.set_cons_zero, List.set_cons_succ]
  clear hg2
  go_wp2_with fail
  exact bodyPost_ret (v := stv s v1) (res_st rfl _ rfl (hM.at 0 rfl)) rfl ⟨v1, rfl, hO2.low hsz, hM.b⟩
def nearI (n m : Int) : Int := max 0 (min n m)
theorem nearest_any (n m : Int) (w : World) : Calls Tryz.prog 26 #[.int .i64 n, .int .i64 m] w fun e W' => e = .returned (.int .i64 (nearI n m)) ∧ W' = w := by
  by_cases h1 : m < n
  · by_cases h2 : 0 < m
    · have H := Lib.hid (show nearI n m = m by unfold nearI; omega)
      rw [H.out]
      go_enter Tryz.func26, Tryz.ntmps26
      go_wp2
      go_ret
      exact ⟨rfl, rfl⟩
    · have H := Lib.hid (show nearI n m = 0 by unfold nearI; omega)
      rw [H.out]
      go_enter Tryz.func26, Tryz.ntmps26
      go_wp2
      go_ret
      exact ⟨rfl, rfl⟩
  · by_cases h2 : 0 < n
    · have H := Lib.hid (show nearI n m = n by unfold nearI; omega)
      rw [H.out]
      go_enter Tryz.func26, Tryz.ntmps26
      go_wp2
      go_ret
      exact ⟨rfl, rfl⟩
    · have H := Lib.hid (show nearI n m = 0 by unfold nearI; omega)
      rw [H.out]
      go_enter Tryz.func26, Tryz.ntmps26
      go_wp2
      go_ret
      exact ⟨rfl, rfl⟩
def genP (a b : Int) : Es := ⟨nearI a 1, nearI b 1099511627776, fun _ => 1000, noK, fun _ => 0, noK, 0, []⟩
set_option maxRecDepth 100000 in
set_option maxHeartbeats 4000000 in
theorem genesis_any (a b : Int) (w : World) :
    Calls Tryz.prog 9 #[.int .i64 a, .int .i64 b] w fun e W' => e = .returned (stv (genP a b) nilV) ∧ Below w.heap.size w W' := by
  have hM := Mem.start w
  go_enter Tryz.func9, Tryz.ntmps9
  go_upto_region 0 with fail
  refine wp_region_fromM (fun W => Mem w none [] W) hM ?_
  clear hM
  rintro Y1 hM
  refine rF (some 4) (pt Y1.heap.size 0) (Y1.alloc (.cells (stc zS nilV).toArray 35)) ?_
  replace hM := hM.alloc 35 (stc zS nilV)
  generalize World.alloc _ _ = Y2 at *
  generalize hNe : Y1.heap.size = R at *
  clear hNe
  refine dF ?_
  try simp only [Act.put, List.setIfInBounds_toArray, List.set_cons_zero, List.set_cons_succ]
  go_upto_region 1 with fail
  refine wp_region_fromM (fun W => Mem w none [(R, 35, stc zS nilV)] W) hM ?_
  clear hM
  rintro Y3 hM
  refine tF 1 [.val 0 (some 5) (.int .i64 a)] trivial ?_
  refine cF (some 6) 26 #[.int .i64 a, .int .i64 1] ((nearest_any _ _ _).mono ?_)
  rintro e W1 ⟨rfl, rfl⟩
  refine tF 3 [.val 2 (some 7) (.int .i64 b)] trivial ?_
  refine cF (some 8) 26 #[.int .i64 b, .int .i64 1099511627776] ((nearest_any _ _ _).mono ?_)
  rintro e W1 ⟨rfl, rfl⟩
  refine cF (some 9) 27 #[.int .u64 1000] ((bookEven_any 1000 (by unfold M; decide) _).mono ?_)
  rintro e W2 ⟨rfl, hb⟩
  replace hM := hM.below hb
  clear hb
  refine tF 6 [.val 5 (some 10) (stv (genP a b) nilV)] trivial ?_
  refine sF 35 (pt R 0) (stv (genP a b) nilV) (sto_st (hM.at 0 rfl) (stc_len _ _) (genP a b) rfl) ?_
  replace hM := hM.set 0 (cs' := stc (genP a b) nilV) rfl rfl
  generalize World.setRow _ _ _ = Y4 at *
  refine dF ?_
  try simp only [puts, Tk.put, Act.put, List.setIfInBounds_toArray, List.set_cons_zero, List.set_cons_succ]
  go_wp2_with fail
  exact bodyPost_ret (v := stv (genP a b) nilV) (res_st rfl _ rfl (hM.at 0 rfl)) rfl ⟨rfl, hM.b⟩
def riseP (s : Es) (n : Int) : Es := { s with tm := s.tm + nearI n (1099511627776 - s.tm) }
set_option maxRecDepth 100000 in
set_option maxHeartbeats 4000000 in
theorem esc_rise_any (s : Es) (v : Value) (n : Int) (w : World) (ht : 0 ≤ s.tm ∧ s.tm ≤ 1099511627776) {lo hi : Nat} (hl : RSl lkc lo hi w v s.lk) (hhi : hi ≤ w.heap.size) (hr : s.lk.length * 40 ≤ 140737488355328) :
    Calls Tryz.prog 16 #[stv s v, .int .i64 n] w (OwnR (riseP s n) w) := by
  have hmx : Tryz.prog.follows .mixedOrders = true := by kernel_rfl
  have hM := Mem.start w
  have HL := Lib.hid hl
  clear hl
  go_enter Tryz.func16, Tryz.ntmps16
  go_upto_region 0 with fail
  refine wp_region_fromM (fun W => Mem w none [] W) hM ?_
  clear hM
  rintro Y1 hM
  refine rF (some 2) (pt Y1.heap.size 0) (Y1.alloc (.cells (stc s v).toArray 35)) ?_
  replace hM := hM.alloc 35 (stc s v)
  generalize World.alloc _ _ = Y2 at *
  generalize hNe : Y1.heap.size = P at *
  clear hNe
  refine rF (some 4) (pt Y2.heap.size 0) (Y2.alloc (.cells (stc zS nilV).toArray 35)) ?_
  replace hM := hM.alloc 35 (stc zS nilV)
  generalize World.alloc _ _ = Y3 at *
  generalize hNe : Y2.heap.size = R at *
  clear hNe
  refine dF ?_
  try simp only [Act.put, List.setIfInBounds_toArray, List.set_cons_zero, List.set_cons_succ]
  go_upto_region 1 with fail
  refine wp_region_fromM (fun W => Mem w none [(R, 35, stc zS nilV), (P, 35, stc s v)] W) hM ?_
  clear hM
  rintro Y4 hM
  refine tF 1 [.load 0 (some 5) 35 (pt P 0) (stv (s) (v))] ⟨ld_st (hM.at 1 rfl), trivial⟩ ?_
  refine cF (some 6) 43 #[stv (s) (v)] ((own_any s v _ (HL.out.below hM.b hhi) (Nat.le_trans hhi hM.size) hr).mono ?_)
  rintro e W1 ⟨v1, rfl, hO, hb⟩
  have hP := (hM.at 1 rfl).lt
  have hR := (hM.at 0 rfl).lt
  have hsz := hM.size
  replace hM := hM.below hb
  clear hb
  have hg1 := grownBy_row W1 P (stc s v1).toArray
  replace hO := hO.grown hP hg1
  refine sF 35 (pt P 0) (stv s v1) (sto_st (hM.at 1 rfl) (stc_len _ _) s hO.one.1) ?_
  replace hM := hM.set 1 (cs' := stc s v1) rfl rfl
  generalize World.setRow _ _ _ = Y5 at *
  refine dF ?_
  try simp only [puts, Tk.put, Act.put, List.setIfInBounds_toArray, List.set_cons_zero, List.set_cons_succ]
  clear hg1
  go_upto_region 2 with fail
  replace hO : OwnL Y4.heap.size (World.drew _) v1 s.lk := hO.drew
  refine wp_region_M (fun W => Mem w none [(R, 35, stc zS nilV)] W) (fun W => Mem w none [(R, 35, stc zS nilV), (P, 35, stc s v1)] W ∧ OwnL Y4.heap.size W v1 s.lk) hmx ⟨hM.drew, hO⟩ ?_
  clear hM hO
  rintro Y6 ⟨hM, hO⟩
  have hS := hM.sub (.cons_cons _ (.cons _ .slnil))
  refine tD 7 [.val 0 (some 7) (pt P 1), .val 2 (some 9) (.int .i64 n), .val 3 (some 10) (pt P 1)] trivial hS ?_
  refine oT 1 4 6 ?_ ?_
  · refine lD (some 8) 3 (pt P 1) (.int .i64 s.tm) (ld_int (hM.at 1 rfl) 1 rfl) (hS) ?_
    refine oD 4 5 (lD (some 11) 3 (pt P 1) (.int .i64 s.tm) (ld_int (hM.at 1 rfl) 1 rfl) (hS) ?_)
    refine tD 4 [.alt 5 (some 12) (.int .i64 (IntKind.i64.wrap (1099511627776 - s.tm))) (.int .i64 (1099511627776 - s.tm))] ⟨congrArg (Value.int .i64) (IntWalk.i64_in _ (by omega)), trivial⟩ hS ?_
    refine oD 6 3 (cD (some 13) 26 #[.int .i64 n, .int .i64 (1099511627776 - s.tm)] ((nearest_any _ _ _).mono ?_))
    rintro e Y7 ⟨rfl, rfl⟩
    refine And.intro (hS) ?_
    refine tD 1 [.alt 7 (some 14) (.int .i64 (IntKind.i64.wrap (s.tm + nearI n (1099511627776 - s.tm)))) (.int .i64 (s.tm + nearI n (1099511627776 - s.tm))), .val 8 (some 15) (pt P 1)] ⟨congrArg (Value.int .i64) (IntWalk.i64_in _ (by unfold nearI; omega)), trivial⟩ hS ?_
    have hg2 := grownBy_row Y7 P (stc (riseP s n) v1).toArray
    have hO2 := hO.grown hP hg2
    have hM1 := hM.set 1 (cs' := stc (riseP s n) v1) rfl rfl
    refine oD 9 0 (sD (w' := Y7.setRow P (stc (riseP s n) v1).toArray) 3 (pt P 1) (.int .i64 (s.tm + nearI n (1099511627776 - s.tm))) (sto_tm (hM.at 1 rfl) _) (hM1.sub (.cons_cons _ (.cons _ .slnil))) ?_)
    replace hS := hM1.sub (.cons_cons _ (.cons _ .slnil))
    replace hM := hM1
    clear hM1
    generalize World.setRow _ _ _ = Y8 at *
    refine dD ?_
    try simp only [puts, Tk.put, Act.put, List.setIfInBounds_toArray, List.set_cons_zero, List.set_cons_succ]
    clear hS hg2
    go_upto_region 3 with fail
    refine wp_region_fromM (fun W => Mem w none [(R, 35, stc zS nilV), (P, 35, stc (riseP s n) v1)] W ∧ OwnL Y4.heap.size W v1 s.lk) ⟨hM, hO2⟩ ?_
    clear hM hO2
    rintro Y9 ⟨hM, hO2⟩
    refine tF 1 [.load 0 (some 16) 35 (pt P 0) (stv (riseP s n) (v1))] ⟨ld_st (hM.at 1 rfl), trivial⟩ ?_
    have hg3 := grownBy_row Y9 R (stc (riseP s n) v1).toArray
    have hO3 := hO2.grown hR hg3
    refine sF 35 (pt R 0) (stv (riseP s n) (v1)) (sto_st (hM.at 0 rfl) (stc_len _ _) (riseP s n) hO2.one.1) ?_
    replace hM := hM.set 0 (cs' := stc (riseP s n) v1) rfl rfl
    generalize World.setRow _ _ _ = Y10 at *
    refine dF ?_
    try simp only [puts, Tk.put, Act.put, List.setIfInBounds_toArray, List.set_cons_zero, List.set_cons_succ]
    clear hg3
    go_wp2_with fail
    exact bodyPost_ret (v := stv (riseP s n) v1) (res_st rfl _ rfl (hM.at 0 rfl)) rfl ⟨v1, rfl, hO3.low hsz, hM.b⟩
  · refine lD (some 11) 3 (pt P 1) (.int .i64 s.tm) (ld_int (hM.at 1 rfl) 1 rfl) (hS) ?_
    refine tD 5 [.alt 5 (some 12) (.int .i64 (IntKind.i64.wrap (1099511627776 - s.tm))) (.int .i64 (1099511627776 - s.tm))] ⟨congrArg (Value.int .i64) (IntWalk.i64_in _ (by omega)), trivial⟩ hS ?_
    refine oT 1 6 4 ?_ ?_
    · refine lD (some 8) 3 (pt P 1) (.int .i64 s.tm) (ld_int (hM.at 1 rfl) 1 rfl) (hS) ?_
      refine oD 6 3 (cD (some 13) 26 #[.int .i64 n, .int .i64 (1099511627776 - s.tm)] ((nearest_any _ _ _).mono ?_))
      rintro e Y11 ⟨rfl, rfl⟩
      refine And.intro (hS) ?_
      refine tD 1 [.alt 7 (some 14) (.int .i64 (IntKind.i64.wrap (s.tm + nearI n (1099511627776 - s.tm)))) (.int .i64 (s.tm + nearI n (1099511627776 - s.tm))), .val 8 (some 15) (pt P 1)] ⟨congrArg (Value.int .i64) (IntWalk.i64_in _ (by unfold nearI; omega)), trivial⟩ hS ?_
      have hg2 := grownBy_row Y11 P (stc (riseP s n) v1).toArray
      have hO2 := hO.grown hP hg2
      have hM1 := hM.set 1 (cs' := stc (riseP s n) v1) rfl rfl
      refine oD 9 0 (sD (w' := Y11.setRow P (stc (riseP s n) v1).toArray) 3 (pt P 1) (.int .i64 (s.tm + nearI n (1099511627776 - s.tm))) (sto_tm (hM.at 1 rfl) _) (hM1.sub (.cons_cons _ (.cons _ .slnil))) ?_)
      replace hS := hM1.sub (.cons_cons _ (.cons _ .slnil))
      replace hM := hM1
      clear hM1
      generalize World.setRow _ _ _ = Y12 at *
      refine dD ?_
      try simp only [puts, Tk.put, Act.put, List.setIfInBounds_toArray, List.set_cons_zero, List.set_cons_succ]
      clear hS hg2
      go_upto_region 3 with fail
      refine wp_region_fromM (fun W => Mem w none [(R, 35, stc zS nilV), (P, 35, stc (riseP s n) v1)] W ∧ OwnL Y4.heap.size W v1 s.lk) ⟨hM, hO2⟩ ?_
      clear hM hO2
      rintro Y13 ⟨hM, hO2⟩
      refine tF 1 [.load 0 (some 16) 35 (pt P 0) (stv (riseP s n) (v1))] ⟨ld_st (hM.at 1 rfl), trivial⟩ ?_
      have hg3 := grownBy_row Y13 R (stc (riseP s n) v1).toArray
      have hO3 := hO2.grown hR hg3
      refine sF 35 (pt R 0) (stv (riseP s n) (v1)) (sto_st (hM.at 0 rfl) (stc_len _ _) (riseP s n) hO2.one.1) ?_
      replace hM := hM.set 0 (cs' := stc (riseP s n) v1) rfl rfl
      generalize World.setRow _ _ _ = Y14 at *
      refine dF ?_
      try simp only [puts, Tk.put, Act.put, List.setIfInBounds_toArray, List.set_cons_zero, List.set_cons_succ]
      clear hg3
      go_wp2_with fail
      exact bodyPost_ret (v := stv (riseP s n) v1) (res_st rfl _ rfl (hM.at 0 rfl)) rfl ⟨v1, rfl, hO3.low hsz, hM.b⟩
    · refine cD (some 13) 26 #[.int .i64 n, .int .i64 (1099511627776 - s.tm)] ((nearest_any _ _ _).mono ?_)
      rintro e Y15 ⟨rfl, rfl⟩
      refine And.intro (hS) ?_
      refine oD 1 3 (lD (some 8) 3 (pt P 1) (.int .i64 s.tm) (ld_int (hM.at 1 rfl) 1 rfl) (hS) ?_)
      refine tD 1 [.alt 7 (some 14) (.int .i64 (IntKind.i64.wrap (s.tm + nearI n (1099511627776 - s.tm)))) (.int .i64 (s.tm + nearI n (1099511627776 - s.tm))), .val 8 (some 15) (pt P 1)] ⟨congrArg (Value.int .i64) (IntWalk.i64_in _ (by unfold nearI; omega)), trivial⟩ hS ?_
      have hg2 := grownBy_row Y15 P (stc (riseP s n) v1).toArray
      have hO2 := hO.grown hP hg2
      have hM1 := hM.set 1 (cs' := stc (riseP s n) v1) rfl rfl
      refine oD 9 0 (sD (w' := Y15.setRow P (stc (riseP s n) v1).toArray) 3 (pt P 1) (.int .i64 (s.tm + nearI n (1099511627776 - s.tm))) (sto_tm (hM.at 1 rfl) _) (hM1.sub (.cons_cons _ (.cons _ .slnil))) ?_)
      replace hS := hM1.sub (.cons_cons _ (.cons _ .slnil))
      replace hM := hM1
      clear hM1
      generalize World.setRow _ _ _ = Y16 at *
      refine dD ?_
      try simp only [puts, Tk.put, Act.put, List.setIfInBounds_toArray, List.set_cons_zero, List.set_cons_succ]
      clear hS hg2
      go_upto_region 3 with fail
      refine wp_region_fromM (fun W => Mem w none [(R, 35, stc zS nilV), (P, 35, stc (riseP s n) v1)] W ∧ OwnL Y4.heap.size W v1 s.lk) ⟨hM, hO2⟩ ?_
      clear hM hO2
      rintro Y17 ⟨hM, hO2⟩
      refine tF 1 [.load 0 (some 16) 35 (pt P 0) (stv (riseP s n) (v1))] ⟨ld_st (hM.at 1 rfl), trivial⟩ ?_
      have hg3 := grownBy_row Y17 R (stc (riseP s n) v1).toArray
      have hO3 := hO2.grown hR hg3
      refine sF 35 (pt R 0) (stv (riseP s n) (v1)) (sto_st (hM.at 0 rfl) (stc_len _ _) (riseP s n) hO2.one.1) ?_
      replace hM := hM.set 0 (cs' := stc (riseP s n) v1) rfl rfl
      generalize World.setRow _ _ _ = Y18 at *
      refine dF ?_
      try simp only [puts, Tk.put, Act.put, List.setIfInBounds_toArray, List.set_cons_zero, List.set_cons_succ]
      clear hg3
      go_wp2_with fail
      exact bodyPost_ret (v := stv (riseP s n) v1) (res_st rfl _ rfl (hM.at 0 rfl)) rfl ⟨v1, rfl, hO3.low hsz, hM.b⟩
end Go.Proofs.YtfoemkmoambagaaGreat
namespace Go.Proofs.YtfoemkmoambagaaGreat
open Go.RowKit Go.Shelf
section
variable {P : Program} {ops : Array Oper} {Q : Exit → Act → World → Prop}
theorem wpFrom_defer {k : Nat} {a : Act} {w : World} {d : Deferred} (hr : runAt P ops k a w = some (true, none, .ok (.defer d) w)) (h : wpFrom P ops Q (k + 1) { a with defers := d :: a.defers } w) : wpFrom P ops Q k a w := by
  obtain ⟨o, ho⟩ := some_of hr
  unfold runAt at hr
  rw [ho] at hr
  have e := Option.some.inj hr
  have h1 : Region.wanted o (yielded ops a.tmps) = true := congrArg Prod.fst e
  have h2 : o.dst = none := congrArg (fun x => x.2.1) e
  have h3 : (execOp a.eval o).run P w = .ok (.defer d) w := congrArg (fun x => x.2.2) e
  refine wpFrom_step ho fun K hK => ?_
  rw [if_pos h1]
  unfold Oper.wp
  rw [h3]
  have : K (({ a with defers := d :: a.defers } : Act).put o.dst undef) w := by rw [h2]; exact hK _ _ h
  exact this
end
theorem wp_act {P : Program} {c : Code} {Q : Exit → Act → World → Prop} {a a' : Act} {w : World} (h : a = a') (hw : c.wp P Q a' w) : c.wp P Q a w := by rw [h]; exact hw
theorem sto_er {W : World} {B : Nat} {T : TypeId} {x : Value} (h : Blk W B T [x]) (c : Int) : (Instr.storeAt 47 (.pointer (some ⟨B, 0, none⟩)) (.int .i64 c)).run Tryz.prog W = .ok () (W.setRow B [.int .i64 c].toArray) :=
  sto_part _ h 0 _ _ [.int .i64 c] rfl (by kernel_rfl) (Nat.le_refl _) rfl rfl
theorem catch_idle (p q r : Value) (w : World) :
    CallsD Tryz.prog 56 #[p, q, r] .returning w fun e u' W' => e = .returned (.tuple #[]) ∧ u' = .returning ∧ W' = w := by
  refine callsD_of_wpS Tryz.func56 rfl fun c₀ cs hu => ?_
  apply wpS_seq
  apply wpS_region
  simp [wpOpsS, go_sem, recoverD, hu, Tryz.ntmps56, Exit.thenS]
  apply wpS_seq
  apply wpS_seq
  apply wpS_region
  simp [wpOpsS, go_sem, Exit.thenS]
  refine wpS_cond (t := true) (by simp [Act.eval, Array.replicate]) ?_
  simp only [if_true]
  refine wpS_of_wp (wp_ret ?_)
  cases c₀
  simp_all [bodyPostS, results, Tryz.results56, Exit.thenS]
def CatchR (s : Es) (c : Int) (P Q R : Nat) (w : World) (W' : World) : Prop := ∃ v', Blk W' Q 35 (stc s v') ∧ Blk W' R 47 [.int .i64 c] ∧ OwnL w.heap.size W' v' s.lk ∧ Below P w W'
set_option maxRecDepth 100000 in
set_option maxHeartbeats 4000000 in
theorem catch_any (c : Int) (s : Es) (v : Value) {P Q R lo hi : Nat} (hPQ : P < Q) (hQR : Q < R) (w : World) (hP : Blk w P 35 (stc s v)) (hQ : BlkN w Q) {x : Value} (hR : Blk w R 47 [x]) (hl : RSl lkc lo hi w v s.lk) (hhi : hi ≤ w.heap.size) (hr : s.lk.length * 40 ≤ 140737488355328) :
    CallsD Tryz.prog 56 #[.pointer (some ⟨P, 0, none⟩), .pointer (some ⟨Q, 0, none⟩), .pointer (some ⟨R, 0, none⟩)] (.panicking [{ v := .iface 103 (.int .i64 c), recovered := false }]) w fun e u' W' => e = .returned (.tuple #[]) ∧ u' = .panicking [{ v := .iface 103 (.int .i64 c), recovered := true }] ∧ CatchR s c P Q R w W' := by
  obtain ⟨vs, hvs, hQ⟩ := hQ
  refine callsD_of_wpS Tryz.func56 rfl fun c₀ cs hu => ?_
  apply wpS_seq
  apply wpS_region
  simp [wpOpsS, go_sem, recoverD, hu, Tryz.ntmps56, Exit.thenS]
  refine wpS_of_wp ?_
  refine wp_act (a' := { tmps := #[.pointer (some ⟨P, 0, none⟩), .pointer (some ⟨Q, 0, none⟩), .pointer (some ⟨R, 0, none⟩), .iface 103 (.int .i64 c), undef, undef, .iface 103 (.int .i64 c), undef, undef, undef, undef, undef, undef, undef, undef, undef, undef, undef, undef, undef], defers := [] }) (by kernel_rfl) ?_
  go_upto_region 1 with fail
  refine wp_region_from ?_
  refine tF 2 [.val 0 (some 7) (.iface 103 (.int .i64 c)), .val 1 (some 8) (.bool false)] trivial ?_
  refine dF ?_
  try simp only [puts, Tk.put, Act.put, List.setIfInBounds_toArray, List.set_cons_zero, List.set_cons_succ]
  go_upto_region 2 with fail
  refine wp_region_from ?_
  refine tF 7 [.val 0 (some 10) (.iface 103 (.int .i64 c)), .val 1 (some 11) (.tuple #[.int .i64 c, .bool true]), .val 2 (some 9) (.tuple #[.int .i64 c, .bool true]), .val 3 (some 12) (.int .i64 c), .val 4 (some 13) (.bool true), .val 5 (some 4) (.int .i64 c), .val 6 (some 5) (.bool true)] trivial ?_
  refine dF ?_
  try simp only [puts, Tk.put, Act.put, List.setIfInBounds_toArray, List.set_cons_zero, List.set_cons_succ]
  go_upto_region 3 with fail
  refine wp_region_from ?_
  refine tF 2 [.val 0 (some 14) (.bool true), .val 1 (some 15) (.bool false)] trivial ?_
  refine dF ?_
  try simp only [puts, Tk.put, Act.put, List.setIfInBounds_toArray, List.set_cons_zero, List.set_cons_succ]
  go_upto_region 5 with fail
  refine wp_region_from ?_
  refine tF 1 [.load 0 (some 17) 35 (pt P 0) (stv s v)] ⟨ld_st hP, trivial⟩ ?_
  refine cF (some 18) 43 #[stv s v] ((own_any s v w hl hhi hr).mono ?_)
  rintro e W1 ⟨v1, rfl, hO, hb⟩
  refine tF 3 [.val 2 (some 19) (.int .i64 c)] trivial ?_
  have hQ1 := hQ.below hb hQ.lt
  have hR1 := hR.below hb hR.lt
  have hQl := hQ.lt
  have hRl := hR.lt
  have hg1 := grownBy_row W1 Q (stc s v1).toArray
  have hO1 := hO.grown hQl hg1
  have hQ2 := hQ1.row (stc s v1)
  have hR2 := hR1.rowO (stc s v1).toArray (show R ≠ Q by omega)
  have hB0 : Below P w W1 := hb.mono (by omega)
  have hB1 := hB0.grown hg1 (show P ≤ W1.heap.size from Nat.le_trans (by omega) hb.size) (fun e he => by cases he; omega)
  refine sF (w' := W1.setRow Q (stc s v1).toArray) 35 (pt Q 0) (stv s v1) (sto_st hQ1 hvs s hO.one.1) ?_
  generalize W1.setRow Q (stc s v1).toArray = W2 at *
  have hg2 := grownBy_row W2 R [.int .i64 c].toArray
  have hO2 := hO1.grown hRl hg2
  have hQ3 := hQ2.rowO [.int .i64 c].toArray (show Q ≠ R by omega)
  have hR3 := hR2.row [.int .i64 c]
  have hB2 := hB1.grown hg2 (Nat.le_trans (Nat.le_of_lt hP.lt) hB1.size) (fun e he => by cases he; omega)
  refine sF (w' := W2.setRow R [.int .i64 c].toArray) 47 (pt R 0) (.int .i64 c) (sto_er hR2 c) ?_
  generalize W2.setRow R [.int .i64 c].toArray = W3 at *
  refine dF ?_
  try simp only [puts, Tk.put, Act.put, List.setIfInBounds_toArray, List.set_cons_zero, List.set_cons_succ]
  clear hg1 hg2
  go_wp2_with fail
  exact ⟨rfl, _, rfl, _, by kernel_rfl, rfl, rfl, v1, hQ3, hR3, hO2, hB2⟩
def AttR (s : Es) (p : Es × Int) (w : World) (e : Ending) (W' : World) : Prop := ∃ v', e = .returned (.tuple #[stv (if p.2 = 0 then p.1 else s) v', .int .i64 p.2]) ∧ OwnL w.heap.size W' v' (if p.2 = 0 then p.1 else s).lk ∧ Below w.heap.size w W'
theorem res_att {fn : Func} {p q : Tmp} (h : fn.results = #[.cell p 35, .cell q 47]) (tmps : Array Value) {w : World} {g r : Nat} {T U : TypeId} {s : Es} {v : Value} {c : Int} (hp : tmps.getD p undef = .pointer (some ⟨g, 0, none⟩)) (hq : tmps.getD q undef = .pointer (some ⟨r, 0, none⟩)) (hg : Blk w g T (stc s v)) (hr : Blk w r U [.int .i64 c]) :
    (results fn tmps).run Tryz.prog w = .ok (.tuple #[stv s v, .int .i64 c]) w := by
  have hp' : tmps[p]?.getD undef = .pointer (some ⟨g, 0, none⟩) := by simpa using hp
  have hq' : tmps[q]?.getD undef = .pointer (some ⟨r, 0, none⟩) := by simpa using hq
  have hc := hr.cell 0
  have hagg : (isAgg 47).run Tryz.prog w = .ok false w := by kernel_rfl
  have h2 : (loadVar 47 ⟨r, 0, none⟩).run Tryz.prog w = .ok (.int .i64 c) w := by
    simp [loadVar, Sem.run_bind, hagg, hc]
  simp [results, h, hp', hq', asAddr, h2, run_loadVar_row w g T 35 (stc s v).toArray (0, 0) _ hg Tryz.underlying35 rfl (by rw [List.size_toArray, stc_len]; exact info_st)]
set_option maxRecDepth 100000 in
set_option maxHeartbeats 4000000 in
theorem attempt1_any (cap : Value) (s : Es) (v : Value) (p : Es × Int) (w : World) {lo : Nat} (hl : RSl lkc lo w.heap.size w v s.lk) (hr : s.lk.length * 40 ≤ 140737488355328)
    (hd : ∀ (W : World) (v1 : Value) (B b0 : Nat), Below w.heap.size w W → w.heap.size ≤ B → B < b0 → b0 ≤ W.heap.size → Blk W B 35 (stc s v1) → OwnL b0 W v1 s.lk → Calls Tryz.prog 37 #[.pointer (some ⟨B, 0, none⟩), cap] W (EndL W B b0 p)) :
    Calls Tryz.prog 36 #[stv s v, .func (.func 37) #[] #[cap]] w (AttR s p w) := by
  have HD := Lib.hid hd
  have HL := Lib.hid hl
  clear hd hl
  have hM := Mem.start w
  go_enter_defers Tryz.func36, Tryz.ntmps36
  go_upto_region 0 with fail
  refine wp_region_fromM (fun W => Mem w none [] W) hM ?_
  clear hM
  rintro Y1 hM
  refine rF (some 2) (pt Y1.heap.size 0) (Y1.alloc (.cells (stc s v).toArray 35)) ?_
  replace hM := hM.alloc 35 (stc s v)
  generalize World.alloc _ _ = Y2 at *
  generalize hNe : Y1.heap.size = P at *
  clear hNe
  have hP0 := (hM.at 0 rfl).lt
  refine rF (some 4) (pt Y2.heap.size 0) (Y2.alloc (.cells (stc zS nilV).toArray 35)) ?_
  replace hM := hM.alloc 35 (stc zS nilV)
  generalize World.alloc _ _ = Y3 at *
  generalize hNe : Y2.heap.size = Q at *
  clear hNe
  have hQ0 := (hM.at 0 rfl).lt
  refine rF (some 5) (pt Y3.heap.size 0) (Y3.alloc (.cells ([.int .i64 0]).toArray 47)) ?_
  replace hM := hM.alloc 47 ([.int .i64 0])
  generalize World.alloc _ _ = Y4 at *
  generalize hNe : Y3.heap.size = R at *
  clear hNe
  refine dF ?_
  try simp only [Act.put, List.setIfInBounds_toArray, List.set_cons_zero, List.set_cons_succ]
  have hQP : P < Q := (List.pairwise_cons.1 (List.pairwise_cons.1 hM.2.1).2).1 _ (List.mem_singleton.2 rfl)
  have hRQ : Q < R := (List.pairwise_cons.1 hM.2.1).1 _ (List.mem_cons_self ..)
  clear hP0 hQ0
  go_upto_region 1 with fail
  refine wp_region_fromM (fun W => Mem w none [(R, 47, [.int .i64 0]), (Q, 35, stc zS nilV), (P, 35, stc s v)] W) hM ?_
  clear hM
  rintro Y5 hM
  refine tF 1 [.val 0 (some 6) (.func (.func 56) #[] #[.pointer (some ⟨P, 0, none⟩), .pointer (some ⟨Q, 0, none⟩), .pointer (some ⟨R, 0, none⟩)])] trivial ?_
  refine wpFrom_defer (d := { target := .fn (.func 56) #[.pointer (some ⟨P, 0, none⟩), .pointer (some ⟨Q, 0, none⟩), .pointer (some ⟨R, 0, none⟩)], args := #[] }) (by kernel_rfl) ?_
  refine dF ?_
  try simp only [puts, Tk.put, Act.put, List.setIfInBounds_toArray, List.set_cons_zero, List.set_cons_succ]
  go_upto_region 2 with fail
  refine wp_region_fromM (fun W => Mem w none [(R, 47, [.int .i64 0]), (Q, 35, stc zS nilV), (P, 35, stc s v)] W) hM ?_
  clear hM
  rintro Y6 hM
  refine tF 1 [.load 0 (some 7) 35 (pt P 0) (stv (s) (v))] ⟨ld_st (hM.at 2 rfl), trivial⟩ ?_
  refine cF (some 8) 43 #[stv (s) (v)] ((own_any s v _ (HL.out.below hM.b (Nat.le_refl _)) hM.size hr).mono ?_)
  rintro e W1 ⟨v1, rfl, hO, hb⟩
  have hRl := (hM.at 0 rfl).lt
  replace hM := hM.below hb
  have hb1 := hb.size
  clear hb
  have hg1 := grownBy_row W1 Q (stc s v1).toArray
  replace hO := hO.grown (Nat.lt_trans hRQ hRl) hg1
  refine sF (w' := W1.setRow Q (stc s v1).toArray) 35 (pt Q 0) (stv s v1) (sto_st (hM.at 1 rfl) (stc_len _ _) s hO.one.1) ?_
  replace hM := hM.set 1 (cs' := stc s v1) rfl rfl
  generalize World.setRow _ _ _ = Y7 at *
  refine dF ?_
  try simp only [puts, Tk.put, Act.put, List.setIfInBounds_toArray, List.set_cons_zero, List.set_cons_succ]
  have hbw := Nat.le_trans hb1 hg1.size
  clear hg1 hb1
  go_upto_region 3 with fail
  refine wp_region_fromM (fun W => Mem w none [(R, 47, [.int .i64 0]), (Q, 35, stc s v1), (P, 35, stc s v)] W ∧ OwnL Y6.heap.size W v1 s.lk ∧ Y6.heap.size ≤ W.heap.size) ⟨hM, hO, hbw⟩ ?_
  clear hM hO hbw
  rintro Y8 ⟨hM, hO, hbw⟩
  refine tF 1 [.val 0 (some 9) (.func (.func 37) #[] #[cap])] trivial ?_
  generalize hb0 : Y6.heap.size = b0 at *
  clear hb0
  refine cF (some 10) 37 #[.pointer (some ⟨Q, 0, none⟩), cap] ((HD.out Y8 v1 Q b0 hM.b (hM.ge 1 rfl (by simp)) (Nat.lt_trans hRQ hRl) hbw (hM.at 1 rfl) hO).mono ?_)
  rintro e W2 h
  have hPb := Turn.blk (k := P) (b0 := b0) (B := Q) h.1 (by omega) (by omega) (hM.at 2 rfl)
  have hRb := Turn.blk (k := R) (b0 := b0) (B := Q) h.1 hRl (by omega) (hM.at 0 rfl)
  have hge := hM.ge 2 rfl (by simp)
  have hBl : Below w.heap.size w W2 := ⟨h.1.1.trans hM.b.os, h.1.2.1.trans hM.b.tape, h.1.2.2.1.trans hM.b.output, Nat.le_trans hM.b.size h.1.2.2.2.1, fun k hk => (h.1.2.2.2.2 k (by omega) (by omega)).trans (hM.b.block k hk)⟩
  rcases h.two with ⟨h0, rfl, _, v', hB, hO'⟩ | ⟨h0, rfl, _, hN⟩
  case inr =>
    refine leaves_cons (f := 56) (args := #[.pointer (some ⟨P, 0, none⟩), .pointer (some ⟨Q, 0, none⟩), .pointer (some ⟨R, 0, none⟩)]) (by simp) (by kernel_rfl) ?_
    refine (catch_any p.2 s v hQP hRQ W2 hPb hN hRb (HL.out.below hBl (Nat.le_refl _)) hBl.size hr).mono ?_
    rintro e u' W3 ⟨rfl, rfl, v2, hQ3, hR3, hO3, hB3⟩
    refine ⟨_, res_att rfl _ rfl rfl hQ3 hR3, v2, ?_, ?_, ?_⟩
    · rw [if_neg h0]
    · rw [if_neg h0]; exact hO3.low hBl.size
    · exact hBl.trans (hB3.mono hge) 
  refine dF ?_
  try simp only [puts, Tk.put, Act.put, List.setIfInBounds_toArray, List.set_cons_zero, List.set_cons_succ]
  clear h hO hM
  go_upto_region 4 with fail
  refine wp_region_from ?_
  refine tF 1 [.load 0 (some 11) 35 (pt Q 0) (stv p.1 v')] ⟨ld_st hB, trivial⟩ ?_
  have hg1 := grownBy_row W2 Q (stc p.1 v').toArray
  have hB1 := hB.row (stc p.1 v')
  have hRb1 := hRb.rowO (stc p.1 v').toArray (show R ≠ Q by omega)
  have hO1 := hO'.grown (show Q < b0 by omega) hg1
  have hBl1 := hBl.grown hg1 hBl.size (fun e he => by cases he; omega)
  refine sF (w' := W2.setRow Q (stc p.1 v').toArray) 35 (pt Q 0) (stv p.1 v') (sto_st hB (stc_len _ _) p.1 hO'.one.1) ?_
  generalize W2.setRow Q (stc p.1 v').toArray = W3 at *
  have hg2 := grownBy_row W3 R [.int .i64 0].toArray
  have hB2 := hB1.rowO [.int .i64 0].toArray (show Q ≠ R by omega)
  have hRb2 := hRb1.row [.int .i64 0]
  have hO2 := hO1.grown hRl hg2
  have hBl2 := hBl1.grown hg2 hBl1.size (fun e he => by cases he; omega)
  refine sF (w' := W3.setRow R [.int .i64 0].toArray) 47 (pt R 0) (.int .i64 0) (sto_er hRb1 0) ?_
  generalize W3.setRow R [.int .i64 0].toArray = W4 at *
  refine dF ?_
  try simp only [puts, Tk.put, Act.put, List.setIfInBounds_toArray, List.set_cons_zero, List.set_cons_succ]
  have H0 := Lib.hid h0
  clear h0 hg1 hg2
  go_wp2_with fail
  refine leaves_cons (f := 56) (args := #[.pointer (some ⟨P, 0, none⟩), .pointer (some ⟨Q, 0, none⟩), .pointer (some ⟨R, 0, none⟩)]) (by simp) (by kernel_rfl) ?_
  refine (catch_idle _ _ _ W4).mono ?_
  rintro e u' W5 ⟨rfl, rfl, rfl⟩
  refine ⟨_, res_att rfl _ rfl rfl hB2 hRb2, v', ?_, ?_, hBl2⟩
  · rw [if_pos H0.out, H0.out]
  · rw [if_pos H0.out]; exact hO2.low (by omega)
set_option maxRecDepth 100000 in
set_option maxHeartbeats 4000000 in
theorem attempt2_any (cap : Value) (s : Es) (v : Value) (p : Es × Int) (w : World) {lo : Nat} (hl : RSl lkc lo w.heap.size w v s.lk) (hr : s.lk.length * 40 ≤ 140737488355328)
    (hd : ∀ (W : World) (v1 : Value) (B b0 : Nat), Below w.heap.size w W → w.heap.size ≤ B → B < b0 → b0 ≤ W.heap.size → Blk W B 35 (stc s v1) → OwnL b0 W v1 s.lk → Calls Tryz.prog 39 #[.pointer (some ⟨B, 0, none⟩), cap] W (EndL W B b0 p)) :
    Calls Tryz.prog 36 #[stv s v, .func (.func 39) #[] #[cap]] w (AttR s p w) := by
  have HD := Lib.hid hd
  have HL := Lib.hid hl
  clear hd hl
  have hM := Mem.start w
  go_enter_defers Tryz.func36, Tryz.ntmps36
  go_upto_region 0 with fail
  refine wp_region_fromM (fun W => Mem w none [] W) hM ?_
  clear hM
  rintro Y1 hM
  refine rF (some 2) (pt Y1.heap.size 0) (Y1.alloc (.cells (stc s v).toArray 35)) ?_
  replace hM := hM.alloc 35 (stc s v)
  generalize World.alloc _ _ = Y2 at *
  generalize hNe : Y1.heap.size = P at *
  clear hNe
  have hP0 := (hM.at 0 rfl).lt
  refine rF (some 4) (pt Y2.heap.size 0) (Y2.alloc (.cells (stc zS nilV).toArray 35)) ?_
  replace hM := hM.alloc 35 (stc zS nilV)
  generalize World.alloc _ _ = Y3 at *
  generalize hNe : Y2.heap.size = Q at *
  clear hNe
  have hQ0 := (hM.at 0 rfl).lt
  refine rF (some 5) (pt Y3.heap.size 0) (Y3.alloc (.cells ([.int .i64 0]).toArray 47)) ?_
  replace hM := hM.alloc 47 ([.int .i64 0])
  generalize World.alloc _ _ = Y4 at *
  generalize hNe : Y3.heap.size = R at *
  clear hNe
  refine dF ?_
  try simp only [Act.put, List.setIfInBounds_toArray, List.set_cons_zero, List.set_cons_succ]
  have hQP : P < Q := (List.pairwise_cons.1 (List.pairwise_cons.1 hM.2.1).2).1 _ (List.mem_singleton.2 rfl)
  have hRQ : Q < R := (List.pairwise_cons.1 hM.2.1).1 _ (List.mem_cons_self ..)
  clear hP0 hQ0
  go_upto_region 1 with fail
  refine wp_region_fromM (fun W => Mem w none [(R, 47, [.int .i64 0]), (Q, 35, stc zS nilV), (P, 35, stc s v)] W) hM ?_
  clear hM
  rintro Y5 hM
  refine tF 1 [.val 0 (some 6) (.func (.func 56) #[] #[.pointer (some ⟨P, 0, none⟩), .pointer (some ⟨Q, 0, none⟩), .pointer (some ⟨R, 0, none⟩)])] trivial ?_
  refine wpFrom_defer (d := { target := .fn (.func 56) #[.pointer (some ⟨P, 0, none⟩), .pointer (some ⟨Q, 0, none⟩), .pointer (some ⟨R, 0, none⟩)], args := #[] }) (by kernel_rfl) ?_
  refine dF ?_
  try simp only [puts, Tk.put, Act.put, List.setIfInBounds_toArray, List.set_cons_zero, List.set_cons_succ]
  go_upto_region 2 with fail
  refine wp_region_fromM (fun W => Mem w none [(R, 47, [.int .i64 0]), (Q, 35, stc zS nilV), (P, 35, stc s v)] W) hM ?_
  clear hM
  rintro Y6 hM
  refine tF 1 [.load 0 (some 7) 35 (pt P 0) (stv (s) (v))] ⟨ld_st (hM.at 2 rfl), trivial⟩ ?_
  refine cF (some 8) 43 #[stv (s) (v)] ((own_any s v _ (HL.out.below hM.b (Nat.le_refl _)) hM.size hr).mono ?_)
  rintro e W1 ⟨v1, rfl, hO, hb⟩
  have hRl := (hM.at 0 rfl).lt
  replace hM := hM.below hb
  have hb1 := hb.size
  clear hb
  have hg1 := grownBy_row W1 Q (stc s v1).toArray
  replace hO := hO.grown (Nat.lt_trans hRQ hRl) hg1
  refine sF (w' := W1.setRow Q (stc s v1).toArray) 35 (pt Q 0) (stv s v1) (sto_st (hM.at 1 rfl) (stc_len _ _) s hO.one.1) ?_
  replace hM := hM.set 1 (cs' := stc s v1) rfl rfl
  generalize World.setRow _ _ _ = Y7 at *
  refine dF ?_
  try simp only [puts, Tk.put, Act.put, List.setIfInBounds_toArray, List.set_cons_zero, List.set_cons_succ]
  have hbw := Nat.le_trans hb1 hg1.size
  clear hg1 hb1
  go_upto_region 3 with fail
  refine wp_region_fromM (fun W => Mem w none [(R, 47, [.int .i64 0]), (Q, 35, stc s v1), (P, 35, stc s v)] W ∧ OwnL Y6.heap.size W v1 s.lk ∧ Y6.heap.size ≤ W.heap.size) ⟨hM, hO, hbw⟩ ?_
  clear hM hO hbw
  rintro Y8 ⟨hM, hO, hbw⟩
  refine tF 1 [.val 0 (some 9) (.func (.func 39) #[] #[cap])] trivial ?_
  generalize hb0 : Y6.heap.size = b0 at *
  clear hb0
  refine cF (some 10) 39 #[.pointer (some ⟨Q, 0, none⟩), cap] ((HD.out Y8 v1 Q b0 hM.b (hM.ge 1 rfl (by simp)) (Nat.lt_trans hRQ hRl) hbw (hM.at 1 rfl) hO).mono ?_)
  rintro e W2 h
  have hPb := Turn.blk (k := P) (b0 := b0) (B := Q) h.1 (by omega) (by omega) (hM.at 2 rfl)
  have hRb := Turn.blk (k := R) (b0 := b0) (B := Q) h.1 hRl (by omega) (hM.at 0 rfl)
  have hge := hM.ge 2 rfl (by simp)
  have hBl : Below w.heap.size w W2 := ⟨h.1.1.trans hM.b.os, h.1.2.1.trans hM.b.tape, h.1.2.2.1.trans hM.b.output, Nat.le_trans hM.b.size h.1.2.2.2.1, fun k hk => (h.1.2.2.2.2 k (by omega) (by omega)).trans (hM.b.block k hk)⟩
  rcases h.two with ⟨h0, rfl, _, v', hB, hO'⟩ | ⟨h0, rfl, _, hN⟩
  case inr =>
    refine leaves_cons (f := 56) (args := #[.pointer (some ⟨P, 0, none⟩), .pointer (some ⟨Q, 0, none⟩), .pointer (some ⟨R, 0, none⟩)]) (by simp) (by kernel_rfl) ?_
    refine (catch_any p.2 s v hQP hRQ W2 hPb hN hRb (HL.out.below hBl (Nat.le_refl _)) hBl.size hr).mono ?_
    rintro e u' W3 ⟨rfl, rfl, v2, hQ3, hR3, hO3, hB3⟩
    refine ⟨_, res_att rfl _ rfl rfl hQ3 hR3, v2, ?_, ?_, ?_⟩
    · rw [if_neg h0]
    · rw [if_neg h0]; exact hO3.low hBl.size
    · exact hBl.trans (hB3.mono hge) 
  refine dF ?_
  try simp only [puts, Tk.put, Act.put, List.setIfInBounds_toArray, List.set_cons_zero, List.set_cons_succ]
  clear h hO hM
  go_upto_region 4 with fail
  refine wp_region_from ?_
  refine tF 1 [.load 0 (some 11) 35 (pt Q 0) (stv p.1 v')] ⟨ld_st hB, trivial⟩ ?_
  have hg1 := grownBy_row W2 Q (stc p.1 v').toArray
  have hB1 := hB.row (stc p.1 v')
  have hRb1 := hRb.rowO (stc p.1 v').toArray (show R ≠ Q by omega)
  have hO1 := hO'.grown (show Q < b0 by omega) hg1
  have hBl1 := hBl.grown hg1 hBl.size (fun e he => by cases he; omega)
  refine sF (w' := W2.setRow Q (stc p.1 v').toArray) 35 (pt Q 0) (stv p.1 v') (sto_st hB (stc_len _ _) p.1 hO'.one.1) ?_
  generalize W2.setRow Q (stc p.1 v').toArray = W3 at *
  have hg2 := grownBy_row W3 R [.int .i64 0].toArray
  have hB2 := hB1.rowO [.int .i64 0].toArray (show Q ≠ R by omega)
  have hRb2 := hRb1.row [.int .i64 0]
  have hO2 := hO1.grown hRl hg2
  have hBl2 := hBl1.grown hg2 hBl1.size (fun e he => by cases he; omega)
  refine sF (w' := W3.setRow R [.int .i64 0].toArray) 47 (pt R 0) (.int .i64 0) (sto_er hRb1 0) ?_
  generalize W3.setRow R [.int .i64 0].toArray = W4 at *
  refine dF ?_
  try simp only [puts, Tk.put, Act.put, List.setIfInBounds_toArray, List.set_cons_zero, List.set_cons_succ]
  have H0 := Lib.hid h0
  clear h0 hg1 hg2
  go_wp2_with fail
  refine leaves_cons (f := 56) (args := #[.pointer (some ⟨P, 0, none⟩), .pointer (some ⟨Q, 0, none⟩), .pointer (some ⟨R, 0, none⟩)]) (by simp) (by kernel_rfl) ?_
  refine (catch_idle _ _ _ W4).mono ?_
  rintro e u' W5 ⟨rfl, rfl, rfl⟩
  refine ⟨_, res_att rfl _ rfl rfl hB2 hRb2, v', ?_, ?_, hBl2⟩
  · rw [if_pos H0.out, H0.out]
  · rw [if_pos H0.out]; exact hO2.low (by omega)
end Go.Proofs.YtfoemkmoambagaaGreat
