/-
  A bid's text: bid's Text; Which transfers may be, by the reference; Which asks may be, by the reference; The reference's Digits tells the sixteen digits of a wide number; The reference's Cmp tells which of two numbers is greater; Which bids may be, by the reference; The reference's Cat; The reference's Num and Int; The reference's Wide: two octets a digit, the highest first; The reference's writer
-/
import Derived.Outline
import Derived.Maps.AppendAt
import Derived.IntWalk
import Derived.Deep.QuietTactic
import Derived.Deep.RegionHeld3
import Derived.BigQuiet
import Derived.Laws.OwnMore
import Derived.Test.YtbhfajnejibaoaaGreatK05
namespace Go.Proofs.YtbhfajnejibaoaaGreat
open Go.RowKit Go.Shelf
set_option maxRecDepth 100000 in
set_option maxHeartbeats 4000000 in
theorem text8_any (b : Bd) (hb4 : OkB b) (w : World) :
    Calls Tryz.prog 56 #[bdv b] w (OctsL (textL b) w) := by
  have HC := Lib.hid (bidCheck_any b hb4)
  have kB := Blk.new w 36 (bdc b)
  have hB := chain0 w (.cells (bdc b).toArray 36)
  by_cases hm : maybeB b
  · have HE := Lib.hid (errB_zero hm)
    have HT : Hid (textL b = (numS (wideS (putA (numS (txtS ([], 0) bidB) b.ro) b.k) b.b0 b.b1 b.b2 b.b3) b.un).1) := Lib.hid (textL_yes hm)
    clear hm
    go_enter Tryz.func56, Tryz.ntmps56
    go_wp2_with (first
      | (refine wpList_loadIf 36 (.tmp 1) rfl _ rfl rfl (bdv b) (load_bid kB) ?_)
      | (go_at_call 54; refine (HC.out _).mono ?_; rw [HE.out]; rintro e W1 ⟨rfl, hb1⟩; replace kB := kB.below hb1 kB.lt; replace hB := chain hB hb1; clear hb1)
      | (go_at_call 76; refine (outNewO_any _).mono ?_; rintro e W2 ⟨NB, rfl, hN, hO, hb2⟩; have hne : some w.heap.size ≠ some NB := (fun e => by cases e; exact absurd kB.lt (by omega)); replace kB := kB.below hb2 kB.lt; have hNw := Nat.le_trans hB.size hN; replace hB := chain hB hb2; clear hb2)
      | (go_at_call 77; refine (outText_any bidB _ hO).mono ?_; rintro e W3 hD; replace hB := below_did hB hNw hD; obtain ⟨rfl, hO1, hG1⟩ := hD; replace kB := kB.kept hG1 hne; replace hO := hO1; have c0 := (kB.cell 0).trans rfl; clear hO1 hG1)
      | (go_at_call 78; refine (outNum_any _ _ hO).mono ?_; rintro e W4 hD; replace hB := below_did hB hNw hD; obtain ⟨rfl, hO1, hG1⟩ := hD; replace kB := kB.kept hG1 hne; replace hO := hO1; (try clear c0); have c1 := (kB.cell 1).trans rfl; have c2 := (kB.cell 2).trans rfl; have c3 := (kB.cell 3).trans rfl; have c4 := (kB.cell 4).trans rfl; have c5 := (kB.cell 5).trans rfl; have c6 := (kB.cell 6).trans rfl; have c7 := (kB.cell 7).trans rfl; have c8 := (kB.cell 8).trans rfl; have c9 := (kB.cell 9).trans rfl; clear hO1 hG1)
      | (go_at_call 79; refine (bidPutAsk_any b.k hb4.k _ hO).mono ?_; rintro e W5 hD; replace hB := below_did hB hNw hD; obtain ⟨rfl, hO1, hG1⟩ := hD; replace kB := kB.kept hG1 hne; replace hO := hO1; clear c1 c2 c3 c4 c5 c6 c7 c8 c9; have c10 := (kB.cell 10).trans rfl; have c11 := (kB.cell 11).trans rfl; have c12 := (kB.cell 12).trans rfl; have c13 := (kB.cell 13).trans rfl; clear hO1 hG1)
      | (go_at_call 80; refine (outWide_any hb4.b _ hO).mono ?_; rintro e W6 hD; replace hB := below_did hB hNw hD; obtain ⟨rfl, hO1, hG1⟩ := hD; replace kB := kB.kept hG1 hne; replace hO := hO1; clear c10 c11 c12 c13; have c14 := (kB.cell 14).trans rfl; clear hO1 hG1)
      | (go_at_call 81; refine (outDone_any _ hO).mono ?_; rintro e W7 ⟨sv, rfl, hsv, hb7⟩; obtain ⟨va, vm, vc, rfl⟩ := hsv.shape3; replace hB := chain hB hb7))
    go_ret
    exact ⟨_, rfl, by rw [HT.out]; exact hsv, hB⟩
  · have HE := Lib.hid (errB_bad hm)
    have HT := Lib.hid (textL_no hm)
    clear hm
    go_enter Tryz.func56, Tryz.ntmps56
    go_wp2_with (first
      | (refine wpList_loadIf 36 (.tmp 1) rfl _ rfl rfl (bdv b) (load_bid kB) ?_)
      | (go_at_call 54; refine (HC.out _).mono ?_; rw [HE.out]; rintro e W1 ⟨rfl, hb1⟩; replace hB := chain hB hb1))
    go_ret
    exact ⟨_, rfl, by rw [HT.out]; exact BSl.nil _ _ _, hB⟩
end Go.Proofs.YtbhfajnejibaoaaGreat
namespace Go.Proofs.YtbhfajnejibaoaaGreat
open Go.RowKit Go.Shelf
set_option maxRecDepth 100000 in
set_option maxHeartbeats 2000000 in
theorem refInv_any (i : Trf) (w : World) :
    Calls Tryz.prog 25 #[ivv i] w fun e W' => e = .returned (.int .i64 (errI i)) ∧ Below w.heap.size w W' := by
  have HY : Hid (maybeI i → errI i = 0) := Lib.hid fun h => if_pos h
  have HN : Hid (¬ maybeI i → errI i = 39) := Lib.hid fun h => if_neg h
  obtain ⟨us, rt, ro, se, re, tq, id⟩ := i
  have HM : Hid (maybeI ⟨us, rt, ro, se, re, tq, id⟩ ↔ ((0 ≤ us ∧ us ≤ 1) ∧ (rt.size : Int) = 8 ∧ (2 ≤ ro ∧ ro ≤ 3) ∧ (0 ≤ se ∧ se ≤ 1) ∧ (0 ≤ re ∧ re ≤ 1) ∧ (0 ≤ tq ∧ tq ≤ 7) ∧ (1 : Int) ≤ (id.size : Int) ∧ (id.size : Int) ≤ 16)) := Lib.hid (by
    unfold maybeI
    exact ⟨fun ⟨a, b, c, d, e, f, g, h⟩ => ⟨a, by simp only at b; omega, c, d, e, f, by simp only at g; omega, by simp only at h; omega⟩, fun ⟨a, b, c, d, e, f, g, h⟩ => ⟨a, by simp only; omega, c, d, e, f, by simp only; omega, by simp only; omega⟩⟩)
  generalize errI _ = x at *
  by_cases c0 : us < 0
  · have HX := HN.out (by rw [HM.out]; omega)
    have HX2 := Lib.hid HX
    clear HX
    go_enter Tryz.func25, Tryz.ntmps25
    go_wp2
    go_ret
    exact ⟨by rw [HX2.out]; rfl, chain0 _ _⟩
  by_cases c1 : 1 < us
  · have HX := HN.out (by rw [HM.out]; omega)
    have HX2 := Lib.hid HX
    clear HX
    go_enter Tryz.func25, Tryz.ntmps25
    go_wp2
    go_ret
    exact ⟨by rw [HX2.out]; rfl, chain0 _ _⟩
  by_cases c2 : ro < 2
  · have HX := HN.out (by rw [HM.out]; omega)
    have HX2 := Lib.hid HX
    clear HX
    go_enter Tryz.func25, Tryz.ntmps25
    go_wp2
    go_ret
    exact ⟨by rw [HX2.out]; rfl, chain0 _ _⟩
  by_cases c3 : 3 < ro
  · have HX := HN.out (by rw [HM.out]; omega)
    have HX2 := Lib.hid HX
    clear HX
    go_enter Tryz.func25, Tryz.ntmps25
    go_wp2
    go_ret
    exact ⟨by rw [HX2.out]; rfl, chain0 _ _⟩
  by_cases c4 : se < 0
  · have HX := HN.out (by rw [HM.out]; omega)
    have HX2 := Lib.hid HX
    clear HX
    go_enter Tryz.func25, Tryz.ntmps25
    go_wp2
    go_ret
    exact ⟨by rw [HX2.out]; rfl, chain0 _ _⟩
  by_cases c5 : 1 < se
  · have HX := HN.out (by rw [HM.out]; omega)
    have HX2 := Lib.hid HX
    clear HX
    go_enter Tryz.func25, Tryz.ntmps25
    go_wp2
    go_ret
    exact ⟨by rw [HX2.out]; rfl, chain0 _ _⟩
  by_cases c6 : re < 0
  · have HX := HN.out (by rw [HM.out]; omega)
    have HX2 := Lib.hid HX
    clear HX
    go_enter Tryz.func25, Tryz.ntmps25
    go_wp2
    go_ret
    exact ⟨by rw [HX2.out]; rfl, chain0 _ _⟩
  by_cases c7 : 1 < re
  · have HX := HN.out (by rw [HM.out]; omega)
    have HX2 := Lib.hid HX
    clear HX
    go_enter Tryz.func25, Tryz.ntmps25
    go_wp2
    go_ret
    exact ⟨by rw [HX2.out]; rfl, chain0 _ _⟩
  by_cases c8 : tq < 0
  · have HX := HN.out (by rw [HM.out]; omega)
    have HX2 := Lib.hid HX
    clear HX
    go_enter Tryz.func25, Tryz.ntmps25
    go_wp2
    go_ret
    exact ⟨by rw [HX2.out]; rfl, chain0 _ _⟩
  by_cases c9 : 7 < tq
  · have HX := HN.out (by rw [HM.out]; omega)
    have HX2 := Lib.hid HX
    clear HX
    go_enter Tryz.func25, Tryz.ntmps25
    go_wp2
    go_ret
    exact ⟨by rw [HX2.out]; rfl, chain0 _ _⟩
  by_cases c10 : (rt.size : Int) = 8
  rotate_left
  · have e1 : ((rt.size : Int) == 8) = false := by simpa using c10
    have e2 : ((rt.size : Int) != 8) = true := by simpa using c10
    have HX := HN.out (by rw [HM.out]; omega)
    have HX2 := Lib.hid HX
    clear HX c10
    go_enter Tryz.func25, Tryz.ntmps25
    go_wp2
    go_ret
    exact ⟨by rw [HX2.out]; rfl, chain0 _ _⟩
  have e1 : ((rt.size : Int) == 8) = true := by simpa using c10
  have e2 : ((rt.size : Int) != 8) = false := by simpa using c10
  have HC := Lib.hid c10
  clear c10
  by_cases c11 : (id.size : Int) < 1
  · have HX := HN.out (by rw [HM.out]; have := HC.out; omega)
    have HX2 := Lib.hid HX
    clear HX
    go_enter Tryz.func25, Tryz.ntmps25
    go_wp2
    go_ret
    exact ⟨by rw [HX2.out]; rfl, chain0 _ _⟩
  by_cases c12 : 16 < (id.size : Int)
  · have HX := HN.out (by rw [HM.out]; have := HC.out; omega)
    have HX2 := Lib.hid HX
    clear HX
    go_enter Tryz.func25, Tryz.ntmps25
    go_wp2
    go_ret
    exact ⟨by rw [HX2.out]; rfl, chain0 _ _⟩
  have HX := HY.out (by rw [HM.out]; have := HC.out; omega)
  have HX2 := Lib.hid HX
  clear HX
  go_enter Tryz.func25, Tryz.ntmps25
  go_wp2
  go_ret
  exact ⟨by rw [HX2.out]; rfl, chain0 _ _⟩
end Go.Proofs.YtbhfajnejibaoaaGreat
namespace Go.Proofs.YtbhfajnejibaoaaGreat
open Go.RowKit Go.Shelf
def eightB : ByteArray := ⟨#[49, 50, 51, 52, 53, 54, 55, 56]⟩
def standI (a : Ak) (r : Int) : Trf := ⟨a.us, eightB, r, a.se, a.re, a.to, a.id⟩
theorem stand_may (a : Ak) (r : Int) : maybeI (standI a r) ↔ ((0 ≤ a.us ∧ a.us ≤ 1) ∧ (0 ≤ a.se ∧ a.se ≤ 1) ∧ (0 ≤ a.re ∧ a.re ≤ 1) ∧ (0 ≤ a.to ∧ a.to ≤ 7) ∧ 1 ≤ a.id.size ∧ a.id.size ≤ 16) ∧ 2 ≤ r ∧ r ≤ 3 := by
  unfold maybeI standI
  constructor
  · rintro ⟨h0, _, h2, h3, h4, h5, h6, h7⟩
    exact ⟨⟨h0, h3, h4, h5, h6, h7⟩, h2⟩
  · rintro ⟨⟨h0, h3, h4, h5, h6, h7⟩, h2⟩
    exact ⟨h0, rfl, h2, h3, h4, h5, h6, h7⟩
theorem maybeA_stand {a : Ak} : maybeA a ↔ ¬ zw a.a0 a.a1 a.a2 a.a3 ∧ maybeI (standI a 2) := by
  rw [stand_may]
  unfold maybeA
  constructor
  · rintro ⟨h0, h1, h2, h3, h4, h5, h6⟩
    exact ⟨h4, ⟨h0, h1, h2, h3, h5, h6⟩, by omega, by omega⟩
  · rintro ⟨h4, ⟨h0, h1, h2, h3, h5, h6⟩, _, _⟩
    exact ⟨h0, h1, h2, h3, h4, h5, h6⟩
set_option maxRecDepth 100000 in
set_option maxHeartbeats 2000000 in
theorem stand_any (a : Ak) (r : Int) (w : World) :
    Calls Tryz.prog 26 #[akv a, .int .i64 r] w fun e W' => e = .returned (ivv (standI a r)) ∧ Below w.heap.size w W' := by
  obtain ⟨us, se, re, tq, a0, a1, a2, a3, id⟩ := a
  go_enter Tryz.func26, Tryz.ntmps26
  go_wp2
  exact bodyPost_ret (v := ivv (standI ⟨us, se, re, tq, a0, a1, a2, a3, id⟩ r)) (by simp [results, Tryz.results26, go_sem, standI, eightB]) rfl ⟨rfl, chainA (chain0 _ _) _⟩
theorem wEq_zw {a0 a1 a2 a3 : Nat} (h : zw a0 a1 a2 a3) : wEq a0 a1 a2 a3 0 0 0 0 = true := by
  obtain ⟨rfl, rfl, rfl, rfl⟩ := h; rfl
theorem wEq_zwn {a0 a1 a2 a3 : Nat} (h : ¬ zw a0 a1 a2 a3) : wEq a0 a1 a2 a3 0 0 0 0 = false := wEq_not (by unfold zw at h; omega)
set_option maxRecDepth 100000 in
set_option maxHeartbeats 2000000 in
theorem refAsk_any (a : Ak) (w : World) :
    Calls Tryz.prog 11 #[akv a] w fun e W' => e = .returned (.int .i64 (errA a)) ∧ Below w.heap.size w W' := by
  have hweq := @run_equalIn_wide
  have HM := Lib.hid (maybeA_stand (a := a))
  have HS := Lib.hid (stand_any a 2)
  have HI := Lib.hid (refInv_any (standI a 2))
  have hB := chain0 w (.cells (akc a).toArray 34)
  by_cases hz : zw a.a0 a.a1 a.a2 a.a3
  · have hq := wEq_zw hz
    have HE := Lib.hid (errA_bad (a := a) (fun h => (HM.out.1 h).1 hz))
    clear hz HS HI
    go_enter Tryz.func11, Tryz.ntmps11
    go_wp2
    go_ret
    exact ⟨by rw [HE.out]; rfl, hB⟩
  · have hq := wEq_zwn hz
    by_cases hi : maybeI (standI a 2)
    · have HE := Lib.hid (errA_zero (a := a) (HM.out.2 ⟨hz, hi⟩))
      rw [errI_zero hi] at HI
      clear hz hi
      go_enter Tryz.func11, Tryz.ntmps11
      go_wp2_with (first
        | (go_at_call 26; refine (HS.out _).mono ?_; rintro e W1 ⟨rfl, hb1⟩; replace hB := chain hB hb1; clear hb1)
        | (go_at_call 25; refine (HI.out _).mono ?_; rintro e W1 ⟨rfl, hb1⟩; replace hB := chain hB hb1; clear hb1))
      go_ret
      exact ⟨by rw [HE.out]; rfl, hB⟩
    · have HE := Lib.hid (errA_bad (a := a) (fun h => hi (HM.out.1 h).2))
      rw [errI_bad hi] at HI
      clear hz hi
      go_enter Tryz.func11, Tryz.ntmps11
      go_wp2_with (first
        | (go_at_call 26; refine (HS.out _).mono ?_; rintro e W1 ⟨rfl, hb1⟩; replace hB := chain hB hb1; clear hb1)
        | (go_at_call 25; refine (HI.out _).mono ?_; rintro e W1 ⟨rfl, hb1⟩; replace hB := chain hB hb1; clear hb1))
      go_ret
      exact ⟨by rw [HE.out]; rfl, hB⟩
end Go.Proofs.YtbhfajnejibaoaaGreat
namespace Go.Proofs.YtbhfajnejibaoaaGreat
open Go.RowKit
set_option maxRecDepth 100000 in
set_option maxHeartbeats 2000000 in
theorem digits_any {a0 a1 a2 a3 : Nat} (ha : Ok4 a0 a1 a2 a3) (w : World) :
    Calls Tryz.prog 64 #[wv a0 a1 a2 a3] w (SlW 16 (dg a0 a1 a2 a3) w) := by
  obtain ⟨i0, hi, hz0, hz1, hz2⟩ := info_parts Tryz.infoInt
  obtain ⟨B, hB⟩ : ∃ B, B = w.heap.size := ⟨_, rfl⟩
  go_enter Tryz.func64, Tryz.ntmps64
  go_wp2
  go_loopw [3, 4] (fun v i wr => ∃ k : Nat, k ≤ 4 ∧ i = .int .i64 k ∧ OR wr (w.heap.size + 1) v (4 * k) (dg a0 a1 a2 a3) ∧ Blk wr w.heap.size 32 (ws (word a0 a1 a2 a3)) ∧ Below w.heap.size w wr ∧ w.heap.size + 1 ≤ wr.heap.size) (fun _ i _ => 4 - (intOf i).toNat)
  case atStart => exact ⟨0, by omega, rfl, OR.nil _ _ _, Blk.new _ _ _, chain0 _ _, by simp⟩
  case round =>
    obtain ⟨k, hk, rfl, hown, hblk, hbel, hsz⟩ := hrel
    by_cases hlt : k < 4
    · have hk' : (k : Int) < 4 := by omega
      have hc := hblk.cell k
      rw [ws_at _ hlt] at hc
      go_wp2
      obtain ⟨wo, rfl⟩ : ∃ wo : World, wo = wr := ⟨_, rfl⟩
      have hw := word_lt ha.h0 ha.h1 ha.h2 ha.h3 k
      go_loopw [3, 5, 6] (fun v x j wr => ∃ t : Nat, t ≤ 4 ∧ j = .int .i64 t ∧ x = .int .u64 (sh (word a0 a1 a2 a3 k) t : Nat) ∧ OR wr (w.heap.size + 1) v (4 * k + t) (dg a0 a1 a2 a3) ∧ Blk wr w.heap.size 32 (ws (word a0 a1 a2 a3)) ∧ Below w.heap.size w wr ∧ w.heap.size + 1 ≤ wr.heap.size) (fun _ _ j _ => 4 - (intOf j).toNat)
      case atStart => exact ⟨0, by omega, rfl, rfl, hown, hblk, hbel, hsz⟩
      case round =>
        obtain ⟨t, ht, rfl, rfl, hown, hblk, hbel, hsz⟩ := hrel
        by_cases hlt' : t < 4
        · have ht' : (t : Int) < 4 := by omega
          have hx := sh_lt hw t
          have hx0 : ((sh (word a0 a1 a2 a3 k) t : Nat) : Int) ≤ 18446744073709551615 := by unfold M at hx; omega
          have hd := dg_at (a0 := a0) (a1 := a1) (a2 := a2) (a3 := a3) (k := k) hlt'
          have HD := Lib.hid hd
          clear hd
          have hsx : sh (word a0 a1 a2 a3 k) (t + 1) = sh (word a0 a1 a2 a3 k) t / 65536 := rfl
          have HS := Lib.hid hsx
          clear hsx
          generalize sh (word a0 a1 a2 a3 k) t = x at *
          go_wp2_with (at_builtin; refine wpList_append_own _ rfl _ _ 108 rfl (w.heap.size + 1) 3 i0 (.int .i64 0) 1 8 Tryz.underlying108 hi hz0 hz1 hz2 rfl (by decide) _ _ _ rfl (hown.out.alloc _) ⟨wr.heap.size, 0, none⟩ 1 1 [.int .i64 ((x : Int) % 65536)] rfl rfl (cell_one_new _ _ _) (by simp [Value.oneCell']) (by unfold maxLen; omega) (by omega) (by simp; omega) ?_; intro v' w1 hown' hgrow _)
          have hg : (wr.alloc (.cells #[.int .i64 ((x : Int) % 65536)] 3)).grownBy w1 u3.ownBlock := hgrow
          obtain ⟨h1, h2, h3⟩ := hown.grown hsz hown' hg (by rw [HD.out]; omega)
          refine ⟨⟨t + 1, by omega, by simp, by rw [HS.out]; simp, h1, hblk.below h3 (by omega), hbel.trans (h3.mono (by omega)), h2⟩, by simp [intOf]; omega⟩
        · obtain rfl : t = 4 := by omega
          go_wp2
          exact ⟨⟨k + 1, by omega, by simp, hown, hblk, hbel, hsz⟩, by simp [intOf]; omega⟩
    · obtain rfl : k = 4 := by omega
      go_wp2
      go_ret
      obtain ⟨g, cap, rfl, h1, h2, h3⟩ := hown.nums (by omega)
      exact ⟨g, cap, rfl, by omega, h2, h3, hbel⟩
end Go.Proofs.YtbhfajnejibaoaaGreat
namespace Go.Proofs.YtbhfajnejibaoaaGreat
open Go.RowKit
set_option maxRecDepth 100000 in
set_option maxHeartbeats 4000000 in
theorem refCmp_any {a0 a1 a2 a3 b0 b1 b2 b3 : Nat} (ha : Ok4 a0 a1 a2 a3) (hb : Ok4 b0 b1 b2 b3) (w : World) :
    Calls Tryz.prog 47 #[wv a0 a1 a2 a3, wv b0 b1 b2 b3] w fun e W' => e = .returned (.int .i64 (cmpN (val a0 a1 a2 a3) (val b0 b1 b2 b3))) ∧ Below w.heap.size w W' := by
  go_enter Tryz.func47, Tryz.ntmps47
  go_wp2_with fail
  generalize hW0 : World.alloc _ _ = W0
  have kA : BlkW W0 w.heap.size a0 a1 a2 a3 := by rw [← hW0]; exact (Blk.new' (by simp)).alloc _
  have kB : BlkW W0 (w.heap.size + 1) b0 b1 b2 b3 := by rw [← hW0]; exact Blk.new' (by simp)
  have d0 : Below w.heap.size w W0 := by rw [← hW0]; exact chainA (chain0 _ _) _
  have hz' : w.heap.size + 1 < W0.heap.size := by rw [← hW0]; simp
  clear hW0
  obtain ⟨x0, x1, x2, x3⟩ := kA.c4
  obtain ⟨y0, y1, y2, y3⟩ := kB.c4
  go_region_held3 (fun W => W.cell? ⟨w.heap.size, 0, none⟩ = some (.int .u64 (a0 : Int)) ∧ W.cell? ⟨w.heap.size, 1, none⟩ = some (.int .u64 (a1 : Int)) ∧ W.cell? ⟨w.heap.size, 2, none⟩ = some (.int .u64 (a2 : Int)) ∧ W.cell? ⟨w.heap.size, 3, none⟩ = some (.int .u64 (a3 : Int)) ∧
      W.cell? ⟨w.heap.size + 1, 0, none⟩ = some (.int .u64 (b0 : Int)) ∧ W.cell? ⟨w.heap.size + 1, 1, none⟩ = some (.int .u64 (b1 : Int)) ∧ W.cell? ⟨w.heap.size + 1, 2, none⟩ = some (.int .u64 (b2 : Int)) ∧ W.cell? ⟨w.heap.size + 1, 3, none⟩ = some (.int .u64 (b3 : Int)))
    (first | go_keep | (refine ⟨?_, ?_, ?_, ?_, ?_, ?_, ?_, ?_⟩ <;> assumption))
    (first | (go_at_call 64; refine (digits_any (by first | exact ha | exact hb) _).mono ?_; rintro e W1 ⟨g1, p1, rfl, hg1, hl1, hn1, hb1⟩; have z1 := hb1.size; (try simp only [World.size_drew] at z1); have u00 := (hb1.cell (p := ⟨w.heap.size, 0, none⟩) (by simp; omega)).trans (by assumption); have u01 := (hb1.cell (p := ⟨w.heap.size, 1, none⟩) (by simp; omega)).trans (by assumption); have u02 := (hb1.cell (p := ⟨w.heap.size, 2, none⟩) (by simp; omega)).trans (by assumption); have u03 := (hb1.cell (p := ⟨w.heap.size, 3, none⟩) (by simp; omega)).trans (by assumption); have u10 := (hb1.cell (p := ⟨w.heap.size + 1, 0, none⟩) (by simp; omega)).trans (by assumption); have u11 := (hb1.cell (p := ⟨w.heap.size + 1, 1, none⟩) (by simp; omega)).trans (by assumption); have u12 := (hb1.cell (p := ⟨w.heap.size + 1, 2, none⟩) (by simp; omega)).trans (by assumption); have u13 := (hb1.cell (p := ⟨w.heap.size + 1, 3, none⟩) (by simp; omega)).trans (by assumption)))
  rename_i V1 g0 p0 hg0 hl0 hn0 hb0 z0 t0 t1 t2 t3 t4 t5 t6 t7 t8
  have d1 : Below w.heap.size w W1 := chain (chain d0.drew hb0) hb1
  have nx := hn0.below hb1 hl0
  have ny := hn1
  have hg0' : g0 < W1.heap.size := by omega
  have nA := nv_dg ha
  have nB := nv_dg hb
  clear x0 x1 x2 x3 y0 y1 y2 y3 t0 t1 t2 t3 t4 t5 t6 t7 t8 u00 u01 u02 u03 u10 u11 u12 u13 kA kB hn0 hn1 hb0 hb1
  generalize hA : dg a0 a1 a2 a3 = xs at *
  generalize hB : dg b0 b1 b2 b3 = ys at *
  have HA := Lib.hid hA
  have HB := Lib.hid hB
  have NA := Lib.hid nA
  have NB := Lib.hid nB
  clear hA hB nA nB
  have hxs : ∀ k, xs k < 65536 := fun k => by rw [← HA.out]; exact dg_lt _ _ _ _ k
  have hys : ∀ k, ys k < 65536 := fun k => by rw [← HB.out]; exact dg_lt _ _ _ _ k
  go_wp2
  go_loopw [7] (fun i wr => ∃ k : Nat, k ≤ 16 ∧ i = .int .i64 (15 - (k : Int)) ∧ (∀ t, t < 16 → 16 ≤ t + k → xs t = ys t) ∧ Below W1.heap.size W1 wr) (fun i _ => ((intOf i) + 1).toNat)
  case atStart => exact ⟨0, by omega, rfl, fun t h1 h2 => by omega, Below.refl _ _⟩
  case round =>
    obtain ⟨k, hk, rfl, hsame, hbel⟩ := hrel
    have HS := Lib.hid hsame
    clear hsame
    by_cases hlt : k < 16
    · obtain ⟨j, hj⟩ : ∃ j, j + k = 15 := ⟨15 - k, by omega⟩
      have hj16 : j < 16 := by omega
      have hji : (15 : Int) - (k : Int) = (j : Int) := by omega
      have hx := (nx.below hbel hg0') j hj16
      have hy := (ny.below hbel hl1) j hj16
      have bx := hxs j
      have bY := hys j
      rw [hji]
      have hj0 : (0 : Int) ≤ (j : Int) := by omega
      have hj1 : (j : Int) < 16 := by omega
      have HJ := Lib.hid hji
      clear hji
      have d2 : ∀ q, Below w.heap.size w (wr.drewN q) := fun q => (d1.trans (hbel.mono d1.size)).trans ⟨rfl, rfl, rfl, Nat.le_refl _, fun _ _ => rfl⟩
      have hlow : xs j < ys j → cmpN (val a0 a1 a2 a3) (val b0 b1 b2 b3) = -1 := fun h => by
        have := nv_less hxs h 16 hj16 (fun t h1 h2 => HS.out t h2 (by omega))
        rw [NA.out, NB.out] at this
        unfold cmpN; rw [if_pos this]
      have hhigh : ys j < xs j → cmpN (val a0 a1 a2 a3) (val b0 b1 b2 b3) = 1 := fun h => by
        have := nv_less hys h 16 hj16 (fun t h1 h2 => (HS.out t h2 (by omega)).symm)
        rw [NA.out, NB.out] at this
        unfold cmpN; rw [if_neg (by omega), if_pos this]
      have HLOW := Lib.hid hlow
      have HHIGH := Lib.hid hhigh
      clear hlow hhigh
      have HEQ : Hid (∀ e : xs j = ys j, ∀ t, t < 16 → 16 ≤ t + (k + 1) → xs t = ys t) := Lib.hid (fun e t h1 h2 => by
        by_cases ht : t = j
        · rw [ht]; exact e
        · exact HS.out t h1 (by omega))
      generalize xs j = x at *
      generalize ys j = y at *
      rcases Nat.lt_trichotomy x y with hxy | hxy | hxy
      · have hxy' : (x : Int) < (y : Int) := by omega
        have HC := Lib.hid (HLOW.out hxy)
        go_wp2_with fail
        go_quiet (fail)
        go_wp2
        go_ret
        exact ⟨by rw [HC.out]; rfl, d2 _⟩
      · have h1 : ¬ (x : Int) < (y : Int) := by omega
        have h2 : ¬ (y : Int) < (x : Int) := by omega
        have HE := Lib.hid (HEQ.out hxy)
        clear hxy
        go_wp2_with fail
        go_quiet (fail)
        go_wp2_with fail
        go_quiet (fail)
        go_wp2
        exact ⟨⟨k + 1, by omega, by rw [show (j : Int) - 1 = 15 - ((k + 1 : Nat) : Int) by omega], HE.out, hbel.trans ⟨rfl, rfl, rfl, Nat.le_refl _, fun _ _ => rfl⟩⟩, by simp [intOf]⟩
      · have h1 : ¬ (x : Int) < (y : Int) := by omega
        have h2 : (y : Int) < (x : Int) := by omega
        have HC := Lib.hid (HHIGH.out hxy)
        go_wp2_with fail
        go_quiet (fail)
        go_wp2_with fail
        go_quiet (fail)
        go_wp2
        go_ret
        exact ⟨by rw [HC.out]; rfl, (d2 0).trans ⟨rfl, rfl, rfl, Nat.le_refl _, fun _ _ => rfl⟩⟩
    · obtain rfl : k = 16 := by omega
      have e : nv xs 16 = nv ys 16 := nv_congr (fun t ht => HS.out t ht (by omega))
      rw [NA.out, NB.out] at e
      have HC : Hid (cmpN (val a0 a1 a2 a3) (val b0 b1 b2 b3) = 0) := Lib.hid (by unfold cmpN; rw [if_neg (by omega), if_neg (by omega)])
      clear e
      go_wp2
      go_ret
      exact ⟨by rw [HC.out]; rfl, d1.trans (hbel.mono d1.size)⟩
end Go.Proofs.YtbhfajnejibaoaaGreat
namespace Go.Proofs.YtbhfajnejibaoaaGreat
open Go.RowKit Go.Shelf
set_option maxRecDepth 100000 in
set_option maxHeartbeats 4000000 in
theorem refBid_any (b : Bd) (hb4 : OkB b) (w : World) :
    Calls Tryz.prog 27 #[bdv b] w fun e W' => e = .returned (.int .i64 (errB b)) ∧ Below w.heap.size w W' := by
  have hweq := @run_equalIn_wide
  have HY : Hid (maybeB b → errB b = 0) := Lib.hid errB_zero
  have HN : Hid (¬ maybeB b → errB b = 39) := Lib.hid errB_bad
  have HM : Hid (maybeB b ↔ maybeA b.k ∧ maybeI (standI b.k b.ro) ∧ ¬ zw b.b0 b.b1 b.b2 b.b3 ∧ ¬ 0 < cmpN (val b.b0 b.b1 b.b2 b.b3) (val b.k.a0 b.k.a1 b.k.a2 b.k.a3) ∧ ¬ b.un < 0 ∧ ¬ 1099511627776 < b.un ∧ ¬ 1024 < (b.sg.size : Int)) := Lib.hid (by
    have e2 : (¬ 0 < cmpN (val b.b0 b.b1 b.b2 b.b3) (val b.k.a0 b.k.a1 b.k.a2 b.k.a3)) ↔ val b.b0 b.b1 b.b2 b.b3 ≤ val b.k.a0 b.k.a1 b.k.a2 b.k.a3 := by
      unfold cmpN; split
      · omega
      · split <;> omega
    rw [e2, stand_may]
    unfold maybeB
    constructor
    · rintro ⟨h0, h1, h2, h3, h4, h5⟩
      obtain ⟨g0, g1, g2, g3, g4, g5, g6⟩ := id h1
      exact ⟨h1, ⟨⟨g0, g1, g2, g3, g5, g6⟩, h0⟩, h2, h3, by omega, by omega, by omega⟩
    · rintro ⟨h1, ⟨_, h0⟩, h2, h3, h4, h5, h6⟩
      exact ⟨h0, h1, h2, h3, by omega, by omega⟩)
  have HA := Lib.hid (refAsk_any b.k)
  have HS := Lib.hid (stand_any b.k b.ro)
  have HI := Lib.hid (refInv_any (standI b.k b.ro))
  have HV := Lib.hid (fun W => refCmp_any hb4.b hb4.k W)
  have kB := Blk.new w 36 (bdc b)
  have hB := chain0 w (.cells (bdc b).toArray 36)
  generalize cmpN _ _ = cn at *
  generalize errB b = eb at *
  by_cases k0 : maybeA b.k
  rotate_left
  · rw [errA_bad k0] at HA
    have HX := Lib.hid (HN.out (fun h => k0 (HM.out.1 h).1))
    clear k0 HN HY HM
    go_enter Tryz.func27, Tryz.ntmps27
    go_wp2_with (first
      | (go_at_call 11; refine (HA.out _).mono ?_; rintro e W1 ⟨rfl, hb1⟩; replace kB := kB.below hb1 kB.lt; replace hB := chain hB hb1; clear hb1; have c0 := (kB.cell 0).trans rfl; have c1 := (kB.cell 1).trans rfl; have c2 := (kB.cell 2).trans rfl; have c3 := (kB.cell 3).trans rfl; have c4 := (kB.cell 4).trans rfl; have c5 := (kB.cell 5).trans rfl; have c6 := (kB.cell 6).trans rfl; have c7 := (kB.cell 7).trans rfl; have c8 := (kB.cell 8).trans rfl; have c9 := (kB.cell 9).trans rfl))
    go_ret
    exact ⟨by rw [HX.out]; rfl, hB⟩
  rw [errA_zero k0] at HA
  by_cases k1 : maybeI (standI b.k b.ro)
  rotate_left
  · rw [errI_bad k1] at HI
    have HX := Lib.hid (HN.out (fun h => k1 (HM.out.1 h).2.1))
    clear k0 k1 HN HY HM
    go_enter Tryz.func27, Tryz.ntmps27
    go_wp2_with (first
      | (go_at_call 11; refine (HA.out _).mono ?_; rintro e W1 ⟨rfl, hb1⟩; replace kB := kB.below hb1 kB.lt; replace hB := chain hB hb1; clear hb1; have c0 := (kB.cell 0).trans rfl; have c1 := (kB.cell 1).trans rfl; have c2 := (kB.cell 2).trans rfl; have c3 := (kB.cell 3).trans rfl; have c4 := (kB.cell 4).trans rfl; have c5 := (kB.cell 5).trans rfl; have c6 := (kB.cell 6).trans rfl; have c7 := (kB.cell 7).trans rfl; have c8 := (kB.cell 8).trans rfl; have c9 := (kB.cell 9).trans rfl)
      | (go_at_call 26; refine (HS.out _).mono ?_; rintro e W2 ⟨rfl, hb1⟩; replace kB := kB.below hb1 kB.lt; replace hB := chain hB hb1; clear hb1 c0 c1 c2 c3 c4 c5 c6 c7 c8 c9)
      | (go_at_call 25; refine (HI.out _).mono ?_; rintro e W3 ⟨rfl, hb1⟩; replace kB := kB.below hb1 kB.lt; replace hB := chain hB hb1; clear hb1; have c5 := (kB.cell 5).trans rfl; have c6 := (kB.cell 6).trans rfl; have c7 := (kB.cell 7).trans rfl; have c8 := (kB.cell 8).trans rfl; have c10 := (kB.cell 10).trans rfl; have c11 := (kB.cell 11).trans rfl; have c12 := (kB.cell 12).trans rfl; have c13 := (kB.cell 13).trans rfl))
    go_ret
    exact ⟨by rw [HX.out]; rfl, hB⟩
  rw [errI_zero k1] at HI
  by_cases k2 : zw b.b0 b.b1 b.b2 b.b3
  · have hq := wEq_zw k2
    have HX := Lib.hid (HN.out (fun h => (HM.out.1 h).2.2.1 k2))
    clear k0 k1 k2 HN HY HM
    go_enter Tryz.func27, Tryz.ntmps27
    go_wp2_with (first
      | (go_at_call 11; refine (HA.out _).mono ?_; rintro e W1 ⟨rfl, hb1⟩; replace kB := kB.below hb1 kB.lt; replace hB := chain hB hb1; clear hb1; have c0 := (kB.cell 0).trans rfl; have c1 := (kB.cell 1).trans rfl; have c2 := (kB.cell 2).trans rfl; have c3 := (kB.cell 3).trans rfl; have c4 := (kB.cell 4).trans rfl; have c5 := (kB.cell 5).trans rfl; have c6 := (kB.cell 6).trans rfl; have c7 := (kB.cell 7).trans rfl; have c8 := (kB.cell 8).trans rfl; have c9 := (kB.cell 9).trans rfl)
      | (go_at_call 26; refine (HS.out _).mono ?_; rintro e W2 ⟨rfl, hb1⟩; replace kB := kB.below hb1 kB.lt; replace hB := chain hB hb1; clear hb1 c0 c1 c2 c3 c4 c5 c6 c7 c8 c9)
      | (go_at_call 25; refine (HI.out _).mono ?_; rintro e W3 ⟨rfl, hb1⟩; replace kB := kB.below hb1 kB.lt; replace hB := chain hB hb1; clear hb1; have c5 := (kB.cell 5).trans rfl; have c6 := (kB.cell 6).trans rfl; have c7 := (kB.cell 7).trans rfl; have c8 := (kB.cell 8).trans rfl; have c10 := (kB.cell 10).trans rfl; have c11 := (kB.cell 11).trans rfl; have c12 := (kB.cell 12).trans rfl; have c13 := (kB.cell 13).trans rfl))
    go_ret
    exact ⟨by rw [HX.out]; rfl, hB⟩
  have hq := wEq_zwn k2
  have HP := Lib.hid (And.intro k0 (And.intro k1 k2))
  clear k0 k1 k2
  by_cases k3 : 0 < cn
  · have HX := Lib.hid (HN.out (fun h => (HM.out.1 h).2.2.2.1 k3))
    clear HN HY HM HP
    go_enter Tryz.func27, Tryz.ntmps27
    go_wp2_with (first
      | (go_at_call 11; refine (HA.out _).mono ?_; rintro e W1 ⟨rfl, hb1⟩; replace kB := kB.below hb1 kB.lt; replace hB := chain hB hb1; clear hb1; have c0 := (kB.cell 0).trans rfl; have c1 := (kB.cell 1).trans rfl; have c2 := (kB.cell 2).trans rfl; have c3 := (kB.cell 3).trans rfl; have c4 := (kB.cell 4).trans rfl; have c5 := (kB.cell 5).trans rfl; have c6 := (kB.cell 6).trans rfl; have c7 := (kB.cell 7).trans rfl; have c8 := (kB.cell 8).trans rfl; have c9 := (kB.cell 9).trans rfl)
      | (go_at_call 26; refine (HS.out _).mono ?_; rintro e W2 ⟨rfl, hb1⟩; replace kB := kB.below hb1 kB.lt; replace hB := chain hB hb1; clear hb1 c0 c1 c2 c3 c4 c5 c6 c7 c8 c9)
      | (go_at_call 25; refine (HI.out _).mono ?_; rintro e W3 ⟨rfl, hb1⟩; replace kB := kB.below hb1 kB.lt; replace hB := chain hB hb1; clear hb1; have c5 := (kB.cell 5).trans rfl; have c6 := (kB.cell 6).trans rfl; have c7 := (kB.cell 7).trans rfl; have c8 := (kB.cell 8).trans rfl; have c10 := (kB.cell 10).trans rfl; have c11 := (kB.cell 11).trans rfl; have c12 := (kB.cell 12).trans rfl; have c13 := (kB.cell 13).trans rfl)
      | (go_at_call 47; refine (HV.out _).mono ?_; rintro e W4 ⟨rfl, hb1⟩; replace kB := kB.below hb1 kB.lt; replace hB := chain hB hb1; clear hb1 c5 c6 c7 c8 c10 c11 c12 c13; have c14 := (kB.cell 14).trans rfl; have c15 := (kB.cell 15).trans rfl))
    go_ret
    exact ⟨by rw [HX.out]; rfl, hB⟩
  by_cases k4 : b.un < 0
  · have HX := Lib.hid (HN.out (fun h => (HM.out.1 h).2.2.2.2.1 k4))
    clear HN HY HM HP
    go_enter Tryz.func27, Tryz.ntmps27
    go_wp2_with (first
      | (go_at_call 11; refine (HA.out _).mono ?_; rintro e W1 ⟨rfl, hb1⟩; replace kB := kB.below hb1 kB.lt; replace hB := chain hB hb1; clear hb1; have c0 := (kB.cell 0).trans rfl; have c1 := (kB.cell 1).trans rfl; have c2 := (kB.cell 2).trans rfl; have c3 := (kB.cell 3).trans rfl; have c4 := (kB.cell 4).trans rfl; have c5 := (kB.cell 5).trans rfl; have c6 := (kB.cell 6).trans rfl; have c7 := (kB.cell 7).trans rfl; have c8 := (kB.cell 8).trans rfl; have c9 := (kB.cell 9).trans rfl)
      | (go_at_call 26; refine (HS.out _).mono ?_; rintro e W2 ⟨rfl, hb1⟩; replace kB := kB.below hb1 kB.lt; replace hB := chain hB hb1; clear hb1 c0 c1 c2 c3 c4 c5 c6 c7 c8 c9)
      | (go_at_call 25; refine (HI.out _).mono ?_; rintro e W3 ⟨rfl, hb1⟩; replace kB := kB.below hb1 kB.lt; replace hB := chain hB hb1; clear hb1; have c5 := (kB.cell 5).trans rfl; have c6 := (kB.cell 6).trans rfl; have c7 := (kB.cell 7).trans rfl; have c8 := (kB.cell 8).trans rfl; have c10 := (kB.cell 10).trans rfl; have c11 := (kB.cell 11).trans rfl; have c12 := (kB.cell 12).trans rfl; have c13 := (kB.cell 13).trans rfl)
      | (go_at_call 47; refine (HV.out _).mono ?_; rintro e W4 ⟨rfl, hb1⟩; replace kB := kB.below hb1 kB.lt; replace hB := chain hB hb1; clear hb1 c5 c6 c7 c8 c10 c11 c12 c13; have c14 := (kB.cell 14).trans rfl; have c15 := (kB.cell 15).trans rfl))
    go_ret
    exact ⟨by rw [HX.out]; rfl, hB⟩
  by_cases k5 : 1099511627776 < b.un
  · have HX := Lib.hid (HN.out (fun h => (HM.out.1 h).2.2.2.2.2.1 k5))
    clear HN HY HM HP
    go_enter Tryz.func27, Tryz.ntmps27
    go_wp2_with (first
      | (go_at_call 11; refine (HA.out _).mono ?_; rintro e W1 ⟨rfl, hb1⟩; replace kB := kB.below hb1 kB.lt; replace hB := chain hB hb1; clear hb1; have c0 := (kB.cell 0).trans rfl; have c1 := (kB.cell 1).trans rfl; have c2 := (kB.cell 2).trans rfl; have c3 := (kB.cell 3).trans rfl; have c4 := (kB.cell 4).trans rfl; have c5 := (kB.cell 5).trans rfl; have c6 := (kB.cell 6).trans rfl; have c7 := (kB.cell 7).trans rfl; have c8 := (kB.cell 8).trans rfl; have c9 := (kB.cell 9).trans rfl)
      | (go_at_call 26; refine (HS.out _).mono ?_; rintro e W2 ⟨rfl, hb1⟩; replace kB := kB.below hb1 kB.lt; replace hB := chain hB hb1; clear hb1 c0 c1 c2 c3 c4 c5 c6 c7 c8 c9)
      | (go_at_call 25; refine (HI.out _).mono ?_; rintro e W3 ⟨rfl, hb1⟩; replace kB := kB.below hb1 kB.lt; replace hB := chain hB hb1; clear hb1; have c5 := (kB.cell 5).trans rfl; have c6 := (kB.cell 6).trans rfl; have c7 := (kB.cell 7).trans rfl; have c8 := (kB.cell 8).trans rfl; have c10 := (kB.cell 10).trans rfl; have c11 := (kB.cell 11).trans rfl; have c12 := (kB.cell 12).trans rfl; have c13 := (kB.cell 13).trans rfl)
      | (go_at_call 47; refine (HV.out _).mono ?_; rintro e W4 ⟨rfl, hb1⟩; replace kB := kB.below hb1 kB.lt; replace hB := chain hB hb1; clear hb1 c5 c6 c7 c8 c10 c11 c12 c13; have c14 := (kB.cell 14).trans rfl; have c15 := (kB.cell 15).trans rfl))
    go_ret
    exact ⟨by rw [HX.out]; rfl, hB⟩
  by_cases k6 : 1024 < (b.sg.size : Int)
  · have HX := Lib.hid (HN.out (fun h => (HM.out.1 h).2.2.2.2.2.2 k6))
    clear HN HY HM HP
    go_enter Tryz.func27, Tryz.ntmps27
    go_wp2_with (first
      | (go_at_call 11; refine (HA.out _).mono ?_; rintro e W1 ⟨rfl, hb1⟩; replace kB := kB.below hb1 kB.lt; replace hB := chain hB hb1; clear hb1; have c0 := (kB.cell 0).trans rfl; have c1 := (kB.cell 1).trans rfl; have c2 := (kB.cell 2).trans rfl; have c3 := (kB.cell 3).trans rfl; have c4 := (kB.cell 4).trans rfl; have c5 := (kB.cell 5).trans rfl; have c6 := (kB.cell 6).trans rfl; have c7 := (kB.cell 7).trans rfl; have c8 := (kB.cell 8).trans rfl; have c9 := (kB.cell 9).trans rfl)
      | (go_at_call 26; refine (HS.out _).mono ?_; rintro e W2 ⟨rfl, hb1⟩; replace kB := kB.below hb1 kB.lt; replace hB := chain hB hb1; clear hb1 c0 c1 c2 c3 c4 c5 c6 c7 c8 c9)
      | (go_at_call 25; refine (HI.out _).mono ?_; rintro e W3 ⟨rfl, hb1⟩; replace kB := kB.below hb1 kB.lt; replace hB := chain hB hb1; clear hb1; have c5 := (kB.cell 5).trans rfl; have c6 := (kB.cell 6).trans rfl; have c7 := (kB.cell 7).trans rfl; have c8 := (kB.cell 8).trans rfl; have c10 := (kB.cell 10).trans rfl; have c11 := (kB.cell 11).trans rfl; have c12 := (kB.cell 12).trans rfl; have c13 := (kB.cell 13).trans rfl)
      | (go_at_call 47; refine (HV.out _).mono ?_; rintro e W4 ⟨rfl, hb1⟩; replace kB := kB.below hb1 kB.lt; replace hB := chain hB hb1; clear hb1 c5 c6 c7 c8 c10 c11 c12 c13; have c14 := (kB.cell 14).trans rfl; have c15 := (kB.cell 15).trans rfl))
    go_ret
    exact ⟨by rw [HX.out]; rfl, hB⟩
  have HX := Lib.hid (HY.out (HM.out.2 ⟨HP.out.1, HP.out.2.1, HP.out.2.2, k3, k4, k5, k6⟩))
  clear HN HY HM HP
  go_enter Tryz.func27, Tryz.ntmps27
  go_wp2_with (first
    | (go_at_call 11; refine (HA.out _).mono ?_; rintro e W1 ⟨rfl, hb1⟩; replace kB := kB.below hb1 kB.lt; replace hB := chain hB hb1; clear hb1; have c0 := (kB.cell 0).trans rfl; have c1 := (kB.cell 1).trans rfl; have c2 := (kB.cell 2).trans rfl; have c3 := (kB.cell 3).trans rfl; have c4 := (kB.cell 4).trans rfl; have c5 := (kB.cell 5).trans rfl; have c6 := (kB.cell 6).trans rfl; have c7 := (kB.cell 7).trans rfl; have c8 := (kB.cell 8).trans rfl; have c9 := (kB.cell 9).trans rfl)
    | (go_at_call 26; refine (HS.out _).mono ?_; rintro e W2 ⟨rfl, hb1⟩; replace kB := kB.below hb1 kB.lt; replace hB := chain hB hb1; clear hb1 c0 c1 c2 c3 c4 c5 c6 c7 c8 c9)
    | (go_at_call 25; refine (HI.out _).mono ?_; rintro e W3 ⟨rfl, hb1⟩; replace kB := kB.below hb1 kB.lt; replace hB := chain hB hb1; clear hb1; have c5 := (kB.cell 5).trans rfl; have c6 := (kB.cell 6).trans rfl; have c7 := (kB.cell 7).trans rfl; have c8 := (kB.cell 8).trans rfl; have c10 := (kB.cell 10).trans rfl; have c11 := (kB.cell 11).trans rfl; have c12 := (kB.cell 12).trans rfl; have c13 := (kB.cell 13).trans rfl)
    | (go_at_call 47; refine (HV.out _).mono ?_; rintro e W4 ⟨rfl, hb1⟩; replace kB := kB.below hb1 kB.lt; replace hB := chain hB hb1; clear hb1 c5 c6 c7 c8 c10 c11 c12 c13; have c14 := (kB.cell 14).trans rfl; have c15 := (kB.cell 15).trans rfl))
  go_ret
  exact ⟨by rw [HX.out]; rfl, hB⟩
end Go.Proofs.YtbhfajnejibaoaaGreat
namespace Go.Proofs.YtbhfajnejibaoaaGreat
open Go.RowKit Go.Shelf
set_option maxRecDepth 100000 in
set_option maxHeartbeats 2000000 in
theorem refCat_any (l1 l2 : List UInt8) (s1 s2 : Value) (w : World) {lo1 lo2 : Nat} (hreach : l1.length + l2.length ≤ 140737488355328) (h1 : BSl lo1 w.heap.size w s1 l1) (h2 : BSl lo2 w.heap.size w s2 l2) :
    Calls Tryz.prog 71 #[s1, s2] w (ByO (l1 ++ l2) w) := by
  obtain ⟨i0, hi, hz0, hz1, hz2⟩ := info_parts Tryz.infoByte
  have h1' := h1
  have h2' := h2
  obtain ⟨a1, c1, rfl, _⟩ := h1'
  obtain ⟨a2, c2, rfl, _⟩ := h2'
  generalize hn1 : l1.length = n1 at *
  generalize hn2 : l2.length = n2 at *
  have HN1 := Lib.hid hn1
  have HN2 := Lib.hid hn2
  clear hn1 hn2
  go_enter Tryz.func71, Tryz.ntmps71
  go_wp2_with (first
    | (at_builtin; refine wpList_append_b _ rfl _ _ 58 rfl w.heap.size 5 i0 (.int .u8 0) Tryz.underlying58 hi hz0 hz1 hz2 rfl _ 0 [] rfl (World.ownsRow_lit w #[] 0 (Nat.le_refl _) (by unfold maxLen; omega) rfl) _ l1 rfl (h1.below ((Below.refl w.heap.size w).alloc (Nat.le_refl _) _) (Nat.le_refl _)) (by rw [HN1.out]; omega) (by simp) ?_; intro v' w1 hown' hgrow; (have hb1 : Below w.heap.size w w1 := (chain0 w _).grown hgrow (by simp) (fun k e => by have : w.heap.size = k := Option.some.inj e; omega)); have h21 := h2.below hb1 (Nat.le_refl _); rw [Nat.zero_add, List.nil_append] at hown')
    | (at_builtin; refine wpList_append_b _ rfl _ _ 58 rfl w.heap.size 5 i0 (.int .u8 0) Tryz.underlying58 hi hz0 hz1 hz2 rfl _ l1.length (l1.map bv) rfl hown' _ l2 rfl h21 (by rw [HN1.out, HN2.out]; omega) hb1.size ?_; intro v2 w2 hown2 hgrow2))
  go_ret
  refine ⟨_, rfl, ?_, hb1.grown hgrow2 hb1.size (fun j hj => (World.ownsRow.lt hown' j hj).1)⟩
  rw [List.length_append, List.map_append]
  exact hown2
end Go.Proofs.YtbhfajnejibaoaaGreat
namespace Go.Proofs.YtbhfajnejibaoaaGreat
open Go.RowKit
def numR (x s j : Nat) : List Value := List.replicate j (bv 0) ++ (octs x (s - j)).map bv
theorem numR_at (x s : Nat) {j p : Nat} (h : p < j) : (numR x s j)[p]? = some (bv 0) := by
  unfold numR; rw [List.getElem?_append_left (by simpa using h)]; simp [h]
theorem numR_step (x s : Nat) {p : Nat} (h : p < s) : (numR x s (p + 1)).set p (bv (oct (x / 256 ^ (s - (p + 1))) 0)) = numR x s p := by
  unfold numR
  have e : s - p = (s - (p + 1)) + 1 := by omega
  rw [e, octs]
  have e2 : oct (x / 256 ^ (s - (p + 1))) 0 = oct x (s - (p + 1)) := by
    unfold oct
    rw [show 2 ^ ((s - (p + 1)) * 8) = 256 ^ (s - (p + 1)) by rw [Nat.mul_comm, Nat.pow_mul]]
    simp
  rw [e2, List.replicate_succ', List.append_assoc, List.set_append_right _ _ (by simp)]
  simp
set_option maxRecDepth 100000 in
set_option maxHeartbeats 4000000 in
theorem refNum_any (n size : Int) (hs : -9223372036854775808 ≤ size) (hs' : size ≤ 9223372036854775807) (w : World) :
    Calls Tryz.prog 69 #[.int .i64 n, .int .i64 size] w (ByW (octs (two n) (clamp size)) w) := by
  obtain ⟨i0, hi, hz0, hz1, hz2⟩ := info_parts Tryz.infoByte
  have hU : IntKind.u64.wrap n = (two n : Nat) := wrap_two n
  have hx : two n < M := by unfold two M; omega
  generalize two n = x at *
  have H8 := clamp_le size
  have hCC := clamp_cases size
  generalize clamp size = s at *
  go_enter Tryz.func69, Tryz.ntmps69
  rcases hCC with ⟨hc0, hC⟩ | ⟨hc0, hc8, hC⟩ | ⟨hc8, hC⟩
  all_goals
    have HC := Lib.hid hC
    clear hC
    go_wp2_with (at_make; refine wpList_make_full _ rfl _ _ 58 rfl w.heap.size 5 i0 (.int .u8 0) 1 Tryz.underlying58 hi hz0 hz1 .i64 .i64 _ _ s rfl rfl HC.out.symm HC.out.symm (by rw [hz2]; omega) (by unfold maxLen; omega) (Nat.le_refl _) ?_; intro w1 hown hgrow)
    have hown0 : w1.ownsRow w.heap.size 5 1 (.slice (some ⟨w.heap.size, 0, none⟩) s s) s (numR x s s) := by
      have e : (madeCells (Value.int .u8 0).cells (s * 1)).toList = numR x s s := by
        rw [Nat.mul_one]
        refine (toList_madeCells_one (.int .u8 0) s).trans ?_
        unfold numR
        simp [octs]
      rw [← e]; exact hown
    have hB0 : Below w.heap.size w w1 := (Below.refl _ w).grown hgrow (Nat.le_refl _) (fun k e => by cases e)
    have hs8 : (s : Int) ≤ 8 := by omega
    clear hown hgrow
    go_loopw [6, 7] (fun u i wr => ∃ j : Nat, j ≤ s ∧ i = .int .i64 ((j : Int) - 1) ∧ u = .int .u64 (x / 256 ^ (s - j) : Nat) ∧ wr.ownsRow w.heap.size 5 1 (.slice (some ⟨w.heap.size, 0, none⟩) s s) s (numR x s j) ∧ Below w.heap.size w wr) (fun _ i _ => ((intOf i) + 1).toNat)
    case atStart => exact ⟨s, Nat.le_refl _, by have := HC.out; congr 1; omega, by rw [Nat.sub_self, Nat.pow_zero, Nat.div_one], hown0, hB0⟩
    case round =>
      obtain ⟨j, hj, rfl, rfl, hown, hB⟩ := hrel
      rcases j with _ | p
      · have e0 : ((0 : Nat) : Int) - 1 = -1 := by omega
        rw [e0]
        go_wp2
        go_ret
        refine ⟨_, rfl, BSl.of_own (e := 5) (l := octs x s) ?_, hB⟩
        rw [octs_length]
        exact hown
      · have hps : p < s := by omega
        have e1 : ((p + 1 : Nat) : Int) - 1 = (p : Int) := by omega
        have hst := numR_step x s hps
        have HS := Lib.hid hst
        clear hst
        have hc := hown.cellAt p (by omega)
        rw [numR_at x s (Nat.lt_succ_self p)] at hc
        have hf := hown.frozenAt p
        have hd : x / 256 ^ (s - (p + 1)) / 256 = x / 256 ^ (s - p) := by
          rw [Nat.div_div_eq_div_mul, ← Nat.pow_succ, show (s - (p + 1)).succ = s - p by omega]
        have HD := Lib.hid hd
        clear hd
        have hy : x / 256 ^ (s - (p + 1)) ≤ 18446744073709551615 := Nat.le_trans (Nat.div_le_self _ _) (by unfold M at hx; omega)
        have hp8 : (p : Int) < (s : Int) := by omega
        generalize x / 256 ^ (s - (p + 1)) = y at *
        have hy' : (y : Int) ≤ 18446744073709551615 := by omega
        rw [e1]
        clear e1
        go_wp2
        have hv : Value.int .u8 ((y : Int) % 256) = bv (oct y 0) := by rw [oct_bv]; simp
        have hown2 := (hown.stored p (bv (oct y 0))).1
        rw [HS.out] at hown2
        rw [hv]
        exact ⟨⟨p, by omega, rfl, by rw [← HD.out]; simp, hown2, hB.setCell (p := ⟨w.heap.size, p, none⟩) (Nat.le_refl _) _⟩, by simp [intOf]⟩
set_option maxRecDepth 100000 in
set_option maxHeartbeats 4000000 in
theorem refInt_any (l : List UInt8) (sv : Value) (w : World) (hreach : l.length ≤ 140737488351232) (hsv : BSl 0 w.heap.size w sv l) :
    Calls Tryz.prog 127 #[sv] w fun e W' => e = .returned (.int .i64 (be (l.take 7) : Nat)) ∧ W' = w := by
  obtain ⟨a, cap, rfl, hcap, hcs⟩ := hsv
  go_enter Tryz.func127, Tryz.ntmps127
  go_wp2
  go_loop [3, 4] (fun n i => ∃ k : Nat, k ≤ l.length ∧ k ≤ 7 ∧ i = .int .i64 k ∧ n = .int .i64 (be (l.take k) : Nat)) (fun _ i => l.length - (intOf i).toNat)
  case atStart => exact ⟨0, by omega, by omega, rfl, rfl⟩
  case round =>
    obtain ⟨k, hk, hk7, rfl, rfl⟩ := hrel
    have hbl := be_lt' (l := l.take k) (k := 7) (by rw [List.length_take]; omega)
    by_cases hlt : k < l.length
    · by_cases h7 : k < 7
      · obtain ⟨x, hx⟩ : ∃ x, l[k]? = some x := ⟨_, List.getElem?_eq_getElem hlt⟩
        obtain ⟨b, off, rfl, ho⟩ : ∃ b off, a = some ⟨b, off, none⟩ ∧ Octs w b off l := by
          rcases hcs with h0 | ⟨b, off, h1, _, _, h2⟩
          · rw [h0] at hlt; simp at hlt
          · exact ⟨b, off, h1, h2⟩
        have hc := ho k x hx
        have hs : be (l.take (k + 1)) = be (l.take k) * 256 + x.toNat := by
          rw [List.take_add_one, hx]; exact be_snoc _ _
        have HS := Lib.hid hs
        have HX := Lib.hid hx
        have hb6 := be_lt' (l := l.take k) (k := 6) (by rw [List.length_take]; omega)
        have hb6' : ((be (l.take k) : Nat) : Int) ≤ 281474976710655 := by omega
        clear hs hx ho hcs hbl hb6
        have hxl : (x.toNat : Int) ≤ 255 := by have := x.toNat_lt; omega
        have hlt' : (k : Int) < (l.length : Int) := by omega
        have h7' : (k : Int) < 7 := by omega
        have hd1 : decide ((k : Int) < (l.length : Int)) = true := by simpa using hlt
        generalize hL : l.length = len at *
        have HL := Lib.hid hL
        clear hL
        generalize be (l.take k) = y at *
        go_wp2
        go_round
        case rel => exact ⟨k + 1, by omega, by omega, by simp, by rw [HS.out]; simp⟩
        case measure => simp [intOf]; omega
      · obtain rfl : k = 7 := by omega
        have hlt' : (7 : Int) < (l.length : Int) := by omega
        go_wp2
        go_ret
        exact ⟨rfl, rfl⟩
    · obtain rfl : k = l.length := by omega
      have e7 : be (l.take l.length) = be (l.take 7) := by rw [List.take_of_length_le hk7, List.take_length]
      rw [e7]
      have HE := Lib.hid e7
      clear e7
      have hL : ((l.length : Nat) : Int) ≤ 7 := by omega
      clear hbl
      generalize hY : be (l.take 7) = y at *
      have HY := Lib.hid hY
      clear hY
      go_wp2
      go_ret
      exact ⟨congrArg (fun z : Nat => Ending.returned (.int .i64 (z : Int))) HY.out.symm, rfl⟩
end Go.Proofs.YtbhfajnejibaoaaGreat
namespace Go.Proofs.YtbhfajnejibaoaaGreat
open Go.RowKit
def dO (f : Nat → Nat) : Nat → List UInt8
  | 0 => []
  | k + 1 => dO f k ++ [UInt8.ofNat (f (15 - k) / 256), UInt8.ofNat (f (15 - k))]
theorem dO_length (f : Nat → Nat) (k : Nat) : (dO f k).length = 2 * k := by
  induction k with
  | zero => rfl
  | succ k ih => simp [dO, ih]; omega
theorem octs8 (a : Nat) : octs a 8 = [UInt8.ofNat (sh a 3 % 65536 / 256), UInt8.ofNat (sh a 3 % 65536), UInt8.ofNat (sh a 2 % 65536 / 256), UInt8.ofNat (sh a 2 % 65536), UInt8.ofNat (sh a 1 % 65536 / 256), UInt8.ofNat (sh a 1 % 65536), UInt8.ofNat (sh a 0 % 65536 / 256), UInt8.ofNat (sh a 0 % 65536)] := by
  have e : ∀ {m n : Nat}, m % 256 = n % 256 → UInt8.ofNat m = UInt8.ofNat n := fun h => UInt8.toNat_inj.1 (by rw [UInt8.toNat_ofNat', UInt8.toNat_ofNat']; simpa using h)
  simp only [octs, oct, sh, List.cons.injEq, and_true]
  refine ⟨e ?_, e ?_, e ?_, e ?_, e ?_, e ?_, e ?_, e ?_⟩ <;> omega
theorem dO_all (a0 a1 a2 a3 : Nat) : dO (dg a0 a1 a2 a3) 16 = wide8 a0 a1 a2 a3 := by
  unfold wide8
  rw [octs8 a3, octs8 a2, octs8 a1, octs8 a0]
  rfl
theorem byte_hi {y : Nat} (h : y ≤ 65535) : IntKind.u8.wrap (IntKind.i64.wrap ((y : Int) / 256)) = (((UInt8.ofNat (y / 256)).toNat : Nat) : Int) := by
  rw [wr_i64 _ (by omega) (by omega), UInt8.toNat_ofNat']
  simp [IntKind.wrap, IntKind.bits, IntKind.signed]
theorem byte_lo {y : Nat} (h : y ≤ 65535) : IntKind.u8.wrap (Int.tmod (y : Int) 256) = (((UInt8.ofNat y).toNat : Nat) : Int) := by
  rw [UInt8.toNat_ofNat', Int.tmod_eq_emod_of_nonneg (by omega)]
  simp [IntKind.wrap, IntKind.bits, IntKind.signed]
set_option maxRecDepth 100000 in
set_option maxHeartbeats 4000000 in
theorem refWide_any {a0 a1 a2 a3 : Nat} (ha : Ok4 a0 a1 a2 a3) (w : World) :
    Calls Tryz.prog 70 #[wv a0 a1 a2 a3] w (ByW (wide8 a0 a1 a2 a3) w) := by
  have hmx : Tryz.prog.follows .mixedOrders = true := by kernel_rfl
  obtain ⟨i0, hi, hz0, hz1, hz2⟩ := info_parts Tryz.infoByte
  rw [← dO_all]
  go_enter Tryz.func70, Tryz.ntmps70
  go_wp2_with fail
  refine (digits_any ha _).mono ?_
  rintro e w1 ⟨g, cap, rfl, hg, hg1, hnums, hb1⟩
  have hd1 := chain (chain0 w _) hb1
  have hf : ∀ k, dg a0 a1 a2 a3 k ≤ 65535 := fun k => by unfold dg; omega
  clear hb1
  generalize dg a0 a1 a2 a3 = f at *
  go_wp2
  go_loopw [4, 5] (fun v i wr => ∃ k : Nat, k ≤ 16 ∧ i = .int .i64 (15 - (k : Int)) ∧ wr.ownsRow w1.heap.size 5 1 v (2 * k) ((dO f k).map bv) ∧ Below w1.heap.size w1 wr) (fun _ i _ => ((intOf i) + 1).toNat)
  case atStart => exact ⟨0, by omega, rfl, World.ownsRow_nil _ _ _ _, Below.refl _ _⟩
  case round =>
    obtain ⟨k, hk, rfl, hown, hB⟩ := hrel
    by_cases hlt : k < 16
    · have hp : (15 : Int) - k = ((15 - k : Nat) : Int) := by omega
      have hpl : 15 - k ≤ 15 := by omega
      have hc := hnums.below hB hg1 (15 - k) (by omega)
      have hfk := hf (15 - k)
      have hst : dO f (k + 1) = dO f k ++ [UInt8.ofNat (f (15 - k) / 256), UInt8.ofNat (f (15 - k))] := rfl
      have HS := Lib.hid hst
      have HP := Lib.hid hp
      rw [hp]
      clear hp hst
      generalize f (15 - k) = y at *
      generalize 15 - k = p at *
      have hy : (y : Int) ≤ 65535 := by omega
      have hp16 : (p : Int) < 16 := by omega
      go_wp2_with fail
      refine wp_region_held_drew (S := fun w' => w'.cell? ⟨g, p, none⟩ = some (.int .i64 (y : Int)) ∧ w'.heap.size > g) hmx ⟨hc, Nat.lt_of_lt_of_le hg1 hB.size⟩ ?_
      intro hS
      generalize hw2 : wr.drew = w2 at *
      refine wpAnyH_take (i := 0) (v := ?_) rfl (by kernel_rfl) (by kernel_rfl) (by kernel_rfl) (fun _ _ _ h => h) (Or.inl ⟨rfl, ?_⟩) hS ?_
      rotate_left
      · intro w' hS'; go_simp; with_reducible rfl
      refine wpAnyH_take (i := 1) (v := ?_) rfl (by kernel_rfl) (by kernel_rfl) (by kernel_rfl) (fun _ _ _ h => h) (Or.inl ⟨rfl, ?_⟩) hS ?_
      rotate_left
      · intro w' hS'; go_simp; with_reducible rfl
      refine wpAnyH_take (i := 2) (v := ?_) rfl (by kernel_rfl) (by kernel_rfl) (by kernel_rfl) (fun _ _ _ h => h) (Or.inl ⟨rfl, ?_⟩) hS ?_
      rotate_left
      · intro w' hS'; go_simp; with_reducible rfl
      refine wpAnyH_take (i := 3) (v := ?_) rfl (by kernel_rfl) (by kernel_rfl) (by kernel_rfl) (fun _ _ _ h => h) (Or.inl ⟨rfl, ?_⟩) hS ?_
      rotate_left
      · intro w' hS'; go_simp; with_reducible rfl
      refine wpAnyH_take (i := 4) (v := ?_) rfl (by kernel_rfl) (by kernel_rfl) (by kernel_rfl) (fun _ _ _ h => h) (Or.inl ⟨rfl, ?_⟩) hS ?_
      rotate_left
      · intro w' hS'; go_simp; with_reducible rfl
      refine wpAnyH_take (i := 5) (v := ?_) rfl (by kernel_rfl) (by kernel_rfl) (by kernel_rfl) (fun _ _ _ h => h) (Or.inl ⟨rfl, ?_⟩) hS ?_
      rotate_left
      · intro w' hS'; go_simp; with_reducible rfl
      refine wpAnyH_take (i := 6) (v := ?_) rfl (by kernel_rfl) (by kernel_rfl) (by kernel_rfl) (fun _ _ _ h => h) (Or.inl ⟨rfl, ?_⟩) hS ?_
      rotate_left
      · intro w' hS'; go_simp; with_reducible rfl
      refine wpAnyH_take (i := 7) (v := ?_) rfl (by kernel_rfl) (by kernel_rfl) (by kernel_rfl) (fun _ _ _ h => h) (Or.inl ⟨rfl, ?_⟩) hS ?_
      rotate_left
      · intro w' hS'; go_simp; with_reducible rfl
      refine wpAnyH_take (i := 8) (v := ?_) rfl (by kernel_rfl) (by kernel_rfl) (by kernel_rfl) (fun _ _ _ h => h) (Or.inl ⟨rfl, ?_⟩) hS ?_
      rotate_left
      · intro w' hS'; go_simp; with_reducible rfl
      refine wpAnyH_take (i := 9) (v := ?_) rfl (by kernel_rfl) (by kernel_rfl) (by kernel_rfl) (fun _ _ _ h => h) (Or.inl ⟨rfl, ?_⟩) hS ?_
      rotate_left
      · intro w' hS'; go_simp; with_reducible rfl
      refine wpAnyH_take (i := 10) (v := ?_) rfl (by kernel_rfl) (by kernel_rfl) (by kernel_rfl) (fun _ _ _ h => h) (Or.inl ⟨rfl, ?_⟩) hS ?_
      rotate_left
      · intro w' hS'; go_simp; with_reducible rfl
      refine wpAnyH_take (i := 11) (v := ?_) rfl (by kernel_rfl) (by kernel_rfl) (by kernel_rfl) (fun _ _ _ h => h) (Or.inl ⟨rfl, ?_⟩) hS ?_
      rotate_left
      · intro w' hS'; go_simp; with_reducible rfl
      refine wpAnyH_take (i := 12) (v := ?_) rfl (by kernel_rfl) (by kernel_rfl) (by kernel_rfl) (fun _ _ _ h => h) (Or.inl ⟨rfl, ?_⟩) hS ?_
      rotate_left
      · intro w' hS'; go_simp; with_reducible rfl
      have hB2 : Below w1.heap.size w1 w2 := by rw [← hw2]; exact hB.drew
      have hown2 : w2.ownsRow w1.heap.size 5 1 u4 (2 * k) ((dO f k).map bv) := by rw [← hw2]; exact hown
      have hz2' : w1.heap.size ≤ w2.heap.size := hB2.size
      rw [byte_hi hfk, byte_lo hfk]
      clear hw2 hc hB hown
      generalize UInt8.ofNat (y / 256) = x1 at *
      generalize UInt8.ofNat y = x0 at *
      refine wpAnyH_ready (rs := [13]) (by kernel_rfl) (by simp) ?_
      refine AllReadyH.cons rfl (fun K hK => ?_) AllReadyH.nil
      go_simp
      refine hK.out _ _ ⟨(World.cell?_alloc_lt _ _ _ hS.2).trans hS.1, by simp; have := hS.2; omega⟩ (fun hS3 => ?_)
      clear hK K
      refine wpAnyH_ready (rs := [14]) (by kernel_rfl) (by simp) ?_
      refine AllReadyH.cons rfl (fun K hK => ?_) AllReadyH.nil
      rw [if_pos (by kernel_rfl)]
      refine wp_append_own _ _ _ 58 rfl w1.heap.size 5 i0 (.int .u8 0) 1 1 Tryz.underlying58 hi hz0 hz1 hz2 rfl (by decide) u4 (2 * k) ((dO f k).map bv) rfl (hown2.alloc _) ⟨w2.heap.size, 0, none⟩ 2 2 [bv x1, bv x0] rfl rfl (World.news_of_block (cs := #[bv x1, bv x0]) (World.alloc_heap_new w2 _)) (by simp [Value.oneCell']) (by unfold maxLen; omega) (by omega) (by simp; omega) ?_
      intro v' w3 hown' hgrow _
      have hB3 : Below w1.heap.size w2 w3 := ((Below.refl _ w2).alloc hz2' (.cells #[bv x1, bv x0] 5)).grown hgrow (by simp; omega) (fun j hj => (World.ownsRow.lt hown2 j hj).1)
      refine hK.out _ _ ⟨(hB3.cell (p := ⟨g, p, none⟩) hg1).trans hS.1, by have := hB3.size; have := hS.2; omega⟩ (fun hS4 => ?_)
      clear hK K
      refine wpAnyH_take (i := 15) (v := ?_) rfl (by kernel_rfl) (by kernel_rfl) (by kernel_rfl) (fun _ _ _ h => h) (Or.inl ⟨rfl, ?_⟩) hS4 ?_
      rotate_left
      · intro w' hS'; go_simp; with_reducible rfl
      refine wpAnyH_done (by kernel_rfl) ?_ _
      go_wp2
      have hq : (p : Int) - 1 = 15 - ((k + 1 : Nat) : Int) := by have := HP.out; omega
      exact ⟨⟨k + 1, by omega, by rw [hq], by rw [HS.out, List.map_append, Nat.mul_add]; exact hown', hB2.trans hB3⟩, by simp [intOf]⟩
    · obtain rfl : k = 16 := by omega
      have hq : (15 : Int) - ((16 : Nat) : Int) = -1 := by omega
      rw [hq]
      go_wp2
      go_ret
      refine ⟨_, rfl, (BSl.of_own (e := 5) (l := dO f 16) (lo := w1.heap.size) ?_).mono hd1.size (Nat.le_refl _), hd1.trans (hB.mono hd1.size)⟩
      rw [dO_length]
      exact hown
end Go.Proofs.YtbhfajnejibaoaaGreat
namespace Go.Proofs.YtbhfajnejibaoaaGreat
open Go.RowKit Go.Shelf
def RefS (s : St) (w : World) (e : Ending) (W' : World) : Prop := ∃ sv, e = .returned (.agg #[sv, .int .i64 s.2]) ∧ BSl 0 W'.heap.size W' sv s.1 ∧ Below w.heap.size w W'
theorem clamp6' : clamp 6 = 6 := rfl
theorem clamp2' : clamp 2 = 2 := rfl
theorem two_nat' {n : Nat} (h : n < 18446744073709551616) : two (n : Int) = n := by unfold two; omega
theorem Blk.c2 {W : World} {B : Nat} {t : TypeId} {v0 v1 : Value} (h : Blk W B t [v0, v1]) : W.cell? ⟨B, 0, none⟩ = some v0 ∧ W.cell? ⟨B, 1, none⟩ = some v1 := ⟨h.cell 0, h.cell 1⟩
theorem noOct2 {W : World} {B : Nat} {T : TypeId} {a : Option Addr} {n c : Nat} {x : Int} (h : Blk W B T [.slice a n c, .int .i64 x]) : NoOct W B := noOct_blk h (by
  intro v hv y
  simp only [List.mem_cons, List.not_mem_nil, or_false] at hv
  rcases hv with rfl | rfl <;> simp [bv])
set_option maxRecDepth 100000 in
theorem refPutE_any {s : St} (sv s2 : Value) (x : Int) (hx : x ≠ 0) (w : World) (hsl : BSl 0 w.heap.size w sv s.1) :
    Calls Tryz.prog 68 #[.agg #[sv, .int .i64 s.2], s2, .int .i64 x] w (RefS (errS s x) w) := by
  obtain ⟨a, m, c, rfl⟩ := hsl.shape3
  have hx1 : (x != 0) = true := by simpa using hx
  by_cases hf : s.2 = 0
  · have e1 : errS s x = ([], x) := if_pos hf
    rw [e1]
    clear e1
    have hf1 : (s.2 != 0) = false := by simpa using hf
    have hf2 : (s.2 == 0) = true := by simpa using hf
    clear hf
    go_enter Tryz.func68, Tryz.ntmps68
    go_wp2
    exact bodyPost_ret (v := .agg #[.slice none 0 0, .int .i64 x]) (by simp [results, Tryz.results68, go_sem]) rfl ⟨_, rfl, BSl.nil _ _ _, chainA (chain0 w _) _⟩
  · rw [errS_bad hf]
    have hf1 : (s.2 != 0) = true := by simpa using hf
    have hf2 : (s.2 == 0) = false := by simpa using hf
    clear hf
    go_enter Tryz.func68, Tryz.ntmps68
    go_wp2
    have hB : Below w.heap.size w ((w.alloc (.cells #[.slice a m c, .int .i64 s.2] 97)).alloc (.cells #[.slice a m c, .int .i64 s.2] 97)) := chainA (chain0 _ _) _
    exact bodyPost_ret (v := .agg #[.slice a m c, .int .i64 s.2]) (by simp [results, Tryz.results68, go_sem]) rfl ⟨_, rfl, (hsl.below hB (Nat.le_refl _)).mono (Nat.le_refl _) hB.size, hB⟩
set_option maxRecDepth 100000 in
set_option maxHeartbeats 1000000 in
theorem refPut_any {s : St} (hok : OkS s) (sv s2 : Value) (l : List UInt8) (hl : l.length ≤ 140737488345000) (w : World) (hsl : BSl 0 w.heap.size w sv s.1) (hs2 : BSl 0 w.heap.size w s2 l) :
    Calls Tryz.prog 68 #[.agg #[sv, .int .i64 s.2], s2, .int .i64 0] w (RefS (addS s l) w) := by
  have h82 := hok.2
  obtain ⟨a, c, rfl, -⟩ := hsl.shape
  obtain ⟨a2, c2, rfl, -⟩ := hs2.shape
  by_cases hf : s.2 = 0
  · have e1 : addS s l = if s.1.length + l.length ≤ 8192 then (s.1 ++ l, 0) else ([], 5) := if_pos hf
    rw [e1]
    clear e1
    have hf1 : (s.2 != 0) = false := by simpa using hf
    have hf2 : (s.2 == 0) = true := by simpa using hf
    have HF := Lib.hid hf
    clear hf
    generalize hn : s.1.length = n at *
    generalize hk : l.length = k at *
    have HN := Lib.hid hn
    have HK := Lib.hid hk
    clear hn hk
    by_cases hfit : n + k ≤ 8192
    · rw [if_pos hfit]
      have hgt : ¬ ((8192 : Int) < (n : Int) + (k : Int)) := by omega
      go_enter Tryz.func68, Tryz.ntmps68
      go_wp2_with (go_at_call 71; refine (refCat_any s.1 l (.slice a n c) (.slice a2 k c2) _ (by have := HN.out; have := HK.out; omega) ((hsl.below (chainA (chain0 w _) _) (Nat.le_refl _)).mono (Nat.le_refl _) (by simp; omega)) ((hs2.below (chainA (chain0 w _) _) (Nat.le_refl _)).mono (Nat.le_refl _) (by simp; omega))).mono ?_; rintro e w1 ⟨v, rfl, hv, hb1⟩; obtain ⟨va, vm, vc, rfl⟩ := (BSl.of_own hv).shape3; have kR : Blk w1 (w.heap.size + 1) 97 [.slice none 0 0, .int .i64 0] := (Blk.new' (by simp)).below hb1 (by simp); have r0 := kR.c2.1; have r1 := kR.c2.2; have g0 := kR.frozen 0; have g1 := kR.frozen 1)
      have hB1 := chain (chainA (chain0 w _) _) hb1
      have hB := (hB1.setCell (p := ⟨w.heap.size + 1, 0, none⟩) (by simp) (.slice va vm vc)).setCell (p := ⟨w.heap.size + 1, 1, none⟩) (by simp) (.int .i64 0)
      have kR2 := (kR.set 0 (.slice va vm vc)).set 1 (.int .i64 0)
      obtain ⟨q0, q1⟩ := Blk.c2 kR2
      exact bodyPost_ret (v := .agg #[.slice va vm vc, .int .i64 0]) (by simp [results, Tryz.results68, go_sem, q0, q1]) rfl ⟨_, rfl, ((((BSl.of_own hv).to (Nat.le_refl _) (grownBy_setCell4 w1 (w.heap.size + 1) 0 (.slice va vm vc)) (fun r e => by cases e; exact noOct2 kR)).to (by simp) (grownBy_setCell4 _ (w.heap.size + 1) 1 (.int .i64 0)) (fun r e => by cases e; exact noOct2 (kR.set 0 _)))).mono (Nat.zero_le _) (by simp), hB⟩
    · rw [if_neg hfit]
      have hgt : (8192 : Int) < (n : Int) + (k : Int) := by omega
      go_enter Tryz.func68, Tryz.ntmps68
      go_wp2
      exact bodyPost_ret (v := .agg #[.slice none 0 0, .int .i64 5]) (by simp [results, Tryz.results68, go_sem]) rfl ⟨_, rfl, BSl.nil _ _ _, chainA (chain0 w _) _⟩
  · rw [addS_bad hf]
    have hf1 : (s.2 != 0) = true := by simpa using hf
    have hf2 : (s.2 == 0) = false := by simpa using hf
    clear hf
    generalize hn : s.1.length = n at *
    generalize hk : l.length = k at *
    clear hn hk
    go_enter Tryz.func68, Tryz.ntmps68
    go_wp2
    have hB : Below w.heap.size w ((w.alloc (.cells #[.slice a n c, .int .i64 s.2] 97)).alloc (.cells #[.slice a n c, .int .i64 s.2] 97)) := chainA (chain0 _ _) _
    exact bodyPost_ret (v := .agg #[.slice a n c, .int .i64 s.2]) (by simp [results, Tryz.results68, go_sem]) rfl ⟨_, rfl, (hsl.below hB (Nat.le_refl _)).mono (Nat.le_refl _) hB.size, hB⟩
end Go.Proofs.YtbhfajnejibaoaaGreat
namespace Go.Proofs.YtbhfajnejibaoaaGreat
open Go.RowKit Go.Shelf
theorem stored_at {l : List UInt8} {y : Int} {w Y : World} {sv : Value} {T : TypeId} {NB : Nat} {z : Value} {x : Int} (hsl : BSl 0 Y.heap.size Y sv l) (hB : Below w.heap.size w Y) (hNB : w.heap.size ≤ NB) (hz : ∃ a m c, z = .slice a m c)
    (kR : Blk Y NB T [z, .int .i64 x]) :
    Blk ((Y.setCell ⟨NB, 0, none⟩ sv).setCell ⟨NB, 1, none⟩ (.int .i64 y)) NB T [sv, .int .i64 y] ∧
    BSl 0 ((Y.setCell ⟨NB, 0, none⟩ sv).setCell ⟨NB, 1, none⟩ (.int .i64 y)).heap.size ((Y.setCell ⟨NB, 0, none⟩ sv).setCell ⟨NB, 1, none⟩ (.int .i64 y)) sv l ∧ Below w.heap.size w ((Y.setCell ⟨NB, 0, none⟩ sv).setCell ⟨NB, 1, none⟩ (.int .i64 y)) := by
  obtain ⟨a, m, c, rfl⟩ := hz
  obtain ⟨a2, m2, c2, rfl⟩ := hsl.shape3
  have k1 := kR.set 0 (.slice a2 m2 c2)
  refine ⟨k1.set 1 _, ?_, (hB.setCell (p := ⟨NB, 0, none⟩) hNB _).setCell (p := ⟨NB, 1, none⟩) hNB _⟩
  exact ((hsl.to (Nat.le_refl _) (grownBy_setCell4 Y NB 0 (.slice a2 m2 c2)) (fun r e => by cases e; exact noOct2 kR)).to (by simp) (grownBy_setCell4 _ NB 1 (.int .i64 y)) (fun r e => by cases e; exact noOct2 k1)).mono (Nat.le_refl _) (by simp)
theorem refS_stored {s : St} {w Y : World} {sv : Value} {NB : Nat} {z : Value} {x : Int} (hsl : BSl 0 Y.heap.size Y sv s.1) (hB : Below w.heap.size w Y) (hNB : w.heap.size ≤ NB) (hz : ∃ a m c, z = .slice a m c)
    (kR : Blk Y NB 97 [z, .int .i64 x]) :
    Blk ((Y.setCell ⟨NB, 0, none⟩ sv).setCell ⟨NB, 1, none⟩ (.int .i64 s.2)) NB 97 [sv, .int .i64 s.2] ∧ RefS s w (.returned (.agg #[sv, .int .i64 s.2])) ((Y.setCell ⟨NB, 0, none⟩ sv).setCell ⟨NB, 1, none⟩ (.int .i64 s.2)) := by
  obtain ⟨h1, h2, h3⟩ := stored_at (y := s.2) hsl hB hNB hz kR
  exact ⟨h1, _, rfl, h2, h3⟩
set_option maxRecDepth 100000 in
set_option maxHeartbeats 2000000 in
theorem refNum6_any {s : St} (hok : OkS s) (sv : Value) (n : Int) (w : World) (hsl : BSl 0 w.heap.size w sv s.1) :
    Calls Tryz.prog 50 #[.agg #[sv, .int .i64 s.2], .int .i64 n] w (RefS (numS s n) w) := by
  have hmx : Tryz.prog.follows .mixedOrders = true := by kernel_rfl
  obtain ⟨a, m, c, rfl⟩ := hsl.shape3
  by_cases hn : 0 ≤ n ∧ n ≤ 1099511627776
  · have e1 : numS s n = addS s (octs (two n) 6) := if_pos hn
    rw [e1]
    clear e1
    obtain ⟨h0, h1⟩ := hn
    have g0 : ¬ n < 0 := by omega
    have g1 : ¬ 1099511627776 < n := by omega
    go_enter Tryz.func50, Tryz.ntmps50
    go_wp2_with fail
    generalize hW0 : World.alloc _ _ = W0
    have kA : Blk W0 w.heap.size 97 [.slice a m c, .int .i64 s.2] := by rw [← hW0]; exact (Blk.new w _ [_, _]).alloc _
    have kR : Blk W0 (w.heap.size + 1) 97 [.slice none 0 0, .int .i64 0] := by rw [← hW0]; exact Blk.new' (vs := [_, _]) (by simp)
    have hB0 : Below w.heap.size w W0 := by rw [← hW0]; exact chainA (chain0 _ _) _
    have hz0 : W0.heap.size = w.heap.size + 2 := by rw [← hW0]; simp
    clear hW0
    have HZ := Lib.hid hz0
    clear hz0
    clear g0 g1
    refine wp_region_held_drew (S := fun W => Blk W w.heap.size 97 [.slice a m c, .int .i64 s.2]) hmx kA ?_
    intro hS
    replace kR : Blk W0.drew (w.heap.size + 1) 97 [.slice none 0 0, .int .i64 0] := kR
    have hB := hB0.drew
    replace hsl : BSl 0 W0.drew.heap.size W0.drew (.slice a m c) s.1 := (hsl.below hB (Nat.le_refl _)).mono (Nat.le_refl _) hB.size
    have HZ2 : Hid (W0.drew.heap.size = w.heap.size + 2) := HZ.out
    clear HZ kA hB0
    generalize W0.drew = Y at *
    refine' wpAnyH_take (i := 0) (oi := _) (v := _) ?hi1 (by kernel_rfl) (by kernel_rfl) (by kernel_rfl) ?hQ1 (Or.inl ⟨?hw1, ?hy1⟩) hS ?rest1
    case hi1 => simp only [List.getElem?_toArray, List.getElem?_cons_zero]; rfl
    case hQ1 => exact fun _ _ _ h => h
    case hw1 => rfl
    case hy1 => intro W' hS'; obtain ⟨c0, c1⟩ := Blk.c2 hS'; go_simp; with_reducible rfl
    try simp only [Act.put, List.setIfInBounds_toArray, List.set_cons_zero, List.set_cons_succ]
    refine' wpAnyH_take (i := 1) (oi := _) (v := _) ?hi2 (by kernel_rfl) (by kernel_rfl) (by kernel_rfl) ?hQ2 (Or.inl ⟨?hw2, ?hy2⟩) hS ?rest2
    case hi2 => simp only [List.getElem?_toArray, List.getElem?_cons_succ, List.getElem?_cons_zero]; rfl
    case hQ2 => exact fun _ _ _ h => h
    case hw2 => rfl
    case hy2 => intro W' hS'; go_simp; with_reducible rfl
    try simp only [Act.put, List.setIfInBounds_toArray, List.set_cons_zero, List.set_cons_succ]
    refine wpAnyH_ready (rs := [2]) (by kernel_rfl) (by simp) ?_
    refine' AllReadyH.cons (o := _) ?ho3 (fun K hK => ?st3) AllReadyH.nil
    case ho3 => simp only [List.getElem?_toArray, List.getElem?_cons_succ, List.getElem?_cons_zero]; rfl
    case st3 =>
      go_simp
      refine (refNum_any n 6 (by omega) (by omega) _).mono ?_
      rintro e Y1 ⟨v, rfl, hv, hb1⟩
      refine hK.out _ _ (hS.below hb1 hS.lt) (fun hS => ?_)
      clear hK K
      try simp only [Act.put, List.setIfInBounds_toArray, List.set_cons_zero, List.set_cons_succ]
      replace kR := kR.below hb1 kR.lt
      replace hB := chain hB hb1
      replace hsl := (hsl.below hb1 (Nat.le_refl _)).mono (Nat.le_refl _) hb1.size
      rw [clamp6'] at hv
      obtain ⟨va, vm, vc, rfl⟩ := hv.shape3
      replace hv := hv.mono (Nat.zero_le _) (Nat.le_refl _)
      clear hb1
      refine wpAnyH_ready (rs := [3]) (by kernel_rfl) (by simp) ?_
      refine' AllReadyH.cons (o := _) ?ho4 (fun K hK => ?st4) AllReadyH.nil
      case ho4 => simp only [List.getElem?_toArray, List.getElem?_cons_succ, List.getElem?_cons_zero]; rfl
      case st4 =>
        go_simp
        refine (refPut_any hok (.slice a m c) (.slice va vm vc) (octs (two n) 6) (by rw [octs_length]; omega) _ hsl hv).mono ?_
        rintro e Y2 ⟨v2, rfl, hv2, hb2⟩
        refine hK.out _ _ (hS.below hb2 hS.lt) (fun hS => ?_)
        clear hK K
        try simp only [Act.put, List.setIfInBounds_toArray, List.set_cons_zero, List.set_cons_succ]
        replace kR := kR.below hb2 kR.lt
        replace hB := chain hB hb2
        clear hv hb2 hsl
        obtain ⟨va, vm, vc, rfl⟩ := hv2.shape3
        have hv := hv2
        clear hv2
        refine wpAnyH_ready (rs := [4]) (by kernel_rfl) (by simp) ?_
        refine' AllReadyH.cons (o := _) ?ho5 (fun K hK => ?st5) AllReadyH.nil
        case ho5 => simp only [List.getElem?_toArray, List.getElem?_cons_succ, List.getElem?_cons_zero]; rfl
        case st5 =>
          obtain ⟨r0, r1⟩ := Blk.c2 kR
          have g0 := kR.frozen 0
          have g1 := kR.frozen 1
          go_simp
          have hfin := refS_stored hv hB (Nat.le_add_right _ 1) ⟨_, _, _, rfl⟩ kR
          refine hK.out _ _ ((hS.other 0 _ (by omega)).other 1 _ (by omega)) (fun hS => ?_)
          clear hK K
          try simp only [Act.put, List.setIfInBounds_toArray, List.set_cons_zero, List.set_cons_succ]
          refine wpAnyH_done (by kernel_rfl) ?_ _
          go_wp2_with fail
          obtain ⟨q0, q1⟩ := Blk.c2 hfin.1
          exact bodyPost_ret (v := .agg #[.slice va vm vc, .int .i64 (addS s (octs (two n) 6)).2]) (by simp [results, Tryz.results50, go_sem, q0, q1]) rfl hfin.2
  · have e1 : numS s n = errS s 4 := if_neg hn
    rw [e1]
    clear e1
    by_cases h0 : n < 0
    all_goals
      have HN := Lib.hid hn
      clear hn
      try (have g1 : 1099511627776 < n := by have := HN.out; omega)
      go_enter Tryz.func50, Tryz.ntmps50
      go_wp2_with fail
      generalize hW0 : World.alloc _ _ = W0
      have kA : Blk W0 w.heap.size 97 [.slice a m c, .int .i64 s.2] := by rw [← hW0]; exact (Blk.new w _ [_, _]).alloc _
      have kR : Blk W0 (w.heap.size + 1) 97 [.slice none 0 0, .int .i64 0] := by rw [← hW0]; exact Blk.new' (vs := [_, _]) (by simp)
      have hB0 : Below w.heap.size w W0 := by rw [← hW0]; exact chainA (chain0 _ _) _
      have hz0 : W0.heap.size = w.heap.size + 2 := by rw [← hW0]; simp
      clear hW0
      have HZ := Lib.hid hz0
      clear hz0
      obtain ⟨c0, c1⟩ := Blk.c2 kA
      go_wp2_with (go_at_call 68; refine (refPutE_any (s := s) (.slice a m c) (.slice none 0 0) 4 (by decide) _ ((hsl.below hB0 (Nat.le_refl _)).mono (Nat.le_refl _) hB0.size)).mono ?_; rintro e Y2 ⟨v2, rfl, hv2, hb2⟩; obtain ⟨va, vm, vc, rfl⟩ := hv2.shape3; have kR2 := kR.below hb2 kR.lt; obtain ⟨r0, r1⟩ := Blk.c2 kR2; have g0 := kR2.frozen 0; have g1 := kR2.frozen 1)
      have hfin := refS_stored hv2 (chain hB0 hb2) (Nat.le_add_right _ 1) ⟨_, _, _, rfl⟩ kR2
      obtain ⟨q0, q1⟩ := Blk.c2 hfin.1
      exact bodyPost_ret (v := .agg #[.slice va vm vc, .int .i64 (errS s 4).2]) (by simp [results, Tryz.results50, go_sem, q0, q1]) rfl hfin.2
set_option maxRecDepth 100000 in
set_option maxHeartbeats 2000000 in
theorem refWide6_any {s : St} (hok : OkS s) (sv : Value) {a0 a1 a2 a3 : Nat} (ha : Ok4 a0 a1 a2 a3) (w : World) (hsl : BSl 0 w.heap.size w sv s.1) :
    Calls Tryz.prog 51 #[.agg #[sv, .int .i64 s.2], wv a0 a1 a2 a3] w (RefS (wideS s a0 a1 a2 a3) w) := by
  have hmx : Tryz.prog.follows .mixedOrders = true := by kernel_rfl
  obtain ⟨a, m, c, rfl⟩ := hsl.shape3
  have hl : (wide8 a0 a1 a2 a3).length = 32 := by unfold wide8; simp only [List.length_append, octs_length]
  have HL := Lib.hid hl
  clear hl
  unfold wideS
  go_enter Tryz.func51, Tryz.ntmps51
  go_wp2_with fail
  generalize hW0 : World.alloc _ _ = W0
  have kA : Blk W0 w.heap.size 97 [.slice a m c, .int .i64 s.2] := by rw [← hW0]; exact ((Blk.new w _ [_, _]).alloc _).alloc _
  have kV : BlkW W0 (w.heap.size + 1) a0 a1 a2 a3 := by rw [← hW0]; exact (Blk.new' (vs := [_, _, _, _]) (by simp)).alloc _
  have kR : Blk W0 (w.heap.size + 2) 97 [.slice none 0 0, .int .i64 0] := by rw [← hW0]; exact Blk.new' (vs := [_, _]) (by simp)
  have hB0 : Below w.heap.size w W0 := by rw [← hW0]; exact chainA (chainA (chain0 _ _) _) _
  have hz0 : W0.heap.size = w.heap.size + 3 := by rw [← hW0]; simp
  clear hW0
  have HZ := Lib.hid hz0
  clear hz0
  refine wp_region_held_drew (S := fun W => Blk W w.heap.size 97 [.slice a m c, .int .i64 s.2] ∧ BlkW W (w.heap.size + 1) a0 a1 a2 a3) hmx ⟨kA, kV⟩ ?_
  intro hS
  replace kR : Blk W0.drew (w.heap.size + 2) 97 [.slice none 0 0, .int .i64 0] := kR
  have hB := hB0.drew
  replace hsl : BSl 0 W0.drew.heap.size W0.drew (.slice a m c) s.1 := (hsl.below hB (Nat.le_refl _)).mono (Nat.le_refl _) hB.size
  have HZ2 : Hid (W0.drew.heap.size = w.heap.size + 3) := HZ.out
  clear HZ kA kV hB0
  generalize W0.drew = Y at *
  refine' wpAnyH_take (i := 0) (oi := _) (v := _) ?hi6 (by kernel_rfl) (by kernel_rfl) (by kernel_rfl) ?hQ6 (Or.inl ⟨?hw6, ?hy6⟩) hS ?rest6
  case hi6 => simp only [List.getElem?_toArray, List.getElem?_cons_zero]; rfl
  case hQ6 => exact fun _ _ _ h => h
  case hw6 => rfl
  case hy6 => intro W' hS'; obtain ⟨c0, c1⟩ := Blk.c2 hS'.1; go_simp; with_reducible rfl
  try simp only [Act.put, List.setIfInBounds_toArray, List.set_cons_zero, List.set_cons_succ]
  refine' wpAnyH_take (i := 1) (oi := _) (v := _) ?hi7 (by kernel_rfl) (by kernel_rfl) (by kernel_rfl) ?hQ7 (Or.inl ⟨?hw7, ?hy7⟩) hS ?rest7
  case hi7 => simp only [List.getElem?_toArray, List.getElem?_cons_succ, List.getElem?_cons_zero]; rfl
  case hQ7 => exact fun _ _ _ h => h
  case hw7 => rfl
  case hy7 => intro W' hS'; obtain ⟨c0, c1, c2, c3⟩ := Blk.c4 hS'.2; go_simp; with_reducible rfl
  try simp only [Act.put, List.setIfInBounds_toArray, List.set_cons_zero, List.set_cons_succ]
  refine wpAnyH_ready (rs := [2]) (by kernel_rfl) (by simp) ?_
  refine' AllReadyH.cons (o := _) ?ho8 (fun K hK => ?st8) AllReadyH.nil
  case ho8 => simp only [List.getElem?_toArray, List.getElem?_cons_succ, List.getElem?_cons_zero]; rfl
  case st8 =>
    go_simp
    refine (refWide_any ha _).mono ?_
    rintro e Y1 ⟨v, rfl, hv, hb1⟩
    refine hK.out _ _ ⟨hS.1.below hb1 hS.1.lt, hS.2.below hb1 hS.2.lt⟩ (fun hS => ?_)
    clear hK K
    try simp only [Act.put, List.setIfInBounds_toArray, List.set_cons_zero, List.set_cons_succ]
    replace kR := kR.below hb1 kR.lt
    replace hB := chain hB hb1
    replace hsl := (hsl.below hb1 (Nat.le_refl _)).mono (Nat.le_refl _) hb1.size
    obtain ⟨va, vm, vc, rfl⟩ := hv.shape3
    replace hv := hv.mono (Nat.zero_le _) (Nat.le_refl _)
    clear hb1
    refine wpAnyH_ready (rs := [3]) (by kernel_rfl) (by simp) ?_
    refine' AllReadyH.cons (o := _) ?ho9 (fun K hK => ?st9) AllReadyH.nil
    case ho9 => simp only [List.getElem?_toArray, List.getElem?_cons_succ, List.getElem?_cons_zero]; rfl
    case st9 =>
      go_simp
      refine (refPut_any hok (.slice a m c) (.slice va vm vc) (wide8 a0 a1 a2 a3) (by rw [HL.out]; omega) _ hsl hv).mono ?_
      rintro e Y2 ⟨v2, rfl, hv2, hb2⟩
      refine hK.out _ _ ⟨hS.1.below hb2 hS.1.lt, hS.2.below hb2 hS.2.lt⟩ (fun hS => ?_)
      clear hK K
      try simp only [Act.put, List.setIfInBounds_toArray, List.set_cons_zero, List.set_cons_succ]
      replace kR := kR.below hb2 kR.lt
      replace hB := chain hB hb2
      clear hv hb2 hsl
      obtain ⟨va, vm, vc, rfl⟩ := hv2.shape3
      have hv := hv2
      clear hv2
      refine wpAnyH_ready (rs := [4]) (by kernel_rfl) (by simp) ?_
      refine' AllReadyH.cons (o := _) ?ho10 (fun K hK => ?st10) AllReadyH.nil
      case ho10 => simp only [List.getElem?_toArray, List.getElem?_cons_succ, List.getElem?_cons_zero]; rfl
      case st10 =>
        obtain ⟨r0, r1⟩ := Blk.c2 kR
        have g0 := kR.frozen 0
        have g1 := kR.frozen 1
        go_simp
        have hfin := refS_stored hv hB (Nat.le_add_right _ 2) ⟨_, _, _, rfl⟩ kR
        refine hK.out _ _ ⟨(hS.1.other 0 _ (by omega)).other 1 _ (by omega), (hS.2.other 0 _ (by omega)).other 1 _ (by omega)⟩ (fun hS => ?_)
        clear hK K
        try simp only [Act.put, List.setIfInBounds_toArray, List.set_cons_zero, List.set_cons_succ]
        refine wpAnyH_done (by kernel_rfl) ?_ _
        go_wp2_with fail
        obtain ⟨q0, q1⟩ := Blk.c2 hfin.1
        exact bodyPost_ret (v := .agg #[.slice va vm vc, .int .i64 (addS s (wide8 a0 a1 a2 a3)).2]) (by simp [results, Tryz.results51, go_sem, q0, q1]) rfl hfin.2
set_option maxRecDepth 100000 in
set_option maxHeartbeats 2000000 in
theorem refText6_any {s : St} (hok : OkS s) (sv : Value) (t : ByteArray) (w : World) (hsl : BSl 0 w.heap.size w sv s.1) :
    Calls Tryz.prog 53 #[.agg #[sv, .int .i64 s.2], .string t] w (RefS (txtS s t) w) := by
  have hmx : Tryz.prog.follows .mixedOrders = true := by kernel_rfl
  obtain ⟨a, m, c, rfl⟩ := hsl.shape3
  by_cases hn : t.size ≤ 1024
  · have e1 : txtS s t = addS s (octs t.size 2 ++ t.data.toList) := if_pos hn
    rw [e1]
    clear e1
    have htl : t.data.toList.length = t.size := by rw [Array.length_toList]; rfl
    have g1 : ¬ (1024 : Int) < (t.size : Int) := by omega
    have HL := Lib.hid htl
    clear htl
    go_enter Tryz.func53, Tryz.ntmps53
    go_wp2_with fail
    generalize hW0 : World.alloc _ _ = W0
    have kA : Blk W0 w.heap.size 97 [.slice a m c, .int .i64 s.2] := by rw [← hW0]; exact (Blk.new w _ [_, _]).alloc _
    have kR : Blk W0 (w.heap.size + 1) 97 [.slice none 0 0, .int .i64 0] := by rw [← hW0]; exact Blk.new' (vs := [_, _]) (by simp)
    have hB0 : Below w.heap.size w W0 := by rw [← hW0]; exact chainA (chain0 _ _) _
    have hz0 : W0.heap.size = w.heap.size + 2 := by rw [← hW0]; simp
    clear hW0
    have HZ := Lib.hid hz0
    clear hz0
    clear g1
    refine wp_region_held_drew (S := fun W => Blk W w.heap.size 97 [.slice a m c, .int .i64 s.2]) hmx kA ?_
    intro hS
    replace kR : Blk W0.drew (w.heap.size + 1) 97 [.slice none 0 0, .int .i64 0] := kR
    have hB := hB0.drew
    replace hsl : BSl 0 W0.drew.heap.size W0.drew (.slice a m c) s.1 := (hsl.below hB (Nat.le_refl _)).mono (Nat.le_refl _) hB.size
    have HZ2 : Hid (W0.drew.heap.size = w.heap.size + 2) := HZ.out
    clear HZ kA hB0
    generalize W0.drew = Y at *
    refine' wpAnyH_take (i := 0) (oi := _) (v := _) ?hi11 (by kernel_rfl) (by kernel_rfl) (by kernel_rfl) ?hQ11 (Or.inl ⟨?hw11, ?hy11⟩) hS ?rest11
    case hi11 => simp only [List.getElem?_toArray, List.getElem?_cons_zero]; rfl
    case hQ11 => exact fun _ _ _ h => h
    case hw11 => rfl
    case hy11 => intro W' hS'; obtain ⟨c0, c1⟩ := Blk.c2 hS'; go_simp; with_reducible rfl
    try simp only [Act.put, List.setIfInBounds_toArray, List.set_cons_zero, List.set_cons_succ]
    refine' wpAnyH_take (i := 1) (oi := _) (v := _) ?hi12 (by kernel_rfl) (by kernel_rfl) (by kernel_rfl) ?hQ12 (Or.inl ⟨?hw12, ?hy12⟩) hS ?rest12
    case hi12 => simp only [List.getElem?_toArray, List.getElem?_cons_succ, List.getElem?_cons_zero]; rfl
    case hQ12 => exact fun _ _ _ h => h
    case hw12 => rfl
    case hy12 => intro W' hS'; go_simp; with_reducible rfl
    try simp only [Act.put, List.setIfInBounds_toArray, List.set_cons_zero, List.set_cons_succ]
    refine' wpAnyH_take (i := 2) (oi := _) (v := _) ?hi13 (by kernel_rfl) (by kernel_rfl) (by kernel_rfl) ?hQ13 (Or.inl ⟨?hw13, ?hy13⟩) hS ?rest13
    case hi13 => simp only [List.getElem?_toArray, List.getElem?_cons_succ, List.getElem?_cons_zero]; rfl
    case hQ13 => exact fun _ _ _ h => h
    case hw13 => rfl
    case hy13 => intro W' hS'; go_simp; with_reducible rfl
    try simp only [Act.put, List.setIfInBounds_toArray, List.set_cons_zero, List.set_cons_succ]
    refine' wpAnyH_take (i := 4) (oi := _) (v := _) ?hi14 (by kernel_rfl) (by kernel_rfl) (by kernel_rfl) ?hQ14 (Or.inl ⟨?hw14, ?hy14⟩) hS ?rest14
    case hi14 => simp only [List.getElem?_toArray, List.getElem?_cons_succ, List.getElem?_cons_zero]; rfl
    case hQ14 => exact fun _ _ _ h => h
    case hw14 => rfl
    case hy14 => intro W' hS'; go_simp; with_reducible rfl
    try simp only [Act.put, List.setIfInBounds_toArray, List.set_cons_zero, List.set_cons_succ]
    refine wpAnyH_ready (rs := [3, 5]) (by kernel_rfl) (by simp) ?_
    refine' AllReadyH.cons (o := _) ?ho15 (fun K hK => ?st15) (AllReadyH.cons (o := _) ?ho16 (fun K hK => ?st16) AllReadyH.nil)
    case ho15 => simp only [List.getElem?_toArray, List.getElem?_cons_succ, List.getElem?_cons_zero]; rfl
    case ho16 => simp only [List.getElem?_toArray, List.getElem?_cons_succ, List.getElem?_cons_zero]; rfl
    case st15 =>
      go_simp
      refine (refNum_any t.size 2 (by omega) (by omega) _).mono ?_
      rintro e Y1 ⟨v, rfl, hv, hb1⟩
      refine hK.out _ _ (hS.below hb1 hS.lt) (fun hS => ?_)
      clear hK K
      try simp only [Act.put, List.setIfInBounds_toArray, List.set_cons_zero, List.set_cons_succ]
      replace kR := kR.below hb1 kR.lt
      replace hB := chain hB hb1
      replace hsl := (hsl.below hb1 (Nat.le_refl _)).mono (Nat.le_refl _) hb1.size
      rw [clamp2', two_nat' (by omega)] at hv
      obtain ⟨va, vm, vc, rfl⟩ := hv.shape3
      replace hv := hv.mono (Nat.zero_le _) (Nat.le_refl _)
      clear hb1
      refine wpAnyH_ready (rs := [5]) (by kernel_rfl) (by simp) ?_
      refine' AllReadyH.cons (o := _) ?ho17 (fun K hK => ?st17) AllReadyH.nil
      case ho17 => simp only [List.getElem?_toArray, List.getElem?_cons_succ, List.getElem?_cons_zero]; rfl
      case st17 =>
        obtain ⟨c5, Y5, hcv, hc5, hb5, hz5, ho5⟩ := conv_bytes Y1 t
        have hx := (conv_bsl hc5 hz5 ho5).mono (Nat.zero_le _) (Nat.le_refl _)
        clear hz5 ho5
        go_simp
        refine hK.out _ _ (hS.below hb5 hS.lt) (fun hS => ?_)
        clear hK K
        try simp only [Act.put, List.setIfInBounds_toArray, List.set_cons_zero, List.set_cons_succ]
        replace kR := kR.below hb5 kR.lt
        replace hB := chain hB hb5
        replace hsl := (hsl.below hb5 (Nat.le_refl _)).mono (Nat.le_refl _) hb5.size
        replace hv := (hv.below hb5 (Nat.le_refl _)).mono (Nat.le_refl _) hb5.size
        clear hb5 hcv hc5
        generalize (some (⟨Y1.heap.size, 0, none⟩ : Addr)) = xa at *
        refine wpAnyH_ready (rs := [6]) (by kernel_rfl) (by simp) ?_
        refine' AllReadyH.cons (o := _) ?ho18 (fun K hK => ?st18) AllReadyH.nil
        case ho18 => simp only [List.getElem?_toArray, List.getElem?_cons_succ, List.getElem?_cons_zero]; rfl
        case st18 =>
          go_simp
          refine (refCat_any (octs t.size 2) t.data.toList (.slice va vm vc) (.slice xa t.size c5) _ (by rw [octs_length, HL.out]; omega) hv hx).mono ?_
          rintro e Y3 ⟨v3, rfl, hv3, hb1⟩
          refine hK.out _ _ (hS.below hb1 hS.lt) (fun hS => ?_)
          clear hK K
          try simp only [Act.put, List.setIfInBounds_toArray, List.set_cons_zero, List.set_cons_succ]
          replace kR := kR.below hb1 kR.lt
          replace hB := chain hB hb1
          replace hsl := (hsl.below hb1 (Nat.le_refl _)).mono (Nat.le_refl _) hb1.size
          have hv4 := (BSl.of_own hv3).mono (Nat.zero_le _) (Nat.le_refl _)
          clear hb1 hv hx hv3
          obtain ⟨va, vm, vc, rfl⟩ := hv4.shape3
          have hv := hv4
          clear hv4
          refine wpAnyH_ready (rs := [7]) (by kernel_rfl) (by simp) ?_
          refine' AllReadyH.cons (o := _) ?ho19 (fun K hK => ?st19) AllReadyH.nil
          case ho19 => simp only [List.getElem?_toArray, List.getElem?_cons_succ, List.getElem?_cons_zero]; rfl
          case st19 =>
            go_simp
            refine (refPut_any hok (.slice a m c) (.slice va vm vc) (octs t.size 2 ++ t.data.toList) (by rw [List.length_append, octs_length, HL.out]; omega) _ hsl hv).mono ?_
            rintro e Y2 ⟨v2, rfl, hv2, hb2⟩
            refine hK.out _ _ (hS.below hb2 hS.lt) (fun hS => ?_)
            clear hK K
            try simp only [Act.put, List.setIfInBounds_toArray, List.set_cons_zero, List.set_cons_succ]
            replace kR := kR.below hb2 kR.lt
            replace hB := chain hB hb2
            clear hv hb2 hsl
            obtain ⟨va, vm, vc, rfl⟩ := hv2.shape3
            have hv := hv2
            clear hv2
            refine wpAnyH_ready (rs := [8]) (by kernel_rfl) (by simp) ?_
            refine' AllReadyH.cons (o := _) ?ho20 (fun K hK => ?st20) AllReadyH.nil
            case ho20 => simp only [List.getElem?_toArray, List.getElem?_cons_succ, List.getElem?_cons_zero]; rfl
            case st20 =>
              obtain ⟨r0, r1⟩ := Blk.c2 kR
              have g0 := kR.frozen 0
              have g1 := kR.frozen 1
              go_simp
              have hfin := refS_stored hv hB (Nat.le_add_right _ 1) ⟨_, _, _, rfl⟩ kR
              refine hK.out _ _ ((hS.other 0 _ (by omega)).other 1 _ (by omega)) (fun hS => ?_)
              clear hK K
              try simp only [Act.put, List.setIfInBounds_toArray, List.set_cons_zero, List.set_cons_succ]
              refine wpAnyH_done (by kernel_rfl) ?_ _
              go_wp2_with fail
              obtain ⟨q0, q1⟩ := Blk.c2 hfin.1
              exact bodyPost_ret (v := .agg #[.slice va vm vc, .int .i64 (addS s (octs t.size 2 ++ t.data.toList)).2]) (by simp [results, Tryz.results53, go_sem, q0, q1]) rfl hfin.2
    case st16 =>
      obtain ⟨c5, Y5, hcv, hc5, hb5, hz5, ho5⟩ := conv_bytes Y t
      have hx := (conv_bsl hc5 hz5 ho5).mono (Nat.zero_le _) (Nat.le_refl _)
      clear hz5 ho5
      go_simp
      refine hK.out _ _ (hS.below hb5 hS.lt) (fun hS => ?_)
      clear hK K
      try simp only [Act.put, List.setIfInBounds_toArray, List.set_cons_zero, List.set_cons_succ]
      replace kR := kR.below hb5 kR.lt
      replace hB := chain hB hb5
      replace hsl := (hsl.below hb5 (Nat.le_refl _)).mono (Nat.le_refl _) hb5.size
      clear hb5 hcv hc5
      generalize (some (⟨Y.heap.size, 0, none⟩ : Addr)) = xa at *
      refine wpAnyH_ready (rs := [3]) (by kernel_rfl) (by simp) ?_
      refine' AllReadyH.cons (o := _) ?ho21 (fun K hK => ?st21) AllReadyH.nil
      case ho21 => simp only [List.getElem?_toArray, List.getElem?_cons_succ, List.getElem?_cons_zero]; rfl
      case st21 =>
        go_simp
        refine (refNum_any t.size 2 (by omega) (by omega) _).mono ?_
        rintro e Y1 ⟨v, rfl, hv, hb1⟩
        refine hK.out _ _ (hS.below hb1 hS.lt) (fun hS => ?_)
        clear hK K
        try simp only [Act.put, List.setIfInBounds_toArray, List.set_cons_zero, List.set_cons_succ]
        replace kR := kR.below hb1 kR.lt
        replace hB := chain hB hb1
        replace hsl := (hsl.below hb1 (Nat.le_refl _)).mono (Nat.le_refl _) hb1.size
        replace hx := (hx.below hb1 (Nat.le_refl _)).mono (Nat.le_refl _) hb1.size
        rw [clamp2', two_nat' (by omega)] at hv
        obtain ⟨va, vm, vc, rfl⟩ := hv.shape3
        replace hv := hv.mono (Nat.zero_le _) (Nat.le_refl _)
        clear hb1
        refine wpAnyH_ready (rs := [6]) (by kernel_rfl) (by simp) ?_
        refine' AllReadyH.cons (o := _) ?ho22 (fun K hK => ?st22) AllReadyH.nil
        case ho22 => simp only [List.getElem?_toArray, List.getElem?_cons_succ, List.getElem?_cons_zero]; rfl
        case st22 =>
          go_simp
          refine (refCat_any (octs t.size 2) t.data.toList (.slice va vm vc) (.slice xa t.size c5) _ (by rw [octs_length, HL.out]; omega) hv hx).mono ?_
          rintro e Y3 ⟨v3, rfl, hv3, hb1⟩
          refine hK.out _ _ (hS.below hb1 hS.lt) (fun hS => ?_)
          clear hK K
          try simp only [Act.put, List.setIfInBounds_toArray, List.set_cons_zero, List.set_cons_succ]
          replace kR := kR.below hb1 kR.lt
          replace hB := chain hB hb1
          replace hsl := (hsl.below hb1 (Nat.le_refl _)).mono (Nat.le_refl _) hb1.size
          have hv4 := (BSl.of_own hv3).mono (Nat.zero_le _) (Nat.le_refl _)
          clear hb1 hv hx hv3
          obtain ⟨va, vm, vc, rfl⟩ := hv4.shape3
          have hv := hv4
          clear hv4
          refine wpAnyH_ready (rs := [7]) (by kernel_rfl) (by simp) ?_
          refine' AllReadyH.cons (o := _) ?ho23 (fun K hK => ?st23) AllReadyH.nil
          case ho23 => simp only [List.getElem?_toArray, List.getElem?_cons_succ, List.getElem?_cons_zero]; rfl
          case st23 =>
            go_simp
            refine (refPut_any hok (.slice a m c) (.slice va vm vc) (octs t.size 2 ++ t.data.toList) (by rw [List.length_append, octs_length, HL.out]; omega) _ hsl hv).mono ?_
            rintro e Y2 ⟨v2, rfl, hv2, hb2⟩
            refine hK.out _ _ (hS.below hb2 hS.lt) (fun hS => ?_)
            clear hK K
            try simp only [Act.put, List.setIfInBounds_toArray, List.set_cons_zero, List.set_cons_succ]
            replace kR := kR.below hb2 kR.lt
            replace hB := chain hB hb2
            clear hv hb2 hsl
            obtain ⟨va, vm, vc, rfl⟩ := hv2.shape3
            have hv := hv2
            clear hv2
            refine wpAnyH_ready (rs := [8]) (by kernel_rfl) (by simp) ?_
            refine' AllReadyH.cons (o := _) ?ho24 (fun K hK => ?st24) AllReadyH.nil
            case ho24 => simp only [List.getElem?_toArray, List.getElem?_cons_succ, List.getElem?_cons_zero]; rfl
            case st24 =>
              obtain ⟨r0, r1⟩ := Blk.c2 kR
              have g0 := kR.frozen 0
              have g1 := kR.frozen 1
              go_simp
              have hfin := refS_stored hv hB (Nat.le_add_right _ 1) ⟨_, _, _, rfl⟩ kR
              refine hK.out _ _ ((hS.other 0 _ (by omega)).other 1 _ (by omega)) (fun hS => ?_)
              clear hK K
              try simp only [Act.put, List.setIfInBounds_toArray, List.set_cons_zero, List.set_cons_succ]
              refine wpAnyH_done (by kernel_rfl) ?_ _
              go_wp2_with fail
              obtain ⟨q0, q1⟩ := Blk.c2 hfin.1
              exact bodyPost_ret (v := .agg #[.slice va vm vc, .int .i64 (addS s (octs t.size 2 ++ t.data.toList)).2]) (by simp [results, Tryz.results53, go_sem, q0, q1]) rfl hfin.2
  · have e1 : txtS s t = errS s 5 := if_neg hn
    rw [e1]
    clear e1
    have g1 : (1024 : Int) < (t.size : Int) := by omega
    go_enter Tryz.func53, Tryz.ntmps53
    go_wp2_with fail
    generalize hW0 : World.alloc _ _ = W0
    have kA : Blk W0 w.heap.size 97 [.slice a m c, .int .i64 s.2] := by rw [← hW0]; exact (Blk.new w _ [_, _]).alloc _
    have kR : Blk W0 (w.heap.size + 1) 97 [.slice none 0 0, .int .i64 0] := by rw [← hW0]; exact Blk.new' (vs := [_, _]) (by simp)
    have hB0 : Below w.heap.size w W0 := by rw [← hW0]; exact chainA (chain0 _ _) _
    have hz0 : W0.heap.size = w.heap.size + 2 := by rw [← hW0]; simp
    clear hW0
    have HZ := Lib.hid hz0
    clear hz0
    obtain ⟨c0, c1⟩ := Blk.c2 kA
    go_wp2_with (go_at_call 68; refine (refPutE_any (s := s) (.slice a m c) (.slice none 0 0) 5 (by decide) _ ((hsl.below hB0 (Nat.le_refl _)).mono (Nat.le_refl _) hB0.size)).mono ?_; rintro e Y2 ⟨v2, rfl, hv2, hb2⟩; obtain ⟨va, vm, vc, rfl⟩ := hv2.shape3; have kR2 := kR.below hb2 kR.lt; obtain ⟨r0, r1⟩ := Blk.c2 kR2; have g0 := kR2.frozen 0; have g1 := kR2.frozen 1)
    have hfin := refS_stored hv2 (chain hB0 hb2) (Nat.le_add_right _ 1) ⟨_, _, _, rfl⟩ kR2
    obtain ⟨q0, q1⟩ := Blk.c2 hfin.1
    exact bodyPost_ret (v := .agg #[.slice va vm vc, .int .i64 (errS s 5).2]) (by simp [results, Tryz.results53, go_sem, q0, q1]) rfl hfin.2
end Go.Proofs.YtbhfajnejibaoaaGreat
