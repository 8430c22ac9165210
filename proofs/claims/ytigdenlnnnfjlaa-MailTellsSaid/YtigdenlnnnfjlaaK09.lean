/-
  What is put of an ask: bid's PutAsk.
  What is put of a transfer, and of a side's data.
  What is put of a message: mail's putBid and Put.
  The reference's writer: a number, a text, a wide number.
  A writer by the reference: its blocks.
  An ask, put by the reference.
-/
import Derived.Outline
import Derived.Deep.Cut
import Derived.Test.YtigdenlnnnfjlaaK08
namespace Go.Proofs.Ytigdenlnnnfjlaa
open Go.RowKit Go.Shelf

def nA (a : Ak) (k : Nat) : Int := match k with | 0 => a.us | 1 => a.se | 2 => a.re | _ => a.to
def numA (s : St) (a : Ak) (k : Nat) : St := match k with | 0 => s | k + 1 => numS (numA s a k) (nA a k)
set_option maxRecDepth 100000 in
theorem idx_ask4 (a : Ak) (w : World) {k : Nat} (hk : k < 4) :
    (Instr.index 99 (.agg #[.int .i64 a.us, .int .i64 a.se, .int .i64 a.re, .int .i64 a.to]) (.int .i64 k)).run Try.prog w = .ok (.int .i64 (nA a k)) w := by
  have hs : ∀ j : Nat, (sizeOf 3).run Try.prog w = .ok 1 w := fun _ => by kernel_rfl
  have h1 : (0 : Int) ≤ (k : Int) ∧ (k : Int) < 4 := ⟨by omega, by omega⟩
  obtain rfl | rfl | rfl | rfl : k = 0 ∨ k = 1 ∨ k = 2 ∨ k = 3 := by omega
  all_goals
    simp [Instr.index, run_underlying Try.underlying99, asIntOf, hs 0, go_sem, nA]

set_option maxRecDepth 100000 in
set_option maxHeartbeats 2000000 in
theorem bidPutAsk_any {p : Option Addr} {s : St} (a : Ak) (ha : Ok4 a.a0 a.a1 a.a2 a.a3) (w : World) (h : ObjP 95 w p s) :
    Calls Try.prog 16 #[.pointer p, akv a] w (DidS 95 p (putA s a) w) := by
  have HNE := Lib.hid (ptr_lt h (Nat.le_refl _))
  have HP : Hid (putA s a = txtS (wideS (numA s a 4) a.a0 a.a1 a.a2 a.a3) a.id) := Lib.hid rfl
  have kB := (Blk.new w 26 (akc a))
  have hG := World.grownBy_alloc w (.cells (akc a).toArray 26) (p.map (·.block))
  have hO := h.below (chain0 w (.cells (akc a).toArray 26))
  clear h
  go_enter Try.func16, Try.ntmps16
  go_wp2_with fail
  go_loopw [15] (fun n wr => ∃ k : Nat, k ≤ 4 ∧ n = .int .i64 k ∧ ObjP 95 wr p (numA s a k) ∧ w.grownBy wr (p.map (·.block)) ∧ Blk wr w.heap.size 26 (akc a)) (fun n _ => 4 - (intOf n).toNat)
  case atStart => exact ⟨0, by omega, rfl, hO, hG, kB⟩
  case round =>
    clear hO hG kB
    obtain ⟨k, hk, rfl, hO, hG, kB⟩ := hrel
    by_cases hlt : k < 4
    · have hlt' : (k : Int) < 4 := by omega
      have HI := Lib.hid (fun W => idx_ask4 a W hlt)
      have HS : Hid (numA s a (k + 1) = numS (numA s a k) (nA a k)) := Lib.hid rfl
      generalize numA s a k = st at *
      generalize nA a k = x at *
      go_wp2_with (first
        | (refine wpList_indexTo rfl 99 (.tmp 14) (.tmp 15) rfl (some 17) rfl _ (HI.out _) ?_)
        | (go_at_call 15; refine (outNum_any _ _ hO).mono ?_; rintro e W1 ⟨rfl, hO1, hG1⟩))
      go_roundw
      case rel => exact ⟨k + 1, by omega, by go_num, by rw [HS.out]; exact hO1, hG.trans hG1, kB.kept hG1 HNE.out⟩
      case measure => simp [intOf]; omega
    · obtain rfl : k = 4 := by omega
      generalize numA s a 4 = st at *
      obtain ⟨c0, c1, c2, c3, c4, c5, c6, c7, c8⟩ := Blk.c9 kB
      go_wp2_with (first
        | (go_at_call 20; refine (outWide_any ha _ hO).mono ?_; rintro e W1 ⟨rfl, hO1, hG1⟩; replace hO := hO1; replace hG := hG.trans hG1; replace kB := kB.kept hG1 HNE.out; clear c0 c1 c2 c3 c4 c5 c6 c7 c8 hO1 hG1; have c8 := (kB.cell 8).trans rfl)
        | (go_at_call 21; refine (outText_any _ _ hO).mono ?_; rintro e W1 ⟨rfl, hO1, hG1⟩))
      go_end0
      exact ⟨rfl, by rw [HP.out]; exact hO1, hG.trans hG1⟩
end Go.Proofs.Ytigdenlnnnfjlaa

namespace Go.Proofs.Ytigdenlnnnfjlaa
open Go.RowKit Go.Shelf

def nN (i : Trf) (k : Nat) : Int := match k with | 0 => i.ro | 1 => i.se | 2 => i.re | _ => i.to
def numK (s : St) (i : Trf) (k : Nat) : St := match k with | 0 => s | k + 1 => numS (numK s i k) (nN i k)
set_option maxRecDepth 100000 in
theorem idx_four (i : Trf) (w : World) {k : Nat} (hk : k < 4) :
    (Instr.index 99 (.agg #[.int .i64 i.ro, .int .i64 i.se, .int .i64 i.re, .int .i64 i.to]) (.int .i64 k)).run Try.prog w = .ok (.int .i64 (nN i k)) w := by
  have hs : ∀ j : Nat, (sizeOf 3).run Try.prog w = .ok 1 w := fun _ => by kernel_rfl
  have h1 : (0 : Int) ≤ (k : Int) ∧ (k : Int) < 4 := ⟨by omega, by omega⟩
  obtain rfl | rfl | rfl | rfl : k = 0 ∨ k = 1 ∨ k = 2 ∨ k = 3 := by omega
  all_goals
    simp [Instr.index, run_underlying Try.underlying99, asIntOf, hs 0, go_sem, nN]

set_option maxRecDepth 100000 in
set_option maxHeartbeats 2000000 in
theorem dealPut_any {p : Option Addr} {s : St} (i : Trf) (w : World) (h : ObjP 95 w p s) :
    Calls Try.prog 18 #[.pointer p, ivv i] w (DidS 95 p (putI s i) w) := by
  have hne := ptr_lt h (Nat.le_refl _)
  have kB := (Blk.new w 30 (ivc i))
  have hG := World.grownBy_alloc w (.cells (ivc i).toArray 30) (p.map (·.block))
  have hO := h.below (chain0 w (.cells (ivc i).toArray 30))
  have HNE := Lib.hid hne
  clear h hne
  go_enter Try.func18, Try.ntmps18
  go_wp2_with (first
    | (go_at_call 21; refine (outText_any _ _ hO).mono ?_; rintro e W1 ⟨rfl, hO1, hG1⟩; replace hO := hO1; replace hG := hG.trans hG1; replace kB := kB.kept hG1 HNE.out; (try clear c0 c1 c2 c3 c4 c5 c6); obtain ⟨c0, c1, c2, c3, c4, c5, c6⟩ := kB.c7; clear hO1 hG1)
    | (go_at_call 15; refine (outNum_any _ _ hO).mono ?_; rintro e W1 ⟨rfl, hO1, hG1⟩; replace hO := hO1; replace hG := hG.trans hG1; replace kB := kB.kept hG1 HNE.out; (try clear c0 c1 c2 c3 c4 c5 c6); obtain ⟨c0, c1, c2, c3, c4, c5, c6⟩ := kB.c7; clear hO1 hG1))
  try clear c0 c1 c2 c3 c4 c5 c6
  go_loopw [25] (fun n wr => ∃ k : Nat, k ≤ 4 ∧ n = .int .i64 k ∧ ObjP 95 wr p (numK (putI1 s i) i k) ∧ w.grownBy wr (p.map (·.block)) ∧ Blk wr w.heap.size 30 (ivc i)) (fun n _ => 4 - (intOf n).toNat)
  case atStart => exact ⟨0, by omega, rfl, hO, hG, kB⟩
  case round =>
    clear hO hG kB
    obtain ⟨k, hk, rfl, hO, hG, kB⟩ := hrel
    by_cases hlt : k < 4
    · have hlt' : (k : Int) < 4 := by omega
      have HI := Lib.hid (fun W => idx_four i W hlt)
      have HS : Hid (numK (putI1 s i) i (k + 1) = numS (numK (putI1 s i) i k) (nN i k)) := Lib.hid rfl
      generalize numK (putI1 s i) i k = st at *
      generalize nN i k = x at *
      go_wp2_with (first
        | (refine wpList_indexTo rfl 99 (.tmp 24) (.tmp 25) rfl (some 27) rfl _ (HI.out _) ?_)
        | (go_at_call 15; refine (outNum_any _ _ hO).mono ?_; rintro e W1 ⟨rfl, hO1, hG1⟩))
      go_roundw
      case rel => exact ⟨k + 1, by omega, by go_num, by rw [HS.out]; exact hO1, hG.trans hG1, kB.kept hG1 HNE.out⟩
      case measure => simp [intOf]; omega
    · obtain rfl : k = 4 := by omega
      obtain ⟨c0, c1, c2, c3, c4, c5, c6⟩ := kB.c7
      go_wp2_with (first
        | (go_at_call 21; refine (outText_any _ _ hO).mono ?_; rintro e W1 ⟨rfl, hO1, hG1⟩))
      go_end0
      exact ⟨rfl, hO1, hG.trans hG1⟩

set_option maxRecDepth 100000 in
set_option maxHeartbeats 1000000 in
theorem dealPutVar_any {p : Option Addr} {s : St} (v : Sid) (hv4 : Ok4 v.a0 v.a1 v.a2 v.a3) (w : World) (h : ObjP 95 w p s) :
    Calls Try.prog 19 #[.pointer p, svv v] w (DidS 95 p (putV s v) w) := by
  have hne := ptr_lt h (Nat.le_refl _)
  have kB := (Blk.new w 32 (svc v))
  have hG := World.grownBy_alloc w (.cells (svc v).toArray 32) (p.map (·.block))
  have hO := h.below (chain0 w (.cells (svc v).toArray 32))
  have HNE := Lib.hid hne
  clear h hne
  go_enter Try.func19, Try.ntmps19
  go_wp2_with (first
    | (go_at_call 20; refine (outWide_any hv4 _ hO).mono ?_; rintro e W1 ⟨rfl, hO1, hG1⟩; replace hO := hO1; replace hG := hG.trans hG1; replace kB := kB.kept hG1 HNE.out; obtain ⟨c0, c1, c2, c3, c4⟩ := kB.c5; clear hO1 hG1)
    | (go_at_call 15; refine (outNum_any _ _ hO).mono ?_; rintro e W1 ⟨rfl, hO1, hG1⟩))
  go_end0
  exact ⟨rfl, hO1, hG.trans hG1⟩

end Go.Proofs.Ytigdenlnnnfjlaa

namespace Go.Proofs.Ytigdenlnnnfjlaa
open Go.RowKit Go.Shelf

theorem okS_putD {s : St} (h : OkS s) (b : Bd) : OkS (putD s b) := okS_txt (okS_num (okS_wide (okS_putA (okS_num h _) _) _ _ _ _) _) _
theorem okS_putR {s : St} (h : OkS s) (m : Ms) : OkS (putR s m) := okS_txt (okS_wide (okS_putV (okS_putI h _) _) _ _ _ _) _

set_option maxRecDepth 100000 in
set_option maxHeartbeats 4000000 in
theorem putBid_any {p : Option Addr} {s : St} (b : Bd) (hb : OkB b) (w : World) (h : ObjP 95 w p s) :
    Calls Try.prog 17 #[.pointer p, bdv b] w (DidS 95 p (putD s b) w) := by
  have HNE := Lib.hid (ptr_lt h (Nat.le_refl _))
  have HP : Hid (putD s b = txtS (numS (wideS (putA (numS s b.ro) b.k) b.b0 b.b1 b.b2 b.b3) b.un) b.sg) := Lib.hid rfl
  obtain ⟨hbk, hbb⟩ := hb
  have kB := (Blk.new w 28 (bdc b))
  have hG := World.grownBy_alloc w (.cells (bdc b).toArray 28) (p.map (·.block))
  have hO := h.below (chain0 w (.cells (bdc b).toArray 28))
  clear h
  have c0 := (kB.cell 0).trans rfl
  have c14 := (kB.cell 14).trans rfl
  have c15 := (kB.cell 15).trans rfl
  go_enter Try.func17, Try.ntmps17
  go_wp2_with (first
    | ((with_reducible refine wpList_loadIf 26 (.tmp 9) ?_ (some 10) ?_ ?_ (akv b.k) ?_ ?_); (· rfl); (· rfl); (· rfl); (· exact load_bk kB))
    | ((with_reducible refine wpList_loadIf 24 (.tmp 13) ?_ (some 14) ?_ ?_ (wv b.b0 b.b1 b.b2 b.b3) ?_ ?_); (· rfl); (· rfl); (· rfl); (· exact load_ba kB))
    | (go_at_call 15; refine (outNum_any _ _ hO).mono ?_; rintro e W1 ⟨rfl, hO1, hG1⟩; replace hO := hO1; replace hG := hG.trans hG1; replace kB := kB.kept hG1 HNE.out; clear hO1 hG1 c0 c14 c15; have c0 := (kB.cell 0).trans rfl; have c14 := (kB.cell 14).trans rfl; have c15 := (kB.cell 15).trans rfl)
    | (go_at_call 16; refine (bidPutAsk_any b.k hbk _ hO).mono ?_; rintro e W1 ⟨rfl, hO1, hG1⟩; replace hO := hO1; replace hG := hG.trans hG1; replace kB := kB.kept hG1 HNE.out; clear hO1 hG1 c0 c14 c15; have c0 := (kB.cell 0).trans rfl; have c14 := (kB.cell 14).trans rfl; have c15 := (kB.cell 15).trans rfl)
    | (go_at_call 20; refine (outWide_any hbb _ hO).mono ?_; rintro e W1 ⟨rfl, hO1, hG1⟩; replace hO := hO1; replace hG := hG.trans hG1; replace kB := kB.kept hG1 HNE.out; clear hO1 hG1 c0 c14 c15; have c0 := (kB.cell 0).trans rfl; have c14 := (kB.cell 14).trans rfl; have c15 := (kB.cell 15).trans rfl)
    | (go_at_call 21; refine (outText_any _ _ hO).mono ?_; rintro e W1 ⟨rfl, hO1, hG1⟩; replace hO := hO1; replace hG := hG.trans hG1; replace kB := kB.kept hG1 HNE.out; clear hO1 hG1 c0 c14 c15; have c0 := (kB.cell 0).trans rfl; have c14 := (kB.cell 14).trans rfl; have c15 := (kB.cell 15).trans rfl))
  go_end0
  exact ⟨rfl, by rw [HP.out]; exact hO, hG⟩

theorem errG_kinds {m : Ms} (h : errG m = 0) : m.kd = 1 ∨ m.kd = 2 ∨ m.kd = 3 := by
  unfold errG at h
  by_cases k1 : m.kd = 1
  · exact .inl k1
  · rw [if_neg k1] at h
    by_cases k2 : m.kd = 2
    · exact .inr (.inl k2)
    · rw [if_neg k2] at h
      by_cases k3 : m.kd = 3
      · exact .inr (.inr k3)
      · rw [if_neg k3] at h; exact absurd h (by decide)
set_option maxRecDepth 100000 in
set_option maxHeartbeats 4000000 in
theorem mailPut_any (m : Ms) (hm : OkM m) (w : World) :
    Calls Try.prog 6 #[msv m] w (ToldS (octG m) w) := by
  have HC := Lib.hid (mailCheck_any m hm)
  have HD : Hid (∀ p s W, ObjP 95 W p s → Calls Try.prog 17 #[.pointer p, bdv m.bd] W (DidS 95 p (putD s m.bd) W)) := Lib.hid fun p s W h => putBid_any m.bd hm.b W h
  obtain ⟨⟨hma⟩, hmb, hmv, hmf⟩ := hm
  have kB := Blk.new w 34 (msc m)
  have hB := chain0 w (.cells (msc m).toArray 34)
  by_cases h : errG m = 0
  · have HE := Lib.hid h
    have HX := Lib.hid (octG_yes h)
    have hk := errG_kinds h
    clear h
    by_cases k1 : m.kd = 1
    · have HP : Hid (putG m = putA (numS ([], 0) m.kd) m.ak) := Lib.hid (if_pos k1)
      have q1 : (m.kd == 1) = true := by simpa using k1
      clear k1 hk HD
      go_enter Try.func6, Try.ntmps6
      go_wp2_with (first
        | ((with_reducible refine wpList_loadIf 34 (.tmp 1) ?_ (some 6) ?_ ?_ (msv m) ?_ ?_); (· rfl); (· rfl); (· rfl); (· exact load_ms kB))
        | (go_at_call 12; refine (HC.out _).mono ?_; rw [HE.out]; rintro e w1 ⟨rfl, hb⟩; replace kB := kB.below hb kB.lt; replace hB := chain hB hb; clear hb)
        | (go_at_call 14; refine (outNewO_any _).mono ?_; rintro e w2 ⟨NB, rfl, hN, hO, hb⟩; have hNw := Nat.le_trans hB.size hN; have hBN : some w.heap.size ≠ some NB := (fun e => by cases e; have := kB.lt; omega); replace kB := kB.below hb kB.lt; replace hB := chain hB hb; clear hb hN; have c0 := (kB.cell 0).trans rfl; have c42 := (kB.cell 42).trans rfl)
        | (go_at_call 15; refine (outNum_any _ _ hO).mono ?_; rintro e W1 hd; replace hB := below_did hB hNw hd; obtain ⟨rfl, hO1, hG1⟩ := hd; replace hO := hO1; replace kB := kB.kept hG1 hBN; clear hO1 hG1 c0 c42; have c0 := (kB.cell 0).trans rfl; have c42 := (kB.cell 42).trans rfl)
        | ((with_reducible refine wpList_loadIf 26 (.tmp 21) ?_ (some 22) ?_ ?_ (akv m.ak) ?_ ?_); (· rfl); (· rfl); (· rfl); (· exact load_mak kB))
        | (go_at_call 16; refine (bidPutAsk_any m.ak hma _ hO).mono ?_; rintro e W1 hd; replace hB := below_did hB hNw hd; obtain ⟨rfl, hO1, hG1⟩ := hd; replace hO := hO1; replace kB := kB.kept hG1 hBN; clear hO1 hG1 c0 c42; have c0 := (kB.cell 0).trans rfl; have c42 := (kB.cell 42).trans rfl)
        | (go_at_call 22; refine (outDone_any _ hO).mono ?_; rintro e w4 ⟨sv, rfl, hsv, hb⟩; replace hB := chain hB hb; obtain ⟨va, vm, vc, rfl⟩ := hsv.shape3))
      go_ret2
      exact ⟨.slice va vm vc, by rw [HX.out, HP.out]; rfl, by rw [HX.out, HP.out]; exact hsv, hB⟩
    · have q1 : (m.kd == 1) = false := by simpa using k1
      by_cases k2 : m.kd = 2
      · have HP : Hid (putG m = putD (numS ([], 0) m.kd) m.bd) := Lib.hid (by rw [putG, if_neg k1, if_pos k2])
        have q2 : (m.kd == 2) = true := by simpa using k2
        clear k1 k2 hk
        go_enter Try.func6, Try.ntmps6
        go_wp2_with (first
          | ((with_reducible refine wpList_loadIf 34 (.tmp 1) ?_ (some 6) ?_ ?_ (msv m) ?_ ?_); (· rfl); (· rfl); (· rfl); (· exact load_ms kB))
          | (go_at_call 12; refine (HC.out _).mono ?_; rw [HE.out]; rintro e w1 ⟨rfl, hb⟩; replace kB := kB.below hb kB.lt; replace hB := chain hB hb; clear hb)
          | (go_at_call 14; refine (outNewO_any _).mono ?_; rintro e w2 ⟨NB, rfl, hN, hO, hb⟩; have hNw := Nat.le_trans hB.size hN; have hBN : some w.heap.size ≠ some NB := (fun e => by cases e; have := kB.lt; omega); replace kB := kB.below hb kB.lt; replace hB := chain hB hb; clear hb hN; have c0 := (kB.cell 0).trans rfl; have c42 := (kB.cell 42).trans rfl)
          | (go_at_call 15; refine (outNum_any _ _ hO).mono ?_; rintro e W1 hd; replace hB := below_did hB hNw hd; obtain ⟨rfl, hO1, hG1⟩ := hd; replace hO := hO1; replace kB := kB.kept hG1 hBN; clear hO1 hG1 c0 c42; have c0 := (kB.cell 0).trans rfl; have c42 := (kB.cell 42).trans rfl)
          | ((with_reducible refine wpList_loadIf 28 (.tmp 27) ?_ (some 28) ?_ ?_ (bdv m.bd) ?_ ?_); (· rfl); (· rfl); (· rfl); (· exact load_mbd kB))
          | (go_at_call 17; refine (HD.out _ _ _ hO).mono ?_; rintro e W1 hd; replace hB := below_did hB hNw hd; obtain ⟨rfl, hO1, hG1⟩ := hd; replace hO := hO1; replace kB := kB.kept hG1 hBN; clear hO1 hG1 c0 c42; have c0 := (kB.cell 0).trans rfl; have c42 := (kB.cell 42).trans rfl)
          | (go_at_call 22; refine (outDone_any _ hO).mono ?_; rintro e w4 ⟨sv, rfl, hsv, hb⟩; replace hB := chain hB hb; obtain ⟨va, vm, vc, rfl⟩ := hsv.shape3))
        go_ret2
        exact ⟨.slice va vm vc, by rw [HX.out, HP.out]; rfl, by rw [HX.out, HP.out]; exact hsv, hB⟩
      · have q2 : (m.kd == 2) = false := by simpa using k2
        have HP : Hid (putG m = txtS (wideS (putV (putI (numS ([], 0) m.kd) m.iv) m.vr) m.f0 m.f1 m.f2 m.f3) m.sg) := Lib.hid (by rw [putG, if_neg k1, if_neg k2]; rfl)
        have q3 : (m.kd == 3) = true := by simp; omega
        clear k1 k2 hk HD
        go_enter Try.func6, Try.ntmps6
        go_wp2_with (first
          | ((with_reducible refine wpList_loadIf 34 (.tmp 1) ?_ (some 6) ?_ ?_ (msv m) ?_ ?_); (· rfl); (· rfl); (· rfl); (· exact load_ms kB))
          | (go_at_call 12; refine (HC.out _).mono ?_; rw [HE.out]; rintro e w1 ⟨rfl, hb⟩; replace kB := kB.below hb kB.lt; replace hB := chain hB hb; clear hb)
          | (go_at_call 14; refine (outNewO_any _).mono ?_; rintro e w2 ⟨NB, rfl, hN, hO, hb⟩; have hNw := Nat.le_trans hB.size hN; have hBN : some w.heap.size ≠ some NB := (fun e => by cases e; have := kB.lt; omega); replace kB := kB.below hb kB.lt; replace hB := chain hB hb; clear hb hN; have c0 := (kB.cell 0).trans rfl; have c42 := (kB.cell 42).trans rfl)
          | (go_at_call 15; refine (outNum_any _ _ hO).mono ?_; rintro e W1 hd; replace hB := below_did hB hNw hd; obtain ⟨rfl, hO1, hG1⟩ := hd; replace hO := hO1; replace kB := kB.kept hG1 hBN; clear hO1 hG1 c0 c42; have c0 := (kB.cell 0).trans rfl; have c42 := (kB.cell 42).trans rfl)
          | ((with_reducible refine wpList_loadIf 30 (.tmp 33) ?_ (some 34) ?_ ?_ (ivv m.iv) ?_ ?_); (· rfl); (· rfl); (· rfl); (· exact load_miv kB))
          | (go_at_call 18; refine (dealPut_any m.iv _ hO).mono ?_; rintro e W1 hd; replace hB := below_did hB hNw hd; obtain ⟨rfl, hO1, hG1⟩ := hd; replace hO := hO1; replace kB := kB.kept hG1 hBN; clear hO1 hG1 c0 c42; have c0 := (kB.cell 0).trans rfl; have c42 := (kB.cell 42).trans rfl)
          | ((with_reducible refine wpList_loadIf 32 (.tmp 37) ?_ (some 38) ?_ ?_ (svv m.vr) ?_ ?_); (· rfl); (· rfl); (· rfl); (· exact load_mvr kB))
          | (go_at_call 19; refine (dealPutVar_any m.vr hmv _ hO).mono ?_; rintro e W1 hd; replace hB := below_did hB hNw hd; obtain ⟨rfl, hO1, hG1⟩ := hd; replace hO := hO1; replace kB := kB.kept hG1 hBN; clear hO1 hG1 c0 c42; have c0 := (kB.cell 0).trans rfl; have c42 := (kB.cell 42).trans rfl)
          | ((with_reducible refine wpList_loadIf 24 (.tmp 41) ?_ (some 42) ?_ ?_ (wv m.f0 m.f1 m.f2 m.f3) ?_ ?_); (· rfl); (· rfl); (· rfl); (· exact load_mfe kB))
          | (go_at_call 20; refine (outWide_any hmf _ hO).mono ?_; rintro e W1 hd; replace hB := below_did hB hNw hd; obtain ⟨rfl, hO1, hG1⟩ := hd; replace hO := hO1; replace kB := kB.kept hG1 hBN; clear hO1 hG1 c0 c42; have c0 := (kB.cell 0).trans rfl; have c42 := (kB.cell 42).trans rfl)
          | (go_at_call 21; refine (outText_any _ _ hO).mono ?_; rintro e W1 hd; replace hB := below_did hB hNw hd; obtain ⟨rfl, hO1, hG1⟩ := hd; replace hO := hO1; replace kB := kB.kept hG1 hBN; clear hO1 hG1 c0 c42; have c0 := (kB.cell 0).trans rfl; have c42 := (kB.cell 42).trans rfl)
          | (go_at_call 22; refine (outDone_any _ hO).mono ?_; rintro e w4 ⟨sv, rfl, hsv, hb⟩; replace hB := chain hB hb; obtain ⟨va, vm, vc, rfl⟩ := hsv.shape3))
        go_ret2
        exact ⟨.slice va vm vc, by rw [HX.out, HP.out]; rfl, by rw [HX.out, HP.out]; exact hsv, hB⟩
  · have HX := Lib.hid (octG_no h)
    have q1 : (errG m != 0) = true := by simpa using h
    have q2 : (errG m == 0) = false := by simpa using h
    clear h HD
    go_enter Try.func6, Try.ntmps6
    go_wp2_with (first
      | ((with_reducible refine wpList_loadIf 34 (.tmp 1) ?_ (some 6) ?_ ?_ (msv m) ?_ ?_); (· rfl); (· rfl); (· rfl); (· exact load_ms kB))
      | (go_at_call 12; refine (HC.out _).mono ?_; rintro e w1 ⟨rfl, hb⟩; replace kB := kB.below hb kB.lt; replace hB := chain hB hb; clear hb))
    go_ret2
    exact ⟨.slice none 0 0, by rw [HX.out]; rfl, by rw [HX.out]; exact ⟨none, 0, rfl, Nat.le_refl 0, .inl rfl⟩, hB⟩
end Go.Proofs.Ytigdenlnnnfjlaa

namespace Go.Proofs.Ytigdenlnnnfjlaa
open Go.RowKit Go.Shelf

/-- An answer is stored into two cells. -/
theorem stored_at {l : List UInt8} {y : Int} {w Y : World} {sv : Value} {T : TypeId} {NB : Nat} {z : Value} {x : Int} (hsl : BSl 0 Y.heap.size Y sv l) (hB : Below w.heap.size w Y) (hNB : w.heap.size ≤ NB) (hz : ∃ a m c, z = .slice a m c)
    (kR : Blk Y NB T [z, .int .i64 x]) :
    Blk ((Y.setCell ⟨NB, 0, none⟩ sv).setCell ⟨NB, 1, none⟩ (.int .i64 y)) NB T [sv, .int .i64 y] ∧
    BSl 0 ((Y.setCell ⟨NB, 0, none⟩ sv).setCell ⟨NB, 1, none⟩ (.int .i64 y)).heap.size ((Y.setCell ⟨NB, 0, none⟩ sv).setCell ⟨NB, 1, none⟩ (.int .i64 y)) sv l ∧ Below w.heap.size w ((Y.setCell ⟨NB, 0, none⟩ sv).setCell ⟨NB, 1, none⟩ (.int .i64 y)) := by
  obtain ⟨a, m, c, rfl⟩ := hz
  obtain ⟨a2, m2, c2, rfl⟩ := hsl.shape3
  have k1 := kR.set 0 (.slice a2 m2 c2)
  refine ⟨k1.set 1 _, ?_, (hB.setCell (p := ⟨NB, 0, none⟩) hNB _).setCell (p := ⟨NB, 1, none⟩) hNB _⟩
  exact ((hsl.to (Nat.le_refl _) (grownBy_setCell4 Y NB 0 (.slice a2 m2 c2)) (fun r e => by cases e; exact noOct2 kR)).to (by simp) (grownBy_setCell4 _ NB 1 (.int .i64 y)) (fun r e => by cases e; exact noOct2 k1)).mono (Nat.le_refl _) (by simp)
/-- Behind a call whose answer is stored into the result's cells. -/
theorem refS_stored {s : St} {w Y : World} {sv : Value} {NB : Nat} {z : Value} {x : Int} (hsl : BSl 0 Y.heap.size Y sv s.1) (hB : Below w.heap.size w Y) (hNB : w.heap.size ≤ NB) (hz : ∃ a m c, z = .slice a m c)
    (kR : Blk Y NB 62 [z, .int .i64 x]) :
    Blk ((Y.setCell ⟨NB, 0, none⟩ sv).setCell ⟨NB, 1, none⟩ (.int .i64 s.2)) NB 62 [sv, .int .i64 s.2] ∧ RefS s w (.returned (.agg #[sv, .int .i64 s.2])) ((Y.setCell ⟨NB, 0, none⟩ sv).setCell ⟨NB, 1, none⟩ (.int .i64 s.2)) := by
  obtain ⟨h1, h2, h3⟩ := stored_at (y := s.2) hsl hB hNB hz kR
  exact ⟨h1, _, rfl, h2, h3⟩

set_option maxRecDepth 100000 in
set_option maxHeartbeats 2000000 in
theorem refNum6_any {s : St} (hok : OkS s) (sv : Value) (n : Int) (w : World) (hsl : BSl 0 w.heap.size w sv s.1) :
    Calls Try.prog 23 #[.agg #[sv, .int .i64 s.2], .int .i64 n] w (RefS (numS s n) w) := by
  have hmx : Try.prog.follows .mixedOrders = true := by kernel_rfl
  obtain ⟨a, m, c, rfl⟩ := hsl.shape3
  by_cases hn : 0 ≤ n ∧ n ≤ 1099511627776
  · have e1 : numS s n = addS s (octs (two n) 6) := if_pos hn
    rw [e1]
    clear e1
    obtain ⟨h0, h1⟩ := hn
    have g0 : ¬ n < 0 := by omega
    have g1 : ¬ 1099511627776 < n := by omega
    go_enter Try.func23, Try.ntmps23
    go_wp2_with fail
    generalize hW0 : World.alloc _ _ = W0
    have kA : Blk W0 w.heap.size 62 [.slice a m c, .int .i64 s.2] := by rw [← hW0]; exact (Blk.new w _ [_, _]).alloc _
    have kR : Blk W0 (w.heap.size + 1) 62 [.slice none 0 0, .int .i64 0] := by rw [← hW0]; exact Blk.new' (vs := [_, _]) (by simp)
    have hB0 : Below w.heap.size w W0 := by rw [← hW0]; exact chainA (chain0 _ _) _
    have hz0 : W0.heap.size = w.heap.size + 2 := by rw [← hW0]; simp
    clear hW0
    have HZ := Lib.hid hz0
    clear hz0
    clear g0 g1
    refine wp_region_held_drew (S := fun W => Blk W w.heap.size 62 [.slice a m c, .int .i64 s.2]) hmx kA ?_
    intro hS
    replace kR : Blk W0.drew (w.heap.size + 1) 62 [.slice none 0 0, .int .i64 0] := kR
    have hB := hB0.drew
    replace hsl : BSl 0 W0.drew.heap.size W0.drew (.slice a m c) s.1 := (hsl.below hB (Nat.le_refl _)).mono (Nat.le_refl _) hB.size
    have HZ2 : Hid (W0.drew.heap.size = w.heap.size + 2) := HZ.out
    clear HZ kA hB0
    generalize W0.drew = Y at *
    refine' wpAnyH_take (i := 0) (oi := _) (v := _) ?hi1 (by kernel_rfl) (by kernel_rfl) (by kernel_rfl) ?hQ1 (Or.inl ⟨?hw1, ?hy1⟩) hS ?rest1
    case hi1 => simp only [List.getElem?_toArray, List.getElem?_cons_zero]; rfl
    case hQ1 => exact fun _ _ _ h => h
    case hw1 => rfl
    case hy1 => intro W' hS'; obtain ⟨c0, c1⟩ := Blk.c2 hS'; go_simp; with_reducible rfl
    try simp only [Act.put, List.setIfInBounds_toArray, List.set_cons_zero, List.set_cons_succ]
    refine' wpAnyH_take (i := 1) (oi := _) (v := _) ?hi2 (by kernel_rfl) (by kernel_rfl) (by kernel_rfl) ?hQ2 (Or.inl ⟨?hw2, ?hy2⟩) hS ?rest2
    case hi2 => simp only [List.getElem?_toArray, List.getElem?_cons_succ, List.getElem?_cons_zero]; rfl
    case hQ2 => exact fun _ _ _ h => h
    case hw2 => rfl
    case hy2 => intro W' hS'; go_simp; with_reducible rfl
    try simp only [Act.put, List.setIfInBounds_toArray, List.set_cons_zero, List.set_cons_succ]
    refine wpAnyH_ready (rs := [2]) (by kernel_rfl) (by simp) ?_
    refine' AllReadyH.cons (o := _) ?ho3 (fun K hK => ?st3) AllReadyH.nil
    case ho3 => simp only [List.getElem?_toArray, List.getElem?_cons_succ, List.getElem?_cons_zero]; rfl
    case st3 =>
      go_simp
      refine (refNum_any n 6 (by omega) (by omega) _).mono ?_
      rintro e Y1 ⟨v, rfl, hv, hb1⟩
      refine hK.out _ _ (hS.below hb1 hS.lt) (fun hS => ?_)
      clear hK K
      try simp only [Act.put, List.setIfInBounds_toArray, List.set_cons_zero, List.set_cons_succ]
      replace kR := kR.below hb1 kR.lt
      replace hB := chain hB hb1
      replace hsl := (hsl.below hb1 (Nat.le_refl _)).mono (Nat.le_refl _) hb1.size
      rw [clamp6'] at hv
      obtain ⟨va, vm, vc, rfl⟩ := hv.shape3
      replace hv := hv.mono (Nat.zero_le _) (Nat.le_refl _)
      clear hb1
      refine wpAnyH_ready (rs := [3]) (by kernel_rfl) (by simp) ?_
      refine' AllReadyH.cons (o := _) ?ho4 (fun K hK => ?st4) AllReadyH.nil
      case ho4 => simp only [List.getElem?_toArray, List.getElem?_cons_succ, List.getElem?_cons_zero]; rfl
      case st4 =>
        go_simp
        refine (refPut_any hok (.slice a m c) (.slice va vm vc) (octs (two n) 6) (by rw [octs_length]; omega) _ hsl hv).mono ?_
        rintro e Y2 ⟨v2, rfl, hv2, hb2⟩
        refine hK.out _ _ (hS.below hb2 hS.lt) (fun hS => ?_)
        clear hK K
        try simp only [Act.put, List.setIfInBounds_toArray, List.set_cons_zero, List.set_cons_succ]
        replace kR := kR.below hb2 kR.lt
        replace hB := chain hB hb2
        clear hv hb2 hsl
        obtain ⟨va, vm, vc, rfl⟩ := hv2.shape3
        have hv := hv2
        clear hv2
        refine wpAnyH_ready (rs := [4]) (by kernel_rfl) (by simp) ?_
        refine' AllReadyH.cons (o := _) ?ho5 (fun K hK => ?st5) AllReadyH.nil
        case ho5 => simp only [List.getElem?_toArray, List.getElem?_cons_succ, List.getElem?_cons_zero]; rfl
        case st5 =>
          obtain ⟨r0, r1⟩ := Blk.c2 kR
          have g0 := kR.frozen 0
          have g1 := kR.frozen 1
          go_simp
          have hfin := refS_stored hv hB (Nat.le_add_right _ 1) ⟨_, _, _, rfl⟩ kR
          refine hK.out _ _ ((hS.other 0 _ (by omega)).other 1 _ (by omega)) (fun hS => ?_)
          clear hK K
          try simp only [Act.put, List.setIfInBounds_toArray, List.set_cons_zero, List.set_cons_succ]
          refine wpAnyH_done (by kernel_rfl) ?_ _
          go_wp2_with fail
          obtain ⟨q0, q1⟩ := Blk.c2 hfin.1
          exact bodyPost_ret (v := .agg #[.slice va vm vc, .int .i64 (addS s (octs (two n) 6)).2]) (by simp [results, Try.results23, go_sem, q0, q1]) rfl hfin.2
  · have e1 : numS s n = errS s 4 := if_neg hn
    rw [e1]
    clear e1
    by_cases h0 : n < 0
    all_goals
      have HN := Lib.hid hn
      clear hn
      try (have g1 : 1099511627776 < n := by have := HN.out; omega)
      go_enter Try.func23, Try.ntmps23
      go_wp2_with fail
      generalize hW0 : World.alloc _ _ = W0
      have kA : Blk W0 w.heap.size 62 [.slice a m c, .int .i64 s.2] := by rw [← hW0]; exact (Blk.new w _ [_, _]).alloc _
      have kR : Blk W0 (w.heap.size + 1) 62 [.slice none 0 0, .int .i64 0] := by rw [← hW0]; exact Blk.new' (vs := [_, _]) (by simp)
      have hB0 : Below w.heap.size w W0 := by rw [← hW0]; exact chainA (chain0 _ _) _
      have hz0 : W0.heap.size = w.heap.size + 2 := by rw [← hW0]; simp
      clear hW0
      have HZ := Lib.hid hz0
      clear hz0
      obtain ⟨c0, c1⟩ := Blk.c2 kA
      go_wp2_with (go_at_call 55; refine (refPutE_any (s := s) (.slice a m c) (.slice none 0 0) 4 (by decide) _ ((hsl.below hB0 (Nat.le_refl _)).mono (Nat.le_refl _) hB0.size)).mono ?_; rintro e Y2 ⟨v2, rfl, hv2, hb2⟩; obtain ⟨va, vm, vc, rfl⟩ := hv2.shape3; have kR2 := kR.below hb2 kR.lt; obtain ⟨r0, r1⟩ := Blk.c2 kR2; have g0 := kR2.frozen 0; have g1 := kR2.frozen 1)
      have hfin := refS_stored hv2 (chain hB0 hb2) (Nat.le_add_right _ 1) ⟨_, _, _, rfl⟩ kR2
      obtain ⟨q0, q1⟩ := Blk.c2 hfin.1
      exact bodyPost_ret (v := .agg #[.slice va vm vc, .int .i64 (errS s 4).2]) (by simp [results, Try.results23, go_sem, q0, q1]) rfl hfin.2

set_option maxRecDepth 100000 in
set_option maxHeartbeats 2000000 in
theorem refWide6_any {s : St} (hok : OkS s) (sv : Value) {a0 a1 a2 a3 : Nat} (ha : Ok4 a0 a1 a2 a3) (w : World) (hsl : BSl 0 w.heap.size w sv s.1) :
    Calls Try.prog 26 #[.agg #[sv, .int .i64 s.2], wv a0 a1 a2 a3] w (RefS (wideS s a0 a1 a2 a3) w) := by
  have hmx : Try.prog.follows .mixedOrders = true := by kernel_rfl
  obtain ⟨a, m, c, rfl⟩ := hsl.shape3
  have hl : (wide8 a0 a1 a2 a3).length = 32 := by unfold wide8; simp only [List.length_append, octs_length]
  have HL := Lib.hid hl
  clear hl
  unfold wideS
  go_enter Try.func26, Try.ntmps26
  go_wp2_with fail
  generalize hW0 : World.alloc _ _ = W0
  have kA : Blk W0 w.heap.size 62 [.slice a m c, .int .i64 s.2] := by rw [← hW0]; exact ((Blk.new w _ [_, _]).alloc _).alloc _
  have kV : BlkW W0 (w.heap.size + 1) a0 a1 a2 a3 := by rw [← hW0]; exact (Blk.new' (vs := [_, _, _, _]) (by simp)).alloc _
  have kR : Blk W0 (w.heap.size + 2) 62 [.slice none 0 0, .int .i64 0] := by rw [← hW0]; exact Blk.new' (vs := [_, _]) (by simp)
  have hB0 : Below w.heap.size w W0 := by rw [← hW0]; exact chainA (chainA (chain0 _ _) _) _
  have hz0 : W0.heap.size = w.heap.size + 3 := by rw [← hW0]; simp
  clear hW0
  have HZ := Lib.hid hz0
  clear hz0
  refine wp_region_held_drew (S := fun W => Blk W w.heap.size 62 [.slice a m c, .int .i64 s.2] ∧ BlkW W (w.heap.size + 1) a0 a1 a2 a3) hmx ⟨kA, kV⟩ ?_
  intro hS
  replace kR : Blk W0.drew (w.heap.size + 2) 62 [.slice none 0 0, .int .i64 0] := kR
  have hB := hB0.drew
  replace hsl : BSl 0 W0.drew.heap.size W0.drew (.slice a m c) s.1 := (hsl.below hB (Nat.le_refl _)).mono (Nat.le_refl _) hB.size
  have HZ2 : Hid (W0.drew.heap.size = w.heap.size + 3) := HZ.out
  clear HZ kA kV hB0
  generalize W0.drew = Y at *
  refine' wpAnyH_take (i := 0) (oi := _) (v := _) ?hi6 (by kernel_rfl) (by kernel_rfl) (by kernel_rfl) ?hQ6 (Or.inl ⟨?hw6, ?hy6⟩) hS ?rest6
  case hi6 => simp only [List.getElem?_toArray, List.getElem?_cons_zero]; rfl
  case hQ6 => exact fun _ _ _ h => h
  case hw6 => rfl
  case hy6 => intro W' hS'; obtain ⟨c0, c1⟩ := Blk.c2 hS'.1; go_simp; with_reducible rfl
  try simp only [Act.put, List.setIfInBounds_toArray, List.set_cons_zero, List.set_cons_succ]
  refine' wpAnyH_take (i := 1) (oi := _) (v := _) ?hi7 (by kernel_rfl) (by kernel_rfl) (by kernel_rfl) ?hQ7 (Or.inl ⟨?hw7, ?hy7⟩) hS ?rest7
  case hi7 => simp only [List.getElem?_toArray, List.getElem?_cons_succ, List.getElem?_cons_zero]; rfl
  case hQ7 => exact fun _ _ _ h => h
  case hw7 => rfl
  case hy7 => intro W' hS'; obtain ⟨c0, c1, c2, c3⟩ := Blk.c4 hS'.2; go_simp; with_reducible rfl
  try simp only [Act.put, List.setIfInBounds_toArray, List.set_cons_zero, List.set_cons_succ]
  refine wpAnyH_ready (rs := [2]) (by kernel_rfl) (by simp) ?_
  refine' AllReadyH.cons (o := _) ?ho8 (fun K hK => ?st8) AllReadyH.nil
  case ho8 => simp only [List.getElem?_toArray, List.getElem?_cons_succ, List.getElem?_cons_zero]; rfl
  case st8 =>
    go_simp
    refine (refWide_any ha _).mono ?_
    rintro e Y1 ⟨v, rfl, hv, hb1⟩
    refine hK.out _ _ ⟨hS.1.below hb1 hS.1.lt, hS.2.below hb1 hS.2.lt⟩ (fun hS => ?_)
    clear hK K
    try simp only [Act.put, List.setIfInBounds_toArray, List.set_cons_zero, List.set_cons_succ]
    replace kR := kR.below hb1 kR.lt
    replace hB := chain hB hb1
    replace hsl := (hsl.below hb1 (Nat.le_refl _)).mono (Nat.le_refl _) hb1.size
    obtain ⟨va, vm, vc, rfl⟩ := hv.shape3
    replace hv := hv.mono (Nat.zero_le _) (Nat.le_refl _)
    clear hb1
    refine wpAnyH_ready (rs := [3]) (by kernel_rfl) (by simp) ?_
    refine' AllReadyH.cons (o := _) ?ho9 (fun K hK => ?st9) AllReadyH.nil
    case ho9 => simp only [List.getElem?_toArray, List.getElem?_cons_succ, List.getElem?_cons_zero]; rfl
    case st9 =>
      go_simp
      refine (refPut_any hok (.slice a m c) (.slice va vm vc) (wide8 a0 a1 a2 a3) (by rw [HL.out]; omega) _ hsl hv).mono ?_
      rintro e Y2 ⟨v2, rfl, hv2, hb2⟩
      refine hK.out _ _ ⟨hS.1.below hb2 hS.1.lt, hS.2.below hb2 hS.2.lt⟩ (fun hS => ?_)
      clear hK K
      try simp only [Act.put, List.setIfInBounds_toArray, List.set_cons_zero, List.set_cons_succ]
      replace kR := kR.below hb2 kR.lt
      replace hB := chain hB hb2
      clear hv hb2 hsl
      obtain ⟨va, vm, vc, rfl⟩ := hv2.shape3
      have hv := hv2
      clear hv2
      refine wpAnyH_ready (rs := [4]) (by kernel_rfl) (by simp) ?_
      refine' AllReadyH.cons (o := _) ?ho10 (fun K hK => ?st10) AllReadyH.nil
      case ho10 => simp only [List.getElem?_toArray, List.getElem?_cons_succ, List.getElem?_cons_zero]; rfl
      case st10 =>
        obtain ⟨r0, r1⟩ := Blk.c2 kR
        have g0 := kR.frozen 0
        have g1 := kR.frozen 1
        go_simp
        have hfin := refS_stored hv hB (Nat.le_add_right _ 2) ⟨_, _, _, rfl⟩ kR
        refine hK.out _ _ ⟨(hS.1.other 0 _ (by omega)).other 1 _ (by omega), (hS.2.other 0 _ (by omega)).other 1 _ (by omega)⟩ (fun hS => ?_)
        clear hK K
        try simp only [Act.put, List.setIfInBounds_toArray, List.set_cons_zero, List.set_cons_succ]
        refine wpAnyH_done (by kernel_rfl) ?_ _
        go_wp2_with fail
        obtain ⟨q0, q1⟩ := Blk.c2 hfin.1
        exact bodyPost_ret (v := .agg #[.slice va vm vc, .int .i64 (addS s (wide8 a0 a1 a2 a3)).2]) (by simp [results, Try.results26, go_sem, q0, q1]) rfl hfin.2

set_option maxRecDepth 100000 in
set_option maxHeartbeats 2000000 in
theorem refText6_any {s : St} (hok : OkS s) (sv : Value) (t : ByteArray) (w : World) (hsl : BSl 0 w.heap.size w sv s.1) :
    Calls Try.prog 25 #[.agg #[sv, .int .i64 s.2], .string t] w (RefS (txtS s t) w) := by
  have hmx : Try.prog.follows .mixedOrders = true := by kernel_rfl
  obtain ⟨a, m, c, rfl⟩ := hsl.shape3
  by_cases hn : t.size ≤ 1024
  · have e1 : txtS s t = addS s (octs t.size 2 ++ t.data.toList) := if_pos hn
    rw [e1]
    clear e1
    have htl : t.data.toList.length = t.size := by rw [Array.length_toList]; rfl
    have g1 : ¬ (1024 : Int) < (t.size : Int) := by omega
    have HL := Lib.hid htl
    clear htl
    go_enter Try.func25, Try.ntmps25
    go_wp2_with fail
    generalize hW0 : World.alloc _ _ = W0
    have kA : Blk W0 w.heap.size 62 [.slice a m c, .int .i64 s.2] := by rw [← hW0]; exact (Blk.new w _ [_, _]).alloc _
    have kR : Blk W0 (w.heap.size + 1) 62 [.slice none 0 0, .int .i64 0] := by rw [← hW0]; exact Blk.new' (vs := [_, _]) (by simp)
    have hB0 : Below w.heap.size w W0 := by rw [← hW0]; exact chainA (chain0 _ _) _
    have hz0 : W0.heap.size = w.heap.size + 2 := by rw [← hW0]; simp
    clear hW0
    have HZ := Lib.hid hz0
    clear hz0
    clear g1
    refine wp_region_held_drew (S := fun W => Blk W w.heap.size 62 [.slice a m c, .int .i64 s.2]) hmx kA ?_
    intro hS
    replace kR : Blk W0.drew (w.heap.size + 1) 62 [.slice none 0 0, .int .i64 0] := kR
    have hB := hB0.drew
    replace hsl : BSl 0 W0.drew.heap.size W0.drew (.slice a m c) s.1 := (hsl.below hB (Nat.le_refl _)).mono (Nat.le_refl _) hB.size
    have HZ2 : Hid (W0.drew.heap.size = w.heap.size + 2) := HZ.out
    clear HZ kA hB0
    generalize W0.drew = Y at *
    refine' wpAnyH_take (i := 0) (oi := _) (v := _) ?hi11 (by kernel_rfl) (by kernel_rfl) (by kernel_rfl) ?hQ11 (Or.inl ⟨?hw11, ?hy11⟩) hS ?rest11
    case hi11 => simp only [List.getElem?_toArray, List.getElem?_cons_zero]; rfl
    case hQ11 => exact fun _ _ _ h => h
    case hw11 => rfl
    case hy11 => intro W' hS'; obtain ⟨c0, c1⟩ := Blk.c2 hS'; go_simp; with_reducible rfl
    try simp only [Act.put, List.setIfInBounds_toArray, List.set_cons_zero, List.set_cons_succ]
    refine' wpAnyH_take (i := 1) (oi := _) (v := _) ?hi12 (by kernel_rfl) (by kernel_rfl) (by kernel_rfl) ?hQ12 (Or.inl ⟨?hw12, ?hy12⟩) hS ?rest12
    case hi12 => simp only [List.getElem?_toArray, List.getElem?_cons_succ, List.getElem?_cons_zero]; rfl
    case hQ12 => exact fun _ _ _ h => h
    case hw12 => rfl
    case hy12 => intro W' hS'; go_simp; with_reducible rfl
    try simp only [Act.put, List.setIfInBounds_toArray, List.set_cons_zero, List.set_cons_succ]
    refine' wpAnyH_take (i := 2) (oi := _) (v := _) ?hi13 (by kernel_rfl) (by kernel_rfl) (by kernel_rfl) ?hQ13 (Or.inl ⟨?hw13, ?hy13⟩) hS ?rest13
    case hi13 => simp only [List.getElem?_toArray, List.getElem?_cons_succ, List.getElem?_cons_zero]; rfl
    case hQ13 => exact fun _ _ _ h => h
    case hw13 => rfl
    case hy13 => intro W' hS'; go_simp; with_reducible rfl
    try simp only [Act.put, List.setIfInBounds_toArray, List.set_cons_zero, List.set_cons_succ]
    refine' wpAnyH_take (i := 4) (oi := _) (v := _) ?hi14 (by kernel_rfl) (by kernel_rfl) (by kernel_rfl) ?hQ14 (Or.inl ⟨?hw14, ?hy14⟩) hS ?rest14
    case hi14 => simp only [List.getElem?_toArray, List.getElem?_cons_succ, List.getElem?_cons_zero]; rfl
    case hQ14 => exact fun _ _ _ h => h
    case hw14 => rfl
    case hy14 => intro W' hS'; go_simp; with_reducible rfl
    try simp only [Act.put, List.setIfInBounds_toArray, List.set_cons_zero, List.set_cons_succ]
    refine wpAnyH_ready (rs := [3, 5]) (by kernel_rfl) (by simp) ?_
    refine' AllReadyH.cons (o := _) ?ho15 (fun K hK => ?st15) (AllReadyH.cons (o := _) ?ho16 (fun K hK => ?st16) AllReadyH.nil)
    case ho15 => simp only [List.getElem?_toArray, List.getElem?_cons_succ, List.getElem?_cons_zero]; rfl
    case ho16 => simp only [List.getElem?_toArray, List.getElem?_cons_succ, List.getElem?_cons_zero]; rfl
    case st15 =>
      go_simp
      refine (refNum_any t.size 2 (by omega) (by omega) _).mono ?_
      rintro e Y1 ⟨v, rfl, hv, hb1⟩
      refine hK.out _ _ (hS.below hb1 hS.lt) (fun hS => ?_)
      clear hK K
      try simp only [Act.put, List.setIfInBounds_toArray, List.set_cons_zero, List.set_cons_succ]
      replace kR := kR.below hb1 kR.lt
      replace hB := chain hB hb1
      replace hsl := (hsl.below hb1 (Nat.le_refl _)).mono (Nat.le_refl _) hb1.size
      rw [clamp2', two_nat' (by omega)] at hv
      obtain ⟨va, vm, vc, rfl⟩ := hv.shape3
      replace hv := hv.mono (Nat.zero_le _) (Nat.le_refl _)
      clear hb1
      refine wpAnyH_ready (rs := [5]) (by kernel_rfl) (by simp) ?_
      refine' AllReadyH.cons (o := _) ?ho17 (fun K hK => ?st17) AllReadyH.nil
      case ho17 => simp only [List.getElem?_toArray, List.getElem?_cons_succ, List.getElem?_cons_zero]; rfl
      case st17 =>
        obtain ⟨c5, Y5, hcv, hc5, hb5, hz5, ho5⟩ := conv_bytes Y1 t
        have hx := (conv_bsl hc5 hz5 ho5).mono (Nat.zero_le _) (Nat.le_refl _)
        clear hz5 ho5
        go_simp
        refine hK.out _ _ (hS.below hb5 hS.lt) (fun hS => ?_)
        clear hK K
        try simp only [Act.put, List.setIfInBounds_toArray, List.set_cons_zero, List.set_cons_succ]
        replace kR := kR.below hb5 kR.lt
        replace hB := chain hB hb5
        replace hsl := (hsl.below hb5 (Nat.le_refl _)).mono (Nat.le_refl _) hb5.size
        replace hv := (hv.below hb5 (Nat.le_refl _)).mono (Nat.le_refl _) hb5.size
        clear hb5 hcv hc5
        generalize (some (⟨Y1.heap.size, 0, none⟩ : Addr)) = xa at *
        refine wpAnyH_ready (rs := [6]) (by kernel_rfl) (by simp) ?_
        refine' AllReadyH.cons (o := _) ?ho18 (fun K hK => ?st18) AllReadyH.nil
        case ho18 => simp only [List.getElem?_toArray, List.getElem?_cons_succ, List.getElem?_cons_zero]; rfl
        case st18 =>
          go_simp
          refine (refCat_any (octs t.size 2) t.data.toList (.slice va vm vc) (.slice xa t.size c5) _ (by rw [octs_length, HL.out]; omega) hv hx).mono ?_
          rintro e Y3 ⟨v3, rfl, hv3, hb1⟩
          refine hK.out _ _ (hS.below hb1 hS.lt) (fun hS => ?_)
          clear hK K
          try simp only [Act.put, List.setIfInBounds_toArray, List.set_cons_zero, List.set_cons_succ]
          replace kR := kR.below hb1 kR.lt
          replace hB := chain hB hb1
          replace hsl := (hsl.below hb1 (Nat.le_refl _)).mono (Nat.le_refl _) hb1.size
          have hv4 := (BSl.of_own hv3).mono (Nat.zero_le _) (Nat.le_refl _)
          clear hb1 hv hx hv3
          obtain ⟨va, vm, vc, rfl⟩ := hv4.shape3
          have hv := hv4
          clear hv4
          refine wpAnyH_ready (rs := [7]) (by kernel_rfl) (by simp) ?_
          refine' AllReadyH.cons (o := _) ?ho19 (fun K hK => ?st19) AllReadyH.nil
          case ho19 => simp only [List.getElem?_toArray, List.getElem?_cons_succ, List.getElem?_cons_zero]; rfl
          case st19 =>
            go_simp
            refine (refPut_any hok (.slice a m c) (.slice va vm vc) (octs t.size 2 ++ t.data.toList) (by rw [List.length_append, octs_length, HL.out]; omega) _ hsl hv).mono ?_
            rintro e Y2 ⟨v2, rfl, hv2, hb2⟩
            refine hK.out _ _ (hS.below hb2 hS.lt) (fun hS => ?_)
            clear hK K
            try simp only [Act.put, List.setIfInBounds_toArray, List.set_cons_zero, List.set_cons_succ]
            replace kR := kR.below hb2 kR.lt
            replace hB := chain hB hb2
            clear hv hb2 hsl
            obtain ⟨va, vm, vc, rfl⟩ := hv2.shape3
            have hv := hv2
            clear hv2
            refine wpAnyH_ready (rs := [8]) (by kernel_rfl) (by simp) ?_
            refine' AllReadyH.cons (o := _) ?ho20 (fun K hK => ?st20) AllReadyH.nil
            case ho20 => simp only [List.getElem?_toArray, List.getElem?_cons_succ, List.getElem?_cons_zero]; rfl
            case st20 =>
              obtain ⟨r0, r1⟩ := Blk.c2 kR
              have g0 := kR.frozen 0
              have g1 := kR.frozen 1
              go_simp
              have hfin := refS_stored hv hB (Nat.le_add_right _ 1) ⟨_, _, _, rfl⟩ kR
              refine hK.out _ _ ((hS.other 0 _ (by omega)).other 1 _ (by omega)) (fun hS => ?_)
              clear hK K
              try simp only [Act.put, List.setIfInBounds_toArray, List.set_cons_zero, List.set_cons_succ]
              refine wpAnyH_done (by kernel_rfl) ?_ _
              go_wp2_with fail
              obtain ⟨q0, q1⟩ := Blk.c2 hfin.1
              exact bodyPost_ret (v := .agg #[.slice va vm vc, .int .i64 (addS s (octs t.size 2 ++ t.data.toList)).2]) (by simp [results, Try.results25, go_sem, q0, q1]) rfl hfin.2
    case st16 =>
      obtain ⟨c5, Y5, hcv, hc5, hb5, hz5, ho5⟩ := conv_bytes Y t
      have hx := (conv_bsl hc5 hz5 ho5).mono (Nat.zero_le _) (Nat.le_refl _)
      clear hz5 ho5
      go_simp
      refine hK.out _ _ (hS.below hb5 hS.lt) (fun hS => ?_)
      clear hK K
      try simp only [Act.put, List.setIfInBounds_toArray, List.set_cons_zero, List.set_cons_succ]
      replace kR := kR.below hb5 kR.lt
      replace hB := chain hB hb5
      replace hsl := (hsl.below hb5 (Nat.le_refl _)).mono (Nat.le_refl _) hb5.size
      clear hb5 hcv hc5
      generalize (some (⟨Y.heap.size, 0, none⟩ : Addr)) = xa at *
      refine wpAnyH_ready (rs := [3]) (by kernel_rfl) (by simp) ?_
      refine' AllReadyH.cons (o := _) ?ho21 (fun K hK => ?st21) AllReadyH.nil
      case ho21 => simp only [List.getElem?_toArray, List.getElem?_cons_succ, List.getElem?_cons_zero]; rfl
      case st21 =>
        go_simp
        refine (refNum_any t.size 2 (by omega) (by omega) _).mono ?_
        rintro e Y1 ⟨v, rfl, hv, hb1⟩
        refine hK.out _ _ (hS.below hb1 hS.lt) (fun hS => ?_)
        clear hK K
        try simp only [Act.put, List.setIfInBounds_toArray, List.set_cons_zero, List.set_cons_succ]
        replace kR := kR.below hb1 kR.lt
        replace hB := chain hB hb1
        replace hsl := (hsl.below hb1 (Nat.le_refl _)).mono (Nat.le_refl _) hb1.size
        replace hx := (hx.below hb1 (Nat.le_refl _)).mono (Nat.le_refl _) hb1.size
        rw [clamp2', two_nat' (by omega)] at hv
        obtain ⟨va, vm, vc, rfl⟩ := hv.shape3
        replace hv := hv.mono (Nat.zero_le _) (Nat.le_refl _)
        clear hb1
        refine wpAnyH_ready (rs := [6]) (by kernel_rfl) (by simp) ?_
        refine' AllReadyH.cons (o := _) ?ho22 (fun K hK => ?st22) AllReadyH.nil
        case ho22 => simp only [List.getElem?_toArray, List.getElem?_cons_succ, List.getElem?_cons_zero]; rfl
        case st22 =>
          go_simp
          refine (refCat_any (octs t.size 2) t.data.toList (.slice va vm vc) (.slice xa t.size c5) _ (by rw [octs_length, HL.out]; omega) hv hx).mono ?_
          rintro e Y3 ⟨v3, rfl, hv3, hb1⟩
          refine hK.out _ _ (hS.below hb1 hS.lt) (fun hS => ?_)
          clear hK K
          try simp only [Act.put, List.setIfInBounds_toArray, List.set_cons_zero, List.set_cons_succ]
          replace kR := kR.below hb1 kR.lt
          replace hB := chain hB hb1
          replace hsl := (hsl.below hb1 (Nat.le_refl _)).mono (Nat.le_refl _) hb1.size
          have hv4 := (BSl.of_own hv3).mono (Nat.zero_le _) (Nat.le_refl _)
          clear hb1 hv hx hv3
          obtain ⟨va, vm, vc, rfl⟩ := hv4.shape3
          have hv := hv4
          clear hv4
          refine wpAnyH_ready (rs := [7]) (by kernel_rfl) (by simp) ?_
          refine' AllReadyH.cons (o := _) ?ho23 (fun K hK => ?st23) AllReadyH.nil
          case ho23 => simp only [List.getElem?_toArray, List.getElem?_cons_succ, List.getElem?_cons_zero]; rfl
          case st23 =>
            go_simp
            refine (refPut_any hok (.slice a m c) (.slice va vm vc) (octs t.size 2 ++ t.data.toList) (by rw [List.length_append, octs_length, HL.out]; omega) _ hsl hv).mono ?_
            rintro e Y2 ⟨v2, rfl, hv2, hb2⟩
            refine hK.out _ _ (hS.below hb2 hS.lt) (fun hS => ?_)
            clear hK K
            try simp only [Act.put, List.setIfInBounds_toArray, List.set_cons_zero, List.set_cons_succ]
            replace kR := kR.below hb2 kR.lt
            replace hB := chain hB hb2
            clear hv hb2 hsl
            obtain ⟨va, vm, vc, rfl⟩ := hv2.shape3
            have hv := hv2
            clear hv2
            refine wpAnyH_ready (rs := [8]) (by kernel_rfl) (by simp) ?_
            refine' AllReadyH.cons (o := _) ?ho24 (fun K hK => ?st24) AllReadyH.nil
            case ho24 => simp only [List.getElem?_toArray, List.getElem?_cons_succ, List.getElem?_cons_zero]; rfl
            case st24 =>
              obtain ⟨r0, r1⟩ := Blk.c2 kR
              have g0 := kR.frozen 0
              have g1 := kR.frozen 1
              go_simp
              have hfin := refS_stored hv hB (Nat.le_add_right _ 1) ⟨_, _, _, rfl⟩ kR
              refine hK.out _ _ ((hS.other 0 _ (by omega)).other 1 _ (by omega)) (fun hS => ?_)
              clear hK K
              try simp only [Act.put, List.setIfInBounds_toArray, List.set_cons_zero, List.set_cons_succ]
              refine wpAnyH_done (by kernel_rfl) ?_ _
              go_wp2_with fail
              obtain ⟨q0, q1⟩ := Blk.c2 hfin.1
              exact bodyPost_ret (v := .agg #[.slice va vm vc, .int .i64 (addS s (octs t.size 2 ++ t.data.toList)).2]) (by simp [results, Try.results25, go_sem, q0, q1]) rfl hfin.2
  · have e1 : txtS s t = errS s 5 := if_neg hn
    rw [e1]
    clear e1
    have g1 : (1024 : Int) < (t.size : Int) := by omega
    go_enter Try.func25, Try.ntmps25
    go_wp2_with fail
    generalize hW0 : World.alloc _ _ = W0
    have kA : Blk W0 w.heap.size 62 [.slice a m c, .int .i64 s.2] := by rw [← hW0]; exact (Blk.new w _ [_, _]).alloc _
    have kR : Blk W0 (w.heap.size + 1) 62 [.slice none 0 0, .int .i64 0] := by rw [← hW0]; exact Blk.new' (vs := [_, _]) (by simp)
    have hB0 : Below w.heap.size w W0 := by rw [← hW0]; exact chainA (chain0 _ _) _
    have hz0 : W0.heap.size = w.heap.size + 2 := by rw [← hW0]; simp
    clear hW0
    have HZ := Lib.hid hz0
    clear hz0
    obtain ⟨c0, c1⟩ := Blk.c2 kA
    go_wp2_with (go_at_call 55; refine (refPutE_any (s := s) (.slice a m c) (.slice none 0 0) 5 (by decide) _ ((hsl.below hB0 (Nat.le_refl _)).mono (Nat.le_refl _) hB0.size)).mono ?_; rintro e Y2 ⟨v2, rfl, hv2, hb2⟩; obtain ⟨va, vm, vc, rfl⟩ := hv2.shape3; have kR2 := kR.below hb2 kR.lt; obtain ⟨r0, r1⟩ := Blk.c2 kR2; have g0 := kR2.frozen 0; have g1 := kR2.frozen 1)
    have hfin := refS_stored hv2 (chain hB0 hb2) (Nat.le_add_right _ 1) ⟨_, _, _, rfl⟩ kR2
    obtain ⟨q0, q1⟩ := Blk.c2 hfin.1
    exact bodyPost_ret (v := .agg #[.slice va vm vc, .int .i64 (errS s 5).2]) (by simp [results, Try.results25, go_sem, q0, q1]) rfl hfin.2
end Go.Proofs.Ytigdenlnnnfjlaa

namespace Go.Proofs.Ytigdenlnnnfjlaa
open Go.RowKit Go.Shelf

/-- The blocks of such a writer: what is taken; the thing; the result. -/
structure WW (T : TypeId) (vs : List Value) (w Y : World) (s : St) (z : Value) : Prop where
  a : Blk Y w.heap.size 62 [z, .int .i64 s.2]
  l : Blk Y (w.heap.size + 1) T vs
  r : Blk Y (w.heap.size + 2) 62 [.slice none 0 0, .int .i64 0]
  b : BSl 0 Y.heap.size Y z s.1
  w : Below w.heap.size w Y
theorem WW.below {T : TypeId} {vs : List Value} {w Y Y' : World} {s : St} {z : Value} (h : WW T vs w Y s z) (hb : Below Y.heap.size Y Y') : WW T vs w Y' s z :=
  ⟨h.a.below hb h.a.lt, h.l.below hb h.l.lt, h.r.below hb h.r.lt, (h.b.below hb (Nat.le_refl _)).mono (Nat.le_refl _) hb.size, chain h.w hb⟩
theorem WW.drew {T : TypeId} {vs : List Value} {w Y : World} {s : St} {z : Value} (h : WW T vs w Y s z) : WW T vs w Y.drew s z := h.below (Below.refl _ Y).drew
theorem WW.fin {T : TypeId} {vs : List Value} {w Y : World} {s s' : St} {z : Value} (h : WW T vs w Y s z) {sv : Value} (hv : BSl 0 Y.heap.size Y sv s'.1) :
    WW T vs w ((Y.setCell ⟨w.heap.size, 0, none⟩ sv).setCell ⟨w.heap.size, 1, none⟩ (.int .i64 s'.2)) s' sv := by
  obtain ⟨h1, h2, h3⟩ := stored_at (y := s'.2) hv h.w (Nat.le_refl _) h.b.shape3 h.a
  exact ⟨h1, (h.l.other 0 _ (by omega)).other 1 _ (by omega), (h.r.other 0 _ (by omega)).other 1 _ (by omega), h2, h3⟩
end Go.Proofs.Ytigdenlnnnfjlaa

namespace Go.Proofs.Ytigdenlnnnfjlaa
open Go.RowKit Go.Shelf

set_option maxRecDepth 100000 in
set_option maxHeartbeats 2000000 in
theorem refPutAsk_any {s : St} (hok : OkS s) (sv : Value) (i : Ak) (hi4 : Ok4 i.a0 i.a1 i.a2 i.a3) (w : World) (hsl : BSl 0 w.heap.size w sv s.1) :
    Calls Try.prog 24 #[.agg #[sv, .int .i64 s.2], akv i] w (RefS (putA s i) w) := by
  have hmx : Try.prog.follows .mixedOrders = true := by kernel_rfl
  have HG : Hid (putA s i = txtS (wideS (numS (numS (numS (numS s i.us) i.se) i.re) i.to) i.a0 i.a1 i.a2 i.a3) i.id) := Lib.hid rfl
  have hok1 : OkS (numS (numS (numS (numS s i.us) i.se) i.re) i.to) := okS_putA4 hok i
  obtain ⟨a, m, c, rfl⟩ := hsl.shape3
  go_enter Try.func24, Try.ntmps24
  go_wp2_with fail
  generalize hW0 : World.alloc _ _ = W0
  have hP : WW 26 (akc i) w W0 s (.slice a m c) := by
    have b3 := chainA (chainA (chain0 w (.cells #[.slice a m c, .int .i64 s.2] 62)) (.cells (akc i).toArray 26)) (.cells #[.slice none 0 0, .int .i64 0] 62)
    rw [← hW0]
    exact ⟨((Blk.new w _ [_, _]).alloc _).alloc _, (Blk.new' (vs := (akc i)) (by simp)).alloc _, Blk.new' (vs := [_, _]) (by simp), (hsl.below b3 (Nat.le_refl _)).mono (Nat.le_refl _) b3.size, b3⟩
  clear hW0 hsl
  refine wp_region_held_drew (S := fun W => Blk W (w.heap.size + 1) 26 (akc i)) hmx hP.l ?_
  intro hS
  replace hP := hP.drew
  generalize World.drew _ = Y at *
  refine' wpAnyH_take (i := 1) (oi := _) (v := _) ?hi1 (by kernel_rfl) (by kernel_rfl) (by kernel_rfl) ?hQ1 (Or.inl ⟨?hw1, ?hy1⟩) hS ?rest1
  case hi1 => simp only [List.getElem?_toArray, List.getElem?_cons_succ, List.getElem?_cons_zero]; rfl
  case hQ1 => exact fun _ _ _ h => h
  case hw1 => rfl
  case hy1 => intro W' hS'; go_simp; with_reducible rfl
  try simp only [Act.put, List.setIfInBounds_toArray, List.set_cons_zero, List.set_cons_succ]
  refine' wpAnyH_take (i := 2) (oi := _) (v := _) ?hi2 (by kernel_rfl) (by kernel_rfl) (by kernel_rfl) ?hQ2 (Or.inl ⟨?hw2, ?hy2⟩) hS ?rest2
  case hi2 => simp only [List.getElem?_toArray, List.getElem?_cons_succ, List.getElem?_cons_zero]; rfl
  case hQ2 => exact fun _ _ _ h => h
  case hw2 => rfl
  case hy2 => intro W' hS'; obtain ⟨c0, c1, c2, c3, c4, c5, c6, c7, c8⟩ := Blk.c9 hS'; go_simp; with_reducible rfl
  try simp only [Act.put, List.setIfInBounds_toArray, List.set_cons_zero, List.set_cons_succ]
  refine' wpAnyH_take (i := 4) (oi := _) (v := _) ?hi3 (by kernel_rfl) (by kernel_rfl) (by kernel_rfl) ?hQ3 (Or.inl ⟨?hw3, ?hy3⟩) hS ?rest3
  case hi3 => simp only [List.getElem?_toArray, List.getElem?_cons_succ, List.getElem?_cons_zero]; rfl
  case hQ3 => exact fun _ _ _ h => h
  case hw3 => rfl
  case hy3 => intro W' hS'; go_simp; with_reducible rfl
  try simp only [Act.put, List.setIfInBounds_toArray, List.set_cons_zero, List.set_cons_succ]
  refine' wpAnyH_take (i := 5) (oi := _) (v := _) ?hi4 (by kernel_rfl) (by kernel_rfl) (by kernel_rfl) ?hQ4 (Or.inl ⟨?hw4, ?hy4⟩) hS ?rest4
  case hi4 => simp only [List.getElem?_toArray, List.getElem?_cons_succ, List.getElem?_cons_zero]; rfl
  case hQ4 => exact fun _ _ _ h => h
  case hw4 => rfl
  case hy4 => intro W' hS'; obtain ⟨c0, c1, c2, c3, c4, c5, c6, c7, c8⟩ := Blk.c9 hS'; go_simp; with_reducible rfl
  try simp only [Act.put, List.setIfInBounds_toArray, List.set_cons_zero, List.set_cons_succ]
  refine' wpAnyH_take (i := 7) (oi := _) (v := _) ?hi5 (by kernel_rfl) (by kernel_rfl) (by kernel_rfl) ?hQ5 (Or.inl ⟨?hw5, ?hy5⟩) hS ?rest5
  case hi5 => simp only [List.getElem?_toArray, List.getElem?_cons_succ, List.getElem?_cons_zero]; rfl
  case hQ5 => exact fun _ _ _ h => h
  case hw5 => rfl
  case hy5 => intro W' hS'; go_simp; with_reducible rfl
  try simp only [Act.put, List.setIfInBounds_toArray, List.set_cons_zero, List.set_cons_succ]
  refine' wpAnyH_take (i := 8) (oi := _) (v := _) ?hi6 (by kernel_rfl) (by kernel_rfl) (by kernel_rfl) ?hQ6 (Or.inl ⟨?hw6, ?hy6⟩) hS ?rest6
  case hi6 => simp only [List.getElem?_toArray, List.getElem?_cons_succ, List.getElem?_cons_zero]; rfl
  case hQ6 => exact fun _ _ _ h => h
  case hw6 => rfl
  case hy6 => intro W' hS'; obtain ⟨c0, c1, c2, c3, c4, c5, c6, c7, c8⟩ := Blk.c9 hS'; go_simp; with_reducible rfl
  try simp only [Act.put, List.setIfInBounds_toArray, List.set_cons_zero, List.set_cons_succ]
  refine' wpAnyH_take (i := 10) (oi := _) (v := _) ?hi7 (by kernel_rfl) (by kernel_rfl) (by kernel_rfl) ?hQ7 (Or.inl ⟨?hw7, ?hy7⟩) hS ?rest7
  case hi7 => simp only [List.getElem?_toArray, List.getElem?_cons_succ, List.getElem?_cons_zero]; rfl
  case hQ7 => exact fun _ _ _ h => h
  case hw7 => rfl
  case hy7 => intro W' hS'; go_simp; with_reducible rfl
  try simp only [Act.put, List.setIfInBounds_toArray, List.set_cons_zero, List.set_cons_succ]
  refine' wpAnyH_take (i := 11) (oi := _) (v := _) ?hi8 (by kernel_rfl) (by kernel_rfl) (by kernel_rfl) ?hQ8 (Or.inl ⟨?hw8, ?hy8⟩) hS ?rest8
  case hi8 => simp only [List.getElem?_toArray, List.getElem?_cons_succ, List.getElem?_cons_zero]; rfl
  case hQ8 => exact fun _ _ _ h => h
  case hw8 => rfl
  case hy8 => intro W' hS'; obtain ⟨c0, c1, c2, c3, c4, c5, c6, c7, c8⟩ := Blk.c9 hS'; go_simp; with_reducible rfl
  try simp only [Act.put, List.setIfInBounds_toArray, List.set_cons_zero, List.set_cons_succ]
  refine wpAnyH_ready (rs := [0]) (by kernel_rfl) (by simp) ?_
  refine' AllReadyH.cons (o := _) ?ho9 (fun K hK => ?st9) AllReadyH.nil
  case ho9 => simp only [List.getElem?_toArray, List.getElem?_cons_zero]; rfl
  case st9 =>
    obtain ⟨a0, a1⟩ := Blk.c2 hP.a
    go_simp
    refine hK.out _ _ hS (fun hS => ?_)
    clear hK K
    try simp only [Act.put, List.setIfInBounds_toArray, List.set_cons_zero, List.set_cons_succ]
    clear a0 a1
    have hv := hP.b
    refine wpAnyH_ready (rs := [3]) (by kernel_rfl) (by simp) ?_
    refine' AllReadyH.cons (o := _) ?ho10 (fun K hK => ?st10) AllReadyH.nil
    case ho10 => simp only [List.getElem?_toArray, List.getElem?_cons_succ, List.getElem?_cons_zero]; rfl
    case st10 =>
      go_simp
      refine (refNum6_any hok _ i.us _ hv).mono ?_
      rintro e Y1 ⟨vv, rfl, hv1, hb⟩
      refine hK.out _ _ (hS.below hb hS.lt) (fun hS => ?_)
      clear hK K
      try simp only [Act.put, List.setIfInBounds_toArray, List.set_cons_zero, List.set_cons_succ]
      replace hP := hP.below hb
      clear hv hb
      obtain ⟨va, vm, vc, rfl⟩ := hv1.shape3
      have hv := hv1
      clear hv1
      refine wpAnyH_ready (rs := [6]) (by kernel_rfl) (by simp) ?_
      refine' AllReadyH.cons (o := _) ?ho11 (fun K hK => ?st11) AllReadyH.nil
      case ho11 => simp only [List.getElem?_toArray, List.getElem?_cons_succ, List.getElem?_cons_zero]; rfl
      case st11 =>
        go_simp
        refine (refNum6_any (okS_num hok _) _ i.se _ hv).mono ?_
        rintro e Y1 ⟨vv, rfl, hv1, hb⟩
        refine hK.out _ _ (hS.below hb hS.lt) (fun hS => ?_)
        clear hK K
        try simp only [Act.put, List.setIfInBounds_toArray, List.set_cons_zero, List.set_cons_succ]
        replace hP := hP.below hb
        clear hv hb
        obtain ⟨va, vm, vc, rfl⟩ := hv1.shape3
        have hv := hv1
        clear hv1
        refine wpAnyH_ready (rs := [9]) (by kernel_rfl) (by simp) ?_
        refine' AllReadyH.cons (o := _) ?ho12 (fun K hK => ?st12) AllReadyH.nil
        case ho12 => simp only [List.getElem?_toArray, List.getElem?_cons_succ, List.getElem?_cons_zero]; rfl
        case st12 =>
          go_simp
          refine (refNum6_any (okS_num (okS_num hok _) _) _ i.re _ hv).mono ?_
          rintro e Y1 ⟨vv, rfl, hv1, hb⟩
          refine hK.out _ _ (hS.below hb hS.lt) (fun hS => ?_)
          clear hK K
          try simp only [Act.put, List.setIfInBounds_toArray, List.set_cons_zero, List.set_cons_succ]
          replace hP := hP.below hb
          clear hv hb
          obtain ⟨va, vm, vc, rfl⟩ := hv1.shape3
          have hv := hv1
          clear hv1
          refine wpAnyH_ready (rs := [12]) (by kernel_rfl) (by simp) ?_
          refine' AllReadyH.cons (o := _) ?ho13 (fun K hK => ?st13) AllReadyH.nil
          case ho13 => simp only [List.getElem?_toArray, List.getElem?_cons_succ, List.getElem?_cons_zero]; rfl
          case st13 =>
            go_simp
            refine (refNum6_any (okS_num (okS_num (okS_num hok _) _) _) _ i.to _ hv).mono ?_
            rintro e Y1 ⟨vv, rfl, hv1, hb⟩
            refine hK.out _ _ (hS.below hb hS.lt) (fun hS => ?_)
            clear hK K
            try simp only [Act.put, List.setIfInBounds_toArray, List.set_cons_zero, List.set_cons_succ]
            replace hP := hP.below hb
            clear hv hb
            obtain ⟨va, vm, vc, rfl⟩ := hv1.shape3
            have hv := hv1
            clear hv1
            refine wpAnyH_ready (rs := [13]) (by kernel_rfl) (by simp) ?_
            refine' AllReadyH.cons (o := _) ?ho14 (fun K hK => ?st14) AllReadyH.nil
            case ho14 => simp only [List.getElem?_toArray, List.getElem?_cons_succ, List.getElem?_cons_zero]; rfl
            case st14 =>
              obtain ⟨a0, a1⟩ := Blk.c2 hP.a
              have fa := hP.a.frozen
              go_simp
              refine hK.out _ _ ((hS.other 0 _ (by omega)).other 1 _ (by omega)) (fun hS => ?_)
              clear hK K
              try simp only [Act.put, List.setIfInBounds_toArray, List.set_cons_zero, List.set_cons_succ]
              replace hP := WW.fin (s' := numS (numS (numS (numS s i.us) i.se) i.re) i.to) hP hv
              clear a0 a1 fa hv
              refine wpAnyH_done (by kernel_rfl) ?_ _
              go_wp2_with fail
              generalize (World.setCell (World.setCell Y1 _ _) _ _) = Y3 at *
              generalize numS (numS (numS (numS s i.us) i.se) i.re) i.to = s1 at *
              clear hS
              refine wp_region_held_drew (S := fun W => Blk W (w.heap.size + 1) 26 (akc i)) hmx hP.l ?_
              intro hS
              replace hP := hP.drew
              generalize World.drew _ = Y at *
              refine' wpAnyH_take (i := 1) (oi := _) (v := _) ?hi15 (by kernel_rfl) (by kernel_rfl) (by kernel_rfl) ?hQ15 (Or.inl ⟨?hw15, ?hy15⟩) hS ?rest15
              case hi15 => simp only [List.getElem?_toArray, List.getElem?_cons_succ, List.getElem?_cons_zero]; rfl
              case hQ15 => exact fun _ _ _ h => h
              case hw15 => rfl
              case hy15 => intro W' hS'; go_simp; with_reducible rfl
              try simp only [Act.put, List.setIfInBounds_toArray, List.set_cons_zero, List.set_cons_succ]
              refine' wpAnyH_take (i := 2) (oi := _) (v := _) ?hi16 (by kernel_rfl) (by kernel_rfl) (by kernel_rfl) ?hQ16 (Or.inl ⟨?hw16, ?hy16⟩) hS ?rest16
              case hi16 => simp only [List.getElem?_toArray, List.getElem?_cons_succ, List.getElem?_cons_zero]; rfl
              case hQ16 => exact fun _ _ _ h => h
              case hw16 => rfl
              case hy16 => intro W' hS'; obtain ⟨c0, c1, c2, c3, c4, c5, c6, c7, c8⟩ := Blk.c9 hS'; go_simp; with_reducible rfl
              try simp only [Act.put, List.setIfInBounds_toArray, List.set_cons_zero, List.set_cons_succ]
              refine' wpAnyH_take (i := 4) (oi := _) (v := _) ?hi17 (by kernel_rfl) (by kernel_rfl) (by kernel_rfl) ?hQ17 (Or.inl ⟨?hw17, ?hy17⟩) hS ?rest17
              case hi17 => simp only [List.getElem?_toArray, List.getElem?_cons_succ, List.getElem?_cons_zero]; rfl
              case hQ17 => exact fun _ _ _ h => h
              case hw17 => rfl
              case hy17 => intro W' hS'; go_simp; with_reducible rfl
              try simp only [Act.put, List.setIfInBounds_toArray, List.set_cons_zero, List.set_cons_succ]
              refine' wpAnyH_take (i := 5) (oi := _) (v := _) ?hi18 (by kernel_rfl) (by kernel_rfl) (by kernel_rfl) ?hQ18 (Or.inl ⟨?hw18, ?hy18⟩) hS ?rest18
              case hi18 => simp only [List.getElem?_toArray, List.getElem?_cons_succ, List.getElem?_cons_zero]; rfl
              case hQ18 => exact fun _ _ _ h => h
              case hw18 => rfl
              case hy18 => intro W' hS'; obtain ⟨c0, c1, c2, c3, c4, c5, c6, c7, c8⟩ := Blk.c9 hS'; go_simp; with_reducible rfl
              try simp only [Act.put, List.setIfInBounds_toArray, List.set_cons_zero, List.set_cons_succ]
              refine wpAnyH_ready (rs := [0]) (by kernel_rfl) (by simp) ?_
              refine' AllReadyH.cons (o := _) ?ho19 (fun K hK => ?st19) AllReadyH.nil
              case ho19 => simp only [List.getElem?_toArray, List.getElem?_cons_zero]; rfl
              case st19 =>
                obtain ⟨a0, a1⟩ := Blk.c2 hP.a
                go_simp
                refine hK.out _ _ hS (fun hS => ?_)
                clear hK K
                try simp only [Act.put, List.setIfInBounds_toArray, List.set_cons_zero, List.set_cons_succ]
                clear a0 a1
                have hv := hP.b
                refine wpAnyH_ready (rs := [3]) (by kernel_rfl) (by simp) ?_
                refine' AllReadyH.cons (o := _) ?ho20 (fun K hK => ?st20) AllReadyH.nil
                case ho20 => simp only [List.getElem?_toArray, List.getElem?_cons_succ, List.getElem?_cons_zero]; rfl
                case st20 =>
                  go_simp
                  refine (refWide6_any hok1 _ hi4 _ hv).mono ?_
                  rintro e Y1 ⟨vv, rfl, hv1, hb⟩
                  refine hK.out _ _ (hS.below hb hS.lt) (fun hS => ?_)
                  clear hK K
                  try simp only [Act.put, List.setIfInBounds_toArray, List.set_cons_zero, List.set_cons_succ]
                  replace hP := hP.below hb
                  clear hv hb
                  obtain ⟨va, vm, vc, rfl⟩ := hv1.shape3
                  have hv := hv1
                  clear hv1
                  refine wpAnyH_ready (rs := [6]) (by kernel_rfl) (by simp) ?_
                  refine' AllReadyH.cons (o := _) ?ho21 (fun K hK => ?st21) AllReadyH.nil
                  case ho21 => simp only [List.getElem?_toArray, List.getElem?_cons_succ, List.getElem?_cons_zero]; rfl
                  case st21 =>
                    go_simp
                    refine (refText6_any (okS_wide hok1 _ _ _ _) _ i.id _ hv).mono ?_
                    rintro e Y1 ⟨vv, rfl, hv1, hb⟩
                    refine hK.out _ _ (hS.below hb hS.lt) (fun hS => ?_)
                    clear hK K
                    try simp only [Act.put, List.setIfInBounds_toArray, List.set_cons_zero, List.set_cons_succ]
                    replace hP := hP.below hb
                    clear hv hb
                    obtain ⟨va, vm, vc, rfl⟩ := hv1.shape3
                    have hv := hv1
                    clear hv1
                    refine wpAnyH_ready (rs := [7]) (by kernel_rfl) (by simp) ?_
                    refine' AllReadyH.cons (o := _) ?ho22 (fun K hK => ?st22) AllReadyH.nil
                    case ho22 => simp only [List.getElem?_toArray, List.getElem?_cons_succ, List.getElem?_cons_zero]; rfl
                    case st22 =>
                      obtain ⟨r0, r1⟩ := Blk.c2 hP.r
                      have g0 := hP.r.frozen
                      go_simp
                      refine hK.out _ _ ((hS.other 0 _ (by omega)).other 1 _ (by omega)) (fun hS => ?_)
                      clear hK K
                      try simp only [Act.put, List.setIfInBounds_toArray, List.set_cons_zero, List.set_cons_succ]
                      refine wpAnyH_done (by kernel_rfl) ?_ _
                      have hfin := refS_stored hv hP.w (Nat.le_add_right _ 2) ⟨_, _, _, rfl⟩ hP.r
                      go_wp2_with fail
                      obtain ⟨q0, q1⟩ := Blk.c2 hfin.1
                      exact bodyPost_ret (v := .agg #[.slice va vm vc, .int .i64 (txtS (wideS s1 i.a0 i.a1 i.a2 i.a3) i.id).2]) (by simp [results, Try.results24, go_sem, q0, q1]; try rfl) rfl (by rw [HG.out]; exact hfin.2)
end Go.Proofs.Ytigdenlnnnfjlaa
