/-
  The reference's Sub takes away digit by digit.
-/
import Derived.Test.YtefbkchledfoiaaBlkW
import Derived.Test.YtefbkchledfoiaaRefDigits
import Derived.Test.YtefbkchledfoiaaRefMade
import Derived.Test.YtefbkchledfoiaaRefCmp
import Derived.Test.YtefbkchledfoiaaWideSub
import Derived.Test.YtefbkchledfoiaaRefMath
import Derived.Maps.AppendAt
import Derived.IntWalk
import Derived.Deep.QuietTactic
import Derived.Deep.RegionHeld3
import Derived.BigQuiet
namespace Go.Proofs.Ytefbkchledfoiaa
open Go.RowKit

set_option maxRecDepth 100000 in
set_option maxHeartbeats 4000000 in
theorem refSub_any {a0 a1 a2 a3 b0 b1 b2 b3 : Nat} (ha : Ok4 a0 a1 a2 a3) (hb : Ok4 b0 b1 b2 b3) (w : World) :
    Calls Try.prog 14 #[wv a0 a1 a2 a3, wv b0 b1 b2 b3] w (SubW (val a0 a1 a2 a3) (val b0 b1 b2 b3) w) := by
  obtain ⟨i0, hi, hz0, hz1, hz2⟩ := info_parts Try.infoInt
  have hcmp : cmpN (val a0 a1 a2 a3) (val b0 b1 b2 b3) < 0 ↔ val a0 a1 a2 a3 < val b0 b1 b2 b3 := by
    unfold cmpN
    split
    · omega
    · split <;> omega
  have HC := Lib.hid hcmp
  clear hcmp
  go_enter Try.func14, Try.ntmps14
  go_wp2_with fail
  refine (refCmp_any ha hb _).mono ?_
  rintro e W0 ⟨rfl, hb0⟩
  have kA : BlkW W0 w.heap.size a0 a1 a2 a3 := (((Blk.new' (by simp)).alloc _).alloc _).below hb0 (by simp <;> omega)
  have kB : BlkW W0 (w.heap.size + 1) b0 b1 b2 b3 := ((Blk.new' (by simp)).alloc _).below hb0 (by simp <;> omega)
  have kR : BlkW W0 (w.heap.size + 1 + 1) 0 0 0 0 := (Blk.new' (by simp)).below hb0 (by simp <;> omega)
  have d0 : Below w.heap.size w W0 := chain (chainA (chainA (chain0 _ _) _) _) hb0
  have hz' : w.heap.size + 1 + 1 < W0.heap.size := by have := hb0.size; simp at this; omega
  clear hb0
  generalize hcc : cmpN (val a0 a1 a2 a3) (val b0 b1 b2 b3) = cc at *
  have HCC := Lib.hid hcc
  clear hcc
  by_cases hneg : cc < 0
  · have hlt : val a0 a1 a2 a3 < val b0 b1 b2 b3 := HC.out.1 hneg
    have HL := Lib.hid hlt
    clear hlt
    have c20 : W0.cell? ⟨w.heap.size + 1 + 1, 0, none⟩ = some (.int .u64 ((0 : Nat) : Int)) := kR.cell 0
    have f20 := kR.frozen 0
    have c21 : W0.cell? ⟨w.heap.size + 1 + 1, 1, none⟩ = some (.int .u64 ((0 : Nat) : Int)) := kR.cell 1
    have f21 := kR.frozen 1
    have c22 : W0.cell? ⟨w.heap.size + 1 + 1, 2, none⟩ = some (.int .u64 ((0 : Nat) : Int)) := kR.cell 2
    have f22 := kR.frozen 2
    have c23 : W0.cell? ⟨w.heap.size + 1 + 1, 3, none⟩ = some (.int .u64 ((0 : Nat) : Int)) := kR.cell 3
    have f23 := kR.frozen 3
    go_wp2
    have kR' := (((kR.set 0 (.int .u64 0)).set 1 (.int .u64 0)).set 2 (.int .u64 0)).set 3 (.int .u64 0)
    have r0 := kR'.cell 0
    have r1 := kR'.cell 1
    have r2 := kR'.cell 2
    have r3 := kR'.cell 3
    simp only [List.set_cons_zero, List.set_cons_succ, List.getElem?_cons_zero, List.getElem?_cons_succ] at r0 r1 r2 r3
    have hB' := (((d0.setCell (p := ⟨w.heap.size + 1 + 1, 0, none⟩) (by simp; omega) (.int .u64 0)).setCell (p := ⟨w.heap.size + 1 + 1, 1, none⟩) (by simp; omega) (.int .u64 0)).setCell (p := ⟨w.heap.size + 1 + 1, 2, none⟩) (by simp; omega) (.int .u64 0)).setCell (p := ⟨w.heap.size + 1 + 1, 3, none⟩) (by simp; omega) (.int .u64 0)
    exact bodyPost_ret (v := .tuple #[wv 0 0 0 0, .bool false]) (by simp [results, Try.f14, go_sem, r0, r1, r2, r3]) rfl (.inr ⟨HL.out, rfl, hB'⟩)
  have hge : val b0 b1 b2 b3 ≤ val a0 a1 a2 a3 := by have := HC.out; omega
  have HGE := Lib.hid hge
  clear hge
  obtain ⟨x0, x1, x2, x3⟩ := kA.c4
  obtain ⟨y0, y1, y2, y3⟩ := kB.c4
  go_wp2_with fail
  go_region_held3 (fun W => W.cell? ⟨w.heap.size, 0, none⟩ = some (.int .u64 (a0 : Int)) ∧ W.cell? ⟨w.heap.size, 1, none⟩ = some (.int .u64 (a1 : Int)) ∧ W.cell? ⟨w.heap.size, 2, none⟩ = some (.int .u64 (a2 : Int)) ∧ W.cell? ⟨w.heap.size, 3, none⟩ = some (.int .u64 (a3 : Int)) ∧
      W.cell? ⟨w.heap.size + 1, 0, none⟩ = some (.int .u64 (b0 : Int)) ∧ W.cell? ⟨w.heap.size + 1, 1, none⟩ = some (.int .u64 (b1 : Int)) ∧ W.cell? ⟨w.heap.size + 1, 2, none⟩ = some (.int .u64 (b2 : Int)) ∧ W.cell? ⟨w.heap.size + 1, 3, none⟩ = some (.int .u64 (b3 : Int)))
    (first | go_keep | (refine ⟨?_, ?_, ?_, ?_, ?_, ?_, ?_, ?_⟩ <;> assumption))
    (first | (go_at_call 15; refine (digits_any (by first | exact ha | exact hb) _).mono ?_; rintro e W1 ⟨g1, p1, rfl, hg1, hl1, hn1, hb1⟩; have z1 := hb1.size; (try simp only [World.size_drew] at z1); have u00 := (hb1.cell (p := ⟨w.heap.size, 0, none⟩) (by simp; omega)).trans (by assumption); have u01 := (hb1.cell (p := ⟨w.heap.size, 1, none⟩) (by simp; omega)).trans (by assumption); have u02 := (hb1.cell (p := ⟨w.heap.size, 2, none⟩) (by simp; omega)).trans (by assumption); have u03 := (hb1.cell (p := ⟨w.heap.size, 3, none⟩) (by simp; omega)).trans (by assumption); have u10 := (hb1.cell (p := ⟨w.heap.size + 1, 0, none⟩) (by simp; omega)).trans (by assumption); have u11 := (hb1.cell (p := ⟨w.heap.size + 1, 1, none⟩) (by simp; omega)).trans (by assumption); have u12 := (hb1.cell (p := ⟨w.heap.size + 1, 2, none⟩) (by simp; omega)).trans (by assumption); have u13 := (hb1.cell (p := ⟨w.heap.size + 1, 3, none⟩) (by simp; omega)).trans (by assumption)))
  rename_i V1 g0 p0 hg0 hl0 hn0 hb0 z0 t0 t1 t2 t3 t4 t5 t6 t7 t8
  have d1 : Below w.heap.size w W1 := chain (chain d0.drew hb0) hb1
  have nx := hn0.below hb1 hl0
  have ny := hn1
  replace kR : BlkW W1 (w.heap.size + 1 + 1) 0 0 0 0 := (Blk.below (W := W0.drew) kR hb0 (by simp; omega)).below hb1 (by omega)
  have hg0' : g0 < W1.heap.size := by omega
  have hcy := bwS_le (dg a0 a1 a2 a3) (dg b0 b1 b2 b3)
  have nA := nv_dg ha
  have nB := nv_dg hb
  clear x0 x1 x2 x3 y0 y1 y2 y3 t0 t1 t2 t3 t4 t5 t6 t7 t8 u00 u01 u02 u03 u10 u11 u12 u13 kA kB hn0 hn1 hb0 hb1
  generalize hA : dg a0 a1 a2 a3 = xs at *
  generalize hB : dg b0 b1 b2 b3 = ys at *
  have HA := Lib.hid hA
  have HB := Lib.hid hB
  have NA := Lib.hid nA
  have NB := Lib.hid nB
  clear hA hB nA nB
  have hxs : ∀ k, xs k < 65536 := fun k => by rw [← HA.out]; exact dg_lt _ _ _ _ k
  have hys : ∀ k, ys k < 65536 := fun k => by rw [← HB.out]; exact dg_lt _ _ _ _ k
  have hsl := sdS_lt hxs hys
  go_wp2
  go_loopw [8, 9, 10] (fun v c i wr => ∃ k : Nat, k ≤ 16 ∧ i = .int .i64 k ∧ c = .int .i64 (bwS xs ys k : Nat) ∧ OR wr W1.heap.size v k (sdS xs ys) ∧ Below W1.heap.size W1 wr ∧ W1.heap.size ≤ wr.heap.size) (fun _ _ i _ => 16 - (intOf i).toNat)
  case atStart => exact ⟨0, by omega, rfl, rfl, OR.nil _ _ _, Below.refl _ _, Nat.le_refl _⟩
  case round =>
    obtain ⟨k, hk, rfl, rfl, hown, hbel, hsz⟩ := hrel
    by_cases hlt : k < 16
    · have hk' : (k : Int) < 16 := by omega
      have hx := (nx.below hbel hg0') k hlt
      have hy := (ny.below hbel hl1) k hlt
      have bx := hxs k
      have bY := hys k
      have bc := hcy k
      have hs : sdS xs ys k = if xs k < ys k + bwS xs ys k then xs k + 65536 - ys k - bwS xs ys k else xs k - ys k - bwS xs ys k := rfl
      have hc1 : bwS xs ys (k + 1) = if xs k < ys k + bwS xs ys k then 1 else 0 := rfl
      have HS := Lib.hid hs
      have HCY := Lib.hid hc1
      clear hs hc1
      generalize bwS xs ys k = c at *
      generalize xs k = x at *
      generalize ys k = y at *
      have hk0 : (0 : Int) ≤ (k : Int) := by omega
      have l1 : IntKind.i64.wrap ((x : Int) - (y : Int)) = (x : Int) - (y : Int) := IntWalk.i64_in _ (by omega)
      have l2 : IntKind.i64.wrap ((x : Int) - (y : Int) - (c : Int)) = (x : Int) - (y : Int) - (c : Int) := IntWalk.i64_in _ (by omega)
      go_wp2_with fail
      go_quiet (fail)
      clear l1 l2
      replace hown : OR (wr.drewN nq) W1.heap.size _ k (sdS xs ys) := hown
      replace hbel : Below W1.heap.size W1 (wr.drewN nq) := hbel.trans ⟨rfl, rfl, rfl, Nat.le_refl _, fun _ _ => rfl⟩
      replace hsz : W1.heap.size ≤ (wr.drewN nq).heap.size := hsz
      clear hx hy
      generalize wr.drewN nq = wq at *
      by_cases hbo : x < y + c
      · have hbo' : (x : Int) - (y : Int) - (c : Int) < 0 := by omega
        go_wp2_with (at_builtin; refine wpList_append_own _ rfl _ _ 36 rfl W1.heap.size 3 i0 (.int .i64 0) 1 8 Try.underlying36 hi hz0 hz1 hz2 rfl (by decide) _ _ _ rfl (hown.out.alloc _) ⟨wq.heap.size, 0, none⟩ 1 1 [.int .i64 ((x : Int) - (y : Int) - (c : Int) + 65536)] rfl rfl (cell_one_new _ _ _) (by simp [Value.oneCell']) (by unfold maxLen; omega) (by omega) (by simp; omega) ?_; intro v' w1 hown' hgrow _)
        obtain ⟨h1, h2, h3⟩ := hown.grown hsz hown' hgrow (by rw [HS.out, if_pos hbo]; omega)
        exact ⟨⟨k + 1, by omega, by simp, by rw [HCY.out, if_pos hbo]; simp, h1, hbel.trans h3, h2⟩, by simp [intOf]; omega⟩
      · have hbo' : ¬ (x : Int) - (y : Int) - (c : Int) < 0 := by omega
        go_wp2_with (at_builtin; refine wpList_append_own _ rfl _ _ 36 rfl W1.heap.size 3 i0 (.int .i64 0) 1 8 Try.underlying36 hi hz0 hz1 hz2 rfl (by decide) _ _ _ rfl (hown.out.alloc _) ⟨wq.heap.size, 0, none⟩ 1 1 [.int .i64 ((x : Int) - (y : Int) - (c : Int))] rfl rfl (cell_one_new _ _ _) (by simp [Value.oneCell']) (by unfold maxLen; omega) (by omega) (by simp; omega) ?_; intro v' w1 hown' hgrow _)
        obtain ⟨h1, h2, h3⟩ := hown.grown hsz hown' hgrow (by rw [HS.out, if_neg hbo]; omega)
        exact ⟨⟨k + 1, by omega, by simp, by rw [HCY.out, if_neg hbo]; simp, h1, hbel.trans h3, h2⟩, by simp [intOf]; omega⟩
    · obtain rfl : k = 16 := by omega
      obtain ⟨g, cp, rfl, hgb, hglt, hnums⟩ := hown.nums (by omega)
      go_wp2_with fail
      refine (made_any 16 cp g (sdS xs ys) (by omega) (fun k _ => hsl k) _ hglt hnums).mono ?_
      have hsum := nv_sub hxs hys 16
      rw [NA.out, NB.out, pow_M4] at hsum
      have HM := Lib.hid hsum
      have hbl := hcy 16
      have HBL := Lib.hid hbl
      clear hsum hbl
      rintro e w2 (⟨⟨i, hi1, hi2, hi3⟩, rfl, hb2⟩ | ⟨hall, rfl, hb2⟩)
      · omega
      · have kR2 : BlkW w2 (w.heap.size + 1 + 1) 0 0 0 0 := (kR.below hbel (by omega)).below hb2 (by omega)
        have d2 : Below w.heap.size w w2 := chain (d1.trans (hbel.mono d1.size)) hb2
        have c20 : w2.cell? ⟨w.heap.size + 1 + 1, 0, none⟩ = some (.int .u64 ((0 : Nat) : Int)) := kR2.cell 0
        have f20 := kR2.frozen 0
        have c21 : w2.cell? ⟨w.heap.size + 1 + 1, 1, none⟩ = some (.int .u64 ((0 : Nat) : Int)) := kR2.cell 1
        have f21 := kR2.frozen 1
        have c22 : w2.cell? ⟨w.heap.size + 1 + 1, 2, none⟩ = some (.int .u64 ((0 : Nat) : Int)) := kR2.cell 2
        have f22 := kR2.frozen 2
        have c23 : w2.cell? ⟨w.heap.size + 1 + 1, 3, none⟩ = some (.int .u64 ((0 : Nat) : Int)) := kR2.cell 3
        have f23 := kR2.frozen 3
        clear hall
        have hok := wdg_ok (f := sdS xs ys) (n := 16) (by omega) (fun k hk => hsl k)
        have hnv := nv_val (sdS xs ys) (n := 16) (by omega)
        have HN := Lib.hid hnv
        clear hnv
        generalize wdg (sdS xs ys) 16 0 = s0 at *
        generalize wdg (sdS xs ys) 16 1 = s1 at *
        generalize wdg (sdS xs ys) 16 2 = s2 at *
        generalize wdg (sdS xs ys) 16 3 = s3 at *
        have hfin : val s0 s1 s2 s3 = val a0 a1 a2 a3 - val b0 b1 b2 b3 := by
          have e1 := HM.out
          have e2 := HBL.out
          have e3 := HGE.out
          rw [← HN.out] at e1
          have h1 := val_lt hok
          have h2 := val_lt hb
          have h3 : bwS xs ys 16 = 0 ∨ bwS xs ys 16 = 1 := by omega
          rcases h3 with h3 | h3
          · rw [h3] at e1; omega
          · rw [h3] at e1; omega
        have HF := Lib.hid hfin
        clear hfin
        go_wp2_with fail
        have kR' := (((kR2.set 0 (.int .u64 (s0 : Nat))).set 1 (.int .u64 (s1 : Nat))).set 2 (.int .u64 (s2 : Nat))).set 3 (.int .u64 (s3 : Nat))
        have r0 := kR'.cell 0
        have r1 := kR'.cell 1
        have r2 := kR'.cell 2
        have r3 := kR'.cell 3
        simp only [List.set_cons_zero, List.set_cons_succ, List.getElem?_cons_zero, List.getElem?_cons_succ] at r0 r1 r2 r3
        have hB' := (((d2.setCell (p := ⟨w.heap.size + 1 + 1, 0, none⟩) (by simp; omega) (.int .u64 (s0 : Nat))).setCell (p := ⟨w.heap.size + 1 + 1, 1, none⟩) (by simp; omega) (.int .u64 (s1 : Nat))).setCell (p := ⟨w.heap.size + 1 + 1, 2, none⟩) (by simp; omega) (.int .u64 (s2 : Nat))).setCell (p := ⟨w.heap.size + 1 + 1, 3, none⟩) (by simp; omega) (.int .u64 (s3 : Nat))
        exact bodyPost_ret (v := .tuple #[wv s0 s1 s2 s3, .bool true]) (by simp [results, Try.f14, go_sem, r0, r1, r2, r3]) rfl (.inl ⟨HGE.out, s0, s1, s2, s3, hok, HF.out, rfl, hB'⟩)

end Go.Proofs.Ytefbkchledfoiaa
