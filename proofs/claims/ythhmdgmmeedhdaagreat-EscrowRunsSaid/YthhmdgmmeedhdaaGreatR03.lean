/-
  The reference's Add adds digit by digit; The reference's Cmp tells which of two numbers is greater; The reference's Sub takes away digit by digit; Sums and differences told by numbers alone: of the program, and of the plain digits; purse: is there such an asset, such a place; how much lies there; Rows of wide numbers: an array's element by value; what is stored into the block that was made last; a
-/
import Derived.Maps.AppendAt
import Derived.IntWalk
import Derived.Deep.QuietTactic
import Derived.Deep.RegionHeld3
import Derived.BigQuiet
import Derived.Outline
import Derived.Test.YthhmdgmmeedhdaaGreatProg
import Derived.WalkLawsBesides
import Derived.Deep.Cut
import Derived.Deep.CutRange
import Derived.Deep.DeepCutAuto
import Derived.Tactics
import Derived.KernelRfl
import Derived.Test.YthhmdgmmeedhdaaGreatR02
namespace Go.Proofs.YthhmdgmmeedhdaaGreat
open Go.RowKit
set_option maxRecDepth 100000 in
set_option maxHeartbeats 4000000 in
theorem refAdd_any {a0 a1 a2 a3 b0 b1 b2 b3 : Nat} (ha : Ok4 a0 a1 a2 a3) (hb : Ok4 b0 b1 b2 b3) (w : World) :
  Calls Tryz.prog 17 #[wv a0 a1 a2 a3, wv b0 b1 b2 b3] w (AddW (val a0 a1 a2 a3 + val b0 b1 b2 b3) w) := by
 obtain ⟨i0, hi, hz0, hz1, hz2⟩ := info_parts Tryz.infoInt
 go_enter Tryz.func17, Tryz.ntmps17
 go_wp2_with fail
 generalize hW0 : World.alloc _ _ = W0
 have kA : BlkW W0 w.heap.size a0 a1 a2 a3 := by rw [← hW0]; exact ((Blk.new' (by simp)).alloc _).alloc _
 have kB : BlkW W0 (w.heap.size + 1) b0 b1 b2 b3 := by rw [← hW0]; exact (Blk.new' (by simp)).alloc _
 have kR : BlkW W0 (w.heap.size + 1 + 1) 0 0 0 0 := by rw [← hW0]; exact Blk.new' (by simp)
 have d0 : Below w.heap.size w W0 := by rw [← hW0]; exact chainA (chainA (chain0 _ _) _) _
 have hz : W0.heap.size = w.heap.size + 1 + 1 + 1 := by rw [← hW0]; simp
 have HZ := Lib.hid hz
 have hz' : w.heap.size + 1 + 1 < W0.heap.size := by omega
 clear hW0 hz
 obtain ⟨x0, x1, x2, x3⟩ := kA.c4
 obtain ⟨y0, y1, y2, y3⟩ := kB.c4
 go_region_held3 (fun W => W.cell? ⟨w.heap.size, 0, none⟩ = some (.int .u64 (a0 : Int)) ∧ W.cell? ⟨w.heap.size, 1, none⟩ = some (.int .u64 (a1 : Int)) ∧ W.cell? ⟨w.heap.size, 2, none⟩ = some (.int .u64 (a2 : Int)) ∧ W.cell? ⟨w.heap.size, 3, none⟩ = some (.int .u64 (a3 : Int)) ∧
   W.cell? ⟨w.heap.size + 1, 0, none⟩ = some (.int .u64 (b0 : Int)) ∧ W.cell? ⟨w.heap.size + 1, 1, none⟩ = some (.int .u64 (b1 : Int)) ∧ W.cell? ⟨w.heap.size + 1, 2, none⟩ = some (.int .u64 (b2 : Int)) ∧ W.cell? ⟨w.heap.size + 1, 3, none⟩ = some (.int .u64 (b3 : Int)))
  (first | go_keep | (refine ⟨?_, ?_, ?_, ?_, ?_, ?_, ?_, ?_⟩ <;> assumption))
  (first | (go_at_call 41; refine (digits_any (by first | exact ha | exact hb) _).mono ?_; rintro e W1 ⟨g1, p1, rfl, hg1, hl1, hn1, hb1⟩; have z1 := hb1.size; (try simp only [World.size_drew] at z1); have u00 := (hb1.cell (p := ⟨w.heap.size, 0, none⟩) (by simp; omega)).trans (by assumption); have u01 := (hb1.cell (p := ⟨w.heap.size, 1, none⟩) (by simp; omega)).trans (by assumption); have u02 := (hb1.cell (p := ⟨w.heap.size, 2, none⟩) (by simp; omega)).trans (by assumption); have u03 := (hb1.cell (p := ⟨w.heap.size, 3, none⟩) (by simp; omega)).trans (by assumption); have u10 := (hb1.cell (p := ⟨w.heap.size + 1, 0, none⟩) (by simp; omega)).trans (by assumption); have u11 := (hb1.cell (p := ⟨w.heap.size + 1, 1, none⟩) (by simp; omega)).trans (by assumption); have u12 := (hb1.cell (p := ⟨w.heap.size + 1, 2, none⟩) (by simp; omega)).trans (by assumption); have u13 := (hb1.cell (p := ⟨w.heap.size + 1, 3, none⟩) (by simp; omega)).trans (by assumption)))
 rename_i V1 g0 p0 hg0 hl0 hn0 hb0 z0 t0 t1 t2 t3 t4 t5 t6 t7 t8
 have d1 : Below w.heap.size w W1 := chain (chain d0.drew hb0) hb1
 have nx := hn0.below hb1 hl0
 have ny := hn1
 replace kR : BlkW W1 (w.heap.size + 1 + 1) 0 0 0 0 := (Blk.below (W := W0.drew) kR hb0 (by simp; omega)).below hb1 (by omega)
 have hg0' : g0 < W1.heap.size := by omega
 have hcy := cyA_le (dg_lt a0 a1 a2 a3) (dg_lt b0 b1 b2 b3)
 clear x0 x1 x2 x3 y0 y1 y2 y3 t0 t1 t2 t3 t4 t5 t6 t7 t8 u00 u01 u02 u03 u10 u11 u12 u13 kA kB hn0 hn1 hb0 hb1
 generalize hA : dg a0 a1 a2 a3 = xs at *
 generalize hB : dg b0 b1 b2 b3 = ys at *
 have HA := Lib.hid hA
 have HB := Lib.hid hB
 clear hA hB
 have hxs : ∀ k, xs k < 65536 := fun k => by rw [← HA.out]; exact dg_lt _ _ _ _ k
 have hys : ∀ k, ys k < 65536 := fun k => by rw [← HB.out]; exact dg_lt _ _ _ _ k
 go_wp2
 go_loopw [8, 9, 10] (fun v c i wr => ∃ k : Nat, k ≤ 16 ∧ i = .int .i64 k ∧ c = .int .i64 (cyA xs ys k : Nat) ∧ OR wr W1.heap.size v k (sdA xs ys) ∧ Below W1.heap.size W1 wr ∧ W1.heap.size ≤ wr.heap.size) (fun _ _ i _ => 16 - (intOf i).toNat)
 case atStart => exact ⟨0, by omega, rfl, rfl, OR.nil _ _ _, Below.refl _ _, Nat.le_refl _⟩
 case round =>
  obtain ⟨k, hk, rfl, rfl, hown, hbel, hsz⟩ := hrel
  by_cases hlt : k < 16
  ·
   have hk' : (k : Int) < 16 := by omega
   have hx := (nx.below hbel hg0') k hlt
   have hy := (ny.below hbel hl1) k hlt
   have bx := hxs k
   have bY := hys k
   have bc := hcy k
   have hs : sdA xs ys k = (cyA xs ys k + xs k + ys k) % 65536 := by unfold sdA; rw [if_neg (by omega)]
   have hc1 : cyA xs ys (k + 1) = (cyA xs ys k + xs k + ys k) / 65536 := rfl
   have HS := Lib.hid hs
   have HC := Lib.hid hc1
   clear hs hc1
   generalize cyA xs ys k = c at *
   generalize xs k = x at *
   generalize ys k = y at *
   have hk0 : (0 : Int) ≤ (k : Int) := by omega
   have l1 : IntKind.i64.wrap ((c : Int) + (x : Int)) = (c : Int) + (x : Int) := IntWalk.i64_in _ (by omega)
   have l2 : IntKind.i64.wrap ((c : Int) + (x : Int) + (y : Int)) = (c : Int) + (x : Int) + (y : Int) := IntWalk.i64_in _ (by omega)
   go_wp2_with fail
   go_quiet (fail)
   clear l1 l2
   replace hown : OR (wr.drewN nq) W1.heap.size _ k (sdA xs ys) := hown
   replace hbel : Below W1.heap.size W1 (wr.drewN nq) := hbel.trans ⟨rfl, rfl, rfl, Nat.le_refl _, fun _ _ => rfl⟩
   replace hsz : W1.heap.size ≤ (wr.drewN nq).heap.size := hsz
   clear hx hy
   generalize wr.drewN nq = wq at *
   go_wp2_with (at_builtin; refine wpList_append_own _ rfl _ _ 23 rfl W1.heap.size 3 i0 (.int .i64 0) 1 8 Tryz.underlying23 hi hz0 hz1 hz2 rfl (by decide) _ _ _ rfl (hown.out.alloc _) ⟨wq.heap.size, 0, none⟩ 1 1 [.int .i64 (((c : Int) + (x : Int) + (y : Int)) % 65536)] rfl rfl (cell_one_new _ _ _) (by simp [Value.oneCell']) (by unfold maxLen; omega) (by omega) (by simp; omega) ?_; intro v' w1 hown' hgrow _)
   obtain ⟨h1, h2, h3⟩ := hown.grown hsz hown' hgrow (by rw [HS.out]; omega)
   exact ⟨⟨k + 1, by omega, by simp, by rw [HC.out]; simp, h1, hbel.trans h3, h2⟩, by simp [intOf]; omega⟩
  ·
   obtain rfl : k = 16 := by omega
   have hf16 : sdA xs ys 16 = cyA xs ys 16 := by unfold sdA; rw [if_pos rfl]
   have bc := hcy 16
   have HF := Lib.hid hf16
   clear hf16
   generalize hcg : cyA xs ys 16 = c at *
   have HG := Lib.hid hcg
   clear hcg
   go_wp2_with (at_builtin; refine wpList_append_own _ rfl _ _ 23 rfl W1.heap.size 3 i0 (.int .i64 0) 1 8 Tryz.underlying23 hi hz0 hz1 hz2 rfl (by decide) _ _ _ rfl (hown.out.alloc _) ⟨wr.heap.size, 0, none⟩ 1 1 [.int .i64 (c : Int)] rfl rfl (cell_one_new _ _ _) (by simp [Value.oneCell']) (by unfold maxLen; omega) (by omega) (by simp; omega) ?_; intro v' w1 hown' hgrow _)
   obtain ⟨h1, h2, h3⟩ := hown.grown hsz hown' hgrow (by rw [HF.out])
   obtain ⟨g, cp, rfl, hgb, hglt, hnums⟩ := h1.nums (by omega)
   have hd16 : ∀ k, k < 17 → sdA xs ys k < 65536 := fun k hk => by
    by_cases e : k = 16
    ·
     rw [e, HF.out]; omega
    ·
     unfold sdA; rw [if_neg e]; exact Nat.mod_lt _ (by omega)
   refine (made_any 17 cp g (sdA xs ys) (by omega) hd16 _ hglt hnums).mono ?_
   have hsum := sum_digits ha hb
   rw [HA.out, HB.out, HG.out] at hsum
   have HM := Lib.hid hsum
   clear hsum
   have hle := hbel.trans h3
   rintro e w2 (⟨⟨i, hi1, hi2, hi3⟩, rfl, hb2⟩ | ⟨hall, rfl, hb2⟩)
   ·
    have kR2 : BlkW w2 (w.heap.size + 1 + 1) 0 0 0 0 := (kR.below hle (by omega)).below hb2 (by omega)
    have d2 : Below w.heap.size w w2 := chain (d1.trans (hle.mono d1.size)) hb2
    have c20 : w2.cell? ⟨w.heap.size + 1 + 1, 0, none⟩ = some (.int .u64 ((0 : Nat) : Int)) := kR2.cell 0
    have f20 := kR2.frozen 0
    have c21 : w2.cell? ⟨w.heap.size + 1 + 1, 1, none⟩ = some (.int .u64 ((0 : Nat) : Int)) := kR2.cell 1
    have f21 := kR2.frozen 1
    have c22 : w2.cell? ⟨w.heap.size + 1 + 1, 2, none⟩ = some (.int .u64 ((0 : Nat) : Int)) := kR2.cell 2
    have f22 := kR2.frozen 2
    have c23 : w2.cell? ⟨w.heap.size + 1 + 1, 3, none⟩ = some (.int .u64 ((0 : Nat) : Int)) := kR2.cell 3
    have f23 := kR2.frozen 3
    have hi16 : i = 16 := by omega
    rw [hi16, HF.out] at hi3
    have H3 := Lib.hid hi3
    clear hi16 hi3
    go_wp2_with fail
    have kR' := (((kR2.set 0 (.int .u64 0)).set 1 (.int .u64 0)).set 2 (.int .u64 0)).set 3 (.int .u64 0)
    have r0 := kR'.cell 0
    have r1 := kR'.cell 1
    have r2 := kR'.cell 2
    have r3 := kR'.cell 3
    simp only [List.set_cons_zero, List.set_cons_succ, List.getElem?_cons_zero, List.getElem?_cons_succ] at r0 r1 r2 r3
    have hB' := (((d2.setCell (p := ⟨w.heap.size + 1 + 1, 0, none⟩) (by simp; omega) (.int .u64 0)).setCell (p := ⟨w.heap.size + 1 + 1, 1, none⟩) (by simp; omega) (.int .u64 0)).setCell (p := ⟨w.heap.size + 1 + 1, 2, none⟩) (by simp; omega) (.int .u64 0)).setCell (p := ⟨w.heap.size + 1 + 1, 3, none⟩) (by simp; omega) (.int .u64 0)
    exact bodyPost_ret (v := .tuple #[wv 0 0 0 0, .bool false]) (by simp [results, Tryz.f17, go_sem, r0, r1, r2, r3]) rfl (by have e1 := HM.out; have e2 := H3.out; have e3 : c = 1 := (by omega); rw [e3] at e1; exact .inr ⟨by omega, rfl, hB'⟩)
   ·
    have kR2 : BlkW w2 (w.heap.size + 1 + 1) 0 0 0 0 := (kR.below hle (by omega)).below hb2 (by omega)
    have d2 : Below w.heap.size w w2 := chain (d1.trans (hle.mono d1.size)) hb2
    have c20 : w2.cell? ⟨w.heap.size + 1 + 1, 0, none⟩ = some (.int .u64 ((0 : Nat) : Int)) := kR2.cell 0
    have f20 := kR2.frozen 0
    have c21 : w2.cell? ⟨w.heap.size + 1 + 1, 1, none⟩ = some (.int .u64 ((0 : Nat) : Int)) := kR2.cell 1
    have f21 := kR2.frozen 1
    have c22 : w2.cell? ⟨w.heap.size + 1 + 1, 2, none⟩ = some (.int .u64 ((0 : Nat) : Int)) := kR2.cell 2
    have f22 := kR2.frozen 2
    have c23 : w2.cell? ⟨w.heap.size + 1 + 1, 3, none⟩ = some (.int .u64 ((0 : Nat) : Int)) := kR2.cell 3
    have f23 := kR2.frozen 3
    have h16 := hall 16 (by omega) (by omega)
    rw [HF.out] at h16
    have H16 := Lib.hid h16
    clear h16
    have HALL := Lib.hid hall
    clear hall
    have hok := wdg_ok (f := sdA xs ys) (n := 17) (by omega) (fun k hk => hd16 k (by omega))
    have hnv := nv_val (sdA xs ys) (n := 17) (by omega)
    have HN := Lib.hid hnv
    clear hnv
    generalize wdg (sdA xs ys) 17 0 = s0 at *
    generalize wdg (sdA xs ys) 17 1 = s1 at *
    generalize wdg (sdA xs ys) 17 2 = s2 at *
    generalize wdg (sdA xs ys) 17 3 = s3 at *
    go_wp2_with fail
    have kR' := (((kR2.set 0 (.int .u64 (s0 : Nat))).set 1 (.int .u64 (s1 : Nat))).set 2 (.int .u64 (s2 : Nat))).set 3 (.int .u64 (s3 : Nat))
    have r0 := kR'.cell 0
    have r1 := kR'.cell 1
    have r2 := kR'.cell 2
    have r3 := kR'.cell 3
    simp only [List.set_cons_zero, List.set_cons_succ, List.getElem?_cons_zero, List.getElem?_cons_succ] at r0 r1 r2 r3
    have hB' := (((d2.setCell (p := ⟨w.heap.size + 1 + 1, 0, none⟩) (by simp; omega) (.int .u64 (s0 : Nat))).setCell (p := ⟨w.heap.size + 1 + 1, 1, none⟩) (by simp; omega) (.int .u64 (s1 : Nat))).setCell (p := ⟨w.heap.size + 1 + 1, 2, none⟩) (by simp; omega) (.int .u64 (s2 : Nat))).setCell (p := ⟨w.heap.size + 1 + 1, 3, none⟩) (by simp; omega) (.int .u64 (s3 : Nat))
    exact bodyPost_ret (v := .tuple #[wv s0 s1 s2 s3, .bool true]) (by simp [results, Tryz.f17, go_sem, r0, r1, r2, r3]) rfl (by have e1 := HM.out; rw [H16.out, ← HN.out] at e1; have hv := val_lt hok; exact .inl ⟨by omega, s0, s1, s2, s3, hok, by omega, rfl, hB'⟩)
end Go.Proofs.YthhmdgmmeedhdaaGreat
namespace Go.Proofs.YthhmdgmmeedhdaaGreat
open Go.RowKit
set_option maxRecDepth 100000 in
set_option maxHeartbeats 4000000 in
theorem refCmp_any {a0 a1 a2 a3 b0 b1 b2 b3 : Nat} (ha : Ok4 a0 a1 a2 a3) (hb : Ok4 b0 b1 b2 b3) (w : World) :
  Calls Tryz.prog 43 #[wv a0 a1 a2 a3, wv b0 b1 b2 b3] w fun e W' => e = .returned (.int .i64 (cmpN (val a0 a1 a2 a3) (val b0 b1 b2 b3))) ∧ Below w.heap.size w W' := by
 go_enter Tryz.func43, Tryz.ntmps43
 go_wp2_with fail
 generalize hW0 : World.alloc _ _ = W0
 have kA : BlkW W0 w.heap.size a0 a1 a2 a3 := by rw [← hW0]; exact (Blk.new' (by simp)).alloc _
 have kB : BlkW W0 (w.heap.size + 1) b0 b1 b2 b3 := by rw [← hW0]; exact Blk.new' (by simp)
 have d0 : Below w.heap.size w W0 := by rw [← hW0]; exact chainA (chain0 _ _) _
 have hz' : w.heap.size + 1 < W0.heap.size := by rw [← hW0]; simp
 clear hW0
 obtain ⟨x0, x1, x2, x3⟩ := kA.c4
 obtain ⟨y0, y1, y2, y3⟩ := kB.c4
 go_region_held3 (fun W => W.cell? ⟨w.heap.size, 0, none⟩ = some (.int .u64 (a0 : Int)) ∧ W.cell? ⟨w.heap.size, 1, none⟩ = some (.int .u64 (a1 : Int)) ∧ W.cell? ⟨w.heap.size, 2, none⟩ = some (.int .u64 (a2 : Int)) ∧ W.cell? ⟨w.heap.size, 3, none⟩ = some (.int .u64 (a3 : Int)) ∧
   W.cell? ⟨w.heap.size + 1, 0, none⟩ = some (.int .u64 (b0 : Int)) ∧ W.cell? ⟨w.heap.size + 1, 1, none⟩ = some (.int .u64 (b1 : Int)) ∧ W.cell? ⟨w.heap.size + 1, 2, none⟩ = some (.int .u64 (b2 : Int)) ∧ W.cell? ⟨w.heap.size + 1, 3, none⟩ = some (.int .u64 (b3 : Int)))
  (first | go_keep | (refine ⟨?_, ?_, ?_, ?_, ?_, ?_, ?_, ?_⟩ <;> assumption))
  (first | (go_at_call 41; refine (digits_any (by first | exact ha | exact hb) _).mono ?_; rintro e W1 ⟨g1, p1, rfl, hg1, hl1, hn1, hb1⟩; have z1 := hb1.size; (try simp only [World.size_drew] at z1); have u00 := (hb1.cell (p := ⟨w.heap.size, 0, none⟩) (by simp; omega)).trans (by assumption); have u01 := (hb1.cell (p := ⟨w.heap.size, 1, none⟩) (by simp; omega)).trans (by assumption); have u02 := (hb1.cell (p := ⟨w.heap.size, 2, none⟩) (by simp; omega)).trans (by assumption); have u03 := (hb1.cell (p := ⟨w.heap.size, 3, none⟩) (by simp; omega)).trans (by assumption); have u10 := (hb1.cell (p := ⟨w.heap.size + 1, 0, none⟩) (by simp; omega)).trans (by assumption); have u11 := (hb1.cell (p := ⟨w.heap.size + 1, 1, none⟩) (by simp; omega)).trans (by assumption); have u12 := (hb1.cell (p := ⟨w.heap.size + 1, 2, none⟩) (by simp; omega)).trans (by assumption); have u13 := (hb1.cell (p := ⟨w.heap.size + 1, 3, none⟩) (by simp; omega)).trans (by assumption)))
 rename_i V1 g0 p0 hg0 hl0 hn0 hb0 z0 t0 t1 t2 t3 t4 t5 t6 t7 t8
 have d1 : Below w.heap.size w W1 := chain (chain d0.drew hb0) hb1
 have nx := hn0.below hb1 hl0
 have ny := hn1
 have hg0' : g0 < W1.heap.size := by omega
 have nA := nv_dg ha
 have nB := nv_dg hb
 clear x0 x1 x2 x3 y0 y1 y2 y3 t0 t1 t2 t3 t4 t5 t6 t7 t8 u00 u01 u02 u03 u10 u11 u12 u13 kA kB hn0 hn1 hb0 hb1
 generalize hA : dg a0 a1 a2 a3 = xs at *
 generalize hB : dg b0 b1 b2 b3 = ys at *
 have HA := Lib.hid hA
 have HB := Lib.hid hB
 have NA := Lib.hid nA
 have NB := Lib.hid nB
 clear hA hB nA nB
 have hxs : ∀ k, xs k < 65536 := fun k => by rw [← HA.out]; exact dg_lt _ _ _ _ k
 have hys : ∀ k, ys k < 65536 := fun k => by rw [← HB.out]; exact dg_lt _ _ _ _ k
 go_wp2
 go_loopw [7] (fun i wr => ∃ k : Nat, k ≤ 16 ∧ i = .int .i64 (15 - (k : Int)) ∧ (∀ t, t < 16 → 16 ≤ t + k → xs t = ys t) ∧ Below W1.heap.size W1 wr) (fun i _ => ((intOf i) + 1).toNat)
 case atStart => exact ⟨0, by omega, rfl, fun t h1 h2 => by omega, Below.refl _ _⟩
 case round =>
  obtain ⟨k, hk, rfl, hsame, hbel⟩ := hrel
  have HS := Lib.hid hsame
  clear hsame
  by_cases hlt : k < 16
  ·
   obtain ⟨j, hj⟩ : ∃ j, j + k = 15 := ⟨15 - k, by omega⟩
   have hj16 : j < 16 := by omega
   have hji : (15 : Int) - (k : Int) = (j : Int) := by omega
   have hx := (nx.below hbel hg0') j hj16
   have hy := (ny.below hbel hl1) j hj16
   have bx := hxs j
   have bY := hys j
   rw [hji]
   have hj0 : (0 : Int) ≤ (j : Int) := by omega
   have hj1 : (j : Int) < 16 := by omega
   have HJ := Lib.hid hji
   clear hji
   have d2 : ∀ q, Below w.heap.size w (wr.drewN q) := fun q => (d1.trans (hbel.mono d1.size)).trans ⟨rfl, rfl, rfl, Nat.le_refl _, fun _ _ => rfl⟩
   have hlow : xs j < ys j → cmpN (val a0 a1 a2 a3) (val b0 b1 b2 b3) = -1 := fun h => by
    have := nv_less hxs h 16 hj16 (fun t h1 h2 => HS.out t h2 (by omega))
    rw [NA.out, NB.out] at this
    unfold cmpN; rw [if_pos this]
   have hhigh : ys j < xs j → cmpN (val a0 a1 a2 a3) (val b0 b1 b2 b3) = 1 := fun h => by
    have := nv_less hys h 16 hj16 (fun t h1 h2 => (HS.out t h2 (by omega)).symm)
    rw [NA.out, NB.out] at this
    unfold cmpN; rw [if_neg (by omega), if_pos this]
   have HLOW := Lib.hid hlow
   have HHIGH := Lib.hid hhigh
   clear hlow hhigh
   have HEQ : Hid (∀ e : xs j = ys j, ∀ t, t < 16 → 16 ≤ t + (k + 1) → xs t = ys t) := Lib.hid (fun e t h1 h2 => by
    by_cases ht : t = j
    ·
     rw [ht]; exact e
    ·
     exact HS.out t h1 (by omega))
   generalize xs j = x at *
   generalize ys j = y at *
   rcases Nat.lt_trichotomy x y with hxy | hxy | hxy
   ·
    have hxy' : (x : Int) < (y : Int) := by omega
    have HC := Lib.hid (HLOW.out hxy)
    go_wp2_with fail
    go_quiet (fail)
    go_wp2
    go_ret
    exact ⟨by rw [HC.out]; rfl, d2 _⟩
   ·
    have h1 : ¬ (x : Int) < (y : Int) := by omega
    have h2 : ¬ (y : Int) < (x : Int) := by omega
    have HE := Lib.hid (HEQ.out hxy)
    clear hxy
    go_wp2_with fail
    go_quiet (fail)
    go_wp2_with fail
    go_quiet (fail)
    go_wp2
    exact ⟨⟨k + 1, by omega, by rw [show (j : Int) - 1 = 15 - ((k + 1 : Nat) : Int) by omega], HE.out, hbel.trans ⟨rfl, rfl, rfl, Nat.le_refl _, fun _ _ => rfl⟩⟩, by simp [intOf]⟩
   ·
    have h1 : ¬ (x : Int) < (y : Int) := by omega
    have h2 : (y : Int) < (x : Int) := by omega
    have HC := Lib.hid (HHIGH.out hxy)
    go_wp2_with fail
    go_quiet (fail)
    go_wp2_with fail
    go_quiet (fail)
    go_wp2
    go_ret
    exact ⟨by rw [HC.out]; rfl, (d2 0).trans ⟨rfl, rfl, rfl, Nat.le_refl _, fun _ _ => rfl⟩⟩
  ·
   obtain rfl : k = 16 := by omega
   have e : nv xs 16 = nv ys 16 := nv_congr (fun t ht => HS.out t ht (by omega))
   rw [NA.out, NB.out] at e
   have HC : Hid (cmpN (val a0 a1 a2 a3) (val b0 b1 b2 b3) = 0) := Lib.hid (by unfold cmpN; rw [if_neg (by omega), if_neg (by omega)])
   clear e
   go_wp2
   go_ret
   exact ⟨by rw [HC.out]; rfl, d1.trans (hbel.mono d1.size)⟩
end Go.Proofs.YthhmdgmmeedhdaaGreat
namespace Go.Proofs.YthhmdgmmeedhdaaGreat
open Go.RowKit
set_option maxRecDepth 100000 in
set_option maxHeartbeats 4000000 in
theorem refSub_any {a0 a1 a2 a3 b0 b1 b2 b3 : Nat} (ha : Ok4 a0 a1 a2 a3) (hb : Ok4 b0 b1 b2 b3) (w : World) :
  Calls Tryz.prog 19 #[wv a0 a1 a2 a3, wv b0 b1 b2 b3] w (SubW (val a0 a1 a2 a3) (val b0 b1 b2 b3) w) := by
 obtain ⟨i0, hi, hz0, hz1, hz2⟩ := info_parts Tryz.infoInt
 have hcmp : cmpN (val a0 a1 a2 a3) (val b0 b1 b2 b3) < 0 ↔ val a0 a1 a2 a3 < val b0 b1 b2 b3 := by
  unfold cmpN
  split
  ·
   omega
  ·
   split <;> omega
 have HC := Lib.hid hcmp
 clear hcmp
 go_enter Tryz.func19, Tryz.ntmps19
 go_wp2_with fail
 refine (refCmp_any ha hb _).mono ?_
 rintro e W0 ⟨rfl, hb0⟩
 have kA : BlkW W0 w.heap.size a0 a1 a2 a3 := (((Blk.new' (by simp)).alloc _).alloc _).below hb0 (by simp <;> omega)
 have kB : BlkW W0 (w.heap.size + 1) b0 b1 b2 b3 := ((Blk.new' (by simp)).alloc _).below hb0 (by simp <;> omega)
 have kR : BlkW W0 (w.heap.size + 1 + 1) 0 0 0 0 := (Blk.new' (by simp)).below hb0 (by simp <;> omega)
 have d0 : Below w.heap.size w W0 := chain (chainA (chainA (chain0 _ _) _) _) hb0
 have hz' : w.heap.size + 1 + 1 < W0.heap.size := by have := hb0.size; simp at this; omega
 clear hb0
 generalize hcc : cmpN (val a0 a1 a2 a3) (val b0 b1 b2 b3) = cc at *
 have HCC := Lib.hid hcc
 clear hcc
 by_cases hneg : cc < 0
 ·
  have hlt : val a0 a1 a2 a3 < val b0 b1 b2 b3 := HC.out.1 hneg
  have HL := Lib.hid hlt
  clear hlt
  have c20 : W0.cell? ⟨w.heap.size + 1 + 1, 0, none⟩ = some (.int .u64 ((0 : Nat) : Int)) := kR.cell 0
  have f20 := kR.frozen 0
  have c21 : W0.cell? ⟨w.heap.size + 1 + 1, 1, none⟩ = some (.int .u64 ((0 : Nat) : Int)) := kR.cell 1
  have f21 := kR.frozen 1
  have c22 : W0.cell? ⟨w.heap.size + 1 + 1, 2, none⟩ = some (.int .u64 ((0 : Nat) : Int)) := kR.cell 2
  have f22 := kR.frozen 2
  have c23 : W0.cell? ⟨w.heap.size + 1 + 1, 3, none⟩ = some (.int .u64 ((0 : Nat) : Int)) := kR.cell 3
  have f23 := kR.frozen 3
  go_wp2
  have kR' := (((kR.set 0 (.int .u64 0)).set 1 (.int .u64 0)).set 2 (.int .u64 0)).set 3 (.int .u64 0)
  have r0 := kR'.cell 0
  have r1 := kR'.cell 1
  have r2 := kR'.cell 2
  have r3 := kR'.cell 3
  simp only [List.set_cons_zero, List.set_cons_succ, List.getElem?_cons_zero, List.getElem?_cons_succ] at r0 r1 r2 r3
  have hB' := (((d0.setCell (p := ⟨w.heap.size + 1 + 1, 0, none⟩) (by simp; omega) (.int .u64 0)).setCell (p := ⟨w.heap.size + 1 + 1, 1, none⟩) (by simp; omega) (.int .u64 0)).setCell (p := ⟨w.heap.size + 1 + 1, 2, none⟩) (by simp; omega) (.int .u64 0)).setCell (p := ⟨w.heap.size + 1 + 1, 3, none⟩) (by simp; omega) (.int .u64 0)
  exact bodyPost_ret (v := .tuple #[wv 0 0 0 0, .bool false]) (by simp [results, Tryz.f19, go_sem, r0, r1, r2, r3]) rfl (.inr ⟨HL.out, rfl, hB'⟩)
 have hge : val b0 b1 b2 b3 ≤ val a0 a1 a2 a3 := by have := HC.out; omega
 have HGE := Lib.hid hge
 clear hge
 obtain ⟨x0, x1, x2, x3⟩ := kA.c4
 obtain ⟨y0, y1, y2, y3⟩ := kB.c4
 go_wp2_with fail
 go_region_held3 (fun W => W.cell? ⟨w.heap.size, 0, none⟩ = some (.int .u64 (a0 : Int)) ∧ W.cell? ⟨w.heap.size, 1, none⟩ = some (.int .u64 (a1 : Int)) ∧ W.cell? ⟨w.heap.size, 2, none⟩ = some (.int .u64 (a2 : Int)) ∧ W.cell? ⟨w.heap.size, 3, none⟩ = some (.int .u64 (a3 : Int)) ∧
   W.cell? ⟨w.heap.size + 1, 0, none⟩ = some (.int .u64 (b0 : Int)) ∧ W.cell? ⟨w.heap.size + 1, 1, none⟩ = some (.int .u64 (b1 : Int)) ∧ W.cell? ⟨w.heap.size + 1, 2, none⟩ = some (.int .u64 (b2 : Int)) ∧ W.cell? ⟨w.heap.size + 1, 3, none⟩ = some (.int .u64 (b3 : Int)))
  (first | go_keep | (refine ⟨?_, ?_, ?_, ?_, ?_, ?_, ?_, ?_⟩ <;> assumption))
  (first | (go_at_call 41; refine (digits_any (by first | exact ha | exact hb) _).mono ?_; rintro e W1 ⟨g1, p1, rfl, hg1, hl1, hn1, hb1⟩; have z1 := hb1.size; (try simp only [World.size_drew] at z1); have u00 := (hb1.cell (p := ⟨w.heap.size, 0, none⟩) (by simp; omega)).trans (by assumption); have u01 := (hb1.cell (p := ⟨w.heap.size, 1, none⟩) (by simp; omega)).trans (by assumption); have u02 := (hb1.cell (p := ⟨w.heap.size, 2, none⟩) (by simp; omega)).trans (by assumption); have u03 := (hb1.cell (p := ⟨w.heap.size, 3, none⟩) (by simp; omega)).trans (by assumption); have u10 := (hb1.cell (p := ⟨w.heap.size + 1, 0, none⟩) (by simp; omega)).trans (by assumption); have u11 := (hb1.cell (p := ⟨w.heap.size + 1, 1, none⟩) (by simp; omega)).trans (by assumption); have u12 := (hb1.cell (p := ⟨w.heap.size + 1, 2, none⟩) (by simp; omega)).trans (by assumption); have u13 := (hb1.cell (p := ⟨w.heap.size + 1, 3, none⟩) (by simp; omega)).trans (by assumption)))
 rename_i V1 g0 p0 hg0 hl0 hn0 hb0 z0 t0 t1 t2 t3 t4 t5 t6 t7 t8
 have d1 : Below w.heap.size w W1 := chain (chain d0.drew hb0) hb1
 have nx := hn0.below hb1 hl0
 have ny := hn1
 replace kR : BlkW W1 (w.heap.size + 1 + 1) 0 0 0 0 := (Blk.below (W := W0.drew) kR hb0 (by simp; omega)).below hb1 (by omega)
 have hg0' : g0 < W1.heap.size := by omega
 have hcy := bwS_le (dg a0 a1 a2 a3) (dg b0 b1 b2 b3)
 have nA := nv_dg ha
 have nB := nv_dg hb
 clear x0 x1 x2 x3 y0 y1 y2 y3 t0 t1 t2 t3 t4 t5 t6 t7 t8 u00 u01 u02 u03 u10 u11 u12 u13 kA kB hn0 hn1 hb0 hb1
 generalize hA : dg a0 a1 a2 a3 = xs at *
 generalize hB : dg b0 b1 b2 b3 = ys at *
 have HA := Lib.hid hA
 have HB := Lib.hid hB
 have NA := Lib.hid nA
 have NB := Lib.hid nB
 clear hA hB nA nB
 have hxs : ∀ k, xs k < 65536 := fun k => by rw [← HA.out]; exact dg_lt _ _ _ _ k
 have hys : ∀ k, ys k < 65536 := fun k => by rw [← HB.out]; exact dg_lt _ _ _ _ k
 have hsl := sdS_lt hxs hys
 go_wp2
 go_loopw [8, 9, 10] (fun v c i wr => ∃ k : Nat, k ≤ 16 ∧ i = .int .i64 k ∧ c = .int .i64 (bwS xs ys k : Nat) ∧ OR wr W1.heap.size v k (sdS xs ys) ∧ Below W1.heap.size W1 wr ∧ W1.heap.size ≤ wr.heap.size) (fun _ _ i _ => 16 - (intOf i).toNat)
 case atStart => exact ⟨0, by omega, rfl, rfl, OR.nil _ _ _, Below.refl _ _, Nat.le_refl _⟩
 case round =>
  obtain ⟨k, hk, rfl, rfl, hown, hbel, hsz⟩ := hrel
  by_cases hlt : k < 16
  ·
   have hk' : (k : Int) < 16 := by omega
   have hx := (nx.below hbel hg0') k hlt
   have hy := (ny.below hbel hl1) k hlt
   have bx := hxs k
   have bY := hys k
   have bc := hcy k
   have hs : sdS xs ys k = if xs k < ys k + bwS xs ys k then xs k + 65536 - ys k - bwS xs ys k else xs k - ys k - bwS xs ys k := rfl
   have hc1 : bwS xs ys (k + 1) = if xs k < ys k + bwS xs ys k then 1 else 0 := rfl
   have HS := Lib.hid hs
   have HCY := Lib.hid hc1
   clear hs hc1
   generalize bwS xs ys k = c at *
   generalize xs k = x at *
   generalize ys k = y at *
   have hk0 : (0 : Int) ≤ (k : Int) := by omega
   have l1 : IntKind.i64.wrap ((x : Int) - (y : Int)) = (x : Int) - (y : Int) := IntWalk.i64_in _ (by omega)
   have l2 : IntKind.i64.wrap ((x : Int) - (y : Int) - (c : Int)) = (x : Int) - (y : Int) - (c : Int) := IntWalk.i64_in _ (by omega)
   go_wp2_with fail
   go_quiet (fail)
   clear l1 l2
   replace hown : OR (wr.drewN nq) W1.heap.size _ k (sdS xs ys) := hown
   replace hbel : Below W1.heap.size W1 (wr.drewN nq) := hbel.trans ⟨rfl, rfl, rfl, Nat.le_refl _, fun _ _ => rfl⟩
   replace hsz : W1.heap.size ≤ (wr.drewN nq).heap.size := hsz
   clear hx hy
   generalize wr.drewN nq = wq at *
   by_cases hbo : x < y + c
   ·
    have hbo' : (x : Int) - (y : Int) - (c : Int) < 0 := by omega
    go_wp2_with (at_builtin; refine wpList_append_own _ rfl _ _ 23 rfl W1.heap.size 3 i0 (.int .i64 0) 1 8 Tryz.underlying23 hi hz0 hz1 hz2 rfl (by decide) _ _ _ rfl (hown.out.alloc _) ⟨wq.heap.size, 0, none⟩ 1 1 [.int .i64 ((x : Int) - (y : Int) - (c : Int) + 65536)] rfl rfl (cell_one_new _ _ _) (by simp [Value.oneCell']) (by unfold maxLen; omega) (by omega) (by simp; omega) ?_; intro v' w1 hown' hgrow _)
    obtain ⟨h1, h2, h3⟩ := hown.grown hsz hown' hgrow (by rw [HS.out, if_pos hbo]; omega)
    exact ⟨⟨k + 1, by omega, by simp, by rw [HCY.out, if_pos hbo]; simp, h1, hbel.trans h3, h2⟩, by simp [intOf]; omega⟩
   ·
    have hbo' : ¬ (x : Int) - (y : Int) - (c : Int) < 0 := by omega
    go_wp2_with (at_builtin; refine wpList_append_own _ rfl _ _ 23 rfl W1.heap.size 3 i0 (.int .i64 0) 1 8 Tryz.underlying23 hi hz0 hz1 hz2 rfl (by decide) _ _ _ rfl (hown.out.alloc _) ⟨wq.heap.size, 0, none⟩ 1 1 [.int .i64 ((x : Int) - (y : Int) - (c : Int))] rfl rfl (cell_one_new _ _ _) (by simp [Value.oneCell']) (by unfold maxLen; omega) (by omega) (by simp; omega) ?_; intro v' w1 hown' hgrow _)
    obtain ⟨h1, h2, h3⟩ := hown.grown hsz hown' hgrow (by rw [HS.out, if_neg hbo]; omega)
    exact ⟨⟨k + 1, by omega, by simp, by rw [HCY.out, if_neg hbo]; simp, h1, hbel.trans h3, h2⟩, by simp [intOf]; omega⟩
  ·
   obtain rfl : k = 16 := by omega
   obtain ⟨g, cp, rfl, hgb, hglt, hnums⟩ := hown.nums (by omega)
   go_wp2_with fail
   refine (made_any 16 cp g (sdS xs ys) (by omega) (fun k _ => hsl k) _ hglt hnums).mono ?_
   have hsum := nv_sub hxs hys 16
   rw [NA.out, NB.out, pow_M4] at hsum
   have HM := Lib.hid hsum
   have hbl := hcy 16
   have HBL := Lib.hid hbl
   clear hsum hbl
   rintro e w2 (⟨⟨i, hi1, hi2, hi3⟩, rfl, hb2⟩ | ⟨hall, rfl, hb2⟩)
   ·
    omega
   ·
    have kR2 : BlkW w2 (w.heap.size + 1 + 1) 0 0 0 0 := (kR.below hbel (by omega)).below hb2 (by omega)
    have d2 : Below w.heap.size w w2 := chain (d1.trans (hbel.mono d1.size)) hb2
    have c20 : w2.cell? ⟨w.heap.size + 1 + 1, 0, none⟩ = some (.int .u64 ((0 : Nat) : Int)) := kR2.cell 0
    have f20 := kR2.frozen 0
    have c21 : w2.cell? ⟨w.heap.size + 1 + 1, 1, none⟩ = some (.int .u64 ((0 : Nat) : Int)) := kR2.cell 1
    have f21 := kR2.frozen 1
    have c22 : w2.cell? ⟨w.heap.size + 1 + 1, 2, none⟩ = some (.int .u64 ((0 : Nat) : Int)) := kR2.cell 2
    have f22 := kR2.frozen 2
    have c23 : w2.cell? ⟨w.heap.size + 1 + 1, 3, none⟩ = some (.int .u64 ((0 : Nat) : Int)) := kR2.cell 3
    have f23 := kR2.frozen 3
    clear hall
    have hok := wdg_ok (f := sdS xs ys) (n := 16) (by omega) (fun k hk => hsl k)
    have hnv := nv_val (sdS xs ys) (n := 16) (by omega)
    have HN := Lib.hid hnv
    clear hnv
    generalize wdg (sdS xs ys) 16 0 = s0 at *
    generalize wdg (sdS xs ys) 16 1 = s1 at *
    generalize wdg (sdS xs ys) 16 2 = s2 at *
    generalize wdg (sdS xs ys) 16 3 = s3 at *
    have hfin : val s0 s1 s2 s3 = val a0 a1 a2 a3 - val b0 b1 b2 b3 := by
     have e1 := HM.out
     have e2 := HBL.out
     have e3 := HGE.out
     rw [← HN.out] at e1
     have h1 := val_lt hok
     have h2 := val_lt hb
     have h3 : bwS xs ys 16 = 0 ∨ bwS xs ys 16 = 1 := by omega
     rcases h3 with h3 | h3
     ·
      rw [h3] at e1; omega
     ·
      rw [h3] at e1; omega
    have HF := Lib.hid hfin
    clear hfin
    go_wp2_with fail
    have kR' := (((kR2.set 0 (.int .u64 (s0 : Nat))).set 1 (.int .u64 (s1 : Nat))).set 2 (.int .u64 (s2 : Nat))).set 3 (.int .u64 (s3 : Nat))
    have r0 := kR'.cell 0
    have r1 := kR'.cell 1
    have r2 := kR'.cell 2
    have r3 := kR'.cell 3
    simp only [List.set_cons_zero, List.set_cons_succ, List.getElem?_cons_zero, List.getElem?_cons_succ] at r0 r1 r2 r3
    have hB' := (((d2.setCell (p := ⟨w.heap.size + 1 + 1, 0, none⟩) (by simp; omega) (.int .u64 (s0 : Nat))).setCell (p := ⟨w.heap.size + 1 + 1, 1, none⟩) (by simp; omega) (.int .u64 (s1 : Nat))).setCell (p := ⟨w.heap.size + 1 + 1, 2, none⟩) (by simp; omega) (.int .u64 (s2 : Nat))).setCell (p := ⟨w.heap.size + 1 + 1, 3, none⟩) (by simp; omega) (.int .u64 (s3 : Nat))
    exact bodyPost_ret (v := .tuple #[wv s0 s1 s2 s3, .bool true]) (by simp [results, Tryz.f19, go_sem, r0, r1, r2, r3]) rfl (.inl ⟨HGE.out, s0, s1, s2, s3, hok, HF.out, rfl, hB'⟩)
end Go.Proofs.YthhmdgmmeedhdaaGreat
namespace Go.Proofs.YthhmdgmmeedhdaaGreat
open Go.RowKit Go.Shelf
def addN (x y : Nat) : Nat := if x + y < M4 then x + y else 0
def fitB (x y : Nat) : Bool := decide (x + y < M4)
def lessB (x y : Nat) : Bool := decide (y ≤ x)
theorem wn_zero : wn 0 = wv 0 0 0 0 := by show wv (nw 0 0) (nw 0 1) (nw 0 2) (nw 0 3) = _; rw [nw_zero, nw_zero, nw_zero, nw_zero]
def RetN (n : Nat) (b : Bool) (w : World) (e : Ending) (W' : World) : Prop := e = .returned (.tuple #[wn n, .bool b]) ∧ Below w.heap.size w W'
theorem retN_of_add {x y : Nat} {w : World} {e : Ending} {W' : World} (h : AddW (x + y) w e W') : RetN (addN x y) (fitB x y) w e W' := by
 rcases h with ⟨hl, s0, s1, s2, s3, hs, hv, rfl, hb⟩ | ⟨hg, rfl, hb⟩
 ·
  refine ⟨?_, hb⟩
  rw [wn_of hs hv, show addN x y = x + y from if_pos hl, show fitB x y = true from decide_eq_true hl]
 ·
  refine ⟨?_, hb⟩
  rw [show addN x y = 0 from if_neg (by omega), show fitB x y = false from decide_eq_false (by omega), wn_zero]
theorem retN_of_sub {x y : Nat} {w : World} {e : Ending} {W' : World} (h : SubW x y w e W') : RetN (x - y) (lessB x y) w e W' := by
 rcases h with ⟨hl, s0, s1, s2, s3, hs, hv, rfl, hb⟩ | ⟨hg, rfl, hb⟩
 ·
  refine ⟨?_, hb⟩
  rw [wn_of hs hv, show lessB x y = true from decide_eq_true hl]
 ·
  refine ⟨?_, hb⟩
  rw [show x - y = 0 by omega, show lessB x y = false from decide_eq_false (by omega), wn_zero]
theorem addN_any {x y : Nat} (hx : x < M4) (hy : y < M4) (w : World) :
  Calls Tryz.prog 61 #[wn x, wn y] w (RetN (addN x y) (fitB x y) w) :=
 (add_any (nw_ok x) (nw_ok y) w).mono fun _ _ h => retN_of_add (by rw [nw_val hx, nw_val hy] at h; exact h)
theorem subN_any {x y : Nat} (hx : x < M4) (hy : y < M4) (w : World) :
  Calls Tryz.prog 93 #[wn x, wn y] w (RetN (x - y) (lessB x y) w) :=
 (sub_any (nw_ok x) (nw_ok y) w).mono fun _ _ h => retN_of_sub (by rw [nw_val hx, nw_val hy] at h; exact h)
theorem refAddN_any {x y : Nat} (hx : x < M4) (hy : y < M4) (w : World) :
  Calls Tryz.prog 17 #[wn x, wn y] w (RetN (addN x y) (fitB x y) w) :=
 (refAdd_any (nw_ok x) (nw_ok y) w).mono fun _ _ h => retN_of_add (by rw [nw_val hx, nw_val hy] at h; exact h)
theorem refSubN_any {x y : Nat} (hx : x < M4) (hy : y < M4) (w : World) :
  Calls Tryz.prog 19 #[wn x, wn y] w (RetN (x - y) (lessB x y) w) :=
 (refSub_any (nw_ok x) (nw_ok y) w).mono fun _ _ h => retN_of_sub (by rw [nw_val hx, nw_val hy] at h; exact h)
theorem ofN_any (n : Nat) (h : n < M) (w : World) : Calls Tryz.prog 54 #[.int .u64 (n : Int)] w fun e W' => e = .returned (wn n) ∧ Below w.heap.size w W' :=
 (of_any (n : Int) n rfl w).mono fun _ _ ⟨he, hb⟩ => ⟨by rw [he]; obtain ⟨a, b, c, d⟩ := nw_word h; show _ = Ending.returned (wv (nw n 0) (nw n 1) (nw n 2) (nw n 3)); rw [a, b, c, d], hb⟩
def NewN (X : World) (n : Nat) (p : Value) (W : World) : Prop := ∃ B, p = .pointer (some ⟨B, 0, none⟩) ∧ Blk W B 27 (ws (nw n)) ∧ X.heap.size ≤ B ∧ Below X.heap.size X W
theorem res_book {fn : Func} {p q : Tmp} (h : fn.results = #[.cell p 30, .tmp q]) (tmps : Array Value) {w : World} {g : Nat} {T : TypeId} {b : Bk} {v : Value} (hp : tmps.getD p undef = .pointer (some ⟨g, 0, none⟩)) (hq : tmps.getD q undef = v) (hg : Blk w g T (bkc b)) :
  (results fn tmps).run Tryz.prog w = .ok (.tuple #[bkv b, v]) w := by
 have hp' : tmps[p]?.getD undef = .pointer (some ⟨g, 0, none⟩) := by simpa using hp
 have hq' : tmps[q]?.getD undef = v := by simpa using hq
 simp [results, h, hp', hq', asAddr, run_loadVar_row w g T 30 (bkc b).toArray (0, 0) _ hg Tryz.underlying30 rfl (by rw [bkc_size]; exact info_book)]
theorem res_bk {fn : Func} {p : Tmp} (h : fn.results = #[.cell p 30]) (tmps : Array Value) {w : World} {g : Nat} {T : TypeId} {b : Bk} (hp : tmps.getD p undef = .pointer (some ⟨g, 0, none⟩)) (hg : Blk w g T (bkc b)) :
  (results fn tmps).run Tryz.prog w = .ok (bkv b) w :=
 results_cell_row h tmps w g T (bkc b).toArray (0, 0) _ hp hg Tryz.underlying30 rfl (by rw [bkc_size]; exact info_book)
end Go.Proofs.YthhmdgmmeedhdaaGreat
namespace Go.Proofs.YthhmdgmmeedhdaaGreat
open Go.RowKit Go.Shelf
def assetB (s : Int) : Bool := decide (0 ≤ s ∧ s < 2)
def placeB (a s : Int) : Bool := decide (atS a s)
theorem isAsset_any (s : Int) (w : World) :
  Calls Tryz.prog 39 #[.int .i64 s] w fun e W' => e = .returned (.bool (assetB s)) ∧ w = W' := by
 by_cases h1 : 0 ≤ s
 ·
  by_cases h2 : s < 2
  ·
   rw [show assetB s = true from decide_eq_true ⟨h1, h2⟩]
   go_enter Tryz.func39, Tryz.ntmps39
   go_wp2
   go_ret
   exact ⟨rfl, rfl⟩
  ·
   rw [show assetB s = false from decide_eq_false (by omega)]
   go_enter Tryz.func39, Tryz.ntmps39
   go_wp2
   go_ret
   exact ⟨rfl, rfl⟩
 ·
  rw [show assetB s = false from decide_eq_false (by omega)]
  go_enter Tryz.func39, Tryz.ntmps39
  go_wp2
  go_ret
  exact ⟨rfl, rfl⟩
theorem isPlace_any (a s : Int) (w : World) :
  Calls Tryz.prog 55 #[.int .i64 a, .int .i64 s] w fun e W' => e = .returned (.bool (placeB a s)) ∧ w = W' := by
 by_cases h1 : 0 ≤ a
 ·
  by_cases h2 : a < 8
  ·
   have hp : placeB a s = assetB s := by unfold placeB assetB atS; simp [h1, h2]
   rw [hp]
   clear hp
   go_enter Tryz.func55, Tryz.ntmps55
   go_wp2_with (go_at_call 39; refine (isAsset_any _ _).mono ?_; rintro e w1 ⟨rfl, rfl⟩)
   go_ret
   exact ⟨rfl, rfl⟩
  ·
   rw [show placeB a s = false from decide_eq_false (by unfold atS; omega)]
   go_enter Tryz.func55, Tryz.ntmps55
   go_wp2
   go_ret
   exact ⟨rfl, rfl⟩
 ·
  rw [show placeB a s = false from decide_eq_false (by unfold atS; omega)]
  go_enter Tryz.func55, Tryz.ntmps55
  go_wp2
  go_ret
  exact ⟨rfl, rfl⟩
theorem res_wn {fn : Func} {p : Tmp} (h : fn.results = #[.cell p 27]) (tmps : Array Value) {w : World} {g : Nat} {T : TypeId} {n : Nat} (hp : tmps.getD p undef = .pointer (some ⟨g, 0, none⟩)) (hg : Blk w g T (ws (nw n))) :
  (results fn tmps).run Tryz.prog w = .ok (wn n) w :=
 results_cell_row h tmps w g T (ws (nw n)).toArray (0, 0) _ hp hg Tryz.underlying27 rfl (by kernel_rfl)
set_option maxHeartbeats 2000000 in
theorem ofBook_any (b : Bk) (a s : Int) (w : World) :
  Calls Tryz.prog 25 #[bkv b, .int .i64 a, .int .i64 s] w fun e W' => e = .returned (wn (ofB b a s)) ∧ Below w.heap.size w W' := by
 have kB := (Blk.new w 30 (bkc b)).alloc (.cells #[.int .u64 0, .int .u64 0, .int .u64 0, .int .u64 0] 27)
 have kR : ∀ n, Blk ((w.alloc (.cells (bkc b).toArray 30)).alloc (.cells (ws (nw n)).toArray 27)) (w.heap.size + 1) 27 (ws (nw n)) := fun n => Blk.new' (by simp)
 have hB := fun n => chainA (chain0 w (.cells (bkc b).toArray 30)) (.cells (ws (nw n)).toArray 27)
 by_cases h : atS a s
 ·
  have HP : Hid (placeB a s = true) := Lib.hid (decide_eq_true h)
  have HO : Hid (ofB b a s = b (slotS a s)) := Lib.hid (if_pos h)
  obtain ⟨⟨h1, h2⟩, h3, h4⟩ := h
  obtain ⟨i, rfl⟩ : ∃ i : Nat, a = i := ⟨a.toNat, by omega⟩
  obtain ⟨j, rfl⟩ : ∃ j : Nat, s = j := ⟨s.toNat, by omega⟩
  have hi : i < 8 := by omega
  have hj : j < 2 := by omega
  go_enter Tryz.func25, Tryz.ntmps25
  go_wp2_with (first
   | (go_at_call 55; refine (isPlace_any _ _ _).mono ?_; rw [HP.out]; rintro e w1 ⟨rfl, rfl⟩)
   | ((with_reducible refine wpList_loadIf 27 (.tmp 15) ?_ (some 16) ?_ ?_ (wn (b (2 * i + j))) ?_ ?_); (· rfl); (· rfl); (· rfl); (· exact load_slot kB hi hj)))
  exact bodyPost_ret (res_wn (n := b (2 * i + j)) rfl _ rfl (kR _)) rfl ⟨by rw [HO.out]; rfl, hB _⟩
 ·
  have HP : Hid (placeB a s = false) := Lib.hid (decide_eq_false h)
  have HO : Hid (ofB b a s = 0) := Lib.hid (if_neg h)
  clear h
  have kR0 := kR 0
  have hB0 := hB 0
  rw [ws_no] at kR0 hB0
  go_enter Tryz.func25, Tryz.ntmps25
  go_wp2_with (go_at_call 55; refine (isPlace_any _ _ _).mono ?_; rw [HP.out]; rintro e w1 ⟨rfl, rfl⟩)
  exact bodyPost_ret (res_wn (n := 0) rfl _ rfl (by rw [ws_no]; exact kR0)) rfl ⟨by rw [HO.out], hB0⟩
end Go.Proofs.YthhmdgmmeedhdaaGreat
namespace Go.Proofs.YthhmdgmmeedhdaaGreat
open Go.RowKit Go.Shelf
theorem wpList_storeN {ops : Array Oper} {rest : List Oper} {o : Oper} {a : Act} {W : World} {c : Array Value} {Q : Exit → Act → World → Prop} {T : TypeId} (ty : TypeId) (x y : Operand) (v : Value) (ns : List Value) (hv : v.cells.toList = ns) (hc : c.size = ns.length) (hi : (Tryz.prog.info? ty).map (·.size) = some ns.length) (h1 : ns.all (·.oneCell') = true)
  (ho : o.op = .store ty x y) (hd : o.dst = none) (hgd : o.guard = none) (hx : a.eval x = .pointer (some ⟨W.heap.size, 0, none⟩)) (hy : a.eval y = v)
  (h : wpList Tryz.prog ops Q rest a (W.alloc (.cells ns.toArray T))) : wpList Tryz.prog ops Q (o :: rest) a (W.alloc (.cells c T)) := by
 have hB : Blk (W.alloc (.cells c T)) W.heap.size T c.toList := Blk.new W T c.toList
 refine wpList_store_part ty x y ns hB 0 v ns ho hd hgd hx hy hv hi (by simp [hc]) h1 ?_ ?_
 ·
  unfold laid
  rw [List.take_zero, List.nil_append, List.drop_of_length_le (by simp [hc]), List.append_nil]
 ·
  rw [World.setRow_alloc_new]
  exact h
theorem rowB_one (b : Bk) (s n : Nat) : (rowB b s n).all (·.oneCell') = true := by
 induction n generalizing s with
 | zero => rfl
 | succ n ih => rw [rowB, List.all_append, ih]; rfl
theorem idx_row (b : Bk) (w : World) {k : Nat} (hk : k < 8) :
  (Instr.index 30 (bkv b) (.int .i64 k)).run Tryz.prog w = .ok (.agg (rowB b (2 * k) 2).toArray) w := by
 have hs : (sizeOf 28).run Tryz.prog w = .ok 8 w := by kernel_rfl
 have h1 : (0 : Int) ≤ (k : Int) ∧ (k : Int) < 8 := ⟨by omega, by omega⟩
 have e : ((bkc b).drop (k * 8)).take 8 = rowB b (2 * k) 2 := by
  rw [show k * 8 = 8 * k by omega, bkc_row b hk, rowB, rowB, rowB, List.append_nil]
 have e2 : List.take 8 (List.drop (k * 8) (bkc b)) = rowB b (2 * k) 2 := e
 simp [Instr.index, run_underlying Tryz.underlying30, asIntOf, h1, hs, go_sem]
 rw [if_pos hk, e2]
end Go.Proofs.YthhmdgmmeedhdaaGreat
namespace Go.Proofs.YthhmdgmmeedhdaaGreat
theorem wpAnyH_mono {P : Program} {ops : Array Oper} {Q : Exit → Act → World → Prop} {md : Region.Mode} {S S' : World → Prop} (h : ∀ w, S' w → S w) :
  ∀ (fuel : Nat) (listed : Array Bool) (a : Act) (w : World), wpAnyH P md ops Q S' fuel listed a w → wpAnyH P md ops Q S fuel listed a w
 | 0, _, _, _, H => H
 | fuel + 1, _, _, _, H => ⟨H.1, fun i hi => wpOp_mono (fun a' w' h' => ⟨h _ h'.1, wpAnyH_mono h fuel _ a' w' h'.2⟩) (H.2 i hi)⟩
end Go.Proofs.YthhmdgmmeedhdaaGreat
namespace Go.Proofs.YthhmdgmmeedhdaaGreat
open Go.RowKit Go.Shelf
theorem info_st : (Tryz.prog.info? 34).map (·.size) = some 151 := by kernel_rfl
section
variable {W : World} {B : Nat} {T : TypeId} {s : Es} {v : Value}
theorem ld_st (h : Blk W B T (stc s v)) : (Instr.loadAt 34 (.pointer (some ⟨B, 0, none⟩))).run Tryz.prog W = .ok (stv s v) W :=
 load_part h 0 (stc s v) (by rw [stc_len]; exact st_all s v) _ _ Tryz.underlying34 rfl (by rw [stc_len]; exact info_st)
theorem ld_pu (h : Blk W B T (stc s v)) : (Instr.loadAt 30 (.pointer (some ⟨B, 2, none⟩))).run Tryz.prog W = .ok (bkv s.pu) W :=
 load_part h 2 (bkc s.pu) (by rw [bkc_len]; exact st_pu s v) _ _ Tryz.underlying30 rfl (by rw [bkc_len]; exact info_book)
theorem ld_va (h : Blk W B T (stc s v)) : (Instr.loadAt 30 (.pointer (some ⟨B, 66, none⟩))).run Tryz.prog W = .ok (bkv s.va) W :=
 load_part h 66 (bkc s.va) (by rw [bkc_len]; exact st_va s v) _ _ Tryz.underlying30 rfl (by rw [bkc_len]; exact info_book)
theorem ld_he (h : Blk W B T (stc s v)) {a o : Nat} (ha : a < 2) (ho : o = 138 + 4 * a) : (Instr.loadAt 27 (.pointer (some ⟨B, o, none⟩))).run Tryz.prog W = .ok (wn (s.he a)) W := by
 subst ho
 exact load_part h (138 + 4 * a) (ws (nw (s.he a))) (by rw [ws_len]; exact st_heS s v ha) _ _ Tryz.underlying27 rfl (by rw [ws_len]; exact info_wide)
theorem ld_bu (h : Blk W B T (stc s v)) : (Instr.loadAt 27 (.pointer (some ⟨B, 146, none⟩))).run Tryz.prog W = .ok (wn s.bu) W :=
 load_part h 146 (ws (nw s.bu)) (by rw [ws_len]; exact st_bu s v) _ _ Tryz.underlying27 rfl (by rw [ws_len]; exact info_wide)
theorem ld_lk (h : Blk W B T (stc s v)) : (Instr.loadAt 32 (.pointer (some ⟨B, 150, none⟩))).run Tryz.prog W = .ok v W := ld_any _ _ Tryz.underlying32 rfl h 150 (st_lk s v)
end
theorem set_heO (s : Es) (v : Value) (n : Nat) {a o : Nat} (ha : a < 2) (ho : o = 138 + 4 * a) : laid (stc s v) o (ws (nw n)) = stc { s with he := updB s.he a n } v := by subst ho; exact set_heS s v n ha
def Pan (c : Int) (e : Ending) : Prop := e = .panicked [{ v := .iface 106 (.int .i64 c), recovered := false }]
theorem demand_yes (c : Int) (w : World) : Calls Tryz.prog 59 #[.bool true, .int .i64 c] w fun e W' => e = .returned (.tuple #[]) ∧ W' = w := by
 go_enter Tryz.func59, Tryz.ntmps59
 go_wp2
 go_end0
 exact ⟨rfl, rfl⟩
theorem demand_no (c : Int) (w : World) : Calls Tryz.prog 59 #[.bool false, .int .i64 c] w fun e W' => Pan c e ∧ W' = w := by
 go_enter Tryz.func59, Tryz.ntmps59
 go_wp2
 exact ⟨rfl, rfl, rfl⟩
def MustB (b : Bk) (c : Int) (w : World) (e : Ending) (W' : World) : Prop := ((c = 0 ∧ e = .returned (bkv b)) ∨ (c ≠ 0 ∧ Pan c e)) ∧ Below w.heap.size w W'
theorem must_any (b : Bk) (c : Int) (w : World) : Calls Tryz.prog 62 #[bkv b, .int .i64 c] w (MustB b c w) := by
 have hM := ((Mem.start w).alloc 30 (bkc b)).allocN (n := w.heap.size + 1) (by simp) 30 (bkc noK)
 rw [bkc_no] at hM
 by_cases h : c = 0
 ·
  subst h
  go_enter Tryz.func62, Tryz.ntmps62
  go_wp2_with (first
   | (go_at_call 59; refine (demand_yes _ _).mono ?_; rintro e w1 ⟨rfl, rfl⟩)
   | ((with_reducible refine wpList_loadIf 30 (.tmp 2) ?_ (some 9) ?_ ?_ (bkv b) ?_ ?_); (· rfl); (· rfl); (· rfl); (· exact load_book hM.a1))
   | ((refine wpList_store_book (.tmp 4) (.tmp 9) hM.a0 (by simp) b ?_ ?_ ?_ ?_ ?_ ?_); (· rfl); (· rfl); (· rfl); (· rfl); (· rfl)))
  replace hM := hM.set 0 (cs' := bkc b) rfl rfl
  refine bodyPost_ret (v := bkv b) (res_bk rfl _ rfl hM.a0) rfl ?_
  exact ⟨.inl ⟨rfl, rfl⟩, hM.b⟩
 ·
  have q : (c == 0) = false := by simpa using h
  go_enter Tryz.func62, Tryz.ntmps62
  go_wp2_with (go_at_call 59; refine (demand_no _ _).mono ?_; rintro e w1 ⟨rfl, rfl⟩)
  exact ⟨rfl, .inr ⟨h, rfl⟩, hM.b⟩
end Go.Proofs.YthhmdgmmeedhdaaGreat
namespace Go.Proofs.YthhmdgmmeedhdaaGreat
inductive Tk where
 | val (i : Nat) (d : Option Tmp) (v : Value)
 | load (i : Nat) (d : Option Tmp) (ty : TypeId) (p v : Value)
 | alt (i : Nat) (d : Option Tmp) (v u : Value)
 | skip (i : Nat) (d : Option Tmp)
 | idx (i : Nat) (d : Option Tmp) (ty : TypeId) (p x v : Value)
def Tk.place : Tk → Nat
 | .val i _ _ => i
 | .load i _ _ _ _ => i
 | .alt i _ _ _ => i
 | .skip i _ => i
 | .idx i _ _ _ _ _ => i
def Tk.put (a : Act) : Tk → Act
 | .val _ d v => a.put d v
 | .load _ d _ _ v => a.put d v
 | .alt _ d _ u => a.put d u
 | .skip _ d => a.put d undef
 | .idx _ d _ _ _ v => a.put d v
theorem zA {α : Type} {l : List α} {i : Nat} {a : α} : l.toArray.setIfInBounds i a = (l.set i a).toArray := List.setIfInBounds_toArray _ _ _
theorem z0 {α : Type} {a b : α} {l : List α} : (a :: l).set 0 b = b :: l := List.set_cons_zero
theorem z1 {α : Type} {a b : α} {l : List α} {n : Nat} : (a :: l).set (n + 1) b = a :: l.set n b := List.set_cons_succ
theorem cB {a b : Bool} (h : a = b) : Value.bool a = Value.bool b := congrArg Value.bool h
theorem cI {a b : Int} (h : a = b) : Value.int .i64 a = Value.int .i64 b := congrArg (Value.int .i64) h
abbrev Tk.v (i d : Nat) (x : Value) : Tk := .val i (some d) x
abbrev Tk.l (i d : Nat) (ty : TypeId) (p x : Value) : Tk := .load i (some d) ty p x
abbrev Tk.x (i d : Nat) (ty : TypeId) (p k x : Value) : Tk := .idx i (some d) ty p k x
abbrev Tk.a (i d : Nat) (r x : Value) : Tk := .alt i (some d) r x
def puts : List Tk → Act → Act
 | [], a => a
 | t :: L, a => puts L (t.put a)
inductive See where
 | run (b : Bool) (d : Option Tmp) (r : Result Next)
 | got (b : Bool) (d : Option Tmp) (t : Option (TypeId × Value))
 | no (b : Bool) (d : Option Tmp)
 | at (b : Bool) (d : Option Tmp) (t : Option (TypeId × Value × Value))
def seeOp (P : Program) (ops : Array Oper) (w : World) (a : Act) (o : Oper) : Tk → See
 | .val _ _ _ => .run (Region.wanted o (yielded ops a.tmps)) o.dst ((execOp a.eval o).run P w)
 | .load _ _ _ _ _ => .got (Region.wanted o (yielded ops a.tmps)) o.dst (match o.op with | .load ty x => some (ty, a.eval x) | _ => none)
 | .alt _ _ _ _ => .run (Region.wanted o (yielded ops a.tmps)) o.dst ((execOp a.eval o).run P w)
 | .skip _ _ => .no (Region.wanted o (yielded ops a.tmps)) o.dst
 | .idx _ _ _ _ _ _ => .at (Region.wanted o (yielded ops a.tmps)) o.dst (match o.op with | .indexAddr ty x y => some (ty, a.eval x, a.eval y) | _ => none)
def wantOp (w : World) : Tk → See
 | .val _ d v => .run true d (.ok (.value v) w)
 | .load _ d ty p _ => .got true d (some (ty, p))
 | .alt _ d v _ => .run true d (.ok (.value v) w)
 | .skip _ d => .no false d
 | .idx _ d ty p x _ => .at true d (some (ty, p, x))
def sees (P : Program) (ops : Array Oper) (w : World) : List Tk → Act → List (Option See)
 | [], _ => []
 | t :: L, a => (ops[t.place]?).map (fun o => seeOp P ops w a o t) :: sees P ops w L (t.put a)
def wants (w : World) (L : List Tk) : List (Option See) := L.map fun t => some (wantOp w t)
def Facts (P : Program) (S : World → Prop) : List Tk → Prop
 | [] => True
 | .load _ _ ty p v :: L => (∀ w, S w → (Instr.loadAt ty p).run P w = .ok v w) ∧ Facts P S L
 | .alt _ _ v u :: L => v = u ∧ Facts P S L
 | .idx _ _ ty p x v :: L => (∀ w, S w → (Instr.indexAt ty p x).run P w = .ok v w) ∧ Facts P S L
 | .val _ _ _ :: L => Facts P S L
 | .skip _ _ :: L => Facts P S L
def FactsAt (P : Program) (w : World) : List Tk → Prop
 | [] => True
 | .load _ _ ty p v :: L => (Instr.loadAt ty p).run P w = .ok v w ∧ FactsAt P w L
 | .alt _ _ v u :: L => v = u ∧ FactsAt P w L
 | .idx _ _ ty p x v :: L => (Instr.indexAt ty p x).run P w = .ok v w ∧ FactsAt P w L
 | .val _ _ _ :: L => FactsAt P w L
 | .skip _ _ :: L => FactsAt P w L
theorem factsAt {P : Program} {w : World} : ∀ {L : List Tk}, FactsAt P w L → Facts P (fun W => W = w) L
 | [], _ => trivial
 | .load _ _ _ _ _ :: _, h => ⟨fun W e => by cases e; exact h.1, factsAt h.2⟩
 | .alt _ _ _ _ :: _, h => ⟨h.1, factsAt h.2⟩
 | .idx _ _ _ _ _ _ :: _, h => ⟨fun W e => by cases e; exact h.1, factsAt h.2⟩
 | .val _ _ _ :: L, h => factsAt (L := L) h
 | .skip _ _ :: L, h => factsAt (L := L) h
section
variable {P : Program} {md : Region.Mode} {ops : Array Oper} {Q : Exit → Act → World → Prop} {S : World → Prop}
theorem one_of {t : Tk} {o : Oper} {a : Act} (ho : ops[t.place]? = some o) (hsee : ∀ w, (ops[t.place]?).map (fun o => seeOp P ops w a o t) = some (wantOp w t)) {L : List Tk} (hf : Facts P S (t :: L)) :
  (∃ v, t.put a = a.put o.dst v ∧ YieldsIf P ops S o v a) ∧ Facts P S L := by
 rw [ho] at hsee
 have hs : ∀ w, seeOp P ops w a o t = wantOp w t := fun w => Option.some.inj (hsee w)
 cases t with
 | val i d v =>
  have hd : o.dst = d := by have := hs default; simp only [seeOp, wantOp, See.run.injEq] at this; exact this.2.1
  exact ⟨⟨v, by rw [hd]; rfl, .inl ⟨by have := hs default; simp only [seeOp, wantOp, See.run.injEq] at this; exact this.1, fun w _ => by have := hs w; simp only [seeOp, wantOp, See.run.injEq] at this; exact this.2.2⟩⟩, hf⟩
 | load i d ty p v =>
  have hd : o.dst = d := by have := hs default; simp only [seeOp, wantOp, See.got.injEq] at this; exact this.2.1
  refine ⟨⟨v, by rw [hd]; rfl, .inl ⟨by have := hs default; simp only [seeOp, wantOp, See.got.injEq] at this; exact this.1, fun w hw => ?_⟩⟩, hf.2⟩
  have h := hs w
  simp only [seeOp, wantOp, See.got.injEq] at h
  have h3 := h.2.2
  have hl := hf.1 w hw
  unfold execOp
  split at h3
  ·
   rename_i ty' x hop
   obtain ⟨rfl, rfl⟩ := by simpa using h3
   simp only [hop, Sem.run_bind, hl, Result.andThen_ok]
   rfl
  ·
   cases h3
 | alt i d v u =>
  have hd : o.dst = d := by have := hs default; simp only [seeOp, wantOp, See.run.injEq] at this; exact this.2.1
  obtain ⟨rfl, hf2⟩ := hf
  exact ⟨⟨v, by rw [hd]; rfl, .inl ⟨by have := hs default; simp only [seeOp, wantOp, See.run.injEq] at this; exact this.1, fun w _ => by have := hs w; simp only [seeOp, wantOp, See.run.injEq] at this; exact this.2.2⟩⟩, hf2⟩
 | skip i d =>
  have hd : o.dst = d := by have := hs default; simp only [seeOp, wantOp, See.no.injEq] at this; exact this.2
  exact ⟨⟨undef, by rw [hd]; rfl, .inr ⟨by have := hs default; simp only [seeOp, wantOp, See.no.injEq] at this; exact this.1, rfl⟩⟩, hf⟩
 | idx i d ty p x v =>
  have hd : o.dst = d := by have := hs default; simp only [seeOp, wantOp, See.at.injEq] at this; exact this.2.1
  refine ⟨⟨v, by rw [hd]; rfl, .inl ⟨by have := hs default; simp only [seeOp, wantOp, See.at.injEq] at this; exact this.1, fun w hw => ?_⟩⟩, hf.2⟩
  have h := hs w
  simp only [seeOp, wantOp, See.at.injEq] at h
  have h3 := h.2.2
  have hl := hf.1 w hw
  unfold execOp
  split at h3
  ·
   rename_i ty' x y hop
   obtain ⟨rfl, rfl, rfl⟩ := by simpa using h3
   simp only [hop, Sem.run_bind, hl, Result.andThen_ok]
   rfl
  ·
   cases h3
def listedBy : List Tk → Array Bool → Array Bool
 | [], l => l
 | t :: L, l => listedBy L (l.setIfInBounds t.place true)
def orderOk (md : Region.Mode) (ops : Array Oper) : List Tk → Array Bool → Bool
 | [], _ => true
 | t :: L, l => (Region.free md ops l t.place && (Region.ready md ops l).contains t.place) && orderOk md ops L (l.setIfInBounds t.place true)
theorem wpAnyH_takes (L : List Tk) (hs : Region.noSelect ops = true) (hQ : ∀ d v c a w, Q (.panic c) (Act.put a d v) w → Q (.panic c) a w) :
  ∀ {m n : Nat} {listed : Array Bool} {a : Act} {w : World}, n = m + L.length → orderOk md ops L listed = true → (∀ w, sees P ops w L a = wants w L) → Facts P S L → S w →
   wpAnyH P md ops Q S m (listedBy L listed) (puts L a) w → wpAnyH P md ops Q S n listed a w := by
 induction L with
 | nil => intro m n listed a w hn _ _ _ _ h; subst hn; exact h
 | cons t L ih =>
  intro m n listed a w hn ho hsee hf hS h
  simp only [orderOk, Bool.and_eq_true] at ho
  obtain ⟨⟨ho1, ho2⟩, ho3⟩ := ho
  have hsee1 : ∀ w, (ops[t.place]?).map (fun o => seeOp P ops w a o t) = some (wantOp w t) := fun w => (List.cons.inj (hsee w)).1
  have hsee2 : ∀ w, sees P ops w L (t.put a) = wants w L := fun w => (List.cons.inj (hsee w)).2
  obtain ⟨o, hop⟩ : ∃ o, ops[t.place]? = some o := by
   cases hx : ops[t.place]? with
   | none => have := hsee1 default; rw [hx] at this; cases this
   | some o => exact ⟨o, rfl⟩
  obtain ⟨⟨v, hv, hy⟩, hf2⟩ := one_of hop hsee1 hf
  subst hn
  exact wpAnyH_take hop hs ho1 ho2 (fun c a w h => hQ _ _ c a w h) hy hS (by rw [← hv]; exact ih (m := m) rfl ho3 hsee2 hf2 hS h)
theorem wp_region_M {id : Nat} {a : Act} {w : World} (S S0 : World → Prop) (hm : P.follows .mixedOrders = true) (h0 : S0 w.drew)
  (h : ∀ Y, S0 Y → wpAnyH P .any ops Q S ops.size (Array.replicate ops.size false) a Y) : (Code.region id ops true).wp P Q a w := wp_region_held hm (h _ h0)
def wpFrom (P : Program) (ops : Array Oper) (Q : Exit → Act → World → Prop) (k : Nat) (a : Act) (w : World) : Prop := wpList P ops Q (ops.toList.drop k) a w
theorem wp_region_from {id : Nat} {a : Act} {w : World} (h : wpFrom P ops Q 0 a w) : (Code.region id ops false).wp P Q a w := wp_region_list h
theorem wp_region_fromM {id : Nat} {a : Act} {w : World} (S0 : World → Prop) (h0 : S0 w) (h : ∀ Y, S0 Y → wpFrom P ops Q 0 a Y) : (Code.region id ops false).wp P Q a w := wp_region_from (h _ h0)
theorem wpFrom_step {k : Nat} {a : Act} {w : World} {o : Oper} (ho : ops[k]? = some o)
  (h : ∀ K : Act → World → Prop, (∀ a w, wpFrom P ops Q (k + 1) a w → K a w) → if Region.wanted o (yielded ops a.tmps) = true then o.wp P a w K Q else K (a.put o.dst undef) w) : wpFrom P ops Q k a w := by
 have hk : k < ops.toList.length := by simpa using (Array.getElem?_eq_some_iff.1 ho).1
 have e : ops.toList.drop k = o :: ops.toList.drop (k + 1) := by
  rw [List.drop_eq_getElem_cons hk]
  congr 1
  simpa using (Array.getElem?_eq_some_iff.1 ho).2
 unfold wpFrom
 rw [e]
 exact wpList_step fun K hK => h K hK
theorem wpFrom_takes (L : List Tk) : ∀ {k m : Nat} {a : Act} {w : World}, m = k + L.length → L.map Tk.place = List.range' k L.length → (∀ w, sees P ops w L a = wants w L) → FactsAt P w L →
   wpFrom P ops Q m (puts L a) w → wpFrom P ops Q k a w := by
 induction L with
 | nil => intro k m a w hm _ _ _ h; subst hm; exact h
 | cons t L ih =>
  intro k m a w hm hp hsee hf h
  have hsee1 : ∀ w, (ops[t.place]?).map (fun o => seeOp P ops w a o t) = some (wantOp w t) := fun w => (List.cons.inj (hsee w)).1
  have hsee2 : ∀ w, sees P ops w L (t.put a) = wants w L := fun w => (List.cons.inj (hsee w)).2
  rw [List.map_cons, List.length_cons, List.range'_succ] at hp
  obtain ⟨hp1, hp2⟩ := List.cons.inj hp
  obtain ⟨o, hop⟩ : ∃ o, ops[t.place]? = some o := by
   cases hx : ops[t.place]? with
   | none => have := hsee1 default; rw [hx] at this; cases this
   | some o => exact ⟨o, rfl⟩
  have hf2 : FactsAt P w L := by cases t <;> first | exact hf.2 | exact hf
  obtain ⟨⟨v, hv, hy⟩, _⟩ := one_of hop hsee1 (factsAt hf)
  refine wpFrom_step (by rw [← hp1]; exact hop) fun K hK => ?_
  have hgo : wpFrom P ops Q (k + 1) (a.put o.dst v) w := by rw [← hv]; exact ih (m := m) (by simpa [Nat.add_assoc, Nat.add_comm 1] using hm) hp2 hsee2 hf2 h
  rcases hy with ⟨hw, hr⟩ | ⟨hw, rfl⟩
  ·
   rw [if_pos hw]
   unfold Oper.wp
   rw [hr w rfl]
   exact hK _ _ hgo
  ·
   rw [if_neg (by rw [hw]; decide)]
   exact hK _ _ hgo
theorem wpFrom_done {k : Nat} {a : Act} {w : World} (hk : ops.size ≤ k) (h : Q .normal a w) : wpFrom P ops Q k a w := by
 unfold wpFrom
 rw [List.drop_of_length_le (by simpa using hk)]
 exact wpList_nil h
def runAt (P : Program) (ops : Array Oper) (i : Nat) (a : Act) (w : World) : Option (Bool × Option Tmp × Result Next) := (ops[i]?).map fun o => (Region.wanted o (yielded ops a.tmps), o.dst, (execOp a.eval o).run P w)
def Goes (Q : Exit → Act → World → Prop) (K : Act → World → Prop) (a : Act) (d : Option Tmp) : Ending → World → Prop
 | .returned v, w => K (a.put d v) w
 | .panicked c, w => Q (.panic c) a w
 | .outgrown, _ => LetsOut Q
theorem op_call {i : Nat} {o : Oper} {a : Act} {w : World} {d : Option Tmp} {f : FuncId} {args : Array Value} {K : Act → World → Prop} (ho : ops[i]? = some o) (hr : runAt P ops i a w = some (true, d, .ok (.enter f args) w)) (hc : Calls P f args w (Goes Q K a d)) :
  if Region.wanted o (yielded ops a.tmps) = true then o.wp P a w K Q else K (a.put o.dst undef) w := by
 unfold runAt at hr
 rw [ho] at hr
 have h := Option.some.inj hr
 have h1 : Region.wanted o (yielded ops a.tmps) = true := congrArg Prod.fst h
 have h2 : o.dst = d := congrArg (fun x => x.2.1) h
 have h3 : (execOp a.eval o).run P w = .ok (.enter f args) w := congrArg (fun x => x.2.2) h
 rw [if_pos h1]
 unfold Oper.wp
 rw [h3]
 refine hc.mono fun e w' he => ?_
 rw [h2]
 cases e <;> exact he
theorem op_run {i : Nat} {o : Oper} {a : Act} {w w' : World} {d : Option Tmp} {v : Value} {K : Act → World → Prop} (ho : ops[i]? = some o) (hr : runAt P ops i a w = some (true, d, .ok (.value v) w')) (hc : K (a.put d v) w') :
  if Region.wanted o (yielded ops a.tmps) = true then o.wp P a w K Q else K (a.put o.dst undef) w := by
 unfold runAt at hr
 rw [ho] at hr
 have h := Option.some.inj hr
 have h1 : Region.wanted o (yielded ops a.tmps) = true := congrArg Prod.fst h
 have h2 : o.dst = d := congrArg (fun x => x.2.1) h
 have h3 : (execOp a.eval o).run P w = .ok (.value v) w' := congrArg (fun x => x.2.2) h
 rw [if_pos h1]
 unfold Oper.wp
 rw [h3]
 have : K (a.put o.dst v) w' := by rw [h2]; exact hc
 exact this
def storeAt (ops : Array Oper) (i : Nat) (a : Act) : Option (Bool × Option Tmp × Option (TypeId × Value × Value)) := (ops[i]?).map fun o => (Region.wanted o (yielded ops a.tmps), o.dst, match o.op with | .store ty x y => some (ty, a.eval x, a.eval y) | _ => none)
theorem op_store {i : Nat} {o : Oper} {a : Act} {w w' : World} {ty : TypeId} {p v : Value} {K : Act → World → Prop} (ho : ops[i]? = some o) (hr : storeAt ops i a = some (true, none, some (ty, p, v))) (hst : (Instr.storeAt ty p v).run P w = .ok () w') (hc : K a w') :
  if Region.wanted o (yielded ops a.tmps) = true then o.wp P a w K Q else K (a.put o.dst undef) w := by
 unfold storeAt at hr
 rw [ho] at hr
 have h := Option.some.inj hr
 have h1 : Region.wanted o (yielded ops a.tmps) = true := congrArg Prod.fst h
 have h2 : o.dst = none := congrArg (fun x => x.2.1) h
 have h3 := congrArg (fun x => x.2.2) h
 rw [if_pos h1]
 dsimp only at h3
 split at h3
 ·
  rename_i ty' x y hop
  obtain ⟨rfl, rfl, rfl⟩ := by simpa using h3
  unfold Oper.wp execOp
  simp only [hop, Sem.run_bind, hst, Result.andThen_ok]
  have : K (a.put o.dst undef) w' := by rw [h2]; exact hc
  exact this
 ·
  cases h3
theorem op_load {i : Nat} {o : Oper} {a : Act} {w : World} {d : Option Tmp} {ty : TypeId} {p v : Value} {K : Act → World → Prop} (ho : ops[i]? = some o) (hr : (ops[i]?).map (fun o => seeOp P ops w a o (.load i d ty p v)) = some (.got true d (some (ty, p)))) (hl : (Instr.loadAt ty p).run P w = .ok v w) (hc : K (a.put d v) w) :
  if Region.wanted o (yielded ops a.tmps) = true then o.wp P a w K Q else K (a.put o.dst undef) w := by
 rw [ho] at hr
 have h := Option.some.inj hr
 simp only [seeOp, See.got.injEq] at h
 obtain ⟨h1, h2, h3⟩ := h
 rw [if_pos h1]
 split at h3
 ·
  rename_i ty' x hop
  obtain ⟨rfl, rfl⟩ := by simpa using h3
  unfold Oper.wp execOp
  simp only [hop, Sem.run_bind, hl, Result.andThen_ok]
  have : K (a.put o.dst v) w := by rw [h2]; exact hc
  exact this
 ·
  cases h3
def appAt (ops : Array Oper) (i : Nat) (a : Act) : Option (Bool × Option Tmp × Option (TypeId × TypeId × TypeId × Value × Value)) := (ops[i]?).map fun o => (Region.wanted o (yielded ops a.tmps), o.dst, match o.op with | .call ⟨.builtin .append, ⟨[s, x]⟩, ⟨[t, t']⟩⟩ => some (t, t', o.type, a.eval s, a.eval x) | _ => none)
theorem op_append {i : Nat} {o : Oper} {a : Act} {w w' : World} {d : Option Tmp} {t t' ty : TypeId} {v x u : Value} {K : Act → World → Prop} (ho : ops[i]? = some o) (hr : appAt ops i a = some (true, d, some (t, t', ty, v, x))) (hst : (Builtin.append_ #[t, t'] ty #[v, x]).run P w = .ok u w') (hc : K (a.put d u) w') :
  if Region.wanted o (yielded ops a.tmps) = true then o.wp P a w K Q else K (a.put o.dst undef) w := by
 unfold appAt at hr
 rw [ho] at hr
 have h := Option.some.inj hr
 have h1 : Region.wanted o (yielded ops a.tmps) = true := congrArg Prod.fst h
 have h2 : o.dst = d := congrArg (fun x => x.2.1) h
 have h3 := congrArg (fun x => x.2.2) h
 rw [if_pos h1]
 dsimp only at h3
 split at h3
 ·
  rename_i s y t1 t2 hop
  obtain ⟨rfl, rfl, rfl, rfl, rfl⟩ := by simpa using h3
  unfold Oper.wp execOp
  simp only [hop, resolve, invoke, builtin, Sem.run_bind, Sem.run_pure, Result.andThen_ok, List.map_toArray, List.map_cons, List.map_nil, hst]
  have : K (a.put o.dst u) w' := by rw [h2]; exact hc
  exact this
 ·
  cases h3
def StepH (P : Program) (md : Region.Mode) (ops : Array Oper) (Q : Exit → Act → World → Prop) (S : World → Prop) (m : Nat) (listed : Array Bool) (a : Act) (w : World) (i : Nat) : Prop :=
 wpOp P ops Q i (fun a' w' => S w' ∧ wpAnyH P md ops Q S m (listed.setIfInBounds i true) a' w') a w
theorem wpAnyH_one {i m n : Nat} {listed : Array Bool} {a : Act} {w : World} (hr : Region.ready md ops listed = [i]) (hn : n = m + 1) (h : StepH P md ops Q S m listed a w i) : wpAnyH P md ops Q S n listed a w := by
 subst hn
 exact wpAnyH_all hr (by simp) fun j hj => by obtain rfl := List.mem_singleton.1 hj; exact h
theorem wpAnyH_two {i j m n : Nat} {listed : Array Bool} {a : Act} {w : World} (hr : Region.ready md ops listed = [i, j]) (hn : n = m + 1) (h1 : StepH P md ops Q S m listed a w i) (h2 : StepH P md ops Q S m listed a w j) : wpAnyH P md ops Q S n listed a w := by
 subst hn
 refine wpAnyH_all hr (by simp) fun k hk => ?_
 rcases List.mem_cons.1 hk with rfl | hk
 ·
  exact h1
 ·
  obtain rfl := List.mem_singleton.1 hk; exact h2
theorem stepH_of {m i : Nat} {listed : Array Bool} {a : Act} {w : World} {o : Oper} (ho : ops[i]? = some o)
  (h : if Region.wanted o (yielded ops a.tmps) = true then o.wp P a w (fun a' w' => S w' ∧ wpAnyH P md ops Q S m (listed.setIfInBounds i true) a' w') Q else (fun a' w' => S w' ∧ wpAnyH P md ops Q S m (listed.setIfInBounds i true) a' w') (a.put o.dst undef) w) : StepH P md ops Q S m listed a w i := by
 refine wpOp_step ho fun K' hK => ?_
 split at h
 ·
  rename_i hw
  rw [if_pos hw]
  exact Oper.wp_mono (fun a w h => hK a w h) h
 ·
  rename_i hw
  rw [if_neg hw]
  exact hK _ _ h
theorem some_of {α β : Type} {x : Option α} {f : α → β} {y : β} (h : x.map f = some y) : ∃ o, x = some o := by
 cases x with
 | none => cases h
 | some o => exact ⟨o, rfl⟩
theorem stepH_call {m i : Nat} {listed : Array Bool} {a : Act} {w : World} {d : Option Tmp} {f : FuncId} {args : Array Value} (hr : runAt P ops i a w = some (true, d, .ok (.enter f args) w))
  (hc : Calls P f args w (Goes Q (fun a' w' => S w' ∧ wpAnyH P md ops Q S m (listed.setIfInBounds i true) a' w') a d)) : StepH P md ops Q S m listed a w i := by
 obtain ⟨o, ho⟩ := some_of hr
 exact stepH_of ho (op_call ho hr hc)
theorem stepH_run {m i : Nat} {listed : Array Bool} {a : Act} {w w' : World} {d : Option Tmp} {v : Value} (hr : runAt P ops i a w = some (true, d, .ok (.value v) w')) (hS : S w') (h : wpAnyH P md ops Q S m (listed.setIfInBounds i true) (a.put d v) w') : StepH P md ops Q S m listed a w i := by
 obtain ⟨o, ho⟩ := some_of hr
 exact stepH_of ho (op_run ho hr ⟨hS, h⟩)
theorem stepH_store {m i : Nat} {listed : Array Bool} {a : Act} {w w' : World} {ty : TypeId} {p v : Value} (hr : storeAt ops i a = some (true, none, some (ty, p, v))) (hst : (Instr.storeAt ty p v).run P w = .ok () w') (hS : S w') (h : wpAnyH P md ops Q S m (listed.setIfInBounds i true) a w') : StepH P md ops Q S m listed a w i := by
 obtain ⟨o, ho⟩ := some_of hr
 exact stepH_of ho (op_store ho hr hst ⟨hS, h⟩)
theorem stepH_load {m i : Nat} {listed : Array Bool} {a : Act} {w : World} {d : Option Tmp} {ty : TypeId} {p v : Value} (hr : (ops[i]?).map (fun o => seeOp P ops w a o (.load i d ty p v)) = some (.got true d (some (ty, p)))) (hl : (Instr.loadAt ty p).run P w = .ok v w) (hS : S w) (h : wpAnyH P md ops Q S m (listed.setIfInBounds i true) (a.put d v) w) : StepH P md ops Q S m listed a w i := by
 obtain ⟨o, ho⟩ := some_of hr
 exact stepH_of ho (op_load ho hr hl ⟨hS, h⟩)
theorem stepH_append {m i : Nat} {listed : Array Bool} {a : Act} {w w' : World} {d : Option Tmp} {t t' ty : TypeId} {v x u : Value} (hr : appAt ops i a = some (true, d, some (t, t', ty, v, x))) (hst : (Builtin.append_ #[t, t'] ty #[v, x]).run P w = .ok u w') (hS : S w') (h : wpAnyH P md ops Q S m (listed.setIfInBounds i true) (a.put d u) w') : StepH P md ops Q S m listed a w i := by
 obtain ⟨o, ho⟩ := some_of hr
 exact stepH_of ho (op_append ho hr hst ⟨hS, h⟩)
theorem wpFrom_append {k : Nat} {a : Act} {w w' : World} {d : Option Tmp} {t t' ty : TypeId} {v x u : Value} (hr : appAt ops k a = some (true, d, some (t, t', ty, v, x))) (hst : (Builtin.append_ #[t, t'] ty #[v, x]).run P w = .ok u w') (h : wpFrom P ops Q (k + 1) (a.put d u) w') : wpFrom P ops Q k a w := by
 obtain ⟨o, ho⟩ := some_of hr
 exact wpFrom_step ho fun K hK => op_append ho hr hst (hK _ _ h)
theorem wpFrom_call {k : Nat} {a : Act} {w : World} {d : Option Tmp} {f : FuncId} {args : Array Value} (hr : runAt P ops k a w = some (true, d, .ok (.enter f args) w)) (hc : Calls P f args w (Goes Q (wpFrom P ops Q (k + 1)) a d)) : wpFrom P ops Q k a w := by
 obtain ⟨o, ho⟩ := some_of hr
 refine wpFrom_step ho fun K hK => op_call ho hr (hc.mono fun e w' he => ?_)
 cases e with
 | returned v => exact hK _ _ he
 | panicked c => exact he
 | outgrown => exact he
theorem wpFrom_run {k : Nat} {a : Act} {w w' : World} {d : Option Tmp} {v : Value} (hr : runAt P ops k a w = some (true, d, .ok (.value v) w')) (h : wpFrom P ops Q (k + 1) (a.put d v) w') : wpFrom P ops Q k a w := by
 obtain ⟨o, ho⟩ := some_of hr
 exact wpFrom_step ho fun K hK => op_run ho hr (hK _ _ h)
theorem wpFrom_store {k : Nat} {a : Act} {w w' : World} {ty : TypeId} {p v : Value} (hr : storeAt ops k a = some (true, none, some (ty, p, v))) (hst : (Instr.storeAt ty p v).run P w = .ok () w') (h : wpFrom P ops Q (k + 1) a w') : wpFrom P ops Q k a w := by
 obtain ⟨o, ho⟩ := some_of hr
 exact wpFrom_step ho fun K hK => op_store ho hr hst (hK _ _ h)
abbrev pt (b o : Nat) : Value := .pointer (some ⟨b, o, none⟩)
theorem tD (m : Nat) (L : List Tk) {n : Nat} {listed : Array Bool} {a : Act} {w : World} (hf : Facts P S L) (hS : S w) (h : wpAnyH P md ops Q S m (listedBy L listed) (puts L a) w) (hs : Region.noSelect ops = true := by kernel_rfl) (hQ : ∀ d v c a w, Q (.panic c) (Act.put a d v) w → Q (.panic c) a w := by rintro (_ | _) _ _ _ _ h <;> exact h)
  (hn : n = m + L.length := by kernel_rfl) (ho : orderOk md ops L listed = true := by kernel_rfl) (hsee : ∀ w, sees P ops w L a = wants w L := by intro _; kernel_rfl) : wpAnyH P md ops Q S n listed a w := wpAnyH_takes L hs hQ hn ho hsee hf hS h
theorem tF (m : Nat) (L : List Tk) {k : Nat} {a : Act} {w : World} (hf : FactsAt P w L) (h : wpFrom P ops Q m (puts L a) w) (hm : m = k + L.length := by kernel_rfl) (hp : L.map Tk.place = List.range' k L.length := by kernel_rfl) (hsee : ∀ w, sees P ops w L a = wants w L := by intro _; kernel_rfl) : wpFrom P ops Q k a w := wpFrom_takes L hm hp hsee hf h
theorem oD (i m : Nat) {n : Nat} {listed : Array Bool} {a : Act} {w : World} (h : StepH P md ops Q S m listed a w i) (hr : Region.ready md ops listed = [i] := by kernel_rfl) (hn : n = m + 1 := by kernel_rfl) : wpAnyH P md ops Q S n listed a w := wpAnyH_one hr hn h
theorem oT (i j m : Nat) {n : Nat} {listed : Array Bool} {a : Act} {w : World} (h1 : StepH P md ops Q S m listed a w i) (h2 : StepH P md ops Q S m listed a w j) (hr : Region.ready md ops listed = [i, j] := by kernel_rfl) (hn : n = m + 1 := by kernel_rfl) : wpAnyH P md ops Q S n listed a w := wpAnyH_two hr hn h1 h2
theorem cD (d : Option Tmp) (f : FuncId) (args : Array Value) {m i : Nat} {listed : Array Bool} {a : Act} {w : World} (hc : Calls P f args w (Goes Q (fun a' w' => S w' ∧ wpAnyH P md ops Q S m (listed.setIfInBounds i true) a' w') a d)) (hr : runAt P ops i a w = some (true, d, .ok (.enter f args) w) := by kernel_rfl) : StepH P md ops Q S m listed a w i := stepH_call hr hc
theorem cF (d : Option Tmp) (f : FuncId) (args : Array Value) {k : Nat} {a : Act} {w : World} (hc : Calls P f args w (Goes Q (wpFrom P ops Q (k + 1)) a d)) (hr : runAt P ops k a w = some (true, d, .ok (.enter f args) w) := by kernel_rfl) : wpFrom P ops Q k a w := wpFrom_call hr hc
theorem rD (d : Option Tmp) (v : Value) (w' : World) {m i : Nat} {listed : Array Bool} {a : Act} {w : World} (hS : S w') (h : wpAnyH P md ops Q S m (listed.setIfInBounds i true) (a.put d v) w') (hr : runAt P ops i a w = some (true, d, .ok (.value v) w') := by kernel_rfl) : StepH P md ops Q S m listed a w i := stepH_run hr hS h
theorem rF (d : Option Tmp) (v : Value) (w' : World) {k : Nat} {a : Act} {w : World} (h : wpFrom P ops Q (k + 1) (a.put d v) w') (hr : runAt P ops k a w = some (true, d, .ok (.value v) w') := by kernel_rfl) : wpFrom P ops Q k a w := wpFrom_run hr h
theorem sD (ty : TypeId) (p v : Value) {m i : Nat} {listed : Array Bool} {a : Act} {w w' : World} (hst : (Instr.storeAt ty p v).run P w = .ok () w') (hS : S w') (h : wpAnyH P md ops Q S m (listed.setIfInBounds i true) a w') (hr : storeAt ops i a = some (true, none, some (ty, p, v)) := by kernel_rfl) : StepH P md ops Q S m listed a w i := stepH_store hr hst hS h
theorem sF (ty : TypeId) (p v : Value) {k : Nat} {a : Act} {w w' : World} (hst : (Instr.storeAt ty p v).run P w = .ok () w') (h : wpFrom P ops Q (k + 1) a w') (hr : storeAt ops k a = some (true, none, some (ty, p, v)) := by kernel_rfl) : wpFrom P ops Q k a w := wpFrom_store hr hst h
theorem lD (d : Option Tmp) (ty : TypeId) (p v : Value) {m i : Nat} {listed : Array Bool} {a : Act} {w : World} (hl : (Instr.loadAt ty p).run P w = .ok v w) (hS : S w) (h : wpAnyH P md ops Q S m (listed.setIfInBounds i true) (a.put d v) w) (hr : (ops[i]?).map (fun o => seeOp P ops w a o (.load i d ty p v)) = some (.got true d (some (ty, p))) := by kernel_rfl) : StepH P md ops Q S m listed a w i := stepH_load hr hl hS h
theorem dF {k : Nat} {a : Act} {w : World} (h : Q .normal a w) (hk : Nat.ble ops.size k = true := by kernel_rfl) : wpFrom P ops Q k a w := wpFrom_done (Nat.le_of_ble_eq_true hk) h
theorem dD {n : Nat} {listed : Array Bool} {a : Act} {w : World} (h : Q .normal a w) (hr : Region.ready md ops listed = [] := by kernel_rfl) : wpAnyH P md ops Q S n listed a w := wpAnyH_done hr h n
end
theorem eF {P : Program} {ops : Array Oper} {Q : Exit → Act → World → Prop} {k : Nat} {a b : Act} {w : World} (h : Q .normal b w) (hb : a = b := by (try simp only [puts, Tk.put, Act.put, zA, z0, z1]) <;> exact rfl) (hk : Nat.ble ops.size k = true := by kernel_rfl) : wpFrom P ops Q k a w := dF (hb.symm ▸ h) hk
theorem eD {P : Program} {ops : Array Oper} {Q : Exit → Act → World → Prop} {md : Region.Mode} {S : World → Prop} {n : Nat} {listed : Array Bool} {a b : Act} {w : World} (h : Q .normal b w) (hb : a = b := by (try simp only [puts, Tk.put, Act.put, zA, z0, z1]) <;> exact rfl) (hr : Region.ready md ops listed = [] := by kernel_rfl) : wpAnyH P md ops Q S n listed a w := dD (hb.symm ▸ h) hr
end Go.Proofs.YthhmdgmmeedhdaaGreat
namespace Go.Proofs.YthhmdgmmeedhdaaGreat
open Go.RowKit Go.Shelf
theorem errT_all {t : Tr} (h : errT t = 0) : (1 ≤ t.kd ∧ t.kd ≤ 6) ∧ (0 ≤ t.fr ∧ t.fr ≤ 7) ∧ (0 ≤ t.no ∧ t.no ≤ 1099511627776) ∧ (0 ≤ t.az ∧ t.az ≤ 1) ∧ (t.kd ≤ 3 → errM t = 0) ∧ (¬ t.kd ≤ 3 → errF t = 0) := by
 unfold errT at h
 by_cases h1 : 1 ≤ t.kd ∧ t.kd ≤ 6
 ·
  rw [if_pos h1] at h
  by_cases h2 : (0 ≤ t.fr ∧ t.fr ≤ 7) ∧ (0 ≤ t.no ∧ t.no ≤ 1099511627776) ∧ (0 ≤ t.az ∧ t.az ≤ 1)
  ·
   rw [if_pos h2] at h
   refine ⟨h1, h2.1, h2.2.1, h2.2.2, fun k => ?_, fun k => ?_⟩
   ·
    rw [if_pos k] at h; exact h
   ·
    rw [if_neg k] at h; exact h
  ·
   rw [if_neg h2] at h; exact absurd h (by decide)
 ·
  rw [if_neg h1] at h; exact absurd h (by decide)
theorem errM_to {t : Tr} (h : errM t = 0) (k : t.kd = 1) : 0 ≤ t.iv.to ∧ t.iv.to ≤ 7 := by
 unfold errM at h
 by_cases z : zeroA t
 ·
  rw [if_pos z] at h; exact absurd h (by decide)
 ·
  rw [if_neg z, if_pos k] at h
  by_cases hh : 0 ≤ t.iv.to ∧ t.iv.to ≤ 7
  ·
   exact hh
  ·
   rw [if_neg hh] at h; exact absurd h (by decide)
theorem errM_ro {t : Tr} (h : errM t = 0) (k : t.kd = 2) : 2 ≤ t.iv.ro ∧ t.iv.ro ≤ 3 := by
 unfold errM at h
 by_cases z : zeroA t
 ·
  rw [if_pos z] at h; exact absurd h (by decide)
 ·
  rw [if_neg z, if_neg (by omega), if_pos k] at h
  by_cases hh : 2 ≤ t.iv.ro ∧ t.iv.ro ≤ 3
  ·
   exact hh
  ·
   rw [if_neg hh] at h; exact absurd h (by decide)
theorem errF_all {t : Tr} (h : errF t = 0) : maybeI t.iv ∧ maybeV t.vr ∧ t.sg.size ≤ 1024 := by
 unfold errF at h
 by_cases h1 : maybeI t.iv
 ·
  rw [if_pos h1] at h
  by_cases h2 : maybeV t.vr
  ·
   rw [if_pos h2] at h
   by_cases h3 : t.sg.size ≤ 1024
   ·
    exact ⟨h1, h2, h3⟩
   ·
    rw [if_neg h3] at h; exact absurd h (by decide)
  ·
   rw [if_neg h2] at h; exact absurd h (by decide)
 ·
  rw [if_neg h1] at h; exact absurd h (by decide)
def ofA (s : Int) (n r : Nat) : Nat := if (r : Int) = s then n else 0
theorem take_all {b : Bk} {a s : Int} {n : Nat} (h : (takeB b a s n).2 = 0) {r : Nat} (hr : r < 2) : sumB (takeB b a s n).1 r + ofA s n r = sumB b r := by
 obtain ⟨ha, hs⟩ := take_sum h
 have hb := ha
 unfold atS at hb
 unfold ofA
 by_cases e : (r : Int) = s
 ·
  subst e
  rw [if_pos rfl]
  exact hs
 ·
  rw [if_neg e, Nat.add_zero]
  by_cases hn : n ≤ b (slotS a s)
  ·
   rw [takeB_yes ha hn]
   exact sum_other (a := a.toNat) (s := s.toNat) _ (by omega) hr (by omega)
  ·
   rw [takeB_low ha hn] at h; exact absurd h (by simp)
theorem give_all {b : Bk} {a s : Int} {n : Nat} (h : (giveB b a s n).2 = 0) {r : Nat} (hr : r < 2) : sumB (giveB b a s n).1 r = sumB b r + ofA s n r := by
 obtain ⟨ha, hs⟩ := give_sum h
 have hb := ha
 unfold atS at hb
 unfold ofA
 by_cases e : (r : Int) = s
 ·
  subst e
  rw [if_pos rfl]
  exact hs
 ·
  rw [if_neg e, Nat.add_zero]
  by_cases hn : b (slotS a s) + n < M4
  ·
   rw [giveB_yes ha hn]
   exact sum_other (a := a.toNat) (s := s.toNat) _ (by omega) hr (by omega)
  ·
   rw [giveB_over ha hn] at h; exact absurd h (by simp)
theorem held_up {h : Bk} {s : Int} {n r : Nat} (hs : 0 ≤ s) : updB h s.toNat (h s.toNat + n) r = h r + ofA s n r := by
 unfold ofA
 by_cases e : (r : Int) = s
 ·
  subst e; rw [if_pos rfl]; exact updB_at _ _ _
 ·
  rw [if_neg e, updB_ne _ _ (by omega), Nat.add_zero]
theorem held_down {h : Bk} {s : Int} {n r : Nat} (hs : 0 ≤ s) (hn : n ≤ h s.toNat) : updB h s.toNat (h s.toNat - n) r + ofA s n r = h r := by
 unfold ofA
 by_cases e : (r : Int) = s
 ·
  subst e; rw [if_pos rfl, show ((r : Int)).toNat = r from rfl] at *; rw [updB_at]; omega
 ·
  rw [if_neg e, updB_ne _ _ (by omega), Nat.add_zero]
structure StepE (s s' : Es) : Prop where
 ok : OkE s'
 su : ∀ r, r < 2 → sumB s'.pu r + s'.he r = sumB s.pu r + s.he r
 sd : s'.sd = s.sd
 tm : s'.tm = s.tm
 no : s'.no = s.no
 bu : s'.bu = s.bu
def LkE (l l' : List Lk) : Prop := l' = l ∨ (∃ x : Lk, x.st = 1 ∧ l' = l ++ [x]) ∨ ∃ (i : Nat) (x : Lk) (st : Int), l[i]? = some x ∧ x.st = 1 ∧ (st = 2 ∨ st = 3) ∧ l' = endE l i st
theorem okE_he {s : Es} (h : OkE s) {a : Int} (h1 : 0 ≤ a) (h2 : a ≤ 1) : s.he a.toNat < M4 := by
 obtain rfl | rfl : a = 0 ∨ a = 1 := by omega
 ·
  exact h.h.1
 ·
  exact h.h.2
theorem he_upd {h : Bk} (k : h 0 < M4 ∧ h 1 < M4) (i n : Nat) (hn : n < M4) : updB h i n 0 < M4 ∧ updB h i n 1 < M4 := by
 unfold updB
 constructor <;> split <;> first | exact hn | exact k.1 | exact k.2
theorem plain_step {s : Es} {t : Tr} (hs : OkE s) (ht : errT t = 0) (h : (plainE s t).2 = 0) : StepE s (plainE s t).1 ∧ LkE s.lk (plainE s t).1.lk := by
 obtain ⟨k, fr, _, az, _, _⟩ := errT_all ht
 have hz := okE_he hs az.1 az.2
 unfold plainE at h ⊢
 by_cases k1 : t.kd = 1
 ·
  rw [if_pos k1] at h ⊢
  by_cases e1 : (takeB s.pu t.fr t.az (amT t)).2 ≠ 0
  ·
   rw [if_pos e1] at h; exact absurd h (by simp)
  ·
   rw [if_neg e1] at h ⊢
   by_cases e2 : (giveB (takeB s.pu t.fr t.az (amT t)).1 t.iv.to t.az (amT t)).2 ≠ 0
   ·
    rw [if_pos e2] at h; exact absurd h (by simp)
   ·
    rw [if_neg e2]
    exact ⟨⟨⟨hs.t0, hs.t1, hs.d, okK_give (okK_take hs.p _ _ _) _ _ _, hs.v, hs.h, hs.b⟩, fun r hr => by
     have q1 := take_all (Decidable.not_not.1 e1) hr
     have q2 := give_all (Decidable.not_not.1 e2) hr
     show sumB (giveB (takeB s.pu t.fr t.az (amT t)).1 t.iv.to t.az (amT t)).1 r + s.he r = _
     omega, rfl, rfl, rfl, rfl⟩, .inl rfl⟩
 ·
  rw [if_neg k1] at h ⊢
  by_cases k2 : t.kd = 2
  ·
   rw [if_pos k2] at h ⊢
   by_cases e1 : (takeB s.pu t.fr t.az (amT t)).2 ≠ 0
   ·
    rw [if_pos e1] at h; exact absurd h (by simp)
   ·
    rw [if_neg e1] at h ⊢
    by_cases e2 : (giveB s.va t.iv.ro t.az (amT t)).2 ≠ 0 ∨ ¬ s.he t.az.toNat + amT t < M4
    ·
     rw [if_pos e2] at h; exact absurd h (by simp)
    ·
     rw [if_neg e2]
     have hm : s.he t.az.toNat + amT t < M4 := Decidable.not_not.1 fun x => e2 (.inr x)
     exact ⟨⟨⟨hs.t0, hs.t1, hs.d, okK_take hs.p _ _ _, okK_give hs.v _ _ _, he_upd hs.h _ _ hm, hs.b⟩, fun r hr => by
      have q1 := take_all (Decidable.not_not.1 e1) hr
      have q2 := held_up (h := s.he) (n := amT t) (r := r) az.1
      show sumB (takeB s.pu t.fr t.az (amT t)).1 r + updB s.he t.az.toNat (s.he t.az.toNat + amT t) r = _
      omega, rfl, rfl, rfl, rfl⟩, .inl rfl⟩
  ·
   rw [if_neg k2] at h ⊢
   by_cases e0 : ¬ (2 ≤ t.fr ∧ t.fr ≤ 3)
   ·
    rw [if_pos e0] at h; exact absurd h (by simp)
   ·
    rw [if_neg e0] at h ⊢
    by_cases e1 : (takeB s.va t.fr t.az (amT t)).2 ≠ 0
    ·
     rw [if_pos e1] at h; exact absurd h (by simp)
    ·
     rw [if_neg e1] at h ⊢
     by_cases e2 : (giveB s.pu t.fr t.az (amT t)).2 ≠ 0 ∨ ¬ amT t ≤ s.he t.az.toNat
     ·
      rw [if_pos e2] at h; exact absurd h (by simp)
     ·
      rw [if_neg e2]
      have hm : amT t ≤ s.he t.az.toNat := Decidable.not_not.1 fun x => e2 (.inr x)
      have hg : (giveB s.pu t.fr t.az (amT t)).2 = 0 := Decidable.not_not.1 fun x => e2 (.inl x)
      exact ⟨⟨⟨hs.t0, hs.t1, hs.d, okK_give hs.p _ _ _, okK_take hs.v _ _ _, he_upd hs.h _ _ (by omega), hs.b⟩, fun r hr => by
       have q1 := give_all hg hr
       have q2 := held_down (r := r) az.1 hm
       show sumB (giveB s.pu t.fr t.az (amT t)).1 r + updB s.he t.az.toNat (s.he t.az.toNat - amT t) r = _
       omega, rfl, rfl, rfl, rfl⟩, .inl rfl⟩
theorem prep_step {o : Orc} {s : Es} {t : Tr} (hs : OkE s) (ht : errF t = 0) (h : (prepE o s t).2 = 0) : StepE s (prepE o s t).1 ∧ LkE s.lk (prepE o s t).1.lk := by
 obtain ⟨⟨_, _, _, se, re, _⟩, _, _⟩ := errF_all ht
 have hz := okE_he hs se.1 se.2
 unfold prepE at h ⊢
 by_cases e1 : (placeE s.lk (o.ke t.iv)).isSome
 ·
  rw [if_pos e1] at h; exact absurd h (by simp)
 ·
  rw [if_neg e1] at h ⊢
  by_cases e2 : t.vr.x ≤ s.tm ∨ s.tm + 1024 < t.vr.x
  ·
   rw [if_pos e2] at h; exact absurd h (by simp)
  ·
   rw [if_neg e2] at h ⊢
   by_cases e3 : s.sd = 1
   ·
    rw [if_pos e3] at h ⊢
    by_cases e4 : t.fr ≠ t.iv.ro
    ·
     rw [if_pos e4] at h; exact absurd h (by simp)
    ·
     rw [if_neg e4] at h ⊢
     by_cases e5 : (takeB s.va t.fr t.iv.re (amV t)).2 ≠ 0
     ·
      rw [if_pos e5] at h; exact absurd h (by simp)
     ·
      rw [if_neg e5]
      exact ⟨⟨⟨hs.t0, hs.t1, hs.d, hs.p, okK_take hs.v _ _ _, hs.h, hs.b⟩, fun r hr => rfl, rfl, rfl, rfl, rfl⟩, .inr (.inl ⟨_, rfl, rfl⟩)⟩
   ·
    rw [if_neg e3] at h ⊢
    by_cases e4 : t.fr ≠ t.iv.us
    ·
     rw [if_pos e4] at h; exact absurd h (by simp)
    ·
     rw [if_neg e4] at h ⊢
     by_cases e5 : (takeB s.pu t.fr t.iv.se (amV t)).2 ≠ 0
     ·
      rw [if_pos e5] at h; exact absurd h (by simp)
     ·
      rw [if_neg e5] at h ⊢
      by_cases e6 : ¬ s.he t.iv.se.toNat + amV t < M4
      ·
       rw [if_pos e6] at h; exact absurd h (by simp)
      ·
       rw [if_neg e6]
       exact ⟨⟨⟨hs.t0, hs.t1, hs.d, okK_take hs.p _ _ _, hs.v, he_upd hs.h _ _ (Decidable.not_not.1 e6), hs.b⟩, fun r hr => by
        have q1 := take_all (Decidable.not_not.1 e5) hr
        have q2 := held_up (h := s.he) (n := amV t) (r := r) se.1
        show sumB (takeB s.pu t.fr t.iv.se (amV t)).1 r + updB s.he t.iv.se.toNat (s.he t.iv.se.toNat + amV t) r = _
        omega, rfl, rfl, rfl, rfl⟩, .inr (.inl ⟨_, rfl, rfl⟩)⟩
theorem open_at {o : Orc} {s : Es} {t : Tr} (h : (openE o s t).2 = 0) : ∃ x : Lk, s.lk[(openE o s t).1]? = some x ∧ x.st = 1 := by
 unfold openE at h ⊢
 cases hp : placeE s.lk (o.ke t.iv) with
 | none => rw [hp] at h; exact absurd h (by simp)
 | some i =>
  simp only [hp] at h ⊢
  cases hx : s.lk[i]? with
  | none => rw [hx] at h; exact absurd h (by simp)
  | some x =>
   simp only [hx] at h ⊢
   by_cases e1 : x.st ≠ 1
   ·
    rw [if_pos e1] at h; exact absurd h (by simp)
   ·
    rw [if_neg e1] at h ⊢
    by_cases e2 : x.dg ≠ o.dg t.iv t.vr
    ·
     rw [if_pos e2] at h; exact absurd h (by simp)
    ·
     rw [if_neg e2]
     exact ⟨x, hx, Decidable.not_not.1 e1⟩
theorem ful_step {o : Orc} {s : Es} {t : Tr} (hs : OkE s) (ht : errF t = 0) (h : (fulE o s t).2 = 0) : StepE s (fulE o s t).1 ∧ LkE s.lk (fulE o s t).1.lk := by
 obtain ⟨⟨_, _, _, se, re, _⟩, _, _⟩ := errF_all ht
 have hz := okE_he hs re.1 re.2
 unfold fulE at h ⊢
 by_cases e1 : (openE o s t).2 ≠ 0
 ·
  rw [if_pos e1] at h; exact absurd h e1
 ·
  rw [if_neg e1] at h ⊢
  obtain ⟨x, hx, hx1⟩ := open_at (Decidable.not_not.1 e1)
  by_cases e2 : t.vr.x ≤ s.tm
  ·
   rw [if_pos e2] at h; exact absurd h (by simp)
  ·
   rw [if_neg e2] at h ⊢
   by_cases e3 : ¬ feT t ≤ amV t
   ·
    rw [if_pos e3] at h; exact absurd h (by simp)
   ·
    rw [if_neg e3] at h ⊢
    by_cases e4 : o.sg t 1 = false
    ·
     rw [if_pos e4] at h; exact absurd h (by simp)
    ·
     rw [if_neg e4] at h ⊢
     by_cases e5 : s.sd = 1
     ·
      rw [if_pos e5] at h ⊢
      by_cases e6 : (giveB s.pu t.iv.to t.iv.re (amV t - feT t)).2 ≠ 0 ∨ (giveB (giveB s.pu t.iv.to t.iv.re (amV t - feT t)).1 t.fr t.iv.re (feT t)).2 ≠ 0 ∨ ¬ amV t ≤ s.he t.iv.re.toNat
      ·
       rw [if_pos e6] at h; exact absurd h (by simp)
      ·
       rw [if_neg e6]
       have g1 : (giveB s.pu t.iv.to t.iv.re (amV t - feT t)).2 = 0 := Decidable.not_not.1 fun x => e6 (.inl x)
       have g2 : (giveB (giveB s.pu t.iv.to t.iv.re (amV t - feT t)).1 t.fr t.iv.re (feT t)).2 = 0 := Decidable.not_not.1 fun x => e6 (.inr (.inl x))
       have g3 : amV t ≤ s.he t.iv.re.toNat := Decidable.not_not.1 fun x => e6 (.inr (.inr x))
       have g4 : feT t ≤ amV t := Decidable.not_not.1 e3
       exact ⟨⟨⟨hs.t0, hs.t1, hs.d, okK_give (okK_give hs.p _ _ _) _ _ _, hs.v, he_upd hs.h _ _ (by omega), hs.b⟩, fun r hr => by
        have q1 := give_all g1 hr
        have q2 := give_all g2 hr
        have q3 := held_down (r := r) re.1 g3
        have q4 : ofA t.iv.re (amV t - feT t) r + ofA t.iv.re (feT t) r = ofA t.iv.re (amV t) r := by
         unfold ofA; split <;> omega
        show sumB (giveB (giveB s.pu t.iv.to t.iv.re (amV t - feT t)).1 t.fr t.iv.re (feT t)).1 r + updB s.he t.iv.re.toNat (s.he t.iv.re.toNat - amV t) r = _
        omega, rfl, rfl, rfl, rfl⟩, .inr (.inr ⟨_, x, 2, hx, hx1, .inl rfl, rfl⟩)⟩
     ·
      rw [if_neg e5] at h ⊢
      by_cases e6 : (giveB s.va t.iv.ro t.iv.se (amV t)).2 ≠ 0
      ·
       rw [if_pos e6] at h; exact absurd h (by simp)
      ·
       rw [if_neg e6]
       exact ⟨⟨⟨hs.t0, hs.t1, hs.d, hs.p, okK_give hs.v _ _ _, hs.h, hs.b⟩, fun r hr => rfl, rfl, rfl, rfl, rfl⟩, .inr (.inr ⟨_, x, 2, hx, hx1, .inl rfl, rfl⟩)⟩
theorem can_step {o : Orc} {s : Es} {t : Tr} (hs : OkE s) (ht : errF t = 0) (h : (canE o s t).2 = 0) : StepE s (canE o s t).1 ∧ LkE s.lk (canE o s t).1.lk := by
 obtain ⟨⟨_, _, _, se, re, _⟩, _, _⟩ := errF_all ht
 have hz := okE_he hs se.1 se.2
 unfold canE at h ⊢
 by_cases e1 : (openE o s t).2 ≠ 0
 ·
  rw [if_pos e1] at h; exact absurd h e1
 ·
  rw [if_neg e1] at h ⊢
  obtain ⟨x, hx, hx1⟩ := open_at (Decidable.not_not.1 e1)
  by_cases e2 : s.tm < t.vr.x ∧ s.sd = 1 ∧ o.sg t 2 = false
  ·
   rw [if_pos e2] at h; exact absurd h (by simp)
  ·
   rw [if_neg e2] at h ⊢
   by_cases e3 : s.tm < t.vr.x ∧ s.sd ≠ 1 ∧ t.fr ≠ t.iv.ro
   ·
    rw [if_pos e3] at h; exact absurd h (by simp)
   ·
    rw [if_neg e3] at h ⊢
    by_cases e5 : s.sd = 1
    ·
     rw [if_pos e5] at h ⊢
     by_cases e6 : (giveB s.va t.iv.ro t.iv.re (amV t)).2 ≠ 0
     ·
      rw [if_pos e6] at h; exact absurd h (by simp)
     ·
      rw [if_neg e6]
      exact ⟨⟨⟨hs.t0, hs.t1, hs.d, hs.p, okK_give hs.v _ _ _, hs.h, hs.b⟩, fun r hr => rfl, rfl, rfl, rfl, rfl⟩, .inr (.inr ⟨_, x, 3, hx, hx1, .inr rfl, rfl⟩)⟩
    ·
     rw [if_neg e5] at h ⊢
     by_cases e6 : (giveB s.pu t.iv.us t.iv.se (amV t)).2 ≠ 0 ∨ ¬ amV t ≤ s.he t.iv.se.toNat
     ·
      rw [if_pos e6] at h; exact absurd h (by simp)
     ·
      rw [if_neg e6]
      have g1 : (giveB s.pu t.iv.us t.iv.se (amV t)).2 = 0 := Decidable.not_not.1 fun x => e6 (.inl x)
      have g2 : amV t ≤ s.he t.iv.se.toNat := Decidable.not_not.1 fun x => e6 (.inr x)
      exact ⟨⟨⟨hs.t0, hs.t1, hs.d, okK_give hs.p _ _ _, hs.v, he_upd hs.h _ _ (by omega), hs.b⟩, fun r hr => by
       have q1 := give_all g1 hr
       have q3 := held_down (r := r) se.1 g2
       show sumB (giveB s.pu t.iv.us t.iv.se (amV t)).1 r + updB s.he t.iv.se.toNat (s.he t.iv.se.toNat - amV t) r = _
       omega, rfl, rfl, rfl, rfl⟩, .inr (.inr ⟨_, x, 3, hx, hx1, .inr rfl, rfl⟩)⟩
theorem done_step {o : Orc} {s : Es} {t : Tr} (hs : OkE s) (ht : errT t = 0) (h : (doneE o s t).2 = 0) : StepE s (doneE o s t).1 ∧ LkE s.lk (doneE o s t).1.lk := by
 obtain ⟨k, _, _, _, _, hf⟩ := errT_all ht
 unfold doneE at h ⊢
 by_cases k4 : t.kd = 4
 ·
  rw [if_pos k4] at h ⊢; exact prep_step hs (hf (by omega)) h
 ·
  rw [if_neg k4] at h ⊢
  by_cases k5 : t.kd = 5
  ·
   rw [if_pos k5] at h ⊢; exact ful_step hs (hf (by omega)) h
  ·
   rw [if_neg k5] at h ⊢
   by_cases k6 : t.kd = 6
   ·
    rw [if_pos k6] at h ⊢; exact can_step hs (hf (by omega)) h
   ·
    rw [if_neg k6] at h ⊢; exact plain_step hs ht h
def takenE (s : Es) (t : Tr) : Prop := errT t = 0 ∧ t.no = s.no t.fr.toNat ∧ 1 ≤ s.pu (2 * t.fr.toNat) ∧ s.bu + 1 < M4
theorem apply_no {o : Orc} {s : Es} {t : Tr} (h : (applyE o s t).2.2 = false) : (applyE o s t).1 = s ∧ (applyE o s t).2.1 ≠ 0 := by
 unfold applyE at h ⊢
 by_cases e1 : errT t ≠ 0
 ·
  rw [if_pos e1]; exact ⟨rfl, e1⟩
 ·
  rw [if_neg e1] at h ⊢
  by_cases e2 : t.no ≠ s.no t.fr.toNat
  ·
   rw [if_pos e2]; exact ⟨rfl, by simp⟩
  ·
   rw [if_neg e2] at h ⊢
   by_cases e3 : ¬ 1 ≤ s.pu (2 * t.fr.toNat) ∨ ¬ s.bu + 1 < M4
   ·
    rw [if_pos e3]; exact ⟨rfl, by simp⟩
   ·
    rw [if_neg e3] at h ⊢
    by_cases e4 : (doneE o (paidE s t) t).2 ≠ 0
    ·
     rw [if_pos e4] at h; exact absurd h (by simp)
    ·
     rw [if_neg e4] at h; exact absurd h (by simp)
theorem apply_yes {o : Orc} {s : Es} {t : Tr} (h : (applyE o s t).2.2 = true) : takenE s t ∧
  ((applyE o s t).2.1 ≠ 0 ∧ (applyE o s t).1 = paidE s t ∨ (applyE o s t).2.1 = 0 ∧ (doneE o (paidE s t) t).2 = 0 ∧ (applyE o s t).1 = (doneE o (paidE s t) t).1) := by
 unfold applyE at h ⊢
 by_cases e1 : errT t ≠ 0
 ·
  rw [if_pos e1] at h; exact absurd h (by simp)
 ·
  rw [if_neg e1] at h ⊢
  by_cases e2 : t.no ≠ s.no t.fr.toNat
  ·
   rw [if_pos e2] at h; exact absurd h (by simp)
  ·
   rw [if_neg e2] at h ⊢
   by_cases e3 : ¬ 1 ≤ s.pu (2 * t.fr.toNat) ∨ ¬ s.bu + 1 < M4
   ·
    rw [if_pos e3] at h; exact absurd h (by simp)
   ·
    rw [if_neg e3] at h ⊢
    refine ⟨⟨Decidable.not_not.1 e1, Decidable.not_not.1 e2, Decidable.not_not.1 fun x => e3 (.inl x), Decidable.not_not.1 fun x => e3 (.inr x)⟩, ?_⟩
    by_cases e4 : (doneE o (paidE s t) t).2 ≠ 0
    ·
     rw [if_pos e4]; exact .inl ⟨e4, rfl⟩
    ·
     rw [if_neg e4]; exact .inr ⟨rfl, Decidable.not_not.1 e4, rfl⟩
theorem paid_ok {s : Es} {t : Tr} (hs : OkE s) (h : takenE s t) : OkE (paidE s t) :=
 ⟨hs.t0, hs.t1, hs.d, okK_upd hs.p _ (by
  obtain ⟨_, fr, _⟩ := errT_all h.1
  have := hs.p (2 * t.fr.toNat) (by omega)
  omega), hs.v, hs.h, h.2.2.2⟩
theorem paid_sum {s : Es} {t : Tr} (h : takenE s t) {r : Nat} (hr : r < 2) : sumB (paidE s t).pu r + (if r = 0 then 1 else 0) = sumB s.pu r := by
 obtain ⟨_, fr, _⟩ := errT_all h.1
 have hc := h.2.2.1
 unfold paidE
 show sumB (updB s.pu (2 * t.fr.toNat) (s.pu (2 * t.fr.toNat) - 1)) r + _ = _
 by_cases e : r = 0
 ·
  subst e
  have := sum_upd (b := s.pu) (a := t.fr.toNat) (s := 0) (s.pu (2 * t.fr.toNat) - 1) (by omega)
  rw [Nat.add_zero] at this
  rw [if_pos rfl]
  omega
 ·
  have := sum_other (b := s.pu) (a := t.fr.toNat) (s := 0) (r := r) (s.pu (2 * t.fr.toNat) - 1) (by omega) hr e
  rw [Nat.add_zero] at this
  rw [if_neg e, this, Nat.add_zero]
def sumE (s : Es) (r : Nat) : Nat := sumB s.pu r + s.he r + if r = 0 then s.bu else 0
theorem apply_ok {o : Orc} {s : Es} {t : Tr} (hs : OkE s) : OkE (applyE o s t).1 ∧ (∀ r, r < 2 → sumE (applyE o s t).1 r = sumE s r) ∧ (applyE o s t).1.sd = s.sd ∧ (applyE o s t).1.tm = s.tm ∧ LkE s.lk (applyE o s t).1.lk := by
 cases h : (applyE o s t).2.2 with
 | false =>
  rw [(apply_no h).1]
  exact ⟨hs, fun _ _ => rfl, rfl, rfl, .inl rfl⟩
 | true =>
  obtain ⟨ht, h1 | h1⟩ := apply_yes h
  ·
   rw [h1.2]
   refine ⟨paid_ok hs ht, fun r hr => ?_, rfl, rfl, .inl rfl⟩
   have := paid_sum ht hr
   unfold sumE
   show sumB (paidE s t).pu r + s.he r + (if r = 0 then s.bu + 1 else 0) = _
   split at this <;> simp_all <;> omega
  ·
   rw [h1.2.2]
   obtain ⟨st, lk⟩ := done_step (paid_ok hs ht) ht.1 h1.2.1
   refine ⟨st.ok, fun r hr => ?_, st.sd, st.tm, lk⟩
   have q1 := paid_sum ht hr
   have q2 := st.su r hr
   have q3 : (paidE s t).he = s.he := rfl
   have q4 : (paidE s t).bu = s.bu + 1 := rfl
   unfold sumE
   rw [st.bu, q4]
   rw [q3] at q2
   split at q1 <;> simp_all <;> omega
theorem gen_ok (a z : Int) : OkE (genE a z) := by
 have h0 : (0 : Nat) < M4 := by unfold M4 M; decide
 have h1 : (1000 : Nat) < M4 := by unfold M4 M; decide
 refine ⟨?_, ?_, ?_, fun _ _ => h1, fun _ _ => h0, ⟨h0, h0⟩, h0⟩
 ·
  show 0 ≤ (if z < 0 then 0 else if 1099511627776 < z then 1099511627776 else z)
  split
  ·
   exact Int.le_refl _
  ·
   split <;> omega
 ·
  show (if z < 0 then 0 else if 1099511627776 < z then 1099511627776 else z) ≤ 1099511627776
  split
  ·
   omega
  ·
   split <;> omega
 ·
  show (if a ≤ 0 then (0 : Int) else 1) = 0 ∨ (if a ≤ 0 then (0 : Int) else 1) = 1
  split
  ·
   exact .inl rfl
  ·
   exact .inr rfl
end Go.Proofs.YthhmdgmmeedhdaaGreat
