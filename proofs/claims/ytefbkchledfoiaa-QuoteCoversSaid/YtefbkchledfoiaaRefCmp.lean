/-
  The reference's Cmp tells which of two numbers is greater.
-/
import Derived.Test.YtefbkchledfoiaaBlkW
import Derived.Test.YtefbkchledfoiaaRefDigits
import Derived.Test.YtefbkchledfoiaaRefMath
import Derived.Maps.AppendAt
import Derived.IntWalk
import Derived.Deep.QuietTactic
import Derived.Deep.RegionHeld3
import Derived.BigQuiet
namespace Go.Proofs.Ytefbkchledfoiaa
open Go.RowKit

set_option maxRecDepth 100000 in
set_option maxHeartbeats 4000000 in
theorem refCmp_any {a0 a1 a2 a3 b0 b1 b2 b3 : Nat} (ha : Ok4 a0 a1 a2 a3) (hb : Ok4 b0 b1 b2 b3) (w : World) :
    Calls Try.prog 12 #[wv a0 a1 a2 a3, wv b0 b1 b2 b3] w fun e W' => e = .returned (.int .i64 (cmpN (val a0 a1 a2 a3) (val b0 b1 b2 b3))) ∧ Below w.heap.size w W' := by
  go_enter Try.func12, Try.ntmps12
  go_wp2_with fail
  generalize hW0 : World.alloc _ _ = W0
  have kA : BlkW W0 w.heap.size a0 a1 a2 a3 := by rw [← hW0]; exact (Blk.new' (by simp)).alloc _
  have kB : BlkW W0 (w.heap.size + 1) b0 b1 b2 b3 := by rw [← hW0]; exact Blk.new' (by simp)
  have d0 : Below w.heap.size w W0 := by rw [← hW0]; exact chainA (chain0 _ _) _
  have hz' : w.heap.size + 1 < W0.heap.size := by rw [← hW0]; simp
  clear hW0
  obtain ⟨x0, x1, x2, x3⟩ := kA.c4
  obtain ⟨y0, y1, y2, y3⟩ := kB.c4
  go_region_held3 (fun W => W.cell? ⟨w.heap.size, 0, none⟩ = some (.int .u64 (a0 : Int)) ∧ W.cell? ⟨w.heap.size, 1, none⟩ = some (.int .u64 (a1 : Int)) ∧ W.cell? ⟨w.heap.size, 2, none⟩ = some (.int .u64 (a2 : Int)) ∧ W.cell? ⟨w.heap.size, 3, none⟩ = some (.int .u64 (a3 : Int)) ∧
      W.cell? ⟨w.heap.size + 1, 0, none⟩ = some (.int .u64 (b0 : Int)) ∧ W.cell? ⟨w.heap.size + 1, 1, none⟩ = some (.int .u64 (b1 : Int)) ∧ W.cell? ⟨w.heap.size + 1, 2, none⟩ = some (.int .u64 (b2 : Int)) ∧ W.cell? ⟨w.heap.size + 1, 3, none⟩ = some (.int .u64 (b3 : Int)))
    (first | go_keep | (refine ⟨?_, ?_, ?_, ?_, ?_, ?_, ?_, ?_⟩ <;> assumption))
    (first | (go_at_call 15; refine (digits_any (by first | exact ha | exact hb) _).mono ?_; rintro e W1 ⟨g1, p1, rfl, hg1, hl1, hn1, hb1⟩; have z1 := hb1.size; (try simp only [World.size_drew] at z1); have u00 := (hb1.cell (p := ⟨w.heap.size, 0, none⟩) (by simp; omega)).trans (by assumption); have u01 := (hb1.cell (p := ⟨w.heap.size, 1, none⟩) (by simp; omega)).trans (by assumption); have u02 := (hb1.cell (p := ⟨w.heap.size, 2, none⟩) (by simp; omega)).trans (by assumption); have u03 := (hb1.cell (p := ⟨w.heap.size, 3, none⟩) (by simp; omega)).trans (by assumption); have u10 := (hb1.cell (p := ⟨w.heap.size + 1, 0, none⟩) (by simp; omega)).trans (by assumption); have u11 := (hb1.cell (p := ⟨w.heap.size + 1, 1, none⟩) (by simp; omega)).trans (by assumption); have u12 := (hb1.cell (p := ⟨w.heap.size + 1, 2, none⟩) (by simp; omega)).trans (by assumption); have u13 := (hb1.cell (p := ⟨w.heap.size + 1, 3, none⟩) (by simp; omega)).trans (by assumption)))
  rename_i V1 g0 p0 hg0 hl0 hn0 hb0 z0 t0 t1 t2 t3 t4 t5 t6 t7 t8
  have d1 : Below w.heap.size w W1 := chain (chain d0.drew hb0) hb1
  have nx := hn0.below hb1 hl0
  have ny := hn1
  have hg0' : g0 < W1.heap.size := by omega
  have nA := nv_dg ha
  have nB := nv_dg hb
  clear x0 x1 x2 x3 y0 y1 y2 y3 t0 t1 t2 t3 t4 t5 t6 t7 t8 u00 u01 u02 u03 u10 u11 u12 u13 kA kB hn0 hn1 hb0 hb1
  generalize hA : dg a0 a1 a2 a3 = xs at *
  generalize hB : dg b0 b1 b2 b3 = ys at *
  have HA := Lib.hid hA
  have HB := Lib.hid hB
  have NA := Lib.hid nA
  have NB := Lib.hid nB
  clear hA hB nA nB
  have hxs : ∀ k, xs k < 65536 := fun k => by rw [← HA.out]; exact dg_lt _ _ _ _ k
  have hys : ∀ k, ys k < 65536 := fun k => by rw [← HB.out]; exact dg_lt _ _ _ _ k
  go_wp2
  go_loopw [7] (fun i wr => ∃ k : Nat, k ≤ 16 ∧ i = .int .i64 (15 - (k : Int)) ∧ (∀ t, t < 16 → 16 ≤ t + k → xs t = ys t) ∧ Below W1.heap.size W1 wr) (fun i _ => ((intOf i) + 1).toNat)
  case atStart => exact ⟨0, by omega, rfl, fun t h1 h2 => by omega, Below.refl _ _⟩
  case round =>
    obtain ⟨k, hk, rfl, hsame, hbel⟩ := hrel
    have HS := Lib.hid hsame
    clear hsame
    by_cases hlt : k < 16
    · obtain ⟨j, hj⟩ : ∃ j, j + k = 15 := ⟨15 - k, by omega⟩
      have hj16 : j < 16 := by omega
      have hji : (15 : Int) - (k : Int) = (j : Int) := by omega
      have hx := (nx.below hbel hg0') j hj16
      have hy := (ny.below hbel hl1) j hj16
      have bx := hxs j
      have bY := hys j
      rw [hji]
      have hj0 : (0 : Int) ≤ (j : Int) := by omega
      have hj1 : (j : Int) < 16 := by omega
      have HJ := Lib.hid hji
      clear hji
      have d2 : ∀ q, Below w.heap.size w (wr.drewN q) := fun q => (d1.trans (hbel.mono d1.size)).trans ⟨rfl, rfl, rfl, Nat.le_refl _, fun _ _ => rfl⟩
      have hlow : xs j < ys j → cmpN (val a0 a1 a2 a3) (val b0 b1 b2 b3) = -1 := fun h => by
        have := nv_less hxs h 16 hj16 (fun t h1 h2 => HS.out t h2 (by omega))
        rw [NA.out, NB.out] at this
        unfold cmpN; rw [if_pos this]
      have hhigh : ys j < xs j → cmpN (val a0 a1 a2 a3) (val b0 b1 b2 b3) = 1 := fun h => by
        have := nv_less hys h 16 hj16 (fun t h1 h2 => (HS.out t h2 (by omega)).symm)
        rw [NA.out, NB.out] at this
        unfold cmpN; rw [if_neg (by omega), if_pos this]
      have HLOW := Lib.hid hlow
      have HHIGH := Lib.hid hhigh
      clear hlow hhigh
      have HEQ : Hid (∀ e : xs j = ys j, ∀ t, t < 16 → 16 ≤ t + (k + 1) → xs t = ys t) := Lib.hid (fun e t h1 h2 => by
        by_cases ht : t = j
        · rw [ht]; exact e
        · exact HS.out t h1 (by omega))
      generalize xs j = x at *
      generalize ys j = y at *
      rcases Nat.lt_trichotomy x y with hxy | hxy | hxy
      · have hxy' : (x : Int) < (y : Int) := by omega
        have HC := Lib.hid (HLOW.out hxy)
        go_wp2_with fail
        go_quiet (fail)
        go_wp2
        go_ret
        exact ⟨by rw [HC.out]; rfl, d2 _⟩
      · have h1 : ¬ (x : Int) < (y : Int) := by omega
        have h2 : ¬ (y : Int) < (x : Int) := by omega
        have HE := Lib.hid (HEQ.out hxy)
        clear hxy
        go_wp2_with fail
        go_quiet (fail)
        go_wp2_with fail
        go_quiet (fail)
        go_wp2
        exact ⟨⟨k + 1, by omega, by rw [show (j : Int) - 1 = 15 - ((k + 1 : Nat) : Int) by omega], HE.out, hbel.trans ⟨rfl, rfl, rfl, Nat.le_refl _, fun _ _ => rfl⟩⟩, by simp [intOf]⟩
      · have h1 : ¬ (x : Int) < (y : Int) := by omega
        have h2 : (y : Int) < (x : Int) := by omega
        have HC := Lib.hid (HHIGH.out hxy)
        go_wp2_with fail
        go_quiet (fail)
        go_wp2_with fail
        go_quiet (fail)
        go_wp2
        go_ret
        exact ⟨by rw [HC.out]; rfl, (d2 0).trans ⟨rfl, rfl, rfl, Nat.le_refl _, fun _ _ => rfl⟩⟩
    · obtain rfl : k = 16 := by omega
      have e : nv xs 16 = nv ys 16 := nv_congr (fun t ht => HS.out t ht (by omega))
      rw [NA.out, NB.out] at e
      have HC : Hid (cmpN (val a0 a1 a2 a3) (val b0 b1 b2 b3) = 0) := Lib.hid (by unfold cmpN; rw [if_neg (by omega), if_neg (by omega)])
      clear e
      go_wp2
      go_ret
      exact ⟨by rw [HC.out]; rfl, d1.trans (hbel.mono d1.size)⟩
end Go.Proofs.Ytefbkchledfoiaa
