/-
  The reference's power: whether a number's square, or cube, is at most so much.
-/
import Derived.Test.YtboadnbkfoclpaaRefMul
import Derived.Test.YtboadnbkfoclpaaRefCmp
import Derived.Outline
namespace Go.Proofs.Ytboadnbkfoclpaa
open Go.RowKit

theorem ok1 {x : Nat} (h : x < M) : Ok4 x 0 0 0 := ⟨h, M_pos, M_pos, M_pos⟩
theorem ok2 {x : Nat} (h : x < M) : Ok4 0 x 0 0 := ⟨M_pos, h, M_pos, M_pos⟩
theorem val1 (x : Nat) : val x 0 0 0 = x := by simp [val]
theorem val2 (x : Nat) : val 0 x 0 0 = M * x := by simp [val]

theorem cmpN_le (a b : Nat) : decide (cmpN a b ≤ 0) = decide (a ≤ b) := by
  unfold cmpN
  by_cases h1 : a < b
  · rw [if_pos h1]; simp; omega
  · rw [if_neg h1]
    by_cases h2 : b < a
    · rw [if_pos h2]; simp; omega
    · rw [if_neg h2]; simp; omega

def sq2 (x n : Nat) : Bool := decide (x * x ≤ M * n)
def cb3 (x n : Nat) : Bool := decide (x * x * x ≤ M * n * 4294967296)

set_option maxRecDepth 100000 in
set_option maxHeartbeats 2000000 in
theorem power2_any (x n : Nat) (hx : x ≤ 137438953472) (hn : n ≤ 1000) (w : World) : Calls Try.prog 28 #[.int .u64 (x : Int), .int .i64 2, .int .u64 (n : Int)] w fun e W' => e = .returned (.bool (sq2 x n)) ∧ Below w.heap.size w W' := by
  have hxM : x < M := by unfold M; omega
  have hnM : n < M := by unfold M; omega
  have hx2 : x * x < M4 := by
    have := Nat.mul_le_mul hx hx
    unfold M4 M; omega
  go_enter Try.func28, Try.ntmps28
  go_wp2_with fail
  refine (refMul_any (ok1 hxM) hxM _).mono ?_
  rintro e w1 (⟨_, s0, s1, s2, s3, hs, hv, rfl, hb1⟩ | ⟨hbig, _⟩)
  · rw [val1] at hv
    have HV := Lib.hid hv
    clear hv hx2
    go_wp2_with fail
    refine (refCmp_any hs (ok2 hnM) _).mono ?_
    rintro e w2 ⟨rfl, hb2⟩
    have hc : decide (cmpN (val s0 s1 s2 s3) (val 0 n 0 0) ≤ 0) = sq2 x n := by rw [cmpN_le, HV.out, val2]; rfl
    have HC := Lib.hid hc
    clear hc
    have hB := chain (chainA (chainA hb1 _) _) hb2
    generalize cmpN (val s0 s1 s2 s3) (val 0 n 0 0) = z at *
    go_wp2_with fail
    go_ret
    exact ⟨by rw [← HC.out]; rfl, hB⟩
  · rw [val1] at hbig
    omega

set_option maxRecDepth 100000 in
set_option maxHeartbeats 2000000 in
theorem power3_any (x n : Nat) (hx : x ≤ 137438953472) (hn : n ≤ 1000) (w : World) : Calls Try.prog 28 #[.int .u64 (x : Int), .int .i64 3, .int .u64 (n : Int)] w fun e W' => e = .returned (.bool (cb3 x n)) ∧ Below w.heap.size w W' := by
  have hxM : x < M := by unfold M; omega
  have hnM : n < M := by unfold M; omega
  have hx2 := Nat.mul_le_mul hx hx
  have hx3 := Nat.mul_le_mul hx2 hx
  have hm3 : M * n * 4294967296 < M4 := by unfold M4 M; omega
  have H2 : Hid (x * x < M4) := Lib.hid (by unfold M4 M; omega)
  have H3 : Hid (x * x * x < M4) := Lib.hid (by unfold M4 M; omega)
  have HM3 := Lib.hid hm3
  clear hx2 hx3 hm3
  go_enter Try.func28, Try.ntmps28
  go_wp2_with fail
  refine (refMul_any (ok1 hxM) hxM _).mono ?_
  rintro e w1 (⟨hl, s0, s1, s2, s3, hs, hv, rfl, hb1⟩ | ⟨hbig, _⟩)
  · clear hl
    rw [val1] at hv
    have HV := Lib.hid hv
    clear hv
    go_wp2_with fail
    generalize hW1 : World.alloc _ _ = W1
    have kA : BlkW W1 w1.heap.size s0 s1 s2 s3 := by rw [← hW1]; exact (Blk.new' rfl).alloc _
    have kB : BlkW W1 (w1.heap.size + 1) 0 n 0 0 := by rw [← hW1]; exact Blk.new' (by simp)
    have d1 : Below w.heap.size w W1 := by rw [← hW1]; exact chainA (chainA hb1 _) _
    have hw1 := hb1.size
    clear hW1
    refine (refMul_any hs hxM _).mono ?_
    rintro e w2 (⟨hl, t0, t1, t2, t3, ht, hv, rfl, hb2⟩ | ⟨hbig, _⟩)
    case inr => rw [HV.out] at hbig; have := H3.out; omega
    clear hl
    rw [HV.out] at hv
    have HT := Lib.hid hv
    clear hv
    replace kA := kA.below hb2 kA.lt
    replace kB := kB.below hb2 kB.lt
    replace d1 := chain d1 hb2
    obtain ⟨a0, a1, a2, a3⟩ := kA.c4
    have f0 := kA.frozen 0
    have f1 := kA.frozen 1
    have f2 := kA.frozen 2
    have f3 := kA.frozen 3
    have lB := kB.lt
    go_wp2_with fail
    have kA' := (((kA.set 0 (.int .u64 (t0 : Nat))).set 1 (.int .u64 (t1 : Nat))).set 2 (.int .u64 (t2 : Nat))).set 3 (.int .u64 (t3 : Nat))
    have kB' := (((kB.other (B' := w1.heap.size) 0 (.int .u64 (t0 : Nat)) (by omega)).other (B' := w1.heap.size) 1 (.int .u64 (t1 : Nat)) (by omega)).other (B' := w1.heap.size) 2 (.int .u64 (t2 : Nat)) (by omega)).other (B' := w1.heap.size) 3 (.int .u64 (t3 : Nat)) (by omega)
    have d2 := (((d1.setCell (p := ⟨w1.heap.size, 0, none⟩) hw1 (.int .u64 (t0 : Nat))).setCell (p := ⟨w1.heap.size, 1, none⟩) hw1 (.int .u64 (t1 : Nat))).setCell (p := ⟨w1.heap.size, 2, none⟩) hw1 (.int .u64 (t2 : Nat))).setCell (p := ⟨w1.heap.size, 3, none⟩) hw1 (.int .u64 (t3 : Nat))
    clear a0 a1 a2 a3 f0 f1 f2 f3 lB kA kB d1 hb2
    generalize World.setCell _ _ _ = W2 at *
    refine (refMul_any (ok2 hnM) (show 4294967296 < M by unfold M; omega) _).mono ?_
    rintro e w3 (⟨hl, u0, u1, u2, u3, hu, hv, rfl, hb3⟩ | ⟨hbig, _⟩)
    case inr => rw [val2] at hbig; have := HM3.out; omega
    clear hl
    rw [val2] at hv
    have HU := Lib.hid hv
    clear hv
    replace kA' : BlkW w3 w1.heap.size t0 t1 t2 t3 := Blk.below kA' hb3 (Blk.lt kA')
    replace kB' := kB'.below hb3 kB'.lt
    replace d2 := chain d2 hb3
    obtain ⟨b0, b1, b2, b3⟩ := kB'.c4
    obtain ⟨a0, a1, a2, a3⟩ := kA'.c4
    have f0 := kB'.frozen 0
    have f1 := kB'.frozen 1
    have f2 := kB'.frozen 2
    have f3 := kB'.frozen 3
    go_wp2_with fail
    have d3 := (((d2.setCell (p := ⟨w1.heap.size + 1, 0, none⟩) (by simp; omega) (.int .u64 (u0 : Nat))).setCell (p := ⟨w1.heap.size + 1, 1, none⟩) (by simp; omega) (.int .u64 (u1 : Nat))).setCell (p := ⟨w1.heap.size + 1, 2, none⟩) (by simp; omega) (.int .u64 (u2 : Nat))).setCell (p := ⟨w1.heap.size + 1, 3, none⟩) (by simp; omega) (.int .u64 (u3 : Nat))
    clear a0 a1 a2 a3 b0 b1 b2 b3 f0 f1 f2 f3 kA' kB' d2 hb3
    generalize World.setCell _ _ _ = W3 at *
    refine (refCmp_any ht hu _).mono ?_
    rintro e w4 ⟨rfl, hb4⟩
    have hc : decide (cmpN (val t0 t1 t2 t3) (val u0 u1 u2 u3) ≤ 0) = cb3 x n := by rw [cmpN_le, HT.out, HU.out]; rfl
    have HC := Lib.hid hc
    clear hc
    have hB := chain d3 hb4
    generalize cmpN (val t0 t1 t2 t3) (val u0 u1 u2 u3) = z at *
    go_wp2_with fail
    go_ret
    exact ⟨by rw [← HC.out]; rfl, hB⟩
  · rw [val1] at hbig
    have := H2.out
    omega
end Go.Proofs.Ytboadnbkfoclpaa
