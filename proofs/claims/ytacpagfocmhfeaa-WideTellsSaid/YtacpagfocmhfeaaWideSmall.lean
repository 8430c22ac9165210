/-
  wide.Small tells a wide number's lowest word, and whether it is all.
-/
import Derived.Test.YtacpagfocmhfeaaWideBits
import Derived.Test.YtacpagfocmhfeaaWideEq
import Derived.Deep.RegionHeld3
namespace Go.Proofs.Ytacpagfocmhfeaa
open Go.RowKit

theorem bitLen_pos {x : Nat} (h : x ≠ 0) : 1 ≤ Lib.bitLen x := by
  unfold Lib.bitLen Lib.bitLenAux
  rw [if_neg h]
  omega
theorem wbits_small {a0 a1 a2 a3 : Nat} (ha : Ok4 a0 a1 a2 a3) : wbits a0 a1 a2 a3 ≤ 64 ↔ a1 = 0 ∧ a2 = 0 ∧ a3 = 0 := by
  unfold wbits
  by_cases h3 : a3 = 0
  · by_cases h2 : a2 = 0
    · by_cases h1 : a1 = 0
      · rw [if_neg (by omega), if_neg (by omega), if_neg (by omega)]
        have := bitLen64 ha.h0
        split <;> simp [h1, h2, h3] <;> omega
      · rw [if_neg (by omega), if_neg (by omega), if_pos h1]
        have := bitLen_pos h1
        simp [h1]; omega
    · rw [if_neg (by omega), if_pos h2]
      simp [h2]; omega
  · rw [if_pos h3]
    simp [h3]; omega
theorem wbits_le {a0 a1 a2 a3 : Nat} (ha : Ok4 a0 a1 a2 a3) : wbits a0 a1 a2 a3 ≤ 256 := by
  have := bitLen64 ha.h0
  have := bitLen64 ha.h1
  have := bitLen64 ha.h2
  have := bitLen64 ha.h3
  unfold wbits
  split
  · omega
  · split
    · omega
    · split
      · omega
      · split <;> omega

def SmallW (a0 a1 a2 a3 : Nat) (w : World) (e : Ending) (W' : World) : Prop :=
  ((a1 = 0 ∧ a2 = 0 ∧ a3 = 0) ∧ e = .returned (.tuple #[.int .u64 (a0 : Int), .bool true]) ∧ Below w.heap.size w W') ∨ (¬ (a1 = 0 ∧ a2 = 0 ∧ a3 = 0) ∧ e = .returned (.tuple #[.int .u64 (a0 : Int), .bool false]) ∧ Below w.heap.size w W')

set_option maxRecDepth 100000 in
set_option maxHeartbeats 4000000 in
theorem small_any {a0 a1 a2 a3 : Nat} (ha : Ok4 a0 a1 a2 a3) (w : World) : Calls Try.prog 21 #[wv a0 a1 a2 a3] w (SmallW a0 a1 a2 a3 w) := by
  have hb := wbits_le ha
  have hs := wbits_small ha
  have HS := Lib.hid hs
  clear hs
  go_enter Try.func21, Try.ntmps21
  go_wp2_with fail
  generalize hW0 : World.alloc _ _ = W0
  have kA : BlkW W0 w.heap.size a0 a1 a2 a3 := by rw [← hW0]; exact Blk.new' (by simp)
  have d0 : Below w.heap.size w W0 := by rw [← hW0]; exact chain0 _ _
  have hz' : w.heap.size < W0.heap.size := by rw [← hW0]; simp
  clear hW0
  obtain ⟨x0, x1, x2, x3⟩ := kA.c4
  go_region_held3 (fun W => W.cell? ⟨w.heap.size, 0, none⟩ = some (.int .u64 (a0 : Int)) ∧ W.cell? ⟨w.heap.size, 1, none⟩ = some (.int .u64 (a1 : Int)) ∧ W.cell? ⟨w.heap.size, 2, none⟩ = some (.int .u64 (a2 : Int)) ∧ W.cell? ⟨w.heap.size, 3, none⟩ = some (.int .u64 (a3 : Int)))
    (first | go_keep | (refine ⟨?_, ?_, ?_, ?_⟩ <;> assumption))
    (first | (go_at_call 15; refine (bits_any ha _).mono ?_; rintro e W1 ⟨rfl, hb1⟩; have z1 := hb1.size; (try simp only [World.size_drew] at z1); have u00 := (hb1.cell (p := ⟨w.heap.size, 0, none⟩) (by simp; omega)).trans (by assumption); have u01 := (hb1.cell (p := ⟨w.heap.size, 1, none⟩) (by simp; omega)).trans (by assumption); have u02 := (hb1.cell (p := ⟨w.heap.size, 2, none⟩) (by simp; omega)).trans (by assumption); have u03 := (hb1.cell (p := ⟨w.heap.size, 3, none⟩) (by simp; omega)).trans (by assumption)))
  have d1 : Below w.heap.size w W1 := chain d0.drew hb1
  go_wp2
  go_ret2
  by_cases h : wbits a0 a1 a2 a3 ≤ 64
  · have e : decide ((wbits a0 a1 a2 a3 : Int) ≤ 64) = true := decide_eq_true (by omega)
    exact .inl ⟨HS.out.1 h, by rw [← e]; rfl, d1⟩
  · have e : decide ((wbits a0 a1 a2 a3 : Int) ≤ 64) = false := decide_eq_false (by omega)
    exact .inr ⟨fun hh => h (HS.out.2 hh), by rw [← e]; rfl, d1⟩
end Go.Proofs.Ytacpagfocmhfeaa
