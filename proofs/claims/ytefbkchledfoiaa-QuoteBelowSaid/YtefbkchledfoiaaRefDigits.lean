/-
  The reference's Digits tells the sixteen digits of a wide number.
-/
import Derived.Test.YtefbkchledfoiaaRefBase
import Derived.Maps.AppendAt
namespace Go.Proofs.Ytefbkchledfoiaa
open Go.RowKit

set_option maxRecDepth 100000 in
set_option maxHeartbeats 2000000 in
theorem digits_any {a0 a1 a2 a3 : Nat} (ha : Ok4 a0 a1 a2 a3) (w : World) :
    Calls Try.prog 15 #[wv a0 a1 a2 a3] w (SlW 16 (dg a0 a1 a2 a3) w) := by
  obtain ⟨i0, hi, hz0, hz1, hz2⟩ := info_parts Try.infoInt
  obtain ⟨B, hB⟩ : ∃ B, B = w.heap.size := ⟨_, rfl⟩
  go_enter Try.func15, Try.ntmps15
  go_wp2
  go_loopw [3, 4] (fun v i wr => ∃ k : Nat, k ≤ 4 ∧ i = .int .i64 k ∧ OR wr (w.heap.size + 1) v (4 * k) (dg a0 a1 a2 a3) ∧ Blk wr w.heap.size 24 (ws (word a0 a1 a2 a3)) ∧ Below w.heap.size w wr ∧ w.heap.size + 1 ≤ wr.heap.size) (fun _ i _ => 4 - (intOf i).toNat)
  case atStart => exact ⟨0, by omega, rfl, OR.nil _ _ _, Blk.new _ _ _, chain0 _ _, by simp⟩
  case round =>
    obtain ⟨k, hk, rfl, hown, hblk, hbel, hsz⟩ := hrel
    by_cases hlt : k < 4
    · have hk' : (k : Int) < 4 := by omega
      have hc := hblk.cell k
      rw [ws_at _ hlt] at hc
      go_wp2
      obtain ⟨wo, rfl⟩ : ∃ wo : World, wo = wr := ⟨_, rfl⟩
      have hw := word_lt ha.h0 ha.h1 ha.h2 ha.h3 k
      go_loopw [3, 5, 6] (fun v x j wr => ∃ t : Nat, t ≤ 4 ∧ j = .int .i64 t ∧ x = .int .u64 (sh (word a0 a1 a2 a3 k) t : Nat) ∧ OR wr (w.heap.size + 1) v (4 * k + t) (dg a0 a1 a2 a3) ∧ Blk wr w.heap.size 24 (ws (word a0 a1 a2 a3)) ∧ Below w.heap.size w wr ∧ w.heap.size + 1 ≤ wr.heap.size) (fun _ _ j _ => 4 - (intOf j).toNat)
      case atStart => exact ⟨0, by omega, rfl, rfl, hown, hblk, hbel, hsz⟩
      case round =>
        obtain ⟨t, ht, rfl, rfl, hown, hblk, hbel, hsz⟩ := hrel
        by_cases hlt' : t < 4
        · have ht' : (t : Int) < 4 := by omega
          have hx := sh_lt hw t
          have hx0 : ((sh (word a0 a1 a2 a3 k) t : Nat) : Int) ≤ 18446744073709551615 := by unfold M at hx; omega
          have hd := dg_at (a0 := a0) (a1 := a1) (a2 := a2) (a3 := a3) (k := k) hlt'
          have HD := Lib.hid hd
          clear hd
          have hsx : sh (word a0 a1 a2 a3 k) (t + 1) = sh (word a0 a1 a2 a3 k) t / 65536 := rfl
          have HS := Lib.hid hsx
          clear hsx
          generalize sh (word a0 a1 a2 a3 k) t = x at *
          go_wp2_with (at_builtin; refine wpList_append_own _ rfl _ _ 36 rfl (w.heap.size + 1) 3 i0 (.int .i64 0) 1 8 Try.underlying36 hi hz0 hz1 hz2 rfl (by decide) _ _ _ rfl (hown.out.alloc _) ⟨wr.heap.size, 0, none⟩ 1 1 [.int .i64 ((x : Int) % 65536)] rfl rfl (cell_one_new _ _ _) (by simp [Value.oneCell']) (by unfold maxLen; omega) (by omega) (by simp; omega) ?_; intro v' w1 hown' hgrow _)
          have hg : (wr.alloc (.cells #[.int .i64 ((x : Int) % 65536)] 3)).grownBy w1 u3.ownBlock := hgrow
          obtain ⟨h1, h2, h3⟩ := hown.grown hsz hown' hg (by rw [HD.out]; omega)
          refine ⟨⟨t + 1, by omega, by simp, by rw [HS.out]; simp, h1, hblk.below h3 (by omega), hbel.trans (h3.mono (by omega)), h2⟩, by simp [intOf]; omega⟩
        · obtain rfl : t = 4 := by omega
          go_wp2
          exact ⟨⟨k + 1, by omega, by simp, hown, hblk, hbel, hsz⟩, by simp [intOf]; omega⟩
    · obtain rfl : k = 4 := by omega
      go_wp2
      go_ret
      obtain ⟨g, cap, rfl, h1, h2, h3⟩ := hown.nums (by omega)
      exact ⟨g, cap, rfl, by omega, h2, h3, hbel⟩
end Go.Proofs.Ytefbkchledfoiaa
