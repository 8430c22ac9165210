/-
  Words of 32 bits: rotations to the right.
-/
import Derived.WalkKit
import Derived.Laws.BitsLemmas
import Derived.Lib.Hide
import Derived.Test.YtneilnfjnbecbaaProg
namespace Go.Proofs.Ytneilnfjnbecbaa
open Go.RowKit

/-- x, turned to the right by n bits. -/
def rot (x : Int) (n : Nat) : Int := bits .or .u32 (x / (2 : Int) ^ n) (x * (2 : Int) ^ (32 - n) % 4294967296)
theorem or_comm32 (a b : Int) : bits .or .u32 a b = bits .or .u32 b a := by simp only [bits, BitVec.or_comm]
theorem mask31 (n : Nat) (h : n ∈ [2, 3, 6, 7, 10, 11, 13, 17, 18, 19, 22, 25]) : bits .and .u64 (IntKind.u64.wrap (-(n : Int))) 31 = ((32 - n : Nat) : Int) := by
  simp only [List.mem_cons, List.not_mem_nil, or_false] at h
  rcases h with rfl | rfl | rfl | rfl | rfl | rfl | rfl | rfl | rfl | rfl | rfl | rfl <;> decide

set_option maxHeartbeats 1000000 in
theorem rotateLeft_any (x : Int) (k : Int) (s : Nat) (hs : bits .and .u64 (IntKind.u64.wrap k) 31 = (s : Int)) (h0 : 1 ≤ (s : Int)) (h1 : (s : Int) ≤ 31) (w : World) : Calls Try.prog 75 #[.int .u32 x, .int .i64 k] w fun e w' => e = .returned (.int .u32 (rot x (32 - s))) ∧ w = w' := by
  go_enter Try.func75, Try.ntmps75
  go_wp2
  go_ret
  refine ⟨?_, rfl⟩
  have hr : rot x (32 - s) = bits .or .u32 (x * 2 ^ s % 4294967296) (x / 2 ^ (32 - s)) := by
    unfold rot
    rw [or_comm32, show 32 - (32 - s) = s by omega]
  rw [hr]
  rfl

/-- How far words are turned. -/
def turns (n : Nat) : Prop := n ∈ [2, 3, 6, 7, 10, 11, 13, 17, 18, 19, 22, 25]
set_option maxHeartbeats 1000000 in
theorem rotr_any (x : Int) (n : Nat) (hn : turns n) (w : World) : Calls Try.prog 64 #[.int .u32 x, .int .i64 (n : Int)] w fun e w' => e = .returned (.int .u32 (rot x n)) ∧ w = w' := by
  have hs := mask31 n hn
  have hb : 1 ≤ n ∧ n ≤ 31 := by
    unfold turns at hn
    simp only [List.mem_cons, List.not_mem_nil, or_false] at hn
    omega
  obtain ⟨hb1, hb2⟩ := hb
  have HN := Lib.hid hs
  clear hs hn
  have hm : (n : Int) ≤ 31 := by omega
  go_enter Try.func64, Try.ntmps64
  go_wp2_with (go_at_call 75; refine (rotateLeft_any _ _ _ HN.out (by omega) (by omega) _).mono ?_; rintro e w' ⟨rfl, rfl⟩)
  go_ret
  have hq : 32 - (32 - n) = n := by omega
  exact ⟨congrArg (fun q => Ending.returned (.int .u32 (rot x q))) hq, rfl⟩

theorem rotr_still (x : Int) (k : Int) (n : Nat) (hn : turns n) (hk : k = (n : Int)) (w : World) : Calls Try.prog 64 #[.int .u32 x, .int .i64 k] w fun e w' => e = .returned (.int .u32 (rot x n)) ∧ w' = w := by
  subst hk; exact (rotr_any x n hn w).mono fun _ _ h => ⟨h.1, h.2.symm⟩

set_option maxHeartbeats 1000000 in
theorem turn_any (x : Int) (n : Nat) (hn : turns n) (w : World) : Calls Try.prog 78 #[.int .u32 x, .int .i64 (n : Int)] w fun e w' => e = .returned (.int .u32 (rot x n)) ∧ w = w' := by
  have hb : 1 ≤ (n : Int) ∧ (n : Int) ≤ 31 := by
    unfold turns at hn
    simp only [List.mem_cons, List.not_mem_nil, or_false] at hn
    omega
  obtain ⟨hb1, hb2⟩ := hb
  clear hn
  have hw : (32 : Int) - (n : Int) = ((32 - n : Nat) : Int) := by omega
  go_enter Try.func78, Try.ntmps78
  go_wp2
  go_ret
  exact ⟨rfl, rfl⟩
theorem turn_still (x : Int) (k : Int) (n : Nat) (hn : turns n) (hk : k = (n : Int)) (w : World) : Calls Try.prog 78 #[.int .u32 x, .int .i64 k] w fun e w' => e = .returned (.int .u32 (rot x n)) ∧ w' = w := by
  subst hk; exact (turn_any x n hn w).mono fun _ _ h => ⟨h.1, h.2.symm⟩
theorem t2 : turns 2 := by unfold turns; simp
theorem t6 : turns 6 := by unfold turns; simp
theorem t7 : turns 7 := by unfold turns; simp
theorem t11 : turns 11 := by unfold turns; simp
theorem t13 : turns 13 := by unfold turns; simp
theorem t17 : turns 17 := by unfold turns; simp
theorem t18 : turns 18 := by unfold turns; simp
theorem t19 : turns 19 := by unfold turns; simp
theorem t22 : turns 22 := by unfold turns; simp
theorem t25 : turns 25 := by unfold turns; simp
end Go.Proofs.Ytneilnfjnbecbaa
