/-
  The reference's root: the first 32 bits of a root's fraction, bit by bit.
-/
import Derived.Test.YtboadnbkfoclpaaRefPower
namespace Go.Proofs.Ytboadnbkfoclpaa
open Go.RowKit

/-- Bit by bit from j - 1 on down: as much as P lets in. -/
def gr (P : Nat → Bool) : Nat → Nat → Nat
  | 0, x => x
  | j + 1, x => gr P j (if P (x + 2 ^ j) then x + 2 ^ j else x)
/-- The bit at hand. -/
def pw2 : Nat → Nat
  | 0 => 0
  | j + 1 => 2 ^ j
theorem pw2_half (j : Nat) : pw2 (j + 1) / 2 = pw2 j := by
  cases j with
  | zero => rfl
  | succ j => show 2 ^ (j + 1) / 2 = 2 ^ j; rw [Nat.pow_succ]; omega
theorem pw2_pos (j : Nat) : 0 < pw2 (j + 1) := Nat.two_pow_pos j
theorem pw2_le : ∀ j, j ≤ 37 → pw2 j ≤ 68719476736
  | 0, _ => by simp [pw2]
  | j + 1, h => by show 2 ^ j ≤ 2 ^ 36; exact Nat.pow_le_pow_right (by omega) (by omega)

def rootP (e n : Nat) : Nat → Bool := fun y => if e = 2 then sq2 y n else cb3 y n
def rootV (e n : Nat) : Nat := gr (rootP e n) 37 0 % 4294967296

theorem power_any (x e n : Nat) (he : e = 2 ∨ e = 3) (hx : x ≤ 137438953472) (hn : n ≤ 1000) (w : World) : Calls Try.prog 28 #[.int .u64 (x : Int), .int .i64 (e : Int), .int .u64 (n : Int)] w fun en W' => en = .returned (.bool (rootP e n x)) ∧ Below w.heap.size w W' := by
  rcases he with rfl | rfl
  · exact power2_any x n hx hn w
  · exact power3_any x n hx hn w

set_option maxRecDepth 100000 in
set_option maxHeartbeats 2000000 in
theorem root_any (n e : Nat) (he : e = 2 ∨ e = 3) (hn : n ≤ 1000) (w : World) : Calls Try.prog 16 #[.int .i64 (n : Int), .int .i64 (e : Int)] w fun en W' => en = .returned (.int .u32 (rootV e n : Nat)) ∧ Below w.heap.size w W' := by
  have hn' : (n : Int) ≤ 1000 := by omega
  go_enter Try.func16, Try.ntmps16
  go_wp2_with fail
  go_loopw [5, 6] (fun x b wr => ∃ j y : Nat, j ≤ 37 ∧ b = .int .u64 (pw2 j : Nat) ∧ x = .int .u64 (y : Nat) ∧ y + 2 * pw2 j ≤ 137438953472 ∧ Hid (gr (rootP e n) j y = gr (rootP e n) 37 0) ∧ Below w.heap.size w wr) (fun _ b _ => (intOf b).toNat)
  case atStart => exact ⟨37, 0, by omega, by rfl, rfl, by decide, Lib.hid rfl, Below.refl _ _⟩
  case round =>
    obtain ⟨j, y, hj, rfl, rfl, hy, HG, hB⟩ := hrel
    rcases j with _ | j
    · have h0 : ¬ (0 : Int) < ((pw2 0 : Nat) : Int) := by simp [pw2]
      have hV : rootV e n = y % 4294967296 := by unfold rootV; rw [← HG.out]; rfl
      have HV := Lib.hid hV
      clear hV
      have hy' : (y : Int) ≤ 137438953472 := by omega
      generalize pw2 0 = b at *
      go_wp2_with fail
      go_ret
      refine ⟨?_, hB⟩
      show Ending.returned (.int .u32 ((y : Int) % 4294967296)) = _
      rw [HV.out]
      simp
    · have hp := pw2_pos j
      have hh := pw2_half j
      have hle := pw2_le (j + 1) hj
      have HH := Lib.hid hh
      have HS := Lib.hid (show gr (rootP e n) (j + 1) y = gr (rootP e n) j (if rootP e n (y + pw2 (j + 1)) then y + pw2 (j + 1) else y) from rfl)
      have hp2 : pw2 j * 2 ≤ pw2 (j + 1) := by omega
      clear hh
      generalize pw2 (j + 1) = b at *
      have hb0 : 0 < (b : Int) := by omega
      have hb1 : (b : Int) ≤ 68719476736 := by omega
      have hyb : (y : Int) + (b : Int) ≤ 137438953472 := by omega
      go_wp2_with fail
      rw [show (y : Int) + (b : Int) = ((y + b : Nat) : Int) by omega]
      refine (power_any (y + b) e n he (by omega) hn _).mono ?_
      rintro en w2 ⟨rfl, hb2⟩
      have hB2 := chain hB hb2
      have hhalf : (b : Int) / 2 = ((pw2 j : Nat) : Int) := by have := HH.out; omega
      have HH2 := Lib.hid hhalf
      clear hhalf
      cases hpw : rootP e n (y + b) with
      | true =>
        have HP := Lib.hid hpw
        clear hpw
        go_wp2_with fail
        rw [HH2.out, show (y : Int) + (b : Int) = ((y + b : Nat) : Int) by omega]
        exact ⟨⟨j, y + b, by omega, rfl, rfl, by omega, Lib.hid (by rw [← HG.out, HS.out, HP.out]; rfl), hB2⟩, by simp [intOf]; have := HH.out; omega⟩
      | false =>
        have HP := Lib.hid hpw
        clear hpw
        go_wp2_with fail
        rw [HH2.out]
        exact ⟨⟨j, y, by omega, rfl, rfl, by omega, Lib.hid (by rw [← HG.out, HS.out, HP.out]; rfl), hB2⟩, by simp [intOf]; have := HH.out; omega⟩
end Go.Proofs.Ytboadnbkfoclpaa
