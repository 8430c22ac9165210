/-
  blob.Num: the lowest octets of a number.
-/
import Derived.Test.YtedoogoelolbdaaOctets
namespace Go.Proofs.Ytedoogoelolbdaa
open Go.RowKit Go.Shelf
attribute [local go_sem] Oper.semAt_some

/-- A slice of these octets, in memory of the call's own. -/
def ByW (l : List UInt8) (w : World) (e : Ending) (W' : World) : Prop := ∃ sv, e = .returned sv ∧ BSl w.heap.size W'.heap.size W' sv l ∧ Below w.heap.size w W'
/-- From 0 to 8, else the nearest. -/
def clamp (z : Int) : Nat := if z ≤ 0 then 0 else if 8 ≤ z then 8 else z.toNat
/-- A number as its two's complement. -/
def two (z : Int) : Nat := (z % 18446744073709551616).toNat

theorem Try.infoByte : (Try.prog.info? 5).map (fun i => (i.zero, i.size, i.bytes)) = some (some (.int .u8 0), 1, 1) := by kernel_rfl
theorem wrap_two (z : Int) : IntKind.u64.wrap z = (two z : Nat) := by
  unfold two
  simp [IntKind.wrap, IntKind.bits, IntKind.signed]
  omega
theorem clamp_le (z : Int) : clamp z ≤ 8 := by unfold clamp; split; · omega
                                               split <;> omega
theorem clamp_cases (z : Int) : (z < 0 ∧ (clamp z : Int) = 0) ∨ (0 ≤ z ∧ z ≤ 8 ∧ (clamp z : Int) = z) ∨ (8 < z ∧ (clamp z : Int) = 8) := by
  unfold clamp
  by_cases h0 : z < 0
  · rw [if_pos (by omega)]; exact .inl ⟨h0, rfl⟩
  · by_cases h8 : 8 < z
    · rw [if_neg (by omega), if_pos (by omega)]; exact .inr (.inr ⟨h8, rfl⟩)
    · refine .inr (.inl ⟨by omega, by omega, ?_⟩)
      by_cases e0 : z = 0
      · rw [if_pos (by omega)]; omega
      · rw [if_neg (by omega)]
        by_cases e8 : z = 8
        · rw [if_pos (by omega)]; omega
        · rw [if_neg (by omega)]; omega
end Go.Proofs.Ytedoogoelolbdaa
