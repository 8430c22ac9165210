/-
  The digits, each; the law's own example: they are fifteen.
-/
import Derived.Test.YtneilnfjnbecbaaOtsDigits
import Derived.Outline
namespace Go.Proofs.Ytneilnfjnbecbaa
open Go.RowKit Go.Shelf

/-- The digit at place k of fifteen. -/
def digF (l : List UInt8) (k : Nat) : Nat := if k < 12 then dig (headN l) (11 - k) else dig (restN l) (14 - k)
theorem digF_le (l : List UInt8) (k : Nat) : digF l k ≤ 3 := by unfold digF; split <;> exact dig_le _ _
theorem digF_step (l : List UInt8) (k : Nat) (h : k < 12) : sumTo12 (headN l) (k + 1) = sumTo12 (headN l) k + digF l k := by rw [sumTo12_succ]; unfold digF; rw [if_pos h]
theorem digL_at (l : List UInt8) {k : Nat} (h : k < 15) : (digL l)[k]? = some (digF l k : Int) := by
  unfold digL digF
  by_cases h12 : k < 12
  · rw [List.getElem?_append_left (by rw [digs_length]; exact h12), digs_at _ h12, if_pos h12]
  · rw [List.getElem?_append_right (by rw [digs_length]; omega), digs_length, digs_at _ (by omega), if_neg h12]
    congr 3; omega
theorem digF_sum (l : List UInt8) : 16 * digF l 12 + 4 * digF l 13 + digF l 14 = 36 - sumTo12 (headN l) 12 := by
  have h := sumTo12_le (headN l) 12
  have hr : restN l = 36 - sumTo12 (headN l) 12 := rfl
  show 16 * dig (restN l) 2 + 4 * dig (restN l) 1 + dig (restN l) 0 = _
  unfold dig
  rw [← hr]
  have : restN l ≤ 36 := by omega
  omega
theorem digRow {lo : Nat} {W : World} {v : Value} {l : List UInt8} (h : W.ownsRow lo 3 1 v 15 ((digL l).map iv)) :
    ∃ g c, v = .slice (some ⟨g, 0, none⟩) 15 c ∧ g < W.heap.size ∧ 15 ≤ c ∧ ∀ k, k < 15 → W.cell? ⟨g, k, none⟩ = some (.int .i64 (digF l k : Int)) := by
  have hq := VSl.of_own (vs := (digL l).map iv) (by rw [List.length_map, digL_length]; exact h)
  obtain ⟨g, c, rfl⟩ := ownsRow_succ h
  obtain ⟨a', c', e, hc, h0 | ⟨b, off, ha, _, hb, hr⟩⟩ := hq
  · have := congrArg List.length h0
    rw [List.length_map, digL_length] at this
    simp at this
  · rw [List.length_map, digL_length] at e hc
    cases e
    cases ha
    exact ⟨g, c, rfl, hb, hc, fun k hk => by
      have := hr k (.int .i64 (digF l k : Int)) (by rw [List.getElem?_map, digL_at l hk]; rfl)
      rwa [Nat.zero_add] at this⟩

set_option maxRecDepth 100000 in
set_option maxHeartbeats 2000000 in
theorem otsAlive_any (w : World) : Calls Try.prog 7 #[] w fun e W' => e = .returned (.bool true) ∧ Below w.heap.size w W' := by
  go_enter Try.func7, Try.ntmps7
  go_wp2_with fail
  refine (digitsOf_any [] _ _ (by simp) (BSl.nil _ _ _)).mono ?_
  rintro e w1 ⟨v, rfl, hown, hb1⟩
  obtain ⟨g, c, rfl, _⟩ := digRow hown
  go_wp2_with fail
  go_ret
  exact ⟨rfl, hb1⟩
end Go.Proofs.Ytneilnfjnbecbaa
