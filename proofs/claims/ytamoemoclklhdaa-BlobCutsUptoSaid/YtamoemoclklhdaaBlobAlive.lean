/-
  The law's own example: 258 in three octets.
-/
import Derived.Test.YtamoemoclklhdaaNum
namespace Go.Proofs.Ytamoemoclklhdaa
open Go.RowKit Go.Shelf

set_option maxHeartbeats 1000000 in
theorem blobAlive_any (w : World) : Calls Try.prog 15 #[] w fun e W' => e = .returned (.bool true) ∧ Below w.heap.size w W' := by
  go_enter Try.func15, Try.ntmps15
  go_wp2_with fail
  refine (num_any 258 3 (by omega) (by omega) _).mono ?_
  rintro e w1 ⟨sv, rfl, hsv, hb⟩
  have e1 : octs (two 258) (clamp 3) = [0, 1, 2] := by decide
  rw [e1] at hsv
  have hcv := run_string (P := Try.prog) 22 5 9 Try.underlying22 Try.underlying5 Try.underlying9 w1 hsv
  go_wp2_with fail
  go_ret
  exact ⟨rfl, hb⟩

end Go.Proofs.Ytamoemoclklhdaa
