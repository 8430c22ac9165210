/-
  A number in six octets.
-/
import Derived.Test.YtjhfchjffiliaaaFieldOut
namespace Go.Proofs.Ytjhfchjffiliaaa
open Go.RowKit Go.Shelf

theorem num_one : numS ([], 0) 1 = ([0, 0, 0, 0, 0, 1], 0) := by decide
/-- 'string(b)', at this seat. -/
theorem str_of (W : World) {lo hi : Nat} {sv : Value} {l : List UInt8} (h : BSl lo hi W sv l) : (convert 23 9 sv).run Try.prog W = .ok (.string ⟨l.toArray⟩) W :=
  run_string (P := Try.prog) 23 5 9 Try.underlying23 Try.underlying5 Try.underlying9 W h

set_option maxRecDepth 100000 in
theorem alive_any (w : World) : Calls Try.prog 11 #[] w fun e W' => e = .returned (.bool true) ∧ Below w.heap.size w W' := by
  go_enter Try.func11, Try.ntmps11
  go_wp2_with (first
    | (go_at_call 29; refine (outNew_any w).mono ?_; rintro e w1 ⟨rfl, hz1, hO1, hb1⟩; have HZ := Lib.hid hz1; clear hz1)
    | (go_at_call 25; refine (outNum_any 1 w1 hO1).mono ?_; rw [num_one]; rintro e w2 ⟨rfl, hO2, hG2⟩)
    | (go_at_call 28; refine (outDone_any w2 hO2).mono ?_; rintro e w3 ⟨v, rfl, hv, hb3⟩; have hst := str_of w3 hv))
  go_ret
  exact ⟨rfl, (hb1.grown hG2 (by rw [HZ.out]; omega) (fun k e => by cases e; exact Nat.le_refl _)).trans (hb3.mono (Nat.le_trans (by rw [HZ.out]; omega) hG2.size))⟩
end Go.Proofs.Ytjhfchjffiliaaa
