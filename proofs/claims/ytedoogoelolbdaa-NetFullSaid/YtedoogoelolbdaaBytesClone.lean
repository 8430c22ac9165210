/-
  bytes.Clone.
-/
import Derived.Test.YtedoogoelolbdaaAppendB
import Derived.Laws.OwnMore
import Derived.WalkSpells
namespace Go.Proofs.Ytedoogoelolbdaa
open Go.RowKit Go.Shelf

set_option maxRecDepth 100000 in
set_option maxHeartbeats 1000000 in
theorem bytesClone_any (l : List UInt8) (sv : Value) (w : World) {lo hi' : Nat} (hreach : l.length ≤ 140737488355328) (hsv : BSl lo hi' w sv l) (hhi : hi' ≤ w.heap.size) :
    Calls Try.prog 21 #[sv] w (ByO l w) := by
  obtain ⟨i0, hi, hz0, hz1, hz2⟩ := info_parts Try.infoByte
  have hsv0 := hsv
  obtain ⟨a, cap, rfl, hcap, h0⟩ := hsv
  rcases a with _ | ad
  · have hl : l = [] := by
      rcases h0 with h0 | ⟨_, _, h, _⟩
      · exact h0
      · cases h
    subst hl
    have hnil := fun w => Lib.run_eql_slice_nil (P := Try.prog) w 25 5 none 0 cap 0 0 Try.underlying25
    change Calls _ _ #[.slice none 0 cap] _ _
    go_enter Try.func21, Try.ntmps21
    go_wp2
    go_ret
    exact ⟨_, rfl, World.ownsRow_nil _ _ _ _, Below.refl _ _⟩
  · clear h0
    have hnil := fun w => Lib.run_eql_slice_nil (P := Try.prog) w 25 5 (some ad) l.length cap 0 0 Try.underlying25
    generalize hL : l.length = len at *
    have HL := Lib.hid hL
    clear hL
    go_enter Try.func21, Try.ntmps21
    go_wp2_with (at_builtin; refine wpList_append_b _ rfl _ _ 25 rfl w.heap.size 5 i0 (.int .u8 0) Try.underlying25 hi hz0 hz1 hz2 rfl _ 0 [] rfl (World.ownsRow_lit w #[] 0 (Nat.le_refl _) (by unfold maxLen; omega) rfl) _ l rfl (hsv0.below ((Below.refl hi' w).alloc hhi _) (Nat.le_refl _)) (by rw [HL.out]; omega) (by simp) ?_; intro v' w1 hown' hgrow)
    go_ret
    refine ⟨_, rfl, by simpa using hown', ((chain0 w _).grown hgrow (by simp) (fun k e => ?_))⟩
    have : w.heap.size = k := Option.some.inj e
    omega

end Go.Proofs.Ytedoogoelolbdaa
