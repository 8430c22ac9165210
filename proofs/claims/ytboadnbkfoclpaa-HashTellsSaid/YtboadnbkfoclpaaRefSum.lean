/-
  The reference's Sum.
-/
import Derived.Test.YtboadnbkfoclpaaRefOver
import Derived.Test.YtboadnbkfoclpaaRootWords
namespace Go.Proofs.Ytboadnbkfoclpaa
open Go.RowKit Go.Shelf

theorem sq_lits : uv sq 8 = .agg #[.int .u32 1779033703, .int .u32 3144134277, .int .u32 1013904242, .int .u32 2773480762, .int .u32 1359893119, .int .u32 2600822924, .int .u32 528734635, .int .u32 1541459225] := by
  show Value.agg (us sq 8).toArray = _
  rw [← sq_us]
  rfl

set_option maxRecDepth 100000 in
set_option maxHeartbeats 2000000 in
theorem refSum_any (l : List UInt8) (sv : Value) (w : World) (hreach : l.length ≤ 140737488351232) (hsv : BSl 0 w.heap.size w sv l) :
    Calls Try.prog 10 #[sv] w (ByO (sumL cb sq l) w) := by
  have hsv0 := hsv
  obtain ⟨a, cap, rfl, hcap, hcs⟩ := hsv
  clear hcs
  go_enter Try.func10, Try.ntmps10
  go_wp2_with fail
  refine (table_any _).mono ?_
  rintro e w1 ⟨rfl, hb1⟩
  go_wp2_with fail
  rw [← sq_lits]
  refine (refOver_any l _ sq cb _ hreach ((hsv0.below hb1 (Nat.le_refl _)).mono (Nat.le_refl _) hb1.size)).mono ?_
  rintro e w2 ⟨v, rfl, hown, hb2⟩
  go_wp2_with fail
  go_ret
  exact ⟨_, rfl, own_base4 hown hb1.size, chain hb1 hb2⟩
end Go.Proofs.Ytboadnbkfoclpaa
