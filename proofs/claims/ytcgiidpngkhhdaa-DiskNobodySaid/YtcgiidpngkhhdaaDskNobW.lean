/-
  The law: of a disk that nobody made nothing is told.
-/
import Derived.Test.YtcgiidpngkhhdaaDskL
namespace Go.Proofs.Ytcgiidpngkhhdaa
open Go.RowKit Go.Shelf
attribute [local irreducible] wpFrom wpAnyH StepH

set_option maxRecDepth 100000 in
set_option maxHeartbeats 4000000 in
theorem diskNobody_any (sv : Value) (n : Int) (w : World) : Calls Try.prog 4 #[sv, .int .i64 n] w fun e W' => e = .returned (.bool true) ∧ Below w.heap.size w W' := by
  have hmx : Try.prog.follows .mixedOrders = true := by kernel_rfl
  have hM := Sep.start w
  go_enter Try.func4, Try.ntmps4
  go_upto_region 0 with fail
  refine wp_region_fromM (fun W => Sep w [] [] W) hM ?_
  clear hM
  rintro Y1 hM
  refine tF 1 [.val 0 (some 4) (.bool false)] trivial ?_
  refine dF ?_
  try simp only [puts, Tk.put, Act.put, List.setIfInBounds_toArray, List.set_cons_zero, List.set_cons_succ]
  go_upto_region 1 with fail
  refine wp_region_fromM (fun W => Sep w [] [] W) hM ?_
  clear hM
  rintro Y2 hM
  refine tF 1 [.val 0 (some 5) (.pointer none)] trivial ?_
  refine dF ?_
  try simp only [puts, Tk.put, Act.put, List.setIfInBounds_toArray, List.set_cons_zero, List.set_cons_succ]
  go_upto_region 2 with fail
  refine wp_region_fromM (fun W => Sep w [] [] W) hM ?_
  clear hM
  rintro Y3 hM
  refine tF 2 [.val 0 (some 8) (.pointer none), .val 1 (some 9) (.agg (dkc false 0 (.slice none 0 0) 0).toArray)] trivial ?_
  refine rF (some 10) (pt Y3.heap.size 0) (Y3.alloc (.cells (dkc false 0 (.slice none 0 0) 0).toArray 37)) ?_
  replace hM := hM.alloc 37 (dkc false 0 (.slice none 0 0) 0)
  generalize World.alloc _ _ = Y4 at *
  generalize hNe : Y3.heap.size = B at *
  clear hNe
  refine rF (some 11) (.slice (some ⟨Y4.heap.size, 0, none⟩) 2 2) (Y4.alloc (.cells ([.pointer none, .pointer (some ⟨B, 0, none⟩)]).toArray 24)) ?_
  replace hM := hM.alloc 24 ([.pointer none, .pointer (some ⟨B, 0, none⟩)])
  generalize World.alloc _ _ = Y5 at *
  generalize hNe : Y4.heap.size = N5 at *
  clear hNe
  refine tF 5 [.val 4 (some 6) (.slice (some ⟨N5, 0, none⟩) 2 2)] trivial ?_
  refine dF ?_
  try simp only [puts, Tk.put, Act.put, List.setIfInBounds_toArray, List.set_cons_zero, List.set_cons_succ]
  go_upto_region 3 with fail
  refine wp_region_fromM (fun W => Sep w [] [.blk N5 24 ([.pointer none, .pointer (some ⟨B, 0, none⟩)]), .blk B 37 (dkc false 0 (.slice none 0 0) 0)] W) hM ?_
  clear hM
  rintro Y6 hM
  refine tF 1 [.val 0 (some 7) (.int .i64 0)] trivial ?_
  refine dF ?_
  try simp only [puts, Tk.put, Act.put, List.setIfInBounds_toArray, List.set_cons_zero, List.set_cons_succ]
  go_wp2_with fail
  go_loopw [7] (fun u7 wr => ∃ j : Nat, j ≤ 2 ∧ u7 = .int .i64 (j : Int) ∧ Sep w [] [.blk N5 24 ([.pointer none, .pointer (some ⟨B, 0, none⟩)]), .blk B 37 (dkc false 0 (.slice none 0 0) 0)] wr) (fun u7 _ => 2 - (intOf u7).toNat)
  case atStart => exact ⟨0, Nat.zero_le _, rfl, hM⟩
  clear hM
  case round =>
    obtain ⟨j, hj, rfl, hM⟩ := hrel
    by_cases hlt : j < 2
    case pos =>
      obtain ⟨p, hp, hno⟩ : ∃ p, ([.pointer none, .pointer (some ⟨B, 0, none⟩)] : List Value)[0 + j * 1]? = some p ∧ ∀ W', Blk W' B 37 (dkc false 0 (.slice none 0 0) 0) → NoD W' p := by
        rcases (show j = 0 ∨ j = 1 by omega) with rfl | rfl
        · exact ⟨_, rfl, fun _ _ => .inl rfl⟩
        · exact ⟨_, rfl, fun _ h => .inr ⟨B, rfl, h⟩⟩
      have HP := Lib.hid hp
      have HNO := Lib.hid hno
      have HJ := Lib.hid hlt
      have hlt' : (j : Int) < 2 := by omega
      clear hp hno
      clear hlt
      go_upto_region 4 with fail
      refine wp_region_fromM (fun W => Sep w [] [.blk N5 24 ([.pointer none, .pointer (some ⟨B, 0, none⟩)]), .blk B 37 (dkc false 0 (.slice none 0 0) 0)] W) hM ?_
      clear hM
      rintro Y7 hM
      refine tF 4 [.val 0 (some 12) (.int .i64 (j : Int)), .val 1 (some 13) (.slice (some ⟨N5, 0, none⟩) 2 2), .val 2 (some 14) (.int .i64 2), .alt 3 (some 15) (.bool (decide ((j : Int) < 2))) (.bool true)] ⟨congrArg Value.bool (decide_eq_true hlt'), trivial⟩ ?_
      refine dF ?_
      try simp only [puts, Tk.put, Act.put, List.setIfInBounds_toArray, List.set_cons_zero, List.set_cons_succ]
      go_upto_region 6 with fail
      refine wp_region_fromM (fun W => Sep w [] [.blk N5 24 ([.pointer none, .pointer (some ⟨B, 0, none⟩)]), .blk B 37 (dkc false 0 (.slice none 0 0) 0)] W) hM ?_
      clear hM
      rintro Y8 hM
      refine tF 5 [.val 0 (some 18) (.slice (some ⟨N5, 0, none⟩) 2 2), .val 1 (some 19) (.int .i64 (j : Int)), .idx 2 (some 20) 38 (.slice (some ⟨N5, 0, none⟩) 2 2) (.int .i64 (j : Int)) (pt N5 (0 + j * 1)), .load 3 (some 21) 24 (pt N5 (0 + j * 1)) (p), .val 4 (some 22) (.int .i64 n)] ⟨idx_sl Try.underlying38 (by kernel_rfl) HJ.out, ld_any _ _ Try.underlying24 rfl (hM.at 0 rfl) (0 + j * 1) HP.out, trivial⟩ ?_
      refine cF (some 23) 10 #[p, .int .i64 n] ((dkFall_no n _ (HNO.out _ (hM.at 1 rfl))).mono ?_)
      rintro e Y9 ⟨rfl, rfl⟩
      refine dF ?_
      try simp only [puts, Tk.put, Act.put, List.setIfInBounds_toArray, List.set_cons_zero, List.set_cons_succ]
      go_upto_region 7 with fail
      refine wp_region_M (fun W => Sep w [] [.blk N5 24 ([.pointer none, .pointer (some ⟨B, 0, none⟩)]), .blk B 37 (dkc false 0 (.slice none 0 0) 0)] W) (fun W => Sep w [] [.blk N5 24 ([.pointer none, .pointer (some ⟨B, 0, none⟩)]), .blk B 37 (dkc false 0 (.slice none 0 0) 0)] W) hmx hM.drew ?_
      clear hM
      rintro Y10 hM
      have hS := hM.sub (.cons_cons _ (.cons_cons _ .slnil))
      refine tD 34 [.val 0 (some 24) (.slice (some ⟨N5, 0, none⟩) 2 2), .val 1 (some 25) (.int .i64 (j : Int)), .idx 2 (some 26) 38 (.slice (some ⟨N5, 0, none⟩) 2 2) (.int .i64 (j : Int)) (pt N5 (0 + j * 1)), .load 3 (some 27) 24 (pt N5 (0 + j * 1)) (p), .val 4 (some 28) (sv)] ⟨fun W h => idx_sl Try.underlying38 (by kernel_rfl) HJ.out, fun W h => ld_any _ _ Try.underlying24 rfl (h.at 0 rfl) (0 + j * 1) HP.out, trivial⟩ hS ?_
      refine oD 5 33 (cD (some 29) 8 #[p, sv] ((dkWrite_no sv _ (HNO.out _ (hM.at 1 rfl))).mono ?_))
      rintro e Y11 ⟨rfl, rfl⟩
      refine And.intro (hS) ?_
      refine tD 23 [.val 6 (some 30) (.bool false), .val 7 (some 31) (.bool false), .val 8 (some 32) (.slice (some ⟨N5, 0, none⟩) 2 2), .val 9 (some 33) (.int .i64 (j : Int)), .idx 10 (some 34) 38 (.slice (some ⟨N5, 0, none⟩) 2 2) (.int .i64 (j : Int)) (pt N5 (0 + j * 1)), .load 11 (some 35) 24 (pt N5 (0 + j * 1)) (p), .val 13 (some 37) (.slice (some ⟨N5, 0, none⟩) 2 2), .val 14 (some 38) (.int .i64 (j : Int)), .idx 15 (some 39) 38 (.slice (some ⟨N5, 0, none⟩) 2 2) (.int .i64 (j : Int)) (pt N5 (0 + j * 1)), .load 16 (some 40) 24 (pt N5 (0 + j * 1)) (p)] ⟨fun W h => idx_sl Try.underlying38 (by kernel_rfl) HJ.out, fun W h => ld_any _ _ Try.underlying24 rfl (h.at 0 rfl) (0 + j * 1) HP.out, fun W h => idx_sl Try.underlying38 (by kernel_rfl) HJ.out, fun W h => ld_any _ _ Try.underlying24 rfl (h.at 0 rfl) (0 + j * 1) HP.out, trivial⟩ hS ?_
      refine oD 12 22 (cD (some 36) 9 #[p] ((dkSync_no _ (HNO.out _ (hM.at 1 rfl))).mono ?_))
      rintro e Y12 ⟨rfl, rfl⟩
      refine And.intro (hS) ?_
      refine oD 17 21 (cD (some 41) 13 #[p] ((dkFresh_no _ (HNO.out _ (hM.at 1 rfl))).mono ?_))
      rintro e Y13 ⟨rfl, rfl⟩
      refine And.intro (hS) ?_
      refine tD 13 [.val 18 (some 42) (.int .i64 (IntKind.i64.wrap (0 + 0))), .alt 19 (some 43) (.bool ((IntKind.i64.wrap (0 + 0)) != 0)) (.bool false), .val 20 (some 44) (.bool false), .val 21 (some 45) (.bool false), .val 22 (some 46) (.slice (some ⟨N5, 0, none⟩) 2 2), .val 23 (some 47) (.int .i64 (j : Int)), .idx 24 (some 48) 38 (.slice (some ⟨N5, 0, none⟩) 2 2) (.int .i64 (j : Int)) (pt N5 (0 + j * 1)), .load 25 (some 49) 24 (pt N5 (0 + j * 1)) (p)] ⟨congrArg Value.bool (rfl), fun W h => idx_sl Try.underlying38 (by kernel_rfl) HJ.out, fun W h => ld_any _ _ Try.underlying24 rfl (h.at 0 rfl) (0 + j * 1) HP.out, trivial⟩ hS ?_
      refine oD 26 12 (cD (some 50) 12 #[p] ((dkOctets_no _ (HNO.out _ (hM.at 1 rfl))).mono ?_))
      rintro e Y14 ⟨rfl, rfl⟩
      refine And.intro (hS) ?_
      refine tD 3 [.val 27 (some 51) (.int .i64 0), .val 28 (some 52) (.bool false), .val 29 (some 53) (.bool false), .val 30 (some 54) (.bool false), .val 31 (some 55) (.slice (some ⟨N5, 0, none⟩) 2 2), .val 32 (some 56) (.int .i64 (j : Int)), .idx 33 (some 57) 38 (.slice (some ⟨N5, 0, none⟩) 2 2) (.int .i64 (j : Int)) (pt N5 (0 + j * 1)), .load 34 (some 58) 24 (pt N5 (0 + j * 1)) (p), .val 35 (some 59) (.int .i64 n)] ⟨fun W h => idx_sl Try.underlying38 (by kernel_rfl) HJ.out, fun W h => ld_any _ _ Try.underlying24 rfl (h.at 0 rfl) (0 + j * 1) HP.out, trivial⟩ hS ?_
      refine oD 36 2 (cD (some 60) 11 #[p, .int .i64 n] ((dkTrim_no n _ (HNO.out _ (hM.at 1 rfl))).mono ?_))
      rintro e Y15 ⟨rfl, rfl⟩
      refine And.intro (hS) ?_
      refine tD 0 [.val 37 (some 61) (.bool false), .val 38 (some 62) (.bool false)] trivial hS ?_
      refine dD ?_
      try simp only [puts, Tk.put, Act.put, List.setIfInBounds_toArray, List.set_cons_zero, List.set_cons_succ]
      clear hS
      go_upto_region 5 with fail
      refine wp_region_fromM (fun W => Sep w [] [.blk N5 24 ([.pointer none, .pointer (some ⟨B, 0, none⟩)]), .blk B 37 (dkc false 0 (.slice none 0 0) 0)] W) hM ?_
      clear hM
      rintro Y16 hM
      refine tF 3 [.val 0 (some 16) (.int .i64 (j : Int)), .alt 1 (some 17) (.int .i64 (IntKind.i64.wrap ((j : Int) + 1))) (.int .i64 ((j + 1 : Nat) : Int)), .val 2 (some 7) (.int .i64 ((j + 1 : Nat) : Int))] ⟨congrArg (Value.int .i64) ((IntWalk.i64_in _ (by have := HJ.out; omega)).trans (by omega)), trivial⟩ ?_
      refine dF ?_
      try simp only [puts, Tk.put, Act.put, List.setIfInBounds_toArray, List.set_cons_zero, List.set_cons_succ]
      go_wp2_with fail
      go_roundw
      case rel => exact ⟨j + 1, HJ.out, rfl, hM⟩
      case measure => have := HJ.out; simp [intOf]; omega
    case neg =>
      obtain rfl : j = 2 := by omega
      go_upto_region 4 with fail
      refine wp_region_fromM (fun W => Sep w [] [.blk N5 24 ([.pointer none, .pointer (some ⟨B, 0, none⟩)]), .blk B 37 (dkc false 0 (.slice none 0 0) 0)] W) hM ?_
      clear hM
      rintro Y17 hM
      refine tF 4 [.val 0 (some 12) (.int .i64 ((2 : Nat) : Int)), .val 1 (some 13) (.slice (some ⟨N5, 0, none⟩) 2 2), .val 2 (some 14) (.int .i64 2), .alt 3 (some 15) (.bool (decide (((2 : Nat) : Int) < 2))) (.bool false)] ⟨congrArg Value.bool (rfl), trivial⟩ ?_
      refine dF ?_
      try simp only [puts, Tk.put, Act.put, List.setIfInBounds_toArray, List.set_cons_zero, List.set_cons_succ]
      go_upto_region 9 with fail
      refine wp_region_fromM (fun W => Sep w [] [.blk N5 24 ([.pointer none, .pointer (some ⟨B, 0, none⟩)]), .blk B 37 (dkc false 0 (.slice none 0 0) 0)] W) hM ?_
      clear hM
      rintro Y18 hM
      refine cF (some 63) 6 #[] ((alive15_any _).mono ?_)
      rintro e Y19 ⟨rfl, hb⟩
      replace hM := hM.below hb
      clear hb
      refine tF 2 [.val 1 (some 4) (.bool true)] trivial ?_
      refine dF ?_
      try simp only [puts, Tk.put, Act.put, List.setIfInBounds_toArray, List.set_cons_zero, List.set_cons_succ]
      go_wp2_with fail
      go_ret
      exact ⟨rfl, hM.b⟩
end Go.Proofs.Ytcgiidpngkhhdaa
