/-
  ClientNobody answers true at every input, and leaves its arguments as they are.
-/
import Derived.Deep.Slices
import Derived.SizedLaws
import Derived.Carry
import Derived.ChangeMaps5
import Derived.Test.YtbjpifcgnombaaaGreatN14
namespace Go.Proofs.YtbjpifcgnombaaaGreat
open Go.RowKit Go.Shelf
attribute [local irreducible] wpFrom wpAnyH StepH
theorem idx_ucl0 (B : Nat) (W : World) : (Instr.indexAt 91 (.slice (some ⟨B, 0, none⟩) 2 2) (.int .i64 0)).run Tryz.prog W = .ok (pt B 0) W := by
  have h := idx_sl (W := W) (b := B) (off := 0) (len := 2) (cap := 2) (k := 0) (c := 1) Tryz.underlying91 (by kernel_rfl) (by decide)
  exact h
theorem idx_ucl1 (B : Nat) (W : World) : (Instr.indexAt 91 (.slice (some ⟨B, 0, none⟩) 2 2) (.int .i64 1)).run Tryz.prog W = .ok (pt B 1) W := by
  have h := idx_sl (W := W) (b := B) (off := 0) (len := 2) (cap := 2) (k := 1) (c := 1) Tryz.underlying91 (by kernel_rfl) (by decide)
  exact h
set_option maxRecDepth 100000 in
set_option maxHeartbeats 4000000 in
theorem clientNobody_any (a : Ak) (bv' : Value) (now : Int) (w : World) : Calls Tryz.prog 5 #[akv a, bv', .int .i64 now] w fun e W' => e = .returned (.bool true) ∧ Below w.heap.size w W' := by
  have hmx : Tryz.prog.follows .mixedOrders = true := by kernel_rfl
  have hM := Sep.start w
  go_enter Tryz.func5, Tryz.ntmps5
  go_upto_region 0 with fail
  refine wp_region_fromM (fun W => Sep w [] [] W) hM ?_
  clear hM
  rintro Y1 hM
  refine rF (some 3) (pt Y1.heap.size 0) (Y1.alloc (.cells (akc a).toArray 36)) ?_
  replace hM := hM.alloc 36 (akc a)
  generalize World.alloc _ _ = Y2 at *
  generalize hNe : Y1.heap.size = N2 at *
  clear hNe
  refine tF 2 [.val 1 (some 6) (.bool false)] trivial ?_
  refine dF ?_
  try simp only [puts, Tk.put, Act.put, List.setIfInBounds_toArray, List.set_cons_zero, List.set_cons_succ]
  go_upto_region 1 with fail
  refine wp_region_fromM (fun W => Sep w [] [.blk N2 36 (akc a)] W) hM ?_
  clear hM
  rintro Y3 hM
  refine tF 1 [.val 0 (some 7) (.pointer none)] trivial ?_
  refine dF ?_
  try simp only [puts, Tk.put, Act.put, List.setIfInBounds_toArray, List.set_cons_zero, List.set_cons_succ]
  go_upto_region 2 with fail
  refine wp_region_fromM (fun W => Sep w [] [.blk N2 36 (akc a)] W) hM ?_
  clear hM
  rintro Y4 hM
  refine tF 2 [.val 0 (some 14) (.pointer none), .val 1 (some 15) (.agg (clc (Me.mk 0 ⟨#[]⟩ ⟨#[]⟩ ⟨#[]⟩ 0) (.pointer none) (.slice none 0 0) (.pointer none) false).toArray)] trivial ?_
  refine rF (some 16) (pt Y4.heap.size 0) (Y4.alloc (.cells (clc (Me.mk 0 ⟨#[]⟩ ⟨#[]⟩ ⟨#[]⟩ 0) (.pointer none) (.slice none 0 0) (.pointer none) false).toArray 90)) ?_
  replace hM := hM.alloc 90 (clc (Me.mk 0 ⟨#[]⟩ ⟨#[]⟩ ⟨#[]⟩ 0) (.pointer none) (.slice none 0 0) (.pointer none) false)
  generalize World.alloc _ _ = Y5 at *
  generalize hNe : Y4.heap.size = N5 at *
  clear hNe
  refine rF (some 17) (.slice (some ⟨Y5.heap.size, 0, none⟩) 2 2) (Y5.alloc (.cells ([.pointer none, pt N5 0]).toArray 25)) ?_
  replace hM := hM.alloc 25 ([.pointer none, pt N5 0])
  generalize World.alloc _ _ = Y6 at *
  generalize hNe : Y5.heap.size = N6 at *
  clear hNe
  refine tF 5 [.val 4 (some 8) (.slice (some ⟨N6, 0, none⟩) 2 2)] trivial ?_
  refine dF ?_
  try simp only [puts, Tk.put, Act.put, List.setIfInBounds_toArray, List.set_cons_zero, List.set_cons_succ]
  go_upto_region 3 with fail
  refine wp_region_fromM (fun W => Sep w [] [.blk N6 25 ([.pointer none, pt N5 0]), .blk N5 90 (clc (Me.mk 0 ⟨#[]⟩ ⟨#[]⟩ ⟨#[]⟩ 0) (.pointer none) (.slice none 0 0) (.pointer none) false), .blk N2 36 (akc a)] W) hM ?_
  clear hM
  rintro Y7 hM
  refine tF 1 [.val 0 (some 9) (.int .i64 0)] trivial ?_
  refine dF ?_
  try simp only [puts, Tk.put, Act.put, List.setIfInBounds_toArray, List.set_cons_zero, List.set_cons_succ]
  go_wp2_with fail
  refine wp_loop_fit [.k (akv a), .k (bv'), .k (.int .i64 now), .k (pt N2 0), .k (undef), .k (undef), .s 6, .k (.pointer none), .k (.slice (some ⟨N6, 0, none⟩) 2 2), .s 9, .s 10, .s 11, .s 12, .s 13, .s 14, .s 15, .s 16, .s 17, .s 18, .s 19, .s 20, .s 21, .s 22, .s 23, .s 24, .s 25, .s 26, .s 27, .s 28, .s 29, .s 30, .s 31, .s 32, .s 33, .s 34, .s 35, .s 36, .s 37, .s 38, .s 39, .s 40, .s 41, .s 42, .s 43, .s 44, .s 45, .s 46, .s 47, .s 48, .s 49, .s 50, .s 51, .s 52, .s 53, .s 54, .s 55, .s 56, .s 57, .s 58, .s 59, .s 60, .s 61, .s 62, .s 63, .s 64, .s 65, .s 66, .s 67, .s 68, .s 69, .s 70, .s 71, .s 72, .s 73, .s 74, .s 75, .s 76, .s 77, .s 78, .s 79, .s 80, .s 81, .s 82, .s 83, .s 84, .s 85, .s 86, .s 87, .s 88, .s 89, .s 90, .s 91, .s 92, .s 93, .s 94, .s 95, .s 96, .s 97, .s 98, .s 99, .s 100, .s 101, .s 102, .s 103, .s 104, .s 105, .s 106, .s 107, .s 108, .s 109, .s 110, .s 111, .s 112, .s 113, .s 114, .s 115, .s 116] (fun (s1 : Nat → Value) wr => ((s1 9 : Value) = .int .i64 0 ∨ (s1 9 : Value) = .int .i64 1 ∨ (s1 9 : Value) = .int .i64 2) ∧ Sep w [] [.blk N6 25 ([.pointer none, pt N5 0]), .blk N5 90 (clc (Me.mk 0 ⟨#[]⟩ ⟨#[]⟩ ⟨#[]⟩ 0) (.pointer none) (.slice none 0 0) (.pointer none) false), .blk N2 36 (akc a)] wr) (fun (s1 : Nat → Value) _ => 2 - (intOf (s1 9 : Value)).toNat) rfl rfl (show (fun (i : Value) => (i = .int .i64 0 ∨ i = .int .i64 1 ∨ i = .int .i64 2) ∧ Sep w [] [.blk N6 25 ([.pointer none, pt N5 0]), .blk N5 90 (clc (Me.mk 0 ⟨#[]⟩ ⟨#[]⟩ ⟨#[]⟩ 0) (.pointer none) (.slice none 0 0) (.pointer none) false), .blk N2 36 (akc a)] _) (.int .i64 0) from ⟨.inl rfl, hM⟩) ?_
  clear hM
  intro s1 wr hrel Js1 Ks1 hJs1 hKs1
  dsimp only [fillS]
  try dsimp only at hrel
  try dsimp only at hJs1
  generalize s1 9 = u9 at hrel hJs1 ⊢
  obtain ⟨hi, hM⟩ := hrel
  rcases hi with rfl | rfl | rfl
  case inl =>
    go_upto_region 4 with fail
    refine wp_region_fromM (fun W => Sep w [] [.blk N6 25 ([.pointer none, pt N5 0]), .blk N5 90 (clc (Me.mk 0 ⟨#[]⟩ ⟨#[]⟩ ⟨#[]⟩ 0) (.pointer none) (.slice none 0 0) (.pointer none) false), .blk N2 36 (akc a)] W) hM ?_
    clear hM
    rintro Y8 hM
    refine tF 4 [.val 0 (some 18) (.int .i64 0), .val 1 (some 19) (.slice (some ⟨N6, 0, none⟩) 2 2), .val 2 (some 20) (.int .i64 2), .val 3 (some 21) (.bool true)] trivial ?_
    refine dF ?_
    try simp only [puts, Tk.put, Act.put, List.setIfInBounds_toArray, List.set_cons_zero, List.set_cons_succ]
    go_upto_region 6 with fail
    refine wp_region_M (fun W => Sep w [] [.blk N6 25 ([.pointer none, pt N5 0]), .blk N5 90 (clc (Me.mk 0 ⟨#[]⟩ ⟨#[]⟩ ⟨#[]⟩ 0) (.pointer none) (.slice none 0 0) (.pointer none) false), .blk N2 36 (akc a)] W) (fun W => Sep w [] [.blk N6 25 ([.pointer none, pt N5 0]), .blk N5 90 (clc (Me.mk 0 ⟨#[]⟩ ⟨#[]⟩ ⟨#[]⟩ 0) (.pointer none) (.slice none 0 0) (.pointer none) false), .blk N2 36 (akc a)] W) hmx hM.drew ?_
    clear hM
    rintro Y9 hM
    have hS := hM.sub (.cons_cons _ (.cons_cons _ (.cons_cons _ .slnil)))
    refine tD 7 [.val 0 (some 25) (.slice (some ⟨N6, 0, none⟩) 2 2), .val 1 (some 26) (.int .i64 0), .idx 2 (some 27) 91 (.slice (some ⟨N6, 0, none⟩) 2 2) (.int .i64 0) (pt N6 0), .load 3 (some 28) 25 (pt N6 0) (.pointer none), .load 4 (some 29) 36 (pt N2 0) (akv a), .val 5 (some 30) (.int .i64 now)] ⟨fun W h => idx_ucl0 _ _, fun W h => ld_any _ _ Tryz.underlying25 rfl (h.at 0 rfl) 0 rfl, fun W h => load_part (h.at 2 rfl) 0 (akc a) rfl _ _ Tryz.underlying36 rfl (by kernel_rfl), trivial⟩ hS ?_
    refine oT 6 10 6 ?_ ?_
    · refine cD (some 31) 26 #[.pointer none, akv a, .int .i64 now] ((clAsk_no a now _ (.inl rfl)).mono ?_)
      rintro e Y10 ⟨rfl, hb⟩
      refine And.intro (hS.below hb) ?_
      replace hS := hS.below hb
      replace hM := hM.below hb
      clear hb
      refine tD 3 [.val 7 (some 24) (.tuple #[msv noM, .int .i64 9]), .val 8 (some 32) (msv noM), .val 9 (some 33) (.int .i64 9)] trivial hS ?_
      refine oD 10 2 (rD (some 10) (pt Y10.heap.size 0) (Y10.alloc (.cells (msc noM).toArray 66)) (hS.other _) ?_)
      replace hS := hS.other (.cells (msc noM).toArray 66)
      replace hM := hM.alloc 66 (msc noM)
      generalize World.alloc _ _ = Y11 at *
      generalize hNe : Y10.heap.size = N11 at *
      clear hNe
      have hst := sto_part (msc noM) (hM.at 0 rfl) 0 66 (msv noM) (msc noM) rfl (by kernel_rfl) (Nat.le_of_ble_eq_true rfl) rfl rfl
      have hM1 := hM.set 0 (cs' := msc noM) rfl rfl
      refine oD 11 1 (sD 66 (pt N11 0) (msv noM) (hst) (hM1.sub (.cons _ (.cons_cons _ (.cons_cons _ (.cons_cons _ .slnil))))) ?_)
      clear hst
      replace hS := hM1.sub (.cons _ (.cons_cons _ (.cons_cons _ (.cons_cons _ .slnil))))
      replace hM := hM1
      clear hM1
      generalize World.setRow _ _ _ = Y12 at *
      refine tD 0 [.val 12 (some 11) (.int .i64 9)] trivial hS ?_
      refine dD ?_
      try simp only [puts, Tk.put, Act.put, List.setIfInBounds_toArray, List.set_cons_zero, List.set_cons_succ]
      clear hS
      go_upto_region 7 with fail
      refine wp_region_fromM (fun W => Sep w [] [.blk N11 66 (msc noM), .blk N6 25 ([.pointer none, pt N5 0]), .blk N5 90 (clc (Me.mk 0 ⟨#[]⟩ ⟨#[]⟩ ⟨#[]⟩ 0) (.pointer none) (.slice none 0 0) (.pointer none) false), .blk N2 36 (akc a)] W) hM ?_
      clear hM
      rintro Y13 hM
      refine tF 4 [.val 0 (some 35) (.slice (some ⟨N6, 0, none⟩) 2 2), .val 1 (some 36) (.int .i64 0), .idx 2 (some 37) 91 (.slice (some ⟨N6, 0, none⟩) 2 2) (.int .i64 0) (pt N6 0), .load 3 (some 38) 25 (pt N6 0) (.pointer none)] ⟨idx_ucl0 _ _, ld_any _ _ Tryz.underlying25 rfl (hM.at 1 rfl) 0 rfl, trivial⟩ ?_
      refine cF (some 39) 18 #[.pointer none, .pointer none, .pointer none] ((clLook_no (.pointer none) (.pointer none) _ (.inl rfl)).mono ?_)
      rintro e Y14 ⟨rfl, hb⟩
      replace hM := hM.below hb
      clear hb
      refine tF 10 [.val 5 (some 34) (.tuple #[.slice none 0 0, .slice none 0 0]), .val 6 (some 40) (.slice none 0 0), .val 7 (some 41) (.slice none 0 0), .val 8 (some 12) (.slice none 0 0), .val 9 (some 13) (.slice none 0 0)] trivial ?_
      refine dF ?_
      try simp only [puts, Tk.put, Act.put, List.setIfInBounds_toArray, List.set_cons_zero, List.set_cons_succ]
      go_upto_region 8 with fail
      refine wp_region_fromM (fun W => Sep w [] [.blk N11 66 (msc noM), .blk N6 25 ([.pointer none, pt N5 0]), .blk N5 90 (clc (Me.mk 0 ⟨#[]⟩ ⟨#[]⟩ ⟨#[]⟩ 0) (.pointer none) (.slice none 0 0) (.pointer none) false), .blk N2 36 (akc a)] W) hM ?_
      clear hM
      rintro Y15 hM
      refine tF 5 [.val 0 (some 42) (.slice (some ⟨N6, 0, none⟩) 2 2), .val 1 (some 43) (.int .i64 0), .idx 2 (some 44) 91 (.slice (some ⟨N6, 0, none⟩) 2 2) (.int .i64 0) (pt N6 0), .load 3 (some 45) 25 (pt N6 0) (.pointer none), .val 4 (some 46) (.int .i64 now)] ⟨idx_ucl0 _ _, ld_any _ _ Tryz.underlying25 rfl (hM.at 1 rfl) 0 rfl, trivial⟩ ?_
      refine cF (some 47) 22 #[.pointer none, .pointer none, .pointer none, .int .i64 now] ((clFall_no (.pointer none) (.pointer none) now _ (.inl rfl)).mono ?_)
      rintro e Y16 ⟨rfl, hb⟩
      replace hM := hM.below hb
      clear hb
      refine dF ?_
      try simp only [puts, Tk.put, Act.put, List.setIfInBounds_toArray, List.set_cons_zero, List.set_cons_succ]
      go_upto_region 9 with fail
      refine wp_region_M (fun W => Sep w [] [.blk N11 66 (msc noM), .blk N6 25 ([.pointer none, pt N5 0]), .blk N5 90 (clc (Me.mk 0 ⟨#[]⟩ ⟨#[]⟩ ⟨#[]⟩ 0) (.pointer none) (.slice none 0 0) (.pointer none) false), .blk N2 36 (akc a)] W) (fun W => Sep w [] [.blk N11 66 (msc noM), .blk N6 25 ([.pointer none, pt N5 0]), .blk N5 90 (clc (Me.mk 0 ⟨#[]⟩ ⟨#[]⟩ ⟨#[]⟩ 0) (.pointer none) (.slice none 0 0) (.pointer none) false), .blk N2 36 (akc a)] W) hmx hM.drew ?_
      clear hM
      rintro Y17 hM
      have hS := hM.sub (.cons_cons _ (.cons_cons _ (.cons_cons _ (.cons_cons _ .slnil))))
      refine tD 51 [.val 0 (some 48) (.int .i64 9), .val 1 (some 49) (.bool false), .val 2 (some 50) (.bool false), .val 3 (some 51) (.slice none 0 0), .val 4 (some 52) (.int .i64 0), .val 5 (some 53) (.slice none 0 0), .val 6 (some 54) (.int .i64 0), .alt 7 (some 55) (.int .i64 (IntKind.i64.wrap (0 + 0))) (.int .i64 0), .val 8 (some 56) (.bool false), .val 9 (some 57) (.bool false), .val 10 (some 58) (.bool false), .val 11 (some 59) (.slice (some ⟨N6, 0, none⟩) 2 2), .val 12 (some 60) (.int .i64 0), .idx 13 (some 61) 91 (.slice (some ⟨N6, 0, none⟩) 2 2) (.int .i64 0) (pt N6 0), .load 14 (some 62) 25 (pt N6 0) (.pointer none), .val 15 (some 63) (bv'), .val 16 (some 64) (.int .i64 now)] ⟨congrArg (Value.int .i64) (by decide), fun W h => idx_ucl0 _ _, fun W h => ld_any _ _ Tryz.underlying25 rfl (h.at 1 rfl) 0 rfl, trivial⟩ hS ?_
      refine oD 17 50 (cD (some 65) 24 #[.pointer none, bv', .int .i64 now] ((clHear_no (bv') now _ (.inl rfl)).mono ?_))
      rintro e Y18 ⟨rfl, hb⟩
      refine And.intro (hS.below hb) ?_
      replace hS := hS.below hb
      replace hM := hM.below hb
      clear hb
      refine tD 42 [.val 18 (some 66) (.bool false), .val 19 (some 67) (.bool false), .val 20 (some 68) (.slice (some ⟨N6, 0, none⟩) 2 2), .val 21 (some 69) (.int .i64 0), .idx 22 (some 70) 91 (.slice (some ⟨N6, 0, none⟩) 2 2) (.int .i64 0) (pt N6 0), .load 23 (some 71) 25 (pt N6 0) (.pointer none), .val 24 (some 72) (pt N2 8), .load 25 (some 73) 9 (pt N2 8) (.string a.id)] ⟨fun W h => idx_ucl0 _ _, fun W h => ld_any _ _ Tryz.underlying25 rfl (h.at 1 rfl) 0 rfl, fun W h => ld_any _ _ Tryz.underlying9 rfl (h.at 3 rfl) 8 rfl, trivial⟩ hS ?_
      refine oD 26 41 (cD (some 74) 21 #[.pointer none, .string a.id] ((clRecall_no a.id _ (.inl rfl)).mono ?_))
      rintro e Y19 ⟨rfl, hb⟩
      refine And.intro (hS.below hb) ?_
      replace hS := hS.below hb
      replace hM := hM.below hb
      clear hb
      refine tD 34 [.val 27 (some 75) (.bool false), .val 28 (some 76) (.bool false), .val 29 (some 77) (.bool false), .val 30 (some 78) (.slice (some ⟨N6, 0, none⟩) 2 2), .val 31 (some 79) (.int .i64 0), .idx 32 (some 80) 91 (.slice (some ⟨N6, 0, none⟩) 2 2) (.int .i64 0) (pt N6 0), .load 33 (some 81) 25 (pt N6 0) (.pointer none)] ⟨fun W h => idx_ucl0 _ _, fun W h => ld_any _ _ Tryz.underlying25 rfl (h.at 1 rfl) 0 rfl, trivial⟩ hS ?_
      refine oD 34 33 (cD (some 82) 25 #[.pointer none] ((clUp_no _ (.inl rfl)).mono ?_))
      rintro e Y20 ⟨rfl, hb⟩
      refine And.intro (hS.below hb) ?_
      replace hS := hS.below hb
      replace hM := hM.below hb
      clear hb
      refine tD 26 [.val 35 (some 83) (.bool false), .val 36 (some 84) (.bool false), .val 37 (some 85) (.bool false), .val 38 (some 86) (.slice (some ⟨N6, 0, none⟩) 2 2), .val 39 (some 87) (.int .i64 0), .idx 40 (some 88) 91 (.slice (some ⟨N6, 0, none⟩) 2 2) (.int .i64 0) (pt N6 0), .load 41 (some 89) 25 (pt N6 0) (.pointer none)] ⟨fun W h => idx_ucl0 _ _, fun W h => ld_any _ _ Tryz.underlying25 rfl (h.at 1 rfl) 0 rfl, trivial⟩ hS ?_
      refine oD 42 25 (cD (some 90) 23 #[.pointer none] ((clDown_no _ (.inl rfl)).mono ?_))
      rintro e Y21 ⟨rfl, hb⟩
      refine And.intro (hS.below hb) ?_
      replace hS := hS.below hb
      replace hM := hM.below hb
      clear hb
      refine tD 10 [.val 43 (some 91) (.bool false), .val 44 (some 92) (.bool false), .val 45 (some 93) (.bool false), .val 46 (some 94) (.slice (some ⟨N6, 0, none⟩) 2 2), .val 47 (some 95) (.int .i64 0), .idx 48 (some 96) 91 (.slice (some ⟨N6, 0, none⟩) 2 2) (.int .i64 0) (pt N6 0), .load 49 (some 97) 25 (pt N6 0) (.pointer none), .val 52 (some 100) (.slice (some ⟨N6, 0, none⟩) 2 2), .val 53 (some 101) (.int .i64 0), .idx 54 (some 102) 91 (.slice (some ⟨N6, 0, none⟩) 2 2) (.int .i64 0) (pt N6 0), .load 55 (some 103) 25 (pt N6 0) (.pointer none), .val 59 (some 107) (.slice (some ⟨N6, 0, none⟩) 2 2), .val 60 (some 108) (.int .i64 0), .idx 61 (some 109) 91 (.slice (some ⟨N6, 0, none⟩) 2 2) (.int .i64 0) (pt N6 0), .load 62 (some 110) 25 (pt N6 0) (.pointer none)] ⟨fun W h => idx_ucl0 _ _, fun W h => ld_any _ _ Tryz.underlying25 rfl (h.at 1 rfl) 0 rfl, fun W h => idx_ucl0 _ _, fun W h => ld_any _ _ Tryz.underlying25 rfl (h.at 1 rfl) 0 rfl, fun W h => idx_ucl0 _ _, fun W h => ld_any _ _ Tryz.underlying25 rfl (h.at 1 rfl) 0 rfl, trivial⟩ hS ?_
      refine oD 50 9 (cD (some 98) 8 #[.pointer none] ((clDeals_no _ (.inl rfl)).mono ?_))
      rintro e Y22 ⟨rfl, hb⟩
      refine And.intro (hS.below hb) ?_
      replace hS := hS.below hb
      replace hM := hM.below hb
      clear hb
      refine tD 8 [.val 51 (some 99) (.int .i64 0)] trivial hS ?_
      refine oD 56 7 (cD (some 104) 19 #[.pointer none] ((clSigned_no _ (.inl rfl)).mono ?_))
      rintro e Y23 ⟨rfl, hb⟩
      refine And.intro (hS.below hb) ?_
      replace hS := hS.below hb
      replace hM := hM.below hb
      clear hb
      refine tD 5 [.val 57 (some 105) (.int .i64 0), .alt 58 (some 106) (.int .i64 (IntKind.i64.wrap (0 + 0))) (.int .i64 0)] ⟨congrArg (Value.int .i64) (by decide), trivial⟩ hS ?_
      refine oD 63 4 (cD (some 111) 9 #[.pointer none] ((clRoot_no _ (.inl rfl)).mono ?_))
      rintro e Y24 ⟨rfl, hb⟩
      refine And.intro (hS.below hb) ?_
      replace hS := hS.below hb
      replace hM := hM.below hb
      clear hb
      refine tD 0 [.val 64 (some 112) (.int .i64 0), .alt 65 (some 113) (.int .i64 (IntKind.i64.wrap (0 + 0))) (.int .i64 0), .val 66 (some 114) (.bool false), .val 67 (some 115) (.bool false)] ⟨congrArg (Value.int .i64) (by decide), trivial⟩ hS ?_
      refine dD ?_
      try simp only [puts, Tk.put, Act.put, List.setIfInBounds_toArray, List.set_cons_zero, List.set_cons_succ]
      clear hS
      go_upto_region 5 with fail
      refine wp_region_fromM (fun W => Sep w [] [.blk N11 66 (msc noM), .blk N6 25 ([.pointer none, pt N5 0]), .blk N5 90 (clc (Me.mk 0 ⟨#[]⟩ ⟨#[]⟩ ⟨#[]⟩ 0) (.pointer none) (.slice none 0 0) (.pointer none) false), .blk N2 36 (akc a)] W) hM ?_
      clear hM
      rintro Y25 hM
      refine tF 3 [.val 0 (some 22) (.int .i64 0), .alt 1 (some 23) (.int .i64 (IntKind.i64.wrap (0 + 1))) (.int .i64 1), .val 2 (some 9) (.int .i64 1)] ⟨congrArg (Value.int .i64) (by decide), trivial⟩ ?_
      refine dF ?_
      try simp only [puts, Tk.put, Act.put, List.setIfInBounds_toArray, List.set_cons_zero, List.set_cons_succ]
      go_wp2_with fail
      refine Met.intro (hJs1 _ _ rfl (show (fun (i : Value) => (i = .int .i64 0 ∨ i = .int .i64 1 ∨ i = .int .i64 2) ∧ Sep w [] [.blk N6 25 ([.pointer none, pt N5 0]), .blk N5 90 (clc (Me.mk 0 ⟨#[]⟩ ⟨#[]⟩ ⟨#[]⟩ 0) (.pointer none) (.slice none 0 0) (.pointer none) false), .blk N2 36 (akc a)] _) (.int .i64 1) from ⟨.inr (.inl rfl), hM.sub (l' := [.blk N6 25 ([.pointer none, pt N5 0]), .blk N5 90 (clc (Me.mk 0 ⟨#[]⟩ ⟨#[]⟩ ⟨#[]⟩ 0) (.pointer none) (.slice none 0 0) (.pointer none) false), .blk N2 36 (akc a)]) (.cons _ (.cons_cons _ (.cons_cons _ (.cons_cons _ .slnil))))⟩) ?_)
      show 2 - (intOf (.int .i64 1 : Value)).toNat < 2 - (intOf (.int .i64 0 : Value)).toNat
      simp [intOf]
    · refine rD (some 10) (pt Y9.heap.size 0) (Y9.alloc (.cells (msc noM).toArray 66)) (hS.other _) ?_
      replace hS := hS.other (.cells (msc noM).toArray 66)
      replace hM := hM.alloc 66 (msc noM)
      generalize World.alloc _ _ = Y26 at *
      generalize hNe : Y9.heap.size = N26 at *
      clear hNe
      refine oD 6 5 (cD (some 31) 26 #[.pointer none, akv a, .int .i64 now] ((clAsk_no a now _ (.inl rfl)).mono ?_))
      rintro e Y27 ⟨rfl, hb⟩
      refine And.intro (hS.below hb) ?_
      replace hS := hS.below hb
      replace hM := hM.below hb
      clear hb
      refine tD 2 [.val 7 (some 24) (.tuple #[msv noM, .int .i64 9]), .val 8 (some 32) (msv noM), .val 9 (some 33) (.int .i64 9)] trivial hS ?_
      have hst := sto_part (msc noM) (hM.at 0 rfl) 0 66 (msv noM) (msc noM) rfl (by kernel_rfl) (Nat.le_of_ble_eq_true rfl) rfl rfl
      have hM1 := hM.set 0 (cs' := msc noM) rfl rfl
      refine oD 11 1 (sD 66 (pt N26 0) (msv noM) (hst) (hM1.sub (.cons _ (.cons_cons _ (.cons_cons _ (.cons_cons _ .slnil))))) ?_)
      clear hst
      replace hS := hM1.sub (.cons _ (.cons_cons _ (.cons_cons _ (.cons_cons _ .slnil))))
      replace hM := hM1
      clear hM1
      generalize World.setRow _ _ _ = Y28 at *
      refine tD 0 [.val 12 (some 11) (.int .i64 9)] trivial hS ?_
      refine dD ?_
      try simp only [puts, Tk.put, Act.put, List.setIfInBounds_toArray, List.set_cons_zero, List.set_cons_succ]
      clear hS
      go_upto_region 7 with fail
      refine wp_region_fromM (fun W => Sep w [] [.blk N26 66 (msc noM), .blk N6 25 ([.pointer none, pt N5 0]), .blk N5 90 (clc (Me.mk 0 ⟨#[]⟩ ⟨#[]⟩ ⟨#[]⟩ 0) (.pointer none) (.slice none 0 0) (.pointer none) false), .blk N2 36 (akc a)] W) hM ?_
      clear hM
      rintro Y29 hM
      refine tF 4 [.val 0 (some 35) (.slice (some ⟨N6, 0, none⟩) 2 2), .val 1 (some 36) (.int .i64 0), .idx 2 (some 37) 91 (.slice (some ⟨N6, 0, none⟩) 2 2) (.int .i64 0) (pt N6 0), .load 3 (some 38) 25 (pt N6 0) (.pointer none)] ⟨idx_ucl0 _ _, ld_any _ _ Tryz.underlying25 rfl (hM.at 1 rfl) 0 rfl, trivial⟩ ?_
      refine cF (some 39) 18 #[.pointer none, .pointer none, .pointer none] ((clLook_no (.pointer none) (.pointer none) _ (.inl rfl)).mono ?_)
      rintro e Y30 ⟨rfl, hb⟩
      replace hM := hM.below hb
      clear hb
      refine tF 10 [.val 5 (some 34) (.tuple #[.slice none 0 0, .slice none 0 0]), .val 6 (some 40) (.slice none 0 0), .val 7 (some 41) (.slice none 0 0), .val 8 (some 12) (.slice none 0 0), .val 9 (some 13) (.slice none 0 0)] trivial ?_
      refine dF ?_
      try simp only [puts, Tk.put, Act.put, List.setIfInBounds_toArray, List.set_cons_zero, List.set_cons_succ]
      go_upto_region 8 with fail
      refine wp_region_fromM (fun W => Sep w [] [.blk N26 66 (msc noM), .blk N6 25 ([.pointer none, pt N5 0]), .blk N5 90 (clc (Me.mk 0 ⟨#[]⟩ ⟨#[]⟩ ⟨#[]⟩ 0) (.pointer none) (.slice none 0 0) (.pointer none) false), .blk N2 36 (akc a)] W) hM ?_
      clear hM
      rintro Y31 hM
      refine tF 5 [.val 0 (some 42) (.slice (some ⟨N6, 0, none⟩) 2 2), .val 1 (some 43) (.int .i64 0), .idx 2 (some 44) 91 (.slice (some ⟨N6, 0, none⟩) 2 2) (.int .i64 0) (pt N6 0), .load 3 (some 45) 25 (pt N6 0) (.pointer none), .val 4 (some 46) (.int .i64 now)] ⟨idx_ucl0 _ _, ld_any _ _ Tryz.underlying25 rfl (hM.at 1 rfl) 0 rfl, trivial⟩ ?_
      refine cF (some 47) 22 #[.pointer none, .pointer none, .pointer none, .int .i64 now] ((clFall_no (.pointer none) (.pointer none) now _ (.inl rfl)).mono ?_)
      rintro e Y32 ⟨rfl, hb⟩
      replace hM := hM.below hb
      clear hb
      refine dF ?_
      try simp only [puts, Tk.put, Act.put, List.setIfInBounds_toArray, List.set_cons_zero, List.set_cons_succ]
      go_upto_region 9 with fail
      refine wp_region_M (fun W => Sep w [] [.blk N26 66 (msc noM), .blk N6 25 ([.pointer none, pt N5 0]), .blk N5 90 (clc (Me.mk 0 ⟨#[]⟩ ⟨#[]⟩ ⟨#[]⟩ 0) (.pointer none) (.slice none 0 0) (.pointer none) false), .blk N2 36 (akc a)] W) (fun W => Sep w [] [.blk N26 66 (msc noM), .blk N6 25 ([.pointer none, pt N5 0]), .blk N5 90 (clc (Me.mk 0 ⟨#[]⟩ ⟨#[]⟩ ⟨#[]⟩ 0) (.pointer none) (.slice none 0 0) (.pointer none) false), .blk N2 36 (akc a)] W) hmx hM.drew ?_
      clear hM
      rintro Y33 hM
      have hS := hM.sub (.cons_cons _ (.cons_cons _ (.cons_cons _ (.cons_cons _ .slnil))))
      refine tD 51 [.val 0 (some 48) (.int .i64 9), .val 1 (some 49) (.bool false), .val 2 (some 50) (.bool false), .val 3 (some 51) (.slice none 0 0), .val 4 (some 52) (.int .i64 0), .val 5 (some 53) (.slice none 0 0), .val 6 (some 54) (.int .i64 0), .alt 7 (some 55) (.int .i64 (IntKind.i64.wrap (0 + 0))) (.int .i64 0), .val 8 (some 56) (.bool false), .val 9 (some 57) (.bool false), .val 10 (some 58) (.bool false), .val 11 (some 59) (.slice (some ⟨N6, 0, none⟩) 2 2), .val 12 (some 60) (.int .i64 0), .idx 13 (some 61) 91 (.slice (some ⟨N6, 0, none⟩) 2 2) (.int .i64 0) (pt N6 0), .load 14 (some 62) 25 (pt N6 0) (.pointer none), .val 15 (some 63) (bv'), .val 16 (some 64) (.int .i64 now)] ⟨congrArg (Value.int .i64) (by decide), fun W h => idx_ucl0 _ _, fun W h => ld_any _ _ Tryz.underlying25 rfl (h.at 1 rfl) 0 rfl, trivial⟩ hS ?_
      refine oD 17 50 (cD (some 65) 24 #[.pointer none, bv', .int .i64 now] ((clHear_no (bv') now _ (.inl rfl)).mono ?_))
      rintro e Y34 ⟨rfl, hb⟩
      refine And.intro (hS.below hb) ?_
      replace hS := hS.below hb
      replace hM := hM.below hb
      clear hb
      refine tD 42 [.val 18 (some 66) (.bool false), .val 19 (some 67) (.bool false), .val 20 (some 68) (.slice (some ⟨N6, 0, none⟩) 2 2), .val 21 (some 69) (.int .i64 0), .idx 22 (some 70) 91 (.slice (some ⟨N6, 0, none⟩) 2 2) (.int .i64 0) (pt N6 0), .load 23 (some 71) 25 (pt N6 0) (.pointer none), .val 24 (some 72) (pt N2 8), .load 25 (some 73) 9 (pt N2 8) (.string a.id)] ⟨fun W h => idx_ucl0 _ _, fun W h => ld_any _ _ Tryz.underlying25 rfl (h.at 1 rfl) 0 rfl, fun W h => ld_any _ _ Tryz.underlying9 rfl (h.at 3 rfl) 8 rfl, trivial⟩ hS ?_
      refine oD 26 41 (cD (some 74) 21 #[.pointer none, .string a.id] ((clRecall_no a.id _ (.inl rfl)).mono ?_))
      rintro e Y35 ⟨rfl, hb⟩
      refine And.intro (hS.below hb) ?_
      replace hS := hS.below hb
      replace hM := hM.below hb
      clear hb
      refine tD 34 [.val 27 (some 75) (.bool false), .val 28 (some 76) (.bool false), .val 29 (some 77) (.bool false), .val 30 (some 78) (.slice (some ⟨N6, 0, none⟩) 2 2), .val 31 (some 79) (.int .i64 0), .idx 32 (some 80) 91 (.slice (some ⟨N6, 0, none⟩) 2 2) (.int .i64 0) (pt N6 0), .load 33 (some 81) 25 (pt N6 0) (.pointer none)] ⟨fun W h => idx_ucl0 _ _, fun W h => ld_any _ _ Tryz.underlying25 rfl (h.at 1 rfl) 0 rfl, trivial⟩ hS ?_
      refine oD 34 33 (cD (some 82) 25 #[.pointer none] ((clUp_no _ (.inl rfl)).mono ?_))
      rintro e Y36 ⟨rfl, hb⟩
      refine And.intro (hS.below hb) ?_
      replace hS := hS.below hb
      replace hM := hM.below hb
      clear hb
      refine tD 26 [.val 35 (some 83) (.bool false), .val 36 (some 84) (.bool false), .val 37 (some 85) (.bool false), .val 38 (some 86) (.slice (some ⟨N6, 0, none⟩) 2 2), .val 39 (some 87) (.int .i64 0), .idx 40 (some 88) 91 (.slice (some ⟨N6, 0, none⟩) 2 2) (.int .i64 0) (pt N6 0), .load 41 (some 89) 25 (pt N6 0) (.pointer none)] ⟨fun W h => idx_ucl0 _ _, fun W h => ld_any _ _ Tryz.underlying25 rfl (h.at 1 rfl) 0 rfl, trivial⟩ hS ?_
      refine oD 42 25 (cD (some 90) 23 #[.pointer none] ((clDown_no _ (.inl rfl)).mono ?_))
      rintro e Y37 ⟨rfl, hb⟩
      refine And.intro (hS.below hb) ?_
      replace hS := hS.below hb
      replace hM := hM.below hb
      clear hb
      refine tD 10 [.val 43 (some 91) (.bool false), .val 44 (some 92) (.bool false), .val 45 (some 93) (.bool false), .val 46 (some 94) (.slice (some ⟨N6, 0, none⟩) 2 2), .val 47 (some 95) (.int .i64 0), .idx 48 (some 96) 91 (.slice (some ⟨N6, 0, none⟩) 2 2) (.int .i64 0) (pt N6 0), .load 49 (some 97) 25 (pt N6 0) (.pointer none), .val 52 (some 100) (.slice (some ⟨N6, 0, none⟩) 2 2), .val 53 (some 101) (.int .i64 0), .idx 54 (some 102) 91 (.slice (some ⟨N6, 0, none⟩) 2 2) (.int .i64 0) (pt N6 0), .load 55 (some 103) 25 (pt N6 0) (.pointer none), .val 59 (some 107) (.slice (some ⟨N6, 0, none⟩) 2 2), .val 60 (some 108) (.int .i64 0), .idx 61 (some 109) 91 (.slice (some ⟨N6, 0, none⟩) 2 2) (.int .i64 0) (pt N6 0), .load 62 (some 110) 25 (pt N6 0) (.pointer none)] ⟨fun W h => idx_ucl0 _ _, fun W h => ld_any _ _ Tryz.underlying25 rfl (h.at 1 rfl) 0 rfl, fun W h => idx_ucl0 _ _, fun W h => ld_any _ _ Tryz.underlying25 rfl (h.at 1 rfl) 0 rfl, fun W h => idx_ucl0 _ _, fun W h => ld_any _ _ Tryz.underlying25 rfl (h.at 1 rfl) 0 rfl, trivial⟩ hS ?_
      refine oD 50 9 (cD (some 98) 8 #[.pointer none] ((clDeals_no _ (.inl rfl)).mono ?_))
      rintro e Y38 ⟨rfl, hb⟩
      refine And.intro (hS.below hb) ?_
      replace hS := hS.below hb
      replace hM := hM.below hb
      clear hb
      refine tD 8 [.val 51 (some 99) (.int .i64 0)] trivial hS ?_
      refine oD 56 7 (cD (some 104) 19 #[.pointer none] ((clSigned_no _ (.inl rfl)).mono ?_))
      rintro e Y39 ⟨rfl, hb⟩
      refine And.intro (hS.below hb) ?_
      replace hS := hS.below hb
      replace hM := hM.below hb
      clear hb
      refine tD 5 [.val 57 (some 105) (.int .i64 0), .alt 58 (some 106) (.int .i64 (IntKind.i64.wrap (0 + 0))) (.int .i64 0)] ⟨congrArg (Value.int .i64) (by decide), trivial⟩ hS ?_
      refine oD 63 4 (cD (some 111) 9 #[.pointer none] ((clRoot_no _ (.inl rfl)).mono ?_))
      rintro e Y40 ⟨rfl, hb⟩
      refine And.intro (hS.below hb) ?_
      replace hS := hS.below hb
      replace hM := hM.below hb
      clear hb
      refine tD 0 [.val 64 (some 112) (.int .i64 0), .alt 65 (some 113) (.int .i64 (IntKind.i64.wrap (0 + 0))) (.int .i64 0), .val 66 (some 114) (.bool false), .val 67 (some 115) (.bool false)] ⟨congrArg (Value.int .i64) (by decide), trivial⟩ hS ?_
      refine dD ?_
      try simp only [puts, Tk.put, Act.put, List.setIfInBounds_toArray, List.set_cons_zero, List.set_cons_succ]
      clear hS
      go_upto_region 5 with fail
      refine wp_region_fromM (fun W => Sep w [] [.blk N26 66 (msc noM), .blk N6 25 ([.pointer none, pt N5 0]), .blk N5 90 (clc (Me.mk 0 ⟨#[]⟩ ⟨#[]⟩ ⟨#[]⟩ 0) (.pointer none) (.slice none 0 0) (.pointer none) false), .blk N2 36 (akc a)] W) hM ?_
      clear hM
      rintro Y41 hM
      refine tF 3 [.val 0 (some 22) (.int .i64 0), .alt 1 (some 23) (.int .i64 (IntKind.i64.wrap (0 + 1))) (.int .i64 1), .val 2 (some 9) (.int .i64 1)] ⟨congrArg (Value.int .i64) (by decide), trivial⟩ ?_
      refine dF ?_
      try simp only [puts, Tk.put, Act.put, List.setIfInBounds_toArray, List.set_cons_zero, List.set_cons_succ]
      go_wp2_with fail
      refine Met.intro (hJs1 _ _ rfl (show (fun (i : Value) => (i = .int .i64 0 ∨ i = .int .i64 1 ∨ i = .int .i64 2) ∧ Sep w [] [.blk N6 25 ([.pointer none, pt N5 0]), .blk N5 90 (clc (Me.mk 0 ⟨#[]⟩ ⟨#[]⟩ ⟨#[]⟩ 0) (.pointer none) (.slice none 0 0) (.pointer none) false), .blk N2 36 (akc a)] _) (.int .i64 1) from ⟨.inr (.inl rfl), hM.sub (l' := [.blk N6 25 ([.pointer none, pt N5 0]), .blk N5 90 (clc (Me.mk 0 ⟨#[]⟩ ⟨#[]⟩ ⟨#[]⟩ 0) (.pointer none) (.slice none 0 0) (.pointer none) false), .blk N2 36 (akc a)]) (.cons _ (.cons_cons _ (.cons_cons _ (.cons_cons _ .slnil))))⟩) ?_)
      show 2 - (intOf (.int .i64 1 : Value)).toNat < 2 - (intOf (.int .i64 0 : Value)).toNat
      simp [intOf]
  case inr.inl =>
    go_upto_region 4 with fail
    refine wp_region_fromM (fun W => Sep w [] [.blk N6 25 ([.pointer none, pt N5 0]), .blk N5 90 (clc (Me.mk 0 ⟨#[]⟩ ⟨#[]⟩ ⟨#[]⟩ 0) (.pointer none) (.slice none 0 0) (.pointer none) false), .blk N2 36 (akc a)] W) hM ?_
    clear hM
    rintro Y42 hM
    refine tF 4 [.val 0 (some 18) (.int .i64 1), .val 1 (some 19) (.slice (some ⟨N6, 0, none⟩) 2 2), .val 2 (some 20) (.int .i64 2), .val 3 (some 21) (.bool true)] trivial ?_
    refine dF ?_
    try simp only [puts, Tk.put, Act.put, List.setIfInBounds_toArray, List.set_cons_zero, List.set_cons_succ]
    go_upto_region 6 with fail
    refine wp_region_M (fun W => Sep w [] [.blk N6 25 ([.pointer none, pt N5 0]), .blk N5 90 (clc (Me.mk 0 ⟨#[]⟩ ⟨#[]⟩ ⟨#[]⟩ 0) (.pointer none) (.slice none 0 0) (.pointer none) false), .blk N2 36 (akc a)] W) (fun W => Sep w [] [.blk N6 25 ([.pointer none, pt N5 0]), .blk N5 90 (clc (Me.mk 0 ⟨#[]⟩ ⟨#[]⟩ ⟨#[]⟩ 0) (.pointer none) (.slice none 0 0) (.pointer none) false), .blk N2 36 (akc a)] W) hmx hM.drew ?_
    clear hM
    rintro Y43 hM
    have hS := hM.sub (.cons_cons _ (.cons_cons _ (.cons_cons _ .slnil)))
    refine tD 7 [.val 0 (some 25) (.slice (some ⟨N6, 0, none⟩) 2 2), .val 1 (some 26) (.int .i64 1), .idx 2 (some 27) 91 (.slice (some ⟨N6, 0, none⟩) 2 2) (.int .i64 1) (pt N6 1), .load 3 (some 28) 25 (pt N6 1) (pt N5 0), .load 4 (some 29) 36 (pt N2 0) (akv a), .val 5 (some 30) (.int .i64 now)] ⟨fun W h => idx_ucl1 _ _, fun W h => ld_any _ _ Tryz.underlying25 rfl (h.at 0 rfl) 1 rfl, fun W h => load_part (h.at 2 rfl) 0 (akc a) rfl _ _ Tryz.underlying36 rfl (by kernel_rfl), trivial⟩ hS ?_
    refine oT 6 10 6 ?_ ?_
    · refine cD (some 31) 26 #[pt N5 0, akv a, .int .i64 now] ((clAsk_no a now _ (.inr ⟨_, rfl, hM.at 1 rfl⟩)).mono ?_)
      rintro e Y44 ⟨rfl, hb⟩
      refine And.intro (hS.below hb) ?_
      replace hS := hS.below hb
      replace hM := hM.below hb
      clear hb
      refine tD 3 [.val 7 (some 24) (.tuple #[msv noM, .int .i64 9]), .val 8 (some 32) (msv noM), .val 9 (some 33) (.int .i64 9)] trivial hS ?_
      refine oD 10 2 (rD (some 10) (pt Y44.heap.size 0) (Y44.alloc (.cells (msc noM).toArray 66)) (hS.other _) ?_)
      replace hS := hS.other (.cells (msc noM).toArray 66)
      replace hM := hM.alloc 66 (msc noM)
      generalize World.alloc _ _ = Y45 at *
      generalize hNe : Y44.heap.size = N45 at *
      clear hNe
      have hst := sto_part (msc noM) (hM.at 0 rfl) 0 66 (msv noM) (msc noM) rfl (by kernel_rfl) (Nat.le_of_ble_eq_true rfl) rfl rfl
      have hM1 := hM.set 0 (cs' := msc noM) rfl rfl
      refine oD 11 1 (sD 66 (pt N45 0) (msv noM) (hst) (hM1.sub (.cons _ (.cons_cons _ (.cons_cons _ (.cons_cons _ .slnil))))) ?_)
      clear hst
      replace hS := hM1.sub (.cons _ (.cons_cons _ (.cons_cons _ (.cons_cons _ .slnil))))
      replace hM := hM1
      clear hM1
      generalize World.setRow _ _ _ = Y46 at *
      refine tD 0 [.val 12 (some 11) (.int .i64 9)] trivial hS ?_
      refine dD ?_
      try simp only [puts, Tk.put, Act.put, List.setIfInBounds_toArray, List.set_cons_zero, List.set_cons_succ]
      clear hS
      go_upto_region 7 with fail
      refine wp_region_fromM (fun W => Sep w [] [.blk N45 66 (msc noM), .blk N6 25 ([.pointer none, pt N5 0]), .blk N5 90 (clc (Me.mk 0 ⟨#[]⟩ ⟨#[]⟩ ⟨#[]⟩ 0) (.pointer none) (.slice none 0 0) (.pointer none) false), .blk N2 36 (akc a)] W) hM ?_
      clear hM
      rintro Y47 hM
      refine tF 4 [.val 0 (some 35) (.slice (some ⟨N6, 0, none⟩) 2 2), .val 1 (some 36) (.int .i64 1), .idx 2 (some 37) 91 (.slice (some ⟨N6, 0, none⟩) 2 2) (.int .i64 1) (pt N6 1), .load 3 (some 38) 25 (pt N6 1) (pt N5 0)] ⟨idx_ucl1 _ _, ld_any _ _ Tryz.underlying25 rfl (hM.at 1 rfl) 1 rfl, trivial⟩ ?_
      refine cF (some 39) 18 #[pt N5 0, .pointer none, .pointer none] ((clLook_no (.pointer none) (.pointer none) _ (.inr ⟨_, rfl, hM.at 2 rfl⟩)).mono ?_)
      rintro e Y48 ⟨rfl, hb⟩
      replace hM := hM.below hb
      clear hb
      refine tF 10 [.val 5 (some 34) (.tuple #[.slice none 0 0, .slice none 0 0]), .val 6 (some 40) (.slice none 0 0), .val 7 (some 41) (.slice none 0 0), .val 8 (some 12) (.slice none 0 0), .val 9 (some 13) (.slice none 0 0)] trivial ?_
      refine dF ?_
      try simp only [puts, Tk.put, Act.put, List.setIfInBounds_toArray, List.set_cons_zero, List.set_cons_succ]
      go_upto_region 8 with fail
      refine wp_region_fromM (fun W => Sep w [] [.blk N45 66 (msc noM), .blk N6 25 ([.pointer none, pt N5 0]), .blk N5 90 (clc (Me.mk 0 ⟨#[]⟩ ⟨#[]⟩ ⟨#[]⟩ 0) (.pointer none) (.slice none 0 0) (.pointer none) false), .blk N2 36 (akc a)] W) hM ?_
      clear hM
      rintro Y49 hM
      refine tF 5 [.val 0 (some 42) (.slice (some ⟨N6, 0, none⟩) 2 2), .val 1 (some 43) (.int .i64 1), .idx 2 (some 44) 91 (.slice (some ⟨N6, 0, none⟩) 2 2) (.int .i64 1) (pt N6 1), .load 3 (some 45) 25 (pt N6 1) (pt N5 0), .val 4 (some 46) (.int .i64 now)] ⟨idx_ucl1 _ _, ld_any _ _ Tryz.underlying25 rfl (hM.at 1 rfl) 1 rfl, trivial⟩ ?_
      refine cF (some 47) 22 #[pt N5 0, .pointer none, .pointer none, .int .i64 now] ((clFall_no (.pointer none) (.pointer none) now _ (.inr ⟨_, rfl, hM.at 2 rfl⟩)).mono ?_)
      rintro e Y50 ⟨rfl, hb⟩
      replace hM := hM.below hb
      clear hb
      refine dF ?_
      try simp only [puts, Tk.put, Act.put, List.setIfInBounds_toArray, List.set_cons_zero, List.set_cons_succ]
      go_upto_region 9 with fail
      refine wp_region_M (fun W => Sep w [] [.blk N45 66 (msc noM), .blk N6 25 ([.pointer none, pt N5 0]), .blk N5 90 (clc (Me.mk 0 ⟨#[]⟩ ⟨#[]⟩ ⟨#[]⟩ 0) (.pointer none) (.slice none 0 0) (.pointer none) false), .blk N2 36 (akc a)] W) (fun W => Sep w [] [.blk N45 66 (msc noM), .blk N6 25 ([.pointer none, pt N5 0]), .blk N5 90 (clc (Me.mk 0 ⟨#[]⟩ ⟨#[]⟩ ⟨#[]⟩ 0) (.pointer none) (.slice none 0 0) (.pointer none) false), .blk N2 36 (akc a)] W) hmx hM.drew ?_
      clear hM
      rintro Y51 hM
      have hS := hM.sub (.cons_cons _ (.cons_cons _ (.cons_cons _ (.cons_cons _ .slnil))))
      refine tD 51 [.val 0 (some 48) (.int .i64 9), .val 1 (some 49) (.bool false), .val 2 (some 50) (.bool false), .val 3 (some 51) (.slice none 0 0), .val 4 (some 52) (.int .i64 0), .val 5 (some 53) (.slice none 0 0), .val 6 (some 54) (.int .i64 0), .alt 7 (some 55) (.int .i64 (IntKind.i64.wrap (0 + 0))) (.int .i64 0), .val 8 (some 56) (.bool false), .val 9 (some 57) (.bool false), .val 10 (some 58) (.bool false), .val 11 (some 59) (.slice (some ⟨N6, 0, none⟩) 2 2), .val 12 (some 60) (.int .i64 1), .idx 13 (some 61) 91 (.slice (some ⟨N6, 0, none⟩) 2 2) (.int .i64 1) (pt N6 1), .load 14 (some 62) 25 (pt N6 1) (pt N5 0), .val 15 (some 63) (bv'), .val 16 (some 64) (.int .i64 now)] ⟨congrArg (Value.int .i64) (by decide), fun W h => idx_ucl1 _ _, fun W h => ld_any _ _ Tryz.underlying25 rfl (h.at 1 rfl) 1 rfl, trivial⟩ hS ?_
      refine oD 17 50 (cD (some 65) 24 #[pt N5 0, bv', .int .i64 now] ((clHear_no (bv') now _ (.inr ⟨_, rfl, hM.at 2 rfl⟩)).mono ?_))
      rintro e Y52 ⟨rfl, hb⟩
      refine And.intro (hS.below hb) ?_
      replace hS := hS.below hb
      replace hM := hM.below hb
      clear hb
      refine tD 42 [.val 18 (some 66) (.bool false), .val 19 (some 67) (.bool false), .val 20 (some 68) (.slice (some ⟨N6, 0, none⟩) 2 2), .val 21 (some 69) (.int .i64 1), .idx 22 (some 70) 91 (.slice (some ⟨N6, 0, none⟩) 2 2) (.int .i64 1) (pt N6 1), .load 23 (some 71) 25 (pt N6 1) (pt N5 0), .val 24 (some 72) (pt N2 8), .load 25 (some 73) 9 (pt N2 8) (.string a.id)] ⟨fun W h => idx_ucl1 _ _, fun W h => ld_any _ _ Tryz.underlying25 rfl (h.at 1 rfl) 1 rfl, fun W h => ld_any _ _ Tryz.underlying9 rfl (h.at 3 rfl) 8 rfl, trivial⟩ hS ?_
      refine oD 26 41 (cD (some 74) 21 #[pt N5 0, .string a.id] ((clRecall_no a.id _ (.inr ⟨_, rfl, hM.at 2 rfl⟩)).mono ?_))
      rintro e Y53 ⟨rfl, hb⟩
      refine And.intro (hS.below hb) ?_
      replace hS := hS.below hb
      replace hM := hM.below hb
      clear hb
      refine tD 34 [.val 27 (some 75) (.bool false), .val 28 (some 76) (.bool false), .val 29 (some 77) (.bool false), .val 30 (some 78) (.slice (some ⟨N6, 0, none⟩) 2 2), .val 31 (some 79) (.int .i64 1), .idx 32 (some 80) 91 (.slice (some ⟨N6, 0, none⟩) 2 2) (.int .i64 1) (pt N6 1), .load 33 (some 81) 25 (pt N6 1) (pt N5 0)] ⟨fun W h => idx_ucl1 _ _, fun W h => ld_any _ _ Tryz.underlying25 rfl (h.at 1 rfl) 1 rfl, trivial⟩ hS ?_
      refine oD 34 33 (cD (some 82) 25 #[pt N5 0] ((clUp_no _ (.inr ⟨_, rfl, hM.at 2 rfl⟩)).mono ?_))
      rintro e Y54 ⟨rfl, hb⟩
      refine And.intro (hS.below hb) ?_
      replace hS := hS.below hb
      replace hM := hM.below hb
      clear hb
      refine tD 26 [.val 35 (some 83) (.bool false), .val 36 (some 84) (.bool false), .val 37 (some 85) (.bool false), .val 38 (some 86) (.slice (some ⟨N6, 0, none⟩) 2 2), .val 39 (some 87) (.int .i64 1), .idx 40 (some 88) 91 (.slice (some ⟨N6, 0, none⟩) 2 2) (.int .i64 1) (pt N6 1), .load 41 (some 89) 25 (pt N6 1) (pt N5 0)] ⟨fun W h => idx_ucl1 _ _, fun W h => ld_any _ _ Tryz.underlying25 rfl (h.at 1 rfl) 1 rfl, trivial⟩ hS ?_
      refine oD 42 25 (cD (some 90) 23 #[pt N5 0] ((clDown_no _ (.inr ⟨_, rfl, hM.at 2 rfl⟩)).mono ?_))
      rintro e Y55 ⟨rfl, hb⟩
      refine And.intro (hS.below hb) ?_
      replace hS := hS.below hb
      replace hM := hM.below hb
      clear hb
      refine tD 10 [.val 43 (some 91) (.bool false), .val 44 (some 92) (.bool false), .val 45 (some 93) (.bool false), .val 46 (some 94) (.slice (some ⟨N6, 0, none⟩) 2 2), .val 47 (some 95) (.int .i64 1), .idx 48 (some 96) 91 (.slice (some ⟨N6, 0, none⟩) 2 2) (.int .i64 1) (pt N6 1), .load 49 (some 97) 25 (pt N6 1) (pt N5 0), .val 52 (some 100) (.slice (some ⟨N6, 0, none⟩) 2 2), .val 53 (some 101) (.int .i64 1), .idx 54 (some 102) 91 (.slice (some ⟨N6, 0, none⟩) 2 2) (.int .i64 1) (pt N6 1), .load 55 (some 103) 25 (pt N6 1) (pt N5 0), .val 59 (some 107) (.slice (some ⟨N6, 0, none⟩) 2 2), .val 60 (some 108) (.int .i64 1), .idx 61 (some 109) 91 (.slice (some ⟨N6, 0, none⟩) 2 2) (.int .i64 1) (pt N6 1), .load 62 (some 110) 25 (pt N6 1) (pt N5 0)] ⟨fun W h => idx_ucl1 _ _, fun W h => ld_any _ _ Tryz.underlying25 rfl (h.at 1 rfl) 1 rfl, fun W h => idx_ucl1 _ _, fun W h => ld_any _ _ Tryz.underlying25 rfl (h.at 1 rfl) 1 rfl, fun W h => idx_ucl1 _ _, fun W h => ld_any _ _ Tryz.underlying25 rfl (h.at 1 rfl) 1 rfl, trivial⟩ hS ?_
      refine oD 50 9 (cD (some 98) 8 #[pt N5 0] ((clDeals_no _ (.inr ⟨_, rfl, hM.at 2 rfl⟩)).mono ?_))
      rintro e Y56 ⟨rfl, hb⟩
      refine And.intro (hS.below hb) ?_
      replace hS := hS.below hb
      replace hM := hM.below hb
      clear hb
      refine tD 8 [.val 51 (some 99) (.int .i64 0)] trivial hS ?_
      refine oD 56 7 (cD (some 104) 19 #[pt N5 0] ((clSigned_no _ (.inr ⟨_, rfl, hM.at 2 rfl⟩)).mono ?_))
      rintro e Y57 ⟨rfl, hb⟩
      refine And.intro (hS.below hb) ?_
      replace hS := hS.below hb
      replace hM := hM.below hb
      clear hb
      refine tD 5 [.val 57 (some 105) (.int .i64 0), .alt 58 (some 106) (.int .i64 (IntKind.i64.wrap (0 + 0))) (.int .i64 0)] ⟨congrArg (Value.int .i64) (by decide), trivial⟩ hS ?_
      refine oD 63 4 (cD (some 111) 9 #[pt N5 0] ((clRoot_no _ (.inr ⟨_, rfl, hM.at 2 rfl⟩)).mono ?_))
      rintro e Y58 ⟨rfl, hb⟩
      refine And.intro (hS.below hb) ?_
      replace hS := hS.below hb
      replace hM := hM.below hb
      clear hb
      refine tD 0 [.val 64 (some 112) (.int .i64 0), .alt 65 (some 113) (.int .i64 (IntKind.i64.wrap (0 + 0))) (.int .i64 0), .val 66 (some 114) (.bool false), .val 67 (some 115) (.bool false)] ⟨congrArg (Value.int .i64) (by decide), trivial⟩ hS ?_
      refine dD ?_
      try simp only [puts, Tk.put, Act.put, List.setIfInBounds_toArray, List.set_cons_zero, List.set_cons_succ]
      clear hS
      go_upto_region 5 with fail
      refine wp_region_fromM (fun W => Sep w [] [.blk N45 66 (msc noM), .blk N6 25 ([.pointer none, pt N5 0]), .blk N5 90 (clc (Me.mk 0 ⟨#[]⟩ ⟨#[]⟩ ⟨#[]⟩ 0) (.pointer none) (.slice none 0 0) (.pointer none) false), .blk N2 36 (akc a)] W) hM ?_
      clear hM
      rintro Y59 hM
      refine tF 3 [.val 0 (some 22) (.int .i64 1), .alt 1 (some 23) (.int .i64 (IntKind.i64.wrap (1 + 1))) (.int .i64 2), .val 2 (some 9) (.int .i64 2)] ⟨congrArg (Value.int .i64) (by decide), trivial⟩ ?_
      refine dF ?_
      try simp only [puts, Tk.put, Act.put, List.setIfInBounds_toArray, List.set_cons_zero, List.set_cons_succ]
      go_wp2_with fail
      refine Met.intro (hJs1 _ _ rfl (show (fun (i : Value) => (i = .int .i64 0 ∨ i = .int .i64 1 ∨ i = .int .i64 2) ∧ Sep w [] [.blk N6 25 ([.pointer none, pt N5 0]), .blk N5 90 (clc (Me.mk 0 ⟨#[]⟩ ⟨#[]⟩ ⟨#[]⟩ 0) (.pointer none) (.slice none 0 0) (.pointer none) false), .blk N2 36 (akc a)] _) (.int .i64 2) from ⟨.inr (.inr rfl), hM.sub (l' := [.blk N6 25 ([.pointer none, pt N5 0]), .blk N5 90 (clc (Me.mk 0 ⟨#[]⟩ ⟨#[]⟩ ⟨#[]⟩ 0) (.pointer none) (.slice none 0 0) (.pointer none) false), .blk N2 36 (akc a)]) (.cons _ (.cons_cons _ (.cons_cons _ (.cons_cons _ .slnil))))⟩) ?_)
      show 2 - (intOf (.int .i64 2 : Value)).toNat < 2 - (intOf (.int .i64 1 : Value)).toNat
      simp [intOf]
    · refine rD (some 10) (pt Y43.heap.size 0) (Y43.alloc (.cells (msc noM).toArray 66)) (hS.other _) ?_
      replace hS := hS.other (.cells (msc noM).toArray 66)
      replace hM := hM.alloc 66 (msc noM)
      generalize World.alloc _ _ = Y60 at *
      generalize hNe : Y43.heap.size = N60 at *
      clear hNe
      refine oD 6 5 (cD (some 31) 26 #[pt N5 0, akv a, .int .i64 now] ((clAsk_no a now _ (.inr ⟨_, rfl, hM.at 2 rfl⟩)).mono ?_))
      rintro e Y61 ⟨rfl, hb⟩
      refine And.intro (hS.below hb) ?_
      replace hS := hS.below hb
      replace hM := hM.below hb
      clear hb
      refine tD 2 [.val 7 (some 24) (.tuple #[msv noM, .int .i64 9]), .val 8 (some 32) (msv noM), .val 9 (some 33) (.int .i64 9)] trivial hS ?_
      have hst := sto_part (msc noM) (hM.at 0 rfl) 0 66 (msv noM) (msc noM) rfl (by kernel_rfl) (Nat.le_of_ble_eq_true rfl) rfl rfl
      have hM1 := hM.set 0 (cs' := msc noM) rfl rfl
      refine oD 11 1 (sD 66 (pt N60 0) (msv noM) (hst) (hM1.sub (.cons _ (.cons_cons _ (.cons_cons _ (.cons_cons _ .slnil))))) ?_)
      clear hst
      replace hS := hM1.sub (.cons _ (.cons_cons _ (.cons_cons _ (.cons_cons _ .slnil))))
      replace hM := hM1
      clear hM1
      generalize World.setRow _ _ _ = Y62 at *
      refine tD 0 [.val 12 (some 11) (.int .i64 9)] trivial hS ?_
      refine dD ?_
      try simp only [puts, Tk.put, Act.put, List.setIfInBounds_toArray, List.set_cons_zero, List.set_cons_succ]
      clear hS
      go_upto_region 7 with fail
      refine wp_region_fromM (fun W => Sep w [] [.blk N60 66 (msc noM), .blk N6 25 ([.pointer none, pt N5 0]), .blk N5 90 (clc (Me.mk 0 ⟨#[]⟩ ⟨#[]⟩ ⟨#[]⟩ 0) (.pointer none) (.slice none 0 0) (.pointer none) false), .blk N2 36 (akc a)] W) hM ?_
      clear hM
      rintro Y63 hM
      refine tF 4 [.val 0 (some 35) (.slice (some ⟨N6, 0, none⟩) 2 2), .val 1 (some 36) (.int .i64 1), .idx 2 (some 37) 91 (.slice (some ⟨N6, 0, none⟩) 2 2) (.int .i64 1) (pt N6 1), .load 3 (some 38) 25 (pt N6 1) (pt N5 0)] ⟨idx_ucl1 _ _, ld_any _ _ Tryz.underlying25 rfl (hM.at 1 rfl) 1 rfl, trivial⟩ ?_
      refine cF (some 39) 18 #[pt N5 0, .pointer none, .pointer none] ((clLook_no (.pointer none) (.pointer none) _ (.inr ⟨_, rfl, hM.at 2 rfl⟩)).mono ?_)
      rintro e Y64 ⟨rfl, hb⟩
      replace hM := hM.below hb
      clear hb
      refine tF 10 [.val 5 (some 34) (.tuple #[.slice none 0 0, .slice none 0 0]), .val 6 (some 40) (.slice none 0 0), .val 7 (some 41) (.slice none 0 0), .val 8 (some 12) (.slice none 0 0), .val 9 (some 13) (.slice none 0 0)] trivial ?_
      refine dF ?_
      try simp only [puts, Tk.put, Act.put, List.setIfInBounds_toArray, List.set_cons_zero, List.set_cons_succ]
      go_upto_region 8 with fail
      refine wp_region_fromM (fun W => Sep w [] [.blk N60 66 (msc noM), .blk N6 25 ([.pointer none, pt N5 0]), .blk N5 90 (clc (Me.mk 0 ⟨#[]⟩ ⟨#[]⟩ ⟨#[]⟩ 0) (.pointer none) (.slice none 0 0) (.pointer none) false), .blk N2 36 (akc a)] W) hM ?_
      clear hM
      rintro Y65 hM
      refine tF 5 [.val 0 (some 42) (.slice (some ⟨N6, 0, none⟩) 2 2), .val 1 (some 43) (.int .i64 1), .idx 2 (some 44) 91 (.slice (some ⟨N6, 0, none⟩) 2 2) (.int .i64 1) (pt N6 1), .load 3 (some 45) 25 (pt N6 1) (pt N5 0), .val 4 (some 46) (.int .i64 now)] ⟨idx_ucl1 _ _, ld_any _ _ Tryz.underlying25 rfl (hM.at 1 rfl) 1 rfl, trivial⟩ ?_
      refine cF (some 47) 22 #[pt N5 0, .pointer none, .pointer none, .int .i64 now] ((clFall_no (.pointer none) (.pointer none) now _ (.inr ⟨_, rfl, hM.at 2 rfl⟩)).mono ?_)
      rintro e Y66 ⟨rfl, hb⟩
      replace hM := hM.below hb
      clear hb
      refine dF ?_
      try simp only [puts, Tk.put, Act.put, List.setIfInBounds_toArray, List.set_cons_zero, List.set_cons_succ]
      go_upto_region 9 with fail
      refine wp_region_M (fun W => Sep w [] [.blk N60 66 (msc noM), .blk N6 25 ([.pointer none, pt N5 0]), .blk N5 90 (clc (Me.mk 0 ⟨#[]⟩ ⟨#[]⟩ ⟨#[]⟩ 0) (.pointer none) (.slice none 0 0) (.pointer none) false), .blk N2 36 (akc a)] W) (fun W => Sep w [] [.blk N60 66 (msc noM), .blk N6 25 ([.pointer none, pt N5 0]), .blk N5 90 (clc (Me.mk 0 ⟨#[]⟩ ⟨#[]⟩ ⟨#[]⟩ 0) (.pointer none) (.slice none 0 0) (.pointer none) false), .blk N2 36 (akc a)] W) hmx hM.drew ?_
      clear hM
      rintro Y67 hM
      have hS := hM.sub (.cons_cons _ (.cons_cons _ (.cons_cons _ (.cons_cons _ .slnil))))
      refine tD 51 [.val 0 (some 48) (.int .i64 9), .val 1 (some 49) (.bool false), .val 2 (some 50) (.bool false), .val 3 (some 51) (.slice none 0 0), .val 4 (some 52) (.int .i64 0), .val 5 (some 53) (.slice none 0 0), .val 6 (some 54) (.int .i64 0), .alt 7 (some 55) (.int .i64 (IntKind.i64.wrap (0 + 0))) (.int .i64 0), .val 8 (some 56) (.bool false), .val 9 (some 57) (.bool false), .val 10 (some 58) (.bool false), .val 11 (some 59) (.slice (some ⟨N6, 0, none⟩) 2 2), .val 12 (some 60) (.int .i64 1), .idx 13 (some 61) 91 (.slice (some ⟨N6, 0, none⟩) 2 2) (.int .i64 1) (pt N6 1), .load 14 (some 62) 25 (pt N6 1) (pt N5 0), .val 15 (some 63) (bv'), .val 16 (some 64) (.int .i64 now)] ⟨congrArg (Value.int .i64) (by decide), fun W h => idx_ucl1 _ _, fun W h => ld_any _ _ Tryz.underlying25 rfl (h.at 1 rfl) 1 rfl, trivial⟩ hS ?_
      refine oD 17 50 (cD (some 65) 24 #[pt N5 0, bv', .int .i64 now] ((clHear_no (bv') now _ (.inr ⟨_, rfl, hM.at 2 rfl⟩)).mono ?_))
      rintro e Y68 ⟨rfl, hb⟩
      refine And.intro (hS.below hb) ?_
      replace hS := hS.below hb
      replace hM := hM.below hb
      clear hb
      refine tD 42 [.val 18 (some 66) (.bool false), .val 19 (some 67) (.bool false), .val 20 (some 68) (.slice (some ⟨N6, 0, none⟩) 2 2), .val 21 (some 69) (.int .i64 1), .idx 22 (some 70) 91 (.slice (some ⟨N6, 0, none⟩) 2 2) (.int .i64 1) (pt N6 1), .load 23 (some 71) 25 (pt N6 1) (pt N5 0), .val 24 (some 72) (pt N2 8), .load 25 (some 73) 9 (pt N2 8) (.string a.id)] ⟨fun W h => idx_ucl1 _ _, fun W h => ld_any _ _ Tryz.underlying25 rfl (h.at 1 rfl) 1 rfl, fun W h => ld_any _ _ Tryz.underlying9 rfl (h.at 3 rfl) 8 rfl, trivial⟩ hS ?_
      refine oD 26 41 (cD (some 74) 21 #[pt N5 0, .string a.id] ((clRecall_no a.id _ (.inr ⟨_, rfl, hM.at 2 rfl⟩)).mono ?_))
      rintro e Y69 ⟨rfl, hb⟩
      refine And.intro (hS.below hb) ?_
      replace hS := hS.below hb
      replace hM := hM.below hb
      clear hb
      refine tD 34 [.val 27 (some 75) (.bool false), .val 28 (some 76) (.bool false), .val 29 (some 77) (.bool false), .val 30 (some 78) (.slice (some ⟨N6, 0, none⟩) 2 2), .val 31 (some 79) (.int .i64 1), .idx 32 (some 80) 91 (.slice (some ⟨N6, 0, none⟩) 2 2) (.int .i64 1) (pt N6 1), .load 33 (some 81) 25 (pt N6 1) (pt N5 0)] ⟨fun W h => idx_ucl1 _ _, fun W h => ld_any _ _ Tryz.underlying25 rfl (h.at 1 rfl) 1 rfl, trivial⟩ hS ?_
      refine oD 34 33 (cD (some 82) 25 #[pt N5 0] ((clUp_no _ (.inr ⟨_, rfl, hM.at 2 rfl⟩)).mono ?_))
      rintro e Y70 ⟨rfl, hb⟩
      refine And.intro (hS.below hb) ?_
      replace hS := hS.below hb
      replace hM := hM.below hb
      clear hb
      refine tD 26 [.val 35 (some 83) (.bool false), .val 36 (some 84) (.bool false), .val 37 (some 85) (.bool false), .val 38 (some 86) (.slice (some ⟨N6, 0, none⟩) 2 2), .val 39 (some 87) (.int .i64 1), .idx 40 (some 88) 91 (.slice (some ⟨N6, 0, none⟩) 2 2) (.int .i64 1) (pt N6 1), .load 41 (some 89) 25 (pt N6 1) (pt N5 0)] ⟨fun W h => idx_ucl1 _ _, fun W h => ld_any _ _ Tryz.underlying25 rfl (h.at 1 rfl) 1 rfl, trivial⟩ hS ?_
      refine oD 42 25 (cD (some 90) 23 #[pt N5 0] ((clDown_no _ (.inr ⟨_, rfl, hM.at 2 rfl⟩)).mono ?_))
      rintro e Y71 ⟨rfl, hb⟩
      refine And.intro (hS.below hb) ?_
      replace hS := hS.below hb
      replace hM := hM.below hb
      clear hb
      refine tD 10 [.val 43 (some 91) (.bool false), .val 44 (some 92) (.bool false), .val 45 (some 93) (.bool false), .val 46 (some 94) (.slice (some ⟨N6, 0, none⟩) 2 2), .val 47 (some 95) (.int .i64 1), .idx 48 (some 96) 91 (.slice (some ⟨N6, 0, none⟩) 2 2) (.int .i64 1) (pt N6 1), .load 49 (some 97) 25 (pt N6 1) (pt N5 0), .val 52 (some 100) (.slice (some ⟨N6, 0, none⟩) 2 2), .val 53 (some 101) (.int .i64 1), .idx 54 (some 102) 91 (.slice (some ⟨N6, 0, none⟩) 2 2) (.int .i64 1) (pt N6 1), .load 55 (some 103) 25 (pt N6 1) (pt N5 0), .val 59 (some 107) (.slice (some ⟨N6, 0, none⟩) 2 2), .val 60 (some 108) (.int .i64 1), .idx 61 (some 109) 91 (.slice (some ⟨N6, 0, none⟩) 2 2) (.int .i64 1) (pt N6 1), .load 62 (some 110) 25 (pt N6 1) (pt N5 0)] ⟨fun W h => idx_ucl1 _ _, fun W h => ld_any _ _ Tryz.underlying25 rfl (h.at 1 rfl) 1 rfl, fun W h => idx_ucl1 _ _, fun W h => ld_any _ _ Tryz.underlying25 rfl (h.at 1 rfl) 1 rfl, fun W h => idx_ucl1 _ _, fun W h => ld_any _ _ Tryz.underlying25 rfl (h.at 1 rfl) 1 rfl, trivial⟩ hS ?_
      refine oD 50 9 (cD (some 98) 8 #[pt N5 0] ((clDeals_no _ (.inr ⟨_, rfl, hM.at 2 rfl⟩)).mono ?_))
      rintro e Y72 ⟨rfl, hb⟩
      refine And.intro (hS.below hb) ?_
      replace hS := hS.below hb
      replace hM := hM.below hb
      clear hb
      refine tD 8 [.val 51 (some 99) (.int .i64 0)] trivial hS ?_
      refine oD 56 7 (cD (some 104) 19 #[pt N5 0] ((clSigned_no _ (.inr ⟨_, rfl, hM.at 2 rfl⟩)).mono ?_))
      rintro e Y73 ⟨rfl, hb⟩
      refine And.intro (hS.below hb) ?_
      replace hS := hS.below hb
      replace hM := hM.below hb
      clear hb
      refine tD 5 [.val 57 (some 105) (.int .i64 0), .alt 58 (some 106) (.int .i64 (IntKind.i64.wrap (0 + 0))) (.int .i64 0)] ⟨congrArg (Value.int .i64) (by decide), trivial⟩ hS ?_
      refine oD 63 4 (cD (some 111) 9 #[pt N5 0] ((clRoot_no _ (.inr ⟨_, rfl, hM.at 2 rfl⟩)).mono ?_))
      rintro e Y74 ⟨rfl, hb⟩
      refine And.intro (hS.below hb) ?_
      replace hS := hS.below hb
      replace hM := hM.below hb
      clear hb
      refine tD 0 [.val 64 (some 112) (.int .i64 0), .alt 65 (some 113) (.int .i64 (IntKind.i64.wrap (0 + 0))) (.int .i64 0), .val 66 (some 114) (.bool false), .val 67 (some 115) (.bool false)] ⟨congrArg (Value.int .i64) (by decide), trivial⟩ hS ?_
      refine dD ?_
      try simp only [puts, Tk.put, Act.put, List.setIfInBounds_toArray, List.set_cons_zero, List.set_cons_succ]
      clear hS
      go_upto_region 5 with fail
      refine wp_region_fromM (fun W => Sep w [] [.blk N60 66 (msc noM), .blk N6 25 ([.pointer none, pt N5 0]), .blk N5 90 (clc (Me.mk 0 ⟨#[]⟩ ⟨#[]⟩ ⟨#[]⟩ 0) (.pointer none) (.slice none 0 0) (.pointer none) false), .blk N2 36 (akc a)] W) hM ?_
      clear hM
      rintro Y75 hM
      refine tF 3 [.val 0 (some 22) (.int .i64 1), .alt 1 (some 23) (.int .i64 (IntKind.i64.wrap (1 + 1))) (.int .i64 2), .val 2 (some 9) (.int .i64 2)] ⟨congrArg (Value.int .i64) (by decide), trivial⟩ ?_
      refine dF ?_
      try simp only [puts, Tk.put, Act.put, List.setIfInBounds_toArray, List.set_cons_zero, List.set_cons_succ]
      go_wp2_with fail
      refine Met.intro (hJs1 _ _ rfl (show (fun (i : Value) => (i = .int .i64 0 ∨ i = .int .i64 1 ∨ i = .int .i64 2) ∧ Sep w [] [.blk N6 25 ([.pointer none, pt N5 0]), .blk N5 90 (clc (Me.mk 0 ⟨#[]⟩ ⟨#[]⟩ ⟨#[]⟩ 0) (.pointer none) (.slice none 0 0) (.pointer none) false), .blk N2 36 (akc a)] _) (.int .i64 2) from ⟨.inr (.inr rfl), hM.sub (l' := [.blk N6 25 ([.pointer none, pt N5 0]), .blk N5 90 (clc (Me.mk 0 ⟨#[]⟩ ⟨#[]⟩ ⟨#[]⟩ 0) (.pointer none) (.slice none 0 0) (.pointer none) false), .blk N2 36 (akc a)]) (.cons _ (.cons_cons _ (.cons_cons _ (.cons_cons _ .slnil))))⟩) ?_)
      show 2 - (intOf (.int .i64 2 : Value)).toNat < 2 - (intOf (.int .i64 1 : Value)).toNat
      simp [intOf]
  case inr.inr =>
    go_upto_region 4 with fail
    refine wp_region_fromM (fun W => Sep w [] [.blk N6 25 ([.pointer none, pt N5 0]), .blk N5 90 (clc (Me.mk 0 ⟨#[]⟩ ⟨#[]⟩ ⟨#[]⟩ 0) (.pointer none) (.slice none 0 0) (.pointer none) false), .blk N2 36 (akc a)] W) hM ?_
    clear hM
    rintro Y76 hM
    refine tF 4 [.val 0 (some 18) (.int .i64 2), .val 1 (some 19) (.slice (some ⟨N6, 0, none⟩) 2 2), .val 2 (some 20) (.int .i64 2), .val 3 (some 21) (.bool false)] trivial ?_
    refine dF ?_
    try simp only [puts, Tk.put, Act.put, List.setIfInBounds_toArray, List.set_cons_zero, List.set_cons_succ]
    go_upto_region 11 with fail
    refine wp_region_fromM (fun W => Sep w [] [.blk N6 25 ([.pointer none, pt N5 0]), .blk N5 90 (clc (Me.mk 0 ⟨#[]⟩ ⟨#[]⟩ ⟨#[]⟩ 0) (.pointer none) (.slice none 0 0) (.pointer none) false), .blk N2 36 (akc a)] W) hM ?_
    clear hM
    rintro Y77 hM
    refine cF (some 116) 6 #[] ((alive20_any _).mono ?_)
    rintro e Y78 ⟨rfl, hb⟩
    replace hM := hM.below hb
    clear hb
    refine tF 2 [.val 1 (some 6) (.bool true)] trivial ?_
    refine dF ?_
    try simp only [puts, Tk.put, Act.put, List.setIfInBounds_toArray, List.set_cons_zero, List.set_cons_succ]
    go_wp2_with fail
    go_ret
    exact ⟨rfl, hM.b⟩
end Go.Proofs.YtbjpifcgnombaaaGreat
namespace Go.Proofs.YtbjpifcgnombaaaGreat
open Go.ChangeShapes Go.WideShapes Go.ChangeAt Go.RowKit Go.Deep
open Go.ChangeMaps (open_string)
set_option maxRecDepth 100000 in
theorem clientNobody_lifted (os : Os) (started : os.Started) (H : Type) (enc : TypeId × Value → H) :
    ReturnsInHanded {} Tryz.checked os 5 .any (Rows.clientNobodySpec.pre6 enc Tryz.prog Tryz.f5 Rows.clientNobodyRow.domain false) (Rows.clientNobodySpec.post enc Tryz.prog Tryz.f5 false true false false) := by
  refine returnsInHanded_of_change_sized (C := Tryz.checked) Tryz.own started (by kernel_rfl) Tryz.func5
    (ChangeSpec.witness6 (enc := enc) (C := Tryz.checked) false ⟨#[], #[.agg #[.int .i64 0, .int .i64 0, .int .i64 0, .int .i64 0, .int .u64 0, .int .u64 0, .int .u64 0, .int .u64 0, .string ⟨#[]⟩], .slice none 0 0, .int .i64 0], []⟩ 8 (by kernel_rfl) (by kernel_rfl) (by kernel_rfl) (by kernel_rfl)) ?_
  intro W base args ds gs before hval0 hW hcnd hsz0 _
  have hval : ∀ (j : Nat) t v, Tryz.f5.params[j]? = some t → args[j]? = some v → Value.okWide Tryz.prog W .any base t v := hval0
  have hW' := hW
  obtain ⟨p, q, hA0, hV, rfl, hfz, hnd⟩ := hW
  have hA : DataW.TrodAll enc Tryz.prog W 0 (fun _ => true) true Tryz.f5.params.toList args.toList ds p := hA0
  have hsz : (DataW.weightsEach Tryz.prog (Tryz.f5.params.toList ++ Rows.clientNobodySpec.plain.varTypes Tryz.prog) (ds ++ gs)).all (· ≤ reachBytes) = true := hsz0
  rw [Tryz.params5] at hA hval hsz
  obtain ⟨v0, v1, v2, d0, d1, d2, p0, p1, p2, rfl, rfl, rfl, h0, h1, h2⟩ := trodAll_three hA
  obtain ⟨rfl, rfl⟩ := trodVars_none hV
  obtain ⟨a1, len1, cap1, rfl⟩ := okWide_slice Tryz.underlying80 (hval 1 80 v1 rfl rfl)
  have k0 := h0
  have k1 := h1
  have k2 := h2
  have lt0 : ∀ x ∈ p0, x.block < W.heap.size := by obtain ⟨m, hm⟩ := k0; exact DataW.trod_lt m _ _ _ hm
  have lt1 : ∀ x ∈ p1, x.block < W.heap.size := by obtain ⟨m, hm⟩ := k1; exact DataW.trod_lt m _ _ _ hm
  have lt2 : ∀ x ∈ p2, x.block < W.heap.size := by obtain ⟨m, hm⟩ := k2; exact DataW.trod_lt m _ _ _ hm
  obtain ⟨i0, rfl, hx0⟩ := open_ask (hval 0 36 v0 rfl rfl) h0
  obtain ⟨l1, rfl, hsl1, hd1⟩ := open_bytes h1
  have hreach1 : l1.length ≤ 140737488351232 := by
    rcases hd1 with rfl | ⟨el, sp, rfl, hel⟩
    · simp
    · have := sized_slice hsz (j := 1) (t := 80) (e := 5) rfl rfl Tryz.underlying80
      rw [Tryz.bytes8] at this
      simp only [reachBytes] at this
      omega
  obtain ⟨z2, rfl, _, _, wf2⟩ := open_int Tryz.underlying3 (hval 2 3 v2 rfl rfl) h2
  obtain ⟨zl2, zh2⟩ := wf_i64 wf2
  clear hA0 hval0
  refine (clientNobody_any i0 _ z2 W).mono fun e W' ⟨he, bel⟩ => ?_
  subst he
  exact ⟨_, rfl, _, _, _, [], _, [], hW', trodAll_mk1 (shut_bool Tryz.underlying4 _), (trodAll_mk3 (Below.trod Tryz.laidOut (by kernel_rfl) (of_decide_eq_true (by kernel_rfl)) k0 bel lt0) (Below.trod Tryz.laidOut (by kernel_rfl) (of_decide_eq_true (by kernel_rfl)) k1 bel lt1) (Below.trod Tryz.laidOut (by kernel_rfl) (of_decide_eq_true (by kernel_rfl)) k2 bel lt2)), rfl, bel.frame _, fun h => by cases h⟩
theorem and_t {a b : Bool} (h : a = true) (g : b = true) : (a && b) = true := by rw [h, g]; rfl
set_option maxRecDepth 100000 in
theorem clientNobody_j0 : (Rows.clientNobodyRow.wf (OpenSpec.ofChange Rows.clientNobodySpec)) = true := by kernel_rfl
set_option maxRecDepth 100000 in
theorem clientNobody_j1 : (laidOutB Tryz.pinned.checked.prog) = true := by kernel_rfl
set_option maxRecDepth 100000 in
theorem clientNobody_j2 : (mapsRowed Tryz.pinned.checked.prog) = true := by kernel_rfl
set_option maxRecDepth 100000 in
theorem clientNobody_j3 : (Tryz.f5.params.all (Tryz.pinned.checked.prog.readableRec ·)) = true := by kernel_rfl
set_option maxRecDepth 100000 in
theorem clientNobody_j4 : (namedTie Tryz.pinned.checked.prog Rows.clientNobodyRow.named Rows.clientNobodySpec.vars) = true := by kernel_rfl
set_option maxRecDepth 100000 in
theorem clientNobody_j5 : ((Rows.clientNobodyRow.stops == [])) = true := by kernel_rfl
set_option maxRecDepth 100000 in
theorem clientNobody_j6 : ((Tryz.pinned.checked.prog.stops == [])) = true := by kernel_rfl
set_option maxRecDepth 100000 in
theorem clientNobody_j7 : ((Rows.clientNobodyRow.knobs == [])) = true := by kernel_rfl
set_option maxRecDepth 100000 in
theorem clientNobody_j8 : ((Tryz.pinned.checked.prog.stopKnobs == [])) = true := by kernel_rfl
set_option maxRecDepth 100000 in
theorem clientNobody_j9 : ((Rows.clientNobodyRow.inPlace == Tryz.pinned.checked.prog.inPlace 5)) = true := by kernel_rfl
set_option maxRecDepth 100000 in
theorem clientNobody_j10 : ((Rows.clientNobodyRow.unfollowed == Tryz.pinned.checked.prog.unfollowed 5)) = true := by kernel_rfl
set_option maxRecDepth 100000 in
theorem clientNobody_j11 : ((Rows.clientNobodyRow.recurses == Tryz.pinned.checked.prog.recurses 5)) = true := by kernel_rfl
set_option maxRecDepth 100000 in
theorem clientNobody_j12 : ((Rows.clientNobodyRow.named == Tryz.pinned.checked.prog.varsNamed 5)) = true := by kernel_rfl
set_option maxRecDepth 100000 in
theorem clientNobody_j13 : ((Rows.clientNobodyRow.maps == (Tryz.f5.params.toList ++ Rows.clientNobodySpec.plain.varTypes Tryz.pinned.checked.prog).any (Tryz.pinned.checked.prog.mapsRec ·))) = true := by kernel_rfl
set_option maxRecDepth 100000 in
theorem clientNobody_j14 : ((Rows.clientNobodyRow.ifaces == (Tryz.f5.params.toList ++ Rows.clientNobodySpec.plain.varTypes Tryz.pinned.checked.prog).any (Tryz.pinned.checked.prog.ifacesRec ·))) = true := by kernel_rfl
set_option maxRecDepth 100000 in
theorem clientNobody_j15 : ((Rows.clientNobodyRow.mapsOut == Tryz.pinned.checked.prog.mapsAmong Tryz.f5.resultTypes.toList)) = true := by kernel_rfl
set_option maxRecDepth 100000 in
theorem clientNobody_j16 : ((Rows.clientNobodyRow.loops == (Tryz.f5.params.toList ++ Rows.clientNobodySpec.plain.varTypes Tryz.pinned.checked.prog).any (Tryz.pinned.checked.prog.loopsFrom ·))) = true := by kernel_rfl
set_option maxRecDepth 100000 in
theorem clientNobody_j17 : ((Rows.clientNobodyRow.wideKeys == (Tryz.f5.params.toList ++ Rows.clientNobodySpec.plain.varTypes Tryz.pinned.checked.prog ++ Tryz.f5.resultTypes.toList).any (Tryz.pinned.checked.prog.wideKeysFrom ·))) = true := by kernel_rfl
set_option maxRecDepth 100000 in
theorem clientNobody_j18 : (Rows.clientNobodySpec.vars.all (Tryz.pinned.checked.prog.varReadable ·)) = true := by kernel_rfl
set_option maxRecDepth 100000 in
theorem clientNobody_j19 : (Tryz.f5.resultTypes.all (fun t => Tryz.pinned.checked.prog.readableRec t && decide (t < Tryz.pinned.checked.prog.types.size))) = true := by kernel_rfl
set_option maxRecDepth 100000 in
theorem clientNobody_j20 : ((Rows.clientNobodyRow.ifacesOut == Tryz.f5.resultTypes.toList.any (Tryz.pinned.checked.prog.ifacesRec ·))) = true := by kernel_rfl
set_option maxRecDepth 100000 in
theorem clientNobody_j21 : ((Rows.clientNobodyRow.loopsOut == Tryz.f5.resultTypes.toList.any (Tryz.pinned.checked.prog.loopsFrom ·))) = true := by kernel_rfl
set_option maxRecDepth 100000 in
theorem clientNobody_j22 : ((Rows.clientNobodyRow.plainKeys == Tryz.pinned.checked.prog.plainKeys)) = true := by kernel_rfl
set_option maxRecDepth 100000 in
theorem clientNobody_j23 : (Rows.clientNobodyRow.shortTexts.isNone) = true := by kernel_rfl
set_option maxRecDepth 100000 in
theorem clientNobody_j24 : (Tryz.pinned.checked.prog.stopsHeard) = true := by kernel_rfl
set_option maxRecDepth 100000 in
theorem clientNobody_j25 : (Tryz.pinned.checked.prog.mayEnter) = true := by kernel_rfl
set_option maxRecDepth 100000 in
theorem clientNobody_j26 : ((Rows.clientNobodyRow.lifted == Tryz.pinned.checked.prog.liftsFinal)) = true := by kernel_rfl
set_option maxRecDepth 100000 in
theorem clientNobody_j27 : ((Tryz.pinned.checked.prog.make == some Rows.clientNobodyRow.make)) = true := by kernel_rfl
set_option maxRecDepth 100000 in
theorem clientNobody_j28 : ((Rows.clientNobodyRow.kinds == (if Rows.clientNobodyRow.domain.isEmpty then [] else Tryz.f5.params.toList.map fun t => match Tryz.pinned.checked.prog.underlying t with | some (.int k) => some k | _ => none))) = true := by kernel_rfl
set_option maxRecDepth 100000 in
theorem clientNobody_j29 : ((Rows.clientNobodyRow.pinned == Rows.clientNobodyRow.pinnedBy)) = true := by kernel_rfl
set_option maxRecDepth 100000 in
theorem clientNobody_j30 : ((Rows.clientNobodyRow.veiled == (Tryz.f5.params.toList ++ Rows.clientNobodySpec.plain.varTypes Tryz.pinned.checked.prog ++ Tryz.f5.resultTypes.toList).any (Tryz.pinned.checked.prog.veiledRec ·))) = true := by kernel_rfl
set_option maxRecDepth 100000 in
theorem clientNobody_j31 : (Rows.clientNobodyRow.veiledFits Tryz.pinned.checked.prog Tryz.f5.params.toList (Tryz.f5.params.toList ++ Rows.clientNobodySpec.plain.varTypes Tryz.pinned.checked.prog ++ Tryz.f5.resultTypes.toList)) = true := by kernel_rfl
set_option maxRecDepth 100000 in
theorem clientNobody_over : Rows.clientNobodyRow.holds Tryz.pinned (OpenSpec.ofChange Rows.clientNobodySpec) :=
  OpenClaim.holds_of_wide 5 Tryz.f5 rfl rfl rfl rfl rfl rfl rfl ⟨rfl, rfl, rfl, rfl, rfl⟩ rfl rfl rfl rfl rfl (by kernel_rfl) Tryz.func5 (by unfold joinedFacts; exact (and_t (and_t (and_t (and_t (and_t (and_t (and_t (and_t (and_t (and_t (and_t (and_t (and_t (and_t (and_t (and_t (and_t (and_t (and_t (and_t (and_t (and_t (and_t (and_t (and_t (and_t (and_t (and_t (and_t (and_t (and_t clientNobody_j0 clientNobody_j1) clientNobody_j2) clientNobody_j3) clientNobody_j4) clientNobody_j5) clientNobody_j6) clientNobody_j7) clientNobody_j8) clientNobody_j9) clientNobody_j10) clientNobody_j11) clientNobody_j12) clientNobody_j13) clientNobody_j14) clientNobody_j15) clientNobody_j16) clientNobody_j17) clientNobody_j18) clientNobody_j19) clientNobody_j20) clientNobody_j21) clientNobody_j22) clientNobody_j23) clientNobody_j24) clientNobody_j25) clientNobody_j26) clientNobody_j27) clientNobody_j28) clientNobody_j29) clientNobody_j30) clientNobody_j31))
    (of_decide_eq_true (by kernel_rfl)) (by unfold Func.isWrapper; first | (rw [if_pos (by decide +kernel)]; kernel_rfl) | (rw [if_neg (by decide +kernel)]; exact ⟨rfl, rfl⟩))
    (fun os started H enc _ => clientNobody_lifted os started H enc)
theorem clientNobody_proved : Rows.ClientNobodySaid := clientNobody_over
end Go.Proofs.YtbjpifcgnombaaaGreat
