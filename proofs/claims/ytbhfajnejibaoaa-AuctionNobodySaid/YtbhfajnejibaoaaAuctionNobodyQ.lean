/-
  AuctionNobody answers true at every input, and leaves its arguments as they are.
-/
import Derived.Deep.Slices
import Derived.SizedLaws
import Derived.Carry
import Derived.ChangeMaps5
import Derived.Test.YtbhfajnejibaoaaK12
namespace Go.Proofs.Ytbhfajnejibaoaa
open Go.RowKit Go.Shelf
attribute [local irreducible] wpFrom wpAnyH StepH
theorem idx_ptr0 (B : Nat) (W : World) : (Instr.indexAt 35 (.slice (some ⟨B, 0, none⟩) 2 2) (.int .i64 0)).run Try.prog W = .ok (pt B 0) W := by
  have h := idx_sl (W := W) (b := B) (off := 0) (len := 2) (cap := 2) (k := 0) (c := 1) Try.underlying35 (by kernel_rfl) (by decide)
  exact h
theorem idx_ptr1 (B : Nat) (W : World) : (Instr.indexAt 35 (.slice (some ⟨B, 0, none⟩) 2 2) (.int .i64 1)).run Try.prog W = .ok (pt B 1) W := by
  have h := idx_sl (W := W) (b := B) (off := 0) (len := 2) (cap := 2) (k := 1) (c := 1) Try.underlying35 (by kernel_rfl) (by decide)
  exact h
set_option maxRecDepth 100000 in
set_option maxHeartbeats 4000000 in
theorem auctionNobody_any (b : Bd) (now : Int) (w : World) : Calls Try.prog 3 #[bdv b, .int .i64 now] w fun e W' => e = .returned (.bool true) ∧ Below w.heap.size w W' := by
  have hmx : Try.prog.follows .mixedOrders = true := by kernel_rfl
  have hM := Sep.start w
  go_enter Try.func3, Try.ntmps3
  go_upto_region 0 with fail
  refine wp_region_fromM (fun W => Sep w [] [] W) hM ?_
  clear hM
  rintro Y1 hM
  refine rF (some 2) (pt Y1.heap.size 0) (Y1.alloc (.cells (bdc b).toArray 28)) ?_
  replace hM := hM.alloc 28 (bdc b)
  generalize World.alloc _ _ = Y2 at *
  generalize hNe : Y1.heap.size = N2 at *
  clear hNe
  refine tF 2 [.val 1 (some 4) (.bool false)] trivial ?_
  refine dF ?_
  try simp only [puts, Tk.put, Act.put, List.setIfInBounds_toArray, List.set_cons_zero, List.set_cons_succ]
  go_upto_region 1 with fail
  refine wp_region_fromM (fun W => Sep w [] [.blk N2 28 (bdc b)] W) hM ?_
  clear hM
  rintro Y3 hM
  refine tF 1 [.val 0 (some 5) (.pointer none)] trivial ?_
  refine dF ?_
  try simp only [puts, Tk.put, Act.put, List.setIfInBounds_toArray, List.set_cons_zero, List.set_cons_succ]
  go_upto_region 2 with fail
  refine wp_region_fromM (fun W => Sep w [] [.blk N2 28 (bdc b)] W) hM ?_
  clear hM
  rintro Y4 hM
  refine tF 2 [.val 0 (some 10) (.pointer none), .val 1 (some 11) (.agg (rmc false ⟨#[]⟩ ⟨#[]⟩ (.slice none 0 0) (.slice none 0 0)).toArray)] trivial ?_
  refine rF (some 12) (pt Y4.heap.size 0) (Y4.alloc (.cells (rmc false ⟨#[]⟩ ⟨#[]⟩ (.slice none 0 0) (.slice none 0 0)).toArray 34)) ?_
  replace hM := hM.alloc 34 (rmc false ⟨#[]⟩ ⟨#[]⟩ (.slice none 0 0) (.slice none 0 0))
  generalize World.alloc _ _ = Y5 at *
  generalize hNe : Y4.heap.size = N5 at *
  clear hNe
  refine rF (some 13) (.slice (some ⟨Y5.heap.size, 0, none⟩) 2 2) (Y5.alloc (.cells ([.pointer none, pt N5 0]).toArray 29)) ?_
  replace hM := hM.alloc 29 ([.pointer none, pt N5 0])
  generalize World.alloc _ _ = Y6 at *
  generalize hNe : Y5.heap.size = N6 at *
  clear hNe
  refine tF 5 [.val 4 (some 6) (.slice (some ⟨N6, 0, none⟩) 2 2)] trivial ?_
  refine dF ?_
  try simp only [puts, Tk.put, Act.put, List.setIfInBounds_toArray, List.set_cons_zero, List.set_cons_succ]
  go_upto_region 3 with fail
  refine wp_region_fromM (fun W => Sep w [] [.blk N6 29 ([.pointer none, pt N5 0]), .blk N5 34 (rmc false ⟨#[]⟩ ⟨#[]⟩ (.slice none 0 0) (.slice none 0 0)), .blk N2 28 (bdc b)] W) hM ?_
  clear hM
  rintro Y7 hM
  refine tF 1 [.val 0 (some 7) (.int .i64 0)] trivial ?_
  refine dF ?_
  try simp only [puts, Tk.put, Act.put, List.setIfInBounds_toArray, List.set_cons_zero, List.set_cons_succ]
  go_wp2_with fail
  refine wp_loop_fit [.k (bdv b), .k (.int .i64 now), .k (pt N2 0), .k (undef), .s 4, .k (.pointer none), .k (.slice (some ⟨N6, 0, none⟩) 2 2), .s 7, .s 8, .s 9, .s 10, .s 11, .s 12, .s 13, .s 14, .s 15, .s 16, .s 17, .s 18, .s 19, .s 20, .s 21, .s 22, .s 23, .s 24, .s 25, .s 26, .s 27, .s 28, .s 29, .s 30, .s 31, .s 32, .s 33, .s 34, .s 35, .s 36, .s 37, .s 38, .s 39, .s 40, .s 41, .s 42, .s 43, .s 44, .s 45, .s 46, .s 47, .s 48, .s 49, .s 50, .s 51, .s 52, .s 53, .s 54, .s 55, .s 56, .s 57, .s 58, .s 59, .s 60, .s 61, .s 62, .s 63, .s 64, .s 65, .s 66, .s 67, .s 68, .s 69, .s 70] (fun (s1 : Nat → Value) wr => ((s1 7 : Value) = .int .i64 0 ∨ (s1 7 : Value) = .int .i64 1 ∨ (s1 7 : Value) = .int .i64 2) ∧ Sep w [] [.blk N6 29 ([.pointer none, pt N5 0]), .blk N5 34 (rmc false ⟨#[]⟩ ⟨#[]⟩ (.slice none 0 0) (.slice none 0 0)), .blk N2 28 (bdc b)] wr) (fun (s1 : Nat → Value) _ => 2 - (intOf (s1 7 : Value)).toNat) rfl rfl (show (fun (i : Value) => (i = .int .i64 0 ∨ i = .int .i64 1 ∨ i = .int .i64 2) ∧ Sep w [] [.blk N6 29 ([.pointer none, pt N5 0]), .blk N5 34 (rmc false ⟨#[]⟩ ⟨#[]⟩ (.slice none 0 0) (.slice none 0 0)), .blk N2 28 (bdc b)] _) (.int .i64 0) from ⟨.inl rfl, hM⟩) ?_
  clear hM
  intro s1 wr hrel Js1 Ks1 hJs1 hKs1
  dsimp only [fillS]
  try dsimp only at hrel
  try dsimp only at hJs1
  generalize s1 7 = u7 at hrel hJs1 ⊢
  obtain ⟨hi, hM⟩ := hrel
  rcases hi with rfl | rfl | rfl
  case inl =>
    go_upto_region 4 with fail
    refine wp_region_fromM (fun W => Sep w [] [.blk N6 29 ([.pointer none, pt N5 0]), .blk N5 34 (rmc false ⟨#[]⟩ ⟨#[]⟩ (.slice none 0 0) (.slice none 0 0)), .blk N2 28 (bdc b)] W) hM ?_
    clear hM
    rintro Y8 hM
    refine tF 4 [.val 0 (some 14) (.int .i64 0), .val 1 (some 15) (.slice (some ⟨N6, 0, none⟩) 2 2), .val 2 (some 16) (.int .i64 2), .val 3 (some 17) (.bool true)] trivial ?_
    refine dF ?_
    try simp only [puts, Tk.put, Act.put, List.setIfInBounds_toArray, List.set_cons_zero, List.set_cons_succ]
    go_upto_region 6 with fail
    refine wp_region_M (fun W => Sep w [] [.blk N6 29 ([.pointer none, pt N5 0]), .blk N5 34 (rmc false ⟨#[]⟩ ⟨#[]⟩ (.slice none 0 0) (.slice none 0 0)), .blk N2 28 (bdc b)] W) (fun W => Sep w [] [.blk N6 29 ([.pointer none, pt N5 0]), .blk N5 34 (rmc false ⟨#[]⟩ ⟨#[]⟩ (.slice none 0 0) (.slice none 0 0)), .blk N2 28 (bdc b)] W) hmx hM.drew ?_
    clear hM
    rintro Y9 hM
    have hS := hM.sub (.cons_cons _ (.cons_cons _ (.cons_cons _ .slnil)))
    refine tD 7 [.val 0 (some 21) (.slice (some ⟨N6, 0, none⟩) 2 2), .val 1 (some 22) (.int .i64 0), .idx 2 (some 23) 35 (.slice (some ⟨N6, 0, none⟩) 2 2) (.int .i64 0) (pt N6 0), .load 3 (some 24) 29 (pt N6 0) (.pointer none), .val 4 (some 25) (pt N2 1), .load 5 (some 26) 26 (pt N2 1) (akv b.k), .val 6 (some 27) (.int .i64 now)] ⟨fun W h => idx_ptr0 _ _, fun W h => ld_any _ _ Try.underlying29 rfl (h.at 0 rfl) 0 rfl, fun W h => load_part (h.at 2 rfl) 1 (akc b.k) rfl _ _ Try.underlying26 rfl (by kernel_rfl), trivial⟩ hS ?_
    refine oT 7 11 6 ?_ ?_
    · refine cD (some 28) 4 #[.pointer none, akv b.k, .int .i64 now, .int .i64 1] ((rmBest_no b.k now 1 _ (.inl rfl)).mono ?_)
      rintro e Y10 ⟨rfl, hb⟩
      refine And.intro (hS.below hb) ?_
      replace hS := hS.below hb
      replace hM := hM.below hb
      clear hb
      refine tD 3 [.val 8 (some 20) (.tuple #[bdv noB, .bool false]), .val 9 (some 29) (bdv noB), .val 10 (some 30) (.bool false)] trivial hS ?_
      refine oD 11 2 (rD (some 8) (pt Y10.heap.size 0) (Y10.alloc (.cells (bdc noB).toArray 28)) (hS.other _) ?_)
      replace hS := hS.other (.cells (bdc noB).toArray 28)
      replace hM := hM.alloc 28 (bdc noB)
      generalize World.alloc _ _ = Y11 at *
      generalize hNe : Y10.heap.size = N11 at *
      clear hNe
      have hst := sto_part (bdc noB) (hM.at 0 rfl) 0 28 (bdv noB) (bdc noB) rfl (by kernel_rfl) (Nat.le_of_ble_eq_true rfl) rfl rfl
      have hM1 := hM.set 0 (cs' := bdc noB) rfl rfl
      refine oD 12 1 (sD 28 (pt N11 0) (bdv noB) (hst) (hM1.sub (.cons _ (.cons_cons _ (.cons_cons _ (.cons_cons _ .slnil))))) ?_)
      clear hst
      replace hS := hM1.sub (.cons _ (.cons_cons _ (.cons_cons _ (.cons_cons _ .slnil))))
      replace hM := hM1
      clear hM1
      generalize World.setRow _ _ _ = Y12 at *
      refine tD 0 [.val 13 (some 9) (.bool false)] trivial hS ?_
      refine dD ?_
      try simp only [puts, Tk.put, Act.put, List.setIfInBounds_toArray, List.set_cons_zero, List.set_cons_succ]
      clear hS
      go_upto_region 7 with fail
      refine wp_region_M (fun W => Sep w [] [.blk N11 28 (bdc noB), .blk N6 29 ([.pointer none, pt N5 0]), .blk N5 34 (rmc false ⟨#[]⟩ ⟨#[]⟩ (.slice none 0 0) (.slice none 0 0)), .blk N2 28 (bdc b)] W) (fun W => Sep w [] [.blk N11 28 (bdc noB), .blk N6 29 ([.pointer none, pt N5 0]), .blk N5 34 (rmc false ⟨#[]⟩ ⟨#[]⟩ (.slice none 0 0) (.slice none 0 0)), .blk N2 28 (bdc b)] W) hmx hM.drew ?_
      clear hM
      rintro Y13 hM
      have hS := hM.sub (.cons_cons _ (.cons_cons _ (.cons_cons _ (.cons_cons _ .slnil))))
      refine tD 32 [.val 0 (some 31) (.slice (some ⟨N6, 0, none⟩) 2 2), .val 1 (some 32) (.int .i64 0), .idx 2 (some 33) 35 (.slice (some ⟨N6, 0, none⟩) 2 2) (.int .i64 0) (pt N6 0), .load 3 (some 34) 29 (pt N6 0) (.pointer none), .val 4 (some 35) (pt N2 1), .load 5 (some 36) 26 (pt N2 1) (akv b.k), .val 6 (some 37) (.int .i64 now)] ⟨fun W h => idx_ptr0 _ _, fun W h => ld_any _ _ Try.underlying29 rfl (h.at 1 rfl) 0 rfl, fun W h => load_part (h.at 3 rfl) 1 (akc b.k) rfl _ _ Try.underlying26 rfl (by kernel_rfl), trivial⟩ hS ?_
      refine oD 7 31 (cD (some 38) 5 #[.pointer none, akv b.k, .int .i64 now] ((rmOpen_no b.k now _ (.inl rfl)).mono ?_))
      rintro e Y14 ⟨rfl, hb⟩
      refine And.intro (hS.below hb) ?_
      replace hS := hS.below hb
      replace hM := hM.below hb
      clear hb
      refine tD 23 [.val 8 (some 39) (.bool false), .val 9 (some 40) (.bool false), .val 10 (some 41) (.slice (some ⟨N6, 0, none⟩) 2 2), .val 11 (some 42) (.int .i64 0), .idx 12 (some 43) 35 (.slice (some ⟨N6, 0, none⟩) 2 2) (.int .i64 0) (pt N6 0), .load 13 (some 44) 29 (pt N6 0) (.pointer none), .load 14 (some 45) 28 (pt N2 0) (bdv b), .val 15 (some 46) (.int .i64 now)] ⟨fun W h => idx_ptr0 _ _, fun W h => ld_any _ _ Try.underlying29 rfl (h.at 1 rfl) 0 rfl, fun W h => load_part (h.at 3 rfl) 0 (bdc b) rfl _ _ Try.underlying28 rfl (by kernel_rfl), trivial⟩ hS ?_
      refine oD 16 22 (cD (some 47) 6 #[.pointer none, bdv b, .int .i64 now] ((rmBid_no b now _ (.inl rfl)).mono ?_))
      rintro e Y15 ⟨rfl, hb⟩
      refine And.intro (hS.below hb) ?_
      replace hS := hS.below hb
      replace hM := hM.below hb
      clear hb
      refine tD 7 [.val 17 (some 48) (.bool false), .val 18 (some 49) (.bool false), .val 19 (some 50) (.bool false), .val 20 (some 51) (.bool false), .val 21 (some 52) (.bool false), .val 22 (some 53) (.slice (some ⟨N6, 0, none⟩) 2 2), .val 23 (some 54) (.int .i64 0), .idx 24 (some 55) 35 (.slice (some ⟨N6, 0, none⟩) 2 2) (.int .i64 0) (pt N6 0), .load 25 (some 56) 29 (pt N6 0) (.pointer none), .val 28 (some 59) (.slice (some ⟨N6, 0, none⟩) 2 2), .val 29 (some 60) (.int .i64 0), .idx 30 (some 61) 35 (.slice (some ⟨N6, 0, none⟩) 2 2) (.int .i64 0) (pt N6 0), .load 31 (some 62) 29 (pt N6 0) (.pointer none), .val 32 (some 63) (pt N2 1), .load 33 (some 64) 26 (pt N2 1) (akv b.k)] ⟨fun W h => idx_ptr0 _ _, fun W h => ld_any _ _ Try.underlying29 rfl (h.at 1 rfl) 0 rfl, fun W h => idx_ptr0 _ _, fun W h => ld_any _ _ Try.underlying29 rfl (h.at 1 rfl) 0 rfl, fun W h => load_part (h.at 3 rfl) 1 (akc b.k) rfl _ _ Try.underlying26 rfl (by kernel_rfl), trivial⟩ hS ?_
      refine oD 26 6 (cD (some 57) 7 #[.pointer none] ((rmAsks_no _ (.inl rfl)).mono ?_))
      rintro e Y16 ⟨rfl, hb⟩
      refine And.intro (hS.below hb) ?_
      replace hS := hS.below hb
      replace hM := hM.below hb
      clear hb
      refine tD 5 [.val 27 (some 58) (.int .i64 0)] trivial hS ?_
      refine oD 34 4 (cD (some 65) 8 #[.pointer none, akv b.k] ((rmBids_no b.k _ (.inl rfl)).mono ?_))
      rintro e Y17 ⟨rfl, hb⟩
      refine And.intro (hS.below hb) ?_
      replace hS := hS.below hb
      replace hM := hM.below hb
      clear hb
      refine tD 0 [.val 35 (some 66) (.int .i64 0), .alt 36 (some 67) (.int .i64 (IntKind.i64.wrap (0 + 0))) (.int .i64 0), .val 37 (some 68) (.bool false), .val 38 (some 69) (.bool false)] ⟨congrArg (Value.int .i64) (by decide), trivial⟩ hS ?_
      refine dD ?_
      try simp only [puts, Tk.put, Act.put, List.setIfInBounds_toArray, List.set_cons_zero, List.set_cons_succ]
      clear hS
      go_upto_region 5 with fail
      refine wp_region_fromM (fun W => Sep w [] [.blk N11 28 (bdc noB), .blk N6 29 ([.pointer none, pt N5 0]), .blk N5 34 (rmc false ⟨#[]⟩ ⟨#[]⟩ (.slice none 0 0) (.slice none 0 0)), .blk N2 28 (bdc b)] W) hM ?_
      clear hM
      rintro Y18 hM
      refine tF 3 [.val 0 (some 18) (.int .i64 0), .alt 1 (some 19) (.int .i64 (IntKind.i64.wrap (0 + 1))) (.int .i64 1), .val 2 (some 7) (.int .i64 1)] ⟨congrArg (Value.int .i64) (by decide), trivial⟩ ?_
      refine dF ?_
      try simp only [puts, Tk.put, Act.put, List.setIfInBounds_toArray, List.set_cons_zero, List.set_cons_succ]
      go_wp2_with fail
      refine Met.intro (hJs1 _ _ rfl (show (fun (i : Value) => (i = .int .i64 0 ∨ i = .int .i64 1 ∨ i = .int .i64 2) ∧ Sep w [] [.blk N6 29 ([.pointer none, pt N5 0]), .blk N5 34 (rmc false ⟨#[]⟩ ⟨#[]⟩ (.slice none 0 0) (.slice none 0 0)), .blk N2 28 (bdc b)] _) (.int .i64 1) from ⟨.inr (.inl rfl), hM.sub (l' := [.blk N6 29 ([.pointer none, pt N5 0]), .blk N5 34 (rmc false ⟨#[]⟩ ⟨#[]⟩ (.slice none 0 0) (.slice none 0 0)), .blk N2 28 (bdc b)]) (.cons _ (.cons_cons _ (.cons_cons _ (.cons_cons _ .slnil))))⟩) ?_)
      show 2 - (intOf (.int .i64 1 : Value)).toNat < 2 - (intOf (.int .i64 0 : Value)).toNat
      simp [intOf]
    · refine rD (some 8) (pt Y9.heap.size 0) (Y9.alloc (.cells (bdc noB).toArray 28)) (hS.other _) ?_
      replace hS := hS.other (.cells (bdc noB).toArray 28)
      replace hM := hM.alloc 28 (bdc noB)
      generalize World.alloc _ _ = Y19 at *
      generalize hNe : Y9.heap.size = N19 at *
      clear hNe
      refine oD 7 5 (cD (some 28) 4 #[.pointer none, akv b.k, .int .i64 now, .int .i64 1] ((rmBest_no b.k now 1 _ (.inl rfl)).mono ?_))
      rintro e Y20 ⟨rfl, hb⟩
      refine And.intro (hS.below hb) ?_
      replace hS := hS.below hb
      replace hM := hM.below hb
      clear hb
      refine tD 2 [.val 8 (some 20) (.tuple #[bdv noB, .bool false]), .val 9 (some 29) (bdv noB), .val 10 (some 30) (.bool false)] trivial hS ?_
      have hst := sto_part (bdc noB) (hM.at 0 rfl) 0 28 (bdv noB) (bdc noB) rfl (by kernel_rfl) (Nat.le_of_ble_eq_true rfl) rfl rfl
      have hM1 := hM.set 0 (cs' := bdc noB) rfl rfl
      refine oD 12 1 (sD 28 (pt N19 0) (bdv noB) (hst) (hM1.sub (.cons _ (.cons_cons _ (.cons_cons _ (.cons_cons _ .slnil))))) ?_)
      clear hst
      replace hS := hM1.sub (.cons _ (.cons_cons _ (.cons_cons _ (.cons_cons _ .slnil))))
      replace hM := hM1
      clear hM1
      generalize World.setRow _ _ _ = Y21 at *
      refine tD 0 [.val 13 (some 9) (.bool false)] trivial hS ?_
      refine dD ?_
      try simp only [puts, Tk.put, Act.put, List.setIfInBounds_toArray, List.set_cons_zero, List.set_cons_succ]
      clear hS
      go_upto_region 7 with fail
      refine wp_region_M (fun W => Sep w [] [.blk N19 28 (bdc noB), .blk N6 29 ([.pointer none, pt N5 0]), .blk N5 34 (rmc false ⟨#[]⟩ ⟨#[]⟩ (.slice none 0 0) (.slice none 0 0)), .blk N2 28 (bdc b)] W) (fun W => Sep w [] [.blk N19 28 (bdc noB), .blk N6 29 ([.pointer none, pt N5 0]), .blk N5 34 (rmc false ⟨#[]⟩ ⟨#[]⟩ (.slice none 0 0) (.slice none 0 0)), .blk N2 28 (bdc b)] W) hmx hM.drew ?_
      clear hM
      rintro Y22 hM
      have hS := hM.sub (.cons_cons _ (.cons_cons _ (.cons_cons _ (.cons_cons _ .slnil))))
      refine tD 32 [.val 0 (some 31) (.slice (some ⟨N6, 0, none⟩) 2 2), .val 1 (some 32) (.int .i64 0), .idx 2 (some 33) 35 (.slice (some ⟨N6, 0, none⟩) 2 2) (.int .i64 0) (pt N6 0), .load 3 (some 34) 29 (pt N6 0) (.pointer none), .val 4 (some 35) (pt N2 1), .load 5 (some 36) 26 (pt N2 1) (akv b.k), .val 6 (some 37) (.int .i64 now)] ⟨fun W h => idx_ptr0 _ _, fun W h => ld_any _ _ Try.underlying29 rfl (h.at 1 rfl) 0 rfl, fun W h => load_part (h.at 3 rfl) 1 (akc b.k) rfl _ _ Try.underlying26 rfl (by kernel_rfl), trivial⟩ hS ?_
      refine oD 7 31 (cD (some 38) 5 #[.pointer none, akv b.k, .int .i64 now] ((rmOpen_no b.k now _ (.inl rfl)).mono ?_))
      rintro e Y23 ⟨rfl, hb⟩
      refine And.intro (hS.below hb) ?_
      replace hS := hS.below hb
      replace hM := hM.below hb
      clear hb
      refine tD 23 [.val 8 (some 39) (.bool false), .val 9 (some 40) (.bool false), .val 10 (some 41) (.slice (some ⟨N6, 0, none⟩) 2 2), .val 11 (some 42) (.int .i64 0), .idx 12 (some 43) 35 (.slice (some ⟨N6, 0, none⟩) 2 2) (.int .i64 0) (pt N6 0), .load 13 (some 44) 29 (pt N6 0) (.pointer none), .load 14 (some 45) 28 (pt N2 0) (bdv b), .val 15 (some 46) (.int .i64 now)] ⟨fun W h => idx_ptr0 _ _, fun W h => ld_any _ _ Try.underlying29 rfl (h.at 1 rfl) 0 rfl, fun W h => load_part (h.at 3 rfl) 0 (bdc b) rfl _ _ Try.underlying28 rfl (by kernel_rfl), trivial⟩ hS ?_
      refine oD 16 22 (cD (some 47) 6 #[.pointer none, bdv b, .int .i64 now] ((rmBid_no b now _ (.inl rfl)).mono ?_))
      rintro e Y24 ⟨rfl, hb⟩
      refine And.intro (hS.below hb) ?_
      replace hS := hS.below hb
      replace hM := hM.below hb
      clear hb
      refine tD 7 [.val 17 (some 48) (.bool false), .val 18 (some 49) (.bool false), .val 19 (some 50) (.bool false), .val 20 (some 51) (.bool false), .val 21 (some 52) (.bool false), .val 22 (some 53) (.slice (some ⟨N6, 0, none⟩) 2 2), .val 23 (some 54) (.int .i64 0), .idx 24 (some 55) 35 (.slice (some ⟨N6, 0, none⟩) 2 2) (.int .i64 0) (pt N6 0), .load 25 (some 56) 29 (pt N6 0) (.pointer none), .val 28 (some 59) (.slice (some ⟨N6, 0, none⟩) 2 2), .val 29 (some 60) (.int .i64 0), .idx 30 (some 61) 35 (.slice (some ⟨N6, 0, none⟩) 2 2) (.int .i64 0) (pt N6 0), .load 31 (some 62) 29 (pt N6 0) (.pointer none), .val 32 (some 63) (pt N2 1), .load 33 (some 64) 26 (pt N2 1) (akv b.k)] ⟨fun W h => idx_ptr0 _ _, fun W h => ld_any _ _ Try.underlying29 rfl (h.at 1 rfl) 0 rfl, fun W h => idx_ptr0 _ _, fun W h => ld_any _ _ Try.underlying29 rfl (h.at 1 rfl) 0 rfl, fun W h => load_part (h.at 3 rfl) 1 (akc b.k) rfl _ _ Try.underlying26 rfl (by kernel_rfl), trivial⟩ hS ?_
      refine oD 26 6 (cD (some 57) 7 #[.pointer none] ((rmAsks_no _ (.inl rfl)).mono ?_))
      rintro e Y25 ⟨rfl, hb⟩
      refine And.intro (hS.below hb) ?_
      replace hS := hS.below hb
      replace hM := hM.below hb
      clear hb
      refine tD 5 [.val 27 (some 58) (.int .i64 0)] trivial hS ?_
      refine oD 34 4 (cD (some 65) 8 #[.pointer none, akv b.k] ((rmBids_no b.k _ (.inl rfl)).mono ?_))
      rintro e Y26 ⟨rfl, hb⟩
      refine And.intro (hS.below hb) ?_
      replace hS := hS.below hb
      replace hM := hM.below hb
      clear hb
      refine tD 0 [.val 35 (some 66) (.int .i64 0), .alt 36 (some 67) (.int .i64 (IntKind.i64.wrap (0 + 0))) (.int .i64 0), .val 37 (some 68) (.bool false), .val 38 (some 69) (.bool false)] ⟨congrArg (Value.int .i64) (by decide), trivial⟩ hS ?_
      refine dD ?_
      try simp only [puts, Tk.put, Act.put, List.setIfInBounds_toArray, List.set_cons_zero, List.set_cons_succ]
      clear hS
      go_upto_region 5 with fail
      refine wp_region_fromM (fun W => Sep w [] [.blk N19 28 (bdc noB), .blk N6 29 ([.pointer none, pt N5 0]), .blk N5 34 (rmc false ⟨#[]⟩ ⟨#[]⟩ (.slice none 0 0) (.slice none 0 0)), .blk N2 28 (bdc b)] W) hM ?_
      clear hM
      rintro Y27 hM
      refine tF 3 [.val 0 (some 18) (.int .i64 0), .alt 1 (some 19) (.int .i64 (IntKind.i64.wrap (0 + 1))) (.int .i64 1), .val 2 (some 7) (.int .i64 1)] ⟨congrArg (Value.int .i64) (by decide), trivial⟩ ?_
      refine dF ?_
      try simp only [puts, Tk.put, Act.put, List.setIfInBounds_toArray, List.set_cons_zero, List.set_cons_succ]
      go_wp2_with fail
      refine Met.intro (hJs1 _ _ rfl (show (fun (i : Value) => (i = .int .i64 0 ∨ i = .int .i64 1 ∨ i = .int .i64 2) ∧ Sep w [] [.blk N6 29 ([.pointer none, pt N5 0]), .blk N5 34 (rmc false ⟨#[]⟩ ⟨#[]⟩ (.slice none 0 0) (.slice none 0 0)), .blk N2 28 (bdc b)] _) (.int .i64 1) from ⟨.inr (.inl rfl), hM.sub (l' := [.blk N6 29 ([.pointer none, pt N5 0]), .blk N5 34 (rmc false ⟨#[]⟩ ⟨#[]⟩ (.slice none 0 0) (.slice none 0 0)), .blk N2 28 (bdc b)]) (.cons _ (.cons_cons _ (.cons_cons _ (.cons_cons _ .slnil))))⟩) ?_)
      show 2 - (intOf (.int .i64 1 : Value)).toNat < 2 - (intOf (.int .i64 0 : Value)).toNat
      simp [intOf]
  case inr.inl =>
    go_upto_region 4 with fail
    refine wp_region_fromM (fun W => Sep w [] [.blk N6 29 ([.pointer none, pt N5 0]), .blk N5 34 (rmc false ⟨#[]⟩ ⟨#[]⟩ (.slice none 0 0) (.slice none 0 0)), .blk N2 28 (bdc b)] W) hM ?_
    clear hM
    rintro Y28 hM
    refine tF 4 [.val 0 (some 14) (.int .i64 1), .val 1 (some 15) (.slice (some ⟨N6, 0, none⟩) 2 2), .val 2 (some 16) (.int .i64 2), .val 3 (some 17) (.bool true)] trivial ?_
    refine dF ?_
    try simp only [puts, Tk.put, Act.put, List.setIfInBounds_toArray, List.set_cons_zero, List.set_cons_succ]
    go_upto_region 6 with fail
    refine wp_region_M (fun W => Sep w [] [.blk N6 29 ([.pointer none, pt N5 0]), .blk N5 34 (rmc false ⟨#[]⟩ ⟨#[]⟩ (.slice none 0 0) (.slice none 0 0)), .blk N2 28 (bdc b)] W) (fun W => Sep w [] [.blk N6 29 ([.pointer none, pt N5 0]), .blk N5 34 (rmc false ⟨#[]⟩ ⟨#[]⟩ (.slice none 0 0) (.slice none 0 0)), .blk N2 28 (bdc b)] W) hmx hM.drew ?_
    clear hM
    rintro Y29 hM
    have hS := hM.sub (.cons_cons _ (.cons_cons _ (.cons_cons _ .slnil)))
    refine tD 7 [.val 0 (some 21) (.slice (some ⟨N6, 0, none⟩) 2 2), .val 1 (some 22) (.int .i64 1), .idx 2 (some 23) 35 (.slice (some ⟨N6, 0, none⟩) 2 2) (.int .i64 1) (pt N6 1), .load 3 (some 24) 29 (pt N6 1) (pt N5 0), .val 4 (some 25) (pt N2 1), .load 5 (some 26) 26 (pt N2 1) (akv b.k), .val 6 (some 27) (.int .i64 now)] ⟨fun W h => idx_ptr1 _ _, fun W h => ld_any _ _ Try.underlying29 rfl (h.at 0 rfl) 1 rfl, fun W h => load_part (h.at 2 rfl) 1 (akc b.k) rfl _ _ Try.underlying26 rfl (by kernel_rfl), trivial⟩ hS ?_
    refine oT 7 11 6 ?_ ?_
    · refine cD (some 28) 4 #[pt N5 0, akv b.k, .int .i64 now, .int .i64 1] ((rmBest_no b.k now 1 _ (.inr ⟨_, rfl, hM.at 1 rfl⟩)).mono ?_)
      rintro e Y30 ⟨rfl, hb⟩
      refine And.intro (hS.below hb) ?_
      replace hS := hS.below hb
      replace hM := hM.below hb
      clear hb
      refine tD 3 [.val 8 (some 20) (.tuple #[bdv noB, .bool false]), .val 9 (some 29) (bdv noB), .val 10 (some 30) (.bool false)] trivial hS ?_
      refine oD 11 2 (rD (some 8) (pt Y30.heap.size 0) (Y30.alloc (.cells (bdc noB).toArray 28)) (hS.other _) ?_)
      replace hS := hS.other (.cells (bdc noB).toArray 28)
      replace hM := hM.alloc 28 (bdc noB)
      generalize World.alloc _ _ = Y31 at *
      generalize hNe : Y30.heap.size = N31 at *
      clear hNe
      have hst := sto_part (bdc noB) (hM.at 0 rfl) 0 28 (bdv noB) (bdc noB) rfl (by kernel_rfl) (Nat.le_of_ble_eq_true rfl) rfl rfl
      have hM1 := hM.set 0 (cs' := bdc noB) rfl rfl
      refine oD 12 1 (sD 28 (pt N31 0) (bdv noB) (hst) (hM1.sub (.cons _ (.cons_cons _ (.cons_cons _ (.cons_cons _ .slnil))))) ?_)
      clear hst
      replace hS := hM1.sub (.cons _ (.cons_cons _ (.cons_cons _ (.cons_cons _ .slnil))))
      replace hM := hM1
      clear hM1
      generalize World.setRow _ _ _ = Y32 at *
      refine tD 0 [.val 13 (some 9) (.bool false)] trivial hS ?_
      refine dD ?_
      try simp only [puts, Tk.put, Act.put, List.setIfInBounds_toArray, List.set_cons_zero, List.set_cons_succ]
      clear hS
      go_upto_region 7 with fail
      refine wp_region_M (fun W => Sep w [] [.blk N31 28 (bdc noB), .blk N6 29 ([.pointer none, pt N5 0]), .blk N5 34 (rmc false ⟨#[]⟩ ⟨#[]⟩ (.slice none 0 0) (.slice none 0 0)), .blk N2 28 (bdc b)] W) (fun W => Sep w [] [.blk N31 28 (bdc noB), .blk N6 29 ([.pointer none, pt N5 0]), .blk N5 34 (rmc false ⟨#[]⟩ ⟨#[]⟩ (.slice none 0 0) (.slice none 0 0)), .blk N2 28 (bdc b)] W) hmx hM.drew ?_
      clear hM
      rintro Y33 hM
      have hS := hM.sub (.cons_cons _ (.cons_cons _ (.cons_cons _ (.cons_cons _ .slnil))))
      refine tD 32 [.val 0 (some 31) (.slice (some ⟨N6, 0, none⟩) 2 2), .val 1 (some 32) (.int .i64 1), .idx 2 (some 33) 35 (.slice (some ⟨N6, 0, none⟩) 2 2) (.int .i64 1) (pt N6 1), .load 3 (some 34) 29 (pt N6 1) (pt N5 0), .val 4 (some 35) (pt N2 1), .load 5 (some 36) 26 (pt N2 1) (akv b.k), .val 6 (some 37) (.int .i64 now)] ⟨fun W h => idx_ptr1 _ _, fun W h => ld_any _ _ Try.underlying29 rfl (h.at 1 rfl) 1 rfl, fun W h => load_part (h.at 3 rfl) 1 (akc b.k) rfl _ _ Try.underlying26 rfl (by kernel_rfl), trivial⟩ hS ?_
      refine oD 7 31 (cD (some 38) 5 #[pt N5 0, akv b.k, .int .i64 now] ((rmOpen_no b.k now _ (.inr ⟨_, rfl, hM.at 2 rfl⟩)).mono ?_))
      rintro e Y34 ⟨rfl, hb⟩
      refine And.intro (hS.below hb) ?_
      replace hS := hS.below hb
      replace hM := hM.below hb
      clear hb
      refine tD 23 [.val 8 (some 39) (.bool false), .val 9 (some 40) (.bool false), .val 10 (some 41) (.slice (some ⟨N6, 0, none⟩) 2 2), .val 11 (some 42) (.int .i64 1), .idx 12 (some 43) 35 (.slice (some ⟨N6, 0, none⟩) 2 2) (.int .i64 1) (pt N6 1), .load 13 (some 44) 29 (pt N6 1) (pt N5 0), .load 14 (some 45) 28 (pt N2 0) (bdv b), .val 15 (some 46) (.int .i64 now)] ⟨fun W h => idx_ptr1 _ _, fun W h => ld_any _ _ Try.underlying29 rfl (h.at 1 rfl) 1 rfl, fun W h => load_part (h.at 3 rfl) 0 (bdc b) rfl _ _ Try.underlying28 rfl (by kernel_rfl), trivial⟩ hS ?_
      refine oD 16 22 (cD (some 47) 6 #[pt N5 0, bdv b, .int .i64 now] ((rmBid_no b now _ (.inr ⟨_, rfl, hM.at 2 rfl⟩)).mono ?_))
      rintro e Y35 ⟨rfl, hb⟩
      refine And.intro (hS.below hb) ?_
      replace hS := hS.below hb
      replace hM := hM.below hb
      clear hb
      refine tD 7 [.val 17 (some 48) (.bool false), .val 18 (some 49) (.bool false), .val 19 (some 50) (.bool false), .val 20 (some 51) (.bool false), .val 21 (some 52) (.bool false), .val 22 (some 53) (.slice (some ⟨N6, 0, none⟩) 2 2), .val 23 (some 54) (.int .i64 1), .idx 24 (some 55) 35 (.slice (some ⟨N6, 0, none⟩) 2 2) (.int .i64 1) (pt N6 1), .load 25 (some 56) 29 (pt N6 1) (pt N5 0), .val 28 (some 59) (.slice (some ⟨N6, 0, none⟩) 2 2), .val 29 (some 60) (.int .i64 1), .idx 30 (some 61) 35 (.slice (some ⟨N6, 0, none⟩) 2 2) (.int .i64 1) (pt N6 1), .load 31 (some 62) 29 (pt N6 1) (pt N5 0), .val 32 (some 63) (pt N2 1), .load 33 (some 64) 26 (pt N2 1) (akv b.k)] ⟨fun W h => idx_ptr1 _ _, fun W h => ld_any _ _ Try.underlying29 rfl (h.at 1 rfl) 1 rfl, fun W h => idx_ptr1 _ _, fun W h => ld_any _ _ Try.underlying29 rfl (h.at 1 rfl) 1 rfl, fun W h => load_part (h.at 3 rfl) 1 (akc b.k) rfl _ _ Try.underlying26 rfl (by kernel_rfl), trivial⟩ hS ?_
      refine oD 26 6 (cD (some 57) 7 #[pt N5 0] ((rmAsks_no _ (.inr ⟨_, rfl, hM.at 2 rfl⟩)).mono ?_))
      rintro e Y36 ⟨rfl, hb⟩
      refine And.intro (hS.below hb) ?_
      replace hS := hS.below hb
      replace hM := hM.below hb
      clear hb
      refine tD 5 [.val 27 (some 58) (.int .i64 0)] trivial hS ?_
      refine oD 34 4 (cD (some 65) 8 #[pt N5 0, akv b.k] ((rmBids_no b.k _ (.inr ⟨_, rfl, hM.at 2 rfl⟩)).mono ?_))
      rintro e Y37 ⟨rfl, hb⟩
      refine And.intro (hS.below hb) ?_
      replace hS := hS.below hb
      replace hM := hM.below hb
      clear hb
      refine tD 0 [.val 35 (some 66) (.int .i64 0), .alt 36 (some 67) (.int .i64 (IntKind.i64.wrap (0 + 0))) (.int .i64 0), .val 37 (some 68) (.bool false), .val 38 (some 69) (.bool false)] ⟨congrArg (Value.int .i64) (by decide), trivial⟩ hS ?_
      refine dD ?_
      try simp only [puts, Tk.put, Act.put, List.setIfInBounds_toArray, List.set_cons_zero, List.set_cons_succ]
      clear hS
      go_upto_region 5 with fail
      refine wp_region_fromM (fun W => Sep w [] [.blk N31 28 (bdc noB), .blk N6 29 ([.pointer none, pt N5 0]), .blk N5 34 (rmc false ⟨#[]⟩ ⟨#[]⟩ (.slice none 0 0) (.slice none 0 0)), .blk N2 28 (bdc b)] W) hM ?_
      clear hM
      rintro Y38 hM
      refine tF 3 [.val 0 (some 18) (.int .i64 1), .alt 1 (some 19) (.int .i64 (IntKind.i64.wrap (1 + 1))) (.int .i64 2), .val 2 (some 7) (.int .i64 2)] ⟨congrArg (Value.int .i64) (by decide), trivial⟩ ?_
      refine dF ?_
      try simp only [puts, Tk.put, Act.put, List.setIfInBounds_toArray, List.set_cons_zero, List.set_cons_succ]
      go_wp2_with fail
      refine Met.intro (hJs1 _ _ rfl (show (fun (i : Value) => (i = .int .i64 0 ∨ i = .int .i64 1 ∨ i = .int .i64 2) ∧ Sep w [] [.blk N6 29 ([.pointer none, pt N5 0]), .blk N5 34 (rmc false ⟨#[]⟩ ⟨#[]⟩ (.slice none 0 0) (.slice none 0 0)), .blk N2 28 (bdc b)] _) (.int .i64 2) from ⟨.inr (.inr rfl), hM.sub (l' := [.blk N6 29 ([.pointer none, pt N5 0]), .blk N5 34 (rmc false ⟨#[]⟩ ⟨#[]⟩ (.slice none 0 0) (.slice none 0 0)), .blk N2 28 (bdc b)]) (.cons _ (.cons_cons _ (.cons_cons _ (.cons_cons _ .slnil))))⟩) ?_)
      show 2 - (intOf (.int .i64 2 : Value)).toNat < 2 - (intOf (.int .i64 1 : Value)).toNat
      simp [intOf]
    · refine rD (some 8) (pt Y29.heap.size 0) (Y29.alloc (.cells (bdc noB).toArray 28)) (hS.other _) ?_
      replace hS := hS.other (.cells (bdc noB).toArray 28)
      replace hM := hM.alloc 28 (bdc noB)
      generalize World.alloc _ _ = Y39 at *
      generalize hNe : Y29.heap.size = N39 at *
      clear hNe
      refine oD 7 5 (cD (some 28) 4 #[pt N5 0, akv b.k, .int .i64 now, .int .i64 1] ((rmBest_no b.k now 1 _ (.inr ⟨_, rfl, hM.at 2 rfl⟩)).mono ?_))
      rintro e Y40 ⟨rfl, hb⟩
      refine And.intro (hS.below hb) ?_
      replace hS := hS.below hb
      replace hM := hM.below hb
      clear hb
      refine tD 2 [.val 8 (some 20) (.tuple #[bdv noB, .bool false]), .val 9 (some 29) (bdv noB), .val 10 (some 30) (.bool false)] trivial hS ?_
      have hst := sto_part (bdc noB) (hM.at 0 rfl) 0 28 (bdv noB) (bdc noB) rfl (by kernel_rfl) (Nat.le_of_ble_eq_true rfl) rfl rfl
      have hM1 := hM.set 0 (cs' := bdc noB) rfl rfl
      refine oD 12 1 (sD 28 (pt N39 0) (bdv noB) (hst) (hM1.sub (.cons _ (.cons_cons _ (.cons_cons _ (.cons_cons _ .slnil))))) ?_)
      clear hst
      replace hS := hM1.sub (.cons _ (.cons_cons _ (.cons_cons _ (.cons_cons _ .slnil))))
      replace hM := hM1
      clear hM1
      generalize World.setRow _ _ _ = Y41 at *
      refine tD 0 [.val 13 (some 9) (.bool false)] trivial hS ?_
      refine dD ?_
      try simp only [puts, Tk.put, Act.put, List.setIfInBounds_toArray, List.set_cons_zero, List.set_cons_succ]
      clear hS
      go_upto_region 7 with fail
      refine wp_region_M (fun W => Sep w [] [.blk N39 28 (bdc noB), .blk N6 29 ([.pointer none, pt N5 0]), .blk N5 34 (rmc false ⟨#[]⟩ ⟨#[]⟩ (.slice none 0 0) (.slice none 0 0)), .blk N2 28 (bdc b)] W) (fun W => Sep w [] [.blk N39 28 (bdc noB), .blk N6 29 ([.pointer none, pt N5 0]), .blk N5 34 (rmc false ⟨#[]⟩ ⟨#[]⟩ (.slice none 0 0) (.slice none 0 0)), .blk N2 28 (bdc b)] W) hmx hM.drew ?_
      clear hM
      rintro Y42 hM
      have hS := hM.sub (.cons_cons _ (.cons_cons _ (.cons_cons _ (.cons_cons _ .slnil))))
      refine tD 32 [.val 0 (some 31) (.slice (some ⟨N6, 0, none⟩) 2 2), .val 1 (some 32) (.int .i64 1), .idx 2 (some 33) 35 (.slice (some ⟨N6, 0, none⟩) 2 2) (.int .i64 1) (pt N6 1), .load 3 (some 34) 29 (pt N6 1) (pt N5 0), .val 4 (some 35) (pt N2 1), .load 5 (some 36) 26 (pt N2 1) (akv b.k), .val 6 (some 37) (.int .i64 now)] ⟨fun W h => idx_ptr1 _ _, fun W h => ld_any _ _ Try.underlying29 rfl (h.at 1 rfl) 1 rfl, fun W h => load_part (h.at 3 rfl) 1 (akc b.k) rfl _ _ Try.underlying26 rfl (by kernel_rfl), trivial⟩ hS ?_
      refine oD 7 31 (cD (some 38) 5 #[pt N5 0, akv b.k, .int .i64 now] ((rmOpen_no b.k now _ (.inr ⟨_, rfl, hM.at 2 rfl⟩)).mono ?_))
      rintro e Y43 ⟨rfl, hb⟩
      refine And.intro (hS.below hb) ?_
      replace hS := hS.below hb
      replace hM := hM.below hb
      clear hb
      refine tD 23 [.val 8 (some 39) (.bool false), .val 9 (some 40) (.bool false), .val 10 (some 41) (.slice (some ⟨N6, 0, none⟩) 2 2), .val 11 (some 42) (.int .i64 1), .idx 12 (some 43) 35 (.slice (some ⟨N6, 0, none⟩) 2 2) (.int .i64 1) (pt N6 1), .load 13 (some 44) 29 (pt N6 1) (pt N5 0), .load 14 (some 45) 28 (pt N2 0) (bdv b), .val 15 (some 46) (.int .i64 now)] ⟨fun W h => idx_ptr1 _ _, fun W h => ld_any _ _ Try.underlying29 rfl (h.at 1 rfl) 1 rfl, fun W h => load_part (h.at 3 rfl) 0 (bdc b) rfl _ _ Try.underlying28 rfl (by kernel_rfl), trivial⟩ hS ?_
      refine oD 16 22 (cD (some 47) 6 #[pt N5 0, bdv b, .int .i64 now] ((rmBid_no b now _ (.inr ⟨_, rfl, hM.at 2 rfl⟩)).mono ?_))
      rintro e Y44 ⟨rfl, hb⟩
      refine And.intro (hS.below hb) ?_
      replace hS := hS.below hb
      replace hM := hM.below hb
      clear hb
      refine tD 7 [.val 17 (some 48) (.bool false), .val 18 (some 49) (.bool false), .val 19 (some 50) (.bool false), .val 20 (some 51) (.bool false), .val 21 (some 52) (.bool false), .val 22 (some 53) (.slice (some ⟨N6, 0, none⟩) 2 2), .val 23 (some 54) (.int .i64 1), .idx 24 (some 55) 35 (.slice (some ⟨N6, 0, none⟩) 2 2) (.int .i64 1) (pt N6 1), .load 25 (some 56) 29 (pt N6 1) (pt N5 0), .val 28 (some 59) (.slice (some ⟨N6, 0, none⟩) 2 2), .val 29 (some 60) (.int .i64 1), .idx 30 (some 61) 35 (.slice (some ⟨N6, 0, none⟩) 2 2) (.int .i64 1) (pt N6 1), .load 31 (some 62) 29 (pt N6 1) (pt N5 0), .val 32 (some 63) (pt N2 1), .load 33 (some 64) 26 (pt N2 1) (akv b.k)] ⟨fun W h => idx_ptr1 _ _, fun W h => ld_any _ _ Try.underlying29 rfl (h.at 1 rfl) 1 rfl, fun W h => idx_ptr1 _ _, fun W h => ld_any _ _ Try.underlying29 rfl (h.at 1 rfl) 1 rfl, fun W h => load_part (h.at 3 rfl) 1 (akc b.k) rfl _ _ Try.underlying26 rfl (by kernel_rfl), trivial⟩ hS ?_
      refine oD 26 6 (cD (some 57) 7 #[pt N5 0] ((rmAsks_no _ (.inr ⟨_, rfl, hM.at 2 rfl⟩)).mono ?_))
      rintro e Y45 ⟨rfl, hb⟩
      refine And.intro (hS.below hb) ?_
      replace hS := hS.below hb
      replace hM := hM.below hb
      clear hb
      refine tD 5 [.val 27 (some 58) (.int .i64 0)] trivial hS ?_
      refine oD 34 4 (cD (some 65) 8 #[pt N5 0, akv b.k] ((rmBids_no b.k _ (.inr ⟨_, rfl, hM.at 2 rfl⟩)).mono ?_))
      rintro e Y46 ⟨rfl, hb⟩
      refine And.intro (hS.below hb) ?_
      replace hS := hS.below hb
      replace hM := hM.below hb
      clear hb
      refine tD 0 [.val 35 (some 66) (.int .i64 0), .alt 36 (some 67) (.int .i64 (IntKind.i64.wrap (0 + 0))) (.int .i64 0), .val 37 (some 68) (.bool false), .val 38 (some 69) (.bool false)] ⟨congrArg (Value.int .i64) (by decide), trivial⟩ hS ?_
      refine dD ?_
      try simp only [puts, Tk.put, Act.put, List.setIfInBounds_toArray, List.set_cons_zero, List.set_cons_succ]
      clear hS
      go_upto_region 5 with fail
      refine wp_region_fromM (fun W => Sep w [] [.blk N39 28 (bdc noB), .blk N6 29 ([.pointer none, pt N5 0]), .blk N5 34 (rmc false ⟨#[]⟩ ⟨#[]⟩ (.slice none 0 0) (.slice none 0 0)), .blk N2 28 (bdc b)] W) hM ?_
      clear hM
      rintro Y47 hM
      refine tF 3 [.val 0 (some 18) (.int .i64 1), .alt 1 (some 19) (.int .i64 (IntKind.i64.wrap (1 + 1))) (.int .i64 2), .val 2 (some 7) (.int .i64 2)] ⟨congrArg (Value.int .i64) (by decide), trivial⟩ ?_
      refine dF ?_
      try simp only [puts, Tk.put, Act.put, List.setIfInBounds_toArray, List.set_cons_zero, List.set_cons_succ]
      go_wp2_with fail
      refine Met.intro (hJs1 _ _ rfl (show (fun (i : Value) => (i = .int .i64 0 ∨ i = .int .i64 1 ∨ i = .int .i64 2) ∧ Sep w [] [.blk N6 29 ([.pointer none, pt N5 0]), .blk N5 34 (rmc false ⟨#[]⟩ ⟨#[]⟩ (.slice none 0 0) (.slice none 0 0)), .blk N2 28 (bdc b)] _) (.int .i64 2) from ⟨.inr (.inr rfl), hM.sub (l' := [.blk N6 29 ([.pointer none, pt N5 0]), .blk N5 34 (rmc false ⟨#[]⟩ ⟨#[]⟩ (.slice none 0 0) (.slice none 0 0)), .blk N2 28 (bdc b)]) (.cons _ (.cons_cons _ (.cons_cons _ (.cons_cons _ .slnil))))⟩) ?_)
      show 2 - (intOf (.int .i64 2 : Value)).toNat < 2 - (intOf (.int .i64 1 : Value)).toNat
      simp [intOf]
  case inr.inr =>
    go_upto_region 4 with fail
    refine wp_region_fromM (fun W => Sep w [] [.blk N6 29 ([.pointer none, pt N5 0]), .blk N5 34 (rmc false ⟨#[]⟩ ⟨#[]⟩ (.slice none 0 0) (.slice none 0 0)), .blk N2 28 (bdc b)] W) hM ?_
    clear hM
    rintro Y48 hM
    refine tF 4 [.val 0 (some 14) (.int .i64 2), .val 1 (some 15) (.slice (some ⟨N6, 0, none⟩) 2 2), .val 2 (some 16) (.int .i64 2), .val 3 (some 17) (.bool false)] trivial ?_
    refine dF ?_
    try simp only [puts, Tk.put, Act.put, List.setIfInBounds_toArray, List.set_cons_zero, List.set_cons_succ]
    go_upto_region 9 with fail
    refine wp_region_fromM (fun W => Sep w [] [.blk N6 29 ([.pointer none, pt N5 0]), .blk N5 34 (rmc false ⟨#[]⟩ ⟨#[]⟩ (.slice none 0 0) (.slice none 0 0)), .blk N2 28 (bdc b)] W) hM ?_
    clear hM
    rintro Y49 hM
    refine cF (some 70) 9 #[] ((alive19_any _).mono ?_)
    rintro e Y50 ⟨rfl, hb⟩
    replace hM := hM.below hb
    clear hb
    refine tF 2 [.val 1 (some 4) (.bool true)] trivial ?_
    refine dF ?_
    try simp only [puts, Tk.put, Act.put, List.setIfInBounds_toArray, List.set_cons_zero, List.set_cons_succ]
    go_wp2_with fail
    go_ret
    exact ⟨rfl, hM.b⟩
end Go.Proofs.Ytbhfajnejibaoaa
namespace Go.Proofs.Ytbhfajnejibaoaa
open Go.ChangeShapes Go.WideShapes Go.ChangeAt Go.RowKit Go.Deep
open Go.ChangeMaps (open_string)
set_option maxRecDepth 100000 in
theorem auctionNobody_lifted (os : Os) (started : os.Started) (H : Type) (enc : TypeId × Value → H) :
    ReturnsInHanded {} Try.checked os 3 .any (Rows.auctionNobodySpec.pre6 enc Try.prog Try.f3 Rows.auctionNobodyRow.domain false) (Rows.auctionNobodySpec.post enc Try.prog Try.f3 false true false false) := by
  refine returnsInHanded_of_change_sized (C := Try.checked) Try.own started (by kernel_rfl) Try.func3
    (ChangeSpec.witness6 (enc := enc) (C := Try.checked) false ⟨#[], #[.agg #[.int .i64 0, .int .i64 0, .int .i64 0, .int .i64 0, .int .i64 0, .int .u64 0, .int .u64 0, .int .u64 0, .int .u64 0, .string ⟨#[]⟩, .int .u64 0, .int .u64 0, .int .u64 0, .int .u64 0, .int .i64 0, .string ⟨#[]⟩], .int .i64 0], []⟩ 8 (by kernel_rfl) (by kernel_rfl) (by kernel_rfl) (by kernel_rfl)) ?_
  intro W base args ds gs before hval0 hW hcnd hsz0 _
  have hval : ∀ (j : Nat) t v, Try.f3.params[j]? = some t → args[j]? = some v → Value.okWide Try.prog W .any base t v := hval0
  have hW' := hW
  obtain ⟨p, q, hA0, hV, rfl, hfz, hnd⟩ := hW
  have hA : DataW.TrodAll enc Try.prog W 0 (fun _ => true) true Try.f3.params.toList args.toList ds p := hA0
  have hsz : (DataW.weightsEach Try.prog (Try.f3.params.toList ++ Rows.auctionNobodySpec.plain.varTypes Try.prog) (ds ++ gs)).all (· ≤ reachBytes) = true := hsz0
  rw [Try.params3] at hA hval hsz
  obtain ⟨v0, v1, d0, d1, p0, p1, rfl, rfl, rfl, h0, h1⟩ := trodAll_two hA
  obtain ⟨rfl, rfl⟩ := trodVars_none hV
  have k0 := h0
  have k1 := h1
  have lt0 : ∀ x ∈ p0, x.block < W.heap.size := by obtain ⟨m, hm⟩ := k0; exact DataW.trod_lt m _ _ _ hm
  have lt1 : ∀ x ∈ p1, x.block < W.heap.size := by obtain ⟨m, hm⟩ := k1; exact DataW.trod_lt m _ _ _ hm
  obtain ⟨i0, rfl, hx0⟩ := open_bid (hval 0 28 v0 rfl rfl) h0
  obtain ⟨z1, rfl, _, _, wf1⟩ := open_int Try.underlying3 (hval 1 3 v1 rfl rfl) h1
  obtain ⟨zl1, zh1⟩ := wf_i64 wf1
  clear hA0 hval0
  refine (auctionNobody_any i0 z1 W).mono fun e W' ⟨he, bel⟩ => ?_
  subst he
  exact ⟨_, rfl, _, _, _, [], _, [], hW', trodAll_mk1 (shut_bool Try.underlying4 _), (trodAll_mk2 (Below.trod Try.laidOut (by kernel_rfl) (of_decide_eq_true (by kernel_rfl)) k0 bel lt0) (Below.trod Try.laidOut (by kernel_rfl) (of_decide_eq_true (by kernel_rfl)) k1 bel lt1)), rfl, bel.frame _, fun h => by cases h⟩
theorem auctionNobody_over : Rows.auctionNobodyRow.holds Try.pinned (OpenSpec.ofChange Rows.auctionNobodySpec) :=
  OpenClaim.holds_of_wide 3 Try.f3 rfl rfl rfl rfl rfl rfl rfl ⟨rfl, rfl, rfl, rfl, rfl⟩ rfl rfl rfl rfl rfl (by kernel_rfl) Try.func3 (by kernel_rfl)
    (of_decide_eq_true (by kernel_rfl)) (by unfold Func.isWrapper; first | (rw [if_pos (by decide +kernel)]; kernel_rfl) | (rw [if_neg (by decide +kernel)]; exact ⟨rfl, rfl⟩))
    (fun os started H enc _ => auctionNobody_lifted os started H enc)
theorem auctionNobody_proved : Rows.AuctionNobodySaid := auctionNobody_over
end Go.Proofs.Ytbhfajnejibaoaa
