/-
  A room that nobody made has nothing
-/
import Derived.Test.YtbhfajnejibaoaaK05
namespace Go.Proofs.Ytbhfajnejibaoaa
open Go.RowKit Go.Shelf
attribute [local irreducible] wpFrom wpAnyH StepH
set_option maxRecDepth 100000 in
set_option maxHeartbeats 4000000 in
theorem rmOpened_no {p : Value} (a : Ak) (w : World) (hn : NoR w p) : Calls Try.prog 10 #[p, akv a] w fun e W' => e = .returned (.tuple #[ltv noL, .bool false]) ∧ Below w.heap.size w W' := by
  have hmx : Try.prog.follows .mixedOrders = true := by kernel_rfl
  have HN := Lib.hid hn
  clear hn
  have hM := Sep.start w
  go_enter Try.func10, Try.ntmps10
  go_upto_region 0 with fail
  refine wp_region_fromM (fun W => Sep w [] [] W) hM ?_
  clear hM
  rintro Y1 hM
  refine rF (some 3) (pt Y1.heap.size 0) (Y1.alloc (.cells (akc a).toArray 26)) ?_
  replace hM := hM.alloc 26 (akc a)
  generalize World.alloc _ _ = Y2 at *
  generalize hNe : Y1.heap.size = N2 at *
  clear hNe
  refine rF (some 4) (pt Y2.heap.size 0) (Y2.alloc (.cells (ltc noL).toArray 46)) ?_
  replace hM := hM.alloc 46 (ltc noL)
  generalize World.alloc _ _ = Y3 at *
  generalize hNe : Y2.heap.size = N3 at *
  clear hNe
  refine tF 3 [.val 2 (some 5) (.bool false)] trivial ?_
  refine dF ?_
  try simp only [puts, Tk.put, Act.put, List.setIfInBounds_toArray, List.set_cons_zero, List.set_cons_succ]
  go_upto_region 1 with fail
  refine wp_region_fromM (fun W => Sep w [] [.blk N3 46 (ltc noL), .blk N2 26 (akc a)] W) hM ?_
  clear hM
  rintro Y4 hM
  refine tF 1 [.val 0 (some 7) (p)] trivial ?_
  refine cF (some 8) 15 #[p] ((rmThere_no _ (HN.out.below hM.b)).mono ?_)
  rintro e Y5 ⟨rfl, rfl⟩
  refine tF 3 [.val 2 (some 9) (.bool true)] trivial ?_
  refine dF ?_
  try simp only [puts, Tk.put, Act.put, List.setIfInBounds_toArray, List.set_cons_zero, List.set_cons_succ]
  go_upto_region 2 with fail
  refine wp_region_fromM (fun W => Sep w [] [.blk N3 46 (ltc noL), .blk N2 26 (akc a)] W) hM ?_
  clear hM
  rintro Y6 hM
  refine tF 1 [.val 0 (some 10) (ltv noL)] trivial ?_
  have hst := sto_part (ltc noL) (hM.at 0 rfl) 0 46 (ltv noL) (ltc noL) rfl (by kernel_rfl) (Nat.le_of_ble_eq_true rfl) rfl rfl
  refine sF 46 (pt N3 0) (ltv noL) (hst) ?_
  clear hst
  replace hM := hM.set 0 (cs' := ltc noL) rfl rfl
  generalize World.setRow _ _ _ = Y7 at *
  refine tF 3 [.val 2 (some 5) (.bool false)] trivial ?_
  refine dF ?_
  try simp only [puts, Tk.put, Act.put, List.setIfInBounds_toArray, List.set_cons_zero, List.set_cons_succ]
  go_wp2_with fail
  exact bodyPost_ret (v := .tuple #[ltv noL, .bool false]) (res_two rfl _ rfl rfl (lv_lt (hM.at 0 rfl))) rfl ⟨rfl, hM.b⟩
set_option maxRecDepth 100000 in
set_option maxHeartbeats 4000000 in
theorem rmWhich_no {p : Value} (a : Ak) (fv : Value) (w : World) (hn : NoR w p) : Calls Try.prog 12 #[p, akv a, fv] w fun e W' => e = .returned (.slice none 0 0) ∧ Below w.heap.size w W' := by
  have hmx : Try.prog.follows .mixedOrders = true := by kernel_rfl
  have HN := Lib.hid hn
  clear hn
  have hM := Sep.start w
  go_enter Try.func12, Try.ntmps12
  go_upto_region 0 with fail
  refine wp_region_fromM (fun W => Sep w [] [] W) hM ?_
  clear hM
  rintro Y1 hM
  refine rF (some 4) (pt Y1.heap.size 0) (Y1.alloc (.cells (akc a).toArray 26)) ?_
  replace hM := hM.alloc 26 (akc a)
  generalize World.alloc _ _ = Y2 at *
  generalize hNe : Y1.heap.size = N2 at *
  clear hNe
  refine tF 2 [.val 1 (some 6) (.slice none 0 0)] trivial ?_
  refine dF ?_
  try simp only [puts, Tk.put, Act.put, List.setIfInBounds_toArray, List.set_cons_zero, List.set_cons_succ]
  go_upto_region 1 with fail
  refine wp_region_fromM (fun W => Sep w [] [.blk N2 26 (akc a)] W) hM ?_
  clear hM
  rintro Y3 hM
  refine tF 1 [.val 0 (some 10) (p)] trivial ?_
  refine cF (some 11) 15 #[p] ((rmThere_no _ (HN.out.below hM.b)).mono ?_)
  rintro e Y4 ⟨rfl, rfl⟩
  refine tF 3 [.val 2 (some 12) (.bool true)] trivial ?_
  refine dF ?_
  try simp only [puts, Tk.put, Act.put, List.setIfInBounds_toArray, List.set_cons_zero, List.set_cons_succ]
  go_upto_region 2 with fail
  refine wp_region_fromM (fun W => Sep w [] [.blk N2 26 (akc a)] W) hM ?_
  clear hM
  rintro Y5 hM
  refine tF 1 [.val 0 (some 6) (.slice none 0 0)] trivial ?_
  refine dF ?_
  try simp only [puts, Tk.put, Act.put, List.setIfInBounds_toArray, List.set_cons_zero, List.set_cons_succ]
  go_wp2_with fail
  go_ret
  exact ⟨rfl, hM.b⟩
set_option maxRecDepth 100000 in
set_option maxHeartbeats 4000000 in
theorem rmBids_no {p : Value} (a : Ak) (w : World) (hn : NoR w p) : Calls Try.prog 8 #[p, akv a] w fun e W' => e = .returned (.slice none 0 0) ∧ Below w.heap.size w W' := by
  have hmx : Try.prog.follows .mixedOrders = true := by kernel_rfl
  have HN := Lib.hid hn
  clear hn
  have hM := Sep.start w
  go_enter Try.func8, Try.ntmps8
  go_upto_region 0 with fail
  refine wp_region_fromM (fun W => Sep w [] [] W) hM ?_
  clear hM
  rintro Y1 hM
  refine rF (some 3) (pt Y1.heap.size 0) (Y1.alloc (.cells (akc a).toArray 26)) ?_
  replace hM := hM.alloc 26 (akc a)
  generalize World.alloc _ _ = Y2 at *
  generalize hNe : Y1.heap.size = N2 at *
  clear hNe
  refine tF 2 [.val 1 (some 4) (.slice none 0 0)] trivial ?_
  refine dF ?_
  try simp only [puts, Tk.put, Act.put, List.setIfInBounds_toArray, List.set_cons_zero, List.set_cons_succ]
  go_upto_region 1 with fail
  refine wp_region_fromM (fun W => Sep w [] [.blk N2 26 (akc a)] W) hM ?_
  clear hM
  rintro Y3 hM
  refine tF 2 [.val 0 (some 5) (p), .load 1 (some 6) 26 (pt N2 0) (akv a)] ⟨load_part (hM.at 0 rfl) 0 (akc a) rfl _ _ Try.underlying26 rfl (by kernel_rfl), trivial⟩ ?_
  refine cF (some 7) 12 #[p, akv a, .func (.func 22) #[] #[]] ((rmWhich_no a (.func (.func 22) #[] #[]) _ (HN.out.below hM.b)).mono ?_)
  rintro e Y4 ⟨rfl, hb⟩
  replace hM := hM.below hb
  clear hb
  refine tF 4 [.val 3 (some 4) (.slice none 0 0)] trivial ?_
  refine dF ?_
  try simp only [puts, Tk.put, Act.put, List.setIfInBounds_toArray, List.set_cons_zero, List.set_cons_succ]
  go_wp2_with fail
  go_ret
  exact ⟨rfl, hM.b⟩
set_option maxRecDepth 100000 in
set_option maxHeartbeats 4000000 in
theorem rmAsks_no {p : Value}  (w : World) (hn : NoR w p) : Calls Try.prog 7 #[p] w fun e W' => e = .returned (.slice none 0 0) ∧ Below w.heap.size w W' := by
  have hmx : Try.prog.follows .mixedOrders = true := by kernel_rfl
  have HN := Lib.hid hn
  clear hn
  have hM := Sep.start w
  go_enter Try.func7, Try.ntmps7
  go_upto_region 0 with fail
  refine wp_region_fromM (fun W => Sep w [] [] W) hM ?_
  clear hM
  rintro Y1 hM
  refine tF 1 [.val 0 (some 2) (.slice none 0 0)] trivial ?_
  refine dF ?_
  try simp only [puts, Tk.put, Act.put, List.setIfInBounds_toArray, List.set_cons_zero, List.set_cons_succ]
  go_upto_region 1 with fail
  refine wp_region_fromM (fun W => Sep w [] [] W) hM ?_
  clear hM
  rintro Y2 hM
  refine tF 1 [.val 0 (some 6) (p)] trivial ?_
  refine cF (some 7) 15 #[p] ((rmThere_no _ (HN.out.below hM.b)).mono ?_)
  rintro e Y3 ⟨rfl, rfl⟩
  refine tF 3 [.val 2 (some 8) (.bool true)] trivial ?_
  refine dF ?_
  try simp only [puts, Tk.put, Act.put, List.setIfInBounds_toArray, List.set_cons_zero, List.set_cons_succ]
  go_upto_region 2 with fail
  refine wp_region_fromM (fun W => Sep w [] [] W) hM ?_
  clear hM
  rintro Y4 hM
  refine tF 1 [.val 0 (some 2) (.slice none 0 0)] trivial ?_
  refine dF ?_
  try simp only [puts, Tk.put, Act.put, List.setIfInBounds_toArray, List.set_cons_zero, List.set_cons_succ]
  go_wp2_with fail
  go_ret
  exact ⟨rfl, hM.b⟩
set_option maxRecDepth 100000 in
set_option maxHeartbeats 4000000 in
theorem rmOpen_no {p : Value} (a : Ak) (now : Int) (w : World) (hn : NoR w p) : Calls Try.prog 5 #[p, akv a, .int .i64 now] w fun e W' => e = .returned (.int .i64 9) ∧ Below w.heap.size w W' := by
  have hmx : Try.prog.follows .mixedOrders = true := by kernel_rfl
  have HN := Lib.hid hn
  clear hn
  have hM := Sep.start w
  go_enter Try.func5, Try.ntmps5
  go_upto_region 0 with fail
  refine wp_region_fromM (fun W => Sep w [] [] W) hM ?_
  clear hM
  rintro Y1 hM
  refine rF (some 4) (pt Y1.heap.size 0) (Y1.alloc (.cells (akc a).toArray 26)) ?_
  replace hM := hM.alloc 26 (akc a)
  generalize World.alloc _ _ = Y2 at *
  generalize hNe : Y1.heap.size = N2 at *
  clear hNe
  refine tF 2 [.val 1 (some 6) (.int .i64 0)] trivial ?_
  refine dF ?_
  try simp only [puts, Tk.put, Act.put, List.setIfInBounds_toArray, List.set_cons_zero, List.set_cons_succ]
  go_upto_region 1 with fail
  refine wp_region_fromM (fun W => Sep w [] [.blk N2 26 (akc a)] W) hM ?_
  clear hM
  rintro Y3 hM
  refine tF 1 [.val 0 (some 10) (p)] trivial ?_
  refine cF (some 11) 15 #[p] ((rmThere_no _ (HN.out.below hM.b)).mono ?_)
  rintro e Y4 ⟨rfl, rfl⟩
  refine tF 3 [.val 2 (some 12) (.bool true)] trivial ?_
  refine dF ?_
  try simp only [puts, Tk.put, Act.put, List.setIfInBounds_toArray, List.set_cons_zero, List.set_cons_succ]
  go_upto_region 2 with fail
  refine wp_region_fromM (fun W => Sep w [] [.blk N2 26 (akc a)] W) hM ?_
  clear hM
  rintro Y5 hM
  refine tF 1 [.val 0 (some 6) (.int .i64 9)] trivial ?_
  refine dF ?_
  try simp only [puts, Tk.put, Act.put, List.setIfInBounds_toArray, List.set_cons_zero, List.set_cons_succ]
  go_wp2_with fail
  go_ret
  exact ⟨rfl, hM.b⟩
set_option maxRecDepth 100000 in
set_option maxHeartbeats 4000000 in
theorem rmBid_no {p : Value} (b : Bd) (now : Int) (w : World) (hn : NoR w p) : Calls Try.prog 6 #[p, bdv b, .int .i64 now] w fun e W' => e = .returned (.bool false) ∧ Below w.heap.size w W' := by
  have hmx : Try.prog.follows .mixedOrders = true := by kernel_rfl
  have HN := Lib.hid hn
  clear hn
  have hM := Sep.start w
  go_enter Try.func6, Try.ntmps6
  go_upto_region 0 with fail
  refine wp_region_fromM (fun W => Sep w [] [] W) hM ?_
  clear hM
  rintro Y1 hM
  refine rF (some 4) (pt Y1.heap.size 0) (Y1.alloc (.cells (bdc b).toArray 28)) ?_
  replace hM := hM.alloc 28 (bdc b)
  generalize World.alloc _ _ = Y2 at *
  generalize hNe : Y1.heap.size = N2 at *
  clear hNe
  refine tF 2 [.val 1 (some 6) (.bool false)] trivial ?_
  refine dF ?_
  try simp only [puts, Tk.put, Act.put, List.setIfInBounds_toArray, List.set_cons_zero, List.set_cons_succ]
  go_upto_region 1 with fail
  refine wp_region_fromM (fun W => Sep w [] [.blk N2 28 (bdc b)] W) hM ?_
  clear hM
  rintro Y3 hM
  refine tF 3 [.val 0 (some 10) (p), .val 1 (some 11) (pt N2 1), .load 2 (some 12) 26 (pt N2 1) (akv b.k)] ⟨load_part (hM.at 0 rfl) 1 (akc b.k) rfl _ _ Try.underlying26 rfl (by kernel_rfl), trivial⟩ ?_
  refine cF (some 13) 10 #[p, akv b.k] ((rmOpened_no b.k _ (HN.out.below hM.b)).mono ?_)
  rintro e Y4 ⟨rfl, hb⟩
  replace hM := hM.below hb
  clear hb
  refine tF 7 [.val 4 (some 9) (.tuple #[ltv noL, .bool false]), .val 5 (some 14) (ltv noL), .val 6 (some 15) (.bool false)] trivial ?_
  refine rF (some 7) (pt Y4.heap.size 0) (Y4.alloc (.cells (ltc noL).toArray 46)) ?_
  replace hM := hM.alloc 46 (ltc noL)
  generalize World.alloc _ _ = Y5 at *
  generalize hNe : Y4.heap.size = N5 at *
  clear hNe
  have hst := sto_part (ltc noL) (hM.at 0 rfl) 0 46 (ltv noL) (ltc noL) rfl (by kernel_rfl) (Nat.le_of_ble_eq_true rfl) rfl rfl
  refine sF 46 (pt N5 0) (ltv noL) (hst) ?_
  clear hst
  replace hM := hM.set 0 (cs' := ltc noL) rfl rfl
  generalize World.setRow _ _ _ = Y6 at *
  refine tF 10 [.val 9 (some 8) (.bool false)] trivial ?_
  refine dF ?_
  try simp only [puts, Tk.put, Act.put, List.setIfInBounds_toArray, List.set_cons_zero, List.set_cons_succ]
  go_upto_region 2 with fail
  refine wp_region_M (fun W => Sep w [] [.blk N5 46 (ltc noL), .blk N2 28 (bdc b)] W) (fun W => Sep w [] [.blk N5 46 (ltc noL), .blk N2 28 (bdc b)] W) hmx hM.drew ?_
  clear hM
  rintro Y7 hM
  have hS := hM.sub (.cons_cons _ (.cons_cons _ .slnil))
  refine tD 4 [.val 0 (some 16) (.bool false), .val 1 (some 17) (.bool true), .val 2 (some 18) (.bool true), .skip 3 (some 19), .skip 4 (some 20), .skip 5 (some 21), .skip 6 (some 22), .val 7 (some 23) (.bool true), .val 8 (some 24) (.bool true), .skip 9 (some 25), .skip 10 (some 26), .skip 11 (some 27), .skip 12 (some 28)] trivial hS ?_
  refine oD 13 3 (stepH_not (d := some 29) (by kernel_rfl) (And.intro hS ?_))
  refine oD 14 2 (stepH_not (d := some 30) (by kernel_rfl) (And.intro hS ?_))
  refine tD 0 [.skip 15 (some 31), .val 16 (some 32) (.bool true)] trivial hS ?_
  refine dD ?_
  try simp only [puts, Tk.put, Act.put, List.setIfInBounds_toArray, List.set_cons_zero, List.set_cons_succ]
  clear hS
  go_upto_region 3 with fail
  refine wp_region_fromM (fun W => Sep w [] [.blk N5 46 (ltc noL), .blk N2 28 (bdc b)] W) hM ?_
  clear hM
  rintro Y8 hM
  refine tF 1 [.val 0 (some 6) (.bool false)] trivial ?_
  refine dF ?_
  try simp only [puts, Tk.put, Act.put, List.setIfInBounds_toArray, List.set_cons_zero, List.set_cons_succ]
  go_wp2_with fail
  go_ret
  exact ⟨rfl, hM.b⟩
set_option maxRecDepth 100000 in
set_option maxHeartbeats 4000000 in
theorem rmBest_no {p : Value} (a : Ak) (now d : Int) (w : World) (hn : NoR w p) : Calls Try.prog 4 #[p, akv a, .int .i64 now, .int .i64 d] w fun e W' => e = .returned (.tuple #[bdv noB, .bool false]) ∧ Below w.heap.size w W' := by
  have hmx : Try.prog.follows .mixedOrders = true := by kernel_rfl
  have HN := Lib.hid hn
  clear hn
  have hM := Sep.start w
  go_enter Try.func4, Try.ntmps4
  go_upto_region 0 with fail
  refine wp_region_fromM (fun W => Sep w [] [] W) hM ?_
  clear hM
  rintro Y1 hM
  refine rF (some 5) (pt Y1.heap.size 0) (Y1.alloc (.cells (akc a).toArray 26)) ?_
  replace hM := hM.alloc 26 (akc a)
  generalize World.alloc _ _ = Y2 at *
  generalize hNe : Y1.heap.size = N2 at *
  clear hNe
  refine rF (some 6) (pt Y2.heap.size 0) (Y2.alloc (.cells ([.int .i64 now]).toArray 3)) ?_
  replace hM := hM.alloc 3 ([.int .i64 now])
  generalize World.alloc _ _ = Y3 at *
  generalize hNe : Y2.heap.size = N3 at *
  clear hNe
  refine rF (some 8) (pt Y3.heap.size 0) (Y3.alloc (.cells (bdc noB).toArray 28)) ?_
  replace hM := hM.alloc 28 (bdc noB)
  generalize World.alloc _ _ = Y4 at *
  generalize hNe : Y3.heap.size = N4 at *
  clear hNe
  refine tF 4 [.val 3 (some 9) (.bool false)] trivial ?_
  refine dF ?_
  try simp only [puts, Tk.put, Act.put, List.setIfInBounds_toArray, List.set_cons_zero, List.set_cons_succ]
  go_upto_region 1 with fail
  refine wp_region_fromM (fun W => Sep w [] [.blk N4 28 (bdc noB), .blk N3 3 ([.int .i64 now]), .blk N2 26 (akc a)] W) hM ?_
  clear hM
  rintro Y5 hM
  refine tF 2 [.val 0 (some 17) (p), .load 1 (some 18) 26 (pt N2 0) (akv a)] ⟨load_part (hM.at 2 rfl) 0 (akc a) rfl _ _ Try.underlying26 rfl (by kernel_rfl), trivial⟩ ?_
  refine cF (some 19) 10 #[p, akv a] ((rmOpened_no a _ (HN.out.below hM.b)).mono ?_)
  rintro e Y6 ⟨rfl, hb⟩
  replace hM := hM.below hb
  clear hb
  refine tF 6 [.val 3 (some 16) (.tuple #[ltv noL, .bool false]), .val 4 (some 20) (ltv noL), .val 5 (some 21) (.bool false)] trivial ?_
  refine rF (some 10) (pt Y6.heap.size 0) (Y6.alloc (.cells (ltc noL).toArray 46)) ?_
  replace hM := hM.alloc 46 (ltc noL)
  generalize World.alloc _ _ = Y7 at *
  generalize hNe : Y6.heap.size = N7 at *
  clear hNe
  have hst := sto_part (ltc noL) (hM.at 0 rfl) 0 46 (ltv noL) (ltc noL) rfl (by kernel_rfl) (Nat.le_of_ble_eq_true rfl) rfl rfl
  refine sF 46 (pt N7 0) (ltv noL) (hst) ?_
  clear hst
  replace hM := hM.set 0 (cs' := ltc noL) rfl rfl
  generalize World.setRow _ _ _ = Y8 at *
  refine tF 9 [.val 8 (some 11) (.bool false)] trivial ?_
  refine dF ?_
  try simp only [puts, Tk.put, Act.put, List.setIfInBounds_toArray, List.set_cons_zero, List.set_cons_succ]
  go_upto_region 2 with fail
  refine wp_region_M (fun W => Sep w [] [.blk N7 46 (ltc noL), .blk N4 28 (bdc noB), .blk N3 3 ([.int .i64 now]), .blk N2 26 (akc a)] W) (fun W => Sep w [] [.blk N7 46 (ltc noL), .blk N4 28 (bdc noB), .blk N3 3 ([.int .i64 now]), .blk N2 26 (akc a)] W) hmx hM.drew ?_
  clear hM
  rintro Y9 hM
  have hS := hM.sub (.cons_cons _ (.cons_cons _ (.cons_cons _ (.cons_cons _ .slnil))))
  refine tD 4 [.val 0 (some 22) (.bool false), .val 1 (some 23) (.bool true), .val 2 (some 24) (.bool true), .skip 3 (some 25), .skip 4 (some 26), .skip 5 (some 27), .skip 6 (some 28)] trivial hS ?_
  refine oD 7 3 (stepH_not (d := some 29) (by kernel_rfl) (And.intro hS ?_))
  refine tD 0 [.skip 8 (some 30), .skip 9 (some 31), .val 10 (some 32) (.bool true)] trivial hS ?_
  refine dD ?_
  try simp only [puts, Tk.put, Act.put, List.setIfInBounds_toArray, List.set_cons_zero, List.set_cons_succ]
  clear hS
  go_upto_region 3 with fail
  refine wp_region_fromM (fun W => Sep w [] [.blk N7 46 (ltc noL), .blk N4 28 (bdc noB), .blk N3 3 ([.int .i64 now]), .blk N2 26 (akc a)] W) hM ?_
  clear hM
  rintro Y10 hM
  refine tF 1 [.val 0 (some 33) (bdv noB)] trivial ?_
  have hst := sto_part (bdc noB) (hM.at 1 rfl) 0 28 (bdv noB) (bdc noB) rfl (by kernel_rfl) (Nat.le_of_ble_eq_true rfl) rfl rfl
  refine sF 28 (pt N4 0) (bdv noB) (hst) ?_
  clear hst
  replace hM := hM.set 1 (cs' := bdc noB) rfl rfl
  generalize World.setRow _ _ _ = Y11 at *
  refine tF 3 [.val 2 (some 9) (.bool false)] trivial ?_
  refine dF ?_
  try simp only [puts, Tk.put, Act.put, List.setIfInBounds_toArray, List.set_cons_zero, List.set_cons_succ]
  go_wp2_with fail
  exact bodyPost_ret (v := .tuple #[bdv noB, .bool false]) (res_two rfl _ rfl rfl (lv_bd (hM.at 1 rfl))) rfl ⟨rfl, hM.b⟩
end Go.Proofs.Ytbhfajnejibaoaa
