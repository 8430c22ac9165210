/-
  A room is made, and an ask opened
-/
import Derived.Test.YtbhfajnejibaoaaGreatK12
namespace Go.Proofs.YtbhfajnejibaoaaGreat
open Go.RowKit Go.Shelf
attribute [local irreducible] wpFrom wpAnyH StepH
def alA : Ak := ⟨0, 0, 0, 0, 5, 0, 0, 0, ⟨#[120]⟩⟩
theorem errA_al : errA alA = 0 := errA_zero (by decide)
abbrev al0 : Rm := ⟨⟨#[]⟩, ⟨#[]⟩, [], []⟩
abbrev al1 : Rm := ⟨⟨#[]⟩, ⟨#[]⟩, [⟨alA, 3⟩], []⟩
theorem open_al0 : openR al0 alA 3 = (al1, 0) := open_yes (by rw [errA_al]; rfl) rfl (by decide) rfl
theorem open_al1 : openR al1 alA 3 = (al1, 32) := open_is (by rw [errA_al]; rfl) (by unfold openL isA; simp)
set_option maxRecDepth 100000 in
set_option maxHeartbeats 4000000 in
theorem alive19_any (w : World) : Calls Tryz.prog 5 #[] w fun e W' => e = .returned (.bool true) ∧ Below w.heap.size w W' := by
  have hmx : Tryz.prog.follows .mixedOrders = true := by kernel_rfl
  have hM := Sep.start w
  go_enter Tryz.func5, Tryz.ntmps5
  go_upto_region 0 with fail
  refine wp_region_fromM (fun W => Sep w [] [] W) hM ?_
  clear hM
  rintro Y1 hM
  refine tF 1 [.val 0 (some 0) (.bool false)] trivial ?_
  refine dF ?_
  try simp only [puts, Tk.put, Act.put, List.setIfInBounds_toArray, List.set_cons_zero]
  go_upto_region 1 with fail
  refine wp_region_fromM (fun W => Sep w [] [] W) hM ?_
  clear hM
  rintro Y2 hM
  refine cF (some 3) 8 #[.slice none 0 0] ((rmNew_nil _).mono ?_)
  rintro e Y3 ⟨B3, va3, vb3, rfl, hR⟩
  replace hM := hM.gain (Sep.close (ps := RMR B3 (Rm.mk ⟨#[]⟩ ⟨#[]⟩ [] []) va3 vb3) (l := []) hR)
  clear hR
  refine tF 2 [.val 1 (some 1) (pt B3 0)] trivial ?_
  refine dF ?_
  try simp only [puts, Tk.put, Act.put, List.setIfInBounds_toArray, List.set_cons_zero, List.set_cons_succ]
  go_upto_region 2 with fail
  refine wp_region_fromM (fun W => Sep w [] [.join (RMR B3 (Rm.mk ⟨#[]⟩ ⟨#[]⟩ [] []) va3 vb3)] W) hM ?_
  clear hM
  rintro Y4 hM
  refine tF 2 [.val 0 (some 4) (.agg #[.int .u64 5, .int .u64 0, .int .u64 0, .int .u64 0]), .val 1 (some 5) (akv alA)] trivial ?_
  refine rF (some 2) (pt Y4.heap.size 0) (Y4.alloc (.cells (akc noA).toArray 34)) ?_
  replace hM := hM.alloc 34 (akc noA)
  generalize World.alloc _ _ = Y5 at *
  generalize hNe : Y4.heap.size = N5 at *
  clear hNe
  have hst := sto_part (akc alA) (hM.at 0 rfl) 0 34 (akv alA) (akc alA) rfl (by kernel_rfl) (Nat.le_of_ble_eq_true rfl) rfl rfl
  refine sF 34 (pt N5 0) (akv alA) (hst) ?_
  clear hst
  replace hM := hM.set 0 (cs' := akc alA) rfl rfl
  generalize World.setRow _ _ _ = Y6 at *
  refine dF ?_
  try simp only [puts, Tk.put, Act.put, List.setIfInBounds_toArray, List.set_cons_zero, List.set_cons_succ]
  go_upto_region 3 with fail
  refine wp_region_fromM (fun W => Sep w [] [.blk N5 34 (akc alA), .join (RMR B3 (Rm.mk ⟨#[]⟩ ⟨#[]⟩ [] []) va3 vb3)] W) hM ?_
  clear hM
  rintro Y7 hM
  refine tF 1 [.val 0 (some 6) (pt B3 0)] trivial ?_
  refine cF (some 7) 16 #[pt B3 0] ((rmAsks_any _ (RmV.of (hM.oka 1 rfl)) (by decide)).mono ?_)
  rintro e Y8 ⟨v8, rfl, hR⟩
  replace hM := hM.gain hR
  clear hR
  obtain ⟨pv8, cv8, rfl⟩ := (hM.oka 0 rfl).slice akc_len
  refine tF 7 [.val 2 (some 8) (.int .i64 (((Rm.mk ⟨#[]⟩ ⟨#[]⟩ [] []).ls.map askL).length : Int)), .alt 3 (some 9) (.bool ((((Rm.mk ⟨#[]⟩ ⟨#[]⟩ [] []).ls.map askL).length : Int) == 0)) (.bool true), .val 4 (some 10) (.bool true), .val 5 (some 11) (pt B3 0), .load 6 (some 12) 34 (pt N5 0) (akv alA)] ⟨congrArg Value.bool (rfl), load_part (hM.at 1 rfl) 0 (akc alA) rfl _ _ Tryz.underlying34 rfl (by kernel_rfl), trivial⟩ ?_
  have hq := rmOpen_any alA 3 _ (hM.oka 2 rfl)
  rw [open_al0] at hq
  refine cF (some 13) 10 #[pt B3 0, akv alA, .int .i64 3] ((hq).mono ?_)
  rintro e Y9 ⟨rfl, va9, vb9, hT⟩
  clear hq
  replace hM := hM.turn 2 rfl hT rfl
  clear hT
  refine tF 13 [.val 8 (some 14) (.bool true), .val 9 (some 15) (.bool true), .val 10 (some 16) (.bool true), .val 11 (some 17) (pt B3 0), .load 12 (some 18) 34 (pt N5 0) (akv alA)] ⟨load_part (hM.at 1 rfl) 0 (akc alA) rfl _ _ Tryz.underlying34 rfl (by kernel_rfl), trivial⟩ ?_
  have hq := rmOpen_any alA 3 _ (hM.oka 2 rfl)
  rw [open_al1] at hq
  refine cF (some 19) 10 #[pt B3 0, akv alA, .int .i64 3] ((hq).mono ?_)
  rintro e Y10 ⟨rfl, va10, vb10, hT⟩
  clear hq
  replace hM := hM.turn 2 rfl hT rfl
  clear hT
  refine tF 18 [.val 14 (some 20) (.bool true), .val 15 (some 21) (.bool true), .val 16 (some 22) (.bool true), .val 17 (some 23) (pt B3 0)] trivial ?_
  refine cF (some 24) 16 #[pt B3 0] ((rmAsks_any _ (RmV.of (hM.oka 2 rfl)) (by decide)).mono ?_)
  rintro e Y11 ⟨v11, rfl, hR⟩
  replace hM := hM.gain hR
  clear hR
  obtain ⟨pv11, cv11, rfl⟩ := (hM.oka 0 rfl).slice akc_len
  refine tF 23 [.val 19 (some 25) (.int .i64 ((al1.ls.map askL).length : Int)), .alt 20 (some 26) (.bool (((al1.ls.map askL).length : Int) == 1)) (.bool true), .val 21 (some 27) (.bool true), .val 22 (some 0) (.bool true)] ⟨congrArg Value.bool (rfl), trivial⟩ ?_
  refine dF ?_
  try simp only [puts, Tk.put, Act.put, List.setIfInBounds_toArray, List.set_cons_zero, List.set_cons_succ]
  go_wp2_with fail
  go_ret
  exact ⟨rfl, hM.b⟩
end Go.Proofs.YtbhfajnejibaoaaGreat
