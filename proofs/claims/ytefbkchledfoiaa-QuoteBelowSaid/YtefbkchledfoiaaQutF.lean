/-
  What a router offers: the program's functions.
-/
import Derived.Test.YtefbkchledfoiaaQutM
namespace Go.Proofs.Ytefbkchledfoiaa
open Go.RowKit Go.Shelf
attribute [local irreducible] wpFrom wpAnyH StepH

set_option maxRecDepth 100000 in
set_option maxHeartbeats 4000000 in
theorem spread_any {a : Nat} (ha : a < M4) (p : Int) (w : World) : Calls Try.prog 8 #[wn a, .int .i64 p] w fun e W' => e = .returned (.tuple #[wn (sprN a p), .bool (sprB a p)]) ∧ Below w.heap.size w W' := by
  have hmx : Try.prog.follows .mixedOrders = true := by kernel_rfl
  have hM := Sep.start w
  go_enter Try.func8, Try.ntmps8
  go_upto_region 0 with fail
  refine wp_region_fromM (fun W => Sep w [] [] W) hM ?_
  clear hM
  rintro Y1 hM
  refine rF (some 2) (pt Y1.heap.size 0) (Y1.alloc (.cells (wnc a).toArray 24)) ?_
  replace hM := hM.alloc 24 (wnc a)
  generalize World.alloc _ _ = Y2 at *
  generalize hNe : Y1.heap.size = N2 at *
  clear hNe
  refine rF (some 4) (pt Y2.heap.size 0) (Y2.alloc (.cells (wnc 0).toArray 24)) ?_
  replace hM := hM.alloc 24 (wnc 0)
  generalize World.alloc _ _ = Y3 at *
  generalize hNe : Y2.heap.size = N3 at *
  clear hNe
  refine tF 3 [.val 2 (some 5) (.bool false)] trivial ?_
  refine dF ?_
  try simp only [puts, Tk.put, Act.put, List.setIfInBounds_toArray, List.set_cons_zero, List.set_cons_succ]
  go_upto_region 1 with fail
  refine wp_region_fromM (fun W => Sep w [] [.blk N3 24 (wnc 0), .blk N2 24 (wnc a)] W) hM ?_
  clear hM
  rintro Y4 hM
  refine tF 5 [.load 0 (some 12) 24 (pt N2 0) (wn a), .val 1 (some 13) (.int .i64 p), .val 2 (some 14) (.int .i64 (max2I p 0)), .alt 3 (some 15) (.int .i64 (min2I (max2I p 0) 10000)) (.int .i64 ((clN p : Nat) : Int)), .alt 4 (some 16) (.int .u64 (IntKind.u64.wrap ((clN p : Nat) : Int))) (.int .u64 ((clN p : Nat) : Int))] ⟨load_part (hM.at 1 rfl) 0 (wnc a) rfl _ _ Try.underlying24 rfl (by kernel_rfl), congrArg (Value.int .i64) (clN_eq p), congrArg (Value.int .u64) (clN_wrap p), trivial⟩ ?_
  refine cF (some 17) 17 #[wn a, .int .u64 ((clN p : Nat) : Int)] ((mulN_any (m := clN p) ha (clN_word p) _).mono ?_)
  rintro e Y5 ⟨rfl, hb⟩
  replace hM := hM.below hb
  clear hb
  refine tF 9 [.val 6 (some 11) (.tuple #[wn (mulN a (clN p)), .bool (mulB a (clN p))]), .val 7 (some 18) (wn (mulN a (clN p))), .val 8 (some 19) (.bool (mulB a (clN p)))] trivial ?_
  refine rF (some 6) (pt Y5.heap.size 0) (Y5.alloc (.cells (wnc 0).toArray 24)) ?_
  replace hM := hM.alloc 24 (wnc 0)
  generalize World.alloc _ _ = Y6 at *
  generalize hNe : Y5.heap.size = N6 at *
  clear hNe
  have hst := sto_part (wnc (mulN a (clN p))) (hM.at 0 rfl) 0 24 (wn (mulN a (clN p))) (wnc (mulN a (clN p))) rfl (by kernel_rfl) (Nat.le_of_ble_eq_true rfl) rfl rfl
  refine sF 24 (pt N6 0) (wn (mulN a (clN p))) (hst) ?_
  clear hst
  replace hM := hM.set 0 (cs' := wnc (mulN a (clN p))) rfl rfl
  generalize World.setRow _ _ _ = Y7 at *
  refine tF 12 [.val 11 (some 7) (.bool (mulB a (clN p)))] trivial ?_
  refine dF ?_
  try simp only [puts, Tk.put, Act.put, List.setIfInBounds_toArray, List.set_cons_zero, List.set_cons_succ]
  go_upto_region 2 with fail
  refine wp_region_fromM (fun W => Sep w [] [.blk N6 24 (wnc (mulN a (clN p))), .blk N3 24 (wnc 0), .blk N2 24 (wnc a)] W) hM ?_
  clear hM
  rintro Y8 hM
  refine tF 1 [.load 0 (some 21) 24 (pt N6 0) (wn (mulN a (clN p)))] ⟨load_part (hM.at 0 rfl) 0 (wnc (mulN a (clN p))) rfl _ _ Try.underlying24 rfl (by kernel_rfl), trivial⟩ ?_
  refine cF (some 22) 18 #[wn (mulN a (clN p)), .int .u64 10000] ((divN_any (m := 10000) mulN_lt (by unfold M; decide) (by decide) _).mono ?_)
  rintro e Y9 ⟨rfl, hb⟩
  replace hM := hM.below hb
  clear hb
  refine tF 6 [.val 2 (some 20) (.tuple #[wn ((mulN a (clN p)) / 10000), .int .u64 (((mulN a (clN p)) % 10000 : Nat) : Int), .bool true]), .val 3 (some 23) (wn ((mulN a (clN p)) / 10000)), .val 4 (some 24) (.int .u64 (((mulN a (clN p)) % 10000 : Nat) : Int)), .val 5 (some 25) (.bool true)] trivial ?_
  refine rF (some 8) (pt Y9.heap.size 0) (Y9.alloc (.cells (wnc 0).toArray 24)) ?_
  replace hM := hM.alloc 24 (wnc 0)
  generalize World.alloc _ _ = Y10 at *
  generalize hNe : Y9.heap.size = N10 at *
  clear hNe
  have hst := sto_part (wnc ((mulN a (clN p)) / 10000)) (hM.at 0 rfl) 0 24 (wn ((mulN a (clN p)) / 10000)) (wnc ((mulN a (clN p)) / 10000)) rfl (by kernel_rfl) (Nat.le_of_ble_eq_true rfl) rfl rfl
  refine sF 24 (pt N10 0) (wn ((mulN a (clN p)) / 10000)) (hst) ?_
  clear hst
  replace hM := hM.set 0 (cs' := wnc ((mulN a (clN p)) / 10000)) rfl rfl
  generalize World.setRow _ _ _ = Y11 at *
  refine tF 10 [.val 8 (some 9) (.int .u64 (((mulN a (clN p)) % 10000 : Nat) : Int)), .val 9 (some 10) (.bool true)] trivial ?_
  refine dF ?_
  try simp only [puts, Tk.put, Act.put, List.setIfInBounds_toArray, List.set_cons_zero, List.set_cons_succ]
  go_upto_region 3 with fail
  refine wp_region_fromM (fun W => Sep w [] [.blk N10 24 (wnc ((mulN a (clN p)) / 10000)), .blk N6 24 (wnc (mulN a (clN p))), .blk N3 24 (wnc 0), .blk N2 24 (wnc a)] W) hM ?_
  clear hM
  rintro Y12 hM
  refine tF 2 [.load 0 (some 26) 24 (pt N10 0) (wn ((mulN a (clN p)) / 10000)), .val 1 (some 27) (.bool (mulB a (clN p)))] ⟨load_part (hM.at 0 rfl) 0 (wnc ((mulN a (clN p)) / 10000)) rfl _ _ Try.underlying24 rfl (by kernel_rfl), trivial⟩ ?_
  have hst := sto_part (wnc ((mulN a (clN p)) / 10000)) (hM.at 2 rfl) 0 24 (wn ((mulN a (clN p)) / 10000)) (wnc ((mulN a (clN p)) / 10000)) rfl (by kernel_rfl) (Nat.le_of_ble_eq_true rfl) rfl rfl
  refine sF 24 (pt N3 0) (wn ((mulN a (clN p)) / 10000)) (hst) ?_
  clear hst
  replace hM := hM.set 2 (cs' := wnc ((mulN a (clN p)) / 10000)) rfl rfl
  generalize World.setRow _ _ _ = Y13 at *
  refine tF 4 [.val 3 (some 5) (.bool (mulB a (clN p)))] trivial ?_
  refine dF ?_
  try simp only [puts, Tk.put, Act.put, List.setIfInBounds_toArray, List.set_cons_zero, List.set_cons_succ]
  go_wp2_with fail
  exact bodyPost_ret (v := .tuple #[wn ((mulN a (clN p)) / 10000), .bool (mulB a (clN p))]) (res_two rfl _ rfl rfl (lv_wd (hM.at 2 rfl))) rfl ⟨rfl, hM.b⟩
set_option maxRecDepth 100000 in
set_option maxHeartbeats 4000000 in
theorem offer_any {a : Nat} (ha : a < M4) (p : Int) (w : World) : Calls Try.prog 9 #[wn a, .int .i64 p] w fun e W' => e = .returned (.tuple #[wn (offN a p), .bool (offB a p)]) ∧ Below w.heap.size w W' := by
  have hmx : Try.prog.follows .mixedOrders = true := by kernel_rfl
  have hM := Sep.start w
  go_enter Try.func9, Try.ntmps9
  go_upto_region 0 with fail
  refine wp_region_fromM (fun W => Sep w [] [] W) hM ?_
  clear hM
  rintro Y1 hM
  refine rF (some 2) (pt Y1.heap.size 0) (Y1.alloc (.cells (wnc a).toArray 24)) ?_
  replace hM := hM.alloc 24 (wnc a)
  generalize World.alloc _ _ = Y2 at *
  generalize hNe : Y1.heap.size = N2 at *
  clear hNe
  refine rF (some 4) (pt Y2.heap.size 0) (Y2.alloc (.cells (wnc 0).toArray 24)) ?_
  replace hM := hM.alloc 24 (wnc 0)
  generalize World.alloc _ _ = Y3 at *
  generalize hNe : Y2.heap.size = N3 at *
  clear hNe
  refine tF 3 [.val 2 (some 5) (.bool false)] trivial ?_
  refine dF ?_
  try simp only [puts, Tk.put, Act.put, List.setIfInBounds_toArray, List.set_cons_zero, List.set_cons_succ]
  go_upto_region 1 with fail
  refine wp_region_fromM (fun W => Sep w [] [.blk N3 24 (wnc 0), .blk N2 24 (wnc a)] W) hM ?_
  clear hM
  rintro Y4 hM
  refine tF 2 [.load 0 (some 11) 24 (pt N2 0) (wn a), .val 1 (some 12) (.int .i64 p)] ⟨load_part (hM.at 1 rfl) 0 (wnc a) rfl _ _ Try.underlying24 rfl (by kernel_rfl), trivial⟩ ?_
  refine cF (some 13) 8 #[wn a, .int .i64 p] ((spread_any ha p _).mono ?_)
  rintro e Y5 ⟨rfl, hb⟩
  replace hM := hM.below hb
  clear hb
  refine tF 6 [.val 3 (some 10) (.tuple #[wn (sprN a p), .bool (sprB a p)]), .val 4 (some 14) (wn (sprN a p)), .val 5 (some 15) (.bool (sprB a p))] trivial ?_
  refine rF (some 6) (pt Y5.heap.size 0) (Y5.alloc (.cells (wnc 0).toArray 24)) ?_
  replace hM := hM.alloc 24 (wnc 0)
  generalize World.alloc _ _ = Y6 at *
  generalize hNe : Y5.heap.size = N6 at *
  clear hNe
  have hst := sto_part (wnc (sprN a p)) (hM.at 0 rfl) 0 24 (wn (sprN a p)) (wnc (sprN a p)) rfl (by kernel_rfl) (Nat.le_of_ble_eq_true rfl) rfl rfl
  refine sF 24 (pt N6 0) (wn (sprN a p)) (hst) ?_
  clear hst
  replace hM := hM.set 0 (cs' := wnc (sprN a p)) rfl rfl
  generalize World.setRow _ _ _ = Y7 at *
  refine tF 9 [.val 8 (some 7) (.bool (sprB a p))] trivial ?_
  refine dF ?_
  try simp only [puts, Tk.put, Act.put, List.setIfInBounds_toArray, List.set_cons_zero, List.set_cons_succ]
  go_upto_region 2 with fail
  refine wp_region_fromM (fun W => Sep w [] [.blk N6 24 (wnc (sprN a p)), .blk N3 24 (wnc 0), .blk N2 24 (wnc a)] W) hM ?_
  clear hM
  rintro Y8 hM
  refine tF 2 [.load 0 (some 17) 24 (pt N2 0) (wn a), .load 1 (some 18) 24 (pt N6 0) (wn (sprN a p))] ⟨load_part (hM.at 2 rfl) 0 (wnc a) rfl _ _ Try.underlying24 rfl (by kernel_rfl), load_part (hM.at 0 rfl) 0 (wnc (sprN a p)) rfl _ _ Try.underlying24 rfl (by kernel_rfl), trivial⟩ ?_
  refine cF (some 19) 19 #[wn a, wn (sprN a p)] ((subN_any ha sprN_lt _).mono ?_)
  rintro e Y9 ⟨rfl, hb⟩
  replace hM := hM.below hb
  clear hb
  refine tF 6 [.val 3 (some 16) (.tuple #[wn (a - (sprN a p)), .bool (lessB a (sprN a p))]), .val 4 (some 20) (wn (a - (sprN a p))), .val 5 (some 21) (.bool (lessB a (sprN a p)))] trivial ?_
  refine rF (some 8) (pt Y9.heap.size 0) (Y9.alloc (.cells (wnc 0).toArray 24)) ?_
  replace hM := hM.alloc 24 (wnc 0)
  generalize World.alloc _ _ = Y10 at *
  generalize hNe : Y9.heap.size = N10 at *
  clear hNe
  have hst := sto_part (wnc (a - (sprN a p))) (hM.at 0 rfl) 0 24 (wn (a - (sprN a p))) (wnc (a - (sprN a p))) rfl (by kernel_rfl) (Nat.le_of_ble_eq_true rfl) rfl rfl
  refine sF 24 (pt N10 0) (wn (a - (sprN a p))) (hst) ?_
  clear hst
  replace hM := hM.set 0 (cs' := wnc (a - (sprN a p))) rfl rfl
  generalize World.setRow _ _ _ = Y11 at *
  refine tF 9 [.val 8 (some 9) (.bool (lessB a (sprN a p)))] trivial ?_
  refine dF ?_
  try simp only [puts, Tk.put, Act.put, List.setIfInBounds_toArray, List.set_cons_zero, List.set_cons_succ]
  go_upto_region 3 with fail
  refine wp_region_fromM (fun W => Sep w [] [.blk N10 24 (wnc (a - (sprN a p))), .blk N6 24 (wnc (sprN a p)), .blk N3 24 (wnc 0), .blk N2 24 (wnc a)] W) hM ?_
  clear hM
  rintro Y12 hM
  refine tF 1 [.val 0 (some 22) (.bool (sprB a p))] trivial ?_
  cases hb1 : sprB a p with
  | false =>
    have Hhb1 := Lib.hid hb1
    clear hb1
    refine tF 7 [.val 1 (some 23) (.bool true), .val 2 (some 24) (.bool true), .skip 3 (some 25), .skip 4 (some 26), .skip 5 (some 27), .val 6 (some 28) (.bool true)] trivial ?_
    refine dF ?_
    try simp only [puts, Tk.put, Act.put, List.setIfInBounds_toArray, List.set_cons_zero, List.set_cons_succ]
    go_upto_region 4 with fail
    refine wp_region_fromM (fun W => Sep w [] [.blk N10 24 (wnc (a - (sprN a p))), .blk N6 24 (wnc (sprN a p)), .blk N3 24 (wnc 0), .blk N2 24 (wnc a)] W) hM ?_
    clear hM
    rintro Y13 hM
    refine tF 1 [.val 0 (some 29) (wn 0)] trivial ?_
    have hst := sto_part (wnc 0) (hM.at 2 rfl) 0 24 (wn 0) (wnc 0) rfl (by kernel_rfl) (Nat.le_of_ble_eq_true rfl) rfl rfl
    refine sF 24 (pt N3 0) (wn 0) (hst) ?_
    clear hst
    replace hM := hM.set 2 (cs' := wnc 0) rfl rfl
    generalize World.setRow _ _ _ = Y14 at *
    refine tF 3 [.val 2 (some 5) (.bool false)] trivial ?_
    refine dF ?_
    try simp only [puts, Tk.put, Act.put, List.setIfInBounds_toArray, List.set_cons_zero, List.set_cons_succ]
    go_wp2_with fail
    exact bodyPost_ret (v := .tuple #[wn 0, .bool false]) (res_two rfl _ rfl rfl (lv_wd (hM.at 2 rfl))) rfl ⟨by rw [offN_no Hhb1.out, offB_no Hhb1.out], hM.b⟩
  | true =>
    have Hhb1 := Lib.hid hb1
    clear hb1
    refine tF 5 [.val 1 (some 23) (.bool false), .val 2 (some 24) (.bool false), .load 3 (some 25) 24 (pt N10 0) (wn (a - (sprN a p))), .val 4 (some 26) (wn 0)] ⟨load_part (hM.at 0 rfl) 0 (wnc (a - (sprN a p))) rfl _ _ Try.underlying24 rfl (by kernel_rfl), trivial⟩ ?_
    refine eqA (.tmp 25) (.tmp 26) 24 (some 27) (wnc (a - (sprN a p))).toArray (wnc 0).toArray (decide (a - (sprN a p) = 0)) (run_eqN (sub_lt4 ha) (word_lt4 (by unfold M; decide)) _) ?_
    refine tF 7 [.val 6 (some 28) (.bool (decide (a - (sprN a p) = 0)))] trivial ?_
    refine dF ?_
    try simp only [puts, Tk.put, Act.put, List.setIfInBounds_toArray, List.set_cons_zero, List.set_cons_succ]
    cases hb2 : decide (a - (sprN a p) = 0) with
    | false =>
      have Hhb2 := Lib.hid hb2
      clear hb2
      go_upto_region 5 with fail
      refine wp_region_fromM (fun W => Sep w [] [.blk N10 24 (wnc (a - (sprN a p))), .blk N6 24 (wnc (sprN a p)), .blk N3 24 (wnc 0), .blk N2 24 (wnc a)] W) hM ?_
      clear hM
      rintro Y15 hM
      refine tF 1 [.load 0 (some 30) 24 (pt N10 0) (wn (a - (sprN a p)))] ⟨load_part (hM.at 0 rfl) 0 (wnc (a - (sprN a p))) rfl _ _ Try.underlying24 rfl (by kernel_rfl), trivial⟩ ?_
      have hst := sto_part (wnc (a - (sprN a p))) (hM.at 2 rfl) 0 24 (wn (a - (sprN a p))) (wnc (a - (sprN a p))) rfl (by kernel_rfl) (Nat.le_of_ble_eq_true rfl) rfl rfl
      refine sF 24 (pt N3 0) (wn (a - (sprN a p))) (hst) ?_
      clear hst
      replace hM := hM.set 2 (cs' := wnc (a - (sprN a p))) rfl rfl
      generalize World.setRow _ _ _ = Y16 at *
      refine tF 3 [.val 2 (some 5) (.bool true)] trivial ?_
      refine dF ?_
      try simp only [puts, Tk.put, Act.put, List.setIfInBounds_toArray, List.set_cons_zero, List.set_cons_succ]
      go_wp2_with fail
      exact bodyPost_ret (v := .tuple #[wn (a - (sprN a p)), .bool true]) (res_two rfl _ rfl rfl (lv_wd (hM.at 2 rfl))) rfl ⟨by unfold offB; rw [offN_yes Hhb1.out, Hhb1.out, Hhb2.out]; rfl, hM.b⟩
    | true =>
      have Hhb2 := Lib.hid hb2
      clear hb2
      go_upto_region 4 with fail
      refine wp_region_fromM (fun W => Sep w [] [.blk N10 24 (wnc (a - (sprN a p))), .blk N6 24 (wnc (sprN a p)), .blk N3 24 (wnc 0), .blk N2 24 (wnc a)] W) hM ?_
      clear hM
      rintro Y17 hM
      refine tF 1 [.val 0 (some 29) (wn 0)] trivial ?_
      have hst := sto_part (wnc 0) (hM.at 2 rfl) 0 24 (wn 0) (wnc 0) rfl (by kernel_rfl) (Nat.le_of_ble_eq_true rfl) rfl rfl
      refine sF 24 (pt N3 0) (wn 0) (hst) ?_
      clear hst
      replace hM := hM.set 2 (cs' := wnc 0) rfl rfl
      generalize World.setRow _ _ _ = Y18 at *
      refine tF 3 [.val 2 (some 5) (.bool false)] trivial ?_
      refine dF ?_
      try simp only [puts, Tk.put, Act.put, List.setIfInBounds_toArray, List.set_cons_zero, List.set_cons_succ]
      go_wp2_with fail
      exact bodyPost_ret (v := .tuple #[wn 0, .bool false]) (res_two rfl _ rfl rfl (lv_wd (hM.at 2 rfl))) rfl ⟨by unfold offB; rw [offN_yes Hhb1.out, Hhb1.out, Hhb2.out, of_decide_eq_true Hhb2.out]; rfl, hM.b⟩
set_option maxRecDepth 100000 in
set_option maxHeartbeats 4000000 in
theorem covers_any {v l a : Nat} (hv : v < M4) (hl : l < M4) (ha : a < M4) (w : World) : Calls Try.prog 11 #[wn v, wn l, wn a] w fun e W' => e = .returned (.bool (covB v l a)) ∧ Below w.heap.size w W' := by
  have hmx : Try.prog.follows .mixedOrders = true := by kernel_rfl
  have hM := Sep.start w
  go_enter Try.func11, Try.ntmps11
  go_upto_region 0 with fail
  refine wp_region_fromM (fun W => Sep w [] [] W) hM ?_
  clear hM
  rintro Y1 hM
  refine rF (some 3) (pt Y1.heap.size 0) (Y1.alloc (.cells (wnc v).toArray 24)) ?_
  replace hM := hM.alloc 24 (wnc v)
  generalize World.alloc _ _ = Y2 at *
  generalize hNe : Y1.heap.size = N2 at *
  clear hNe
  refine rF (some 4) (pt Y2.heap.size 0) (Y2.alloc (.cells (wnc l).toArray 24)) ?_
  replace hM := hM.alloc 24 (wnc l)
  generalize World.alloc _ _ = Y3 at *
  generalize hNe : Y2.heap.size = N3 at *
  clear hNe
  refine rF (some 5) (pt Y3.heap.size 0) (Y3.alloc (.cells (wnc a).toArray 24)) ?_
  replace hM := hM.alloc 24 (wnc a)
  generalize World.alloc _ _ = Y4 at *
  generalize hNe : Y3.heap.size = N4 at *
  clear hNe
  refine tF 4 [.val 3 (some 6) (.bool false)] trivial ?_
  refine dF ?_
  try simp only [puts, Tk.put, Act.put, List.setIfInBounds_toArray, List.set_cons_zero, List.set_cons_succ]
  go_upto_region 1 with fail
  refine wp_region_fromM (fun W => Sep w [] [.blk N4 24 (wnc a), .blk N3 24 (wnc l), .blk N2 24 (wnc v)] W) hM ?_
  clear hM
  rintro Y5 hM
  refine tF 2 [.load 0 (some 10) 24 (pt N3 0) (wn l), .load 1 (some 11) 24 (pt N4 0) (wn a)] ⟨load_part (hM.at 1 rfl) 0 (wnc l) rfl _ _ Try.underlying24 rfl (by kernel_rfl), load_part (hM.at 0 rfl) 0 (wnc a) rfl _ _ Try.underlying24 rfl (by kernel_rfl), trivial⟩ ?_
  refine cF (some 12) 20 #[wn l, wn a] ((addN_any hl ha _).mono ?_)
  rintro e Y6 ⟨rfl, hb⟩
  replace hM := hM.below hb
  clear hb
  refine tF 6 [.val 3 (some 9) (.tuple #[wn (addN l a), .bool (fitB l a)]), .val 4 (some 13) (wn (addN l a)), .val 5 (some 14) (.bool (fitB l a))] trivial ?_
  refine rF (some 7) (pt Y6.heap.size 0) (Y6.alloc (.cells (wnc 0).toArray 24)) ?_
  replace hM := hM.alloc 24 (wnc 0)
  generalize World.alloc _ _ = Y7 at *
  generalize hNe : Y6.heap.size = N7 at *
  clear hNe
  have hst := sto_part (wnc (addN l a)) (hM.at 0 rfl) 0 24 (wn (addN l a)) (wnc (addN l a)) rfl (by kernel_rfl) (Nat.le_of_ble_eq_true rfl) rfl rfl
  refine sF 24 (pt N7 0) (wn (addN l a)) (hst) ?_
  clear hst
  replace hM := hM.set 0 (cs' := wnc (addN l a)) rfl rfl
  generalize World.setRow _ _ _ = Y8 at *
  refine tF 9 [.val 8 (some 8) (.bool (fitB l a))] trivial ?_
  refine dF ?_
  try simp only [puts, Tk.put, Act.put, List.setIfInBounds_toArray, List.set_cons_zero, List.set_cons_succ]
  go_upto_region 2 with fail
  refine wp_region_fromM (fun W => Sep w [] [.blk N7 24 (wnc (addN l a)), .blk N4 24 (wnc a), .blk N3 24 (wnc l), .blk N2 24 (wnc v)] W) hM ?_
  clear hM
  rintro Y9 hM
  refine tF 2 [.val 0 (some 15) (.bool (fitB l a)), .val 1 (some 16) (.bool (fitB l a))] trivial ?_
  cases hb1 : fitB l a with
  | false =>
    have Hhb1 := Lib.hid hb1
    clear hb1
    refine tF 4 [.skip 2 (some 17), .skip 3 (some 18)] trivial ?_
    refine wpFrom_not (d := some 19) (by kernel_rfl) ?_
    refine tF 8 [.skip 5 (some 20), .val 6 (some 21) (.bool false), .val 7 (some 6) (.bool false)] trivial ?_
    refine dF ?_
    try simp only [puts, Tk.put, Act.put, List.setIfInBounds_toArray, List.set_cons_zero, List.set_cons_succ]
    go_wp2_with fail
    go_ret
    exact ⟨by unfold covB; rw [Hhb1.out]; rfl, hM.b⟩
  | true =>
    have Hhb1 := Lib.hid hb1
    clear hb1
    refine tF 4 [.load 2 (some 17) 24 (pt N7 0) (wn (addN l a)), .load 3 (some 18) 24 (pt N2 0) (wn v)] ⟨load_part (hM.at 0 rfl) 0 (wnc (addN l a)) rfl _ _ Try.underlying24 rfl (by kernel_rfl), load_part (hM.at 3 rfl) 0 (wnc v) rfl _ _ Try.underlying24 rfl (by kernel_rfl), trivial⟩ ?_
    refine cF (some 19) 21 #[wn (addN l a), wn v] ((cmpWn_any addN_lt hv _).mono ?_)
    rintro e Y10 ⟨rfl, hb⟩
    replace hM := hM.below hb
    clear hb
    refine tF 8 [.val 5 (some 20) (.bool (decide ((cmpN (addN l a) v) ≤ 0))), .val 6 (some 21) (.bool (decide ((cmpN (addN l a) v) ≤ 0))), .val 7 (some 6) (.bool (decide ((cmpN (addN l a) v) ≤ 0)))] trivial ?_
    refine dF ?_
    try simp only [puts, Tk.put, Act.put, List.setIfInBounds_toArray, List.set_cons_zero, List.set_cons_succ]
    go_wp2_with fail
    go_ret
    exact ⟨by unfold covB; rw [Hhb1.out]; rfl, hM.b⟩
set_option maxRecDepth 100000 in
set_option maxHeartbeats 4000000 in
theorem points_any (r : Int) (w : World) : Calls Try.prog 13 #[.int .i64 r] w fun e W' => e = .returned (.int .i64 (ptsI r)) ∧ Below w.heap.size w W' := by
  have hmx : Try.prog.follows .mixedOrders = true := by kernel_rfl
  have hM := Sep.start w
  go_enter Try.func13, Try.ntmps13
  go_upto_region 0 with fail
  refine wp_region_fromM (fun W => Sep w [] [] W) hM ?_
  clear hM
  rintro Y1 hM
  refine tF 1 [.val 0 (some 2) (.int .i64 0)] trivial ?_
  refine dF ?_
  try simp only [puts, Tk.put, Act.put, List.setIfInBounds_toArray, List.set_cons_zero, List.set_cons_succ]
  go_upto_region 1 with fail
  refine wp_region_fromM (fun W => Sep w [] [] W) hM ?_
  clear hM
  rintro Y2 hM
  refine tF 2 [.val 0 (some 5) (.agg #[.int .i64 30, .int .i64 45]), .val 1 (some 6) (.int .i64 0)] trivial ?_
  refine dF ?_
  try simp only [puts, Tk.put, Act.put, List.setIfInBounds_toArray, List.set_cons_zero, List.set_cons_succ]
  go_wp2_with fail
  go_loopw [6] (fun i wr => (i = .int .i64 0 ∨ (i = .int .i64 1 ∧ r ≠ 2) ∨ (i = .int .i64 2 ∧ r ≠ 2 ∧ r ≠ 3)) ∧ Sep w [] [] wr) (fun i _ => 2 - (intOf i).toNat)
  case atStart => exact ⟨.inl rfl, hM⟩
  clear hM
  case round =>
    obtain ⟨hi, hM⟩ := hrel
    rcases hi with rfl | ⟨rfl, h2⟩ | ⟨rfl, h2, h3⟩
    case inl =>
      go_upto_region 2 with fail
      refine wp_region_fromM (fun W => Sep w [] [] W) hM ?_
      clear hM
      rintro Y3 hM
      refine tF 1 [.val 0 (some 7) (.bool true)] trivial ?_
      refine dF ?_
      try simp only [puts, Tk.put, Act.put, List.setIfInBounds_toArray, List.set_cons_zero, List.set_cons_succ]
      go_upto_region 3 with fail
      refine wp_region_fromM (fun W => Sep w [] [] W) hM ?_
      clear hM
      rintro Y4 hM
      refine tF 4 [.val 0 (some 8) (.int .i64 0), .val 1 (some 9) (.int .i64 30), .val 2 (some 3) (.int .i64 0), .val 3 (some 4) (.int .i64 30)] trivial ?_
      refine dF ?_
      try simp only [puts, Tk.put, Act.put, List.setIfInBounds_toArray, List.set_cons_zero, List.set_cons_succ]
      go_upto_region 4 with fail
      refine wp_region_fromM (fun W => Sep w [] [] W) hM ?_
      clear hM
      rintro Y5 hM
      refine tF 4 [.val 0 (some 10) (.int .i64 r), .val 1 (some 11) (.int .i64 0), .alt 2 (some 12) (.int .i64 (IntKind.i64.wrap (2 + 0))) (.int .i64 2), .val 3 (some 13) (.bool (r == 2))] ⟨congrArg (Value.int .i64) (by decide), trivial⟩ ?_
      refine dF ?_
      try simp only [puts, Tk.put, Act.put, List.setIfInBounds_toArray, List.set_cons_zero, List.set_cons_succ]
      cases hb1 : r == 2 with
      | false =>
        have Hhb1 := Lib.hid hb1
        clear hb1
        go_upto_region 6 with fail
        refine wp_region_fromM (fun W => Sep w [] [] W) hM ?_
        clear hM
        rintro Y6 hM
        refine tF 2 [.alt 0 (some 15) (.int .i64 (IntKind.i64.wrap (0 + 1))) (.int .i64 1), .val 1 (some 6) (.int .i64 1)] ⟨congrArg (Value.int .i64) (by decide), trivial⟩ ?_
        refine dF ?_
        try simp only [puts, Tk.put, Act.put, List.setIfInBounds_toArray, List.set_cons_zero, List.set_cons_succ]
        go_wp2_with fail
        go_roundw
        case rel => exact ⟨.inr (.inl ⟨rfl, by simpa using Hhb1.out⟩), hM⟩
        case measure => simp [intOf]
      | true =>
        have Hhb1 := Lib.hid hb1
        clear hb1
        go_upto_region 5 with fail
        refine wp_region_fromM (fun W => Sep w [] [] W) hM ?_
        clear hM
        rintro Y7 hM
        refine tF 2 [.val 0 (some 14) (.int .i64 30), .val 1 (some 2) (.int .i64 30)] trivial ?_
        refine dF ?_
        try simp only [puts, Tk.put, Act.put, List.setIfInBounds_toArray, List.set_cons_zero, List.set_cons_succ]
        go_wp2_with fail
        go_ret
        exact ⟨by rw [show ptsI r = 30 from if_pos (by simpa using Hhb1.out)]; rfl, hM.b⟩
    case inr.inl =>
      have H2 := Lib.hid h2
      clear h2
      go_upto_region 2 with fail
      refine wp_region_fromM (fun W => Sep w [] [] W) hM ?_
      clear hM
      rintro Y8 hM
      refine tF 1 [.val 0 (some 7) (.bool true)] trivial ?_
      refine dF ?_
      try simp only [puts, Tk.put, Act.put, List.setIfInBounds_toArray, List.set_cons_zero, List.set_cons_succ]
      go_upto_region 3 with fail
      refine wp_region_fromM (fun W => Sep w [] [] W) hM ?_
      clear hM
      rintro Y9 hM
      refine tF 4 [.val 0 (some 8) (.int .i64 1), .val 1 (some 9) (.int .i64 45), .val 2 (some 3) (.int .i64 1), .val 3 (some 4) (.int .i64 45)] trivial ?_
      refine dF ?_
      try simp only [puts, Tk.put, Act.put, List.setIfInBounds_toArray, List.set_cons_zero, List.set_cons_succ]
      go_upto_region 4 with fail
      refine wp_region_fromM (fun W => Sep w [] [] W) hM ?_
      clear hM
      rintro Y10 hM
      refine tF 4 [.val 0 (some 10) (.int .i64 r), .val 1 (some 11) (.int .i64 1), .alt 2 (some 12) (.int .i64 (IntKind.i64.wrap (2 + 1))) (.int .i64 3), .val 3 (some 13) (.bool (r == 3))] ⟨congrArg (Value.int .i64) (by decide), trivial⟩ ?_
      refine dF ?_
      try simp only [puts, Tk.put, Act.put, List.setIfInBounds_toArray, List.set_cons_zero, List.set_cons_succ]
      cases hb2 : r == 3 with
      | false =>
        have Hhb2 := Lib.hid hb2
        clear hb2
        go_upto_region 6 with fail
        refine wp_region_fromM (fun W => Sep w [] [] W) hM ?_
        clear hM
        rintro Y11 hM
        refine tF 2 [.alt 0 (some 15) (.int .i64 (IntKind.i64.wrap (1 + 1))) (.int .i64 2), .val 1 (some 6) (.int .i64 2)] ⟨congrArg (Value.int .i64) (by decide), trivial⟩ ?_
        refine dF ?_
        try simp only [puts, Tk.put, Act.put, List.setIfInBounds_toArray, List.set_cons_zero, List.set_cons_succ]
        go_wp2_with fail
        go_roundw
        case rel => exact ⟨.inr (.inr ⟨rfl, H2.out, by simpa using Hhb2.out⟩), hM⟩
        case measure => simp [intOf]
      | true =>
        have Hhb2 := Lib.hid hb2
        clear hb2
        go_upto_region 5 with fail
        refine wp_region_fromM (fun W => Sep w [] [] W) hM ?_
        clear hM
        rintro Y12 hM
        refine tF 2 [.val 0 (some 14) (.int .i64 45), .val 1 (some 2) (.int .i64 45)] trivial ?_
        refine dF ?_
        try simp only [puts, Tk.put, Act.put, List.setIfInBounds_toArray, List.set_cons_zero, List.set_cons_succ]
        go_wp2_with fail
        go_ret
        exact ⟨by rw [show ptsI r = 45 from (if_neg H2.out).trans (if_pos (by simpa using Hhb2.out))]; rfl, hM.b⟩
    case inr.inr =>
      have H2 := Lib.hid h2
      clear h2
      have H3 := Lib.hid h3
      clear h3
      go_upto_region 2 with fail
      refine wp_region_fromM (fun W => Sep w [] [] W) hM ?_
      clear hM
      rintro Y13 hM
      refine tF 1 [.val 0 (some 7) (.bool false)] trivial ?_
      refine dF ?_
      try simp only [puts, Tk.put, Act.put, List.setIfInBounds_toArray, List.set_cons_zero, List.set_cons_succ]
      go_upto_region 7 with fail
      refine wp_region_fromM (fun W => Sep w [] [] W) hM ?_
      clear hM
      rintro Y14 hM
      refine tF 1 [.val 0 (some 2) (.int .i64 100)] trivial ?_
      refine dF ?_
      try simp only [puts, Tk.put, Act.put, List.setIfInBounds_toArray, List.set_cons_zero, List.set_cons_succ]
      go_wp2_with fail
      go_ret
      exact ⟨by rw [show ptsI r = 100 from (if_neg H2.out).trans (if_neg H3.out)]; rfl, hM.b⟩
theorem off_1000 : offN 1000 30 = 997 ∧ offB 1000 30 = true := by
  have h1 : clN 30 = 30 := by decide
  have h2 : 1000 * 30 < M4 := by unfold M4 M; decide
  have h3 : sprB 1000 30 = true := by unfold sprB; rw [h1]; exact decide_eq_true h2
  have h4 : sprN 1000 30 = 3 := by unfold sprN; rw [h1, show mulN 1000 30 = 1000 * 30 from if_pos h2]
  refine ⟨?_, ?_⟩
  · rw [offN_yes h3, h4]
  · unfold offB; rw [h3, h4]; rfl
set_option maxRecDepth 100000 in
set_option maxHeartbeats 4000000 in
theorem alive18_any (w : World) : Calls Try.prog 6 #[] w fun e W' => e = .returned (.bool true) ∧ Below w.heap.size w W' := by
  have hmx : Try.prog.follows .mixedOrders = true := by kernel_rfl
  have hM := Sep.start w
  go_enter Try.func6, Try.ntmps6
  go_upto_region 0 with fail
  refine wp_region_fromM (fun W => Sep w [] [] W) hM ?_
  clear hM
  rintro Y1 hM
  refine tF 1 [.val 0 (some 0) (.bool false)] trivial ?_
  refine dF ?_
  try simp only [puts, Tk.put, Act.put, List.setIfInBounds_toArray, List.set_cons_zero]
  go_upto_region 1 with fail
  refine wp_region_fromM (fun W => Sep w [] [] W) hM ?_
  clear hM
  rintro Y2 hM
  refine tF 1 [.val 0 (some 4) (wn 1000)] trivial ?_
  refine cF (some 5) 9 #[wn 1000, .int .i64 30] ((offer_any (word_lt4 (by unfold M; decide)) 30 _).mono ?_)
  rintro e Y3 ⟨rfl, hb⟩
  replace hM := hM.below hb
  clear hb
  refine tF 5 [.val 2 (some 3) (.tuple #[wn (offN 1000 30), .bool (offB 1000 30)]), .val 3 (some 6) (wn (offN 1000 30)), .val 4 (some 7) (.bool (offB 1000 30))] trivial ?_
  refine rF (some 1) (pt Y3.heap.size 0) (Y3.alloc (.cells (wnc 0).toArray 24)) ?_
  replace hM := hM.alloc 24 (wnc 0)
  generalize World.alloc _ _ = Y4 at *
  generalize hNe : Y3.heap.size = N4 at *
  clear hNe
  have hst := sto_part (wnc (offN 1000 30)) (hM.at 0 rfl) 0 24 (wn (offN 1000 30)) (wnc (offN 1000 30)) rfl (by kernel_rfl) (Nat.le_of_ble_eq_true rfl) rfl rfl
  refine sF 24 (pt N4 0) (wn (offN 1000 30)) (hst) ?_
  clear hst
  replace hM := hM.set 0 (cs' := wnc (offN 1000 30)) rfl rfl
  generalize World.setRow _ _ _ = Y5 at *
  refine tF 8 [.val 7 (some 2) (.bool (offB 1000 30))] trivial ?_
  refine dF ?_
  try simp only [puts, Tk.put, Act.put, List.setIfInBounds_toArray, List.set_cons_zero, List.set_cons_succ]
  go_upto_region 2 with fail
  refine wp_region_fromM (fun W => Sep w [] [.blk N4 24 (wnc (offN 1000 30))] W) hM ?_
  clear hM
  rintro Y6 hM
  refine tF 2 [.val 0 (some 8) (.bool (offB 1000 30)), .val 1 (some 9) (.bool (offB 1000 30))] trivial ?_
  rw [show (offB 1000 30) = true from off_1000.2]
  refine tF 4 [.load 2 (some 10) 24 (pt N4 0) (wn (offN 1000 30)), .val 3 (some 11) (wn 997)] ⟨load_part (hM.at 0 rfl) 0 (wnc (offN 1000 30)) rfl _ _ Try.underlying24 rfl (by kernel_rfl), trivial⟩ ?_
  refine eqA (.tmp 10) (.tmp 11) 24 (some 12) (wnc (offN 1000 30)).toArray (wnc 997).toArray true (Eq.trans (run_eqN (offN_lt (word_lt4 (by unfold M; decide))) (word_lt4 (by unfold M; decide)) _) (congrArg (fun z => Result.ok z _) (decide_eq_true off_1000.1))) ?_
  refine tF 7 [.val 5 (some 13) (.bool true), .val 6 (some 0) (.bool true)] trivial ?_
  refine dF ?_
  try simp only [puts, Tk.put, Act.put, List.setIfInBounds_toArray, List.set_cons_zero, List.set_cons_succ]
  go_wp2_with fail
  go_ret
  exact ⟨rfl, hM.b⟩
end Go.Proofs.Ytefbkchledfoiaa
