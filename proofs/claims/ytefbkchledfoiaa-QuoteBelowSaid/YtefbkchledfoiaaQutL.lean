/-
  The laws of offers.
-/
import Derived.Test.YtefbkchledfoiaaQutF
namespace Go.Proofs.Ytefbkchledfoiaa
open Go.RowKit Go.Shelf
attribute [local irreducible] wpFrom wpAnyH StepH

theorem ne_of_beq_false {x y : Int} (h : (x == y) = false) : x ≠ y := fun e => by rw [e, beq_self_eq_true] at h; cases h
set_option maxRecDepth 100000 in
set_option maxHeartbeats 4000000 in
theorem quoteTells_any {a : Nat} (ha : a < M4) (p : Int) {v l : Nat} (hv : v < M4) (hl : l < M4) (r : Int) (w : World) : Calls Try.prog 3 #[wn a, .int .i64 p, wn v, wn l, .int .i64 r] w fun e W' => e = .returned (.bool true) ∧ Below w.heap.size w W' := by
  have hmx : Try.prog.follows .mixedOrders = true := by kernel_rfl
  have hM := Sep.start w
  go_enter Try.func3, Try.ntmps3
  go_upto_region 0 with fail
  refine wp_region_fromM (fun W => Sep w [] [] W) hM ?_
  clear hM
  rintro Y1 hM
  refine rF (some 5) (pt Y1.heap.size 0) (Y1.alloc (.cells (wnc a).toArray 24)) ?_
  replace hM := hM.alloc 24 (wnc a)
  generalize World.alloc _ _ = Y2 at *
  generalize hNe : Y1.heap.size = N2 at *
  clear hNe
  refine rF (some 7) (pt Y2.heap.size 0) (Y2.alloc (.cells (wnc v).toArray 24)) ?_
  replace hM := hM.alloc 24 (wnc v)
  generalize World.alloc _ _ = Y3 at *
  generalize hNe : Y2.heap.size = N3 at *
  clear hNe
  refine rF (some 8) (pt Y3.heap.size 0) (Y3.alloc (.cells (wnc l).toArray 24)) ?_
  replace hM := hM.alloc 24 (wnc l)
  generalize World.alloc _ _ = Y4 at *
  generalize hNe : Y3.heap.size = N4 at *
  clear hNe
  refine tF 4 [.val 3 (some 10) (.bool false)] trivial ?_
  refine dF ?_
  try simp only [puts, Tk.put, Act.put, List.setIfInBounds_toArray, List.set_cons_zero, List.set_cons_succ]
  go_upto_region 1 with fail
  refine wp_region_fromM (fun W => Sep w [] [.blk N4 24 (wnc l), .blk N3 24 (wnc v), .blk N2 24 (wnc a)] W) hM ?_
  clear hM
  rintro Y5 hM
  refine cF (some 27) 6 #[] ((alive18_any _).mono ?_)
  rintro e Y6 ⟨rfl, hb⟩
  replace hM := hM.below hb
  clear hb
  refine tF 2 [.val 1 (some 28) (.bool false)] trivial ?_
  refine dF ?_
  try simp only [puts, Tk.put, Act.put, List.setIfInBounds_toArray, List.set_cons_zero, List.set_cons_succ]
  go_upto_region 3 with fail
  refine wp_region_fromM (fun W => Sep w [] [.blk N4 24 (wnc l), .blk N3 24 (wnc v), .blk N2 24 (wnc a)] W) hM ?_
  clear hM
  rintro Y7 hM
  refine tF 4 [.val 0 (some 29) (.int .i64 p), .val 1 (some 30) (.int .i64 (max2I p 0)), .alt 2 (some 31) (.int .i64 (min2I (max2I p 0) 10000)) (.int .i64 ((clN p : Nat) : Int)), .val 3 (some 11) (.int .i64 ((clN p : Nat) : Int))] ⟨congrArg (Value.int .i64) (clN_eq p), trivial⟩ ?_
  refine dF ?_
  try simp only [puts, Tk.put, Act.put, List.setIfInBounds_toArray, List.set_cons_zero, List.set_cons_succ]
  go_upto_region 4 with fail
  refine wp_region_fromM (fun W => Sep w [] [.blk N4 24 (wnc l), .blk N3 24 (wnc v), .blk N2 24 (wnc a)] W) hM ?_
  clear hM
  rintro Y8 hM
  refine tF 3 [.load 0 (some 33) 24 (pt N2 0) (wn a), .val 1 (some 34) (.int .i64 ((clN p : Nat) : Int)), .alt 2 (some 35) (.int .u64 (IntKind.u64.wrap ((clN p : Nat) : Int))) (.int .u64 ((clN p : Nat) : Int))] ⟨load_part (hM.at 2 rfl) 0 (wnc a) rfl _ _ Try.underlying24 rfl (by kernel_rfl), congrArg (Value.int .u64) (clN_wrap p), trivial⟩ ?_
  refine cF (some 36) 7 #[wn a, .int .u64 ((clN p : Nat) : Int)] ((refMulN_any (m := clN p) ha (clN_word p) _).mono ?_)
  rintro e Y9 ⟨rfl, hb⟩
  replace hM := hM.below hb
  clear hb
  refine tF 7 [.val 4 (some 32) (.tuple #[wn (mulN a (clN p)), .bool (mulB a (clN p))]), .val 5 (some 37) (wn (mulN a (clN p))), .val 6 (some 38) (.bool (mulB a (clN p)))] trivial ?_
  refine rF (some 12) (pt Y9.heap.size 0) (Y9.alloc (.cells (wnc 0).toArray 24)) ?_
  replace hM := hM.alloc 24 (wnc 0)
  generalize World.alloc _ _ = Y10 at *
  generalize hNe : Y9.heap.size = N10 at *
  clear hNe
  have hst := sto_part (wnc (mulN a (clN p))) (hM.at 0 rfl) 0 24 (wn (mulN a (clN p))) (wnc (mulN a (clN p))) rfl (by kernel_rfl) (Nat.le_of_ble_eq_true rfl) rfl rfl
  refine sF 24 (pt N10 0) (wn (mulN a (clN p))) (hst) ?_
  clear hst
  replace hM := hM.set 0 (cs' := wnc (mulN a (clN p))) rfl rfl
  generalize World.setRow _ _ _ = Y11 at *
  refine tF 10 [.val 9 (some 13) (.bool (mulB a (clN p)))] trivial ?_
  refine dF ?_
  try simp only [puts, Tk.put, Act.put, List.setIfInBounds_toArray, List.set_cons_zero, List.set_cons_succ]
  go_upto_region 5 with fail
  refine wp_region_fromM (fun W => Sep w [] [.blk N10 24 (wnc (mulN a (clN p))), .blk N4 24 (wnc l), .blk N3 24 (wnc v), .blk N2 24 (wnc a)] W) hM ?_
  clear hM
  rintro Y12 hM
  refine tF 2 [.load 0 (some 40) 24 (pt N2 0) (wn a), .val 1 (some 41) (.int .i64 p)] ⟨load_part (hM.at 3 rfl) 0 (wnc a) rfl _ _ Try.underlying24 rfl (by kernel_rfl), trivial⟩ ?_
  refine cF (some 42) 8 #[wn a, .int .i64 p] ((spread_any ha p _).mono ?_)
  rintro e Y13 ⟨rfl, hb⟩
  replace hM := hM.below hb
  clear hb
  refine tF 6 [.val 3 (some 39) (.tuple #[wn (sprN a p), .bool (sprB a p)]), .val 4 (some 43) (wn (sprN a p)), .val 5 (some 44) (.bool (sprB a p))] trivial ?_
  refine rF (some 14) (pt Y13.heap.size 0) (Y13.alloc (.cells (wnc 0).toArray 24)) ?_
  replace hM := hM.alloc 24 (wnc 0)
  generalize World.alloc _ _ = Y14 at *
  generalize hNe : Y13.heap.size = N14 at *
  clear hNe
  have hst := sto_part (wnc (sprN a p)) (hM.at 0 rfl) 0 24 (wn (sprN a p)) (wnc (sprN a p)) rfl (by kernel_rfl) (Nat.le_of_ble_eq_true rfl) rfl rfl
  refine sF 24 (pt N14 0) (wn (sprN a p)) (hst) ?_
  clear hst
  replace hM := hM.set 0 (cs' := wnc (sprN a p)) rfl rfl
  generalize World.setRow _ _ _ = Y15 at *
  refine tF 9 [.val 8 (some 15) (.bool (sprB a p))] trivial ?_
  refine dF ?_
  try simp only [puts, Tk.put, Act.put, List.setIfInBounds_toArray, List.set_cons_zero, List.set_cons_succ]
  go_upto_region 6 with fail
  refine wp_region_fromM (fun W => Sep w [] [.blk N14 24 (wnc (sprN a p)), .blk N10 24 (wnc (mulN a (clN p))), .blk N4 24 (wnc l), .blk N3 24 (wnc v), .blk N2 24 (wnc a)] W) hM ?_
  clear hM
  rintro Y16 hM
  refine tF 2 [.load 0 (some 46) 24 (pt N2 0) (wn a), .val 1 (some 47) (.int .i64 p)] ⟨load_part (hM.at 4 rfl) 0 (wnc a) rfl _ _ Try.underlying24 rfl (by kernel_rfl), trivial⟩ ?_
  refine cF (some 48) 9 #[wn a, .int .i64 p] ((offer_any ha p _).mono ?_)
  rintro e Y17 ⟨rfl, hb⟩
  replace hM := hM.below hb
  clear hb
  refine tF 6 [.val 3 (some 45) (.tuple #[wn (offN a p), .bool (offB a p)]), .val 4 (some 49) (wn (offN a p)), .val 5 (some 50) (.bool (offB a p))] trivial ?_
  refine rF (some 16) (pt Y17.heap.size 0) (Y17.alloc (.cells (wnc 0).toArray 24)) ?_
  replace hM := hM.alloc 24 (wnc 0)
  generalize World.alloc _ _ = Y18 at *
  generalize hNe : Y17.heap.size = N18 at *
  clear hNe
  have hst := sto_part (wnc (offN a p)) (hM.at 0 rfl) 0 24 (wn (offN a p)) (wnc (offN a p)) rfl (by kernel_rfl) (Nat.le_of_ble_eq_true rfl) rfl rfl
  refine sF 24 (pt N18 0) (wn (offN a p)) (hst) ?_
  clear hst
  replace hM := hM.set 0 (cs' := wnc (offN a p)) rfl rfl
  generalize World.setRow _ _ _ = Y19 at *
  refine tF 9 [.val 8 (some 17) (.bool (offB a p))] trivial ?_
  refine dF ?_
  try simp only [puts, Tk.put, Act.put, List.setIfInBounds_toArray, List.set_cons_zero, List.set_cons_succ]
  go_upto_region 7 with fail
  refine wp_region_fromM (fun W => Sep w [] [.blk N18 24 (wnc (offN a p)), .blk N14 24 (wnc (sprN a p)), .blk N10 24 (wnc (mulN a (clN p))), .blk N4 24 (wnc l), .blk N3 24 (wnc v), .blk N2 24 (wnc a)] W) hM ?_
  clear hM
  rintro Y20 hM
  refine tF 2 [.load 0 (some 52) 24 (pt N4 0) (wn l), .load 1 (some 53) 24 (pt N2 0) (wn a)] ⟨load_part (hM.at 3 rfl) 0 (wnc l) rfl _ _ Try.underlying24 rfl (by kernel_rfl), load_part (hM.at 5 rfl) 0 (wnc a) rfl _ _ Try.underlying24 rfl (by kernel_rfl), trivial⟩ ?_
  refine cF (some 54) 10 #[wn l, wn a] ((refAddN_any hl ha _).mono ?_)
  rintro e Y21 ⟨rfl, hb⟩
  replace hM := hM.below hb
  clear hb
  refine tF 6 [.val 3 (some 51) (.tuple #[wn (addN l a), .bool (fitB l a)]), .val 4 (some 55) (wn (addN l a)), .val 5 (some 56) (.bool (fitB l a))] trivial ?_
  refine rF (some 18) (pt Y21.heap.size 0) (Y21.alloc (.cells (wnc 0).toArray 24)) ?_
  replace hM := hM.alloc 24 (wnc 0)
  generalize World.alloc _ _ = Y22 at *
  generalize hNe : Y21.heap.size = N22 at *
  clear hNe
  have hst := sto_part (wnc (addN l a)) (hM.at 0 rfl) 0 24 (wn (addN l a)) (wnc (addN l a)) rfl (by kernel_rfl) (Nat.le_of_ble_eq_true rfl) rfl rfl
  refine sF 24 (pt N22 0) (wn (addN l a)) (hst) ?_
  clear hst
  replace hM := hM.set 0 (cs' := wnc (addN l a)) rfl rfl
  generalize World.setRow _ _ _ = Y23 at *
  refine tF 9 [.val 8 (some 19) (.bool (fitB l a))] trivial ?_
  refine dF ?_
  try simp only [puts, Tk.put, Act.put, List.setIfInBounds_toArray, List.set_cons_zero, List.set_cons_succ]
  go_upto_region 8 with fail
  refine wp_region_fromM (fun W => Sep w [] [.blk N22 24 (wnc (addN l a)), .blk N18 24 (wnc (offN a p)), .blk N14 24 (wnc (sprN a p)), .blk N10 24 (wnc (mulN a (clN p))), .blk N4 24 (wnc l), .blk N3 24 (wnc v), .blk N2 24 (wnc a)] W) hM ?_
  clear hM
  rintro Y24 hM
  refine tF 3 [.load 0 (some 57) 24 (pt N3 0) (wn v), .load 1 (some 58) 24 (pt N4 0) (wn l), .load 2 (some 59) 24 (pt N2 0) (wn a)] ⟨load_part (hM.at 5 rfl) 0 (wnc v) rfl _ _ Try.underlying24 rfl (by kernel_rfl), load_part (hM.at 4 rfl) 0 (wnc l) rfl _ _ Try.underlying24 rfl (by kernel_rfl), load_part (hM.at 6 rfl) 0 (wnc a) rfl _ _ Try.underlying24 rfl (by kernel_rfl), trivial⟩ ?_
  refine cF (some 60) 11 #[wn v, wn l, wn a] ((covers_any hv hl ha _).mono ?_)
  rintro e Y25 ⟨rfl, hb⟩
  replace hM := hM.below hb
  clear hb
  refine tF 6 [.val 4 (some 61) (.bool (fitB l a)), .val 5 (some 62) (.bool (fitB l a))] trivial ?_
  cases hb1 : fitB l a with
  | false =>
    have Hhb1 := Lib.hid hb1
    clear hb1
    refine tF 8 [.skip 6 (some 63), .skip 7 (some 64)] trivial ?_
    refine wpFrom_not (d := some 65) (by kernel_rfl) ?_
    refine tF 12 [.skip 9 (some 66), .val 10 (some 67) (.bool false), .alt 11 (some 68) (.bool ((covB v l a) != false)) (.bool false)] ⟨congrArg Value.bool (by unfold covB; rw [Hhb1.out]; rfl), trivial⟩ ?_
    refine dF ?_
    try simp only [puts, Tk.put, Act.put, List.setIfInBounds_toArray, List.set_cons_zero, List.set_cons_succ]
    go_upto_region 10 with fail
    refine wp_region_fromM (fun W => Sep w [] [.blk N22 24 (wnc (addN l a)), .blk N18 24 (wnc (offN a p)), .blk N14 24 (wnc (sprN a p)), .blk N10 24 (wnc (mulN a (clN p))), .blk N4 24 (wnc l), .blk N3 24 (wnc v), .blk N2 24 (wnc a)] W) hM ?_
    clear hM
    rintro Y26 hM
    refine tF 1 [.val 0 (some 20) (.int .i64 100)] trivial ?_
    refine dF ?_
    try simp only [puts, Tk.put, Act.put, List.setIfInBounds_toArray, List.set_cons_zero, List.set_cons_succ]
    go_upto_region 11 with fail
    refine wp_region_fromM (fun W => Sep w [] [.blk N22 24 (wnc (addN l a)), .blk N18 24 (wnc (offN a p)), .blk N14 24 (wnc (sprN a p)), .blk N10 24 (wnc (mulN a (clN p))), .blk N4 24 (wnc l), .blk N3 24 (wnc v), .blk N2 24 (wnc a)] W) hM ?_
    clear hM
    rintro Y27 hM
    refine tF 2 [.val 0 (some 69) (.int .i64 r), .val 1 (some 70) (.bool (r == 2))] trivial ?_
    refine dF ?_
    try simp only [puts, Tk.put, Act.put, List.setIfInBounds_toArray, List.set_cons_zero, List.set_cons_succ]
    cases hb2 : r == 2 with
    | false =>
      have Hhb2 := Lib.hid hb2
      clear hb2
      go_upto_region 13 with fail
      refine wp_region_fromM (fun W => Sep w [] [.blk N22 24 (wnc (addN l a)), .blk N18 24 (wnc (offN a p)), .blk N14 24 (wnc (sprN a p)), .blk N10 24 (wnc (mulN a (clN p))), .blk N4 24 (wnc l), .blk N3 24 (wnc v), .blk N2 24 (wnc a)] W) hM ?_
      clear hM
      rintro Y28 hM
      refine tF 2 [.val 0 (some 71) (.int .i64 r), .val 1 (some 72) (.bool (r == 3))] trivial ?_
      refine dF ?_
      try simp only [puts, Tk.put, Act.put, List.setIfInBounds_toArray, List.set_cons_zero, List.set_cons_succ]
      cases hb3 : r == 3 with
      | false =>
        have Hhb3 := Lib.hid hb3
        clear hb3
        go_upto_region 15 with fail
        refine wp_region_fromM (fun W => Sep w [] [.blk N22 24 (wnc (addN l a)), .blk N18 24 (wnc (offN a p)), .blk N14 24 (wnc (sprN a p)), .blk N10 24 (wnc (mulN a (clN p))), .blk N4 24 (wnc l), .blk N3 24 (wnc v), .blk N2 24 (wnc a)] W) hM ?_
        clear hM
        rintro Y29 hM
        refine tF 1 [.val 0 (some 73) (.int .i64 r)] trivial ?_
        refine cF (some 74) 13 #[.int .i64 r] ((points_any r _).mono ?_)
        rintro e Y30 ⟨rfl, hb⟩
        replace hM := hM.below hb
        clear hb
        refine tF 4 [.val 2 (some 75) (.int .i64 100), .alt 3 (some 76) (.bool ((ptsI r) != 100)) (.bool false)] ⟨congrArg Value.bool (by rw [show ptsI r = 100 from (if_neg (ne_of_beq_false Hhb2.out)).trans (if_neg (ne_of_beq_false Hhb3.out))]; decide), trivial⟩ ?_
        refine dF ?_
        try simp only [puts, Tk.put, Act.put, List.setIfInBounds_toArray, List.set_cons_zero, List.set_cons_succ]
        go_upto_region 17 with fail
        refine wp_region_fromM (fun W => Sep w [] [.blk N22 24 (wnc (addN l a)), .blk N18 24 (wnc (offN a p)), .blk N14 24 (wnc (sprN a p)), .blk N10 24 (wnc (mulN a (clN p))), .blk N4 24 (wnc l), .blk N3 24 (wnc v), .blk N2 24 (wnc a)] W) hM ?_
        clear hM
        rintro Y31 hM
        refine tF 1 [.val 0 (some 77) (.bool (mulB a (clN p)))] trivial ?_
        cases hb4 : mulB a (clN p) with
        | false =>
          have Hhb4 := Lib.hid hb4
          clear hb4
          have HB := Lib.hid (show sprB a p = false from Hhb4.out)
          refine tF 2 [.val 1 (some 78) (.bool true)] trivial ?_
          refine dF ?_
          try simp only [puts, Tk.put, Act.put, List.setIfInBounds_toArray, List.set_cons_zero, List.set_cons_succ]
          go_upto_region 18 with fail
          refine wp_region_fromM (fun W => Sep w [] [.blk N22 24 (wnc (addN l a)), .blk N18 24 (wnc (offN a p)), .blk N14 24 (wnc (sprN a p)), .blk N10 24 (wnc (mulN a (clN p))), .blk N4 24 (wnc l), .blk N3 24 (wnc v), .blk N2 24 (wnc a)] W) hM ?_
          clear hM
          rintro Y32 hM
          refine tF 1 [.val 0 (some 79) (.bool (sprB a p))] trivial ?_
          rw [show (sprB a p) = false from HB.out]
          refine tF 4 [.val 1 (some 80) (.bool true), .val 2 (some 81) (.bool true), .val 3 (some 82) (.bool (offB a p))] trivial ?_
          rw [show (offB a p) = false from offB_no HB.out]
          refine tF 9 [.val 4 (some 83) (.bool true), .val 5 (some 84) (.bool true), .val 6 (some 85) (.bool true), .load 7 (some 86) 24 (pt N14 0) (wn (sprN a p)), .val 8 (some 87) (wn 0)] ⟨load_part (hM.at 2 rfl) 0 (wnc (sprN a p)) rfl _ _ Try.underlying24 rfl (by kernel_rfl), trivial⟩ ?_
          refine eqA (.tmp 86) (.tmp 87) 24 (some 88) (wnc (sprN a p)).toArray (wnc 0).toArray true (Eq.trans (run_eqN sprN_lt (word_lt4 (by unfold M; decide)) _) (congrArg (fun z => Result.ok z _) (decide_eq_true (sprN_no HB.out)))) ?_
          refine tF 14 [.val 10 (some 89) (.bool true), .val 11 (some 90) (.bool true), .load 12 (some 91) 24 (pt N18 0) (wn (offN a p)), .val 13 (some 92) (wn 0)] ⟨load_part (hM.at 1 rfl) 0 (wnc (offN a p)) rfl _ _ Try.underlying24 rfl (by kernel_rfl), trivial⟩ ?_
          refine eqA (.tmp 91) (.tmp 92) 24 (some 93) (wnc (offN a p)).toArray (wnc 0).toArray true (Eq.trans (run_eqN (offN_lt ha) (word_lt4 (by unfold M; decide)) _) (congrArg (fun z => Result.ok z _) (decide_eq_true (offN_no HB.out)))) ?_
          refine tF 17 [.val 15 (some 94) (.bool true), .val 16 (some 10) (.bool true)] trivial ?_
          refine dF ?_
          try simp only [puts, Tk.put, Act.put, List.setIfInBounds_toArray, List.set_cons_zero, List.set_cons_succ]
          go_wp2_with fail
          go_ret
          exact ⟨rfl, hM.b⟩
        | true =>
          have Hhb4 := Lib.hid hb4
          clear hb4
          have HB := Lib.hid (show sprB a p = true from Hhb4.out)
          refine tF 2 [.val 1 (some 78) (.bool false)] trivial ?_
          refine dF ?_
          try simp only [puts, Tk.put, Act.put, List.setIfInBounds_toArray, List.set_cons_zero, List.set_cons_succ]
          go_upto_region 19 with fail
          refine wp_region_fromM (fun W => Sep w [] [.blk N22 24 (wnc (addN l a)), .blk N18 24 (wnc (offN a p)), .blk N14 24 (wnc (sprN a p)), .blk N10 24 (wnc (mulN a (clN p))), .blk N4 24 (wnc l), .blk N3 24 (wnc v), .blk N2 24 (wnc a)] W) hM ?_
          clear hM
          rintro Y33 hM
          refine tF 1 [.load 0 (some 96) 24 (pt N14 0) (wn (sprN a p))] ⟨load_part (hM.at 2 rfl) 0 (wnc (sprN a p)) rfl _ _ Try.underlying24 rfl (by kernel_rfl), trivial⟩ ?_
          refine cF (some 97) 7 #[wn (sprN a p), .int .u64 10000] ((refMulN_any (m := 10000) sprN_lt (by unfold M; decide) _).mono ?_)
          rintro e Y34 ⟨rfl, hb⟩
          replace hM := hM.below hb
          clear hb
          refine tF 5 [.val 2 (some 95) (.tuple #[wn (mulN (sprN a p) 10000), .bool (mulB (sprN a p) 10000)]), .val 3 (some 98) (wn (mulN (sprN a p) 10000)), .val 4 (some 99) (.bool (mulB (sprN a p) 10000))] trivial ?_
          refine rF (some 21) (pt Y34.heap.size 0) (Y34.alloc (.cells (wnc 0).toArray 24)) ?_
          replace hM := hM.alloc 24 (wnc 0)
          generalize World.alloc _ _ = Y35 at *
          generalize hNe : Y34.heap.size = N35 at *
          clear hNe
          have hst := sto_part (wnc (mulN (sprN a p) 10000)) (hM.at 0 rfl) 0 24 (wn (mulN (sprN a p) 10000)) (wnc (mulN (sprN a p) 10000)) rfl (by kernel_rfl) (Nat.le_of_ble_eq_true rfl) rfl rfl
          refine sF 24 (pt N35 0) (wn (mulN (sprN a p) 10000)) (hst) ?_
          clear hst
          replace hM := hM.set 0 (cs' := wnc (mulN (sprN a p) 10000)) rfl rfl
          generalize World.setRow _ _ _ = Y36 at *
          refine tF 8 [.val 7 (some 22) (.bool (mulB (sprN a p) 10000))] trivial ?_
          refine dF ?_
          try simp only [puts, Tk.put, Act.put, List.setIfInBounds_toArray, List.set_cons_zero, List.set_cons_succ]
          go_upto_region 20 with fail
          refine wp_region_fromM (fun W => Sep w [] [.blk N35 24 (wnc (mulN (sprN a p) 10000)), .blk N22 24 (wnc (addN l a)), .blk N18 24 (wnc (offN a p)), .blk N14 24 (wnc (sprN a p)), .blk N10 24 (wnc (mulN a (clN p))), .blk N4 24 (wnc l), .blk N3 24 (wnc v), .blk N2 24 (wnc a)] W) hM ?_
          clear hM
          rintro Y37 hM
          refine tF 2 [.load 0 (some 101) 24 (pt N10 0) (wn (mulN a (clN p))), .load 1 (some 102) 24 (pt N35 0) (wn (mulN (sprN a p) 10000))] ⟨load_part (hM.at 4 rfl) 0 (wnc (mulN a (clN p))) rfl _ _ Try.underlying24 rfl (by kernel_rfl), load_part (hM.at 0 rfl) 0 (wnc (mulN (sprN a p) 10000)) rfl _ _ Try.underlying24 rfl (by kernel_rfl), trivial⟩ ?_
          refine cF (some 103) 14 #[wn (mulN a (clN p)), wn (mulN (sprN a p) 10000)] ((refSubN_any mulN_lt mulN_lt _).mono ?_)
          rintro e Y38 ⟨rfl, hb⟩
          replace hM := hM.below hb
          clear hb
          refine tF 6 [.val 3 (some 100) (.tuple #[wn ((mulN a (clN p)) - (mulN (sprN a p) 10000)), .bool (lessB (mulN a (clN p)) (mulN (sprN a p) 10000))]), .val 4 (some 104) (wn ((mulN a (clN p)) - (mulN (sprN a p) 10000))), .val 5 (some 105) (.bool (lessB (mulN a (clN p)) (mulN (sprN a p) 10000)))] trivial ?_
          refine rF (some 23) (pt Y38.heap.size 0) (Y38.alloc (.cells (wnc 0).toArray 24)) ?_
          replace hM := hM.alloc 24 (wnc 0)
          generalize World.alloc _ _ = Y39 at *
          generalize hNe : Y38.heap.size = N39 at *
          clear hNe
          have hst := sto_part (wnc ((mulN a (clN p)) - (mulN (sprN a p) 10000))) (hM.at 0 rfl) 0 24 (wn ((mulN a (clN p)) - (mulN (sprN a p) 10000))) (wnc ((mulN a (clN p)) - (mulN (sprN a p) 10000))) rfl (by kernel_rfl) (Nat.le_of_ble_eq_true rfl) rfl rfl
          refine sF 24 (pt N39 0) (wn ((mulN a (clN p)) - (mulN (sprN a p) 10000))) (hst) ?_
          clear hst
          replace hM := hM.set 0 (cs' := wnc ((mulN a (clN p)) - (mulN (sprN a p) 10000))) rfl rfl
          generalize World.setRow _ _ _ = Y40 at *
          refine tF 9 [.val 8 (some 24) (.bool (lessB (mulN a (clN p)) (mulN (sprN a p) 10000)))] trivial ?_
          refine dF ?_
          try simp only [puts, Tk.put, Act.put, List.setIfInBounds_toArray, List.set_cons_zero, List.set_cons_succ]
          go_upto_region 21 with fail
          refine wp_region_fromM (fun W => Sep w [] [.blk N39 24 (wnc ((mulN a (clN p)) - (mulN (sprN a p) 10000))), .blk N35 24 (wnc (mulN (sprN a p) 10000)), .blk N22 24 (wnc (addN l a)), .blk N18 24 (wnc (offN a p)), .blk N14 24 (wnc (sprN a p)), .blk N10 24 (wnc (mulN a (clN p))), .blk N4 24 (wnc l), .blk N3 24 (wnc v), .blk N2 24 (wnc a)] W) hM ?_
          clear hM
          rintro Y41 hM
          refine tF 1 [.val 0 (some 106) (.bool (sprB a p))] trivial ?_
          rw [show (sprB a p) = true from HB.out]
          refine tF 4 [.val 1 (some 107) (.bool false), .val 2 (some 108) (.bool false), .val 3 (some 109) (.bool (lessB (mulN a (clN p)) (mulN (sprN a p) 10000)))] trivial ?_
          rw [show (lessB (mulN a (clN p)) (mulN (sprN a p) 10000)) = true from decide_eq_true (part_ok HB.out).1]
          refine tF 9 [.val 4 (some 110) (.bool false), .val 5 (some 111) (.bool false), .val 6 (some 112) (.bool false), .load 7 (some 113) 24 (pt N39 0) (wn ((mulN a (clN p)) - (mulN (sprN a p) 10000))), .val 8 (some 114) (wn 10000)] ⟨load_part (hM.at 0 rfl) 0 (wnc ((mulN a (clN p)) - (mulN (sprN a p) 10000))) rfl _ _ Try.underlying24 rfl (by kernel_rfl), trivial⟩ ?_
          refine cF (some 115) 12 #[wn ((mulN a (clN p)) - (mulN (sprN a p) 10000)), wn 10000] ((refCmpN_any (sub_lt4 mulN_lt) (word_lt4 (by unfold M; decide)) _).mono ?_)
          rintro e Y42 ⟨rfl, hb⟩
          replace hM := hM.below hb
          clear hb
          refine tF 12 [.alt 10 (some 116) (.bool (decide (0 ≤ (cmpN ((mulN a (clN p)) - (mulN (sprN a p) 10000)) 10000)))) (.bool false), .val 11 (some 117) (.bool false)] ⟨congrArg Value.bool (cmp_nge (part_ok HB.out).2), trivial⟩ ?_
          refine dF ?_
          try simp only [puts, Tk.put, Act.put, List.setIfInBounds_toArray, List.set_cons_zero, List.set_cons_succ]
          go_upto_region 23 with fail
          refine wp_region_fromM (fun W => Sep w [] [.blk N39 24 (wnc ((mulN a (clN p)) - (mulN (sprN a p) 10000))), .blk N35 24 (wnc (mulN (sprN a p) 10000)), .blk N22 24 (wnc (addN l a)), .blk N18 24 (wnc (offN a p)), .blk N14 24 (wnc (sprN a p)), .blk N10 24 (wnc (mulN a (clN p))), .blk N4 24 (wnc l), .blk N3 24 (wnc v), .blk N2 24 (wnc a)] W) hM ?_
          clear hM
          rintro Y43 hM
          refine tF 2 [.load 0 (some 119) 24 (pt N2 0) (wn a), .load 1 (some 120) 24 (pt N14 0) (wn (sprN a p))] ⟨load_part (hM.at 8 rfl) 0 (wnc a) rfl _ _ Try.underlying24 rfl (by kernel_rfl), load_part (hM.at 4 rfl) 0 (wnc (sprN a p)) rfl _ _ Try.underlying24 rfl (by kernel_rfl), trivial⟩ ?_
          refine cF (some 121) 14 #[wn a, wn (sprN a p)] ((refSubN_any ha sprN_lt _).mono ?_)
          rintro e Y44 ⟨rfl, hb⟩
          replace hM := hM.below hb
          clear hb
          refine tF 6 [.val 3 (some 118) (.tuple #[wn (a - (sprN a p)), .bool (lessB a (sprN a p))]), .val 4 (some 122) (wn (a - (sprN a p))), .val 5 (some 123) (.bool (lessB a (sprN a p)))] trivial ?_
          refine rF (some 25) (pt Y44.heap.size 0) (Y44.alloc (.cells (wnc 0).toArray 24)) ?_
          replace hM := hM.alloc 24 (wnc 0)
          generalize World.alloc _ _ = Y45 at *
          generalize hNe : Y44.heap.size = N45 at *
          clear hNe
          have hst := sto_part (wnc (a - (sprN a p))) (hM.at 0 rfl) 0 24 (wn (a - (sprN a p))) (wnc (a - (sprN a p))) rfl (by kernel_rfl) (Nat.le_of_ble_eq_true rfl) rfl rfl
          refine sF 24 (pt N45 0) (wn (a - (sprN a p))) (hst) ?_
          clear hst
          replace hM := hM.set 0 (cs' := wnc (a - (sprN a p))) rfl rfl
          generalize World.setRow _ _ _ = Y46 at *
          refine tF 9 [.val 8 (some 26) (.bool (lessB a (sprN a p)))] trivial ?_
          refine dF ?_
          try simp only [puts, Tk.put, Act.put, List.setIfInBounds_toArray, List.set_cons_zero, List.set_cons_succ]
          go_upto_region 24 with fail
          refine wp_region_fromM (fun W => Sep w [] [.blk N45 24 (wnc (a - (sprN a p))), .blk N39 24 (wnc ((mulN a (clN p)) - (mulN (sprN a p) 10000))), .blk N35 24 (wnc (mulN (sprN a p) 10000)), .blk N22 24 (wnc (addN l a)), .blk N18 24 (wnc (offN a p)), .blk N14 24 (wnc (sprN a p)), .blk N10 24 (wnc (mulN a (clN p))), .blk N4 24 (wnc l), .blk N3 24 (wnc v), .blk N2 24 (wnc a)] W) hM ?_
          clear hM
          rintro Y47 hM
          refine tF 2 [.load 0 (some 124) 24 (pt N18 0) (wn (offN a p)), .load 1 (some 125) 24 (pt N45 0) (wn (a - (sprN a p)))] ⟨load_part (hM.at 4 rfl) 0 (wnc (offN a p)) rfl _ _ Try.underlying24 rfl (by kernel_rfl), load_part (hM.at 0 rfl) 0 (wnc (a - (sprN a p))) rfl _ _ Try.underlying24 rfl (by kernel_rfl), trivial⟩ ?_
          refine eqA (.tmp 124) (.tmp 125) 24 (some 126) (wnc (offN a p)).toArray (wnc (a - (sprN a p))).toArray true (Eq.trans (run_eqN (offN_lt ha) (sub_lt4 ha) _) (congrArg (fun z => Result.ok z _) (decide_eq_true (offN_yes HB.out)))) ?_
          refine tF 7 [.val 3 (some 127) (.bool true), .val 4 (some 128) (.bool (offB a p)), .load 5 (some 129) 24 (pt N45 0) (wn (a - (sprN a p))), .val 6 (some 130) (wn 0)] ⟨load_part (hM.at 0 rfl) 0 (wnc (a - (sprN a p))) rfl _ _ Try.underlying24 rfl (by kernel_rfl), trivial⟩ ?_
          refine neA (.tmp 129) (.tmp 130) 24 (some 131) (wnc (a - (sprN a p))).toArray (wnc 0).toArray (decide (a - (sprN a p) = 0)) (run_eqN (sub_lt4 ha) (word_lt4 (by unfold M; decide)) _) ?_
          refine tF 11 [.alt 8 (some 132) (.bool ((offB a p) == (!(decide (a - (sprN a p) = 0))))) (.bool true), .val 9 (some 133) (.bool true), .val 10 (some 10) (.bool true)] ⟨congrArg Value.bool (by unfold offB; rw [HB.out]; exact beq_self_eq_true _), trivial⟩ ?_
          refine dF ?_
          try simp only [puts, Tk.put, Act.put, List.setIfInBounds_toArray, List.set_cons_zero, List.set_cons_succ]
          go_wp2_with fail
          go_ret
          exact ⟨rfl, hM.b⟩
      | true =>
        have Hhb3 := Lib.hid hb3
        clear hb3
        go_upto_region 14 with fail
        refine wp_region_fromM (fun W => Sep w [] [.blk N22 24 (wnc (addN l a)), .blk N18 24 (wnc (offN a p)), .blk N14 24 (wnc (sprN a p)), .blk N10 24 (wnc (mulN a (clN p))), .blk N4 24 (wnc l), .blk N3 24 (wnc v), .blk N2 24 (wnc a)] W) hM ?_
        clear hM
        rintro Y48 hM
        refine tF 1 [.val 0 (some 20) (.int .i64 45)] trivial ?_
        refine dF ?_
        try simp only [puts, Tk.put, Act.put, List.setIfInBounds_toArray, List.set_cons_zero, List.set_cons_succ]
        go_upto_region 15 with fail
        refine wp_region_fromM (fun W => Sep w [] [.blk N22 24 (wnc (addN l a)), .blk N18 24 (wnc (offN a p)), .blk N14 24 (wnc (sprN a p)), .blk N10 24 (wnc (mulN a (clN p))), .blk N4 24 (wnc l), .blk N3 24 (wnc v), .blk N2 24 (wnc a)] W) hM ?_
        clear hM
        rintro Y49 hM
        refine tF 1 [.val 0 (some 73) (.int .i64 r)] trivial ?_
        refine cF (some 74) 13 #[.int .i64 r] ((points_any r _).mono ?_)
        rintro e Y50 ⟨rfl, hb⟩
        replace hM := hM.below hb
        clear hb
        refine tF 4 [.val 2 (some 75) (.int .i64 45), .alt 3 (some 76) (.bool ((ptsI r) != 45)) (.bool false)] ⟨congrArg Value.bool (by rw [show ptsI r = 45 from (if_neg (ne_of_beq_false Hhb2.out)).trans (if_pos (eq_of_beq Hhb3.out))]; decide), trivial⟩ ?_
        refine dF ?_
        try simp only [puts, Tk.put, Act.put, List.setIfInBounds_toArray, List.set_cons_zero, List.set_cons_succ]
        go_upto_region 17 with fail
        refine wp_region_fromM (fun W => Sep w [] [.blk N22 24 (wnc (addN l a)), .blk N18 24 (wnc (offN a p)), .blk N14 24 (wnc (sprN a p)), .blk N10 24 (wnc (mulN a (clN p))), .blk N4 24 (wnc l), .blk N3 24 (wnc v), .blk N2 24 (wnc a)] W) hM ?_
        clear hM
        rintro Y51 hM
        refine tF 1 [.val 0 (some 77) (.bool (mulB a (clN p)))] trivial ?_
        cases hb5 : mulB a (clN p) with
        | false =>
          have Hhb5 := Lib.hid hb5
          clear hb5
          have HB := Lib.hid (show sprB a p = false from Hhb5.out)
          refine tF 2 [.val 1 (some 78) (.bool true)] trivial ?_
          refine dF ?_
          try simp only [puts, Tk.put, Act.put, List.setIfInBounds_toArray, List.set_cons_zero, List.set_cons_succ]
          go_upto_region 18 with fail
          refine wp_region_fromM (fun W => Sep w [] [.blk N22 24 (wnc (addN l a)), .blk N18 24 (wnc (offN a p)), .blk N14 24 (wnc (sprN a p)), .blk N10 24 (wnc (mulN a (clN p))), .blk N4 24 (wnc l), .blk N3 24 (wnc v), .blk N2 24 (wnc a)] W) hM ?_
          clear hM
          rintro Y52 hM
          refine tF 1 [.val 0 (some 79) (.bool (sprB a p))] trivial ?_
          rw [show (sprB a p) = false from HB.out]
          refine tF 4 [.val 1 (some 80) (.bool true), .val 2 (some 81) (.bool true), .val 3 (some 82) (.bool (offB a p))] trivial ?_
          rw [show (offB a p) = false from offB_no HB.out]
          refine tF 9 [.val 4 (some 83) (.bool true), .val 5 (some 84) (.bool true), .val 6 (some 85) (.bool true), .load 7 (some 86) 24 (pt N14 0) (wn (sprN a p)), .val 8 (some 87) (wn 0)] ⟨load_part (hM.at 2 rfl) 0 (wnc (sprN a p)) rfl _ _ Try.underlying24 rfl (by kernel_rfl), trivial⟩ ?_
          refine eqA (.tmp 86) (.tmp 87) 24 (some 88) (wnc (sprN a p)).toArray (wnc 0).toArray true (Eq.trans (run_eqN sprN_lt (word_lt4 (by unfold M; decide)) _) (congrArg (fun z => Result.ok z _) (decide_eq_true (sprN_no HB.out)))) ?_
          refine tF 14 [.val 10 (some 89) (.bool true), .val 11 (some 90) (.bool true), .load 12 (some 91) 24 (pt N18 0) (wn (offN a p)), .val 13 (some 92) (wn 0)] ⟨load_part (hM.at 1 rfl) 0 (wnc (offN a p)) rfl _ _ Try.underlying24 rfl (by kernel_rfl), trivial⟩ ?_
          refine eqA (.tmp 91) (.tmp 92) 24 (some 93) (wnc (offN a p)).toArray (wnc 0).toArray true (Eq.trans (run_eqN (offN_lt ha) (word_lt4 (by unfold M; decide)) _) (congrArg (fun z => Result.ok z _) (decide_eq_true (offN_no HB.out)))) ?_
          refine tF 17 [.val 15 (some 94) (.bool true), .val 16 (some 10) (.bool true)] trivial ?_
          refine dF ?_
          try simp only [puts, Tk.put, Act.put, List.setIfInBounds_toArray, List.set_cons_zero, List.set_cons_succ]
          go_wp2_with fail
          go_ret
          exact ⟨rfl, hM.b⟩
        | true =>
          have Hhb5 := Lib.hid hb5
          clear hb5
          have HB := Lib.hid (show sprB a p = true from Hhb5.out)
          refine tF 2 [.val 1 (some 78) (.bool false)] trivial ?_
          refine dF ?_
          try simp only [puts, Tk.put, Act.put, List.setIfInBounds_toArray, List.set_cons_zero, List.set_cons_succ]
          go_upto_region 19 with fail
          refine wp_region_fromM (fun W => Sep w [] [.blk N22 24 (wnc (addN l a)), .blk N18 24 (wnc (offN a p)), .blk N14 24 (wnc (sprN a p)), .blk N10 24 (wnc (mulN a (clN p))), .blk N4 24 (wnc l), .blk N3 24 (wnc v), .blk N2 24 (wnc a)] W) hM ?_
          clear hM
          rintro Y53 hM
          refine tF 1 [.load 0 (some 96) 24 (pt N14 0) (wn (sprN a p))] ⟨load_part (hM.at 2 rfl) 0 (wnc (sprN a p)) rfl _ _ Try.underlying24 rfl (by kernel_rfl), trivial⟩ ?_
          refine cF (some 97) 7 #[wn (sprN a p), .int .u64 10000] ((refMulN_any (m := 10000) sprN_lt (by unfold M; decide) _).mono ?_)
          rintro e Y54 ⟨rfl, hb⟩
          replace hM := hM.below hb
          clear hb
          refine tF 5 [.val 2 (some 95) (.tuple #[wn (mulN (sprN a p) 10000), .bool (mulB (sprN a p) 10000)]), .val 3 (some 98) (wn (mulN (sprN a p) 10000)), .val 4 (some 99) (.bool (mulB (sprN a p) 10000))] trivial ?_
          refine rF (some 21) (pt Y54.heap.size 0) (Y54.alloc (.cells (wnc 0).toArray 24)) ?_
          replace hM := hM.alloc 24 (wnc 0)
          generalize World.alloc _ _ = Y55 at *
          generalize hNe : Y54.heap.size = N55 at *
          clear hNe
          have hst := sto_part (wnc (mulN (sprN a p) 10000)) (hM.at 0 rfl) 0 24 (wn (mulN (sprN a p) 10000)) (wnc (mulN (sprN a p) 10000)) rfl (by kernel_rfl) (Nat.le_of_ble_eq_true rfl) rfl rfl
          refine sF 24 (pt N55 0) (wn (mulN (sprN a p) 10000)) (hst) ?_
          clear hst
          replace hM := hM.set 0 (cs' := wnc (mulN (sprN a p) 10000)) rfl rfl
          generalize World.setRow _ _ _ = Y56 at *
          refine tF 8 [.val 7 (some 22) (.bool (mulB (sprN a p) 10000))] trivial ?_
          refine dF ?_
          try simp only [puts, Tk.put, Act.put, List.setIfInBounds_toArray, List.set_cons_zero, List.set_cons_succ]
          go_upto_region 20 with fail
          refine wp_region_fromM (fun W => Sep w [] [.blk N55 24 (wnc (mulN (sprN a p) 10000)), .blk N22 24 (wnc (addN l a)), .blk N18 24 (wnc (offN a p)), .blk N14 24 (wnc (sprN a p)), .blk N10 24 (wnc (mulN a (clN p))), .blk N4 24 (wnc l), .blk N3 24 (wnc v), .blk N2 24 (wnc a)] W) hM ?_
          clear hM
          rintro Y57 hM
          refine tF 2 [.load 0 (some 101) 24 (pt N10 0) (wn (mulN a (clN p))), .load 1 (some 102) 24 (pt N55 0) (wn (mulN (sprN a p) 10000))] ⟨load_part (hM.at 4 rfl) 0 (wnc (mulN a (clN p))) rfl _ _ Try.underlying24 rfl (by kernel_rfl), load_part (hM.at 0 rfl) 0 (wnc (mulN (sprN a p) 10000)) rfl _ _ Try.underlying24 rfl (by kernel_rfl), trivial⟩ ?_
          refine cF (some 103) 14 #[wn (mulN a (clN p)), wn (mulN (sprN a p) 10000)] ((refSubN_any mulN_lt mulN_lt _).mono ?_)
          rintro e Y58 ⟨rfl, hb⟩
          replace hM := hM.below hb
          clear hb
          refine tF 6 [.val 3 (some 100) (.tuple #[wn ((mulN a (clN p)) - (mulN (sprN a p) 10000)), .bool (lessB (mulN a (clN p)) (mulN (sprN a p) 10000))]), .val 4 (some 104) (wn ((mulN a (clN p)) - (mulN (sprN a p) 10000))), .val 5 (some 105) (.bool (lessB (mulN a (clN p)) (mulN (sprN a p) 10000)))] trivial ?_
          refine rF (some 23) (pt Y58.heap.size 0) (Y58.alloc (.cells (wnc 0).toArray 24)) ?_
          replace hM := hM.alloc 24 (wnc 0)
          generalize World.alloc _ _ = Y59 at *
          generalize hNe : Y58.heap.size = N59 at *
          clear hNe
          have hst := sto_part (wnc ((mulN a (clN p)) - (mulN (sprN a p) 10000))) (hM.at 0 rfl) 0 24 (wn ((mulN a (clN p)) - (mulN (sprN a p) 10000))) (wnc ((mulN a (clN p)) - (mulN (sprN a p) 10000))) rfl (by kernel_rfl) (Nat.le_of_ble_eq_true rfl) rfl rfl
          refine sF 24 (pt N59 0) (wn ((mulN a (clN p)) - (mulN (sprN a p) 10000))) (hst) ?_
          clear hst
          replace hM := hM.set 0 (cs' := wnc ((mulN a (clN p)) - (mulN (sprN a p) 10000))) rfl rfl
          generalize World.setRow _ _ _ = Y60 at *
          refine tF 9 [.val 8 (some 24) (.bool (lessB (mulN a (clN p)) (mulN (sprN a p) 10000)))] trivial ?_
          refine dF ?_
          try simp only [puts, Tk.put, Act.put, List.setIfInBounds_toArray, List.set_cons_zero, List.set_cons_succ]
          go_upto_region 21 with fail
          refine wp_region_fromM (fun W => Sep w [] [.blk N59 24 (wnc ((mulN a (clN p)) - (mulN (sprN a p) 10000))), .blk N55 24 (wnc (mulN (sprN a p) 10000)), .blk N22 24 (wnc (addN l a)), .blk N18 24 (wnc (offN a p)), .blk N14 24 (wnc (sprN a p)), .blk N10 24 (wnc (mulN a (clN p))), .blk N4 24 (wnc l), .blk N3 24 (wnc v), .blk N2 24 (wnc a)] W) hM ?_
          clear hM
          rintro Y61 hM
          refine tF 1 [.val 0 (some 106) (.bool (sprB a p))] trivial ?_
          rw [show (sprB a p) = true from HB.out]
          refine tF 4 [.val 1 (some 107) (.bool false), .val 2 (some 108) (.bool false), .val 3 (some 109) (.bool (lessB (mulN a (clN p)) (mulN (sprN a p) 10000)))] trivial ?_
          rw [show (lessB (mulN a (clN p)) (mulN (sprN a p) 10000)) = true from decide_eq_true (part_ok HB.out).1]
          refine tF 9 [.val 4 (some 110) (.bool false), .val 5 (some 111) (.bool false), .val 6 (some 112) (.bool false), .load 7 (some 113) 24 (pt N59 0) (wn ((mulN a (clN p)) - (mulN (sprN a p) 10000))), .val 8 (some 114) (wn 10000)] ⟨load_part (hM.at 0 rfl) 0 (wnc ((mulN a (clN p)) - (mulN (sprN a p) 10000))) rfl _ _ Try.underlying24 rfl (by kernel_rfl), trivial⟩ ?_
          refine cF (some 115) 12 #[wn ((mulN a (clN p)) - (mulN (sprN a p) 10000)), wn 10000] ((refCmpN_any (sub_lt4 mulN_lt) (word_lt4 (by unfold M; decide)) _).mono ?_)
          rintro e Y62 ⟨rfl, hb⟩
          replace hM := hM.below hb
          clear hb
          refine tF 12 [.alt 10 (some 116) (.bool (decide (0 ≤ (cmpN ((mulN a (clN p)) - (mulN (sprN a p) 10000)) 10000)))) (.bool false), .val 11 (some 117) (.bool false)] ⟨congrArg Value.bool (cmp_nge (part_ok HB.out).2), trivial⟩ ?_
          refine dF ?_
          try simp only [puts, Tk.put, Act.put, List.setIfInBounds_toArray, List.set_cons_zero, List.set_cons_succ]
          go_upto_region 23 with fail
          refine wp_region_fromM (fun W => Sep w [] [.blk N59 24 (wnc ((mulN a (clN p)) - (mulN (sprN a p) 10000))), .blk N55 24 (wnc (mulN (sprN a p) 10000)), .blk N22 24 (wnc (addN l a)), .blk N18 24 (wnc (offN a p)), .blk N14 24 (wnc (sprN a p)), .blk N10 24 (wnc (mulN a (clN p))), .blk N4 24 (wnc l), .blk N3 24 (wnc v), .blk N2 24 (wnc a)] W) hM ?_
          clear hM
          rintro Y63 hM
          refine tF 2 [.load 0 (some 119) 24 (pt N2 0) (wn a), .load 1 (some 120) 24 (pt N14 0) (wn (sprN a p))] ⟨load_part (hM.at 8 rfl) 0 (wnc a) rfl _ _ Try.underlying24 rfl (by kernel_rfl), load_part (hM.at 4 rfl) 0 (wnc (sprN a p)) rfl _ _ Try.underlying24 rfl (by kernel_rfl), trivial⟩ ?_
          refine cF (some 121) 14 #[wn a, wn (sprN a p)] ((refSubN_any ha sprN_lt _).mono ?_)
          rintro e Y64 ⟨rfl, hb⟩
          replace hM := hM.below hb
          clear hb
          refine tF 6 [.val 3 (some 118) (.tuple #[wn (a - (sprN a p)), .bool (lessB a (sprN a p))]), .val 4 (some 122) (wn (a - (sprN a p))), .val 5 (some 123) (.bool (lessB a (sprN a p)))] trivial ?_
          refine rF (some 25) (pt Y64.heap.size 0) (Y64.alloc (.cells (wnc 0).toArray 24)) ?_
          replace hM := hM.alloc 24 (wnc 0)
          generalize World.alloc _ _ = Y65 at *
          generalize hNe : Y64.heap.size = N65 at *
          clear hNe
          have hst := sto_part (wnc (a - (sprN a p))) (hM.at 0 rfl) 0 24 (wn (a - (sprN a p))) (wnc (a - (sprN a p))) rfl (by kernel_rfl) (Nat.le_of_ble_eq_true rfl) rfl rfl
          refine sF 24 (pt N65 0) (wn (a - (sprN a p))) (hst) ?_
          clear hst
          replace hM := hM.set 0 (cs' := wnc (a - (sprN a p))) rfl rfl
          generalize World.setRow _ _ _ = Y66 at *
          refine tF 9 [.val 8 (some 26) (.bool (lessB a (sprN a p)))] trivial ?_
          refine dF ?_
          try simp only [puts, Tk.put, Act.put, List.setIfInBounds_toArray, List.set_cons_zero, List.set_cons_succ]
          go_upto_region 24 with fail
          refine wp_region_fromM (fun W => Sep w [] [.blk N65 24 (wnc (a - (sprN a p))), .blk N59 24 (wnc ((mulN a (clN p)) - (mulN (sprN a p) 10000))), .blk N55 24 (wnc (mulN (sprN a p) 10000)), .blk N22 24 (wnc (addN l a)), .blk N18 24 (wnc (offN a p)), .blk N14 24 (wnc (sprN a p)), .blk N10 24 (wnc (mulN a (clN p))), .blk N4 24 (wnc l), .blk N3 24 (wnc v), .blk N2 24 (wnc a)] W) hM ?_
          clear hM
          rintro Y67 hM
          refine tF 2 [.load 0 (some 124) 24 (pt N18 0) (wn (offN a p)), .load 1 (some 125) 24 (pt N65 0) (wn (a - (sprN a p)))] ⟨load_part (hM.at 4 rfl) 0 (wnc (offN a p)) rfl _ _ Try.underlying24 rfl (by kernel_rfl), load_part (hM.at 0 rfl) 0 (wnc (a - (sprN a p))) rfl _ _ Try.underlying24 rfl (by kernel_rfl), trivial⟩ ?_
          refine eqA (.tmp 124) (.tmp 125) 24 (some 126) (wnc (offN a p)).toArray (wnc (a - (sprN a p))).toArray true (Eq.trans (run_eqN (offN_lt ha) (sub_lt4 ha) _) (congrArg (fun z => Result.ok z _) (decide_eq_true (offN_yes HB.out)))) ?_
          refine tF 7 [.val 3 (some 127) (.bool true), .val 4 (some 128) (.bool (offB a p)), .load 5 (some 129) 24 (pt N65 0) (wn (a - (sprN a p))), .val 6 (some 130) (wn 0)] ⟨load_part (hM.at 0 rfl) 0 (wnc (a - (sprN a p))) rfl _ _ Try.underlying24 rfl (by kernel_rfl), trivial⟩ ?_
          refine neA (.tmp 129) (.tmp 130) 24 (some 131) (wnc (a - (sprN a p))).toArray (wnc 0).toArray (decide (a - (sprN a p) = 0)) (run_eqN (sub_lt4 ha) (word_lt4 (by unfold M; decide)) _) ?_
          refine tF 11 [.alt 8 (some 132) (.bool ((offB a p) == (!(decide (a - (sprN a p) = 0))))) (.bool true), .val 9 (some 133) (.bool true), .val 10 (some 10) (.bool true)] ⟨congrArg Value.bool (by unfold offB; rw [HB.out]; exact beq_self_eq_true _), trivial⟩ ?_
          refine dF ?_
          try simp only [puts, Tk.put, Act.put, List.setIfInBounds_toArray, List.set_cons_zero, List.set_cons_succ]
          go_wp2_with fail
          go_ret
          exact ⟨rfl, hM.b⟩
    | true =>
      have Hhb2 := Lib.hid hb2
      clear hb2
      go_upto_region 12 with fail
      refine wp_region_fromM (fun W => Sep w [] [.blk N22 24 (wnc (addN l a)), .blk N18 24 (wnc (offN a p)), .blk N14 24 (wnc (sprN a p)), .blk N10 24 (wnc (mulN a (clN p))), .blk N4 24 (wnc l), .blk N3 24 (wnc v), .blk N2 24 (wnc a)] W) hM ?_
      clear hM
      rintro Y68 hM
      refine tF 1 [.val 0 (some 20) (.int .i64 30)] trivial ?_
      refine dF ?_
      try simp only [puts, Tk.put, Act.put, List.setIfInBounds_toArray, List.set_cons_zero, List.set_cons_succ]
      go_upto_region 13 with fail
      refine wp_region_fromM (fun W => Sep w [] [.blk N22 24 (wnc (addN l a)), .blk N18 24 (wnc (offN a p)), .blk N14 24 (wnc (sprN a p)), .blk N10 24 (wnc (mulN a (clN p))), .blk N4 24 (wnc l), .blk N3 24 (wnc v), .blk N2 24 (wnc a)] W) hM ?_
      clear hM
      rintro Y69 hM
      refine tF 2 [.val 0 (some 71) (.int .i64 r), .val 1 (some 72) (.bool (r == 3))] trivial ?_
      refine dF ?_
      try simp only [puts, Tk.put, Act.put, List.setIfInBounds_toArray, List.set_cons_zero, List.set_cons_succ]
      cases hb6 : r == 3 with
      | false =>
        have Hhb6 := Lib.hid hb6
        clear hb6
        go_upto_region 15 with fail
        refine wp_region_fromM (fun W => Sep w [] [.blk N22 24 (wnc (addN l a)), .blk N18 24 (wnc (offN a p)), .blk N14 24 (wnc (sprN a p)), .blk N10 24 (wnc (mulN a (clN p))), .blk N4 24 (wnc l), .blk N3 24 (wnc v), .blk N2 24 (wnc a)] W) hM ?_
        clear hM
        rintro Y70 hM
        refine tF 1 [.val 0 (some 73) (.int .i64 r)] trivial ?_
        refine cF (some 74) 13 #[.int .i64 r] ((points_any r _).mono ?_)
        rintro e Y71 ⟨rfl, hb⟩
        replace hM := hM.below hb
        clear hb
        refine tF 4 [.val 2 (some 75) (.int .i64 30), .alt 3 (some 76) (.bool ((ptsI r) != 30)) (.bool false)] ⟨congrArg Value.bool (by rw [show ptsI r = 30 from if_pos (eq_of_beq Hhb2.out)]; decide), trivial⟩ ?_
        refine dF ?_
        try simp only [puts, Tk.put, Act.put, List.setIfInBounds_toArray, List.set_cons_zero, List.set_cons_succ]
        go_upto_region 17 with fail
        refine wp_region_fromM (fun W => Sep w [] [.blk N22 24 (wnc (addN l a)), .blk N18 24 (wnc (offN a p)), .blk N14 24 (wnc (sprN a p)), .blk N10 24 (wnc (mulN a (clN p))), .blk N4 24 (wnc l), .blk N3 24 (wnc v), .blk N2 24 (wnc a)] W) hM ?_
        clear hM
        rintro Y72 hM
        refine tF 1 [.val 0 (some 77) (.bool (mulB a (clN p)))] trivial ?_
        cases hb7 : mulB a (clN p) with
        | false =>
          have Hhb7 := Lib.hid hb7
          clear hb7
          have HB := Lib.hid (show sprB a p = false from Hhb7.out)
          refine tF 2 [.val 1 (some 78) (.bool true)] trivial ?_
          refine dF ?_
          try simp only [puts, Tk.put, Act.put, List.setIfInBounds_toArray, List.set_cons_zero, List.set_cons_succ]
          go_upto_region 18 with fail
          refine wp_region_fromM (fun W => Sep w [] [.blk N22 24 (wnc (addN l a)), .blk N18 24 (wnc (offN a p)), .blk N14 24 (wnc (sprN a p)), .blk N10 24 (wnc (mulN a (clN p))), .blk N4 24 (wnc l), .blk N3 24 (wnc v), .blk N2 24 (wnc a)] W) hM ?_
          clear hM
          rintro Y73 hM
          refine tF 1 [.val 0 (some 79) (.bool (sprB a p))] trivial ?_
          rw [show (sprB a p) = false from HB.out]
          refine tF 4 [.val 1 (some 80) (.bool true), .val 2 (some 81) (.bool true), .val 3 (some 82) (.bool (offB a p))] trivial ?_
          rw [show (offB a p) = false from offB_no HB.out]
          refine tF 9 [.val 4 (some 83) (.bool true), .val 5 (some 84) (.bool true), .val 6 (some 85) (.bool true), .load 7 (some 86) 24 (pt N14 0) (wn (sprN a p)), .val 8 (some 87) (wn 0)] ⟨load_part (hM.at 2 rfl) 0 (wnc (sprN a p)) rfl _ _ Try.underlying24 rfl (by kernel_rfl), trivial⟩ ?_
          refine eqA (.tmp 86) (.tmp 87) 24 (some 88) (wnc (sprN a p)).toArray (wnc 0).toArray true (Eq.trans (run_eqN sprN_lt (word_lt4 (by unfold M; decide)) _) (congrArg (fun z => Result.ok z _) (decide_eq_true (sprN_no HB.out)))) ?_
          refine tF 14 [.val 10 (some 89) (.bool true), .val 11 (some 90) (.bool true), .load 12 (some 91) 24 (pt N18 0) (wn (offN a p)), .val 13 (some 92) (wn 0)] ⟨load_part (hM.at 1 rfl) 0 (wnc (offN a p)) rfl _ _ Try.underlying24 rfl (by kernel_rfl), trivial⟩ ?_
          refine eqA (.tmp 91) (.tmp 92) 24 (some 93) (wnc (offN a p)).toArray (wnc 0).toArray true (Eq.trans (run_eqN (offN_lt ha) (word_lt4 (by unfold M; decide)) _) (congrArg (fun z => Result.ok z _) (decide_eq_true (offN_no HB.out)))) ?_
          refine tF 17 [.val 15 (some 94) (.bool true), .val 16 (some 10) (.bool true)] trivial ?_
          refine dF ?_
          try simp only [puts, Tk.put, Act.put, List.setIfInBounds_toArray, List.set_cons_zero, List.set_cons_succ]
          go_wp2_with fail
          go_ret
          exact ⟨rfl, hM.b⟩
        | true =>
          have Hhb7 := Lib.hid hb7
          clear hb7
          have HB := Lib.hid (show sprB a p = true from Hhb7.out)
          refine tF 2 [.val 1 (some 78) (.bool false)] trivial ?_
          refine dF ?_
          try simp only [puts, Tk.put, Act.put, List.setIfInBounds_toArray, List.set_cons_zero, List.set_cons_succ]
          go_upto_region 19 with fail
          refine wp_region_fromM (fun W => Sep w [] [.blk N22 24 (wnc (addN l a)), .blk N18 24 (wnc (offN a p)), .blk N14 24 (wnc (sprN a p)), .blk N10 24 (wnc (mulN a (clN p))), .blk N4 24 (wnc l), .blk N3 24 (wnc v), .blk N2 24 (wnc a)] W) hM ?_
          clear hM
          rintro Y74 hM
          refine tF 1 [.load 0 (some 96) 24 (pt N14 0) (wn (sprN a p))] ⟨load_part (hM.at 2 rfl) 0 (wnc (sprN a p)) rfl _ _ Try.underlying24 rfl (by kernel_rfl), trivial⟩ ?_
          refine cF (some 97) 7 #[wn (sprN a p), .int .u64 10000] ((refMulN_any (m := 10000) sprN_lt (by unfold M; decide) _).mono ?_)
          rintro e Y75 ⟨rfl, hb⟩
          replace hM := hM.below hb
          clear hb
          refine tF 5 [.val 2 (some 95) (.tuple #[wn (mulN (sprN a p) 10000), .bool (mulB (sprN a p) 10000)]), .val 3 (some 98) (wn (mulN (sprN a p) 10000)), .val 4 (some 99) (.bool (mulB (sprN a p) 10000))] trivial ?_
          refine rF (some 21) (pt Y75.heap.size 0) (Y75.alloc (.cells (wnc 0).toArray 24)) ?_
          replace hM := hM.alloc 24 (wnc 0)
          generalize World.alloc _ _ = Y76 at *
          generalize hNe : Y75.heap.size = N76 at *
          clear hNe
          have hst := sto_part (wnc (mulN (sprN a p) 10000)) (hM.at 0 rfl) 0 24 (wn (mulN (sprN a p) 10000)) (wnc (mulN (sprN a p) 10000)) rfl (by kernel_rfl) (Nat.le_of_ble_eq_true rfl) rfl rfl
          refine sF 24 (pt N76 0) (wn (mulN (sprN a p) 10000)) (hst) ?_
          clear hst
          replace hM := hM.set 0 (cs' := wnc (mulN (sprN a p) 10000)) rfl rfl
          generalize World.setRow _ _ _ = Y77 at *
          refine tF 8 [.val 7 (some 22) (.bool (mulB (sprN a p) 10000))] trivial ?_
          refine dF ?_
          try simp only [puts, Tk.put, Act.put, List.setIfInBounds_toArray, List.set_cons_zero, List.set_cons_succ]
          go_upto_region 20 with fail
          refine wp_region_fromM (fun W => Sep w [] [.blk N76 24 (wnc (mulN (sprN a p) 10000)), .blk N22 24 (wnc (addN l a)), .blk N18 24 (wnc (offN a p)), .blk N14 24 (wnc (sprN a p)), .blk N10 24 (wnc (mulN a (clN p))), .blk N4 24 (wnc l), .blk N3 24 (wnc v), .blk N2 24 (wnc a)] W) hM ?_
          clear hM
          rintro Y78 hM
          refine tF 2 [.load 0 (some 101) 24 (pt N10 0) (wn (mulN a (clN p))), .load 1 (some 102) 24 (pt N76 0) (wn (mulN (sprN a p) 10000))] ⟨load_part (hM.at 4 rfl) 0 (wnc (mulN a (clN p))) rfl _ _ Try.underlying24 rfl (by kernel_rfl), load_part (hM.at 0 rfl) 0 (wnc (mulN (sprN a p) 10000)) rfl _ _ Try.underlying24 rfl (by kernel_rfl), trivial⟩ ?_
          refine cF (some 103) 14 #[wn (mulN a (clN p)), wn (mulN (sprN a p) 10000)] ((refSubN_any mulN_lt mulN_lt _).mono ?_)
          rintro e Y79 ⟨rfl, hb⟩
          replace hM := hM.below hb
          clear hb
          refine tF 6 [.val 3 (some 100) (.tuple #[wn ((mulN a (clN p)) - (mulN (sprN a p) 10000)), .bool (lessB (mulN a (clN p)) (mulN (sprN a p) 10000))]), .val 4 (some 104) (wn ((mulN a (clN p)) - (mulN (sprN a p) 10000))), .val 5 (some 105) (.bool (lessB (mulN a (clN p)) (mulN (sprN a p) 10000)))] trivial ?_
          refine rF (some 23) (pt Y79.heap.size 0) (Y79.alloc (.cells (wnc 0).toArray 24)) ?_
          replace hM := hM.alloc 24 (wnc 0)
          generalize World.alloc _ _ = Y80 at *
          generalize hNe : Y79.heap.size = N80 at *
          clear hNe
          have hst := sto_part (wnc ((mulN a (clN p)) - (mulN (sprN a p) 10000))) (hM.at 0 rfl) 0 24 (wn ((mulN a (clN p)) - (mulN (sprN a p) 10000))) (wnc ((mulN a (clN p)) - (mulN (sprN a p) 10000))) rfl (by kernel_rfl) (Nat.le_of_ble_eq_true rfl) rfl rfl
          refine sF 24 (pt N80 0) (wn ((mulN a (clN p)) - (mulN (sprN a p) 10000))) (hst) ?_
          clear hst
          replace hM := hM.set 0 (cs' := wnc ((mulN a (clN p)) - (mulN (sprN a p) 10000))) rfl rfl
          generalize World.setRow _ _ _ = Y81 at *
          refine tF 9 [.val 8 (some 24) (.bool (lessB (mulN a (clN p)) (mulN (sprN a p) 10000)))] trivial ?_
          refine dF ?_
          try simp only [puts, Tk.put, Act.put, List.setIfInBounds_toArray, List.set_cons_zero, List.set_cons_succ]
          go_upto_region 21 with fail
          refine wp_region_fromM (fun W => Sep w [] [.blk N80 24 (wnc ((mulN a (clN p)) - (mulN (sprN a p) 10000))), .blk N76 24 (wnc (mulN (sprN a p) 10000)), .blk N22 24 (wnc (addN l a)), .blk N18 24 (wnc (offN a p)), .blk N14 24 (wnc (sprN a p)), .blk N10 24 (wnc (mulN a (clN p))), .blk N4 24 (wnc l), .blk N3 24 (wnc v), .blk N2 24 (wnc a)] W) hM ?_
          clear hM
          rintro Y82 hM
          refine tF 1 [.val 0 (some 106) (.bool (sprB a p))] trivial ?_
          rw [show (sprB a p) = true from HB.out]
          refine tF 4 [.val 1 (some 107) (.bool false), .val 2 (some 108) (.bool false), .val 3 (some 109) (.bool (lessB (mulN a (clN p)) (mulN (sprN a p) 10000)))] trivial ?_
          rw [show (lessB (mulN a (clN p)) (mulN (sprN a p) 10000)) = true from decide_eq_true (part_ok HB.out).1]
          refine tF 9 [.val 4 (some 110) (.bool false), .val 5 (some 111) (.bool false), .val 6 (some 112) (.bool false), .load 7 (some 113) 24 (pt N80 0) (wn ((mulN a (clN p)) - (mulN (sprN a p) 10000))), .val 8 (some 114) (wn 10000)] ⟨load_part (hM.at 0 rfl) 0 (wnc ((mulN a (clN p)) - (mulN (sprN a p) 10000))) rfl _ _ Try.underlying24 rfl (by kernel_rfl), trivial⟩ ?_
          refine cF (some 115) 12 #[wn ((mulN a (clN p)) - (mulN (sprN a p) 10000)), wn 10000] ((refCmpN_any (sub_lt4 mulN_lt) (word_lt4 (by unfold M; decide)) _).mono ?_)
          rintro e Y83 ⟨rfl, hb⟩
          replace hM := hM.below hb
          clear hb
          refine tF 12 [.alt 10 (some 116) (.bool (decide (0 ≤ (cmpN ((mulN a (clN p)) - (mulN (sprN a p) 10000)) 10000)))) (.bool false), .val 11 (some 117) (.bool false)] ⟨congrArg Value.bool (cmp_nge (part_ok HB.out).2), trivial⟩ ?_
          refine dF ?_
          try simp only [puts, Tk.put, Act.put, List.setIfInBounds_toArray, List.set_cons_zero, List.set_cons_succ]
          go_upto_region 23 with fail
          refine wp_region_fromM (fun W => Sep w [] [.blk N80 24 (wnc ((mulN a (clN p)) - (mulN (sprN a p) 10000))), .blk N76 24 (wnc (mulN (sprN a p) 10000)), .blk N22 24 (wnc (addN l a)), .blk N18 24 (wnc (offN a p)), .blk N14 24 (wnc (sprN a p)), .blk N10 24 (wnc (mulN a (clN p))), .blk N4 24 (wnc l), .blk N3 24 (wnc v), .blk N2 24 (wnc a)] W) hM ?_
          clear hM
          rintro Y84 hM
          refine tF 2 [.load 0 (some 119) 24 (pt N2 0) (wn a), .load 1 (some 120) 24 (pt N14 0) (wn (sprN a p))] ⟨load_part (hM.at 8 rfl) 0 (wnc a) rfl _ _ Try.underlying24 rfl (by kernel_rfl), load_part (hM.at 4 rfl) 0 (wnc (sprN a p)) rfl _ _ Try.underlying24 rfl (by kernel_rfl), trivial⟩ ?_
          refine cF (some 121) 14 #[wn a, wn (sprN a p)] ((refSubN_any ha sprN_lt _).mono ?_)
          rintro e Y85 ⟨rfl, hb⟩
          replace hM := hM.below hb
          clear hb
          refine tF 6 [.val 3 (some 118) (.tuple #[wn (a - (sprN a p)), .bool (lessB a (sprN a p))]), .val 4 (some 122) (wn (a - (sprN a p))), .val 5 (some 123) (.bool (lessB a (sprN a p)))] trivial ?_
          refine rF (some 25) (pt Y85.heap.size 0) (Y85.alloc (.cells (wnc 0).toArray 24)) ?_
          replace hM := hM.alloc 24 (wnc 0)
          generalize World.alloc _ _ = Y86 at *
          generalize hNe : Y85.heap.size = N86 at *
          clear hNe
          have hst := sto_part (wnc (a - (sprN a p))) (hM.at 0 rfl) 0 24 (wn (a - (sprN a p))) (wnc (a - (sprN a p))) rfl (by kernel_rfl) (Nat.le_of_ble_eq_true rfl) rfl rfl
          refine sF 24 (pt N86 0) (wn (a - (sprN a p))) (hst) ?_
          clear hst
          replace hM := hM.set 0 (cs' := wnc (a - (sprN a p))) rfl rfl
          generalize World.setRow _ _ _ = Y87 at *
          refine tF 9 [.val 8 (some 26) (.bool (lessB a (sprN a p)))] trivial ?_
          refine dF ?_
          try simp only [puts, Tk.put, Act.put, List.setIfInBounds_toArray, List.set_cons_zero, List.set_cons_succ]
          go_upto_region 24 with fail
          refine wp_region_fromM (fun W => Sep w [] [.blk N86 24 (wnc (a - (sprN a p))), .blk N80 24 (wnc ((mulN a (clN p)) - (mulN (sprN a p) 10000))), .blk N76 24 (wnc (mulN (sprN a p) 10000)), .blk N22 24 (wnc (addN l a)), .blk N18 24 (wnc (offN a p)), .blk N14 24 (wnc (sprN a p)), .blk N10 24 (wnc (mulN a (clN p))), .blk N4 24 (wnc l), .blk N3 24 (wnc v), .blk N2 24 (wnc a)] W) hM ?_
          clear hM
          rintro Y88 hM
          refine tF 2 [.load 0 (some 124) 24 (pt N18 0) (wn (offN a p)), .load 1 (some 125) 24 (pt N86 0) (wn (a - (sprN a p)))] ⟨load_part (hM.at 4 rfl) 0 (wnc (offN a p)) rfl _ _ Try.underlying24 rfl (by kernel_rfl), load_part (hM.at 0 rfl) 0 (wnc (a - (sprN a p))) rfl _ _ Try.underlying24 rfl (by kernel_rfl), trivial⟩ ?_
          refine eqA (.tmp 124) (.tmp 125) 24 (some 126) (wnc (offN a p)).toArray (wnc (a - (sprN a p))).toArray true (Eq.trans (run_eqN (offN_lt ha) (sub_lt4 ha) _) (congrArg (fun z => Result.ok z _) (decide_eq_true (offN_yes HB.out)))) ?_
          refine tF 7 [.val 3 (some 127) (.bool true), .val 4 (some 128) (.bool (offB a p)), .load 5 (some 129) 24 (pt N86 0) (wn (a - (sprN a p))), .val 6 (some 130) (wn 0)] ⟨load_part (hM.at 0 rfl) 0 (wnc (a - (sprN a p))) rfl _ _ Try.underlying24 rfl (by kernel_rfl), trivial⟩ ?_
          refine neA (.tmp 129) (.tmp 130) 24 (some 131) (wnc (a - (sprN a p))).toArray (wnc 0).toArray (decide (a - (sprN a p) = 0)) (run_eqN (sub_lt4 ha) (word_lt4 (by unfold M; decide)) _) ?_
          refine tF 11 [.alt 8 (some 132) (.bool ((offB a p) == (!(decide (a - (sprN a p) = 0))))) (.bool true), .val 9 (some 133) (.bool true), .val 10 (some 10) (.bool true)] ⟨congrArg Value.bool (by unfold offB; rw [HB.out]; exact beq_self_eq_true _), trivial⟩ ?_
          refine dF ?_
          try simp only [puts, Tk.put, Act.put, List.setIfInBounds_toArray, List.set_cons_zero, List.set_cons_succ]
          go_wp2_with fail
          go_ret
          exact ⟨rfl, hM.b⟩
      | true =>
        have Hhb6 := Lib.hid hb6
        clear hb6
        go_upto_region 14 with fail
        refine wp_region_fromM (fun W => Sep w [] [.blk N22 24 (wnc (addN l a)), .blk N18 24 (wnc (offN a p)), .blk N14 24 (wnc (sprN a p)), .blk N10 24 (wnc (mulN a (clN p))), .blk N4 24 (wnc l), .blk N3 24 (wnc v), .blk N2 24 (wnc a)] W) hM ?_
        clear hM
        rintro Y89 hM
        refine tF 1 [.val 0 (some 20) (.int .i64 45)] trivial ?_
        refine dF ?_
        try simp only [puts, Tk.put, Act.put, List.setIfInBounds_toArray, List.set_cons_zero, List.set_cons_succ]
        go_upto_region 15 with fail
        refine wp_region_fromM (fun W => Sep w [] [.blk N22 24 (wnc (addN l a)), .blk N18 24 (wnc (offN a p)), .blk N14 24 (wnc (sprN a p)), .blk N10 24 (wnc (mulN a (clN p))), .blk N4 24 (wnc l), .blk N3 24 (wnc v), .blk N2 24 (wnc a)] W) hM ?_
        clear hM
        rintro Y90 hM
        refine tF 1 [.val 0 (some 73) (.int .i64 r)] trivial ?_
        refine cF (some 74) 13 #[.int .i64 r] ((points_any r _).mono ?_)
        rintro e Y91 ⟨rfl, hb⟩
        replace hM := hM.below hb
        clear hb
        refine tF 4 [.val 2 (some 75) (.int .i64 45), .alt 3 (some 76) (.bool ((ptsI r) != 45)) (.bool false)] ⟨congrArg Value.bool (absurd (Hhb2.out) (by rw [eq_of_beq Hhb6.out]; decide)), trivial⟩ ?_
        refine dF ?_
        try simp only [puts, Tk.put, Act.put, List.setIfInBounds_toArray, List.set_cons_zero, List.set_cons_succ]
        go_upto_region 17 with fail
        refine wp_region_fromM (fun W => Sep w [] [.blk N22 24 (wnc (addN l a)), .blk N18 24 (wnc (offN a p)), .blk N14 24 (wnc (sprN a p)), .blk N10 24 (wnc (mulN a (clN p))), .blk N4 24 (wnc l), .blk N3 24 (wnc v), .blk N2 24 (wnc a)] W) hM ?_
        clear hM
        rintro Y92 hM
        refine tF 1 [.val 0 (some 77) (.bool (mulB a (clN p)))] trivial ?_
        cases hb8 : mulB a (clN p) with
        | false =>
          have Hhb8 := Lib.hid hb8
          clear hb8
          have HB := Lib.hid (show sprB a p = false from Hhb8.out)
          refine tF 2 [.val 1 (some 78) (.bool true)] trivial ?_
          refine dF ?_
          try simp only [puts, Tk.put, Act.put, List.setIfInBounds_toArray, List.set_cons_zero, List.set_cons_succ]
          go_upto_region 18 with fail
          refine wp_region_fromM (fun W => Sep w [] [.blk N22 24 (wnc (addN l a)), .blk N18 24 (wnc (offN a p)), .blk N14 24 (wnc (sprN a p)), .blk N10 24 (wnc (mulN a (clN p))), .blk N4 24 (wnc l), .blk N3 24 (wnc v), .blk N2 24 (wnc a)] W) hM ?_
          clear hM
          rintro Y93 hM
          refine tF 1 [.val 0 (some 79) (.bool (sprB a p))] trivial ?_
          rw [show (sprB a p) = false from HB.out]
          refine tF 4 [.val 1 (some 80) (.bool true), .val 2 (some 81) (.bool true), .val 3 (some 82) (.bool (offB a p))] trivial ?_
          rw [show (offB a p) = false from offB_no HB.out]
          refine tF 9 [.val 4 (some 83) (.bool true), .val 5 (some 84) (.bool true), .val 6 (some 85) (.bool true), .load 7 (some 86) 24 (pt N14 0) (wn (sprN a p)), .val 8 (some 87) (wn 0)] ⟨load_part (hM.at 2 rfl) 0 (wnc (sprN a p)) rfl _ _ Try.underlying24 rfl (by kernel_rfl), trivial⟩ ?_
          refine eqA (.tmp 86) (.tmp 87) 24 (some 88) (wnc (sprN a p)).toArray (wnc 0).toArray true (Eq.trans (run_eqN sprN_lt (word_lt4 (by unfold M; decide)) _) (congrArg (fun z => Result.ok z _) (decide_eq_true (sprN_no HB.out)))) ?_
          refine tF 14 [.val 10 (some 89) (.bool true), .val 11 (some 90) (.bool true), .load 12 (some 91) 24 (pt N18 0) (wn (offN a p)), .val 13 (some 92) (wn 0)] ⟨load_part (hM.at 1 rfl) 0 (wnc (offN a p)) rfl _ _ Try.underlying24 rfl (by kernel_rfl), trivial⟩ ?_
          refine eqA (.tmp 91) (.tmp 92) 24 (some 93) (wnc (offN a p)).toArray (wnc 0).toArray true (Eq.trans (run_eqN (offN_lt ha) (word_lt4 (by unfold M; decide)) _) (congrArg (fun z => Result.ok z _) (decide_eq_true (offN_no HB.out)))) ?_
          refine tF 17 [.val 15 (some 94) (.bool true), .val 16 (some 10) (.bool true)] trivial ?_
          refine dF ?_
          try simp only [puts, Tk.put, Act.put, List.setIfInBounds_toArray, List.set_cons_zero, List.set_cons_succ]
          go_wp2_with fail
          go_ret
          exact ⟨rfl, hM.b⟩
        | true =>
          have Hhb8 := Lib.hid hb8
          clear hb8
          have HB := Lib.hid (show sprB a p = true from Hhb8.out)
          refine tF 2 [.val 1 (some 78) (.bool false)] trivial ?_
          refine dF ?_
          try simp only [puts, Tk.put, Act.put, List.setIfInBounds_toArray, List.set_cons_zero, List.set_cons_succ]
          go_upto_region 19 with fail
          refine wp_region_fromM (fun W => Sep w [] [.blk N22 24 (wnc (addN l a)), .blk N18 24 (wnc (offN a p)), .blk N14 24 (wnc (sprN a p)), .blk N10 24 (wnc (mulN a (clN p))), .blk N4 24 (wnc l), .blk N3 24 (wnc v), .blk N2 24 (wnc a)] W) hM ?_
          clear hM
          rintro Y94 hM
          refine tF 1 [.load 0 (some 96) 24 (pt N14 0) (wn (sprN a p))] ⟨load_part (hM.at 2 rfl) 0 (wnc (sprN a p)) rfl _ _ Try.underlying24 rfl (by kernel_rfl), trivial⟩ ?_
          refine cF (some 97) 7 #[wn (sprN a p), .int .u64 10000] ((refMulN_any (m := 10000) sprN_lt (by unfold M; decide) _).mono ?_)
          rintro e Y95 ⟨rfl, hb⟩
          replace hM := hM.below hb
          clear hb
          refine tF 5 [.val 2 (some 95) (.tuple #[wn (mulN (sprN a p) 10000), .bool (mulB (sprN a p) 10000)]), .val 3 (some 98) (wn (mulN (sprN a p) 10000)), .val 4 (some 99) (.bool (mulB (sprN a p) 10000))] trivial ?_
          refine rF (some 21) (pt Y95.heap.size 0) (Y95.alloc (.cells (wnc 0).toArray 24)) ?_
          replace hM := hM.alloc 24 (wnc 0)
          generalize World.alloc _ _ = Y96 at *
          generalize hNe : Y95.heap.size = N96 at *
          clear hNe
          have hst := sto_part (wnc (mulN (sprN a p) 10000)) (hM.at 0 rfl) 0 24 (wn (mulN (sprN a p) 10000)) (wnc (mulN (sprN a p) 10000)) rfl (by kernel_rfl) (Nat.le_of_ble_eq_true rfl) rfl rfl
          refine sF 24 (pt N96 0) (wn (mulN (sprN a p) 10000)) (hst) ?_
          clear hst
          replace hM := hM.set 0 (cs' := wnc (mulN (sprN a p) 10000)) rfl rfl
          generalize World.setRow _ _ _ = Y97 at *
          refine tF 8 [.val 7 (some 22) (.bool (mulB (sprN a p) 10000))] trivial ?_
          refine dF ?_
          try simp only [puts, Tk.put, Act.put, List.setIfInBounds_toArray, List.set_cons_zero, List.set_cons_succ]
          go_upto_region 20 with fail
          refine wp_region_fromM (fun W => Sep w [] [.blk N96 24 (wnc (mulN (sprN a p) 10000)), .blk N22 24 (wnc (addN l a)), .blk N18 24 (wnc (offN a p)), .blk N14 24 (wnc (sprN a p)), .blk N10 24 (wnc (mulN a (clN p))), .blk N4 24 (wnc l), .blk N3 24 (wnc v), .blk N2 24 (wnc a)] W) hM ?_
          clear hM
          rintro Y98 hM
          refine tF 2 [.load 0 (some 101) 24 (pt N10 0) (wn (mulN a (clN p))), .load 1 (some 102) 24 (pt N96 0) (wn (mulN (sprN a p) 10000))] ⟨load_part (hM.at 4 rfl) 0 (wnc (mulN a (clN p))) rfl _ _ Try.underlying24 rfl (by kernel_rfl), load_part (hM.at 0 rfl) 0 (wnc (mulN (sprN a p) 10000)) rfl _ _ Try.underlying24 rfl (by kernel_rfl), trivial⟩ ?_
          refine cF (some 103) 14 #[wn (mulN a (clN p)), wn (mulN (sprN a p) 10000)] ((refSubN_any mulN_lt mulN_lt _).mono ?_)
          rintro e Y99 ⟨rfl, hb⟩
          replace hM := hM.below hb
          clear hb
          refine tF 6 [.val 3 (some 100) (.tuple #[wn ((mulN a (clN p)) - (mulN (sprN a p) 10000)), .bool (lessB (mulN a (clN p)) (mulN (sprN a p) 10000))]), .val 4 (some 104) (wn ((mulN a (clN p)) - (mulN (sprN a p) 10000))), .val 5 (some 105) (.bool (lessB (mulN a (clN p)) (mulN (sprN a p) 10000)))] trivial ?_
          refine rF (some 23) (pt Y99.heap.size 0) (Y99.alloc (.cells (wnc 0).toArray 24)) ?_
          replace hM := hM.alloc 24 (wnc 0)
          generalize World.alloc _ _ = Y100 at *
          generalize hNe : Y99.heap.size = N100 at *
          clear hNe
          have hst := sto_part (wnc ((mulN a (clN p)) - (mulN (sprN a p) 10000))) (hM.at 0 rfl) 0 24 (wn ((mulN a (clN p)) - (mulN (sprN a p) 10000))) (wnc ((mulN a (clN p)) - (mulN (sprN a p) 10000))) rfl (by kernel_rfl) (Nat.le_of_ble_eq_true rfl) rfl rfl
          refine sF 24 (pt N100 0) (wn ((mulN a (clN p)) - (mulN (sprN a p) 10000))) (hst) ?_
          clear hst
          replace hM := hM.set 0 (cs' := wnc ((mulN a (clN p)) - (mulN (sprN a p) 10000))) rfl rfl
          generalize World.setRow _ _ _ = Y101 at *
          refine tF 9 [.val 8 (some 24) (.bool (lessB (mulN a (clN p)) (mulN (sprN a p) 10000)))] trivial ?_
          refine dF ?_
          try simp only [puts, Tk.put, Act.put, List.setIfInBounds_toArray, List.set_cons_zero, List.set_cons_succ]
          go_upto_region 21 with fail
          refine wp_region_fromM (fun W => Sep w [] [.blk N100 24 (wnc ((mulN a (clN p)) - (mulN (sprN a p) 10000))), .blk N96 24 (wnc (mulN (sprN a p) 10000)), .blk N22 24 (wnc (addN l a)), .blk N18 24 (wnc (offN a p)), .blk N14 24 (wnc (sprN a p)), .blk N10 24 (wnc (mulN a (clN p))), .blk N4 24 (wnc l), .blk N3 24 (wnc v), .blk N2 24 (wnc a)] W) hM ?_
          clear hM
          rintro Y102 hM
          refine tF 1 [.val 0 (some 106) (.bool (sprB a p))] trivial ?_
          rw [show (sprB a p) = true from HB.out]
          refine tF 4 [.val 1 (some 107) (.bool false), .val 2 (some 108) (.bool false), .val 3 (some 109) (.bool (lessB (mulN a (clN p)) (mulN (sprN a p) 10000)))] trivial ?_
          rw [show (lessB (mulN a (clN p)) (mulN (sprN a p) 10000)) = true from decide_eq_true (part_ok HB.out).1]
          refine tF 9 [.val 4 (some 110) (.bool false), .val 5 (some 111) (.bool false), .val 6 (some 112) (.bool false), .load 7 (some 113) 24 (pt N100 0) (wn ((mulN a (clN p)) - (mulN (sprN a p) 10000))), .val 8 (some 114) (wn 10000)] ⟨load_part (hM.at 0 rfl) 0 (wnc ((mulN a (clN p)) - (mulN (sprN a p) 10000))) rfl _ _ Try.underlying24 rfl (by kernel_rfl), trivial⟩ ?_
          refine cF (some 115) 12 #[wn ((mulN a (clN p)) - (mulN (sprN a p) 10000)), wn 10000] ((refCmpN_any (sub_lt4 mulN_lt) (word_lt4 (by unfold M; decide)) _).mono ?_)
          rintro e Y103 ⟨rfl, hb⟩
          replace hM := hM.below hb
          clear hb
          refine tF 12 [.alt 10 (some 116) (.bool (decide (0 ≤ (cmpN ((mulN a (clN p)) - (mulN (sprN a p) 10000)) 10000)))) (.bool false), .val 11 (some 117) (.bool false)] ⟨congrArg Value.bool (cmp_nge (part_ok HB.out).2), trivial⟩ ?_
          refine dF ?_
          try simp only [puts, Tk.put, Act.put, List.setIfInBounds_toArray, List.set_cons_zero, List.set_cons_succ]
          go_upto_region 23 with fail
          refine wp_region_fromM (fun W => Sep w [] [.blk N100 24 (wnc ((mulN a (clN p)) - (mulN (sprN a p) 10000))), .blk N96 24 (wnc (mulN (sprN a p) 10000)), .blk N22 24 (wnc (addN l a)), .blk N18 24 (wnc (offN a p)), .blk N14 24 (wnc (sprN a p)), .blk N10 24 (wnc (mulN a (clN p))), .blk N4 24 (wnc l), .blk N3 24 (wnc v), .blk N2 24 (wnc a)] W) hM ?_
          clear hM
          rintro Y104 hM
          refine tF 2 [.load 0 (some 119) 24 (pt N2 0) (wn a), .load 1 (some 120) 24 (pt N14 0) (wn (sprN a p))] ⟨load_part (hM.at 8 rfl) 0 (wnc a) rfl _ _ Try.underlying24 rfl (by kernel_rfl), load_part (hM.at 4 rfl) 0 (wnc (sprN a p)) rfl _ _ Try.underlying24 rfl (by kernel_rfl), trivial⟩ ?_
          refine cF (some 121) 14 #[wn a, wn (sprN a p)] ((refSubN_any ha sprN_lt _).mono ?_)
          rintro e Y105 ⟨rfl, hb⟩
          replace hM := hM.below hb
          clear hb
          refine tF 6 [.val 3 (some 118) (.tuple #[wn (a - (sprN a p)), .bool (lessB a (sprN a p))]), .val 4 (some 122) (wn (a - (sprN a p))), .val 5 (some 123) (.bool (lessB a (sprN a p)))] trivial ?_
          refine rF (some 25) (pt Y105.heap.size 0) (Y105.alloc (.cells (wnc 0).toArray 24)) ?_
          replace hM := hM.alloc 24 (wnc 0)
          generalize World.alloc _ _ = Y106 at *
          generalize hNe : Y105.heap.size = N106 at *
          clear hNe
          have hst := sto_part (wnc (a - (sprN a p))) (hM.at 0 rfl) 0 24 (wn (a - (sprN a p))) (wnc (a - (sprN a p))) rfl (by kernel_rfl) (Nat.le_of_ble_eq_true rfl) rfl rfl
          refine sF 24 (pt N106 0) (wn (a - (sprN a p))) (hst) ?_
          clear hst
          replace hM := hM.set 0 (cs' := wnc (a - (sprN a p))) rfl rfl
          generalize World.setRow _ _ _ = Y107 at *
          refine tF 9 [.val 8 (some 26) (.bool (lessB a (sprN a p)))] trivial ?_
          refine dF ?_
          try simp only [puts, Tk.put, Act.put, List.setIfInBounds_toArray, List.set_cons_zero, List.set_cons_succ]
          go_upto_region 24 with fail
          refine wp_region_fromM (fun W => Sep w [] [.blk N106 24 (wnc (a - (sprN a p))), .blk N100 24 (wnc ((mulN a (clN p)) - (mulN (sprN a p) 10000))), .blk N96 24 (wnc (mulN (sprN a p) 10000)), .blk N22 24 (wnc (addN l a)), .blk N18 24 (wnc (offN a p)), .blk N14 24 (wnc (sprN a p)), .blk N10 24 (wnc (mulN a (clN p))), .blk N4 24 (wnc l), .blk N3 24 (wnc v), .blk N2 24 (wnc a)] W) hM ?_
          clear hM
          rintro Y108 hM
          refine tF 2 [.load 0 (some 124) 24 (pt N18 0) (wn (offN a p)), .load 1 (some 125) 24 (pt N106 0) (wn (a - (sprN a p)))] ⟨load_part (hM.at 4 rfl) 0 (wnc (offN a p)) rfl _ _ Try.underlying24 rfl (by kernel_rfl), load_part (hM.at 0 rfl) 0 (wnc (a - (sprN a p))) rfl _ _ Try.underlying24 rfl (by kernel_rfl), trivial⟩ ?_
          refine eqA (.tmp 124) (.tmp 125) 24 (some 126) (wnc (offN a p)).toArray (wnc (a - (sprN a p))).toArray true (Eq.trans (run_eqN (offN_lt ha) (sub_lt4 ha) _) (congrArg (fun z => Result.ok z _) (decide_eq_true (offN_yes HB.out)))) ?_
          refine tF 7 [.val 3 (some 127) (.bool true), .val 4 (some 128) (.bool (offB a p)), .load 5 (some 129) 24 (pt N106 0) (wn (a - (sprN a p))), .val 6 (some 130) (wn 0)] ⟨load_part (hM.at 0 rfl) 0 (wnc (a - (sprN a p))) rfl _ _ Try.underlying24 rfl (by kernel_rfl), trivial⟩ ?_
          refine neA (.tmp 129) (.tmp 130) 24 (some 131) (wnc (a - (sprN a p))).toArray (wnc 0).toArray (decide (a - (sprN a p) = 0)) (run_eqN (sub_lt4 ha) (word_lt4 (by unfold M; decide)) _) ?_
          refine tF 11 [.alt 8 (some 132) (.bool ((offB a p) == (!(decide (a - (sprN a p) = 0))))) (.bool true), .val 9 (some 133) (.bool true), .val 10 (some 10) (.bool true)] ⟨congrArg Value.bool (by unfold offB; rw [HB.out]; exact beq_self_eq_true _), trivial⟩ ?_
          refine dF ?_
          try simp only [puts, Tk.put, Act.put, List.setIfInBounds_toArray, List.set_cons_zero, List.set_cons_succ]
          go_wp2_with fail
          go_ret
          exact ⟨rfl, hM.b⟩
  | true =>
    have Hhb1 := Lib.hid hb1
    clear hb1
    refine tF 8 [.load 6 (some 63) 24 (pt N22 0) (wn (addN l a)), .load 7 (some 64) 24 (pt N3 0) (wn v)] ⟨load_part (hM.at 0 rfl) 0 (wnc (addN l a)) rfl _ _ Try.underlying24 rfl (by kernel_rfl), load_part (hM.at 5 rfl) 0 (wnc v) rfl _ _ Try.underlying24 rfl (by kernel_rfl), trivial⟩ ?_
    refine cF (some 65) 12 #[wn (addN l a), wn v] ((refCmpN_any addN_lt hv _).mono ?_)
    rintro e Y109 ⟨rfl, hb⟩
    replace hM := hM.below hb
    clear hb
    refine tF 12 [.val 9 (some 66) (.bool (decide ((cmpN (addN l a) v) ≤ 0))), .val 10 (some 67) (.bool (decide ((cmpN (addN l a) v) ≤ 0))), .alt 11 (some 68) (.bool ((covB v l a) != (decide ((cmpN (addN l a) v) ≤ 0)))) (.bool false)] ⟨congrArg Value.bool (by unfold covB; rw [Hhb1.out]; exact bne_self_b _), trivial⟩ ?_
    refine dF ?_
    try simp only [puts, Tk.put, Act.put, List.setIfInBounds_toArray, List.set_cons_zero, List.set_cons_succ]
    go_upto_region 10 with fail
    refine wp_region_fromM (fun W => Sep w [] [.blk N22 24 (wnc (addN l a)), .blk N18 24 (wnc (offN a p)), .blk N14 24 (wnc (sprN a p)), .blk N10 24 (wnc (mulN a (clN p))), .blk N4 24 (wnc l), .blk N3 24 (wnc v), .blk N2 24 (wnc a)] W) hM ?_
    clear hM
    rintro Y110 hM
    refine tF 1 [.val 0 (some 20) (.int .i64 100)] trivial ?_
    refine dF ?_
    try simp only [puts, Tk.put, Act.put, List.setIfInBounds_toArray, List.set_cons_zero, List.set_cons_succ]
    go_upto_region 11 with fail
    refine wp_region_fromM (fun W => Sep w [] [.blk N22 24 (wnc (addN l a)), .blk N18 24 (wnc (offN a p)), .blk N14 24 (wnc (sprN a p)), .blk N10 24 (wnc (mulN a (clN p))), .blk N4 24 (wnc l), .blk N3 24 (wnc v), .blk N2 24 (wnc a)] W) hM ?_
    clear hM
    rintro Y111 hM
    refine tF 2 [.val 0 (some 69) (.int .i64 r), .val 1 (some 70) (.bool (r == 2))] trivial ?_
    refine dF ?_
    try simp only [puts, Tk.put, Act.put, List.setIfInBounds_toArray, List.set_cons_zero, List.set_cons_succ]
    cases hb9 : r == 2 with
    | false =>
      have Hhb9 := Lib.hid hb9
      clear hb9
      go_upto_region 13 with fail
      refine wp_region_fromM (fun W => Sep w [] [.blk N22 24 (wnc (addN l a)), .blk N18 24 (wnc (offN a p)), .blk N14 24 (wnc (sprN a p)), .blk N10 24 (wnc (mulN a (clN p))), .blk N4 24 (wnc l), .blk N3 24 (wnc v), .blk N2 24 (wnc a)] W) hM ?_
      clear hM
      rintro Y112 hM
      refine tF 2 [.val 0 (some 71) (.int .i64 r), .val 1 (some 72) (.bool (r == 3))] trivial ?_
      refine dF ?_
      try simp only [puts, Tk.put, Act.put, List.setIfInBounds_toArray, List.set_cons_zero, List.set_cons_succ]
      cases hb10 : r == 3 with
      | false =>
        have Hhb10 := Lib.hid hb10
        clear hb10
        go_upto_region 15 with fail
        refine wp_region_fromM (fun W => Sep w [] [.blk N22 24 (wnc (addN l a)), .blk N18 24 (wnc (offN a p)), .blk N14 24 (wnc (sprN a p)), .blk N10 24 (wnc (mulN a (clN p))), .blk N4 24 (wnc l), .blk N3 24 (wnc v), .blk N2 24 (wnc a)] W) hM ?_
        clear hM
        rintro Y113 hM
        refine tF 1 [.val 0 (some 73) (.int .i64 r)] trivial ?_
        refine cF (some 74) 13 #[.int .i64 r] ((points_any r _).mono ?_)
        rintro e Y114 ⟨rfl, hb⟩
        replace hM := hM.below hb
        clear hb
        refine tF 4 [.val 2 (some 75) (.int .i64 100), .alt 3 (some 76) (.bool ((ptsI r) != 100)) (.bool false)] ⟨congrArg Value.bool (by rw [show ptsI r = 100 from (if_neg (ne_of_beq_false Hhb9.out)).trans (if_neg (ne_of_beq_false Hhb10.out))]; decide), trivial⟩ ?_
        refine dF ?_
        try simp only [puts, Tk.put, Act.put, List.setIfInBounds_toArray, List.set_cons_zero, List.set_cons_succ]
        go_upto_region 17 with fail
        refine wp_region_fromM (fun W => Sep w [] [.blk N22 24 (wnc (addN l a)), .blk N18 24 (wnc (offN a p)), .blk N14 24 (wnc (sprN a p)), .blk N10 24 (wnc (mulN a (clN p))), .blk N4 24 (wnc l), .blk N3 24 (wnc v), .blk N2 24 (wnc a)] W) hM ?_
        clear hM
        rintro Y115 hM
        refine tF 1 [.val 0 (some 77) (.bool (mulB a (clN p)))] trivial ?_
        cases hb11 : mulB a (clN p) with
        | false =>
          have Hhb11 := Lib.hid hb11
          clear hb11
          have HB := Lib.hid (show sprB a p = false from Hhb11.out)
          refine tF 2 [.val 1 (some 78) (.bool true)] trivial ?_
          refine dF ?_
          try simp only [puts, Tk.put, Act.put, List.setIfInBounds_toArray, List.set_cons_zero, List.set_cons_succ]
          go_upto_region 18 with fail
          refine wp_region_fromM (fun W => Sep w [] [.blk N22 24 (wnc (addN l a)), .blk N18 24 (wnc (offN a p)), .blk N14 24 (wnc (sprN a p)), .blk N10 24 (wnc (mulN a (clN p))), .blk N4 24 (wnc l), .blk N3 24 (wnc v), .blk N2 24 (wnc a)] W) hM ?_
          clear hM
          rintro Y116 hM
          refine tF 1 [.val 0 (some 79) (.bool (sprB a p))] trivial ?_
          rw [show (sprB a p) = false from HB.out]
          refine tF 4 [.val 1 (some 80) (.bool true), .val 2 (some 81) (.bool true), .val 3 (some 82) (.bool (offB a p))] trivial ?_
          rw [show (offB a p) = false from offB_no HB.out]
          refine tF 9 [.val 4 (some 83) (.bool true), .val 5 (some 84) (.bool true), .val 6 (some 85) (.bool true), .load 7 (some 86) 24 (pt N14 0) (wn (sprN a p)), .val 8 (some 87) (wn 0)] ⟨load_part (hM.at 2 rfl) 0 (wnc (sprN a p)) rfl _ _ Try.underlying24 rfl (by kernel_rfl), trivial⟩ ?_
          refine eqA (.tmp 86) (.tmp 87) 24 (some 88) (wnc (sprN a p)).toArray (wnc 0).toArray true (Eq.trans (run_eqN sprN_lt (word_lt4 (by unfold M; decide)) _) (congrArg (fun z => Result.ok z _) (decide_eq_true (sprN_no HB.out)))) ?_
          refine tF 14 [.val 10 (some 89) (.bool true), .val 11 (some 90) (.bool true), .load 12 (some 91) 24 (pt N18 0) (wn (offN a p)), .val 13 (some 92) (wn 0)] ⟨load_part (hM.at 1 rfl) 0 (wnc (offN a p)) rfl _ _ Try.underlying24 rfl (by kernel_rfl), trivial⟩ ?_
          refine eqA (.tmp 91) (.tmp 92) 24 (some 93) (wnc (offN a p)).toArray (wnc 0).toArray true (Eq.trans (run_eqN (offN_lt ha) (word_lt4 (by unfold M; decide)) _) (congrArg (fun z => Result.ok z _) (decide_eq_true (offN_no HB.out)))) ?_
          refine tF 17 [.val 15 (some 94) (.bool true), .val 16 (some 10) (.bool true)] trivial ?_
          refine dF ?_
          try simp only [puts, Tk.put, Act.put, List.setIfInBounds_toArray, List.set_cons_zero, List.set_cons_succ]
          go_wp2_with fail
          go_ret
          exact ⟨rfl, hM.b⟩
        | true =>
          have Hhb11 := Lib.hid hb11
          clear hb11
          have HB := Lib.hid (show sprB a p = true from Hhb11.out)
          refine tF 2 [.val 1 (some 78) (.bool false)] trivial ?_
          refine dF ?_
          try simp only [puts, Tk.put, Act.put, List.setIfInBounds_toArray, List.set_cons_zero, List.set_cons_succ]
          go_upto_region 19 with fail
          refine wp_region_fromM (fun W => Sep w [] [.blk N22 24 (wnc (addN l a)), .blk N18 24 (wnc (offN a p)), .blk N14 24 (wnc (sprN a p)), .blk N10 24 (wnc (mulN a (clN p))), .blk N4 24 (wnc l), .blk N3 24 (wnc v), .blk N2 24 (wnc a)] W) hM ?_
          clear hM
          rintro Y117 hM
          refine tF 1 [.load 0 (some 96) 24 (pt N14 0) (wn (sprN a p))] ⟨load_part (hM.at 2 rfl) 0 (wnc (sprN a p)) rfl _ _ Try.underlying24 rfl (by kernel_rfl), trivial⟩ ?_
          refine cF (some 97) 7 #[wn (sprN a p), .int .u64 10000] ((refMulN_any (m := 10000) sprN_lt (by unfold M; decide) _).mono ?_)
          rintro e Y118 ⟨rfl, hb⟩
          replace hM := hM.below hb
          clear hb
          refine tF 5 [.val 2 (some 95) (.tuple #[wn (mulN (sprN a p) 10000), .bool (mulB (sprN a p) 10000)]), .val 3 (some 98) (wn (mulN (sprN a p) 10000)), .val 4 (some 99) (.bool (mulB (sprN a p) 10000))] trivial ?_
          refine rF (some 21) (pt Y118.heap.size 0) (Y118.alloc (.cells (wnc 0).toArray 24)) ?_
          replace hM := hM.alloc 24 (wnc 0)
          generalize World.alloc _ _ = Y119 at *
          generalize hNe : Y118.heap.size = N119 at *
          clear hNe
          have hst := sto_part (wnc (mulN (sprN a p) 10000)) (hM.at 0 rfl) 0 24 (wn (mulN (sprN a p) 10000)) (wnc (mulN (sprN a p) 10000)) rfl (by kernel_rfl) (Nat.le_of_ble_eq_true rfl) rfl rfl
          refine sF 24 (pt N119 0) (wn (mulN (sprN a p) 10000)) (hst) ?_
          clear hst
          replace hM := hM.set 0 (cs' := wnc (mulN (sprN a p) 10000)) rfl rfl
          generalize World.setRow _ _ _ = Y120 at *
          refine tF 8 [.val 7 (some 22) (.bool (mulB (sprN a p) 10000))] trivial ?_
          refine dF ?_
          try simp only [puts, Tk.put, Act.put, List.setIfInBounds_toArray, List.set_cons_zero, List.set_cons_succ]
          go_upto_region 20 with fail
          refine wp_region_fromM (fun W => Sep w [] [.blk N119 24 (wnc (mulN (sprN a p) 10000)), .blk N22 24 (wnc (addN l a)), .blk N18 24 (wnc (offN a p)), .blk N14 24 (wnc (sprN a p)), .blk N10 24 (wnc (mulN a (clN p))), .blk N4 24 (wnc l), .blk N3 24 (wnc v), .blk N2 24 (wnc a)] W) hM ?_
          clear hM
          rintro Y121 hM
          refine tF 2 [.load 0 (some 101) 24 (pt N10 0) (wn (mulN a (clN p))), .load 1 (some 102) 24 (pt N119 0) (wn (mulN (sprN a p) 10000))] ⟨load_part (hM.at 4 rfl) 0 (wnc (mulN a (clN p))) rfl _ _ Try.underlying24 rfl (by kernel_rfl), load_part (hM.at 0 rfl) 0 (wnc (mulN (sprN a p) 10000)) rfl _ _ Try.underlying24 rfl (by kernel_rfl), trivial⟩ ?_
          refine cF (some 103) 14 #[wn (mulN a (clN p)), wn (mulN (sprN a p) 10000)] ((refSubN_any mulN_lt mulN_lt _).mono ?_)
          rintro e Y122 ⟨rfl, hb⟩
          replace hM := hM.below hb
          clear hb
          refine tF 6 [.val 3 (some 100) (.tuple #[wn ((mulN a (clN p)) - (mulN (sprN a p) 10000)), .bool (lessB (mulN a (clN p)) (mulN (sprN a p) 10000))]), .val 4 (some 104) (wn ((mulN a (clN p)) - (mulN (sprN a p) 10000))), .val 5 (some 105) (.bool (lessB (mulN a (clN p)) (mulN (sprN a p) 10000)))] trivial ?_
          refine rF (some 23) (pt Y122.heap.size 0) (Y122.alloc (.cells (wnc 0).toArray 24)) ?_
          replace hM := hM.alloc 24 (wnc 0)
          generalize World.alloc _ _ = Y123 at *
          generalize hNe : Y122.heap.size = N123 at *
          clear hNe
          have hst := sto_part (wnc ((mulN a (clN p)) - (mulN (sprN a p) 10000))) (hM.at 0 rfl) 0 24 (wn ((mulN a (clN p)) - (mulN (sprN a p) 10000))) (wnc ((mulN a (clN p)) - (mulN (sprN a p) 10000))) rfl (by kernel_rfl) (Nat.le_of_ble_eq_true rfl) rfl rfl
          refine sF 24 (pt N123 0) (wn ((mulN a (clN p)) - (mulN (sprN a p) 10000))) (hst) ?_
          clear hst
          replace hM := hM.set 0 (cs' := wnc ((mulN a (clN p)) - (mulN (sprN a p) 10000))) rfl rfl
          generalize World.setRow _ _ _ = Y124 at *
          refine tF 9 [.val 8 (some 24) (.bool (lessB (mulN a (clN p)) (mulN (sprN a p) 10000)))] trivial ?_
          refine dF ?_
          try simp only [puts, Tk.put, Act.put, List.setIfInBounds_toArray, List.set_cons_zero, List.set_cons_succ]
          go_upto_region 21 with fail
          refine wp_region_fromM (fun W => Sep w [] [.blk N123 24 (wnc ((mulN a (clN p)) - (mulN (sprN a p) 10000))), .blk N119 24 (wnc (mulN (sprN a p) 10000)), .blk N22 24 (wnc (addN l a)), .blk N18 24 (wnc (offN a p)), .blk N14 24 (wnc (sprN a p)), .blk N10 24 (wnc (mulN a (clN p))), .blk N4 24 (wnc l), .blk N3 24 (wnc v), .blk N2 24 (wnc a)] W) hM ?_
          clear hM
          rintro Y125 hM
          refine tF 1 [.val 0 (some 106) (.bool (sprB a p))] trivial ?_
          rw [show (sprB a p) = true from HB.out]
          refine tF 4 [.val 1 (some 107) (.bool false), .val 2 (some 108) (.bool false), .val 3 (some 109) (.bool (lessB (mulN a (clN p)) (mulN (sprN a p) 10000)))] trivial ?_
          rw [show (lessB (mulN a (clN p)) (mulN (sprN a p) 10000)) = true from decide_eq_true (part_ok HB.out).1]
          refine tF 9 [.val 4 (some 110) (.bool false), .val 5 (some 111) (.bool false), .val 6 (some 112) (.bool false), .load 7 (some 113) 24 (pt N123 0) (wn ((mulN a (clN p)) - (mulN (sprN a p) 10000))), .val 8 (some 114) (wn 10000)] ⟨load_part (hM.at 0 rfl) 0 (wnc ((mulN a (clN p)) - (mulN (sprN a p) 10000))) rfl _ _ Try.underlying24 rfl (by kernel_rfl), trivial⟩ ?_
          refine cF (some 115) 12 #[wn ((mulN a (clN p)) - (mulN (sprN a p) 10000)), wn 10000] ((refCmpN_any (sub_lt4 mulN_lt) (word_lt4 (by unfold M; decide)) _).mono ?_)
          rintro e Y126 ⟨rfl, hb⟩
          replace hM := hM.below hb
          clear hb
          refine tF 12 [.alt 10 (some 116) (.bool (decide (0 ≤ (cmpN ((mulN a (clN p)) - (mulN (sprN a p) 10000)) 10000)))) (.bool false), .val 11 (some 117) (.bool false)] ⟨congrArg Value.bool (cmp_nge (part_ok HB.out).2), trivial⟩ ?_
          refine dF ?_
          try simp only [puts, Tk.put, Act.put, List.setIfInBounds_toArray, List.set_cons_zero, List.set_cons_succ]
          go_upto_region 23 with fail
          refine wp_region_fromM (fun W => Sep w [] [.blk N123 24 (wnc ((mulN a (clN p)) - (mulN (sprN a p) 10000))), .blk N119 24 (wnc (mulN (sprN a p) 10000)), .blk N22 24 (wnc (addN l a)), .blk N18 24 (wnc (offN a p)), .blk N14 24 (wnc (sprN a p)), .blk N10 24 (wnc (mulN a (clN p))), .blk N4 24 (wnc l), .blk N3 24 (wnc v), .blk N2 24 (wnc a)] W) hM ?_
          clear hM
          rintro Y127 hM
          refine tF 2 [.load 0 (some 119) 24 (pt N2 0) (wn a), .load 1 (some 120) 24 (pt N14 0) (wn (sprN a p))] ⟨load_part (hM.at 8 rfl) 0 (wnc a) rfl _ _ Try.underlying24 rfl (by kernel_rfl), load_part (hM.at 4 rfl) 0 (wnc (sprN a p)) rfl _ _ Try.underlying24 rfl (by kernel_rfl), trivial⟩ ?_
          refine cF (some 121) 14 #[wn a, wn (sprN a p)] ((refSubN_any ha sprN_lt _).mono ?_)
          rintro e Y128 ⟨rfl, hb⟩
          replace hM := hM.below hb
          clear hb
          refine tF 6 [.val 3 (some 118) (.tuple #[wn (a - (sprN a p)), .bool (lessB a (sprN a p))]), .val 4 (some 122) (wn (a - (sprN a p))), .val 5 (some 123) (.bool (lessB a (sprN a p)))] trivial ?_
          refine rF (some 25) (pt Y128.heap.size 0) (Y128.alloc (.cells (wnc 0).toArray 24)) ?_
          replace hM := hM.alloc 24 (wnc 0)
          generalize World.alloc _ _ = Y129 at *
          generalize hNe : Y128.heap.size = N129 at *
          clear hNe
          have hst := sto_part (wnc (a - (sprN a p))) (hM.at 0 rfl) 0 24 (wn (a - (sprN a p))) (wnc (a - (sprN a p))) rfl (by kernel_rfl) (Nat.le_of_ble_eq_true rfl) rfl rfl
          refine sF 24 (pt N129 0) (wn (a - (sprN a p))) (hst) ?_
          clear hst
          replace hM := hM.set 0 (cs' := wnc (a - (sprN a p))) rfl rfl
          generalize World.setRow _ _ _ = Y130 at *
          refine tF 9 [.val 8 (some 26) (.bool (lessB a (sprN a p)))] trivial ?_
          refine dF ?_
          try simp only [puts, Tk.put, Act.put, List.setIfInBounds_toArray, List.set_cons_zero, List.set_cons_succ]
          go_upto_region 24 with fail
          refine wp_region_fromM (fun W => Sep w [] [.blk N129 24 (wnc (a - (sprN a p))), .blk N123 24 (wnc ((mulN a (clN p)) - (mulN (sprN a p) 10000))), .blk N119 24 (wnc (mulN (sprN a p) 10000)), .blk N22 24 (wnc (addN l a)), .blk N18 24 (wnc (offN a p)), .blk N14 24 (wnc (sprN a p)), .blk N10 24 (wnc (mulN a (clN p))), .blk N4 24 (wnc l), .blk N3 24 (wnc v), .blk N2 24 (wnc a)] W) hM ?_
          clear hM
          rintro Y131 hM
          refine tF 2 [.load 0 (some 124) 24 (pt N18 0) (wn (offN a p)), .load 1 (some 125) 24 (pt N129 0) (wn (a - (sprN a p)))] ⟨load_part (hM.at 4 rfl) 0 (wnc (offN a p)) rfl _ _ Try.underlying24 rfl (by kernel_rfl), load_part (hM.at 0 rfl) 0 (wnc (a - (sprN a p))) rfl _ _ Try.underlying24 rfl (by kernel_rfl), trivial⟩ ?_
          refine eqA (.tmp 124) (.tmp 125) 24 (some 126) (wnc (offN a p)).toArray (wnc (a - (sprN a p))).toArray true (Eq.trans (run_eqN (offN_lt ha) (sub_lt4 ha) _) (congrArg (fun z => Result.ok z _) (decide_eq_true (offN_yes HB.out)))) ?_
          refine tF 7 [.val 3 (some 127) (.bool true), .val 4 (some 128) (.bool (offB a p)), .load 5 (some 129) 24 (pt N129 0) (wn (a - (sprN a p))), .val 6 (some 130) (wn 0)] ⟨load_part (hM.at 0 rfl) 0 (wnc (a - (sprN a p))) rfl _ _ Try.underlying24 rfl (by kernel_rfl), trivial⟩ ?_
          refine neA (.tmp 129) (.tmp 130) 24 (some 131) (wnc (a - (sprN a p))).toArray (wnc 0).toArray (decide (a - (sprN a p) = 0)) (run_eqN (sub_lt4 ha) (word_lt4 (by unfold M; decide)) _) ?_
          refine tF 11 [.alt 8 (some 132) (.bool ((offB a p) == (!(decide (a - (sprN a p) = 0))))) (.bool true), .val 9 (some 133) (.bool true), .val 10 (some 10) (.bool true)] ⟨congrArg Value.bool (by unfold offB; rw [HB.out]; exact beq_self_eq_true _), trivial⟩ ?_
          refine dF ?_
          try simp only [puts, Tk.put, Act.put, List.setIfInBounds_toArray, List.set_cons_zero, List.set_cons_succ]
          go_wp2_with fail
          go_ret
          exact ⟨rfl, hM.b⟩
      | true =>
        have Hhb10 := Lib.hid hb10
        clear hb10
        go_upto_region 14 with fail
        refine wp_region_fromM (fun W => Sep w [] [.blk N22 24 (wnc (addN l a)), .blk N18 24 (wnc (offN a p)), .blk N14 24 (wnc (sprN a p)), .blk N10 24 (wnc (mulN a (clN p))), .blk N4 24 (wnc l), .blk N3 24 (wnc v), .blk N2 24 (wnc a)] W) hM ?_
        clear hM
        rintro Y132 hM
        refine tF 1 [.val 0 (some 20) (.int .i64 45)] trivial ?_
        refine dF ?_
        try simp only [puts, Tk.put, Act.put, List.setIfInBounds_toArray, List.set_cons_zero, List.set_cons_succ]
        go_upto_region 15 with fail
        refine wp_region_fromM (fun W => Sep w [] [.blk N22 24 (wnc (addN l a)), .blk N18 24 (wnc (offN a p)), .blk N14 24 (wnc (sprN a p)), .blk N10 24 (wnc (mulN a (clN p))), .blk N4 24 (wnc l), .blk N3 24 (wnc v), .blk N2 24 (wnc a)] W) hM ?_
        clear hM
        rintro Y133 hM
        refine tF 1 [.val 0 (some 73) (.int .i64 r)] trivial ?_
        refine cF (some 74) 13 #[.int .i64 r] ((points_any r _).mono ?_)
        rintro e Y134 ⟨rfl, hb⟩
        replace hM := hM.below hb
        clear hb
        refine tF 4 [.val 2 (some 75) (.int .i64 45), .alt 3 (some 76) (.bool ((ptsI r) != 45)) (.bool false)] ⟨congrArg Value.bool (by rw [show ptsI r = 45 from (if_neg (ne_of_beq_false Hhb9.out)).trans (if_pos (eq_of_beq Hhb10.out))]; decide), trivial⟩ ?_
        refine dF ?_
        try simp only [puts, Tk.put, Act.put, List.setIfInBounds_toArray, List.set_cons_zero, List.set_cons_succ]
        go_upto_region 17 with fail
        refine wp_region_fromM (fun W => Sep w [] [.blk N22 24 (wnc (addN l a)), .blk N18 24 (wnc (offN a p)), .blk N14 24 (wnc (sprN a p)), .blk N10 24 (wnc (mulN a (clN p))), .blk N4 24 (wnc l), .blk N3 24 (wnc v), .blk N2 24 (wnc a)] W) hM ?_
        clear hM
        rintro Y135 hM
        refine tF 1 [.val 0 (some 77) (.bool (mulB a (clN p)))] trivial ?_
        cases hb12 : mulB a (clN p) with
        | false =>
          have Hhb12 := Lib.hid hb12
          clear hb12
          have HB := Lib.hid (show sprB a p = false from Hhb12.out)
          refine tF 2 [.val 1 (some 78) (.bool true)] trivial ?_
          refine dF ?_
          try simp only [puts, Tk.put, Act.put, List.setIfInBounds_toArray, List.set_cons_zero, List.set_cons_succ]
          go_upto_region 18 with fail
          refine wp_region_fromM (fun W => Sep w [] [.blk N22 24 (wnc (addN l a)), .blk N18 24 (wnc (offN a p)), .blk N14 24 (wnc (sprN a p)), .blk N10 24 (wnc (mulN a (clN p))), .blk N4 24 (wnc l), .blk N3 24 (wnc v), .blk N2 24 (wnc a)] W) hM ?_
          clear hM
          rintro Y136 hM
          refine tF 1 [.val 0 (some 79) (.bool (sprB a p))] trivial ?_
          rw [show (sprB a p) = false from HB.out]
          refine tF 4 [.val 1 (some 80) (.bool true), .val 2 (some 81) (.bool true), .val 3 (some 82) (.bool (offB a p))] trivial ?_
          rw [show (offB a p) = false from offB_no HB.out]
          refine tF 9 [.val 4 (some 83) (.bool true), .val 5 (some 84) (.bool true), .val 6 (some 85) (.bool true), .load 7 (some 86) 24 (pt N14 0) (wn (sprN a p)), .val 8 (some 87) (wn 0)] ⟨load_part (hM.at 2 rfl) 0 (wnc (sprN a p)) rfl _ _ Try.underlying24 rfl (by kernel_rfl), trivial⟩ ?_
          refine eqA (.tmp 86) (.tmp 87) 24 (some 88) (wnc (sprN a p)).toArray (wnc 0).toArray true (Eq.trans (run_eqN sprN_lt (word_lt4 (by unfold M; decide)) _) (congrArg (fun z => Result.ok z _) (decide_eq_true (sprN_no HB.out)))) ?_
          refine tF 14 [.val 10 (some 89) (.bool true), .val 11 (some 90) (.bool true), .load 12 (some 91) 24 (pt N18 0) (wn (offN a p)), .val 13 (some 92) (wn 0)] ⟨load_part (hM.at 1 rfl) 0 (wnc (offN a p)) rfl _ _ Try.underlying24 rfl (by kernel_rfl), trivial⟩ ?_
          refine eqA (.tmp 91) (.tmp 92) 24 (some 93) (wnc (offN a p)).toArray (wnc 0).toArray true (Eq.trans (run_eqN (offN_lt ha) (word_lt4 (by unfold M; decide)) _) (congrArg (fun z => Result.ok z _) (decide_eq_true (offN_no HB.out)))) ?_
          refine tF 17 [.val 15 (some 94) (.bool true), .val 16 (some 10) (.bool true)] trivial ?_
          refine dF ?_
          try simp only [puts, Tk.put, Act.put, List.setIfInBounds_toArray, List.set_cons_zero, List.set_cons_succ]
          go_wp2_with fail
          go_ret
          exact ⟨rfl, hM.b⟩
        | true =>
          have Hhb12 := Lib.hid hb12
          clear hb12
          have HB := Lib.hid (show sprB a p = true from Hhb12.out)
          refine tF 2 [.val 1 (some 78) (.bool false)] trivial ?_
          refine dF ?_
          try simp only [puts, Tk.put, Act.put, List.setIfInBounds_toArray, List.set_cons_zero, List.set_cons_succ]
          go_upto_region 19 with fail
          refine wp_region_fromM (fun W => Sep w [] [.blk N22 24 (wnc (addN l a)), .blk N18 24 (wnc (offN a p)), .blk N14 24 (wnc (sprN a p)), .blk N10 24 (wnc (mulN a (clN p))), .blk N4 24 (wnc l), .blk N3 24 (wnc v), .blk N2 24 (wnc a)] W) hM ?_
          clear hM
          rintro Y137 hM
          refine tF 1 [.load 0 (some 96) 24 (pt N14 0) (wn (sprN a p))] ⟨load_part (hM.at 2 rfl) 0 (wnc (sprN a p)) rfl _ _ Try.underlying24 rfl (by kernel_rfl), trivial⟩ ?_
          refine cF (some 97) 7 #[wn (sprN a p), .int .u64 10000] ((refMulN_any (m := 10000) sprN_lt (by unfold M; decide) _).mono ?_)
          rintro e Y138 ⟨rfl, hb⟩
          replace hM := hM.below hb
          clear hb
          refine tF 5 [.val 2 (some 95) (.tuple #[wn (mulN (sprN a p) 10000), .bool (mulB (sprN a p) 10000)]), .val 3 (some 98) (wn (mulN (sprN a p) 10000)), .val 4 (some 99) (.bool (mulB (sprN a p) 10000))] trivial ?_
          refine rF (some 21) (pt Y138.heap.size 0) (Y138.alloc (.cells (wnc 0).toArray 24)) ?_
          replace hM := hM.alloc 24 (wnc 0)
          generalize World.alloc _ _ = Y139 at *
          generalize hNe : Y138.heap.size = N139 at *
          clear hNe
          have hst := sto_part (wnc (mulN (sprN a p) 10000)) (hM.at 0 rfl) 0 24 (wn (mulN (sprN a p) 10000)) (wnc (mulN (sprN a p) 10000)) rfl (by kernel_rfl) (Nat.le_of_ble_eq_true rfl) rfl rfl
          refine sF 24 (pt N139 0) (wn (mulN (sprN a p) 10000)) (hst) ?_
          clear hst
          replace hM := hM.set 0 (cs' := wnc (mulN (sprN a p) 10000)) rfl rfl
          generalize World.setRow _ _ _ = Y140 at *
          refine tF 8 [.val 7 (some 22) (.bool (mulB (sprN a p) 10000))] trivial ?_
          refine dF ?_
          try simp only [puts, Tk.put, Act.put, List.setIfInBounds_toArray, List.set_cons_zero, List.set_cons_succ]
          go_upto_region 20 with fail
          refine wp_region_fromM (fun W => Sep w [] [.blk N139 24 (wnc (mulN (sprN a p) 10000)), .blk N22 24 (wnc (addN l a)), .blk N18 24 (wnc (offN a p)), .blk N14 24 (wnc (sprN a p)), .blk N10 24 (wnc (mulN a (clN p))), .blk N4 24 (wnc l), .blk N3 24 (wnc v), .blk N2 24 (wnc a)] W) hM ?_
          clear hM
          rintro Y141 hM
          refine tF 2 [.load 0 (some 101) 24 (pt N10 0) (wn (mulN a (clN p))), .load 1 (some 102) 24 (pt N139 0) (wn (mulN (sprN a p) 10000))] ⟨load_part (hM.at 4 rfl) 0 (wnc (mulN a (clN p))) rfl _ _ Try.underlying24 rfl (by kernel_rfl), load_part (hM.at 0 rfl) 0 (wnc (mulN (sprN a p) 10000)) rfl _ _ Try.underlying24 rfl (by kernel_rfl), trivial⟩ ?_
          refine cF (some 103) 14 #[wn (mulN a (clN p)), wn (mulN (sprN a p) 10000)] ((refSubN_any mulN_lt mulN_lt _).mono ?_)
          rintro e Y142 ⟨rfl, hb⟩
          replace hM := hM.below hb
          clear hb
          refine tF 6 [.val 3 (some 100) (.tuple #[wn ((mulN a (clN p)) - (mulN (sprN a p) 10000)), .bool (lessB (mulN a (clN p)) (mulN (sprN a p) 10000))]), .val 4 (some 104) (wn ((mulN a (clN p)) - (mulN (sprN a p) 10000))), .val 5 (some 105) (.bool (lessB (mulN a (clN p)) (mulN (sprN a p) 10000)))] trivial ?_
          refine rF (some 23) (pt Y142.heap.size 0) (Y142.alloc (.cells (wnc 0).toArray 24)) ?_
          replace hM := hM.alloc 24 (wnc 0)
          generalize World.alloc _ _ = Y143 at *
          generalize hNe : Y142.heap.size = N143 at *
          clear hNe
          have hst := sto_part (wnc ((mulN a (clN p)) - (mulN (sprN a p) 10000))) (hM.at 0 rfl) 0 24 (wn ((mulN a (clN p)) - (mulN (sprN a p) 10000))) (wnc ((mulN a (clN p)) - (mulN (sprN a p) 10000))) rfl (by kernel_rfl) (Nat.le_of_ble_eq_true rfl) rfl rfl
          refine sF 24 (pt N143 0) (wn ((mulN a (clN p)) - (mulN (sprN a p) 10000))) (hst) ?_
          clear hst
          replace hM := hM.set 0 (cs' := wnc ((mulN a (clN p)) - (mulN (sprN a p) 10000))) rfl rfl
          generalize World.setRow _ _ _ = Y144 at *
          refine tF 9 [.val 8 (some 24) (.bool (lessB (mulN a (clN p)) (mulN (sprN a p) 10000)))] trivial ?_
          refine dF ?_
          try simp only [puts, Tk.put, Act.put, List.setIfInBounds_toArray, List.set_cons_zero, List.set_cons_succ]
          go_upto_region 21 with fail
          refine wp_region_fromM (fun W => Sep w [] [.blk N143 24 (wnc ((mulN a (clN p)) - (mulN (sprN a p) 10000))), .blk N139 24 (wnc (mulN (sprN a p) 10000)), .blk N22 24 (wnc (addN l a)), .blk N18 24 (wnc (offN a p)), .blk N14 24 (wnc (sprN a p)), .blk N10 24 (wnc (mulN a (clN p))), .blk N4 24 (wnc l), .blk N3 24 (wnc v), .blk N2 24 (wnc a)] W) hM ?_
          clear hM
          rintro Y145 hM
          refine tF 1 [.val 0 (some 106) (.bool (sprB a p))] trivial ?_
          rw [show (sprB a p) = true from HB.out]
          refine tF 4 [.val 1 (some 107) (.bool false), .val 2 (some 108) (.bool false), .val 3 (some 109) (.bool (lessB (mulN a (clN p)) (mulN (sprN a p) 10000)))] trivial ?_
          rw [show (lessB (mulN a (clN p)) (mulN (sprN a p) 10000)) = true from decide_eq_true (part_ok HB.out).1]
          refine tF 9 [.val 4 (some 110) (.bool false), .val 5 (some 111) (.bool false), .val 6 (some 112) (.bool false), .load 7 (some 113) 24 (pt N143 0) (wn ((mulN a (clN p)) - (mulN (sprN a p) 10000))), .val 8 (some 114) (wn 10000)] ⟨load_part (hM.at 0 rfl) 0 (wnc ((mulN a (clN p)) - (mulN (sprN a p) 10000))) rfl _ _ Try.underlying24 rfl (by kernel_rfl), trivial⟩ ?_
          refine cF (some 115) 12 #[wn ((mulN a (clN p)) - (mulN (sprN a p) 10000)), wn 10000] ((refCmpN_any (sub_lt4 mulN_lt) (word_lt4 (by unfold M; decide)) _).mono ?_)
          rintro e Y146 ⟨rfl, hb⟩
          replace hM := hM.below hb
          clear hb
          refine tF 12 [.alt 10 (some 116) (.bool (decide (0 ≤ (cmpN ((mulN a (clN p)) - (mulN (sprN a p) 10000)) 10000)))) (.bool false), .val 11 (some 117) (.bool false)] ⟨congrArg Value.bool (cmp_nge (part_ok HB.out).2), trivial⟩ ?_
          refine dF ?_
          try simp only [puts, Tk.put, Act.put, List.setIfInBounds_toArray, List.set_cons_zero, List.set_cons_succ]
          go_upto_region 23 with fail
          refine wp_region_fromM (fun W => Sep w [] [.blk N143 24 (wnc ((mulN a (clN p)) - (mulN (sprN a p) 10000))), .blk N139 24 (wnc (mulN (sprN a p) 10000)), .blk N22 24 (wnc (addN l a)), .blk N18 24 (wnc (offN a p)), .blk N14 24 (wnc (sprN a p)), .blk N10 24 (wnc (mulN a (clN p))), .blk N4 24 (wnc l), .blk N3 24 (wnc v), .blk N2 24 (wnc a)] W) hM ?_
          clear hM
          rintro Y147 hM
          refine tF 2 [.load 0 (some 119) 24 (pt N2 0) (wn a), .load 1 (some 120) 24 (pt N14 0) (wn (sprN a p))] ⟨load_part (hM.at 8 rfl) 0 (wnc a) rfl _ _ Try.underlying24 rfl (by kernel_rfl), load_part (hM.at 4 rfl) 0 (wnc (sprN a p)) rfl _ _ Try.underlying24 rfl (by kernel_rfl), trivial⟩ ?_
          refine cF (some 121) 14 #[wn a, wn (sprN a p)] ((refSubN_any ha sprN_lt _).mono ?_)
          rintro e Y148 ⟨rfl, hb⟩
          replace hM := hM.below hb
          clear hb
          refine tF 6 [.val 3 (some 118) (.tuple #[wn (a - (sprN a p)), .bool (lessB a (sprN a p))]), .val 4 (some 122) (wn (a - (sprN a p))), .val 5 (some 123) (.bool (lessB a (sprN a p)))] trivial ?_
          refine rF (some 25) (pt Y148.heap.size 0) (Y148.alloc (.cells (wnc 0).toArray 24)) ?_
          replace hM := hM.alloc 24 (wnc 0)
          generalize World.alloc _ _ = Y149 at *
          generalize hNe : Y148.heap.size = N149 at *
          clear hNe
          have hst := sto_part (wnc (a - (sprN a p))) (hM.at 0 rfl) 0 24 (wn (a - (sprN a p))) (wnc (a - (sprN a p))) rfl (by kernel_rfl) (Nat.le_of_ble_eq_true rfl) rfl rfl
          refine sF 24 (pt N149 0) (wn (a - (sprN a p))) (hst) ?_
          clear hst
          replace hM := hM.set 0 (cs' := wnc (a - (sprN a p))) rfl rfl
          generalize World.setRow _ _ _ = Y150 at *
          refine tF 9 [.val 8 (some 26) (.bool (lessB a (sprN a p)))] trivial ?_
          refine dF ?_
          try simp only [puts, Tk.put, Act.put, List.setIfInBounds_toArray, List.set_cons_zero, List.set_cons_succ]
          go_upto_region 24 with fail
          refine wp_region_fromM (fun W => Sep w [] [.blk N149 24 (wnc (a - (sprN a p))), .blk N143 24 (wnc ((mulN a (clN p)) - (mulN (sprN a p) 10000))), .blk N139 24 (wnc (mulN (sprN a p) 10000)), .blk N22 24 (wnc (addN l a)), .blk N18 24 (wnc (offN a p)), .blk N14 24 (wnc (sprN a p)), .blk N10 24 (wnc (mulN a (clN p))), .blk N4 24 (wnc l), .blk N3 24 (wnc v), .blk N2 24 (wnc a)] W) hM ?_
          clear hM
          rintro Y151 hM
          refine tF 2 [.load 0 (some 124) 24 (pt N18 0) (wn (offN a p)), .load 1 (some 125) 24 (pt N149 0) (wn (a - (sprN a p)))] ⟨load_part (hM.at 4 rfl) 0 (wnc (offN a p)) rfl _ _ Try.underlying24 rfl (by kernel_rfl), load_part (hM.at 0 rfl) 0 (wnc (a - (sprN a p))) rfl _ _ Try.underlying24 rfl (by kernel_rfl), trivial⟩ ?_
          refine eqA (.tmp 124) (.tmp 125) 24 (some 126) (wnc (offN a p)).toArray (wnc (a - (sprN a p))).toArray true (Eq.trans (run_eqN (offN_lt ha) (sub_lt4 ha) _) (congrArg (fun z => Result.ok z _) (decide_eq_true (offN_yes HB.out)))) ?_
          refine tF 7 [.val 3 (some 127) (.bool true), .val 4 (some 128) (.bool (offB a p)), .load 5 (some 129) 24 (pt N149 0) (wn (a - (sprN a p))), .val 6 (some 130) (wn 0)] ⟨load_part (hM.at 0 rfl) 0 (wnc (a - (sprN a p))) rfl _ _ Try.underlying24 rfl (by kernel_rfl), trivial⟩ ?_
          refine neA (.tmp 129) (.tmp 130) 24 (some 131) (wnc (a - (sprN a p))).toArray (wnc 0).toArray (decide (a - (sprN a p) = 0)) (run_eqN (sub_lt4 ha) (word_lt4 (by unfold M; decide)) _) ?_
          refine tF 11 [.alt 8 (some 132) (.bool ((offB a p) == (!(decide (a - (sprN a p) = 0))))) (.bool true), .val 9 (some 133) (.bool true), .val 10 (some 10) (.bool true)] ⟨congrArg Value.bool (by unfold offB; rw [HB.out]; exact beq_self_eq_true _), trivial⟩ ?_
          refine dF ?_
          try simp only [puts, Tk.put, Act.put, List.setIfInBounds_toArray, List.set_cons_zero, List.set_cons_succ]
          go_wp2_with fail
          go_ret
          exact ⟨rfl, hM.b⟩
    | true =>
      have Hhb9 := Lib.hid hb9
      clear hb9
      go_upto_region 12 with fail
      refine wp_region_fromM (fun W => Sep w [] [.blk N22 24 (wnc (addN l a)), .blk N18 24 (wnc (offN a p)), .blk N14 24 (wnc (sprN a p)), .blk N10 24 (wnc (mulN a (clN p))), .blk N4 24 (wnc l), .blk N3 24 (wnc v), .blk N2 24 (wnc a)] W) hM ?_
      clear hM
      rintro Y152 hM
      refine tF 1 [.val 0 (some 20) (.int .i64 30)] trivial ?_
      refine dF ?_
      try simp only [puts, Tk.put, Act.put, List.setIfInBounds_toArray, List.set_cons_zero, List.set_cons_succ]
      go_upto_region 13 with fail
      refine wp_region_fromM (fun W => Sep w [] [.blk N22 24 (wnc (addN l a)), .blk N18 24 (wnc (offN a p)), .blk N14 24 (wnc (sprN a p)), .blk N10 24 (wnc (mulN a (clN p))), .blk N4 24 (wnc l), .blk N3 24 (wnc v), .blk N2 24 (wnc a)] W) hM ?_
      clear hM
      rintro Y153 hM
      refine tF 2 [.val 0 (some 71) (.int .i64 r), .val 1 (some 72) (.bool (r == 3))] trivial ?_
      refine dF ?_
      try simp only [puts, Tk.put, Act.put, List.setIfInBounds_toArray, List.set_cons_zero, List.set_cons_succ]
      cases hb13 : r == 3 with
      | false =>
        have Hhb13 := Lib.hid hb13
        clear hb13
        go_upto_region 15 with fail
        refine wp_region_fromM (fun W => Sep w [] [.blk N22 24 (wnc (addN l a)), .blk N18 24 (wnc (offN a p)), .blk N14 24 (wnc (sprN a p)), .blk N10 24 (wnc (mulN a (clN p))), .blk N4 24 (wnc l), .blk N3 24 (wnc v), .blk N2 24 (wnc a)] W) hM ?_
        clear hM
        rintro Y154 hM
        refine tF 1 [.val 0 (some 73) (.int .i64 r)] trivial ?_
        refine cF (some 74) 13 #[.int .i64 r] ((points_any r _).mono ?_)
        rintro e Y155 ⟨rfl, hb⟩
        replace hM := hM.below hb
        clear hb
        refine tF 4 [.val 2 (some 75) (.int .i64 30), .alt 3 (some 76) (.bool ((ptsI r) != 30)) (.bool false)] ⟨congrArg Value.bool (by rw [show ptsI r = 30 from if_pos (eq_of_beq Hhb9.out)]; decide), trivial⟩ ?_
        refine dF ?_
        try simp only [puts, Tk.put, Act.put, List.setIfInBounds_toArray, List.set_cons_zero, List.set_cons_succ]
        go_upto_region 17 with fail
        refine wp_region_fromM (fun W => Sep w [] [.blk N22 24 (wnc (addN l a)), .blk N18 24 (wnc (offN a p)), .blk N14 24 (wnc (sprN a p)), .blk N10 24 (wnc (mulN a (clN p))), .blk N4 24 (wnc l), .blk N3 24 (wnc v), .blk N2 24 (wnc a)] W) hM ?_
        clear hM
        rintro Y156 hM
        refine tF 1 [.val 0 (some 77) (.bool (mulB a (clN p)))] trivial ?_
        cases hb14 : mulB a (clN p) with
        | false =>
          have Hhb14 := Lib.hid hb14
          clear hb14
          have HB := Lib.hid (show sprB a p = false from Hhb14.out)
          refine tF 2 [.val 1 (some 78) (.bool true)] trivial ?_
          refine dF ?_
          try simp only [puts, Tk.put, Act.put, List.setIfInBounds_toArray, List.set_cons_zero, List.set_cons_succ]
          go_upto_region 18 with fail
          refine wp_region_fromM (fun W => Sep w [] [.blk N22 24 (wnc (addN l a)), .blk N18 24 (wnc (offN a p)), .blk N14 24 (wnc (sprN a p)), .blk N10 24 (wnc (mulN a (clN p))), .blk N4 24 (wnc l), .blk N3 24 (wnc v), .blk N2 24 (wnc a)] W) hM ?_
          clear hM
          rintro Y157 hM
          refine tF 1 [.val 0 (some 79) (.bool (sprB a p))] trivial ?_
          rw [show (sprB a p) = false from HB.out]
          refine tF 4 [.val 1 (some 80) (.bool true), .val 2 (some 81) (.bool true), .val 3 (some 82) (.bool (offB a p))] trivial ?_
          rw [show (offB a p) = false from offB_no HB.out]
          refine tF 9 [.val 4 (some 83) (.bool true), .val 5 (some 84) (.bool true), .val 6 (some 85) (.bool true), .load 7 (some 86) 24 (pt N14 0) (wn (sprN a p)), .val 8 (some 87) (wn 0)] ⟨load_part (hM.at 2 rfl) 0 (wnc (sprN a p)) rfl _ _ Try.underlying24 rfl (by kernel_rfl), trivial⟩ ?_
          refine eqA (.tmp 86) (.tmp 87) 24 (some 88) (wnc (sprN a p)).toArray (wnc 0).toArray true (Eq.trans (run_eqN sprN_lt (word_lt4 (by unfold M; decide)) _) (congrArg (fun z => Result.ok z _) (decide_eq_true (sprN_no HB.out)))) ?_
          refine tF 14 [.val 10 (some 89) (.bool true), .val 11 (some 90) (.bool true), .load 12 (some 91) 24 (pt N18 0) (wn (offN a p)), .val 13 (some 92) (wn 0)] ⟨load_part (hM.at 1 rfl) 0 (wnc (offN a p)) rfl _ _ Try.underlying24 rfl (by kernel_rfl), trivial⟩ ?_
          refine eqA (.tmp 91) (.tmp 92) 24 (some 93) (wnc (offN a p)).toArray (wnc 0).toArray true (Eq.trans (run_eqN (offN_lt ha) (word_lt4 (by unfold M; decide)) _) (congrArg (fun z => Result.ok z _) (decide_eq_true (offN_no HB.out)))) ?_
          refine tF 17 [.val 15 (some 94) (.bool true), .val 16 (some 10) (.bool true)] trivial ?_
          refine dF ?_
          try simp only [puts, Tk.put, Act.put, List.setIfInBounds_toArray, List.set_cons_zero, List.set_cons_succ]
          go_wp2_with fail
          go_ret
          exact ⟨rfl, hM.b⟩
        | true =>
          have Hhb14 := Lib.hid hb14
          clear hb14
          have HB := Lib.hid (show sprB a p = true from Hhb14.out)
          refine tF 2 [.val 1 (some 78) (.bool false)] trivial ?_
          refine dF ?_
          try simp only [puts, Tk.put, Act.put, List.setIfInBounds_toArray, List.set_cons_zero, List.set_cons_succ]
          go_upto_region 19 with fail
          refine wp_region_fromM (fun W => Sep w [] [.blk N22 24 (wnc (addN l a)), .blk N18 24 (wnc (offN a p)), .blk N14 24 (wnc (sprN a p)), .blk N10 24 (wnc (mulN a (clN p))), .blk N4 24 (wnc l), .blk N3 24 (wnc v), .blk N2 24 (wnc a)] W) hM ?_
          clear hM
          rintro Y158 hM
          refine tF 1 [.load 0 (some 96) 24 (pt N14 0) (wn (sprN a p))] ⟨load_part (hM.at 2 rfl) 0 (wnc (sprN a p)) rfl _ _ Try.underlying24 rfl (by kernel_rfl), trivial⟩ ?_
          refine cF (some 97) 7 #[wn (sprN a p), .int .u64 10000] ((refMulN_any (m := 10000) sprN_lt (by unfold M; decide) _).mono ?_)
          rintro e Y159 ⟨rfl, hb⟩
          replace hM := hM.below hb
          clear hb
          refine tF 5 [.val 2 (some 95) (.tuple #[wn (mulN (sprN a p) 10000), .bool (mulB (sprN a p) 10000)]), .val 3 (some 98) (wn (mulN (sprN a p) 10000)), .val 4 (some 99) (.bool (mulB (sprN a p) 10000))] trivial ?_
          refine rF (some 21) (pt Y159.heap.size 0) (Y159.alloc (.cells (wnc 0).toArray 24)) ?_
          replace hM := hM.alloc 24 (wnc 0)
          generalize World.alloc _ _ = Y160 at *
          generalize hNe : Y159.heap.size = N160 at *
          clear hNe
          have hst := sto_part (wnc (mulN (sprN a p) 10000)) (hM.at 0 rfl) 0 24 (wn (mulN (sprN a p) 10000)) (wnc (mulN (sprN a p) 10000)) rfl (by kernel_rfl) (Nat.le_of_ble_eq_true rfl) rfl rfl
          refine sF 24 (pt N160 0) (wn (mulN (sprN a p) 10000)) (hst) ?_
          clear hst
          replace hM := hM.set 0 (cs' := wnc (mulN (sprN a p) 10000)) rfl rfl
          generalize World.setRow _ _ _ = Y161 at *
          refine tF 8 [.val 7 (some 22) (.bool (mulB (sprN a p) 10000))] trivial ?_
          refine dF ?_
          try simp only [puts, Tk.put, Act.put, List.setIfInBounds_toArray, List.set_cons_zero, List.set_cons_succ]
          go_upto_region 20 with fail
          refine wp_region_fromM (fun W => Sep w [] [.blk N160 24 (wnc (mulN (sprN a p) 10000)), .blk N22 24 (wnc (addN l a)), .blk N18 24 (wnc (offN a p)), .blk N14 24 (wnc (sprN a p)), .blk N10 24 (wnc (mulN a (clN p))), .blk N4 24 (wnc l), .blk N3 24 (wnc v), .blk N2 24 (wnc a)] W) hM ?_
          clear hM
          rintro Y162 hM
          refine tF 2 [.load 0 (some 101) 24 (pt N10 0) (wn (mulN a (clN p))), .load 1 (some 102) 24 (pt N160 0) (wn (mulN (sprN a p) 10000))] ⟨load_part (hM.at 4 rfl) 0 (wnc (mulN a (clN p))) rfl _ _ Try.underlying24 rfl (by kernel_rfl), load_part (hM.at 0 rfl) 0 (wnc (mulN (sprN a p) 10000)) rfl _ _ Try.underlying24 rfl (by kernel_rfl), trivial⟩ ?_
          refine cF (some 103) 14 #[wn (mulN a (clN p)), wn (mulN (sprN a p) 10000)] ((refSubN_any mulN_lt mulN_lt _).mono ?_)
          rintro e Y163 ⟨rfl, hb⟩
          replace hM := hM.below hb
          clear hb
          refine tF 6 [.val 3 (some 100) (.tuple #[wn ((mulN a (clN p)) - (mulN (sprN a p) 10000)), .bool (lessB (mulN a (clN p)) (mulN (sprN a p) 10000))]), .val 4 (some 104) (wn ((mulN a (clN p)) - (mulN (sprN a p) 10000))), .val 5 (some 105) (.bool (lessB (mulN a (clN p)) (mulN (sprN a p) 10000)))] trivial ?_
          refine rF (some 23) (pt Y163.heap.size 0) (Y163.alloc (.cells (wnc 0).toArray 24)) ?_
          replace hM := hM.alloc 24 (wnc 0)
          generalize World.alloc _ _ = Y164 at *
          generalize hNe : Y163.heap.size = N164 at *
          clear hNe
          have hst := sto_part (wnc ((mulN a (clN p)) - (mulN (sprN a p) 10000))) (hM.at 0 rfl) 0 24 (wn ((mulN a (clN p)) - (mulN (sprN a p) 10000))) (wnc ((mulN a (clN p)) - (mulN (sprN a p) 10000))) rfl (by kernel_rfl) (Nat.le_of_ble_eq_true rfl) rfl rfl
          refine sF 24 (pt N164 0) (wn ((mulN a (clN p)) - (mulN (sprN a p) 10000))) (hst) ?_
          clear hst
          replace hM := hM.set 0 (cs' := wnc ((mulN a (clN p)) - (mulN (sprN a p) 10000))) rfl rfl
          generalize World.setRow _ _ _ = Y165 at *
          refine tF 9 [.val 8 (some 24) (.bool (lessB (mulN a (clN p)) (mulN (sprN a p) 10000)))] trivial ?_
          refine dF ?_
          try simp only [puts, Tk.put, Act.put, List.setIfInBounds_toArray, List.set_cons_zero, List.set_cons_succ]
          go_upto_region 21 with fail
          refine wp_region_fromM (fun W => Sep w [] [.blk N164 24 (wnc ((mulN a (clN p)) - (mulN (sprN a p) 10000))), .blk N160 24 (wnc (mulN (sprN a p) 10000)), .blk N22 24 (wnc (addN l a)), .blk N18 24 (wnc (offN a p)), .blk N14 24 (wnc (sprN a p)), .blk N10 24 (wnc (mulN a (clN p))), .blk N4 24 (wnc l), .blk N3 24 (wnc v), .blk N2 24 (wnc a)] W) hM ?_
          clear hM
          rintro Y166 hM
          refine tF 1 [.val 0 (some 106) (.bool (sprB a p))] trivial ?_
          rw [show (sprB a p) = true from HB.out]
          refine tF 4 [.val 1 (some 107) (.bool false), .val 2 (some 108) (.bool false), .val 3 (some 109) (.bool (lessB (mulN a (clN p)) (mulN (sprN a p) 10000)))] trivial ?_
          rw [show (lessB (mulN a (clN p)) (mulN (sprN a p) 10000)) = true from decide_eq_true (part_ok HB.out).1]
          refine tF 9 [.val 4 (some 110) (.bool false), .val 5 (some 111) (.bool false), .val 6 (some 112) (.bool false), .load 7 (some 113) 24 (pt N164 0) (wn ((mulN a (clN p)) - (mulN (sprN a p) 10000))), .val 8 (some 114) (wn 10000)] ⟨load_part (hM.at 0 rfl) 0 (wnc ((mulN a (clN p)) - (mulN (sprN a p) 10000))) rfl _ _ Try.underlying24 rfl (by kernel_rfl), trivial⟩ ?_
          refine cF (some 115) 12 #[wn ((mulN a (clN p)) - (mulN (sprN a p) 10000)), wn 10000] ((refCmpN_any (sub_lt4 mulN_lt) (word_lt4 (by unfold M; decide)) _).mono ?_)
          rintro e Y167 ⟨rfl, hb⟩
          replace hM := hM.below hb
          clear hb
          refine tF 12 [.alt 10 (some 116) (.bool (decide (0 ≤ (cmpN ((mulN a (clN p)) - (mulN (sprN a p) 10000)) 10000)))) (.bool false), .val 11 (some 117) (.bool false)] ⟨congrArg Value.bool (cmp_nge (part_ok HB.out).2), trivial⟩ ?_
          refine dF ?_
          try simp only [puts, Tk.put, Act.put, List.setIfInBounds_toArray, List.set_cons_zero, List.set_cons_succ]
          go_upto_region 23 with fail
          refine wp_region_fromM (fun W => Sep w [] [.blk N164 24 (wnc ((mulN a (clN p)) - (mulN (sprN a p) 10000))), .blk N160 24 (wnc (mulN (sprN a p) 10000)), .blk N22 24 (wnc (addN l a)), .blk N18 24 (wnc (offN a p)), .blk N14 24 (wnc (sprN a p)), .blk N10 24 (wnc (mulN a (clN p))), .blk N4 24 (wnc l), .blk N3 24 (wnc v), .blk N2 24 (wnc a)] W) hM ?_
          clear hM
          rintro Y168 hM
          refine tF 2 [.load 0 (some 119) 24 (pt N2 0) (wn a), .load 1 (some 120) 24 (pt N14 0) (wn (sprN a p))] ⟨load_part (hM.at 8 rfl) 0 (wnc a) rfl _ _ Try.underlying24 rfl (by kernel_rfl), load_part (hM.at 4 rfl) 0 (wnc (sprN a p)) rfl _ _ Try.underlying24 rfl (by kernel_rfl), trivial⟩ ?_
          refine cF (some 121) 14 #[wn a, wn (sprN a p)] ((refSubN_any ha sprN_lt _).mono ?_)
          rintro e Y169 ⟨rfl, hb⟩
          replace hM := hM.below hb
          clear hb
          refine tF 6 [.val 3 (some 118) (.tuple #[wn (a - (sprN a p)), .bool (lessB a (sprN a p))]), .val 4 (some 122) (wn (a - (sprN a p))), .val 5 (some 123) (.bool (lessB a (sprN a p)))] trivial ?_
          refine rF (some 25) (pt Y169.heap.size 0) (Y169.alloc (.cells (wnc 0).toArray 24)) ?_
          replace hM := hM.alloc 24 (wnc 0)
          generalize World.alloc _ _ = Y170 at *
          generalize hNe : Y169.heap.size = N170 at *
          clear hNe
          have hst := sto_part (wnc (a - (sprN a p))) (hM.at 0 rfl) 0 24 (wn (a - (sprN a p))) (wnc (a - (sprN a p))) rfl (by kernel_rfl) (Nat.le_of_ble_eq_true rfl) rfl rfl
          refine sF 24 (pt N170 0) (wn (a - (sprN a p))) (hst) ?_
          clear hst
          replace hM := hM.set 0 (cs' := wnc (a - (sprN a p))) rfl rfl
          generalize World.setRow _ _ _ = Y171 at *
          refine tF 9 [.val 8 (some 26) (.bool (lessB a (sprN a p)))] trivial ?_
          refine dF ?_
          try simp only [puts, Tk.put, Act.put, List.setIfInBounds_toArray, List.set_cons_zero, List.set_cons_succ]
          go_upto_region 24 with fail
          refine wp_region_fromM (fun W => Sep w [] [.blk N170 24 (wnc (a - (sprN a p))), .blk N164 24 (wnc ((mulN a (clN p)) - (mulN (sprN a p) 10000))), .blk N160 24 (wnc (mulN (sprN a p) 10000)), .blk N22 24 (wnc (addN l a)), .blk N18 24 (wnc (offN a p)), .blk N14 24 (wnc (sprN a p)), .blk N10 24 (wnc (mulN a (clN p))), .blk N4 24 (wnc l), .blk N3 24 (wnc v), .blk N2 24 (wnc a)] W) hM ?_
          clear hM
          rintro Y172 hM
          refine tF 2 [.load 0 (some 124) 24 (pt N18 0) (wn (offN a p)), .load 1 (some 125) 24 (pt N170 0) (wn (a - (sprN a p)))] ⟨load_part (hM.at 4 rfl) 0 (wnc (offN a p)) rfl _ _ Try.underlying24 rfl (by kernel_rfl), load_part (hM.at 0 rfl) 0 (wnc (a - (sprN a p))) rfl _ _ Try.underlying24 rfl (by kernel_rfl), trivial⟩ ?_
          refine eqA (.tmp 124) (.tmp 125) 24 (some 126) (wnc (offN a p)).toArray (wnc (a - (sprN a p))).toArray true (Eq.trans (run_eqN (offN_lt ha) (sub_lt4 ha) _) (congrArg (fun z => Result.ok z _) (decide_eq_true (offN_yes HB.out)))) ?_
          refine tF 7 [.val 3 (some 127) (.bool true), .val 4 (some 128) (.bool (offB a p)), .load 5 (some 129) 24 (pt N170 0) (wn (a - (sprN a p))), .val 6 (some 130) (wn 0)] ⟨load_part (hM.at 0 rfl) 0 (wnc (a - (sprN a p))) rfl _ _ Try.underlying24 rfl (by kernel_rfl), trivial⟩ ?_
          refine neA (.tmp 129) (.tmp 130) 24 (some 131) (wnc (a - (sprN a p))).toArray (wnc 0).toArray (decide (a - (sprN a p) = 0)) (run_eqN (sub_lt4 ha) (word_lt4 (by unfold M; decide)) _) ?_
          refine tF 11 [.alt 8 (some 132) (.bool ((offB a p) == (!(decide (a - (sprN a p) = 0))))) (.bool true), .val 9 (some 133) (.bool true), .val 10 (some 10) (.bool true)] ⟨congrArg Value.bool (by unfold offB; rw [HB.out]; exact beq_self_eq_true _), trivial⟩ ?_
          refine dF ?_
          try simp only [puts, Tk.put, Act.put, List.setIfInBounds_toArray, List.set_cons_zero, List.set_cons_succ]
          go_wp2_with fail
          go_ret
          exact ⟨rfl, hM.b⟩
      | true =>
        have Hhb13 := Lib.hid hb13
        clear hb13
        go_upto_region 14 with fail
        refine wp_region_fromM (fun W => Sep w [] [.blk N22 24 (wnc (addN l a)), .blk N18 24 (wnc (offN a p)), .blk N14 24 (wnc (sprN a p)), .blk N10 24 (wnc (mulN a (clN p))), .blk N4 24 (wnc l), .blk N3 24 (wnc v), .blk N2 24 (wnc a)] W) hM ?_
        clear hM
        rintro Y173 hM
        refine tF 1 [.val 0 (some 20) (.int .i64 45)] trivial ?_
        refine dF ?_
        try simp only [puts, Tk.put, Act.put, List.setIfInBounds_toArray, List.set_cons_zero, List.set_cons_succ]
        go_upto_region 15 with fail
        refine wp_region_fromM (fun W => Sep w [] [.blk N22 24 (wnc (addN l a)), .blk N18 24 (wnc (offN a p)), .blk N14 24 (wnc (sprN a p)), .blk N10 24 (wnc (mulN a (clN p))), .blk N4 24 (wnc l), .blk N3 24 (wnc v), .blk N2 24 (wnc a)] W) hM ?_
        clear hM
        rintro Y174 hM
        refine tF 1 [.val 0 (some 73) (.int .i64 r)] trivial ?_
        refine cF (some 74) 13 #[.int .i64 r] ((points_any r _).mono ?_)
        rintro e Y175 ⟨rfl, hb⟩
        replace hM := hM.below hb
        clear hb
        refine tF 4 [.val 2 (some 75) (.int .i64 45), .alt 3 (some 76) (.bool ((ptsI r) != 45)) (.bool false)] ⟨congrArg Value.bool (absurd (Hhb9.out) (by rw [eq_of_beq Hhb13.out]; decide)), trivial⟩ ?_
        refine dF ?_
        try simp only [puts, Tk.put, Act.put, List.setIfInBounds_toArray, List.set_cons_zero, List.set_cons_succ]
        go_upto_region 17 with fail
        refine wp_region_fromM (fun W => Sep w [] [.blk N22 24 (wnc (addN l a)), .blk N18 24 (wnc (offN a p)), .blk N14 24 (wnc (sprN a p)), .blk N10 24 (wnc (mulN a (clN p))), .blk N4 24 (wnc l), .blk N3 24 (wnc v), .blk N2 24 (wnc a)] W) hM ?_
        clear hM
        rintro Y176 hM
        refine tF 1 [.val 0 (some 77) (.bool (mulB a (clN p)))] trivial ?_
        cases hb15 : mulB a (clN p) with
        | false =>
          have Hhb15 := Lib.hid hb15
          clear hb15
          have HB := Lib.hid (show sprB a p = false from Hhb15.out)
          refine tF 2 [.val 1 (some 78) (.bool true)] trivial ?_
          refine dF ?_
          try simp only [puts, Tk.put, Act.put, List.setIfInBounds_toArray, List.set_cons_zero, List.set_cons_succ]
          go_upto_region 18 with fail
          refine wp_region_fromM (fun W => Sep w [] [.blk N22 24 (wnc (addN l a)), .blk N18 24 (wnc (offN a p)), .blk N14 24 (wnc (sprN a p)), .blk N10 24 (wnc (mulN a (clN p))), .blk N4 24 (wnc l), .blk N3 24 (wnc v), .blk N2 24 (wnc a)] W) hM ?_
          clear hM
          rintro Y177 hM
          refine tF 1 [.val 0 (some 79) (.bool (sprB a p))] trivial ?_
          rw [show (sprB a p) = false from HB.out]
          refine tF 4 [.val 1 (some 80) (.bool true), .val 2 (some 81) (.bool true), .val 3 (some 82) (.bool (offB a p))] trivial ?_
          rw [show (offB a p) = false from offB_no HB.out]
          refine tF 9 [.val 4 (some 83) (.bool true), .val 5 (some 84) (.bool true), .val 6 (some 85) (.bool true), .load 7 (some 86) 24 (pt N14 0) (wn (sprN a p)), .val 8 (some 87) (wn 0)] ⟨load_part (hM.at 2 rfl) 0 (wnc (sprN a p)) rfl _ _ Try.underlying24 rfl (by kernel_rfl), trivial⟩ ?_
          refine eqA (.tmp 86) (.tmp 87) 24 (some 88) (wnc (sprN a p)).toArray (wnc 0).toArray true (Eq.trans (run_eqN sprN_lt (word_lt4 (by unfold M; decide)) _) (congrArg (fun z => Result.ok z _) (decide_eq_true (sprN_no HB.out)))) ?_
          refine tF 14 [.val 10 (some 89) (.bool true), .val 11 (some 90) (.bool true), .load 12 (some 91) 24 (pt N18 0) (wn (offN a p)), .val 13 (some 92) (wn 0)] ⟨load_part (hM.at 1 rfl) 0 (wnc (offN a p)) rfl _ _ Try.underlying24 rfl (by kernel_rfl), trivial⟩ ?_
          refine eqA (.tmp 91) (.tmp 92) 24 (some 93) (wnc (offN a p)).toArray (wnc 0).toArray true (Eq.trans (run_eqN (offN_lt ha) (word_lt4 (by unfold M; decide)) _) (congrArg (fun z => Result.ok z _) (decide_eq_true (offN_no HB.out)))) ?_
          refine tF 17 [.val 15 (some 94) (.bool true), .val 16 (some 10) (.bool true)] trivial ?_
          refine dF ?_
          try simp only [puts, Tk.put, Act.put, List.setIfInBounds_toArray, List.set_cons_zero, List.set_cons_succ]
          go_wp2_with fail
          go_ret
          exact ⟨rfl, hM.b⟩
        | true =>
          have Hhb15 := Lib.hid hb15
          clear hb15
          have HB := Lib.hid (show sprB a p = true from Hhb15.out)
          refine tF 2 [.val 1 (some 78) (.bool false)] trivial ?_
          refine dF ?_
          try simp only [puts, Tk.put, Act.put, List.setIfInBounds_toArray, List.set_cons_zero, List.set_cons_succ]
          go_upto_region 19 with fail
          refine wp_region_fromM (fun W => Sep w [] [.blk N22 24 (wnc (addN l a)), .blk N18 24 (wnc (offN a p)), .blk N14 24 (wnc (sprN a p)), .blk N10 24 (wnc (mulN a (clN p))), .blk N4 24 (wnc l), .blk N3 24 (wnc v), .blk N2 24 (wnc a)] W) hM ?_
          clear hM
          rintro Y178 hM
          refine tF 1 [.load 0 (some 96) 24 (pt N14 0) (wn (sprN a p))] ⟨load_part (hM.at 2 rfl) 0 (wnc (sprN a p)) rfl _ _ Try.underlying24 rfl (by kernel_rfl), trivial⟩ ?_
          refine cF (some 97) 7 #[wn (sprN a p), .int .u64 10000] ((refMulN_any (m := 10000) sprN_lt (by unfold M; decide) _).mono ?_)
          rintro e Y179 ⟨rfl, hb⟩
          replace hM := hM.below hb
          clear hb
          refine tF 5 [.val 2 (some 95) (.tuple #[wn (mulN (sprN a p) 10000), .bool (mulB (sprN a p) 10000)]), .val 3 (some 98) (wn (mulN (sprN a p) 10000)), .val 4 (some 99) (.bool (mulB (sprN a p) 10000))] trivial ?_
          refine rF (some 21) (pt Y179.heap.size 0) (Y179.alloc (.cells (wnc 0).toArray 24)) ?_
          replace hM := hM.alloc 24 (wnc 0)
          generalize World.alloc _ _ = Y180 at *
          generalize hNe : Y179.heap.size = N180 at *
          clear hNe
          have hst := sto_part (wnc (mulN (sprN a p) 10000)) (hM.at 0 rfl) 0 24 (wn (mulN (sprN a p) 10000)) (wnc (mulN (sprN a p) 10000)) rfl (by kernel_rfl) (Nat.le_of_ble_eq_true rfl) rfl rfl
          refine sF 24 (pt N180 0) (wn (mulN (sprN a p) 10000)) (hst) ?_
          clear hst
          replace hM := hM.set 0 (cs' := wnc (mulN (sprN a p) 10000)) rfl rfl
          generalize World.setRow _ _ _ = Y181 at *
          refine tF 8 [.val 7 (some 22) (.bool (mulB (sprN a p) 10000))] trivial ?_
          refine dF ?_
          try simp only [puts, Tk.put, Act.put, List.setIfInBounds_toArray, List.set_cons_zero, List.set_cons_succ]
          go_upto_region 20 with fail
          refine wp_region_fromM (fun W => Sep w [] [.blk N180 24 (wnc (mulN (sprN a p) 10000)), .blk N22 24 (wnc (addN l a)), .blk N18 24 (wnc (offN a p)), .blk N14 24 (wnc (sprN a p)), .blk N10 24 (wnc (mulN a (clN p))), .blk N4 24 (wnc l), .blk N3 24 (wnc v), .blk N2 24 (wnc a)] W) hM ?_
          clear hM
          rintro Y182 hM
          refine tF 2 [.load 0 (some 101) 24 (pt N10 0) (wn (mulN a (clN p))), .load 1 (some 102) 24 (pt N180 0) (wn (mulN (sprN a p) 10000))] ⟨load_part (hM.at 4 rfl) 0 (wnc (mulN a (clN p))) rfl _ _ Try.underlying24 rfl (by kernel_rfl), load_part (hM.at 0 rfl) 0 (wnc (mulN (sprN a p) 10000)) rfl _ _ Try.underlying24 rfl (by kernel_rfl), trivial⟩ ?_
          refine cF (some 103) 14 #[wn (mulN a (clN p)), wn (mulN (sprN a p) 10000)] ((refSubN_any mulN_lt mulN_lt _).mono ?_)
          rintro e Y183 ⟨rfl, hb⟩
          replace hM := hM.below hb
          clear hb
          refine tF 6 [.val 3 (some 100) (.tuple #[wn ((mulN a (clN p)) - (mulN (sprN a p) 10000)), .bool (lessB (mulN a (clN p)) (mulN (sprN a p) 10000))]), .val 4 (some 104) (wn ((mulN a (clN p)) - (mulN (sprN a p) 10000))), .val 5 (some 105) (.bool (lessB (mulN a (clN p)) (mulN (sprN a p) 10000)))] trivial ?_
          refine rF (some 23) (pt Y183.heap.size 0) (Y183.alloc (.cells (wnc 0).toArray 24)) ?_
          replace hM := hM.alloc 24 (wnc 0)
          generalize World.alloc _ _ = Y184 at *
          generalize hNe : Y183.heap.size = N184 at *
          clear hNe
          have hst := sto_part (wnc ((mulN a (clN p)) - (mulN (sprN a p) 10000))) (hM.at 0 rfl) 0 24 (wn ((mulN a (clN p)) - (mulN (sprN a p) 10000))) (wnc ((mulN a (clN p)) - (mulN (sprN a p) 10000))) rfl (by kernel_rfl) (Nat.le_of_ble_eq_true rfl) rfl rfl
          refine sF 24 (pt N184 0) (wn ((mulN a (clN p)) - (mulN (sprN a p) 10000))) (hst) ?_
          clear hst
          replace hM := hM.set 0 (cs' := wnc ((mulN a (clN p)) - (mulN (sprN a p) 10000))) rfl rfl
          generalize World.setRow _ _ _ = Y185 at *
          refine tF 9 [.val 8 (some 24) (.bool (lessB (mulN a (clN p)) (mulN (sprN a p) 10000)))] trivial ?_
          refine dF ?_
          try simp only [puts, Tk.put, Act.put, List.setIfInBounds_toArray, List.set_cons_zero, List.set_cons_succ]
          go_upto_region 21 with fail
          refine wp_region_fromM (fun W => Sep w [] [.blk N184 24 (wnc ((mulN a (clN p)) - (mulN (sprN a p) 10000))), .blk N180 24 (wnc (mulN (sprN a p) 10000)), .blk N22 24 (wnc (addN l a)), .blk N18 24 (wnc (offN a p)), .blk N14 24 (wnc (sprN a p)), .blk N10 24 (wnc (mulN a (clN p))), .blk N4 24 (wnc l), .blk N3 24 (wnc v), .blk N2 24 (wnc a)] W) hM ?_
          clear hM
          rintro Y186 hM
          refine tF 1 [.val 0 (some 106) (.bool (sprB a p))] trivial ?_
          rw [show (sprB a p) = true from HB.out]
          refine tF 4 [.val 1 (some 107) (.bool false), .val 2 (some 108) (.bool false), .val 3 (some 109) (.bool (lessB (mulN a (clN p)) (mulN (sprN a p) 10000)))] trivial ?_
          rw [show (lessB (mulN a (clN p)) (mulN (sprN a p) 10000)) = true from decide_eq_true (part_ok HB.out).1]
          refine tF 9 [.val 4 (some 110) (.bool false), .val 5 (some 111) (.bool false), .val 6 (some 112) (.bool false), .load 7 (some 113) 24 (pt N184 0) (wn ((mulN a (clN p)) - (mulN (sprN a p) 10000))), .val 8 (some 114) (wn 10000)] ⟨load_part (hM.at 0 rfl) 0 (wnc ((mulN a (clN p)) - (mulN (sprN a p) 10000))) rfl _ _ Try.underlying24 rfl (by kernel_rfl), trivial⟩ ?_
          refine cF (some 115) 12 #[wn ((mulN a (clN p)) - (mulN (sprN a p) 10000)), wn 10000] ((refCmpN_any (sub_lt4 mulN_lt) (word_lt4 (by unfold M; decide)) _).mono ?_)
          rintro e Y187 ⟨rfl, hb⟩
          replace hM := hM.below hb
          clear hb
          refine tF 12 [.alt 10 (some 116) (.bool (decide (0 ≤ (cmpN ((mulN a (clN p)) - (mulN (sprN a p) 10000)) 10000)))) (.bool false), .val 11 (some 117) (.bool false)] ⟨congrArg Value.bool (cmp_nge (part_ok HB.out).2), trivial⟩ ?_
          refine dF ?_
          try simp only [puts, Tk.put, Act.put, List.setIfInBounds_toArray, List.set_cons_zero, List.set_cons_succ]
          go_upto_region 23 with fail
          refine wp_region_fromM (fun W => Sep w [] [.blk N184 24 (wnc ((mulN a (clN p)) - (mulN (sprN a p) 10000))), .blk N180 24 (wnc (mulN (sprN a p) 10000)), .blk N22 24 (wnc (addN l a)), .blk N18 24 (wnc (offN a p)), .blk N14 24 (wnc (sprN a p)), .blk N10 24 (wnc (mulN a (clN p))), .blk N4 24 (wnc l), .blk N3 24 (wnc v), .blk N2 24 (wnc a)] W) hM ?_
          clear hM
          rintro Y188 hM
          refine tF 2 [.load 0 (some 119) 24 (pt N2 0) (wn a), .load 1 (some 120) 24 (pt N14 0) (wn (sprN a p))] ⟨load_part (hM.at 8 rfl) 0 (wnc a) rfl _ _ Try.underlying24 rfl (by kernel_rfl), load_part (hM.at 4 rfl) 0 (wnc (sprN a p)) rfl _ _ Try.underlying24 rfl (by kernel_rfl), trivial⟩ ?_
          refine cF (some 121) 14 #[wn a, wn (sprN a p)] ((refSubN_any ha sprN_lt _).mono ?_)
          rintro e Y189 ⟨rfl, hb⟩
          replace hM := hM.below hb
          clear hb
          refine tF 6 [.val 3 (some 118) (.tuple #[wn (a - (sprN a p)), .bool (lessB a (sprN a p))]), .val 4 (some 122) (wn (a - (sprN a p))), .val 5 (some 123) (.bool (lessB a (sprN a p)))] trivial ?_
          refine rF (some 25) (pt Y189.heap.size 0) (Y189.alloc (.cells (wnc 0).toArray 24)) ?_
          replace hM := hM.alloc 24 (wnc 0)
          generalize World.alloc _ _ = Y190 at *
          generalize hNe : Y189.heap.size = N190 at *
          clear hNe
          have hst := sto_part (wnc (a - (sprN a p))) (hM.at 0 rfl) 0 24 (wn (a - (sprN a p))) (wnc (a - (sprN a p))) rfl (by kernel_rfl) (Nat.le_of_ble_eq_true rfl) rfl rfl
          refine sF 24 (pt N190 0) (wn (a - (sprN a p))) (hst) ?_
          clear hst
          replace hM := hM.set 0 (cs' := wnc (a - (sprN a p))) rfl rfl
          generalize World.setRow _ _ _ = Y191 at *
          refine tF 9 [.val 8 (some 26) (.bool (lessB a (sprN a p)))] trivial ?_
          refine dF ?_
          try simp only [puts, Tk.put, Act.put, List.setIfInBounds_toArray, List.set_cons_zero, List.set_cons_succ]
          go_upto_region 24 with fail
          refine wp_region_fromM (fun W => Sep w [] [.blk N190 24 (wnc (a - (sprN a p))), .blk N184 24 (wnc ((mulN a (clN p)) - (mulN (sprN a p) 10000))), .blk N180 24 (wnc (mulN (sprN a p) 10000)), .blk N22 24 (wnc (addN l a)), .blk N18 24 (wnc (offN a p)), .blk N14 24 (wnc (sprN a p)), .blk N10 24 (wnc (mulN a (clN p))), .blk N4 24 (wnc l), .blk N3 24 (wnc v), .blk N2 24 (wnc a)] W) hM ?_
          clear hM
          rintro Y192 hM
          refine tF 2 [.load 0 (some 124) 24 (pt N18 0) (wn (offN a p)), .load 1 (some 125) 24 (pt N190 0) (wn (a - (sprN a p)))] ⟨load_part (hM.at 4 rfl) 0 (wnc (offN a p)) rfl _ _ Try.underlying24 rfl (by kernel_rfl), load_part (hM.at 0 rfl) 0 (wnc (a - (sprN a p))) rfl _ _ Try.underlying24 rfl (by kernel_rfl), trivial⟩ ?_
          refine eqA (.tmp 124) (.tmp 125) 24 (some 126) (wnc (offN a p)).toArray (wnc (a - (sprN a p))).toArray true (Eq.trans (run_eqN (offN_lt ha) (sub_lt4 ha) _) (congrArg (fun z => Result.ok z _) (decide_eq_true (offN_yes HB.out)))) ?_
          refine tF 7 [.val 3 (some 127) (.bool true), .val 4 (some 128) (.bool (offB a p)), .load 5 (some 129) 24 (pt N190 0) (wn (a - (sprN a p))), .val 6 (some 130) (wn 0)] ⟨load_part (hM.at 0 rfl) 0 (wnc (a - (sprN a p))) rfl _ _ Try.underlying24 rfl (by kernel_rfl), trivial⟩ ?_
          refine neA (.tmp 129) (.tmp 130) 24 (some 131) (wnc (a - (sprN a p))).toArray (wnc 0).toArray (decide (a - (sprN a p) = 0)) (run_eqN (sub_lt4 ha) (word_lt4 (by unfold M; decide)) _) ?_
          refine tF 11 [.alt 8 (some 132) (.bool ((offB a p) == (!(decide (a - (sprN a p) = 0))))) (.bool true), .val 9 (some 133) (.bool true), .val 10 (some 10) (.bool true)] ⟨congrArg Value.bool (by unfold offB; rw [HB.out]; exact beq_self_eq_true _), trivial⟩ ?_
          refine dF ?_
          try simp only [puts, Tk.put, Act.put, List.setIfInBounds_toArray, List.set_cons_zero, List.set_cons_succ]
          go_wp2_with fail
          go_ret
          exact ⟨rfl, hM.b⟩
theorem qt_b (z : Int) : -10000 < Int.tmod z 10000 ∧ Int.tmod z 10000 < 10000 := ⟨by have := Int.lt_tmod_of_pos z (b := 10000) (by decide); omega, Int.tmod_lt_of_pos z (by decide)⟩
theorem qt_sum (z : Int) : IntKind.i64.wrap (Int.tmod z 10000 + 10000) = Int.tmod z 10000 + 10000 := IntWalk.i64_in _ (by have := qt_b z; omega)
theorem qt_lo (z : Int) : 0 ≤ Int.tmod (Int.tmod z 10000 + 10000) 10000 := Int.tmod_nonneg _ (by have := qt_b z; omega)
theorem qt_hi (z : Int) : Int.tmod (Int.tmod z 10000 + 10000) 10000 < 10000 := Int.tmod_lt_of_pos _ (by decide)
set_option maxRecDepth 100000 in
set_option maxHeartbeats 4000000 in
theorem quoteBelow_any {a : Nat} (ha : a < M4) (z : Int) (w : World) : Calls Try.prog 4 #[wn a, .int .i64 z] w fun e W' => e = .returned (.bool true) ∧ Below w.heap.size w W' := by
  have hmx : Try.prog.follows .mixedOrders = true := by kernel_rfl
  obtain ⟨t, ht, hs, ht0, ht1⟩ : ∃ t : Int, Int.tmod (Int.tmod z 10000 + 10000) 10000 = t ∧ IntKind.i64.wrap (Int.tmod z 10000 + 10000) = Int.tmod z 10000 + 10000 ∧ 0 ≤ t ∧ t < 10000 := ⟨_, rfl, qt_sum z, qt_lo z, qt_hi z⟩
  have HT := Lib.hid ht
  have HS := Lib.hid hs
  have HBT := Lib.hid (And.intro ht0 ht1)
  clear ht hs ht0 ht1
  have hM := Sep.start w
  go_enter Try.func4, Try.ntmps4
  go_upto_region 0 with fail
  refine wp_region_fromM (fun W => Sep w [] [] W) hM ?_
  clear hM
  rintro Y1 hM
  refine rF (some 2) (pt Y1.heap.size 0) (Y1.alloc (.cells (wnc a).toArray 24)) ?_
  replace hM := hM.alloc 24 (wnc a)
  generalize World.alloc _ _ = Y2 at *
  generalize hNe : Y1.heap.size = N2 at *
  clear hNe
  refine tF 2 [.val 1 (some 4) (.bool false)] trivial ?_
  refine dF ?_
  try simp only [puts, Tk.put, Act.put, List.setIfInBounds_toArray, List.set_cons_zero, List.set_cons_succ]
  go_upto_region 1 with fail
  refine wp_region_fromM (fun W => Sep w [] [.blk N2 24 (wnc a)] W) hM ?_
  clear hM
  rintro Y3 hM
  refine cF (some 9) 6 #[] ((alive18_any _).mono ?_)
  rintro e Y4 ⟨rfl, hb⟩
  replace hM := hM.below hb
  clear hb
  refine tF 2 [.val 1 (some 10) (.bool false)] trivial ?_
  refine dF ?_
  try simp only [puts, Tk.put, Act.put, List.setIfInBounds_toArray, List.set_cons_zero, List.set_cons_succ]
  go_upto_region 3 with fail
  refine wp_region_fromM (fun W => Sep w [] [.blk N2 24 (wnc a)] W) hM ?_
  clear hM
  rintro Y5 hM
  refine tF 1 [.val 0 (some 11) (.int .i64 z)] trivial ?_
  refine remF (.tmp 11) (.const (.int .i64 10000)) 3 3 (some 12) z 10000 (Int.tmod z 10000) (by decide) rfl ?_
  refine tF 3 [.alt 2 (some 13) (.int .i64 (IntKind.i64.wrap ((Int.tmod z 10000) + 10000))) (.int .i64 (Int.tmod z 10000 + 10000))] ⟨congrArg (Value.int .i64) (HS.out), trivial⟩ ?_
  refine remF (.tmp 13) (.const (.int .i64 10000)) 3 3 (some 14) (Int.tmod z 10000 + 10000) 10000 t (by decide) HT.out ?_
  refine tF 5 [.val 4 (some 1) (.int .i64 t)] trivial ?_
  refine dF ?_
  try simp only [puts, Tk.put, Act.put, List.setIfInBounds_toArray, List.set_cons_zero, List.set_cons_succ]
  go_upto_region 4 with fail
  refine wp_region_fromM (fun W => Sep w [] [.blk N2 24 (wnc a)] W) hM ?_
  clear hM
  rintro Y6 hM
  refine tF 2 [.load 0 (some 16) 24 (pt N2 0) (wn a), .val 1 (some 17) (.int .i64 t)] ⟨load_part (hM.at 0 rfl) 0 (wnc a) rfl _ _ Try.underlying24 rfl (by kernel_rfl), trivial⟩ ?_
  refine cF (some 18) 9 #[wn a, .int .i64 t] ((offer_any ha t _).mono ?_)
  rintro e Y7 ⟨rfl, hb⟩
  replace hM := hM.below hb
  clear hb
  refine tF 6 [.val 3 (some 15) (.tuple #[wn (offN a t), .bool (offB a t)]), .val 4 (some 19) (wn (offN a t)), .val 5 (some 20) (.bool (offB a t))] trivial ?_
  refine rF (some 5) (pt Y7.heap.size 0) (Y7.alloc (.cells (wnc 0).toArray 24)) ?_
  replace hM := hM.alloc 24 (wnc 0)
  generalize World.alloc _ _ = Y8 at *
  generalize hNe : Y7.heap.size = N8 at *
  clear hNe
  have hst := sto_part (wnc (offN a t)) (hM.at 0 rfl) 0 24 (wn (offN a t)) (wnc (offN a t)) rfl (by kernel_rfl) (Nat.le_of_ble_eq_true rfl) rfl rfl
  refine sF 24 (pt N8 0) (wn (offN a t)) (hst) ?_
  clear hst
  replace hM := hM.set 0 (cs' := wnc (offN a t)) rfl rfl
  generalize World.setRow _ _ _ = Y9 at *
  refine tF 9 [.val 8 (some 6) (.bool (offB a t))] trivial ?_
  refine dF ?_
  try simp only [puts, Tk.put, Act.put, List.setIfInBounds_toArray, List.set_cons_zero, List.set_cons_succ]
  go_upto_region 5 with fail
  refine wp_region_fromM (fun W => Sep w [] [.blk N8 24 (wnc (offN a t)), .blk N2 24 (wnc a)] W) hM ?_
  clear hM
  rintro Y10 hM
  refine tF 3 [.load 0 (some 22) 24 (pt N2 0) (wn a), .val 1 (some 23) (.int .i64 t), .alt 2 (some 24) (.int .i64 (IntKind.i64.wrap (t + 1))) (.int .i64 (t + 1))] ⟨load_part (hM.at 1 rfl) 0 (wnc a) rfl _ _ Try.underlying24 rfl (by kernel_rfl), congrArg (Value.int .i64) (IntWalk.i64_in _ (by have := HBT.out; omega)), trivial⟩ ?_
  refine cF (some 25) 9 #[wn a, .int .i64 (t + 1)] ((offer_any ha (t + 1) _).mono ?_)
  rintro e Y11 ⟨rfl, hb⟩
  replace hM := hM.below hb
  clear hb
  refine tF 7 [.val 4 (some 21) (.tuple #[wn (offN a (t + 1)), .bool (offB a (t + 1))]), .val 5 (some 26) (wn (offN a (t + 1))), .val 6 (some 27) (.bool (offB a (t + 1)))] trivial ?_
  refine rF (some 7) (pt Y11.heap.size 0) (Y11.alloc (.cells (wnc 0).toArray 24)) ?_
  replace hM := hM.alloc 24 (wnc 0)
  generalize World.alloc _ _ = Y12 at *
  generalize hNe : Y11.heap.size = N12 at *
  clear hNe
  have hst := sto_part (wnc (offN a (t + 1))) (hM.at 0 rfl) 0 24 (wn (offN a (t + 1))) (wnc (offN a (t + 1))) rfl (by kernel_rfl) (Nat.le_of_ble_eq_true rfl) rfl rfl
  refine sF 24 (pt N12 0) (wn (offN a (t + 1))) (hst) ?_
  clear hst
  replace hM := hM.set 0 (cs' := wnc (offN a (t + 1))) rfl rfl
  generalize World.setRow _ _ _ = Y13 at *
  refine tF 10 [.val 9 (some 8) (.bool (offB a (t + 1)))] trivial ?_
  refine dF ?_
  try simp only [puts, Tk.put, Act.put, List.setIfInBounds_toArray, List.set_cons_zero, List.set_cons_succ]
  go_upto_region 6 with fail
  refine wp_region_fromM (fun W => Sep w [] [.blk N12 24 (wnc (offN a (t + 1))), .blk N8 24 (wnc (offN a t)), .blk N2 24 (wnc a)] W) hM ?_
  clear hM
  rintro Y14 hM
  refine tF 1 [.val 0 (some 28) (.bool (offB a t))] trivial ?_
  cases hb1 : offB a t with
  | false =>
    have Hhb1 := Lib.hid hb1
    clear hb1
    refine tF 2 [.val 1 (some 29) (.bool true)] trivial ?_
    refine dF ?_
    try simp only [puts, Tk.put, Act.put, List.setIfInBounds_toArray, List.set_cons_zero, List.set_cons_succ]
    go_upto_region 7 with fail
    refine wp_region_fromM (fun W => Sep w [] [.blk N12 24 (wnc (offN a (t + 1))), .blk N8 24 (wnc (offN a t)), .blk N2 24 (wnc a)] W) hM ?_
    clear hM
    rintro Y15 hM
    refine tF 2 [.load 0 (some 30) 24 (pt N8 0) (wn (offN a t)), .val 1 (some 31) (wn 0)] ⟨load_part (hM.at 1 rfl) 0 (wnc (offN a t)) rfl _ _ Try.underlying24 rfl (by kernel_rfl), trivial⟩ ?_
    refine eqA (.tmp 30) (.tmp 31) 24 (some 32) (wnc (offN a t)).toArray (wnc 0).toArray true (Eq.trans (run_eqN (offN_lt ha) (word_lt4 (by unfold M; decide)) _) (congrArg (fun z => Result.ok z _) (decide_eq_true (offB_zero Hhb1.out)))) ?_
    refine tF 5 [.val 3 (some 33) (.bool true), .val 4 (some 34) (.bool (offB a (t + 1)))] trivial ?_
    rw [show (offB a (t + 1)) = false from offB_up (by omega) Hhb1.out]
    refine tF 8 [.val 5 (some 35) (.bool true), .val 6 (some 36) (.bool true), .val 7 (some 4) (.bool true)] trivial ?_
    refine dF ?_
    try simp only [puts, Tk.put, Act.put, List.setIfInBounds_toArray, List.set_cons_zero, List.set_cons_succ]
    go_wp2_with fail
    go_ret
    exact ⟨rfl, hM.b⟩
  | true =>
    have Hhb1 := Lib.hid hb1
    clear hb1
    refine tF 2 [.val 1 (some 29) (.bool false)] trivial ?_
    refine dF ?_
    try simp only [puts, Tk.put, Act.put, List.setIfInBounds_toArray, List.set_cons_zero, List.set_cons_succ]
    go_upto_region 8 with fail
    refine wp_region_fromM (fun W => Sep w [] [.blk N12 24 (wnc (offN a (t + 1))), .blk N8 24 (wnc (offN a t)), .blk N2 24 (wnc a)] W) hM ?_
    clear hM
    rintro Y16 hM
    refine tF 2 [.load 0 (some 37) 24 (pt N8 0) (wn (offN a t)), .load 1 (some 38) 24 (pt N2 0) (wn a)] ⟨load_part (hM.at 1 rfl) 0 (wnc (offN a t)) rfl _ _ Try.underlying24 rfl (by kernel_rfl), load_part (hM.at 2 rfl) 0 (wnc a) rfl _ _ Try.underlying24 rfl (by kernel_rfl), trivial⟩ ?_
    refine cF (some 39) 12 #[wn (offN a t), wn a] ((refCmpN_any (offN_lt ha) ha _).mono ?_)
    rintro e Y17 ⟨rfl, hb⟩
    replace hM := hM.below hb
    clear hb
    refine tF 7 [.alt 3 (some 40) (.bool (decide ((cmpN (offN a t) a) ≤ 0))) (.bool true), .val 4 (some 41) (.bool true), .load 5 (some 42) 24 (pt N8 0) (wn (offN a t)), .val 6 (some 43) (wn 0)] ⟨congrArg Value.bool (cmp_le (offN_le a t)), load_part (hM.at 1 rfl) 0 (wnc (offN a t)) rfl _ _ Try.underlying24 rfl (by kernel_rfl), trivial⟩ ?_
    refine neA (.tmp 42) (.tmp 43) 24 (some 44) (wnc (offN a t)).toArray (wnc 0).toArray false (Eq.trans (run_eqN (offN_lt ha) (word_lt4 (by unfold M; decide)) _) (congrArg (fun z => Result.ok z _) (decide_eq_false (offB_some Hhb1.out).2))) ?_
    refine tF 11 [.val 8 (some 45) (.bool true), .val 9 (some 46) (.bool true), .val 10 (some 47) (.bool (offB a (t + 1)))] trivial ?_
    cases hb2 : offB a (t + 1) with
    | false =>
      have Hhb2 := Lib.hid hb2
      clear hb2
      refine tF 15 [.val 11 (some 48) (.bool true), .val 12 (some 49) (.bool true), .skip 13 (some 50), .skip 14 (some 51)] trivial ?_
      refine wpFrom_not (d := some 52) (by kernel_rfl) ?_
      refine tF 20 [.skip 16 (some 53), .val 17 (some 54) (.bool true), .val 18 (some 55) (.bool true), .val 19 (some 4) (.bool true)] trivial ?_
      refine dF ?_
      try simp only [puts, Tk.put, Act.put, List.setIfInBounds_toArray, List.set_cons_zero, List.set_cons_succ]
      go_wp2_with fail
      go_ret
      exact ⟨rfl, hM.b⟩
    | true =>
      have Hhb2 := Lib.hid hb2
      clear hb2
      refine tF 15 [.val 11 (some 48) (.bool false), .val 12 (some 49) (.bool false), .load 13 (some 50) 24 (pt N12 0) (wn (offN a (t + 1))), .load 14 (some 51) 24 (pt N8 0) (wn (offN a t))] ⟨load_part (hM.at 0 rfl) 0 (wnc (offN a (t + 1))) rfl _ _ Try.underlying24 rfl (by kernel_rfl), load_part (hM.at 1 rfl) 0 (wnc (offN a t)) rfl _ _ Try.underlying24 rfl (by kernel_rfl), trivial⟩ ?_
      refine cF (some 52) 12 #[wn (offN a (t + 1)), wn (offN a t)] ((refCmpN_any (offN_lt ha) (offN_lt ha) _).mono ?_)
      rintro e Y18 ⟨rfl, hb⟩
      replace hM := hM.below hb
      clear hb
      refine tF 20 [.alt 16 (some 53) (.bool (decide ((cmpN (offN a (t + 1)) (offN a t)) ≤ 0))) (.bool true), .val 17 (some 54) (.bool true), .val 18 (some 55) (.bool true), .val 19 (some 4) (.bool true)] ⟨congrArg Value.bool (cmp_le (offN_up (by omega) Hhb2.out)), trivial⟩ ?_
      refine dF ?_
      try simp only [puts, Tk.put, Act.put, List.setIfInBounds_toArray, List.set_cons_zero, List.set_cons_succ]
      go_wp2_with fail
      go_ret
      exact ⟨rfl, hM.b⟩
theorem cov_zero {v l a : Nat} (hv : v < M4) (h : covB v l a = true) : covB v l 0 = true := by
  rw [cov_eq _ _ _ hv] at h ⊢
  exact decide_eq_true (by have := of_decide_eq_true h; omega)
theorem cov_turn {v l a : Nat} (hv : v < M4) (h : covB v l a = true) : covB v a l = true := by
  rw [cov_eq _ _ _ hv] at h ⊢
  exact decide_eq_true (by have := of_decide_eq_true h; omega)
theorem cov_more {v l a m : Nat} (hv : v < M4) (hf : fitB v m = true) (h : covB v l a = true) : covB (addN v m) l a = true := by
  rw [cov_eq _ _ _ hv] at h
  rw [cov_eq _ _ _ addN_lt, show addN v m = v + m from if_pos (of_decide_eq_true hf)]
  exact decide_eq_true (by have := of_decide_eq_true h; omega)
set_option maxRecDepth 100000 in
set_option maxHeartbeats 4000000 in
theorem quoteCovers_any {v m l a : Nat} (hv : v < M4) (hm : m < M4) (hl : l < M4) (ha : a < M4) (w : World) : Calls Try.prog 5 #[wn v, wn m, wn l, wn a] w fun e W' => e = .returned (.bool true) ∧ Below w.heap.size w W' := by
  have hmx : Try.prog.follows .mixedOrders = true := by kernel_rfl
  have hM := Sep.start w
  go_enter Try.func5, Try.ntmps5
  go_upto_region 0 with fail
  refine wp_region_fromM (fun W => Sep w [] [] W) hM ?_
  clear hM
  rintro Y1 hM
  refine rF (some 4) (pt Y1.heap.size 0) (Y1.alloc (.cells (wnc v).toArray 24)) ?_
  replace hM := hM.alloc 24 (wnc v)
  generalize World.alloc _ _ = Y2 at *
  generalize hNe : Y1.heap.size = N2 at *
  clear hNe
  refine rF (some 5) (pt Y2.heap.size 0) (Y2.alloc (.cells (wnc m).toArray 24)) ?_
  replace hM := hM.alloc 24 (wnc m)
  generalize World.alloc _ _ = Y3 at *
  generalize hNe : Y2.heap.size = N3 at *
  clear hNe
  refine rF (some 6) (pt Y3.heap.size 0) (Y3.alloc (.cells (wnc l).toArray 24)) ?_
  replace hM := hM.alloc 24 (wnc l)
  generalize World.alloc _ _ = Y4 at *
  generalize hNe : Y3.heap.size = N4 at *
  clear hNe
  refine rF (some 7) (pt Y4.heap.size 0) (Y4.alloc (.cells (wnc a).toArray 24)) ?_
  replace hM := hM.alloc 24 (wnc a)
  generalize World.alloc _ _ = Y5 at *
  generalize hNe : Y4.heap.size = N5 at *
  clear hNe
  refine tF 5 [.val 4 (some 8) (.bool false)] trivial ?_
  refine dF ?_
  try simp only [puts, Tk.put, Act.put, List.setIfInBounds_toArray, List.set_cons_zero, List.set_cons_succ]
  go_upto_region 1 with fail
  refine wp_region_fromM (fun W => Sep w [] [.blk N5 24 (wnc a), .blk N4 24 (wnc l), .blk N3 24 (wnc m), .blk N2 24 (wnc v)] W) hM ?_
  clear hM
  rintro Y6 hM
  refine cF (some 11) 6 #[] ((alive18_any _).mono ?_)
  rintro e Y7 ⟨rfl, hb⟩
  replace hM := hM.below hb
  clear hb
  refine tF 2 [.val 1 (some 12) (.bool false)] trivial ?_
  refine dF ?_
  try simp only [puts, Tk.put, Act.put, List.setIfInBounds_toArray, List.set_cons_zero, List.set_cons_succ]
  go_upto_region 3 with fail
  refine wp_region_fromM (fun W => Sep w [] [.blk N5 24 (wnc a), .blk N4 24 (wnc l), .blk N3 24 (wnc m), .blk N2 24 (wnc v)] W) hM ?_
  clear hM
  rintro Y8 hM
  refine tF 2 [.load 0 (some 14) 24 (pt N2 0) (wn v), .load 1 (some 15) 24 (pt N3 0) (wn m)] ⟨load_part (hM.at 3 rfl) 0 (wnc v) rfl _ _ Try.underlying24 rfl (by kernel_rfl), load_part (hM.at 2 rfl) 0 (wnc m) rfl _ _ Try.underlying24 rfl (by kernel_rfl), trivial⟩ ?_
  refine cF (some 16) 10 #[wn v, wn m] ((refAddN_any hv hm _).mono ?_)
  rintro e Y9 ⟨rfl, hb⟩
  replace hM := hM.below hb
  clear hb
  refine tF 6 [.val 3 (some 13) (.tuple #[wn (addN v m), .bool (fitB v m)]), .val 4 (some 17) (wn (addN v m)), .val 5 (some 18) (.bool (fitB v m))] trivial ?_
  refine rF (some 9) (pt Y9.heap.size 0) (Y9.alloc (.cells (wnc 0).toArray 24)) ?_
  replace hM := hM.alloc 24 (wnc 0)
  generalize World.alloc _ _ = Y10 at *
  generalize hNe : Y9.heap.size = N10 at *
  clear hNe
  have hst := sto_part (wnc (addN v m)) (hM.at 0 rfl) 0 24 (wn (addN v m)) (wnc (addN v m)) rfl (by kernel_rfl) (Nat.le_of_ble_eq_true rfl) rfl rfl
  refine sF 24 (pt N10 0) (wn (addN v m)) (hst) ?_
  clear hst
  replace hM := hM.set 0 (cs' := wnc (addN v m)) rfl rfl
  generalize World.setRow _ _ _ = Y11 at *
  refine tF 9 [.val 8 (some 10) (.bool (fitB v m))] trivial ?_
  refine dF ?_
  try simp only [puts, Tk.put, Act.put, List.setIfInBounds_toArray, List.set_cons_zero, List.set_cons_succ]
  go_upto_region 4 with fail
  refine wp_region_fromM (fun W => Sep w [] [.blk N10 24 (wnc (addN v m)), .blk N5 24 (wnc a), .blk N4 24 (wnc l), .blk N3 24 (wnc m), .blk N2 24 (wnc v)] W) hM ?_
  clear hM
  rintro Y12 hM
  refine tF 3 [.load 0 (some 19) 24 (pt N2 0) (wn v), .load 1 (some 20) 24 (pt N4 0) (wn l), .load 2 (some 21) 24 (pt N5 0) (wn a)] ⟨load_part (hM.at 4 rfl) 0 (wnc v) rfl _ _ Try.underlying24 rfl (by kernel_rfl), load_part (hM.at 2 rfl) 0 (wnc l) rfl _ _ Try.underlying24 rfl (by kernel_rfl), load_part (hM.at 1 rfl) 0 (wnc a) rfl _ _ Try.underlying24 rfl (by kernel_rfl), trivial⟩ ?_
  refine cF (some 22) 11 #[wn v, wn l, wn a] ((covers_any hv hl ha _).mono ?_)
  rintro e Y13 ⟨rfl, hb⟩
  replace hM := hM.below hb
  clear hb
  cases hb1 : covB v l a with
  | false =>
    have Hhb1 := Lib.hid hb1
    clear hb1
    refine tF 5 [.val 4 (some 23) (.bool true)] trivial ?_
    refine dF ?_
    try simp only [puts, Tk.put, Act.put, List.setIfInBounds_toArray, List.set_cons_zero, List.set_cons_succ]
    go_upto_region 5 with fail
    refine wp_region_fromM (fun W => Sep w [] [.blk N10 24 (wnc (addN v m)), .blk N5 24 (wnc a), .blk N4 24 (wnc l), .blk N3 24 (wnc m), .blk N2 24 (wnc v)] W) hM ?_
    clear hM
    rintro Y14 hM
    refine tF 1 [.val 0 (some 8) (.bool true)] trivial ?_
    refine dF ?_
    try simp only [puts, Tk.put, Act.put, List.setIfInBounds_toArray, List.set_cons_zero, List.set_cons_succ]
    go_wp2_with fail
    go_ret
    exact ⟨rfl, hM.b⟩
  | true =>
    have Hhb1 := Lib.hid hb1
    clear hb1
    refine tF 5 [.val 4 (some 23) (.bool false)] trivial ?_
    refine dF ?_
    try simp only [puts, Tk.put, Act.put, List.setIfInBounds_toArray, List.set_cons_zero, List.set_cons_succ]
    go_upto_region 6 with fail
    refine wp_region_fromM (fun W => Sep w [] [.blk N10 24 (wnc (addN v m)), .blk N5 24 (wnc a), .blk N4 24 (wnc l), .blk N3 24 (wnc m), .blk N2 24 (wnc v)] W) hM ?_
    clear hM
    rintro Y15 hM
    refine tF 1 [.val 0 (some 24) (.bool (fitB v m))] trivial ?_
    cases hb2 : fitB v m with
    | false =>
      have Hhb2 := Lib.hid hb2
      clear hb2
      refine tF 6 [.val 1 (some 25) (.bool true), .val 2 (some 26) (.bool true), .skip 3 (some 27), .skip 4 (some 28), .skip 5 (some 29)] trivial ?_
      refine wpFrom_not (d := some 30) (by kernel_rfl) ?_
      refine tF 12 [.val 7 (some 31) (.bool true), .val 8 (some 32) (.bool true), .load 9 (some 33) 24 (pt N2 0) (wn v), .load 10 (some 34) 24 (pt N4 0) (wn l), .val 11 (some 35) (wn 0)] ⟨load_part (hM.at 4 rfl) 0 (wnc v) rfl _ _ Try.underlying24 rfl (by kernel_rfl), load_part (hM.at 2 rfl) 0 (wnc l) rfl _ _ Try.underlying24 rfl (by kernel_rfl), trivial⟩ ?_
      refine cF (some 36) 11 #[wn v, wn l, wn 0] ((covers_any hv hl (word_lt4 (by unfold M; decide)) _).mono ?_)
      rintro e Y16 ⟨rfl, hb⟩
      replace hM := hM.below hb
      clear hb
      refine tF 15 [.val 13 (some 37) (.bool (covB v l 0)), .val 14 (some 38) (.bool (covB v l 0))] trivial ?_
      rw [show (covB v l 0) = true from cov_zero hv Hhb1.out]
      refine tF 18 [.load 15 (some 39) 24 (pt N2 0) (wn v), .load 16 (some 40) 24 (pt N5 0) (wn a), .load 17 (some 41) 24 (pt N4 0) (wn l)] ⟨load_part (hM.at 4 rfl) 0 (wnc v) rfl _ _ Try.underlying24 rfl (by kernel_rfl), load_part (hM.at 1 rfl) 0 (wnc a) rfl _ _ Try.underlying24 rfl (by kernel_rfl), load_part (hM.at 2 rfl) 0 (wnc l) rfl _ _ Try.underlying24 rfl (by kernel_rfl), trivial⟩ ?_
      refine cF (some 42) 11 #[wn v, wn a, wn l] ((covers_any hv ha hl _).mono ?_)
      rintro e Y17 ⟨rfl, hb⟩
      replace hM := hM.below hb
      clear hb
      refine tF 21 [.val 19 (some 43) (.bool (covB v a l)), .val 20 (some 8) (.bool (covB v a l))] trivial ?_
      refine dF ?_
      try simp only [puts, Tk.put, Act.put, List.setIfInBounds_toArray, List.set_cons_zero, List.set_cons_succ]
      go_wp2_with fail
      go_ret
      exact ⟨congrArg (fun b => Ending.returned (Value.bool b)) (cov_turn hv Hhb1.out), hM.b⟩
    | true =>
      have Hhb2 := Lib.hid hb2
      clear hb2
      refine tF 6 [.val 1 (some 25) (.bool false), .val 2 (some 26) (.bool false), .load 3 (some 27) 24 (pt N10 0) (wn (addN v m)), .load 4 (some 28) 24 (pt N4 0) (wn l), .load 5 (some 29) 24 (pt N5 0) (wn a)] ⟨load_part (hM.at 0 rfl) 0 (wnc (addN v m)) rfl _ _ Try.underlying24 rfl (by kernel_rfl), load_part (hM.at 2 rfl) 0 (wnc l) rfl _ _ Try.underlying24 rfl (by kernel_rfl), load_part (hM.at 1 rfl) 0 (wnc a) rfl _ _ Try.underlying24 rfl (by kernel_rfl), trivial⟩ ?_
      refine cF (some 30) 11 #[wn (addN v m), wn l, wn a] ((covers_any addN_lt hl ha _).mono ?_)
      rintro e Y18 ⟨rfl, hb⟩
      replace hM := hM.below hb
      clear hb
      refine tF 9 [.val 7 (some 31) (.bool (covB (addN v m) l a)), .val 8 (some 32) (.bool (covB (addN v m) l a))] trivial ?_
      rw [show (covB (addN v m) l a) = true from cov_more hv Hhb2.out Hhb1.out]
      refine tF 12 [.load 9 (some 33) 24 (pt N2 0) (wn v), .load 10 (some 34) 24 (pt N4 0) (wn l), .val 11 (some 35) (wn 0)] ⟨load_part (hM.at 4 rfl) 0 (wnc v) rfl _ _ Try.underlying24 rfl (by kernel_rfl), load_part (hM.at 2 rfl) 0 (wnc l) rfl _ _ Try.underlying24 rfl (by kernel_rfl), trivial⟩ ?_
      refine cF (some 36) 11 #[wn v, wn l, wn 0] ((covers_any hv hl (word_lt4 (by unfold M; decide)) _).mono ?_)
      rintro e Y19 ⟨rfl, hb⟩
      replace hM := hM.below hb
      clear hb
      refine tF 15 [.val 13 (some 37) (.bool (covB v l 0)), .val 14 (some 38) (.bool (covB v l 0))] trivial ?_
      rw [show (covB v l 0) = true from cov_zero hv Hhb1.out]
      refine tF 18 [.load 15 (some 39) 24 (pt N2 0) (wn v), .load 16 (some 40) 24 (pt N5 0) (wn a), .load 17 (some 41) 24 (pt N4 0) (wn l)] ⟨load_part (hM.at 4 rfl) 0 (wnc v) rfl _ _ Try.underlying24 rfl (by kernel_rfl), load_part (hM.at 1 rfl) 0 (wnc a) rfl _ _ Try.underlying24 rfl (by kernel_rfl), load_part (hM.at 2 rfl) 0 (wnc l) rfl _ _ Try.underlying24 rfl (by kernel_rfl), trivial⟩ ?_
      refine cF (some 42) 11 #[wn v, wn a, wn l] ((covers_any hv ha hl _).mono ?_)
      rintro e Y20 ⟨rfl, hb⟩
      replace hM := hM.below hb
      clear hb
      refine tF 21 [.val 19 (some 43) (.bool (covB v a l)), .val 20 (some 8) (.bool (covB v a l))] trivial ?_
      refine dF ?_
      try simp only [puts, Tk.put, Act.put, List.setIfInBounds_toArray, List.set_cons_zero, List.set_cons_succ]
      go_wp2_with fail
      go_ret
      exact ⟨congrArg (fun b => Ending.returned (Value.bool b)) (cov_turn hv Hhb1.out), hM.b⟩
end Go.Proofs.Ytefbkchledfoiaa
