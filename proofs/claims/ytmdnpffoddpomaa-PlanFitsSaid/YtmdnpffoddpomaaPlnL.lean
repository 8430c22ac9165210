/-
  The laws of times.
-/
import Derived.Test.YtmdnpffoddpomaaPlnF
namespace Go.Proofs.Ytmdnpffoddpomaa
open Go.RowKit Go.Shelf
attribute [local irreducible] wpFrom wpAnyH StepH

theorem tm_no {t : Int} (h : decide (0 ≤ t) = false) : tmB t = false := decide_eq_false (by have h := of_decide_eq_false h; omega)
theorem tm_no2 {t : Int} (h : decide (t ≤ 1099511627776) = false) : tmB t = false := decide_eq_false (by have h := of_decide_eq_false h; omega)
theorem tm_ok {t : Int} (h : decide (0 ≤ t) = true) (h' : decide (t ≤ 1099511627776) = true) : tmB t = true := decide_eq_true ⟨of_decide_eq_true h, of_decide_eq_true h'⟩
set_option maxRecDepth 100000 in
set_option maxHeartbeats 4000000 in
theorem planTells_any (d a b : Int) (w : World) : Calls Try.prog 3 #[.int .i64 d, .int .i64 a, .int .i64 b] w fun e W' => e = .returned (.bool true) ∧ Below w.heap.size w W' := by
  have hmx : Try.prog.follows .mixedOrders = true := by kernel_rfl
  have hM := Sep.start w
  go_enter Try.func3, Try.ntmps3
  go_upto_region 0 with fail
  refine wp_region_fromM (fun W => Sep w [] [] W) hM ?_
  clear hM
  rintro Y1 hM
  refine tF 1 [.val 0 (some 6) (.bool false)] trivial ?_
  refine dF ?_
  try simp only [puts, Tk.put, Act.put, List.setIfInBounds_toArray, List.set_cons_zero, List.set_cons_succ]
  go_upto_region 1 with fail
  refine wp_region_fromM (fun W => Sep w [] [] W) hM ?_
  clear hM
  rintro Y2 hM
  refine tF 4 [.val 0 (some 10) (.int .i64 d), .val 1 (some 11) (.int .i64 (max2I d 1)), .alt 2 (some 12) (.int .i64 (min2I (max2I d 1) 4)) (.int .i64 (dlyI d)), .val 3 (some 7) (.int .i64 (dlyI d))] ⟨congrArg (Value.int .i64) (rfl), trivial⟩ ?_
  refine dF ?_
  try simp only [puts, Tk.put, Act.put, List.setIfInBounds_toArray, List.set_cons_zero, List.set_cons_succ]
  go_upto_region 2 with fail
  refine wp_region_fromM (fun W => Sep w [] [] W) hM ?_
  clear hM
  rintro Y3 hM
  refine tF 3 [.val 0 (some 13) (.int .i64 a), .val 1 (some 14) (.bool (decide (0 ≤ a))), .val 2 (some 15) (.bool (decide (0 ≤ a)))] trivial ?_
  cases hb1 : decide (0 ≤ a) with
  | false =>
    have Hhb1 := Lib.hid hb1
    clear hb1
    have HT := Lib.hid (show timesB a b = false from times_a (tm_no Hhb1.out))
    refine tF 15 [.skip 3 (some 16), .skip 4 (some 17), .val 5 (some 18) (.bool false), .val 6 (some 19) (.bool false), .skip 7 (some 20), .skip 8 (some 21), .val 9 (some 22) (.bool false), .val 10 (some 23) (.bool false), .skip 11 (some 24), .skip 12 (some 25), .val 13 (some 26) (.bool false), .val 14 (some 8) (.bool false)] trivial ?_
    refine dF ?_
    try simp only [puts, Tk.put, Act.put, List.setIfInBounds_toArray, List.set_cons_zero, List.set_cons_succ]
    go_upto_region 3 with fail
    refine wp_region_fromM (fun W => Sep w [] [] W) hM ?_
    clear hM
    rintro Y4 hM
    refine tF 1 [.val 0 (some 9) (.int .i64 0)] trivial ?_
    refine dF ?_
    try simp only [puts, Tk.put, Act.put, List.setIfInBounds_toArray, List.set_cons_zero, List.set_cons_succ]
    go_upto_region 4 with fail
    refine wp_region_fromM (fun W => Sep w [] [] W) hM ?_
    clear hM
    rintro Y5 hM
    refine tF 1 [.val 0 (some 27) (.bool false)] trivial ?_
    refine dF ?_
    try simp only [puts, Tk.put, Act.put, List.setIfInBounds_toArray, List.set_cons_zero, List.set_cons_succ]
    go_upto_region 6 with fail
    refine wp_region_fromM (fun W => Sep w [] [] W) hM ?_
    clear hM
    rintro Y6 hM
    refine tF 1 [.val 0 (some 31) (.int .i64 d)] trivial ?_
    refine cF (some 32) 6 #[.int .i64 d] ((delay_any d _).mono ?_)
    rintro e Y7 ⟨rfl, hb⟩
    replace hM := hM.below hb
    clear hb
    refine tF 6 [.val 2 (some 33) (.int .i64 (dlyI d)), .alt 3 (some 34) (.bool ((dlyI d) == (dlyI d))) (.bool true), .val 4 (some 35) (.bool true), .val 5 (some 36) (.int .i64 d)] ⟨congrArg Value.bool (beq_self_eq_true _), trivial⟩ ?_
    refine cF (some 37) 7 #[.int .i64 d] ((short_any d _).mono ?_)
    rintro e Y8 ⟨rfl, hb⟩
    replace hM := hM.below hb
    clear hb
    refine tF 14 [.val 7 (some 38) (.int .i64 (dlyI d)), .alt 8 (some 39) (.int .i64 (IntKind.i64.wrap (8 * (dlyI d)))) (.int .i64 (8 * (dlyI d))), .alt 9 (some 40) (.int .i64 (IntKind.i64.wrap ((8 * (dlyI d)) + 4))) (.int .i64 ((8 * (dlyI d)) + 4)), .alt 10 (some 41) (.bool ((8 * dlyI d + 4) == ((8 * (dlyI d)) + 4))) (.bool true), .val 11 (some 42) (.bool true), .val 12 (some 43) (.bool true), .val 13 (some 44) (.int .i64 d)] ⟨congrArg (Value.int .i64) (IntWalk.i64_in _ (by have := (dly_in d).1; have := (dly_in d).2; omega)), congrArg (Value.int .i64) (IntWalk.i64_in _ (by have := (dly_in d).1; have := (dly_in d).2; omega)), congrArg Value.bool (beq_self_eq_true _), trivial⟩ ?_
    refine cF (some 45) 8 #[.int .i64 d] ((long_any d _).mono ?_)
    rintro e Y9 ⟨rfl, hb⟩
    replace hM := hM.below hb
    clear hb
    refine tF 22 [.val 15 (some 46) (.int .i64 (dlyI d)), .alt 16 (some 47) (.int .i64 (IntKind.i64.wrap (16 * (dlyI d)))) (.int .i64 (16 * (dlyI d))), .alt 17 (some 48) (.int .i64 (IntKind.i64.wrap ((16 * (dlyI d)) + 12))) (.int .i64 ((16 * (dlyI d)) + 12)), .alt 18 (some 49) (.bool ((16 * dlyI d + 12) == ((16 * (dlyI d)) + 12))) (.bool true), .val 19 (some 50) (.bool true), .val 20 (some 51) (.bool true), .val 21 (some 52) (.int .i64 d)] ⟨congrArg (Value.int .i64) (IntWalk.i64_in _ (by have := (dly_in d).1; have := (dly_in d).2; omega)), congrArg (Value.int .i64) (IntWalk.i64_in _ (by have := (dly_in d).1; have := (dly_in d).2; omega)), congrArg Value.bool (beq_self_eq_true _), trivial⟩ ?_
    refine cF (some 53) 9 #[.int .i64 d] ((window_any d _).mono ?_)
    rintro e Y10 ⟨rfl, hb⟩
    replace hM := hM.below hb
    clear hb
    refine tF 29 [.val 23 (some 54) (.bool true), .val 24 (some 55) (.bool true), .val 25 (some 56) (.bool true), .val 26 (some 57) (.int .i64 a), .val 27 (some 58) (.int .i64 b), .val 28 (some 59) (.int .i64 d)] trivial ?_
    refine cF (some 60) 10 #[.int .i64 a, .int .i64 b, .int .i64 d] ((release_any a b d _).mono ?_)
    rintro e Y11 ⟨rfl, hb⟩
    replace hM := hM.below hb
    clear hb
    refine tF 43 [.val 30 (some 61) (.bool false), .val 31 (some 62) (.bool false), .skip 32 (some 63), .skip 33 (some 64), .skip 34 (some 65), .skip 35 (some 66), .val 36 (some 67) (.bool false), .alt 37 (some 68) (.bool ((relB a b d) == false)) (.bool true), .val 38 (some 69) (.bool true), .val 39 (some 70) (.bool true), .val 40 (some 71) (.int .i64 a), .val 41 (some 72) (.int .i64 b), .val 42 (some 73) (.int .i64 d)] ⟨congrArg Value.bool (by unfold relB; rw [HT.out]; rfl), trivial⟩ ?_
    refine cF (some 74) 11 #[.int .i64 a, .int .i64 b, .int .i64 d] ((mirror_any a b d _).mono ?_)
    rintro e Y12 ⟨rfl, hb⟩
    replace hM := hM.below hb
    clear hb
    refine tF 58 [.val 44 (some 75) (.bool false), .val 45 (some 76) (.bool false), .skip 46 (some 77), .skip 47 (some 78), .skip 48 (some 79), .skip 49 (some 80), .skip 50 (some 81), .val 51 (some 82) (.bool false), .alt 52 (some 83) (.bool ((mirB a b d) == false)) (.bool true), .val 53 (some 84) (.bool true), .val 54 (some 85) (.bool true), .val 55 (some 86) (.int .i64 a), .val 56 (some 87) (.int .i64 b), .val 57 (some 88) (.int .i64 d)] ⟨congrArg Value.bool (by unfold mirB; rw [HT.out]; rfl), trivial⟩ ?_
    refine cF (some 89) 12 #[.int .i64 a, .int .i64 b, .int .i64 d] ((due_any a b d _).mono ?_)
    rintro e Y13 ⟨rfl, hb⟩
    replace hM := hM.below hb
    clear hb
    refine tF 68 [.val 59 (some 90) (.bool false), .val 60 (some 91) (.bool false), .skip 61 (some 92), .skip 62 (some 93), .skip 63 (some 94), .val 64 (some 95) (.bool false), .alt 65 (some 96) (.bool ((dueB a b d) == false)) (.bool true), .val 66 (some 97) (.bool true), .val 67 (some 98) (.bool true)] ⟨congrArg Value.bool (by unfold dueB; rw [HT.out]; rfl), trivial⟩ ?_
    refine cF (some 99) 13 #[] ((alive17_any _).mono ?_)
    rintro e Y14 ⟨rfl, hb⟩
    replace hM := hM.below hb
    clear hb
    refine tF 71 [.val 69 (some 100) (.bool true), .val 70 (some 6) (.bool true)] trivial ?_
    refine dF ?_
    try simp only [puts, Tk.put, Act.put, List.setIfInBounds_toArray, List.set_cons_zero, List.set_cons_succ]
    go_wp2_with fail
    go_ret
    exact ⟨rfl, hM.b⟩
  | true =>
    have Hhb1 := Lib.hid hb1
    clear hb1
    refine tF 7 [.val 3 (some 16) (.int .i64 a), .val 4 (some 17) (.bool (decide (a ≤ 1099511627776))), .val 5 (some 18) (.bool (decide (a ≤ 1099511627776))), .val 6 (some 19) (.bool (decide (a ≤ 1099511627776)))] trivial ?_
    cases hb2 : decide (a ≤ 1099511627776) with
    | false =>
      have Hhb2 := Lib.hid hb2
      clear hb2
      have HT := Lib.hid (show timesB a b = false from times_a (tm_no2 Hhb2.out))
      refine tF 15 [.skip 7 (some 20), .skip 8 (some 21), .val 9 (some 22) (.bool false), .val 10 (some 23) (.bool false), .skip 11 (some 24), .skip 12 (some 25), .val 13 (some 26) (.bool false), .val 14 (some 8) (.bool false)] trivial ?_
      refine dF ?_
      try simp only [puts, Tk.put, Act.put, List.setIfInBounds_toArray, List.set_cons_zero, List.set_cons_succ]
      go_upto_region 3 with fail
      refine wp_region_fromM (fun W => Sep w [] [] W) hM ?_
      clear hM
      rintro Y15 hM
      refine tF 1 [.val 0 (some 9) (.int .i64 0)] trivial ?_
      refine dF ?_
      try simp only [puts, Tk.put, Act.put, List.setIfInBounds_toArray, List.set_cons_zero, List.set_cons_succ]
      go_upto_region 4 with fail
      refine wp_region_fromM (fun W => Sep w [] [] W) hM ?_
      clear hM
      rintro Y16 hM
      refine tF 1 [.val 0 (some 27) (.bool false)] trivial ?_
      refine dF ?_
      try simp only [puts, Tk.put, Act.put, List.setIfInBounds_toArray, List.set_cons_zero, List.set_cons_succ]
      go_upto_region 6 with fail
      refine wp_region_fromM (fun W => Sep w [] [] W) hM ?_
      clear hM
      rintro Y17 hM
      refine tF 1 [.val 0 (some 31) (.int .i64 d)] trivial ?_
      refine cF (some 32) 6 #[.int .i64 d] ((delay_any d _).mono ?_)
      rintro e Y18 ⟨rfl, hb⟩
      replace hM := hM.below hb
      clear hb
      refine tF 6 [.val 2 (some 33) (.int .i64 (dlyI d)), .alt 3 (some 34) (.bool ((dlyI d) == (dlyI d))) (.bool true), .val 4 (some 35) (.bool true), .val 5 (some 36) (.int .i64 d)] ⟨congrArg Value.bool (beq_self_eq_true _), trivial⟩ ?_
      refine cF (some 37) 7 #[.int .i64 d] ((short_any d _).mono ?_)
      rintro e Y19 ⟨rfl, hb⟩
      replace hM := hM.below hb
      clear hb
      refine tF 14 [.val 7 (some 38) (.int .i64 (dlyI d)), .alt 8 (some 39) (.int .i64 (IntKind.i64.wrap (8 * (dlyI d)))) (.int .i64 (8 * (dlyI d))), .alt 9 (some 40) (.int .i64 (IntKind.i64.wrap ((8 * (dlyI d)) + 4))) (.int .i64 ((8 * (dlyI d)) + 4)), .alt 10 (some 41) (.bool ((8 * dlyI d + 4) == ((8 * (dlyI d)) + 4))) (.bool true), .val 11 (some 42) (.bool true), .val 12 (some 43) (.bool true), .val 13 (some 44) (.int .i64 d)] ⟨congrArg (Value.int .i64) (IntWalk.i64_in _ (by have := (dly_in d).1; have := (dly_in d).2; omega)), congrArg (Value.int .i64) (IntWalk.i64_in _ (by have := (dly_in d).1; have := (dly_in d).2; omega)), congrArg Value.bool (beq_self_eq_true _), trivial⟩ ?_
      refine cF (some 45) 8 #[.int .i64 d] ((long_any d _).mono ?_)
      rintro e Y20 ⟨rfl, hb⟩
      replace hM := hM.below hb
      clear hb
      refine tF 22 [.val 15 (some 46) (.int .i64 (dlyI d)), .alt 16 (some 47) (.int .i64 (IntKind.i64.wrap (16 * (dlyI d)))) (.int .i64 (16 * (dlyI d))), .alt 17 (some 48) (.int .i64 (IntKind.i64.wrap ((16 * (dlyI d)) + 12))) (.int .i64 ((16 * (dlyI d)) + 12)), .alt 18 (some 49) (.bool ((16 * dlyI d + 12) == ((16 * (dlyI d)) + 12))) (.bool true), .val 19 (some 50) (.bool true), .val 20 (some 51) (.bool true), .val 21 (some 52) (.int .i64 d)] ⟨congrArg (Value.int .i64) (IntWalk.i64_in _ (by have := (dly_in d).1; have := (dly_in d).2; omega)), congrArg (Value.int .i64) (IntWalk.i64_in _ (by have := (dly_in d).1; have := (dly_in d).2; omega)), congrArg Value.bool (beq_self_eq_true _), trivial⟩ ?_
      refine cF (some 53) 9 #[.int .i64 d] ((window_any d _).mono ?_)
      rintro e Y21 ⟨rfl, hb⟩
      replace hM := hM.below hb
      clear hb
      refine tF 29 [.val 23 (some 54) (.bool true), .val 24 (some 55) (.bool true), .val 25 (some 56) (.bool true), .val 26 (some 57) (.int .i64 a), .val 27 (some 58) (.int .i64 b), .val 28 (some 59) (.int .i64 d)] trivial ?_
      refine cF (some 60) 10 #[.int .i64 a, .int .i64 b, .int .i64 d] ((release_any a b d _).mono ?_)
      rintro e Y22 ⟨rfl, hb⟩
      replace hM := hM.below hb
      clear hb
      refine tF 43 [.val 30 (some 61) (.bool false), .val 31 (some 62) (.bool false), .skip 32 (some 63), .skip 33 (some 64), .skip 34 (some 65), .skip 35 (some 66), .val 36 (some 67) (.bool false), .alt 37 (some 68) (.bool ((relB a b d) == false)) (.bool true), .val 38 (some 69) (.bool true), .val 39 (some 70) (.bool true), .val 40 (some 71) (.int .i64 a), .val 41 (some 72) (.int .i64 b), .val 42 (some 73) (.int .i64 d)] ⟨congrArg Value.bool (by unfold relB; rw [HT.out]; rfl), trivial⟩ ?_
      refine cF (some 74) 11 #[.int .i64 a, .int .i64 b, .int .i64 d] ((mirror_any a b d _).mono ?_)
      rintro e Y23 ⟨rfl, hb⟩
      replace hM := hM.below hb
      clear hb
      refine tF 58 [.val 44 (some 75) (.bool false), .val 45 (some 76) (.bool false), .skip 46 (some 77), .skip 47 (some 78), .skip 48 (some 79), .skip 49 (some 80), .skip 50 (some 81), .val 51 (some 82) (.bool false), .alt 52 (some 83) (.bool ((mirB a b d) == false)) (.bool true), .val 53 (some 84) (.bool true), .val 54 (some 85) (.bool true), .val 55 (some 86) (.int .i64 a), .val 56 (some 87) (.int .i64 b), .val 57 (some 88) (.int .i64 d)] ⟨congrArg Value.bool (by unfold mirB; rw [HT.out]; rfl), trivial⟩ ?_
      refine cF (some 89) 12 #[.int .i64 a, .int .i64 b, .int .i64 d] ((due_any a b d _).mono ?_)
      rintro e Y24 ⟨rfl, hb⟩
      replace hM := hM.below hb
      clear hb
      refine tF 68 [.val 59 (some 90) (.bool false), .val 60 (some 91) (.bool false), .skip 61 (some 92), .skip 62 (some 93), .skip 63 (some 94), .val 64 (some 95) (.bool false), .alt 65 (some 96) (.bool ((dueB a b d) == false)) (.bool true), .val 66 (some 97) (.bool true), .val 67 (some 98) (.bool true)] ⟨congrArg Value.bool (by unfold dueB; rw [HT.out]; rfl), trivial⟩ ?_
      refine cF (some 99) 13 #[] ((alive17_any _).mono ?_)
      rintro e Y25 ⟨rfl, hb⟩
      replace hM := hM.below hb
      clear hb
      refine tF 71 [.val 69 (some 100) (.bool true), .val 70 (some 6) (.bool true)] trivial ?_
      refine dF ?_
      try simp only [puts, Tk.put, Act.put, List.setIfInBounds_toArray, List.set_cons_zero, List.set_cons_succ]
      go_wp2_with fail
      go_ret
      exact ⟨rfl, hM.b⟩
    | true =>
      have Hhb2 := Lib.hid hb2
      clear hb2
      refine tF 11 [.val 7 (some 20) (.int .i64 b), .val 8 (some 21) (.bool (decide (0 ≤ b))), .val 9 (some 22) (.bool (decide (0 ≤ b))), .val 10 (some 23) (.bool (decide (0 ≤ b)))] trivial ?_
      cases hb3 : decide (0 ≤ b) with
      | false =>
        have Hhb3 := Lib.hid hb3
        clear hb3
        have HT := Lib.hid (show timesB a b = false from times_b (tm_no Hhb3.out))
        refine tF 15 [.skip 11 (some 24), .skip 12 (some 25), .val 13 (some 26) (.bool false), .val 14 (some 8) (.bool false)] trivial ?_
        refine dF ?_
        try simp only [puts, Tk.put, Act.put, List.setIfInBounds_toArray, List.set_cons_zero, List.set_cons_succ]
        go_upto_region 3 with fail
        refine wp_region_fromM (fun W => Sep w [] [] W) hM ?_
        clear hM
        rintro Y26 hM
        refine tF 1 [.val 0 (some 9) (.int .i64 0)] trivial ?_
        refine dF ?_
        try simp only [puts, Tk.put, Act.put, List.setIfInBounds_toArray, List.set_cons_zero, List.set_cons_succ]
        go_upto_region 4 with fail
        refine wp_region_fromM (fun W => Sep w [] [] W) hM ?_
        clear hM
        rintro Y27 hM
        refine tF 1 [.val 0 (some 27) (.bool false)] trivial ?_
        refine dF ?_
        try simp only [puts, Tk.put, Act.put, List.setIfInBounds_toArray, List.set_cons_zero, List.set_cons_succ]
        go_upto_region 6 with fail
        refine wp_region_fromM (fun W => Sep w [] [] W) hM ?_
        clear hM
        rintro Y28 hM
        refine tF 1 [.val 0 (some 31) (.int .i64 d)] trivial ?_
        refine cF (some 32) 6 #[.int .i64 d] ((delay_any d _).mono ?_)
        rintro e Y29 ⟨rfl, hb⟩
        replace hM := hM.below hb
        clear hb
        refine tF 6 [.val 2 (some 33) (.int .i64 (dlyI d)), .alt 3 (some 34) (.bool ((dlyI d) == (dlyI d))) (.bool true), .val 4 (some 35) (.bool true), .val 5 (some 36) (.int .i64 d)] ⟨congrArg Value.bool (beq_self_eq_true _), trivial⟩ ?_
        refine cF (some 37) 7 #[.int .i64 d] ((short_any d _).mono ?_)
        rintro e Y30 ⟨rfl, hb⟩
        replace hM := hM.below hb
        clear hb
        refine tF 14 [.val 7 (some 38) (.int .i64 (dlyI d)), .alt 8 (some 39) (.int .i64 (IntKind.i64.wrap (8 * (dlyI d)))) (.int .i64 (8 * (dlyI d))), .alt 9 (some 40) (.int .i64 (IntKind.i64.wrap ((8 * (dlyI d)) + 4))) (.int .i64 ((8 * (dlyI d)) + 4)), .alt 10 (some 41) (.bool ((8 * dlyI d + 4) == ((8 * (dlyI d)) + 4))) (.bool true), .val 11 (some 42) (.bool true), .val 12 (some 43) (.bool true), .val 13 (some 44) (.int .i64 d)] ⟨congrArg (Value.int .i64) (IntWalk.i64_in _ (by have := (dly_in d).1; have := (dly_in d).2; omega)), congrArg (Value.int .i64) (IntWalk.i64_in _ (by have := (dly_in d).1; have := (dly_in d).2; omega)), congrArg Value.bool (beq_self_eq_true _), trivial⟩ ?_
        refine cF (some 45) 8 #[.int .i64 d] ((long_any d _).mono ?_)
        rintro e Y31 ⟨rfl, hb⟩
        replace hM := hM.below hb
        clear hb
        refine tF 22 [.val 15 (some 46) (.int .i64 (dlyI d)), .alt 16 (some 47) (.int .i64 (IntKind.i64.wrap (16 * (dlyI d)))) (.int .i64 (16 * (dlyI d))), .alt 17 (some 48) (.int .i64 (IntKind.i64.wrap ((16 * (dlyI d)) + 12))) (.int .i64 ((16 * (dlyI d)) + 12)), .alt 18 (some 49) (.bool ((16 * dlyI d + 12) == ((16 * (dlyI d)) + 12))) (.bool true), .val 19 (some 50) (.bool true), .val 20 (some 51) (.bool true), .val 21 (some 52) (.int .i64 d)] ⟨congrArg (Value.int .i64) (IntWalk.i64_in _ (by have := (dly_in d).1; have := (dly_in d).2; omega)), congrArg (Value.int .i64) (IntWalk.i64_in _ (by have := (dly_in d).1; have := (dly_in d).2; omega)), congrArg Value.bool (beq_self_eq_true _), trivial⟩ ?_
        refine cF (some 53) 9 #[.int .i64 d] ((window_any d _).mono ?_)
        rintro e Y32 ⟨rfl, hb⟩
        replace hM := hM.below hb
        clear hb
        refine tF 29 [.val 23 (some 54) (.bool true), .val 24 (some 55) (.bool true), .val 25 (some 56) (.bool true), .val 26 (some 57) (.int .i64 a), .val 27 (some 58) (.int .i64 b), .val 28 (some 59) (.int .i64 d)] trivial ?_
        refine cF (some 60) 10 #[.int .i64 a, .int .i64 b, .int .i64 d] ((release_any a b d _).mono ?_)
        rintro e Y33 ⟨rfl, hb⟩
        replace hM := hM.below hb
        clear hb
        refine tF 43 [.val 30 (some 61) (.bool false), .val 31 (some 62) (.bool false), .skip 32 (some 63), .skip 33 (some 64), .skip 34 (some 65), .skip 35 (some 66), .val 36 (some 67) (.bool false), .alt 37 (some 68) (.bool ((relB a b d) == false)) (.bool true), .val 38 (some 69) (.bool true), .val 39 (some 70) (.bool true), .val 40 (some 71) (.int .i64 a), .val 41 (some 72) (.int .i64 b), .val 42 (some 73) (.int .i64 d)] ⟨congrArg Value.bool (by unfold relB; rw [HT.out]; rfl), trivial⟩ ?_
        refine cF (some 74) 11 #[.int .i64 a, .int .i64 b, .int .i64 d] ((mirror_any a b d _).mono ?_)
        rintro e Y34 ⟨rfl, hb⟩
        replace hM := hM.below hb
        clear hb
        refine tF 58 [.val 44 (some 75) (.bool false), .val 45 (some 76) (.bool false), .skip 46 (some 77), .skip 47 (some 78), .skip 48 (some 79), .skip 49 (some 80), .skip 50 (some 81), .val 51 (some 82) (.bool false), .alt 52 (some 83) (.bool ((mirB a b d) == false)) (.bool true), .val 53 (some 84) (.bool true), .val 54 (some 85) (.bool true), .val 55 (some 86) (.int .i64 a), .val 56 (some 87) (.int .i64 b), .val 57 (some 88) (.int .i64 d)] ⟨congrArg Value.bool (by unfold mirB; rw [HT.out]; rfl), trivial⟩ ?_
        refine cF (some 89) 12 #[.int .i64 a, .int .i64 b, .int .i64 d] ((due_any a b d _).mono ?_)
        rintro e Y35 ⟨rfl, hb⟩
        replace hM := hM.below hb
        clear hb
        refine tF 68 [.val 59 (some 90) (.bool false), .val 60 (some 91) (.bool false), .skip 61 (some 92), .skip 62 (some 93), .skip 63 (some 94), .val 64 (some 95) (.bool false), .alt 65 (some 96) (.bool ((dueB a b d) == false)) (.bool true), .val 66 (some 97) (.bool true), .val 67 (some 98) (.bool true)] ⟨congrArg Value.bool (by unfold dueB; rw [HT.out]; rfl), trivial⟩ ?_
        refine cF (some 99) 13 #[] ((alive17_any _).mono ?_)
        rintro e Y36 ⟨rfl, hb⟩
        replace hM := hM.below hb
        clear hb
        refine tF 71 [.val 69 (some 100) (.bool true), .val 70 (some 6) (.bool true)] trivial ?_
        refine dF ?_
        try simp only [puts, Tk.put, Act.put, List.setIfInBounds_toArray, List.set_cons_zero, List.set_cons_succ]
        go_wp2_with fail
        go_ret
        exact ⟨rfl, hM.b⟩
      | true =>
        have Hhb3 := Lib.hid hb3
        clear hb3
        refine tF 15 [.val 11 (some 24) (.int .i64 b), .val 12 (some 25) (.bool (decide (b ≤ 1099511627776))), .val 13 (some 26) (.bool (decide (b ≤ 1099511627776))), .val 14 (some 8) (.bool (decide (b ≤ 1099511627776)))] trivial ?_
        refine dF ?_
        try simp only [puts, Tk.put, Act.put, List.setIfInBounds_toArray, List.set_cons_zero, List.set_cons_succ]
        go_upto_region 3 with fail
        refine wp_region_fromM (fun W => Sep w [] [] W) hM ?_
        clear hM
        rintro Y37 hM
        refine tF 1 [.val 0 (some 9) (.int .i64 0)] trivial ?_
        refine dF ?_
        try simp only [puts, Tk.put, Act.put, List.setIfInBounds_toArray, List.set_cons_zero, List.set_cons_succ]
        go_upto_region 4 with fail
        refine wp_region_fromM (fun W => Sep w [] [] W) hM ?_
        clear hM
        rintro Y38 hM
        refine tF 1 [.val 0 (some 27) (.bool (decide (b ≤ 1099511627776)))] trivial ?_
        refine dF ?_
        try simp only [puts, Tk.put, Act.put, List.setIfInBounds_toArray, List.set_cons_zero, List.set_cons_succ]
        cases hb4 : decide (b ≤ 1099511627776) with
        | false =>
          have Hhb4 := Lib.hid hb4
          clear hb4
          have HT := Lib.hid (show timesB a b = false from times_b (tm_no2 Hhb4.out))
          go_upto_region 6 with fail
          refine wp_region_fromM (fun W => Sep w [] [] W) hM ?_
          clear hM
          rintro Y39 hM
          refine tF 1 [.val 0 (some 31) (.int .i64 d)] trivial ?_
          refine cF (some 32) 6 #[.int .i64 d] ((delay_any d _).mono ?_)
          rintro e Y40 ⟨rfl, hb⟩
          replace hM := hM.below hb
          clear hb
          refine tF 6 [.val 2 (some 33) (.int .i64 (dlyI d)), .alt 3 (some 34) (.bool ((dlyI d) == (dlyI d))) (.bool true), .val 4 (some 35) (.bool true), .val 5 (some 36) (.int .i64 d)] ⟨congrArg Value.bool (beq_self_eq_true _), trivial⟩ ?_
          refine cF (some 37) 7 #[.int .i64 d] ((short_any d _).mono ?_)
          rintro e Y41 ⟨rfl, hb⟩
          replace hM := hM.below hb
          clear hb
          refine tF 14 [.val 7 (some 38) (.int .i64 (dlyI d)), .alt 8 (some 39) (.int .i64 (IntKind.i64.wrap (8 * (dlyI d)))) (.int .i64 (8 * (dlyI d))), .alt 9 (some 40) (.int .i64 (IntKind.i64.wrap ((8 * (dlyI d)) + 4))) (.int .i64 ((8 * (dlyI d)) + 4)), .alt 10 (some 41) (.bool ((8 * dlyI d + 4) == ((8 * (dlyI d)) + 4))) (.bool true), .val 11 (some 42) (.bool true), .val 12 (some 43) (.bool true), .val 13 (some 44) (.int .i64 d)] ⟨congrArg (Value.int .i64) (IntWalk.i64_in _ (by have := (dly_in d).1; have := (dly_in d).2; omega)), congrArg (Value.int .i64) (IntWalk.i64_in _ (by have := (dly_in d).1; have := (dly_in d).2; omega)), congrArg Value.bool (beq_self_eq_true _), trivial⟩ ?_
          refine cF (some 45) 8 #[.int .i64 d] ((long_any d _).mono ?_)
          rintro e Y42 ⟨rfl, hb⟩
          replace hM := hM.below hb
          clear hb
          refine tF 22 [.val 15 (some 46) (.int .i64 (dlyI d)), .alt 16 (some 47) (.int .i64 (IntKind.i64.wrap (16 * (dlyI d)))) (.int .i64 (16 * (dlyI d))), .alt 17 (some 48) (.int .i64 (IntKind.i64.wrap ((16 * (dlyI d)) + 12))) (.int .i64 ((16 * (dlyI d)) + 12)), .alt 18 (some 49) (.bool ((16 * dlyI d + 12) == ((16 * (dlyI d)) + 12))) (.bool true), .val 19 (some 50) (.bool true), .val 20 (some 51) (.bool true), .val 21 (some 52) (.int .i64 d)] ⟨congrArg (Value.int .i64) (IntWalk.i64_in _ (by have := (dly_in d).1; have := (dly_in d).2; omega)), congrArg (Value.int .i64) (IntWalk.i64_in _ (by have := (dly_in d).1; have := (dly_in d).2; omega)), congrArg Value.bool (beq_self_eq_true _), trivial⟩ ?_
          refine cF (some 53) 9 #[.int .i64 d] ((window_any d _).mono ?_)
          rintro e Y43 ⟨rfl, hb⟩
          replace hM := hM.below hb
          clear hb
          refine tF 29 [.val 23 (some 54) (.bool true), .val 24 (some 55) (.bool true), .val 25 (some 56) (.bool true), .val 26 (some 57) (.int .i64 a), .val 27 (some 58) (.int .i64 b), .val 28 (some 59) (.int .i64 d)] trivial ?_
          refine cF (some 60) 10 #[.int .i64 a, .int .i64 b, .int .i64 d] ((release_any a b d _).mono ?_)
          rintro e Y44 ⟨rfl, hb⟩
          replace hM := hM.below hb
          clear hb
          refine tF 43 [.val 30 (some 61) (.bool false), .val 31 (some 62) (.bool false), .skip 32 (some 63), .skip 33 (some 64), .skip 34 (some 65), .skip 35 (some 66), .val 36 (some 67) (.bool false), .alt 37 (some 68) (.bool ((relB a b d) == false)) (.bool true), .val 38 (some 69) (.bool true), .val 39 (some 70) (.bool true), .val 40 (some 71) (.int .i64 a), .val 41 (some 72) (.int .i64 b), .val 42 (some 73) (.int .i64 d)] ⟨congrArg Value.bool (by unfold relB; rw [HT.out]; rfl), trivial⟩ ?_
          refine cF (some 74) 11 #[.int .i64 a, .int .i64 b, .int .i64 d] ((mirror_any a b d _).mono ?_)
          rintro e Y45 ⟨rfl, hb⟩
          replace hM := hM.below hb
          clear hb
          refine tF 58 [.val 44 (some 75) (.bool false), .val 45 (some 76) (.bool false), .skip 46 (some 77), .skip 47 (some 78), .skip 48 (some 79), .skip 49 (some 80), .skip 50 (some 81), .val 51 (some 82) (.bool false), .alt 52 (some 83) (.bool ((mirB a b d) == false)) (.bool true), .val 53 (some 84) (.bool true), .val 54 (some 85) (.bool true), .val 55 (some 86) (.int .i64 a), .val 56 (some 87) (.int .i64 b), .val 57 (some 88) (.int .i64 d)] ⟨congrArg Value.bool (by unfold mirB; rw [HT.out]; rfl), trivial⟩ ?_
          refine cF (some 89) 12 #[.int .i64 a, .int .i64 b, .int .i64 d] ((due_any a b d _).mono ?_)
          rintro e Y46 ⟨rfl, hb⟩
          replace hM := hM.below hb
          clear hb
          refine tF 68 [.val 59 (some 90) (.bool false), .val 60 (some 91) (.bool false), .skip 61 (some 92), .skip 62 (some 93), .skip 63 (some 94), .val 64 (some 95) (.bool false), .alt 65 (some 96) (.bool ((dueB a b d) == false)) (.bool true), .val 66 (some 97) (.bool true), .val 67 (some 98) (.bool true)] ⟨congrArg Value.bool (by unfold dueB; rw [HT.out]; rfl), trivial⟩ ?_
          refine cF (some 99) 13 #[] ((alive17_any _).mono ?_)
          rintro e Y47 ⟨rfl, hb⟩
          replace hM := hM.below hb
          clear hb
          refine tF 71 [.val 69 (some 100) (.bool true), .val 70 (some 6) (.bool true)] trivial ?_
          refine dF ?_
          try simp only [puts, Tk.put, Act.put, List.setIfInBounds_toArray, List.set_cons_zero, List.set_cons_succ]
          go_wp2_with fail
          go_ret
          exact ⟨rfl, hM.b⟩
        | true =>
          have Hhb4 := Lib.hid hb4
          clear hb4
          have HT := Lib.hid (show timesB a b = true from times_yes (tm_ok Hhb1.out Hhb2.out) (tm_ok Hhb3.out Hhb4.out))
          have HB := Lib.hid (times_in HT.out)
          go_upto_region 5 with fail
          refine wp_region_fromM (fun W => Sep w [] [] W) hM ?_
          clear hM
          rintro Y48 hM
          refine tF 4 [.val 0 (some 28) (.int .i64 b), .val 1 (some 29) (.int .i64 a), .alt 2 (some 30) (.int .i64 (IntKind.i64.wrap (b - a))) (.int .i64 (b - a)), .val 3 (some 9) (.int .i64 (b - a))] ⟨congrArg (Value.int .i64) (IntWalk.i64_in _ (by have := HB.out; omega)), trivial⟩ ?_
          refine dF ?_
          try simp only [puts, Tk.put, Act.put, List.setIfInBounds_toArray, List.set_cons_zero, List.set_cons_succ]
          go_upto_region 6 with fail
          refine wp_region_fromM (fun W => Sep w [] [] W) hM ?_
          clear hM
          rintro Y49 hM
          refine tF 1 [.val 0 (some 31) (.int .i64 d)] trivial ?_
          refine cF (some 32) 6 #[.int .i64 d] ((delay_any d _).mono ?_)
          rintro e Y50 ⟨rfl, hb⟩
          replace hM := hM.below hb
          clear hb
          refine tF 6 [.val 2 (some 33) (.int .i64 (dlyI d)), .alt 3 (some 34) (.bool ((dlyI d) == (dlyI d))) (.bool true), .val 4 (some 35) (.bool true), .val 5 (some 36) (.int .i64 d)] ⟨congrArg Value.bool (beq_self_eq_true _), trivial⟩ ?_
          refine cF (some 37) 7 #[.int .i64 d] ((short_any d _).mono ?_)
          rintro e Y51 ⟨rfl, hb⟩
          replace hM := hM.below hb
          clear hb
          refine tF 14 [.val 7 (some 38) (.int .i64 (dlyI d)), .alt 8 (some 39) (.int .i64 (IntKind.i64.wrap (8 * (dlyI d)))) (.int .i64 (8 * (dlyI d))), .alt 9 (some 40) (.int .i64 (IntKind.i64.wrap ((8 * (dlyI d)) + 4))) (.int .i64 ((8 * (dlyI d)) + 4)), .alt 10 (some 41) (.bool ((8 * dlyI d + 4) == ((8 * (dlyI d)) + 4))) (.bool true), .val 11 (some 42) (.bool true), .val 12 (some 43) (.bool true), .val 13 (some 44) (.int .i64 d)] ⟨congrArg (Value.int .i64) (IntWalk.i64_in _ (by have := (dly_in d).1; have := (dly_in d).2; omega)), congrArg (Value.int .i64) (IntWalk.i64_in _ (by have := (dly_in d).1; have := (dly_in d).2; omega)), congrArg Value.bool (beq_self_eq_true _), trivial⟩ ?_
          refine cF (some 45) 8 #[.int .i64 d] ((long_any d _).mono ?_)
          rintro e Y52 ⟨rfl, hb⟩
          replace hM := hM.below hb
          clear hb
          refine tF 22 [.val 15 (some 46) (.int .i64 (dlyI d)), .alt 16 (some 47) (.int .i64 (IntKind.i64.wrap (16 * (dlyI d)))) (.int .i64 (16 * (dlyI d))), .alt 17 (some 48) (.int .i64 (IntKind.i64.wrap ((16 * (dlyI d)) + 12))) (.int .i64 ((16 * (dlyI d)) + 12)), .alt 18 (some 49) (.bool ((16 * dlyI d + 12) == ((16 * (dlyI d)) + 12))) (.bool true), .val 19 (some 50) (.bool true), .val 20 (some 51) (.bool true), .val 21 (some 52) (.int .i64 d)] ⟨congrArg (Value.int .i64) (IntWalk.i64_in _ (by have := (dly_in d).1; have := (dly_in d).2; omega)), congrArg (Value.int .i64) (IntWalk.i64_in _ (by have := (dly_in d).1; have := (dly_in d).2; omega)), congrArg Value.bool (beq_self_eq_true _), trivial⟩ ?_
          refine cF (some 53) 9 #[.int .i64 d] ((window_any d _).mono ?_)
          rintro e Y53 ⟨rfl, hb⟩
          replace hM := hM.below hb
          clear hb
          refine tF 29 [.val 23 (some 54) (.bool true), .val 24 (some 55) (.bool true), .val 25 (some 56) (.bool true), .val 26 (some 57) (.int .i64 a), .val 27 (some 58) (.int .i64 b), .val 28 (some 59) (.int .i64 d)] trivial ?_
          refine cF (some 60) 10 #[.int .i64 a, .int .i64 b, .int .i64 d] ((release_any a b d _).mono ?_)
          rintro e Y54 ⟨rfl, hb⟩
          replace hM := hM.below hb
          clear hb
          refine tF 43 [.val 30 (some 61) (.bool true), .val 31 (some 62) (.bool true), .val 32 (some 63) (.int .i64 (b - a)), .val 33 (some 64) (.int .i64 (dlyI d)), .alt 34 (some 65) (.int .i64 (IntKind.i64.wrap ((dlyI d) + 1))) (.int .i64 ((dlyI d) + 1)), .val 35 (some 66) (.bool (decide (((dlyI d) + 1) < (b - a)))), .val 36 (some 67) (.bool (decide (((dlyI d) + 1) < (b - a)))), .alt 37 (some 68) (.bool ((relB a b d) == (decide (((dlyI d) + 1) < (b - a))))) (.bool true), .val 38 (some 69) (.bool true), .val 39 (some 70) (.bool true), .val 40 (some 71) (.int .i64 a), .val 41 (some 72) (.int .i64 b), .val 42 (some 73) (.int .i64 d)] ⟨congrArg (Value.int .i64) (IntWalk.i64_in _ (by have := (dly_in d).1; have := (dly_in d).2; omega)), congrArg Value.bool (by unfold relB; rw [HT.out]; exact beq_self_eq_true _), trivial⟩ ?_
          refine cF (some 74) 11 #[.int .i64 a, .int .i64 b, .int .i64 d] ((mirror_any a b d _).mono ?_)
          rintro e Y55 ⟨rfl, hb⟩
          replace hM := hM.below hb
          clear hb
          refine tF 58 [.val 44 (some 75) (.bool true), .val 45 (some 76) (.bool true), .val 46 (some 77) (.int .i64 (b - a)), .val 47 (some 78) (.int .i64 (dlyI d)), .alt 48 (some 79) (.int .i64 (IntKind.i64.wrap (11 * (dlyI d)))) (.int .i64 (11 * (dlyI d))), .alt 49 (some 80) (.int .i64 (IntKind.i64.wrap ((11 * (dlyI d)) + 6))) (.int .i64 ((11 * (dlyI d)) + 6)), .val 50 (some 81) (.bool (decide (((11 * (dlyI d)) + 6) ≤ (b - a)))), .val 51 (some 82) (.bool (decide (((11 * (dlyI d)) + 6) ≤ (b - a)))), .alt 52 (some 83) (.bool ((mirB a b d) == (decide (((11 * (dlyI d)) + 6) ≤ (b - a))))) (.bool true), .val 53 (some 84) (.bool true), .val 54 (some 85) (.bool true), .val 55 (some 86) (.int .i64 a), .val 56 (some 87) (.int .i64 b), .val 57 (some 88) (.int .i64 d)] ⟨congrArg (Value.int .i64) (IntWalk.i64_in _ (by have := (dly_in d).1; have := (dly_in d).2; omega)), congrArg (Value.int .i64) (IntWalk.i64_in _ (by have := (dly_in d).1; have := (dly_in d).2; omega)), congrArg Value.bool (by unfold mirB; rw [HT.out]; exact beq_self_eq_true _), trivial⟩ ?_
          refine cF (some 89) 12 #[.int .i64 a, .int .i64 b, .int .i64 d] ((due_any a b d _).mono ?_)
          rintro e Y56 ⟨rfl, hb⟩
          replace hM := hM.below hb
          clear hb
          refine tF 68 [.val 59 (some 90) (.bool true), .val 60 (some 91) (.bool true), .val 61 (some 92) (.int .i64 (b - a)), .val 62 (some 93) (.int .i64 (dlyI d)), .val 63 (some 94) (.bool (decide ((dlyI d) < (b - a)))), .val 64 (some 95) (.bool (decide ((dlyI d) < (b - a)))), .alt 65 (some 96) (.bool ((dueB a b d) == (decide ((dlyI d) < (b - a))))) (.bool true), .val 66 (some 97) (.bool true), .val 67 (some 98) (.bool true)] ⟨congrArg Value.bool (by unfold dueB; rw [HT.out]; exact beq_self_eq_true _), trivial⟩ ?_
          refine cF (some 99) 13 #[] ((alive17_any _).mono ?_)
          rintro e Y57 ⟨rfl, hb⟩
          replace hM := hM.below hb
          clear hb
          refine tF 71 [.val 69 (some 100) (.bool true), .val 70 (some 6) (.bool true)] trivial ?_
          refine dF ?_
          try simp only [puts, Tk.put, Act.put, List.setIfInBounds_toArray, List.set_cons_zero, List.set_cons_succ]
          go_wp2_with fail
          go_ret
          exact ⟨rfl, hM.b⟩
theorem fit_b (z : Int) : -549755813888 < Int.tmod z 549755813888 ∧ Int.tmod z 549755813888 < 549755813888 := ⟨by have := Int.lt_tmod_of_pos z (b := 549755813888) (by decide); omega, Int.tmod_lt_of_pos z (by decide)⟩
theorem fit_sum (z : Int) : IntKind.i64.wrap (Int.tmod z 549755813888 + 549755813888) = Int.tmod z 549755813888 + 549755813888 := IntWalk.i64_in _ (by have := fit_b z; omega)
theorem fit_lo (z : Int) : 0 ≤ Int.tmod (Int.tmod z 549755813888 + 549755813888) 549755813888 := Int.tmod_nonneg _ (by have := fit_b z; omega)
theorem fit_hi (z : Int) : Int.tmod (Int.tmod z 549755813888 + 549755813888) 549755813888 < 549755813888 := Int.tmod_lt_of_pos _ (by decide)
set_option maxRecDepth 100000 in
set_option maxHeartbeats 4000000 in
theorem planFits_any (d z : Int) (w : World) : Calls Try.prog 4 #[.int .i64 d, .int .i64 z] w fun e W' => e = .returned (.bool true) ∧ Below w.heap.size w W' := by
  have hmx : Try.prog.follows .mixedOrders = true := by kernel_rfl
  obtain ⟨t, ht, hs, ht0, ht1⟩ : ∃ t : Int, Int.tmod (Int.tmod z 549755813888 + 549755813888) 549755813888 = t ∧ IntKind.i64.wrap (Int.tmod z 549755813888 + 549755813888) = Int.tmod z 549755813888 + 549755813888 ∧ 0 ≤ t ∧ t < 549755813888 := ⟨_, rfl, fit_sum z, fit_lo z, fit_hi z⟩
  have HT := Lib.hid ht
  have HS := Lib.hid hs
  have HB := Lib.hid (And.intro ht0 ht1)
  clear ht hs ht0 ht1
  have hM := Sep.start w
  go_enter Try.func4, Try.ntmps4
  go_upto_region 0 with fail
  refine wp_region_fromM (fun W => Sep w [] [] W) hM ?_
  clear hM
  rintro Y1 hM
  refine tF 1 [.val 0 (some 4) (.bool false)] trivial ?_
  refine dF ?_
  try simp only [puts, Tk.put, Act.put, List.setIfInBounds_toArray, List.set_cons_zero, List.set_cons_succ]
  go_upto_region 1 with fail
  refine wp_region_fromM (fun W => Sep w [] [] W) hM ?_
  clear hM
  rintro Y2 hM
  refine cF (some 6) 13 #[] ((alive17_any _).mono ?_)
  rintro e Y3 ⟨rfl, hb⟩
  replace hM := hM.below hb
  clear hb
  refine tF 2 [.val 1 (some 7) (.bool false)] trivial ?_
  refine dF ?_
  try simp only [puts, Tk.put, Act.put, List.setIfInBounds_toArray, List.set_cons_zero, List.set_cons_succ]
  go_upto_region 3 with fail
  refine wp_region_fromM (fun W => Sep w [] [] W) hM ?_
  clear hM
  rintro Y4 hM
  refine tF 1 [.val 0 (some 8) (.int .i64 z)] trivial ?_
  refine remF (.tmp 8) (.const (.int .i64 549755813888)) 3 3 (some 9) z 549755813888 (Int.tmod z 549755813888) (by decide) rfl ?_
  refine tF 3 [.alt 2 (some 10) (.int .i64 (IntKind.i64.wrap ((Int.tmod z 549755813888) + 549755813888))) (.int .i64 (Int.tmod z 549755813888 + 549755813888))] ⟨congrArg (Value.int .i64) (HS.out), trivial⟩ ?_
  refine remF (.tmp 10) (.const (.int .i64 549755813888)) 3 3 (some 11) (Int.tmod z 549755813888 + 549755813888) 549755813888 t (by decide) HT.out ?_
  refine tF 5 [.val 4 (some 1) (.int .i64 t)] trivial ?_
  refine dF ?_
  try simp only [puts, Tk.put, Act.put, List.setIfInBounds_toArray, List.set_cons_zero, List.set_cons_succ]
  go_upto_region 4 with fail
  refine wp_region_fromM (fun W => Sep w [] [] W) hM ?_
  clear hM
  rintro Y5 hM
  refine tF 1 [.val 0 (some 12) (.int .i64 d)] trivial ?_
  refine cF (some 13) 6 #[.int .i64 d] ((delay_any d _).mono ?_)
  rintro e Y6 ⟨rfl, hb⟩
  replace hM := hM.below hb
  clear hb
  refine tF 3 [.val 2 (some 5) (.int .i64 (dlyI d))] trivial ?_
  refine dF ?_
  try simp only [puts, Tk.put, Act.put, List.setIfInBounds_toArray, List.set_cons_zero, List.set_cons_succ]
  go_upto_region 5 with fail
  refine wp_region_fromM (fun W => Sep w [] [] W) hM ?_
  clear hM
  rintro Y7 hM
  refine tF 5 [.val 0 (some 14) (.int .i64 t), .val 1 (some 15) (.int .i64 (dlyI d)), .alt 2 (some 16) (.int .i64 (IntKind.i64.wrap (t + (dlyI d)))) (.int .i64 (t + (dlyI d))), .val 3 (some 17) (.int .i64 t), .val 4 (some 18) (.int .i64 d)] ⟨congrArg (Value.int .i64) (IntWalk.i64_in _ (by have := (dly_in d).1; have := (dly_in d).2; have := HB.out; omega)), trivial⟩ ?_
  refine cF (some 19) 8 #[.int .i64 d] ((long_any d _).mono ?_)
  rintro e Y8 ⟨rfl, hb⟩
  replace hM := hM.below hb
  clear hb
  refine tF 8 [.alt 6 (some 20) (.int .i64 (IntKind.i64.wrap (t + (16 * dlyI d + 12)))) (.int .i64 (t + (16 * dlyI d + 12))), .val 7 (some 21) (.int .i64 d)] ⟨congrArg (Value.int .i64) (IntWalk.i64_in _ (by have := (dly_in d).1; have := (dly_in d).2; have := HB.out; omega)), trivial⟩ ?_
  have hq := mirror_any (t + (dlyI d)) (t + (16 * dlyI d + 12)) d Y8
  rw [show mirB (t + (dlyI d)) (t + (16 * dlyI d + 12)) d = true from by unfold mirB timesB tmB; rw [decide_eq_true (by have := (dly_in d).1; have := (dly_in d).2; have := HB.out; omega), decide_eq_true (by have := (dly_in d).1; have := (dly_in d).2; have := HB.out; omega), decide_eq_true (by have := (dly_in d).1; have := (dly_in d).2; have := HB.out; omega)]; rfl] at hq
  refine cF (some 22) 11 #[.int .i64 (t + (dlyI d)), .int .i64 (t + (16 * dlyI d + 12)), .int .i64 d] ((hq).mono ?_)
  rintro e Y9 ⟨rfl, hb⟩
  replace hM := hM.below hb
  clear hb
  clear hq
  refine tF 16 [.val 9 (some 23) (.bool true), .val 10 (some 24) (.int .i64 t), .val 11 (some 25) (.int .i64 (dlyI d)), .alt 12 (some 26) (.int .i64 (IntKind.i64.wrap (2 * (dlyI d)))) (.int .i64 (2 * (dlyI d))), .alt 13 (some 27) (.int .i64 (IntKind.i64.wrap (t + (2 * (dlyI d))))) (.int .i64 (t + (2 * (dlyI d)))), .val 14 (some 28) (.int .i64 t), .val 15 (some 29) (.int .i64 d)] ⟨congrArg (Value.int .i64) (IntWalk.i64_in _ (by have := (dly_in d).1; have := (dly_in d).2; have := HB.out; omega)), congrArg (Value.int .i64) (IntWalk.i64_in _ (by have := (dly_in d).1; have := (dly_in d).2; have := HB.out; omega)), trivial⟩ ?_
  refine cF (some 30) 7 #[.int .i64 d] ((short_any d _).mono ?_)
  rintro e Y10 ⟨rfl, hb⟩
  replace hM := hM.below hb
  clear hb
  refine tF 19 [.alt 17 (some 31) (.int .i64 (IntKind.i64.wrap (t + (8 * dlyI d + 4)))) (.int .i64 (t + (8 * dlyI d + 4))), .val 18 (some 32) (.int .i64 d)] ⟨congrArg (Value.int .i64) (IntWalk.i64_in _ (by have := (dly_in d).1; have := (dly_in d).2; have := HB.out; omega)), trivial⟩ ?_
  have hq := release_any (t + (2 * (dlyI d))) (t + (8 * dlyI d + 4)) d Y10
  rw [show relB (t + (2 * (dlyI d))) (t + (8 * dlyI d + 4)) d = true from by unfold relB timesB tmB; rw [decide_eq_true (by have := (dly_in d).1; have := (dly_in d).2; have := HB.out; omega), decide_eq_true (by have := (dly_in d).1; have := (dly_in d).2; have := HB.out; omega), decide_eq_true (by have := (dly_in d).1; have := (dly_in d).2; have := HB.out; omega)]; rfl] at hq
  refine cF (some 33) 10 #[.int .i64 (t + (2 * (dlyI d))), .int .i64 (t + (8 * dlyI d + 4)), .int .i64 d] ((hq).mono ?_)
  rintro e Y11 ⟨rfl, hb⟩
  replace hM := hM.below hb
  clear hb
  clear hq
  refine tF 23 [.val 20 (some 34) (.bool true), .val 21 (some 35) (.bool true), .val 22 (some 36) (.int .i64 d)] trivial ?_
  refine cF (some 37) 8 #[.int .i64 d] ((long_any d _).mono ?_)
  rintro e Y12 ⟨rfl, hb⟩
  replace hM := hM.below hb
  clear hb
  refine tF 25 [.val 24 (some 38) (.int .i64 d)] trivial ?_
  refine cF (some 39) 7 #[.int .i64 d] ((short_any d _).mono ?_)
  rintro e Y13 ⟨rfl, hb⟩
  replace hM := hM.below hb
  clear hb
  refine tF 32 [.alt 26 (some 40) (.int .i64 (IntKind.i64.wrap ((16 * dlyI d + 12) - (8 * dlyI d + 4)))) (.int .i64 ((16 * dlyI d + 12) - (8 * dlyI d + 4))), .val 27 (some 41) (.int .i64 (dlyI d)), .alt 28 (some 42) (.int .i64 (IntKind.i64.wrap (2 * (dlyI d)))) (.int .i64 (2 * (dlyI d))), .alt 29 (some 43) (.bool (decide ((2 * (dlyI d)) < ((16 * dlyI d + 12) - (8 * dlyI d + 4))))) (.bool true), .val 30 (some 44) (.bool true), .val 31 (some 4) (.bool true)] ⟨congrArg (Value.int .i64) (IntWalk.i64_in _ (by have := (dly_in d).1; have := (dly_in d).2; have := HB.out; omega)), congrArg (Value.int .i64) (IntWalk.i64_in _ (by have := (dly_in d).1; have := (dly_in d).2; have := HB.out; omega)), congrArg Value.bool (decide_eq_true (by have := (dly_in d).1; have := (dly_in d).2; omega)), trivial⟩ ?_
  refine dF ?_
  try simp only [puts, Tk.put, Act.put, List.setIfInBounds_toArray, List.set_cons_zero, List.set_cons_succ]
  go_wp2_with fail
  go_ret
  exact ⟨rfl, hM.b⟩
theorem rise_b (z : Int) : -6 < Int.tmod z 6 ∧ Int.tmod z 6 < 6 := ⟨by have := Int.lt_tmod_of_pos z (b := 6) (by decide); omega, Int.tmod_lt_of_pos z (by decide)⟩
theorem rise_sum (z : Int) : IntKind.i64.wrap (Int.tmod z 6 + 6) = Int.tmod z 6 + 6 := IntWalk.i64_in _ (by have := rise_b z; omega)
theorem rise_lo (z : Int) : 0 ≤ Int.tmod (Int.tmod z 6 + 6) 6 := Int.tmod_nonneg _ (by have := rise_b z; omega)
theorem rise_hi (z : Int) : Int.tmod (Int.tmod z 6 + 6) 6 < 6 := Int.tmod_lt_of_pos _ (by decide)
theorem dly_rise (t : Int) : dlyI t ≤ dlyI (t + 1) := by unfold dlyI; rw [max2I_eq, min2I_eq, max2I_eq, min2I_eq]; omega
theorem relB_rise {a b t : Int} (h : relB a b (t + 1) = true) : relB a b t = true := by
  have h1 := dly_rise t
  unfold relB at *
  rw [Bool.and_eq_true] at h ⊢
  exact ⟨h.1, decide_eq_true (by have h2 := of_decide_eq_true h.2; omega)⟩
theorem mirB_rise {a b t : Int} (h : mirB a b (t + 1) = true) : mirB a b t = true := by
  have h1 := dly_rise t
  unfold mirB at *
  rw [Bool.and_eq_true] at h ⊢
  exact ⟨h.1, decide_eq_true (by have h2 := of_decide_eq_true h.2; omega)⟩
theorem dueB_rise {a b t : Int} (h : dueB a b (t + 1) = true) : dueB a b t = true := by
  have h1 := dly_rise t
  unfold dueB at *
  rw [Bool.and_eq_true] at h ⊢
  exact ⟨h.1, decide_eq_true (by have h2 := of_decide_eq_true h.2; omega)⟩
set_option maxRecDepth 100000 in
set_option maxHeartbeats 4000000 in
theorem planRises_any (z a b : Int) (w : World) : Calls Try.prog 5 #[.int .i64 z, .int .i64 a, .int .i64 b] w fun e W' => e = .returned (.bool true) ∧ Below w.heap.size w W' := by
  have hmx : Try.prog.follows .mixedOrders = true := by kernel_rfl
  obtain ⟨t, ht, hs, ht0, ht1⟩ : ∃ t : Int, Int.tmod (Int.tmod z 6 + 6) 6 = t ∧ IntKind.i64.wrap (Int.tmod z 6 + 6) = Int.tmod z 6 + 6 ∧ 0 ≤ t ∧ t < 6 := ⟨_, rfl, rise_sum z, rise_lo z, rise_hi z⟩
  have HT := Lib.hid ht
  have HS := Lib.hid hs
  have HB := Lib.hid (And.intro ht0 ht1)
  clear ht hs ht0 ht1
  have hM := Sep.start w
  go_enter Try.func5, Try.ntmps5
  go_upto_region 0 with fail
  refine wp_region_fromM (fun W => Sep w [] [] W) hM ?_
  clear hM
  rintro Y1 hM
  refine tF 1 [.val 0 (some 6) (.bool false)] trivial ?_
  refine dF ?_
  try simp only [puts, Tk.put, Act.put, List.setIfInBounds_toArray, List.set_cons_zero, List.set_cons_succ]
  go_upto_region 1 with fail
  refine wp_region_fromM (fun W => Sep w [] [] W) hM ?_
  clear hM
  rintro Y2 hM
  refine cF (some 8) 13 #[] ((alive17_any _).mono ?_)
  rintro e Y3 ⟨rfl, hb⟩
  replace hM := hM.below hb
  clear hb
  refine tF 2 [.val 1 (some 9) (.bool false)] trivial ?_
  refine dF ?_
  try simp only [puts, Tk.put, Act.put, List.setIfInBounds_toArray, List.set_cons_zero, List.set_cons_succ]
  go_upto_region 3 with fail
  refine wp_region_fromM (fun W => Sep w [] [] W) hM ?_
  clear hM
  rintro Y4 hM
  refine tF 1 [.val 0 (some 10) (.int .i64 z)] trivial ?_
  refine remF (.tmp 10) (.const (.int .i64 6)) 3 3 (some 11) z 6 (Int.tmod z 6) (by decide) rfl ?_
  refine tF 3 [.alt 2 (some 12) (.int .i64 (IntKind.i64.wrap ((Int.tmod z 6) + 6))) (.int .i64 (Int.tmod z 6 + 6))] ⟨congrArg (Value.int .i64) (HS.out), trivial⟩ ?_
  refine remF (.tmp 12) (.const (.int .i64 6)) 3 3 (some 13) (Int.tmod z 6 + 6) 6 t (by decide) HT.out ?_
  refine tF 5 [.val 4 (some 0) (.int .i64 t)] trivial ?_
  refine dF ?_
  try simp only [puts, Tk.put, Act.put, List.setIfInBounds_toArray, List.set_cons_zero, List.set_cons_succ]
  go_upto_region 4 with fail
  refine wp_region_fromM (fun W => Sep w [] [] W) hM ?_
  clear hM
  rintro Y5 hM
  refine tF 3 [.val 0 (some 14) (.int .i64 t), .alt 1 (some 15) (.int .i64 (IntKind.i64.wrap (t + 1))) (.int .i64 (t + 1)), .val 2 (some 7) (.int .i64 (t + 1))] ⟨congrArg (Value.int .i64) (IntWalk.i64_in _ (by have := HB.out; omega)), trivial⟩ ?_
  refine dF ?_
  try simp only [puts, Tk.put, Act.put, List.setIfInBounds_toArray, List.set_cons_zero, List.set_cons_succ]
  go_upto_region 5 with fail
  refine wp_region_fromM (fun W => Sep w [] [] W) hM ?_
  clear hM
  rintro Y6 hM
  refine tF 1 [.val 0 (some 16) (.int .i64 (t + 1))] trivial ?_
  refine cF (some 17) 7 #[.int .i64 (t + 1)] ((short_any (t + 1) _).mono ?_)
  rintro e Y7 ⟨rfl, hb⟩
  replace hM := hM.below hb
  clear hb
  refine tF 3 [.val 2 (some 18) (.int .i64 t)] trivial ?_
  refine cF (some 19) 7 #[.int .i64 t] ((short_any t _).mono ?_)
  rintro e Y8 ⟨rfl, hb⟩
  replace hM := hM.below hb
  clear hb
  refine tF 7 [.alt 4 (some 20) (.bool (decide ((8 * dlyI (t + 1) + 4) < (8 * dlyI t + 4)))) (.bool false), .val 5 (some 21) (.bool false), .val 6 (some 22) (.int .i64 (t + 1))] ⟨congrArg Value.bool (decide_eq_false (by have := dly_rise t; omega)), trivial⟩ ?_
  refine cF (some 23) 8 #[.int .i64 (t + 1)] ((long_any (t + 1) _).mono ?_)
  rintro e Y9 ⟨rfl, hb⟩
  replace hM := hM.below hb
  clear hb
  refine tF 9 [.val 8 (some 24) (.int .i64 t)] trivial ?_
  refine cF (some 25) 8 #[.int .i64 t] ((long_any t _).mono ?_)
  rintro e Y10 ⟨rfl, hb⟩
  replace hM := hM.below hb
  clear hb
  refine tF 14 [.alt 10 (some 26) (.bool (decide ((16 * dlyI (t + 1) + 12) < (16 * dlyI t + 12)))) (.bool false), .val 11 (some 27) (.bool false), .val 12 (some 28) (.bool false), .val 13 (some 29) (.int .i64 (t + 1))] ⟨congrArg Value.bool (decide_eq_false (by have := dly_rise t; omega)), trivial⟩ ?_
  refine cF (some 30) 6 #[.int .i64 (t + 1)] ((delay_any (t + 1) _).mono ?_)
  rintro e Y11 ⟨rfl, hb⟩
  replace hM := hM.below hb
  clear hb
  refine tF 16 [.val 15 (some 31) (.int .i64 t)] trivial ?_
  refine cF (some 32) 6 #[.int .i64 t] ((delay_any t _).mono ?_)
  rintro e Y12 ⟨rfl, hb⟩
  replace hM := hM.below hb
  clear hb
  refine tF 19 [.alt 17 (some 33) (.bool (decide ((dlyI (t + 1)) < (dlyI t)))) (.bool false), .val 18 (some 34) (.bool false)] ⟨congrArg Value.bool (decide_eq_false (by have := dly_rise t; omega)), trivial⟩ ?_
  refine dF ?_
  try simp only [puts, Tk.put, Act.put, List.setIfInBounds_toArray, List.set_cons_zero, List.set_cons_succ]
  go_upto_region 7 with fail
  refine wp_region_fromM (fun W => Sep w [] [] W) hM ?_
  clear hM
  rintro Y13 hM
  refine tF 3 [.val 0 (some 35) (.int .i64 a), .val 1 (some 36) (.int .i64 b), .val 2 (some 37) (.int .i64 (t + 1))] trivial ?_
  refine cF (some 38) 10 #[.int .i64 a, .int .i64 b, .int .i64 (t + 1)] ((release_any a b (t + 1) _).mono ?_)
  rintro e Y14 ⟨rfl, hb⟩
  replace hM := hM.below hb
  clear hb
  cases hb1 : relB a b (t + 1) with
  | false =>
    have Hhb1 := Lib.hid hb1
    clear hb1
    refine tF 9 [.val 4 (some 39) (.bool true), .val 5 (some 40) (.bool true), .skip 6 (some 41), .skip 7 (some 42), .skip 8 (some 43)] trivial ?_
    refine wpFrom_not (d := some 44) (by kernel_rfl) ?_
    refine tF 15 [.val 10 (some 45) (.bool true), .val 11 (some 46) (.bool true), .val 12 (some 47) (.int .i64 a), .val 13 (some 48) (.int .i64 b), .val 14 (some 49) (.int .i64 (t + 1))] trivial ?_
    refine cF (some 50) 11 #[.int .i64 a, .int .i64 b, .int .i64 (t + 1)] ((mirror_any a b (t + 1) _).mono ?_)
    rintro e Y15 ⟨rfl, hb⟩
    replace hM := hM.below hb
    clear hb
    cases hb2 : mirB a b (t + 1) with
    | false =>
      have Hhb2 := Lib.hid hb2
      clear hb2
      refine tF 21 [.val 16 (some 51) (.bool true), .val 17 (some 52) (.bool true), .skip 18 (some 53), .skip 19 (some 54), .skip 20 (some 55)] trivial ?_
      refine wpFrom_not (d := some 56) (by kernel_rfl) ?_
      refine tF 28 [.val 22 (some 57) (.bool true), .val 23 (some 58) (.bool true), .val 24 (some 59) (.bool true), .val 25 (some 60) (.int .i64 a), .val 26 (some 61) (.int .i64 b), .val 27 (some 62) (.int .i64 (t + 1))] trivial ?_
      refine cF (some 63) 12 #[.int .i64 a, .int .i64 b, .int .i64 (t + 1)] ((due_any a b (t + 1) _).mono ?_)
      rintro e Y16 ⟨rfl, hb⟩
      replace hM := hM.below hb
      clear hb
      cases hb3 : dueB a b (t + 1) with
      | false =>
        have Hhb3 := Lib.hid hb3
        clear hb3
        refine tF 34 [.val 29 (some 64) (.bool true), .val 30 (some 65) (.bool true), .skip 31 (some 66), .skip 32 (some 67), .skip 33 (some 68)] trivial ?_
        refine wpFrom_not (d := some 69) (by kernel_rfl) ?_
        refine tF 38 [.val 35 (some 70) (.bool true), .val 36 (some 71) (.bool true), .val 37 (some 6) (.bool true)] trivial ?_
        refine dF ?_
        try simp only [puts, Tk.put, Act.put, List.setIfInBounds_toArray, List.set_cons_zero, List.set_cons_succ]
        go_wp2_with fail
        go_ret
        exact ⟨rfl, hM.b⟩
      | true =>
        have Hhb3 := Lib.hid hb3
        clear hb3
        refine tF 34 [.val 29 (some 64) (.bool false), .val 30 (some 65) (.bool false), .val 31 (some 66) (.int .i64 a), .val 32 (some 67) (.int .i64 b), .val 33 (some 68) (.int .i64 t)] trivial ?_
        refine cF (some 69) 12 #[.int .i64 a, .int .i64 b, .int .i64 t] ((due_any a b t _).mono ?_)
        rintro e Y17 ⟨rfl, hb⟩
        replace hM := hM.below hb
        clear hb
        refine tF 38 [.val 35 (some 70) (.bool (dueB a b t)), .val 36 (some 71) (.bool (dueB a b t)), .val 37 (some 6) (.bool (dueB a b t))] trivial ?_
        refine dF ?_
        try simp only [puts, Tk.put, Act.put, List.setIfInBounds_toArray, List.set_cons_zero, List.set_cons_succ]
        go_wp2_with fail
        go_ret
        exact ⟨congrArg (fun b => Ending.returned (Value.bool b)) (dueB_rise Hhb3.out), hM.b⟩
    | true =>
      have Hhb2 := Lib.hid hb2
      clear hb2
      refine tF 21 [.val 16 (some 51) (.bool false), .val 17 (some 52) (.bool false), .val 18 (some 53) (.int .i64 a), .val 19 (some 54) (.int .i64 b), .val 20 (some 55) (.int .i64 t)] trivial ?_
      refine cF (some 56) 11 #[.int .i64 a, .int .i64 b, .int .i64 t] ((mirror_any a b t _).mono ?_)
      rintro e Y18 ⟨rfl, hb⟩
      replace hM := hM.below hb
      clear hb
      refine tF 25 [.val 22 (some 57) (.bool (mirB a b t)), .val 23 (some 58) (.bool (mirB a b t)), .val 24 (some 59) (.bool (mirB a b t))] trivial ?_
      rw [show (mirB a b t) = true from mirB_rise Hhb2.out]
      refine tF 28 [.val 25 (some 60) (.int .i64 a), .val 26 (some 61) (.int .i64 b), .val 27 (some 62) (.int .i64 (t + 1))] trivial ?_
      refine cF (some 63) 12 #[.int .i64 a, .int .i64 b, .int .i64 (t + 1)] ((due_any a b (t + 1) _).mono ?_)
      rintro e Y19 ⟨rfl, hb⟩
      replace hM := hM.below hb
      clear hb
      cases hb4 : dueB a b (t + 1) with
      | false =>
        have Hhb4 := Lib.hid hb4
        clear hb4
        refine tF 34 [.val 29 (some 64) (.bool true), .val 30 (some 65) (.bool true), .skip 31 (some 66), .skip 32 (some 67), .skip 33 (some 68)] trivial ?_
        refine wpFrom_not (d := some 69) (by kernel_rfl) ?_
        refine tF 38 [.val 35 (some 70) (.bool true), .val 36 (some 71) (.bool true), .val 37 (some 6) (.bool true)] trivial ?_
        refine dF ?_
        try simp only [puts, Tk.put, Act.put, List.setIfInBounds_toArray, List.set_cons_zero, List.set_cons_succ]
        go_wp2_with fail
        go_ret
        exact ⟨rfl, hM.b⟩
      | true =>
        have Hhb4 := Lib.hid hb4
        clear hb4
        refine tF 34 [.val 29 (some 64) (.bool false), .val 30 (some 65) (.bool false), .val 31 (some 66) (.int .i64 a), .val 32 (some 67) (.int .i64 b), .val 33 (some 68) (.int .i64 t)] trivial ?_
        refine cF (some 69) 12 #[.int .i64 a, .int .i64 b, .int .i64 t] ((due_any a b t _).mono ?_)
        rintro e Y20 ⟨rfl, hb⟩
        replace hM := hM.below hb
        clear hb
        refine tF 38 [.val 35 (some 70) (.bool (dueB a b t)), .val 36 (some 71) (.bool (dueB a b t)), .val 37 (some 6) (.bool (dueB a b t))] trivial ?_
        refine dF ?_
        try simp only [puts, Tk.put, Act.put, List.setIfInBounds_toArray, List.set_cons_zero, List.set_cons_succ]
        go_wp2_with fail
        go_ret
        exact ⟨congrArg (fun b => Ending.returned (Value.bool b)) (dueB_rise Hhb4.out), hM.b⟩
  | true =>
    have Hhb1 := Lib.hid hb1
    clear hb1
    refine tF 9 [.val 4 (some 39) (.bool false), .val 5 (some 40) (.bool false), .val 6 (some 41) (.int .i64 a), .val 7 (some 42) (.int .i64 b), .val 8 (some 43) (.int .i64 t)] trivial ?_
    refine cF (some 44) 10 #[.int .i64 a, .int .i64 b, .int .i64 t] ((release_any a b t _).mono ?_)
    rintro e Y21 ⟨rfl, hb⟩
    replace hM := hM.below hb
    clear hb
    refine tF 12 [.val 10 (some 45) (.bool (relB a b t)), .val 11 (some 46) (.bool (relB a b t))] trivial ?_
    rw [show (relB a b t) = true from relB_rise Hhb1.out]
    refine tF 15 [.val 12 (some 47) (.int .i64 a), .val 13 (some 48) (.int .i64 b), .val 14 (some 49) (.int .i64 (t + 1))] trivial ?_
    refine cF (some 50) 11 #[.int .i64 a, .int .i64 b, .int .i64 (t + 1)] ((mirror_any a b (t + 1) _).mono ?_)
    rintro e Y22 ⟨rfl, hb⟩
    replace hM := hM.below hb
    clear hb
    cases hb5 : mirB a b (t + 1) with
    | false =>
      have Hhb5 := Lib.hid hb5
      clear hb5
      refine tF 21 [.val 16 (some 51) (.bool true), .val 17 (some 52) (.bool true), .skip 18 (some 53), .skip 19 (some 54), .skip 20 (some 55)] trivial ?_
      refine wpFrom_not (d := some 56) (by kernel_rfl) ?_
      refine tF 28 [.val 22 (some 57) (.bool true), .val 23 (some 58) (.bool true), .val 24 (some 59) (.bool true), .val 25 (some 60) (.int .i64 a), .val 26 (some 61) (.int .i64 b), .val 27 (some 62) (.int .i64 (t + 1))] trivial ?_
      refine cF (some 63) 12 #[.int .i64 a, .int .i64 b, .int .i64 (t + 1)] ((due_any a b (t + 1) _).mono ?_)
      rintro e Y23 ⟨rfl, hb⟩
      replace hM := hM.below hb
      clear hb
      cases hb6 : dueB a b (t + 1) with
      | false =>
        have Hhb6 := Lib.hid hb6
        clear hb6
        refine tF 34 [.val 29 (some 64) (.bool true), .val 30 (some 65) (.bool true), .skip 31 (some 66), .skip 32 (some 67), .skip 33 (some 68)] trivial ?_
        refine wpFrom_not (d := some 69) (by kernel_rfl) ?_
        refine tF 38 [.val 35 (some 70) (.bool true), .val 36 (some 71) (.bool true), .val 37 (some 6) (.bool true)] trivial ?_
        refine dF ?_
        try simp only [puts, Tk.put, Act.put, List.setIfInBounds_toArray, List.set_cons_zero, List.set_cons_succ]
        go_wp2_with fail
        go_ret
        exact ⟨rfl, hM.b⟩
      | true =>
        have Hhb6 := Lib.hid hb6
        clear hb6
        refine tF 34 [.val 29 (some 64) (.bool false), .val 30 (some 65) (.bool false), .val 31 (some 66) (.int .i64 a), .val 32 (some 67) (.int .i64 b), .val 33 (some 68) (.int .i64 t)] trivial ?_
        refine cF (some 69) 12 #[.int .i64 a, .int .i64 b, .int .i64 t] ((due_any a b t _).mono ?_)
        rintro e Y24 ⟨rfl, hb⟩
        replace hM := hM.below hb
        clear hb
        refine tF 38 [.val 35 (some 70) (.bool (dueB a b t)), .val 36 (some 71) (.bool (dueB a b t)), .val 37 (some 6) (.bool (dueB a b t))] trivial ?_
        refine dF ?_
        try simp only [puts, Tk.put, Act.put, List.setIfInBounds_toArray, List.set_cons_zero, List.set_cons_succ]
        go_wp2_with fail
        go_ret
        exact ⟨congrArg (fun b => Ending.returned (Value.bool b)) (dueB_rise Hhb6.out), hM.b⟩
    | true =>
      have Hhb5 := Lib.hid hb5
      clear hb5
      refine tF 21 [.val 16 (some 51) (.bool false), .val 17 (some 52) (.bool false), .val 18 (some 53) (.int .i64 a), .val 19 (some 54) (.int .i64 b), .val 20 (some 55) (.int .i64 t)] trivial ?_
      refine cF (some 56) 11 #[.int .i64 a, .int .i64 b, .int .i64 t] ((mirror_any a b t _).mono ?_)
      rintro e Y25 ⟨rfl, hb⟩
      replace hM := hM.below hb
      clear hb
      refine tF 25 [.val 22 (some 57) (.bool (mirB a b t)), .val 23 (some 58) (.bool (mirB a b t)), .val 24 (some 59) (.bool (mirB a b t))] trivial ?_
      rw [show (mirB a b t) = true from mirB_rise Hhb5.out]
      refine tF 28 [.val 25 (some 60) (.int .i64 a), .val 26 (some 61) (.int .i64 b), .val 27 (some 62) (.int .i64 (t + 1))] trivial ?_
      refine cF (some 63) 12 #[.int .i64 a, .int .i64 b, .int .i64 (t + 1)] ((due_any a b (t + 1) _).mono ?_)
      rintro e Y26 ⟨rfl, hb⟩
      replace hM := hM.below hb
      clear hb
      cases hb7 : dueB a b (t + 1) with
      | false =>
        have Hhb7 := Lib.hid hb7
        clear hb7
        refine tF 34 [.val 29 (some 64) (.bool true), .val 30 (some 65) (.bool true), .skip 31 (some 66), .skip 32 (some 67), .skip 33 (some 68)] trivial ?_
        refine wpFrom_not (d := some 69) (by kernel_rfl) ?_
        refine tF 38 [.val 35 (some 70) (.bool true), .val 36 (some 71) (.bool true), .val 37 (some 6) (.bool true)] trivial ?_
        refine dF ?_
        try simp only [puts, Tk.put, Act.put, List.setIfInBounds_toArray, List.set_cons_zero, List.set_cons_succ]
        go_wp2_with fail
        go_ret
        exact ⟨rfl, hM.b⟩
      | true =>
        have Hhb7 := Lib.hid hb7
        clear hb7
        refine tF 34 [.val 29 (some 64) (.bool false), .val 30 (some 65) (.bool false), .val 31 (some 66) (.int .i64 a), .val 32 (some 67) (.int .i64 b), .val 33 (some 68) (.int .i64 t)] trivial ?_
        refine cF (some 69) 12 #[.int .i64 a, .int .i64 b, .int .i64 t] ((due_any a b t _).mono ?_)
        rintro e Y27 ⟨rfl, hb⟩
        replace hM := hM.below hb
        clear hb
        refine tF 38 [.val 35 (some 70) (.bool (dueB a b t)), .val 36 (some 71) (.bool (dueB a b t)), .val 37 (some 6) (.bool (dueB a b t))] trivial ?_
        refine dF ?_
        try simp only [puts, Tk.put, Act.put, List.setIfInBounds_toArray, List.set_cons_zero, List.set_cons_succ]
        go_wp2_with fail
        go_ret
        exact ⟨congrArg (fun b => Ending.returned (Value.bool b)) (dueB_rise Hhb7.out), hM.b⟩
end Go.Proofs.Ytmdnpffoddpomaa
