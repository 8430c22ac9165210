/-
  The law: any mail with more, without one, with one twice, and that to one, are as the page says.
-/
import Derived.Test.YtedoogoelolbdaaNetL
import Derived.Test.YtedoogoelolbdaaRowCut
namespace Go.Proofs.Ytedoogoelolbdaa
open Go.RowKit Go.Shelf
attribute [local irreducible] wpFrom wpAnyH StepH

theorem hold_of {n : Nat} {W : World} {ls l : List Ml} (h : Holds n W (zsM ls)) (hs : ∀ x ∈ l, x ∈ ls) : Holds n W (zsM l) := fun z hz => by
  obtain ⟨y, hy, rfl⟩ := List.mem_map.1 hz
  exact h _ (List.mem_map_of_mem (hs y hy))
theorem mem_but {ls : List Ml} (n : Nat) : ∀ x ∈ ls.take n ++ ls.drop (n + 1), x ∈ ls := fun _ hx => (List.mem_append.1 hx).elim List.mem_of_mem_take List.mem_of_mem_drop
theorem mem_too {ls : List Ml} {n : Nat} {y : Ml} (h : ls[n]? = some y) : ∀ x ∈ ls ++ [y], x ∈ ls := fun x hx => (List.mem_append.1 hx).elim id fun hx => by obtain rfl := List.mem_singleton.1 hx; exact List.mem_of_getElem? h
theorem fil_yes {ls : List Ml} {j : Nat} {x : Ml} {tz : Int} (h : ls[j]? = some x) (hp : (x.fo == tz) = true) : (ls.take j).filter (fun m => m.fo == tz) ++ [x] = (ls.take (j + 1)).filter (fun m => m.fo == tz) := by
  rw [List.take_add_one, h, Option.toList_some, List.filter_append, List.filter_cons, if_pos hp, List.filter_nil]
theorem fil_not {ls : List Ml} {j : Nat} {x : Ml} {tz : Int} (h : ls[j]? = some x) (hp : (x.fo == tz) = false) : (ls.take j).filter (fun m => m.fo == tz) = (ls.take (j + 1)).filter (fun m => m.fo == tz) := by
  rw [List.take_add_one, h, Option.toList_some, List.filter_append, List.filter_cons, if_neg (by rw [hp]; decide), List.filter_nil, List.append_nil]
theorem fil_few (ls : List Ml) (j : Nat) (p : Ml → Bool) : ((ls.take j).filter p).length ≤ j := Nat.le_trans (List.length_filter_le _ _) (List.length_take_le _ _)
theorem post_all {ls : List Ml} {zs : List Zs} {tz : Int} (h1 : ls.length ≤ 400) (h2 : zs.length ≤ 50) : postL (ls.map plM) tz (textsZ zs) = (ls ++ zs.map (mkM tz)).map plM := by
  unfold postL
  rw [List.map_append, plM_mk]
  exact List.take_of_length_le (by rw [List.length_append, List.length_map, List.length_map, textsZ_len]; omega)
theorem post_too {ls : List Ml} {x : Ml} (h1 : ls.length ≤ 400) : postL (ls.map plM) x.fo [x.l] = (ls ++ [x]).map plM := by
  unfold postL
  rw [List.map_append]
  exact List.take_of_length_le (by rw [List.length_append, List.length_map]; simp; omega)
theorem for_all (ls : List Ml) (tz : Int) : selG (fun _ m => (m.1 == tz)) 0 (ls.map plM) = (ls.filter (fun m => m.fo == tz)).map plM := by
  have h := sel_filter (ls.map plM) 0 (fun m : Int × List UInt8 => m.1 == tz)
  rw [h, List.filter_map]
  rfl
theorem but_all (ls : List Ml) (n : Nat) : (ls.map plM).take n ++ (ls.map plM).drop (n + 1) = (ls.take n ++ ls.drop (n + 1)).map plM := by
  rw [List.map_append, List.map_take, List.map_drop]
theorem take_none {p : Option Addr} {c : Nat} {ls : List Ml} (h : ls.length = 0) (z : Int) (w : World) : Calls Try.prog 8 #[.slice p ls.length c, .int .i64 z] w fun e W' => e = .returned (.tuple #[mlv noMl, .slice none 0 0, .bool false]) ∧ Below w.heap.size w W' := by
  rw [h]
  exact take_no p c z w
theorem twin_none {p : Option Addr} {c : Nat} {ls : List Ml} (h : ls.length = 0) (z : Int) (w : World) : Calls Try.prog 13 #[.slice p ls.length c, .int .i64 z] w fun e W' => e = .returned (.slice none 0 0) ∧ Below w.heap.size w W' := by
  rw [h]
  exact twin_no p c z w
theorem elemMl : Try.prog.elem 22 = 27 := by kernel_rfl
set_option maxRecDepth 100000 in
set_option maxHeartbeats 4000000 in
theorem netTells_any {ls : List Ml} {zs : List Zs} {v1 v2 : Value} {lo1 hi1 lo2 hi2 : Nat} (tz z : Int) (w : World) (hl : RSl mlc lo1 hi1 w v1 ls) (hhi : hi1 ≤ w.heap.size) (hkk : Holds w.heap.size w (zsM ls)) (hbp : BP (ls.map plM)) (hz : RSl zsc lo2 hi2 w v2 zs) (hhz : hi2 ≤ w.heap.size) (hkz : Holds w.heap.size w zs) (hbz : BZ zs) : Calls Try.prog 3 #[v1, .int .i64 tz, v2, .int .i64 z] w fun e W' => e = .returned (.bool true) ∧ Below w.heap.size w W' := by
  have hmx : Try.prog.follows .mixedOrders = true := by kernel_rfl
  have HEl := Lib.hid (fun k x (hx : ls[k]? = some x) => hl.elem mlc_len hx Try.underlying22 (fun W => by kernel_rfl))
  obtain ⟨pl, cl, rfl⟩ := hl.slice
  have HLl := Lib.hid hl
  have HHl := Lib.hid hhi
  have HLENl := Lib.hid (show ls.length ≤ 9223372036854775807 from by have h := hl.len; unfold maxLen at h; omega)
  clear hl hhi
  have HEz := Lib.hid (fun k x (hx : zs[k]? = some x) => hz.elem zsc_len hx Try.underlying23 (fun W => by kernel_rfl))
  obtain ⟨pz, cz, rfl⟩ := hz.slice
  have HLz := Lib.hid hz
  have HHz := Lib.hid hhz
  have HLENz := Lib.hid (show zs.length ≤ 9223372036854775807 from by have h := hz.len; unfold maxLen at h; omega)
  clear hz hhz 
  have HKK := Lib.hid hkk
  have HBP := Lib.hid hbp
  have HKZ := Lib.hid hkz
  have HBZ := Lib.hid hbz
  clear hkk hbp hkz hbz
  have hM := Sep.start w
  go_enter Try.func3, Try.ntmps3
  go_upto_region 0 with fail
  refine wp_region_fromM (fun W => Sep w [] [] W) hM ?_
  clear hM
  rintro Y1 hM
  refine tF 1 [.val 0 (some 8) (.bool false)] trivial ?_
  refine dF ?_
  try simp only [puts, Tk.put, Act.put, List.setIfInBounds_toArray, List.set_cons_zero, List.set_cons_succ]
  go_upto_region 1 with fail
  refine wp_region_fromM (fun W => Sep w [] [] W) hM ?_
  clear hM
  rintro Y2 hM
  refine cF (some 18) 7 #[] ((alive23_any _).mono ?_)
  rintro e Y3 ⟨rfl, hb⟩
  replace hM := hM.below hb
  clear hb
  refine tF 2 [.val 1 (some 19) (.bool false)] trivial ?_
  refine dF ?_
  try simp only [puts, Tk.put, Act.put, List.setIfInBounds_toArray, List.set_cons_zero, List.set_cons_succ]
  go_upto_region 3 with fail
  refine wp_region_fromM (fun W => Sep w [] [] W) hM ?_
  clear hM
  rintro Y4 hM
  refine tF 4 [.val 0 (some 20) (.slice pl ls.length cl), .val 1 (some 21) (.int .i64 (ls.length : Int)), .val 2 (some 22) (.bool (decide (400 < (ls.length : Int)))), .val 3 (some 23) (.bool (decide (400 < (ls.length : Int))))] trivial ?_
  cases hb1 : decide (400 < (ls.length : Int)) with
  | false =>
    have Hhb1 := Lib.hid hb1
    clear hb1
    have HL4 : Hid (ls.length ≤ 400) := Lib.hid (by have h := of_decide_eq_false Hhb1.out; omega)
    refine tF 8 [.val 4 (some 24) (.slice pz zs.length cz), .val 5 (some 25) (.int .i64 (zs.length : Int)), .val 6 (some 26) (.bool (decide (50 < (zs.length : Int)))), .val 7 (some 27) (.bool (decide (50 < (zs.length : Int))))] trivial ?_
    refine dF ?_
    try simp only [puts, Tk.put, Act.put, List.setIfInBounds_toArray, List.set_cons_zero, List.set_cons_succ]
    cases hb2 : decide (50 < (zs.length : Int)) with
    | false =>
      have Hhb2 := Lib.hid hb2
      clear hb2
      have HZ5 : Hid (zs.length ≤ 50) := Lib.hid (by have h := of_decide_eq_false Hhb2.out; omega)
      go_upto_region 5 with fail
      refine wp_region_fromM (fun W => Sep w [] [] W) hM ?_
      clear hM
      rintro Y5 hM
      refine rF (some 28) (.slice (some ⟨Y5.heap.size, 0, none⟩) 0 0) (Y5.alloc (.cells ([]).toArray 27)) ?_
      replace hM := hM.alloc 27 ([])
      generalize World.alloc _ _ = Y6 at *
      generalize hNe : Y5.heap.size = N6 at *
      clear hNe
      replace hM := hM.mtrow (f := mlc) (n := 2)
      refine tF 2 [.val 1 (some 29) (.slice pl ls.length cl)] trivial ?_
      obtain ⟨v7, Y7, hrun, ht⟩ := own_appR infoMl rfl (by decide) Try.underlying22 mlc_len mlc_one (hM.oka 0 rfl) (HLl.out.below hM.b HHl.out) (by decide) (by have h := HL4.out; have h2 := HZ5.out; simp; omega) 22
      replace hM := hM.turn 0 rfl ht rfl
      clear ht
      refine wpFrom_append (d := some 30) (t := 22) (t' := 22) (ty := 22) (v := .slice (some ⟨N6, 0, none⟩) 0 0) (x := .slice pl ls.length cl) (by kernel_rfl) hrun ?_
      clear hrun
      replace hM : Sep w [] [.own mlc 27 2 (v7) (ls)] Y7 := hM
      refine tF 4 [.val 3 (some 9) (v7)] trivial ?_
      refine dF ?_
      try simp only [puts, Tk.put, Act.put, List.setIfInBounds_toArray, List.set_cons_zero, List.set_cons_succ]
      go_upto_region 6 with fail
      refine wp_region_fromM (fun W => Sep w [] [.own mlc 27 2 (v7) (ls)] W) hM ?_
      clear hM
      rintro Y8 hM
      refine tF 1 [.val 0 (some 10) (.int .i64 0)] trivial ?_
      refine dF ?_
      try simp only [puts, Tk.put, Act.put, List.setIfInBounds_toArray, List.set_cons_zero, List.set_cons_succ]
      
      go_wp2_with fail
      go_loopw [10, 9] (fun i u9 wr => ∃ j : Nat, j ≤ zs.length ∧ i = .int .i64 (j : Int) ∧ Sep w [] [.own mlc 27 2 (u9) (ls ++ (zs.take j).map (mkM tz))] wr) (fun i u9 _ => zs.length - (intOf i).toNat)
      case atStart => exact ⟨0, Nat.zero_le _, rfl, by rw [List.take_zero, List.map_nil, List.append_nil]; exact hM⟩
      clear hM
      case round =>
        obtain ⟨j, hj, rfl, hM⟩ := hrel
        by_cases hlt : j < zs.length
        case pos =>
          have HJ := Lib.hid hlt
          have hlt' : (j : Int) < (zs.length : Int) := by omega
          have HLT := Lib.hid hlt'
          clear hlt'
          obtain ⟨z', hx⟩ : ∃ z', zs[j]? = some z' := ⟨_, List.getElem?_eq_getElem hlt⟩
          obtain ⟨bz, oz, _, _, hit, hct⟩ := HEz.out j z' hx
          have HXz := Lib.hid hx
          have HIz := Lib.hid hit
          have HCz := Lib.hid hct
          clear hx hit hct
          clear hlt
          go_upto_region 7 with fail
          refine wp_region_fromM (fun W => Sep w [] [.own mlc 27 2 (u9) (ls ++ (zs.take j).map (mkM tz))] W) hM ?_
          clear hM
          rintro Y9 hM
          refine tF 4 [.val 0 (some 31) (.int .i64 (j : Int)), .val 1 (some 32) (.slice pz zs.length cz), .val 2 (some 33) (.int .i64 (zs.length : Int)), .alt 3 (some 34) (.bool (decide ((j : Int) < (zs.length : Int)))) (.bool true)] ⟨congrArg Value.bool (decide_eq_true HLT.out), trivial⟩ ?_
          refine dF ?_
          try simp only [puts, Tk.put, Act.put, List.setIfInBounds_toArray, List.set_cons_zero, List.set_cons_succ]
          go_upto_region 9 with fail
          refine wp_region_fromM (fun W => Sep w [] [.own mlc 27 2 (u9) (ls ++ (zs.take j).map (mkM tz))] W) hM ?_
          clear hM
          rintro Y10 hM
          refine tF 7 [.val 0 (some 37) (u9), .val 1 (some 38) (.int .i64 tz), .val 2 (some 39) (.slice pz zs.length cz), .val 3 (some 40) (.int .i64 (j : Int)), .idx 4 (some 41) 23 (.slice pz zs.length cz) (.int .i64 (j : Int)) (pt bz oz), .load 5 (some 42) 25 (pt bz oz) (.slice z'.a z'.l.length z'.c), .val 6 (some 43) (mlv (Ml.mk tz z'.a z'.c z'.l))] ⟨HIz.out _, ld_cell _ _ Try.underlying25 rfl (HCz.out _ (HLz.out.below hM.b HHz.out) 0 _ rfl), trivial⟩ ?_
          refine rF (some 44) (.slice (some ⟨Y10.heap.size, 0, none⟩) 1 1) (Y10.alloc (.cells (mlc (Ml.mk tz z'.a z'.c z'.l)).toArray 27)) ?_
          replace hM := hM.alloc 27 (mlc (Ml.mk tz z'.a z'.c z'.l))
          generalize World.alloc _ _ = Y11 at *
          generalize hNe : Y10.heap.size = N11 at *
          clear hNe
          obtain ⟨v12, Y12, hrun, ht⟩ := own_app1 infoMl rfl (by decide) Try.underlying22 mlc_len mlc_one (hM.oka 1 rfl) (Ml.mk tz z'.a z'.c z'.l) (hM.at 0 rfl) (by decide) (by have h := HL4.out; have h2 := HZ5.out; simp; omega) 22
          replace hM := hM.turn 1 rfl ht rfl
          clear ht
          refine wpFrom_append (d := some 45) (t := 22) (t' := 22) (ty := 22) (v := u9) (x := .slice (some ⟨N11, 0, none⟩) 1 1) (by kernel_rfl) hrun ?_
          clear hrun
          refine tF 10 [.val 9 (some 9) (v12)] trivial ?_
          refine dF ?_
          try simp only [puts, Tk.put, Act.put, List.setIfInBounds_toArray, List.set_cons_zero, List.set_cons_succ]
          go_upto_region 8 with fail
          refine wp_region_fromM (fun W => Sep w [] [.blk N11 27 (mlc (Ml.mk tz z'.a z'.c z'.l)), .own mlc 27 2 (v12) ((ls ++ (zs.take j).map (mkM tz)) ++ [Ml.mk tz z'.a z'.c z'.l])] W) hM ?_
          clear hM
          rintro Y13 hM
          refine tF 3 [.val 0 (some 35) (.int .i64 (j : Int)), .alt 1 (some 36) (.int .i64 (IntKind.i64.wrap ((j : Int) + 1))) (.int .i64 ((j + 1 : Nat) : Int)), .val 2 (some 10) (.int .i64 ((j + 1 : Nat) : Int))] ⟨congrArg (Value.int .i64) ((IntWalk.i64_in _ (by have := HLENz.out; have := HJ.out; omega)).trans (by omega)), trivial⟩ ?_
          refine dF ?_
          try simp only [puts, Tk.put, Act.put, List.setIfInBounds_toArray, List.set_cons_zero, List.set_cons_succ]
          have HM1 : Hid (Sep w [] [.own mlc 27 2 (v12) ((ls ++ (zs.take j).map (mkM tz)) ++ [Ml.mk tz z'.a z'.c z'.l])] Y13) := Lib.hid (hM.pick [1] (by decide) rfl)
          clear hM
          go_wp2_with fail
          go_roundw
          case rel => exact ⟨j + 1, HJ.out, rfl, by rw [← mk_step HXz.out]; exact HM1.out⟩
          case measure => have := HJ.out; simp [intOf]; omega
        case neg =>
          obtain rfl : j = zs.length := by omega
          rw [List.take_length] at hM
          go_upto_region 7 with fail
          refine wp_region_fromM (fun W => Sep w [] [.own mlc 27 2 (u9) (ls ++ zs.map (mkM tz))] W) hM ?_
          clear hM
          rintro Y14 hM
          refine tF 4 [.val 0 (some 31) (.int .i64 (zs.length : Int)), .val 1 (some 32) (.slice pz zs.length cz), .val 2 (some 33) (.int .i64 (zs.length : Int)), .alt 3 (some 34) (.bool (decide ((zs.length : Int) < (zs.length : Int)))) (.bool false)] ⟨congrArg Value.bool (decide_eq_false (by omega)), trivial⟩ ?_
          refine dF ?_
          try simp only [puts, Tk.put, Act.put, List.setIfInBounds_toArray, List.set_cons_zero, List.set_cons_succ]
          go_upto_region 10 with fail
          refine wp_region_fromM (fun W => Sep w [] [.own mlc 27 2 (u9) (ls ++ zs.map (mkM tz))] W) hM ?_
          clear hM
          rintro Y15 hM
          refine tF 1 [.val 0 (some 11) (.slice none 0 0)] trivial ?_
          refine dF ?_
          try simp only [puts, Tk.put, Act.put, List.setIfInBounds_toArray, List.set_cons_zero, List.set_cons_succ]
          go_upto_region 11 with fail
          refine wp_region_fromM (fun W => Sep w [] [.own mlc 27 2 (u9) (ls ++ zs.map (mkM tz))] W) hM ?_
          clear hM
          rintro Y16 hM
          refine tF 1 [.val 0 (some 12) (.int .i64 0)] trivial ?_
          refine dF ?_
          try simp only [puts, Tk.put, Act.put, List.setIfInBounds_toArray, List.set_cons_zero, List.set_cons_succ]
          replace hM := hM.nil mlc 27 2
          go_wp2_with fail
          go_loopw [12, 11] (fun i u11 wr => ∃ j : Nat, j ≤ ls.length ∧ i = .int .i64 (j : Int) ∧ Sep w [] [.own mlc 27 2 (u11) ((ls.take j).filter (fun m => m.fo == tz)), .own mlc 27 2 (u9) (ls ++ zs.map (mkM tz))] wr) (fun i u11 _ => ls.length - (intOf i).toNat)
          case atStart => exact ⟨0, Nat.zero_le _, rfl, hM⟩
          clear hM
          case round =>
            obtain ⟨j, hj, rfl, hM⟩ := hrel
            by_cases hlt : j < ls.length
            case pos =>
              obtain ⟨x, hx⟩ : ∃ x, ls[j]? = some x := ⟨_, List.getElem?_eq_getElem hlt⟩
              obtain ⟨be, oe, _, _, hit, hct⟩ := HEl.out j x hx
              have HXe := Lib.hid hx
              have HIe := Lib.hid hit
              have HCe := Lib.hid hct
              clear hx hit hct
              have HJ := Lib.hid hlt
              have hlt' : (j : Int) < (ls.length : Int) := by omega
              have HLT := Lib.hid hlt'
              clear hlt' hlt
              go_upto_region 12 with fail
              refine wp_region_fromM (fun W => Sep w [] [.own mlc 27 2 (u11) ((ls.take j).filter (fun m => m.fo == tz)), .own mlc 27 2 (u9) (ls ++ zs.map (mkM tz))] W) hM ?_
              clear hM
              rintro Y17 hM
              refine tF 4 [.val 0 (some 46) (.int .i64 (j : Int)), .val 1 (some 47) (.slice pl ls.length cl), .val 2 (some 48) (.int .i64 (ls.length : Int)), .alt 3 (some 49) (.bool (decide ((j : Int) < (ls.length : Int)))) (.bool true)] ⟨congrArg Value.bool (decide_eq_true HLT.out), trivial⟩ ?_
              refine dF ?_
              try simp only [puts, Tk.put, Act.put, List.setIfInBounds_toArray, List.set_cons_zero, List.set_cons_succ]
              go_upto_region 14 with fail
              refine wp_region_fromM (fun W => Sep w [] [.own mlc 27 2 (u11) ((ls.take j).filter (fun m => m.fo == tz)), .own mlc 27 2 (u9) (ls ++ zs.map (mkM tz))] W) hM ?_
              clear hM
              rintro Y18 hM
              refine tF 7 [.val 0 (some 52) (.slice pl ls.length cl), .val 1 (some 53) (.int .i64 (j : Int)), .idx 2 (some 54) 22 (.slice pl ls.length cl) (.int .i64 (j : Int)) (pt be oe), .val 3 (some 55) (pt be oe), .load 4 (some 56) 3 (pt be oe) (.int .i64 x.fo), .val 5 (some 57) (.int .i64 tz), .val 6 (some 58) (.bool (x.fo == tz))] ⟨HIe.out _, ld_cell _ _ Try.underlying3 rfl (HCe.out _ (HLl.out.below hM.b HHl.out) 0 _ rfl), trivial⟩ ?_
              refine dF ?_
              try simp only [puts, Tk.put, Act.put, List.setIfInBounds_toArray, List.set_cons_zero, List.set_cons_succ]
              cases hb3 : x.fo == tz with
              | false =>
                have Hhb3 := Lib.hid hb3
                clear hb3
                go_upto_region 13 with fail
                refine wp_region_fromM (fun W => Sep w [] [.own mlc 27 2 (u11) ((ls.take j).filter (fun m => m.fo == tz)), .own mlc 27 2 (u9) (ls ++ zs.map (mkM tz))] W) hM ?_
                clear hM
                rintro Y19 hM
                refine tF 3 [.val 0 (some 50) (.int .i64 (j : Int)), .alt 1 (some 51) (.int .i64 (IntKind.i64.wrap ((j : Int) + 1))) (.int .i64 ((j + 1 : Nat) : Int)), .val 2 (some 12) (.int .i64 ((j + 1 : Nat) : Int))] ⟨congrArg (Value.int .i64) ((IntWalk.i64_in _ (by have := HLENl.out; have := HJ.out; omega)).trans (by omega)), trivial⟩ ?_
                refine dF ?_
                try simp only [puts, Tk.put, Act.put, List.setIfInBounds_toArray, List.set_cons_zero, List.set_cons_succ]
                have HM1 : Hid (Sep w [] [.own mlc 27 2 (u11) ((ls.take j).filter (fun m => m.fo == tz)), .own mlc 27 2 (u9) (ls ++ zs.map (mkM tz))] Y19) := Lib.hid (hM.pick [0, 1] (by decide) rfl)
                clear hM
                go_wp2_with fail
                go_roundw
                case rel => exact ⟨j + 1, HJ.out, rfl, by rw [← fil_not HXe.out Hhb3.out]; exact HM1.out⟩
                case measure => have := HJ.out; simp [intOf]; omega
              | true =>
                have Hhb3 := Lib.hid hb3
                clear hb3
                go_upto_region 15 with fail
                refine wp_region_fromM (fun W => Sep w [] [.own mlc 27 2 (u11) ((ls.take j).filter (fun m => m.fo == tz)), .own mlc 27 2 (u9) (ls ++ zs.map (mkM tz))] W) hM ?_
                clear hM
                rintro Y20 hM
                refine tF 5 [.val 0 (some 59) (u11), .val 1 (some 60) (.slice pl ls.length cl), .val 2 (some 61) (.int .i64 (j : Int)), .idx 3 (some 62) 22 (.slice pl ls.length cl) (.int .i64 (j : Int)) (pt be oe), .load 4 (some 63) 27 (pt be oe) (mlv x)] ⟨HIe.out _, ld_cells (mlc x) _ _ Try.underlying27 rfl (by kernel_rfl) (HCe.out _ (HLl.out.below hM.b HHl.out)), trivial⟩ ?_
                refine rF (some 64) (.slice (some ⟨Y20.heap.size, 0, none⟩) 1 1) (Y20.alloc (.cells (mlc x).toArray 27)) ?_
                replace hM := hM.alloc 27 (mlc x)
                generalize World.alloc _ _ = Y21 at *
                generalize hNe : Y20.heap.size = N21 at *
                clear hNe
                obtain ⟨v22, Y22, hrun, ht⟩ := own_app1 infoMl rfl (by decide) Try.underlying22 mlc_len mlc_one (hM.oka 1 rfl) x (hM.at 0 rfl) (by decide) (by have h := HL4.out; have h2 := fil_few ls j (fun m => m.fo == tz); have h3 := HJ.out; omega) 22
                replace hM := hM.turn 1 rfl ht rfl
                clear ht
                refine wpFrom_append (d := some 65) (t := 22) (t' := 22) (ty := 22) (v := u11) (x := .slice (some ⟨N21, 0, none⟩) 1 1) (by kernel_rfl) hrun ?_
                clear hrun
                refine tF 8 [.val 7 (some 11) (v22)] trivial ?_
                refine dF ?_
                try simp only [puts, Tk.put, Act.put, List.setIfInBounds_toArray, List.set_cons_zero, List.set_cons_succ]
                go_upto_region 13 with fail
                refine wp_region_fromM (fun W => Sep w [] [.blk N21 27 (mlc x), .own mlc 27 2 (v22) (((ls.take j).filter (fun m => m.fo == tz)) ++ [x]), .own mlc 27 2 (u9) (ls ++ zs.map (mkM tz))] W) hM ?_
                clear hM
                rintro Y23 hM
                refine tF 3 [.val 0 (some 50) (.int .i64 (j : Int)), .alt 1 (some 51) (.int .i64 (IntKind.i64.wrap ((j : Int) + 1))) (.int .i64 ((j + 1 : Nat) : Int)), .val 2 (some 12) (.int .i64 ((j + 1 : Nat) : Int))] ⟨congrArg (Value.int .i64) ((IntWalk.i64_in _ (by have := HLENl.out; have := HJ.out; omega)).trans (by omega)), trivial⟩ ?_
                refine dF ?_
                try simp only [puts, Tk.put, Act.put, List.setIfInBounds_toArray, List.set_cons_zero, List.set_cons_succ]
                have HM1 : Hid (Sep w [] [.own mlc 27 2 (v22) (((ls.take j).filter (fun m => m.fo == tz)) ++ [x]), .own mlc 27 2 (u9) (ls ++ zs.map (mkM tz))] Y23) := Lib.hid (hM.pick [1, 2] (by decide) rfl)
                clear hM
                go_wp2_with fail
                go_roundw
                case rel => exact ⟨j + 1, HJ.out, rfl, by rw [← fil_yes HXe.out Hhb3.out]; exact HM1.out⟩
                case measure => have := HJ.out; simp [intOf]; omega
            case neg =>
              obtain rfl : j = ls.length := by omega
              rw [List.take_length] at hM
              go_upto_region 12 with fail
              refine wp_region_fromM (fun W => Sep w [] [.own mlc 27 2 (u11) (ls.filter (fun m => m.fo == tz)), .own mlc 27 2 (u9) (ls ++ zs.map (mkM tz))] W) hM ?_
              clear hM
              rintro Y24 hM
              refine tF 4 [.val 0 (some 46) (.int .i64 (ls.length : Int)), .val 1 (some 47) (.slice pl ls.length cl), .val 2 (some 48) (.int .i64 (ls.length : Int)), .alt 3 (some 49) (.bool (decide ((ls.length : Int) < (ls.length : Int)))) (.bool false)] ⟨congrArg Value.bool (decide_eq_false (by omega)), trivial⟩ ?_
              refine dF ?_
              try simp only [puts, Tk.put, Act.put, List.setIfInBounds_toArray, List.set_cons_zero, List.set_cons_succ]
              by_cases hls : ls.length = 0
              case pos =>
                have HNO := Lib.hid hls
                clear hls
                go_upto_region 16 with fail
                refine wp_region_fromM (fun W => Sep w [] [.own mlc 27 2 (u11) (ls.filter (fun m => m.fo == tz)), .own mlc 27 2 (u9) (ls ++ zs.map (mkM tz))] W) hM ?_
                clear hM
                rintro Y25 hM
                refine tF 2 [.val 0 (some 67) (.slice pl ls.length cl), .val 1 (some 68) (.int .i64 z)] trivial ?_
                refine cF (some 69) 8 #[.slice pl ls.length cl, .int .i64 z] ((take_none HNO.out z _).mono ?_)
                rintro e Y26 ⟨rfl, hb⟩
                replace hM := hM.below hb
                clear hb
                refine tF 7 [.val 3 (some 66) (.tuple #[mlv noMl, .slice none 0 0, .bool false]), .val 4 (some 70) (mlv noMl), .val 5 (some 71) (.slice none 0 0), .val 6 (some 72) (.bool false)] trivial ?_
                refine rF (some 13) (pt Y26.heap.size 0) (Y26.alloc (.cells (mlc noMl).toArray 27)) ?_
                replace hM := hM.alloc 27 (mlc noMl)
                generalize World.alloc _ _ = Y27 at *
                generalize hNe : Y26.heap.size = N27 at *
                clear hNe
                have hst := sto_part (mlc noMl) (hM.at 0 rfl) 0 27 (mlv noMl) (mlc noMl) rfl (by kernel_rfl) (Nat.le_of_ble_eq_true rfl) rfl rfl
                refine sF 27 (pt N27 0) (mlv noMl) (hst) ?_
                clear hst
                replace hM := hM.set 0 (cs' := mlc noMl) rfl rfl
                generalize World.setRow _ _ _ = Y28 at *
                refine tF 11 [.val 9 (some 14) (.slice none 0 0), .val 10 (some 15) (.bool false)] trivial ?_
                refine dF ?_
                try simp only [puts, Tk.put, Act.put, List.setIfInBounds_toArray, List.set_cons_zero, List.set_cons_succ]
                go_upto_region 17 with fail
                refine wp_region_fromM (fun W => Sep w [] [.blk N27 27 (mlc noMl), .own mlc 27 2 (u11) (ls.filter (fun m => m.fo == tz)), .own mlc 27 2 (u9) (ls ++ zs.map (mkM tz))] W) hM ?_
                clear hM
                rintro Y29 hM
                refine tF 3 [.val 0 (some 73) (.slice pl ls.length cl), .val 1 (some 74) (.int .i64 tz), .val 2 (some 75) (.slice pz zs.length cz)] trivial ?_
                refine cF (some 76) 10 #[.slice pl ls.length cl, .int .i64 tz, .slice pz zs.length cz] ((post_any ls zs tz _ (HLl.out.below hM.b HHl.out) (Nat.le_trans HHl.out hM.size) (HLz.out.below hM.b HHz.out) (Nat.le_trans HHz.out hM.size) (by have h := HL4.out; have h2 := HZ5.out; omega) (HKK.out.up hM.b) HBP.out (HKZ.out.up hM.b) HBZ.out).mono ?_)
                rintro e Y30 ⟨v30m, ms30, rfl, he30, hR⟩
                have HE30 := Lib.hid he30
                replace hM := hM.gain2 hR
                clear hR he30
                obtain ⟨pv30m, cv30m, rfl⟩ := (hM.oka 0 rfl).slice mlc_len
                refine tF 5 [.val 4 (some 77) (u9)] trivial ?_
                refine cF (some 78) 9 #[.slice pv30m ms30.length cv30m, u9] ((same23_any (la := ms30) (lb := ls ++ zs.map (mkM tz)) _ ((hM.oka 0 rfl).rsl mlc_len) (Nat.le_refl _) ((hM.oka 4 rfl).rsl mlc_len) (Nat.le_refl _) (hM.oka 1 rfl).holdW (hold_mk tz (HKK.out.up hM.b) (HKZ.out.up hM.b)) (HE30.out.trans (post_all HL4.out HZ5.out))).mono ?_)
                rintro e Y32 ⟨rfl, hb⟩
                replace hM := hM.below hb
                clear hb
                refine tF 10 [.val 6 (some 79) (.bool false), .val 7 (some 80) (.bool false), .val 8 (some 81) (.slice pl ls.length cl), .val 9 (some 82) (.int .i64 tz)] trivial ?_
                refine cF (some 83) 11 #[.slice pl ls.length cl, .int .i64 tz] ((for_any ls tz _ (HLl.out.below hM.b HHl.out) (Nat.le_trans HHl.out hM.size) (by have h := HL4.out; omega) (HKK.out.up hM.b) HBP.out).mono ?_)
                rintro e Y33 ⟨v33m, ms33, rfl, he33, hR⟩
                have HE33 := Lib.hid he33
                replace hM := hM.gain2 hR
                clear hR he33
                obtain ⟨pv33m, cv33m, rfl⟩ := (hM.oka 0 rfl).slice mlc_len
                refine tF 12 [.val 11 (some 84) (u11)] trivial ?_
                refine cF (some 85) 9 #[.slice pv33m ms33.length cv33m, u11] ((same23_any (la := ms33) (lb := ls.filter (fun m => m.fo == tz)) _ ((hM.oka 0 rfl).rsl mlc_len) (Nat.le_refl _) ((hM.oka 5 rfl).rsl mlc_len) (Nat.le_refl _) (hM.oka 1 rfl).holdW (hold_of (HKK.out.up hM.b) (fun _ hx => (List.mem_filter.1 hx).1)) (HE33.out.trans (for_all ls tz))).mono ?_)
                rintro e Y35 ⟨rfl, hb⟩
                replace hM := hM.below hb
                clear hb
                refine tF 22 [.val 13 (some 86) (.bool false), .val 14 (some 87) (.bool false), .val 15 (some 88) (.bool false), .val 16 (some 89) (.bool false), .val 17 (some 90) (.slice pl ls.length cl), .val 18 (some 91) (.int .i64 (ls.length : Int)), .alt 19 (some 92) (.bool (decide (0 < (ls.length : Int)))) (.bool false), .val 20 (some 93) (.bool false), .val 21 (some 94) (.bool false)] ⟨congrArg Value.bool (decide_eq_false (by have h := HNO.out; omega)), trivial⟩ ?_
                refine dF ?_
                try simp only [puts, Tk.put, Act.put, List.setIfInBounds_toArray, List.set_cons_zero, List.set_cons_succ]
                go_upto_region 19 with fail
                refine wp_region_fromM (fun W => Sep w [] [.own mlc 27 2 (.slice pv33m ms33.length cv33m) (ms33), .ows (zsM ms33), .own mlc 27 2 (.slice pv30m ms30.length cv30m) (ms30), .ows (zsM ms30), .blk N27 27 (mlc noMl), .own mlc 27 2 (u11) (ls.filter (fun m => m.fo == tz)), .own mlc 27 2 (u9) (ls ++ zs.map (mkM tz))] W) hM ?_
                clear hM
                rintro Y36 hM
                refine tF 2 [.val 0 (some 95) (.bool false), .val 1 (some 96) (.bool true)] trivial ?_
                refine dF ?_
                try simp only [puts, Tk.put, Act.put, List.setIfInBounds_toArray, List.set_cons_zero, List.set_cons_succ]
                go_upto_region 20 with fail
                refine wp_region_fromM (fun W => Sep w [] [.own mlc 27 2 (.slice pv33m ms33.length cv33m) (ms33), .ows (zsM ms33), .own mlc 27 2 (.slice pv30m ms30.length cv30m) (ms30), .ows (zsM ms30), .blk N27 27 (mlc noMl), .own mlc 27 2 (u11) (ls.filter (fun m => m.fo == tz)), .own mlc 27 2 (u9) (ls ++ zs.map (mkM tz))] W) hM ?_
                clear hM
                rintro Y37 hM
                refine tF 2 [.load 0 (some 97) 27 (pt N27 0) (mlv noMl), .val 1 (some 98) (mlv noMl)] ⟨load_part (hM.at 4 rfl) 0 (mlc noMl) rfl _ _ Try.underlying27 rfl (by kernel_rfl), trivial⟩ ?_
                refine cF (some 99) 12 #[mlv noMl, mlv noMl] ((one23_any noMl noMl _ ((BSl.nil 0 _ _)) ((BSl.nil 0 _ _)) (rfl)).mono ?_)
                rintro e Y38 ⟨rfl, hb⟩
                replace hM := hM.below hb
                clear hb
                refine tF 8 [.val 3 (some 100) (.bool true), .val 4 (some 101) (.slice none 0 0), .val 5 (some 102) (.int .i64 0), .val 6 (some 103) (.slice pl ls.length cl), .val 7 (some 104) (.int .i64 z)] trivial ?_
                refine cF (some 105) 13 #[.slice pl ls.length cl, .int .i64 z] ((twin_none HNO.out z _).mono ?_)
                rintro e Y39 ⟨rfl, hb⟩
                replace hM := hM.below hb
                clear hb
                refine tF 14 [.val 9 (some 106) (.int .i64 0), .alt 10 (some 107) (.int .i64 (IntKind.i64.wrap (0 + 0))) (.int .i64 0), .val 11 (some 108) (.bool true), .val 12 (some 109) (.bool true), .val 13 (some 8) (.bool true)] ⟨congrArg (Value.int .i64) (rfl), trivial⟩ ?_
                refine dF ?_
                try simp only [puts, Tk.put, Act.put, List.setIfInBounds_toArray, List.set_cons_zero, List.set_cons_succ]
                go_wp2_with fail
                go_ret
                exact ⟨rfl, hM.b⟩
              case neg =>
                have HPOS := Lib.hid (show 0 < ls.length ∧ ls.length ≤ 1048576 by have h := HL4.out; omega)
                clear hls
                have hlt : plcN z ls.length < ls.length := plc_lt z HPOS.out.1
                have HN0 := Lib.hid (show (ls.length : Int) ≠ 0 by have h := HPOS.out; omega)
                have HSM := Lib.hid (plc_sum z HPOS.out.1 HPOS.out.2)
                have HPE := Lib.hid (plc_eq z HPOS.out.1)
                have HPT := Lib.hid hlt
                obtain ⟨x, hx⟩ : ∃ x, ls[(plcN z ls.length)]? = some x := ⟨_, List.getElem?_eq_getElem hlt⟩
                obtain ⟨bl, ol, _, _, hit, hct⟩ := HEl.out (plcN z ls.length) x hx
                have HXl := Lib.hid hx
                have HIl := Lib.hid hit
                have HCl := Lib.hid hct
                clear hx hit hct
                clear hlt
                go_upto_region 16 with fail
                refine wp_region_fromM (fun W => Sep w [] [.own mlc 27 2 (u11) (ls.filter (fun m => m.fo == tz)), .own mlc 27 2 (u9) (ls ++ zs.map (mkM tz))] W) hM ?_
                clear hM
                rintro Y40 hM
                refine tF 2 [.val 0 (some 67) (.slice pl ls.length cl), .val 1 (some 68) (.int .i64 z)] trivial ?_
                refine cF (some 69) 8 #[.slice pl ls.length cl, .int .i64 z] ((take_any ls z x _ (HLl.out.below hM.b HHl.out) (Nat.le_trans HHl.out hM.size) (by have h := HL4.out; omega) (HKK.out.up hM.b) HBP.out HXl.out).mono ?_)
                rintro e Y41 ⟨m41, v41m, ms41, rfl, hm41, he41, hR⟩
                have HE41 := Lib.hid he41
                have HMX := Lib.hid hm41
                replace hM := hM.gain3 hR
                clear hR he41 hm41
                refine tF 7 [.val 3 (some 66) (.tuple #[mlv m41, v41m, .bool true]), .val 4 (some 70) (mlv m41), .val 5 (some 71) (v41m), .val 6 (some 72) (.bool true)] trivial ?_
                refine rF (some 13) (pt Y41.heap.size 0) (Y41.alloc (.cells (mlc noMl).toArray 27)) ?_
                replace hM := hM.alloc 27 (mlc noMl)
                generalize World.alloc _ _ = Y43 at *
                generalize hNe : Y41.heap.size = N43 at *
                clear hNe
                have hst := sto_part (mlc m41) (hM.at 0 rfl) 0 27 (mlv m41) (mlc m41) rfl (by kernel_rfl) (Nat.le_of_ble_eq_true rfl) rfl rfl
                refine sF 27 (pt N43 0) (mlv m41) (hst) ?_
                clear hst
                replace hM := hM.set 0 (cs' := mlc m41) rfl rfl
                generalize World.setRow _ _ _ = Y44 at *
                refine tF 11 [.val 9 (some 14) (v41m), .val 10 (some 15) (.bool true)] trivial ?_
                refine dF ?_
                try simp only [puts, Tk.put, Act.put, List.setIfInBounds_toArray, List.set_cons_zero, List.set_cons_succ]
                go_upto_region 17 with fail
                refine wp_region_fromM (fun W => Sep w [] [.blk N43 27 (mlc m41), .own mlc 27 2 (v41m) (ms41), .ows (zsM ms41), .ows (zsM ([m41])), .own mlc 27 2 (u11) (ls.filter (fun m => m.fo == tz)), .own mlc 27 2 (u9) (ls ++ zs.map (mkM tz))] W) hM ?_
                clear hM
                rintro Y45 hM
                refine tF 3 [.val 0 (some 73) (.slice pl ls.length cl), .val 1 (some 74) (.int .i64 tz), .val 2 (some 75) (.slice pz zs.length cz)] trivial ?_
                refine cF (some 76) 10 #[.slice pl ls.length cl, .int .i64 tz, .slice pz zs.length cz] ((post_any ls zs tz _ (HLl.out.below hM.b HHl.out) (Nat.le_trans HHl.out hM.size) (HLz.out.below hM.b HHz.out) (Nat.le_trans HHz.out hM.size) (by have h := HL4.out; have h2 := HZ5.out; omega) (HKK.out.up hM.b) HBP.out (HKZ.out.up hM.b) HBZ.out).mono ?_)
                rintro e Y46 ⟨v46m, ms46, rfl, he46, hR⟩
                have HE46 := Lib.hid he46
                replace hM := hM.gain2 hR
                clear hR he46
                obtain ⟨pv46m, cv46m, rfl⟩ := (hM.oka 0 rfl).slice mlc_len
                refine tF 5 [.val 4 (some 77) (u9)] trivial ?_
                refine cF (some 78) 9 #[.slice pv46m ms46.length cv46m, u9] ((same23_any (la := ms46) (lb := ls ++ zs.map (mkM tz)) _ ((hM.oka 0 rfl).rsl mlc_len) (Nat.le_refl _) ((hM.oka 7 rfl).rsl mlc_len) (Nat.le_refl _) (hM.oka 1 rfl).holdW (hold_mk tz (HKK.out.up hM.b) (HKZ.out.up hM.b)) (HE46.out.trans (post_all HL4.out HZ5.out))).mono ?_)
                rintro e Y48 ⟨rfl, hb⟩
                replace hM := hM.below hb
                clear hb
                refine tF 10 [.val 6 (some 79) (.bool false), .val 7 (some 80) (.bool false), .val 8 (some 81) (.slice pl ls.length cl), .val 9 (some 82) (.int .i64 tz)] trivial ?_
                refine cF (some 83) 11 #[.slice pl ls.length cl, .int .i64 tz] ((for_any ls tz _ (HLl.out.below hM.b HHl.out) (Nat.le_trans HHl.out hM.size) (by have h := HL4.out; omega) (HKK.out.up hM.b) HBP.out).mono ?_)
                rintro e Y49 ⟨v49m, ms49, rfl, he49, hR⟩
                have HE49 := Lib.hid he49
                replace hM := hM.gain2 hR
                clear hR he49
                obtain ⟨pv49m, cv49m, rfl⟩ := (hM.oka 0 rfl).slice mlc_len
                refine tF 12 [.val 11 (some 84) (u11)] trivial ?_
                refine cF (some 85) 9 #[.slice pv49m ms49.length cv49m, u11] ((same23_any (la := ms49) (lb := ls.filter (fun m => m.fo == tz)) _ ((hM.oka 0 rfl).rsl mlc_len) (Nat.le_refl _) ((hM.oka 8 rfl).rsl mlc_len) (Nat.le_refl _) (hM.oka 1 rfl).holdW (hold_of (HKK.out.up hM.b) (fun _ hx => (List.mem_filter.1 hx).1)) (HE49.out.trans (for_all ls tz))).mono ?_)
                rintro e Y51 ⟨rfl, hb⟩
                replace hM := hM.below hb
                clear hb
                refine tF 22 [.val 13 (some 86) (.bool false), .val 14 (some 87) (.bool false), .val 15 (some 88) (.bool false), .val 16 (some 89) (.bool true), .val 17 (some 90) (.slice pl ls.length cl), .val 18 (some 91) (.int .i64 (ls.length : Int)), .alt 19 (some 92) (.bool (decide (0 < (ls.length : Int)))) (.bool true), .val 20 (some 93) (.bool false), .val 21 (some 94) (.bool false)] ⟨congrArg Value.bool (decide_eq_true (by have h := HPOS.out; omega)), trivial⟩ ?_
                refine dF ?_
                try simp only [puts, Tk.put, Act.put, List.setIfInBounds_toArray, List.set_cons_zero, List.set_cons_succ]
                go_upto_region 19 with fail
                refine wp_region_fromM (fun W => Sep w [] [.own mlc 27 2 (.slice pv49m ms49.length cv49m) (ms49), .ows (zsM ms49), .own mlc 27 2 (.slice pv46m ms46.length cv46m) (ms46), .ows (zsM ms46), .blk N43 27 (mlc m41), .own mlc 27 2 (v41m) (ms41), .ows (zsM ms41), .ows (zsM ([m41])), .own mlc 27 2 (u11) (ls.filter (fun m => m.fo == tz)), .own mlc 27 2 (u9) (ls ++ zs.map (mkM tz))] W) hM ?_
                clear hM
                rintro Y52 hM
                refine tF 2 [.val 0 (some 95) (.bool true), .val 1 (some 96) (.bool false)] trivial ?_
                refine dF ?_
                try simp only [puts, Tk.put, Act.put, List.setIfInBounds_toArray, List.set_cons_zero, List.set_cons_succ]
                go_upto_region 21 with fail
                refine wp_region_fromM (fun W => Sep w [] [.own mlc 27 2 (.slice pv49m ms49.length cv49m) (ms49), .ows (zsM ms49), .own mlc 27 2 (.slice pv46m ms46.length cv46m) (ms46), .ows (zsM ms46), .blk N43 27 (mlc m41), .own mlc 27 2 (v41m) (ms41), .ows (zsM ms41), .ows (zsM ([m41])), .own mlc 27 2 (u11) (ls.filter (fun m => m.fo == tz)), .own mlc 27 2 (u9) (ls ++ zs.map (mkM tz))] W) hM ?_
                clear hM
                rintro Y53 hM
                refine tF 3 [.val 0 (some 110) (.int .i64 z), .val 1 (some 111) (.slice pl ls.length cl), .val 2 (some 112) (.int .i64 (ls.length : Int))] trivial ?_
                refine remF (.tmp 110) (.tmp 112) 3 3 (some 113) z (ls.length : Int) (Int.tmod z (ls.length : Int)) HN0.out rfl ?_
                refine tF 9 [.val 4 (some 114) (.slice pl ls.length cl), .val 5 (some 115) (.int .i64 (ls.length : Int)), .alt 6 (some 116) (.int .i64 (IntKind.i64.wrap ((Int.tmod z (ls.length : Int)) + (ls.length : Int)))) (.int .i64 (Int.tmod z (ls.length : Int) + (ls.length : Int))), .val 7 (some 117) (.slice pl ls.length cl), .val 8 (some 118) (.int .i64 (ls.length : Int))] ⟨congrArg (Value.int .i64) (HSM.out), trivial⟩ ?_
                refine remF (.tmp 116) (.tmp 118) 3 3 (some 119) (Int.tmod z (ls.length : Int) + (ls.length : Int)) (ls.length : Int) (plcN z ls.length : Int) HN0.out HPE.out ?_
                refine tF 11 [.val 10 (some 16) (.int .i64 (plcN z ls.length : Int))] trivial ?_
                refine dF ?_
                try simp only [puts, Tk.put, Act.put, List.setIfInBounds_toArray, List.set_cons_zero, List.set_cons_succ]
                go_upto_region 22 with fail
                obtain ⟨va, h1, h2⟩ := HLl.out.low (n := 2) (k := plcN z ls.length) (by have h := HPT.out; omega) Try.underlying22 elemMl (fun W => by kernel_rfl)
                have HVva := Lib.hid h1
                have HLva := Lib.hid h2
                have HHva := HHl
                clear h1 h2
                obtain ⟨vb, h1, h2⟩ := HLl.out.high (n := 2) mlc_len (k := plcN z ls.length + 1) (by have h := HPT.out; omega) Try.underlying22 elemMl (fun W => by kernel_rfl)
                have HVvb := Lib.hid h1
                have HLvb := Lib.hid h2
                have HHvb := HHl
                clear h1 h2
                refine wp_region_M (fun W => Sep w [] [.own mlc 27 2 (.slice pv49m ms49.length cv49m) (ms49), .ows (zsM ms49), .own mlc 27 2 (.slice pv46m ms46.length cv46m) (ms46), .ows (zsM ms46), .blk N43 27 (mlc m41), .own mlc 27 2 (v41m) (ms41), .ows (zsM ms41), .ows (zsM ([m41])), .own mlc 27 2 (u11) (ls.filter (fun m => m.fo == tz)), .own mlc 27 2 (u9) (ls ++ zs.map (mkM tz))] W) (fun W => Sep w [] [.own mlc 27 2 (.slice pv49m ms49.length cv49m) (ms49), .ows (zsM ms49), .own mlc 27 2 (.slice pv46m ms46.length cv46m) (ms46), .ows (zsM ms46), .blk N43 27 (mlc m41), .own mlc 27 2 (v41m) (ms41), .ows (zsM ms41), .ows (zsM ([m41])), .own mlc 27 2 (u11) (ls.filter (fun m => m.fo == tz)), .own mlc 27 2 (u9) (ls ++ zs.map (mkM tz))] W) hmx hM.drew ?_
                clear hM
                rintro Y54 hM
                have hS := hM.sub (.cons_cons _ (.cons_cons _ (.cons_cons _ (.cons_cons _ (.cons_cons _ (.cons_cons _ (.cons_cons _ (.cons_cons _ (.cons_cons _ (.cons_cons _ .slnil))))))))))
                refine tD 4 [.val 1 (some 121) (.slice pl ls.length cl), .val 2 (some 122) (.int .i64 (plcN z ls.length : Int)), .slc 3 (some 123) 22 (.slice pl ls.length cl) none (some (.int .i64 (plcN z ls.length : Int))) none (va), .val 5 (some 125) (.slice pl ls.length cl), .val 6 (some 126) (.int .i64 (plcN z ls.length : Int)), .alt 7 (some 127) (.int .i64 (IntKind.i64.wrap ((plcN z ls.length : Int) + 1))) (.int .i64 ((plcN z ls.length + 1 : Nat) : Int)), .slc 8 (some 128) 22 (.slice pl ls.length cl) (some (.int .i64 ((plcN z ls.length + 1 : Nat) : Int))) none none (vb)] ⟨fun W h => HVva.out _, congrArg (Value.int .i64) ((IntWalk.i64_in _ (by have h := HPT.out; have h2 := HL4.out; omega)).trans (by omega)), fun W h => HVvb.out _, trivial⟩ hS ?_
                refine oD 0 3 (rD (some 120) (.slice (some ⟨Y54.heap.size, 0, none⟩) 0 0) (Y54.alloc (.cells ([]).toArray 27)) (hS.other _) ?_)
                replace hS := hS.other (.cells ([]).toArray 27)
                replace hM := hM.alloc 27 ([])
                generalize World.alloc _ _ = Y55 at *
                generalize hNe : Y54.heap.size = N55 at *
                clear hNe
                replace hM := hM.mtrow (f := mlc) (n := 2)
                obtain ⟨v56, Y56, hrun, ht⟩ := own_appR infoMl rfl (by decide) Try.underlying22 mlc_len mlc_one (hM.oka 0 rfl) (HLva.out.below hM.b HHva.out) (by decide) (by have h := HL4.out; simp; omega) 22
                have hM1 := hM.turn 0 rfl ht rfl
                clear ht
                refine oD 4 2 (stepH_append (d := some 124) (t := 22) (t' := 22) (ty := 22) (v := .slice (some ⟨N55, 0, none⟩) 0 0) (x := va) (by kernel_rfl) hrun (hM1.sub (.cons _ (.cons_cons _ (.cons_cons _ (.cons_cons _ (.cons_cons _ (.cons_cons _ (.cons_cons _ (.cons_cons _ (.cons_cons _ (.cons_cons _ (.cons_cons _ .slnil)))))))))))) ?_)
                replace hS := hM1.sub (.cons _ (.cons_cons _ (.cons_cons _ (.cons_cons _ (.cons_cons _ (.cons_cons _ (.cons_cons _ (.cons_cons _ (.cons_cons _ (.cons_cons _ (.cons_cons _ .slnil)))))))))))
                replace hM := hM1
                clear hM1 hrun
                replace hM : Sep w [] [.own mlc 27 2 (v56) ((ls.take (plcN z ls.length))), .own mlc 27 2 (.slice pv49m ms49.length cv49m) (ms49), .ows (zsM ms49), .own mlc 27 2 (.slice pv46m ms46.length cv46m) (ms46), .ows (zsM ms46), .blk N43 27 (mlc m41), .own mlc 27 2 (v41m) (ms41), .ows (zsM ms41), .ows (zsM ([m41])), .own mlc 27 2 (u11) (ls.filter (fun m => m.fo == tz)), .own mlc 27 2 (u9) (ls ++ zs.map (mkM tz))] Y56 := hM
                obtain ⟨v57, Y57, hrun, ht⟩ := own_appR infoMl rfl (by decide) Try.underlying22 mlc_len mlc_one (hM.oka 0 rfl) (HLvb.out.below hM.b HHvb.out) (by decide) (by have h := HL4.out; simp; omega) 22
                have hM1 := hM.turn 0 rfl ht rfl
                clear ht
                refine oD 9 1 (stepH_append (d := some 129) (t := 22) (t' := 22) (ty := 22) (v := v56) (x := vb) (by kernel_rfl) hrun (hM1.sub (.cons _ (.cons_cons _ (.cons_cons _ (.cons_cons _ (.cons_cons _ (.cons_cons _ (.cons_cons _ (.cons_cons _ (.cons_cons _ (.cons_cons _ (.cons_cons _ .slnil)))))))))))) ?_)
                replace hS := hM1.sub (.cons _ (.cons_cons _ (.cons_cons _ (.cons_cons _ (.cons_cons _ (.cons_cons _ (.cons_cons _ (.cons_cons _ (.cons_cons _ (.cons_cons _ (.cons_cons _ .slnil)))))))))))
                replace hM := hM1
                clear hM1 hrun
                refine tD 0 [.val 10 (some 17) (v57)] trivial hS ?_
                refine dD ?_
                try simp only [puts, Tk.put, Act.put, List.setIfInBounds_toArray, List.set_cons_zero, List.set_cons_succ]
                clear hS
                go_upto_region 23 with fail
                refine wp_region_M (fun W => Sep w [] [.own mlc 27 2 (v57) ((ls.take (plcN z ls.length)) ++ (ls.drop (plcN z ls.length + 1))), .own mlc 27 2 (.slice pv49m ms49.length cv49m) (ms49), .ows (zsM ms49), .own mlc 27 2 (.slice pv46m ms46.length cv46m) (ms46), .ows (zsM ms46), .blk N43 27 (mlc m41), .own mlc 27 2 (v41m) (ms41), .ows (zsM ms41), .ows (zsM ([m41])), .own mlc 27 2 (u11) (ls.filter (fun m => m.fo == tz)), .own mlc 27 2 (u9) (ls ++ zs.map (mkM tz))] W) (fun W => Sep w [] [.own mlc 27 2 (v57) ((ls.take (plcN z ls.length)) ++ (ls.drop (plcN z ls.length + 1))), .own mlc 27 2 (.slice pv49m ms49.length cv49m) (ms49), .ows (zsM ms49), .own mlc 27 2 (.slice pv46m ms46.length cv46m) (ms46), .ows (zsM ms46), .blk N43 27 (mlc m41), .own mlc 27 2 (v41m) (ms41), .ows (zsM ms41), .ows (zsM ([m41])), .own mlc 27 2 (u11) (ls.filter (fun m => m.fo == tz)), .own mlc 27 2 (u9) (ls ++ zs.map (mkM tz))] W) hmx hM.drew ?_
                clear hM
                rintro Y58 hM
                have hS := hM.sub (.cons_cons _ (.cons_cons _ (.cons_cons _ (.cons_cons _ (.cons_cons _ (.cons_cons _ (.cons_cons _ (.cons_cons _ (.cons_cons _ (.cons_cons _ (.cons_cons _ .slnil)))))))))))
                refine tD 22 [.load 0 (some 130) 27 (pt N43 0) (mlv m41), .val 1 (some 131) (.slice pl ls.length cl), .val 2 (some 132) (.int .i64 (plcN z ls.length : Int)), .idx 3 (some 133) 22 (.slice pl ls.length cl) (.int .i64 (plcN z ls.length : Int)) (pt bl ol), .load 4 (some 134) 27 (pt bl ol) (mlv x)] ⟨fun W h => load_part (h.at 5 rfl) 0 (mlc m41) rfl _ _ Try.underlying27 rfl (by kernel_rfl), fun W h => HIl.out _, fun W h => ld_cells (mlc x) _ _ Try.underlying27 rfl (by kernel_rfl) (HCl.out _ (HLl.out.below h.b HHl.out)), trivial⟩ hS ?_
                refine oD 5 21 (cD (some 135) 12 #[mlv m41, mlv x] ((one23_any m41 x _ ((hM.oka 8 rfl).holdW.ml (k := 0) (x := m41) rfl) (((HKK.out.ml HXl.out).below hM.b (Nat.le_refl _)).mono (Nat.le_refl _) hM.size) (HMX.out)).mono ?_))
                rintro e Y59 ⟨rfl, hb⟩
                refine And.intro (hS.below hb) ?_
                replace hS := hS.below hb
                replace hM := hM.below hb
                clear hb
                refine tD 18 [.val 6 (some 136) (.bool true), .val 7 (some 137) (v41m), .val 8 (some 138) (v57)] trivial hS ?_
                refine oD 9 17 (cD (some 139) 9 #[v41m, v57] ((same23_any (la := ms41) (lb := (ls.take (plcN z ls.length)) ++ (ls.drop (plcN z ls.length + 1))) _ ((hM.oka 6 rfl).rsl mlc_len) (Nat.le_refl _) ((hM.oka 0 rfl).rsl mlc_len) (Nat.le_refl _) (hM.oka 7 rfl).holdW (hold_of (HKK.out.up hM.b) (mem_but (plcN z ls.length))) (HE41.out.trans (but_all ls _))).mono ?_))
                rintro e Y60 ⟨rfl, hb⟩
                refine And.intro (hS.below hb) ?_
                replace hS := hS.below hb
                replace hM := hM.below hb
                clear hb
                refine tD 8 [.val 10 (some 140) (.bool true), .val 11 (some 141) (.bool true), .val 12 (some 142) (.slice pl ls.length cl), .val 13 (some 143) (.int .i64 z), .val 16 (some 146) (.slice pl ls.length cl), .val 18 (some 148) (.slice pl ls.length cl), .val 19 (some 149) (.int .i64 (plcN z ls.length : Int)), .idx 20 (some 150) 22 (.slice pl ls.length cl) (.int .i64 (plcN z ls.length : Int)) (pt bl ol), .load 21 (some 151) 27 (pt bl ol) (mlv x)] ⟨fun W h => HIl.out _, fun W h => ld_cells (mlc x) _ _ Try.underlying27 rfl (by kernel_rfl) (HCl.out _ (HLl.out.below h.b HHl.out)), trivial⟩ hS ?_
                refine oU 14 15 22 7 ?_ ?_ ?_
                · refine cD (some 144) 13 #[.slice pl ls.length cl, .int .i64 z] ((twin_any ls z x _ (HLl.out.below hM.b HHl.out) (Nat.le_trans HHl.out hM.size) (by have h := HL4.out; omega) (HKK.out.up hM.b) HBP.out HXl.out).mono ?_)
                  rintro e Y61 ⟨v61m, ms61, rfl, he61, hR⟩
                  refine And.intro (hS.below hR.b) ?_
                  replace hS := hS.below hR.b
                  have HE61 := Lib.hid he61
                  replace hM := hM.gain2 hR
                  clear hR he61
                  obtain ⟨pv61m, cv61m, rfl⟩ := (hM.oka 0 rfl).slice mlc_len
                  refine oT 15 22 6 ?_ ?_
                  · refine rD (some 145) (.slice (some ⟨Y61.heap.size, 0, none⟩) 0 0) (Y61.alloc (.cells ([]).toArray 27)) (hS.other _) ?_
                    replace hS := hS.other (.cells ([]).toArray 27)
                    replace hM := hM.alloc 27 ([])
                    generalize World.alloc _ _ = Y63 at *
                    generalize hNe : Y61.heap.size = N63 at *
                    clear hNe
                    replace hM := hM.mtrow (f := mlc) (n := 2)
                    refine oT 17 22 5 ?_ ?_
                    · obtain ⟨v64, Y64, hrun, ht⟩ := own_appR infoMl rfl (by decide) Try.underlying22 mlc_len mlc_one (hM.oka 0 rfl) (HLl.out.below hM.b HHl.out) (by decide) (by have h := HL4.out; simp; omega) 22
                      have hM1 := hM.turn 0 rfl ht rfl
                      clear ht
                      refine stepH_append (d := some 147) (t := 22) (t' := 22) (ty := 22) (v := .slice (some ⟨N63, 0, none⟩) 0 0) (x := .slice pl ls.length cl) (by kernel_rfl) hrun (hM1.sub (.cons _ (.cons _ (.cons _ (.cons_cons _ (.cons_cons _ (.cons_cons _ (.cons_cons _ (.cons_cons _ (.cons_cons _ (.cons_cons _ (.cons_cons _ (.cons_cons _ (.cons_cons _ (.cons_cons _ .slnil))))))))))))))) ?_
                      replace hS := hM1.sub (.cons _ (.cons _ (.cons _ (.cons_cons _ (.cons_cons _ (.cons_cons _ (.cons_cons _ (.cons_cons _ (.cons_cons _ (.cons_cons _ (.cons_cons _ (.cons_cons _ (.cons_cons _ (.cons_cons _ .slnil))))))))))))))
                      replace hM := hM1
                      clear hM1 hrun
                      replace hM : Sep w [] [.own mlc 27 2 (v64) (ls), .own mlc 27 2 (.slice pv61m ms61.length cv61m) (ms61), .ows (zsM ms61), .own mlc 27 2 (v57) ((ls.take (plcN z ls.length)) ++ (ls.drop (plcN z ls.length + 1))), .own mlc 27 2 (.slice pv49m ms49.length cv49m) (ms49), .ows (zsM ms49), .own mlc 27 2 (.slice pv46m ms46.length cv46m) (ms46), .ows (zsM ms46), .blk N43 27 (mlc m41), .own mlc 27 2 (v41m) (ms41), .ows (zsM ms41), .ows (zsM ([m41])), .own mlc 27 2 (u11) (ls.filter (fun m => m.fo == tz)), .own mlc 27 2 (u9) (ls ++ zs.map (mkM tz))] Y64 := hM
                      refine oD 22 4 (rD (some 152) (.slice (some ⟨Y64.heap.size, 0, none⟩) 1 1) (Y64.alloc (.cells (mlc x).toArray 27)) (hS.other _) ?_)
                      replace hS := hS.other (.cells (mlc x).toArray 27)
                      replace hM := hM.alloc 27 (mlc x)
                      generalize World.alloc _ _ = Y65 at *
                      generalize hNe : Y64.heap.size = N65 at *
                      clear hNe
                      obtain ⟨v66, Y66, hrun, ht⟩ := own_app1 infoMl rfl (by decide) Try.underlying22 mlc_len mlc_one (hM.oka 1 rfl) x (hM.at 0 rfl) (by decide) (by have h := HL4.out; simp; omega) 22
                      have hM1 := hM.turn 1 rfl ht rfl
                      clear ht
                      refine oD 23 3 (stepH_append (d := some 153) (t := 22) (t' := 22) (ty := 22) (v := v64) (x := .slice (some ⟨N65, 0, none⟩) 1 1) (by kernel_rfl) hrun (hM1.sub (.cons _ (.cons _ (.cons _ (.cons _ (.cons_cons _ (.cons_cons _ (.cons_cons _ (.cons_cons _ (.cons_cons _ (.cons_cons _ (.cons_cons _ (.cons_cons _ (.cons_cons _ (.cons_cons _ (.cons_cons _ .slnil)))))))))))))))) ?_)
                      replace hS := hM1.sub (.cons _ (.cons _ (.cons _ (.cons _ (.cons_cons _ (.cons_cons _ (.cons_cons _ (.cons_cons _ (.cons_cons _ (.cons_cons _ (.cons_cons _ (.cons_cons _ (.cons_cons _ (.cons_cons _ (.cons_cons _ .slnil)))))))))))))))
                      replace hM := hM1
                      clear hM1 hrun
                      refine oD 24 2 (cD (some 154) 9 #[.slice pv61m ms61.length cv61m, v66] ((same23_any (la := ms61) (lb := ls ++ [x]) _ ((hM.oka 2 rfl).rsl mlc_len) (Nat.le_refl _) ((hM.oka 1 rfl).rsl mlc_len) (Nat.le_refl _) (hM.oka 3 rfl).holdW (hold_of (HKK.out.up hM.b) (mem_too HXl.out)) (HE61.out.trans (post_too HL4.out))).mono ?_))
                      rintro e Y67 ⟨rfl, hb⟩
                      refine And.intro (hS.below hb) ?_
                      replace hS := hS.below hb
                      replace hM := hM.below hb
                      clear hb
                      refine tD 0 [.val 25 (some 155) (.bool true), .val 26 (some 8) (.bool true)] trivial hS ?_
                      refine dD ?_
                      try simp only [puts, Tk.put, Act.put, List.setIfInBounds_toArray, List.set_cons_zero, List.set_cons_succ]
                      clear hS
                      go_wp2_with fail
                      go_ret
                      exact ⟨rfl, hM.b⟩
                    · refine rD (some 152) (.slice (some ⟨Y63.heap.size, 0, none⟩) 1 1) (Y63.alloc (.cells (mlc x).toArray 27)) (hS.other _) ?_
                      replace hS := hS.other (.cells (mlc x).toArray 27)
                      replace hM := hM.alloc 27 (mlc x)
                      generalize World.alloc _ _ = Y68 at *
                      generalize hNe : Y63.heap.size = N68 at *
                      clear hNe
                      obtain ⟨v69, Y69, hrun, ht⟩ := own_appR infoMl rfl (by decide) Try.underlying22 mlc_len mlc_one (hM.oka 1 rfl) (HLl.out.below hM.b HHl.out) (by decide) (by have h := HL4.out; simp; omega) 22
                      have hM1 := hM.turn 1 rfl ht rfl
                      clear ht
                      refine oD 17 4 (stepH_append (d := some 147) (t := 22) (t' := 22) (ty := 22) (v := .slice (some ⟨N63, 0, none⟩) 0 0) (x := .slice pl ls.length cl) (by kernel_rfl) hrun (hM1.sub (.cons _ (.cons _ (.cons _ (.cons _ (.cons_cons _ (.cons_cons _ (.cons_cons _ (.cons_cons _ (.cons_cons _ (.cons_cons _ (.cons_cons _ (.cons_cons _ (.cons_cons _ (.cons_cons _ (.cons_cons _ .slnil)))))))))))))))) ?_)
                      replace hS := hM1.sub (.cons _ (.cons _ (.cons _ (.cons _ (.cons_cons _ (.cons_cons _ (.cons_cons _ (.cons_cons _ (.cons_cons _ (.cons_cons _ (.cons_cons _ (.cons_cons _ (.cons_cons _ (.cons_cons _ (.cons_cons _ .slnil)))))))))))))))
                      replace hM := hM1
                      clear hM1 hrun
                      replace hM : Sep w [] [.blk N68 27 (mlc x), .own mlc 27 2 (v69) (ls), .own mlc 27 2 (.slice pv61m ms61.length cv61m) (ms61), .ows (zsM ms61), .own mlc 27 2 (v57) ((ls.take (plcN z ls.length)) ++ (ls.drop (plcN z ls.length + 1))), .own mlc 27 2 (.slice pv49m ms49.length cv49m) (ms49), .ows (zsM ms49), .own mlc 27 2 (.slice pv46m ms46.length cv46m) (ms46), .ows (zsM ms46), .blk N43 27 (mlc m41), .own mlc 27 2 (v41m) (ms41), .ows (zsM ms41), .ows (zsM ([m41])), .own mlc 27 2 (u11) (ls.filter (fun m => m.fo == tz)), .own mlc 27 2 (u9) (ls ++ zs.map (mkM tz))] Y69 := hM
                      obtain ⟨v70, Y70, hrun, ht⟩ := own_app1 infoMl rfl (by decide) Try.underlying22 mlc_len mlc_one (hM.oka 1 rfl) x (hM.at 0 rfl) (by decide) (by have h := HL4.out; simp; omega) 22
                      have hM1 := hM.turn 1 rfl ht rfl
                      clear ht
                      refine oD 23 3 (stepH_append (d := some 153) (t := 22) (t' := 22) (ty := 22) (v := v69) (x := .slice (some ⟨N68, 0, none⟩) 1 1) (by kernel_rfl) hrun (hM1.sub (.cons _ (.cons _ (.cons _ (.cons _ (.cons_cons _ (.cons_cons _ (.cons_cons _ (.cons_cons _ (.cons_cons _ (.cons_cons _ (.cons_cons _ (.cons_cons _ (.cons_cons _ (.cons_cons _ (.cons_cons _ .slnil)))))))))))))))) ?_)
                      replace hS := hM1.sub (.cons _ (.cons _ (.cons _ (.cons _ (.cons_cons _ (.cons_cons _ (.cons_cons _ (.cons_cons _ (.cons_cons _ (.cons_cons _ (.cons_cons _ (.cons_cons _ (.cons_cons _ (.cons_cons _ (.cons_cons _ .slnil)))))))))))))))
                      replace hM := hM1
                      clear hM1 hrun
                      refine oD 24 2 (cD (some 154) 9 #[.slice pv61m ms61.length cv61m, v70] ((same23_any (la := ms61) (lb := ls ++ [x]) _ ((hM.oka 2 rfl).rsl mlc_len) (Nat.le_refl _) ((hM.oka 1 rfl).rsl mlc_len) (Nat.le_refl _) (hM.oka 3 rfl).holdW (hold_of (HKK.out.up hM.b) (mem_too HXl.out)) (HE61.out.trans (post_too HL4.out))).mono ?_))
                      rintro e Y71 ⟨rfl, hb⟩
                      refine And.intro (hS.below hb) ?_
                      replace hS := hS.below hb
                      replace hM := hM.below hb
                      clear hb
                      refine tD 0 [.val 25 (some 155) (.bool true), .val 26 (some 8) (.bool true)] trivial hS ?_
                      refine dD ?_
                      try simp only [puts, Tk.put, Act.put, List.setIfInBounds_toArray, List.set_cons_zero, List.set_cons_succ]
                      clear hS
                      go_wp2_with fail
                      go_ret
                      exact ⟨rfl, hM.b⟩
                  · refine rD (some 152) (.slice (some ⟨Y61.heap.size, 0, none⟩) 1 1) (Y61.alloc (.cells (mlc x).toArray 27)) (hS.other _) ?_
                    replace hS := hS.other (.cells (mlc x).toArray 27)
                    replace hM := hM.alloc 27 (mlc x)
                    generalize World.alloc _ _ = Y72 at *
                    generalize hNe : Y61.heap.size = N72 at *
                    clear hNe
                    refine oD 15 5 (rD (some 145) (.slice (some ⟨Y72.heap.size, 0, none⟩) 0 0) (Y72.alloc (.cells ([]).toArray 27)) (hS.other _) ?_)
                    replace hS := hS.other (.cells ([]).toArray 27)
                    replace hM := hM.alloc 27 ([])
                    generalize World.alloc _ _ = Y73 at *
                    generalize hNe : Y72.heap.size = N73 at *
                    clear hNe
                    replace hM := hM.mtrow (f := mlc) (n := 2)
                    obtain ⟨v74, Y74, hrun, ht⟩ := own_appR infoMl rfl (by decide) Try.underlying22 mlc_len mlc_one (hM.oka 0 rfl) (HLl.out.below hM.b HHl.out) (by decide) (by have h := HL4.out; simp; omega) 22
                    have hM1 := hM.turn 0 rfl ht rfl
                    clear ht
                    refine oD 17 4 (stepH_append (d := some 147) (t := 22) (t' := 22) (ty := 22) (v := .slice (some ⟨N73, 0, none⟩) 0 0) (x := .slice pl ls.length cl) (by kernel_rfl) hrun (hM1.sub (.cons _ (.cons _ (.cons _ (.cons _ (.cons_cons _ (.cons_cons _ (.cons_cons _ (.cons_cons _ (.cons_cons _ (.cons_cons _ (.cons_cons _ (.cons_cons _ (.cons_cons _ (.cons_cons _ (.cons_cons _ .slnil)))))))))))))))) ?_)
                    replace hS := hM1.sub (.cons _ (.cons _ (.cons _ (.cons _ (.cons_cons _ (.cons_cons _ (.cons_cons _ (.cons_cons _ (.cons_cons _ (.cons_cons _ (.cons_cons _ (.cons_cons _ (.cons_cons _ (.cons_cons _ (.cons_cons _ .slnil)))))))))))))))
                    replace hM := hM1
                    clear hM1 hrun
                    replace hM : Sep w [] [.own mlc 27 2 (v74) (ls), .blk N72 27 (mlc x), .own mlc 27 2 (.slice pv61m ms61.length cv61m) (ms61), .ows (zsM ms61), .own mlc 27 2 (v57) ((ls.take (plcN z ls.length)) ++ (ls.drop (plcN z ls.length + 1))), .own mlc 27 2 (.slice pv49m ms49.length cv49m) (ms49), .ows (zsM ms49), .own mlc 27 2 (.slice pv46m ms46.length cv46m) (ms46), .ows (zsM ms46), .blk N43 27 (mlc m41), .own mlc 27 2 (v41m) (ms41), .ows (zsM ms41), .ows (zsM ([m41])), .own mlc 27 2 (u11) (ls.filter (fun m => m.fo == tz)), .own mlc 27 2 (u9) (ls ++ zs.map (mkM tz))] Y74 := hM
                    obtain ⟨v75, Y75, hrun, ht⟩ := own_app1 infoMl rfl (by decide) Try.underlying22 mlc_len mlc_one (hM.oka 0 rfl) x (hM.at 1 rfl) (by decide) (by have h := HL4.out; simp; omega) 22
                    have hM1 := hM.turn 0 rfl ht rfl
                    clear ht
                    refine oD 23 3 (stepH_append (d := some 153) (t := 22) (t' := 22) (ty := 22) (v := v74) (x := .slice (some ⟨N72, 0, none⟩) 1 1) (by kernel_rfl) hrun (hM1.sub (.cons _ (.cons _ (.cons _ (.cons _ (.cons_cons _ (.cons_cons _ (.cons_cons _ (.cons_cons _ (.cons_cons _ (.cons_cons _ (.cons_cons _ (.cons_cons _ (.cons_cons _ (.cons_cons _ (.cons_cons _ .slnil)))))))))))))))) ?_)
                    replace hS := hM1.sub (.cons _ (.cons _ (.cons _ (.cons _ (.cons_cons _ (.cons_cons _ (.cons_cons _ (.cons_cons _ (.cons_cons _ (.cons_cons _ (.cons_cons _ (.cons_cons _ (.cons_cons _ (.cons_cons _ (.cons_cons _ .slnil)))))))))))))))
                    replace hM := hM1
                    clear hM1 hrun
                    refine oD 24 2 (cD (some 154) 9 #[.slice pv61m ms61.length cv61m, v75] ((same23_any (la := ms61) (lb := ls ++ [x]) _ ((hM.oka 2 rfl).rsl mlc_len) (Nat.le_refl _) ((hM.oka 0 rfl).rsl mlc_len) (Nat.le_refl _) (hM.oka 3 rfl).holdW (hold_of (HKK.out.up hM.b) (mem_too HXl.out)) (HE61.out.trans (post_too HL4.out))).mono ?_))
                    rintro e Y76 ⟨rfl, hb⟩
                    refine And.intro (hS.below hb) ?_
                    replace hS := hS.below hb
                    replace hM := hM.below hb
                    clear hb
                    refine tD 0 [.val 25 (some 155) (.bool true), .val 26 (some 8) (.bool true)] trivial hS ?_
                    refine dD ?_
                    try simp only [puts, Tk.put, Act.put, List.setIfInBounds_toArray, List.set_cons_zero, List.set_cons_succ]
                    clear hS
                    go_wp2_with fail
                    go_ret
                    exact ⟨rfl, hM.b⟩
                · refine rD (some 145) (.slice (some ⟨Y60.heap.size, 0, none⟩) 0 0) (Y60.alloc (.cells ([]).toArray 27)) (hS.other _) ?_
                  replace hS := hS.other (.cells ([]).toArray 27)
                  replace hM := hM.alloc 27 ([])
                  generalize World.alloc _ _ = Y77 at *
                  generalize hNe : Y60.heap.size = N77 at *
                  clear hNe
                  replace hM := hM.mtrow (f := mlc) (n := 2)
                  refine oT 14 22 6 ?_ ?_
                  · refine cD (some 144) 13 #[.slice pl ls.length cl, .int .i64 z] ((twin_any ls z x _ (HLl.out.below hM.b HHl.out) (Nat.le_trans HHl.out hM.size) (by have h := HL4.out; omega) (HKK.out.up hM.b) HBP.out HXl.out).mono ?_)
                    rintro e Y78 ⟨v78m, ms78, rfl, he78, hR⟩
                    refine And.intro (hS.below hR.b) ?_
                    replace hS := hS.below hR.b
                    have HE78 := Lib.hid he78
                    replace hM := hM.gain2 hR
                    clear hR he78
                    obtain ⟨pv78m, cv78m, rfl⟩ := (hM.oka 0 rfl).slice mlc_len
                    refine oT 17 22 5 ?_ ?_
                    · obtain ⟨v80, Y80, hrun, ht⟩ := own_appR infoMl rfl (by decide) Try.underlying22 mlc_len mlc_one (hM.oka 2 rfl) (HLl.out.below hM.b HHl.out) (by decide) (by have h := HL4.out; simp; omega) 22
                      have hM1 := hM.turn 2 rfl ht rfl
                      clear ht
                      refine stepH_append (d := some 147) (t := 22) (t' := 22) (ty := 22) (v := .slice (some ⟨N77, 0, none⟩) 0 0) (x := .slice pl ls.length cl) (by kernel_rfl) hrun (hM1.sub (.cons _ (.cons _ (.cons _ (.cons_cons _ (.cons_cons _ (.cons_cons _ (.cons_cons _ (.cons_cons _ (.cons_cons _ (.cons_cons _ (.cons_cons _ (.cons_cons _ (.cons_cons _ (.cons_cons _ .slnil))))))))))))))) ?_
                      replace hS := hM1.sub (.cons _ (.cons _ (.cons _ (.cons_cons _ (.cons_cons _ (.cons_cons _ (.cons_cons _ (.cons_cons _ (.cons_cons _ (.cons_cons _ (.cons_cons _ (.cons_cons _ (.cons_cons _ (.cons_cons _ .slnil))))))))))))))
                      replace hM := hM1
                      clear hM1 hrun
                      replace hM : Sep w [] [.own mlc 27 2 (.slice pv78m ms78.length cv78m) (ms78), .ows (zsM ms78), .own mlc 27 2 (v80) (ls), .own mlc 27 2 (v57) ((ls.take (plcN z ls.length)) ++ (ls.drop (plcN z ls.length + 1))), .own mlc 27 2 (.slice pv49m ms49.length cv49m) (ms49), .ows (zsM ms49), .own mlc 27 2 (.slice pv46m ms46.length cv46m) (ms46), .ows (zsM ms46), .blk N43 27 (mlc m41), .own mlc 27 2 (v41m) (ms41), .ows (zsM ms41), .ows (zsM ([m41])), .own mlc 27 2 (u11) (ls.filter (fun m => m.fo == tz)), .own mlc 27 2 (u9) (ls ++ zs.map (mkM tz))] Y80 := hM
                      refine oD 22 4 (rD (some 152) (.slice (some ⟨Y80.heap.size, 0, none⟩) 1 1) (Y80.alloc (.cells (mlc x).toArray 27)) (hS.other _) ?_)
                      replace hS := hS.other (.cells (mlc x).toArray 27)
                      replace hM := hM.alloc 27 (mlc x)
                      generalize World.alloc _ _ = Y81 at *
                      generalize hNe : Y80.heap.size = N81 at *
                      clear hNe
                      obtain ⟨v82, Y82, hrun, ht⟩ := own_app1 infoMl rfl (by decide) Try.underlying22 mlc_len mlc_one (hM.oka 3 rfl) x (hM.at 0 rfl) (by decide) (by have h := HL4.out; simp; omega) 22
                      have hM1 := hM.turn 3 rfl ht rfl
                      clear ht
                      refine oD 23 3 (stepH_append (d := some 153) (t := 22) (t' := 22) (ty := 22) (v := v80) (x := .slice (some ⟨N81, 0, none⟩) 1 1) (by kernel_rfl) hrun (hM1.sub (.cons _ (.cons _ (.cons _ (.cons _ (.cons_cons _ (.cons_cons _ (.cons_cons _ (.cons_cons _ (.cons_cons _ (.cons_cons _ (.cons_cons _ (.cons_cons _ (.cons_cons _ (.cons_cons _ (.cons_cons _ .slnil)))))))))))))))) ?_)
                      replace hS := hM1.sub (.cons _ (.cons _ (.cons _ (.cons _ (.cons_cons _ (.cons_cons _ (.cons_cons _ (.cons_cons _ (.cons_cons _ (.cons_cons _ (.cons_cons _ (.cons_cons _ (.cons_cons _ (.cons_cons _ (.cons_cons _ .slnil)))))))))))))))
                      replace hM := hM1
                      clear hM1 hrun
                      refine oD 24 2 (cD (some 154) 9 #[.slice pv78m ms78.length cv78m, v82] ((same23_any (la := ms78) (lb := ls ++ [x]) _ ((hM.oka 1 rfl).rsl mlc_len) (Nat.le_refl _) ((hM.oka 3 rfl).rsl mlc_len) (Nat.le_refl _) (hM.oka 2 rfl).holdW (hold_of (HKK.out.up hM.b) (mem_too HXl.out)) (HE78.out.trans (post_too HL4.out))).mono ?_))
                      rintro e Y83 ⟨rfl, hb⟩
                      refine And.intro (hS.below hb) ?_
                      replace hS := hS.below hb
                      replace hM := hM.below hb
                      clear hb
                      refine tD 0 [.val 25 (some 155) (.bool true), .val 26 (some 8) (.bool true)] trivial hS ?_
                      refine dD ?_
                      try simp only [puts, Tk.put, Act.put, List.setIfInBounds_toArray, List.set_cons_zero, List.set_cons_succ]
                      clear hS
                      go_wp2_with fail
                      go_ret
                      exact ⟨rfl, hM.b⟩
                    · refine rD (some 152) (.slice (some ⟨Y78.heap.size, 0, none⟩) 1 1) (Y78.alloc (.cells (mlc x).toArray 27)) (hS.other _) ?_
                      replace hS := hS.other (.cells (mlc x).toArray 27)
                      replace hM := hM.alloc 27 (mlc x)
                      generalize World.alloc _ _ = Y84 at *
                      generalize hNe : Y78.heap.size = N84 at *
                      clear hNe
                      obtain ⟨v85, Y85, hrun, ht⟩ := own_appR infoMl rfl (by decide) Try.underlying22 mlc_len mlc_one (hM.oka 3 rfl) (HLl.out.below hM.b HHl.out) (by decide) (by have h := HL4.out; simp; omega) 22
                      have hM1 := hM.turn 3 rfl ht rfl
                      clear ht
                      refine oD 17 4 (stepH_append (d := some 147) (t := 22) (t' := 22) (ty := 22) (v := .slice (some ⟨N77, 0, none⟩) 0 0) (x := .slice pl ls.length cl) (by kernel_rfl) hrun (hM1.sub (.cons _ (.cons _ (.cons _ (.cons _ (.cons_cons _ (.cons_cons _ (.cons_cons _ (.cons_cons _ (.cons_cons _ (.cons_cons _ (.cons_cons _ (.cons_cons _ (.cons_cons _ (.cons_cons _ (.cons_cons _ .slnil)))))))))))))))) ?_)
                      replace hS := hM1.sub (.cons _ (.cons _ (.cons _ (.cons _ (.cons_cons _ (.cons_cons _ (.cons_cons _ (.cons_cons _ (.cons_cons _ (.cons_cons _ (.cons_cons _ (.cons_cons _ (.cons_cons _ (.cons_cons _ (.cons_cons _ .slnil)))))))))))))))
                      replace hM := hM1
                      clear hM1 hrun
                      replace hM : Sep w [] [.blk N84 27 (mlc x), .own mlc 27 2 (.slice pv78m ms78.length cv78m) (ms78), .ows (zsM ms78), .own mlc 27 2 (v85) (ls), .own mlc 27 2 (v57) ((ls.take (plcN z ls.length)) ++ (ls.drop (plcN z ls.length + 1))), .own mlc 27 2 (.slice pv49m ms49.length cv49m) (ms49), .ows (zsM ms49), .own mlc 27 2 (.slice pv46m ms46.length cv46m) (ms46), .ows (zsM ms46), .blk N43 27 (mlc m41), .own mlc 27 2 (v41m) (ms41), .ows (zsM ms41), .ows (zsM ([m41])), .own mlc 27 2 (u11) (ls.filter (fun m => m.fo == tz)), .own mlc 27 2 (u9) (ls ++ zs.map (mkM tz))] Y85 := hM
                      obtain ⟨v86, Y86, hrun, ht⟩ := own_app1 infoMl rfl (by decide) Try.underlying22 mlc_len mlc_one (hM.oka 3 rfl) x (hM.at 0 rfl) (by decide) (by have h := HL4.out; simp; omega) 22
                      have hM1 := hM.turn 3 rfl ht rfl
                      clear ht
                      refine oD 23 3 (stepH_append (d := some 153) (t := 22) (t' := 22) (ty := 22) (v := v85) (x := .slice (some ⟨N84, 0, none⟩) 1 1) (by kernel_rfl) hrun (hM1.sub (.cons _ (.cons _ (.cons _ (.cons _ (.cons_cons _ (.cons_cons _ (.cons_cons _ (.cons_cons _ (.cons_cons _ (.cons_cons _ (.cons_cons _ (.cons_cons _ (.cons_cons _ (.cons_cons _ (.cons_cons _ .slnil)))))))))))))))) ?_)
                      replace hS := hM1.sub (.cons _ (.cons _ (.cons _ (.cons _ (.cons_cons _ (.cons_cons _ (.cons_cons _ (.cons_cons _ (.cons_cons _ (.cons_cons _ (.cons_cons _ (.cons_cons _ (.cons_cons _ (.cons_cons _ (.cons_cons _ .slnil)))))))))))))))
                      replace hM := hM1
                      clear hM1 hrun
                      refine oD 24 2 (cD (some 154) 9 #[.slice pv78m ms78.length cv78m, v86] ((same23_any (la := ms78) (lb := ls ++ [x]) _ ((hM.oka 1 rfl).rsl mlc_len) (Nat.le_refl _) ((hM.oka 3 rfl).rsl mlc_len) (Nat.le_refl _) (hM.oka 2 rfl).holdW (hold_of (HKK.out.up hM.b) (mem_too HXl.out)) (HE78.out.trans (post_too HL4.out))).mono ?_))
                      rintro e Y87 ⟨rfl, hb⟩
                      refine And.intro (hS.below hb) ?_
                      replace hS := hS.below hb
                      replace hM := hM.below hb
                      clear hb
                      refine tD 0 [.val 25 (some 155) (.bool true), .val 26 (some 8) (.bool true)] trivial hS ?_
                      refine dD ?_
                      try simp only [puts, Tk.put, Act.put, List.setIfInBounds_toArray, List.set_cons_zero, List.set_cons_succ]
                      clear hS
                      go_wp2_with fail
                      go_ret
                      exact ⟨rfl, hM.b⟩
                  · refine rD (some 152) (.slice (some ⟨Y77.heap.size, 0, none⟩) 1 1) (Y77.alloc (.cells (mlc x).toArray 27)) (hS.other _) ?_
                    replace hS := hS.other (.cells (mlc x).toArray 27)
                    replace hM := hM.alloc 27 (mlc x)
                    generalize World.alloc _ _ = Y88 at *
                    generalize hNe : Y77.heap.size = N88 at *
                    clear hNe
                    refine oD 14 5 (cD (some 144) 13 #[.slice pl ls.length cl, .int .i64 z] ((twin_any ls z x _ (HLl.out.below hM.b HHl.out) (Nat.le_trans HHl.out hM.size) (by have h := HL4.out; omega) (HKK.out.up hM.b) HBP.out HXl.out).mono ?_))
                    rintro e Y89 ⟨v89m, ms89, rfl, he89, hR⟩
                    refine And.intro (hS.below hR.b) ?_
                    replace hS := hS.below hR.b
                    have HE89 := Lib.hid he89
                    replace hM := hM.gain2 hR
                    clear hR he89
                    obtain ⟨pv89m, cv89m, rfl⟩ := (hM.oka 0 rfl).slice mlc_len
                    obtain ⟨v91, Y91, hrun, ht⟩ := own_appR infoMl rfl (by decide) Try.underlying22 mlc_len mlc_one (hM.oka 3 rfl) (HLl.out.below hM.b HHl.out) (by decide) (by have h := HL4.out; simp; omega) 22
                    have hM1 := hM.turn 3 rfl ht rfl
                    clear ht
                    refine oD 17 4 (stepH_append (d := some 147) (t := 22) (t' := 22) (ty := 22) (v := .slice (some ⟨N77, 0, none⟩) 0 0) (x := .slice pl ls.length cl) (by kernel_rfl) hrun (hM1.sub (.cons _ (.cons _ (.cons _ (.cons _ (.cons_cons _ (.cons_cons _ (.cons_cons _ (.cons_cons _ (.cons_cons _ (.cons_cons _ (.cons_cons _ (.cons_cons _ (.cons_cons _ (.cons_cons _ (.cons_cons _ .slnil)))))))))))))))) ?_)
                    replace hS := hM1.sub (.cons _ (.cons _ (.cons _ (.cons _ (.cons_cons _ (.cons_cons _ (.cons_cons _ (.cons_cons _ (.cons_cons _ (.cons_cons _ (.cons_cons _ (.cons_cons _ (.cons_cons _ (.cons_cons _ (.cons_cons _ .slnil)))))))))))))))
                    replace hM := hM1
                    clear hM1 hrun
                    replace hM : Sep w [] [.own mlc 27 2 (.slice pv89m ms89.length cv89m) (ms89), .ows (zsM ms89), .blk N88 27 (mlc x), .own mlc 27 2 (v91) (ls), .own mlc 27 2 (v57) ((ls.take (plcN z ls.length)) ++ (ls.drop (plcN z ls.length + 1))), .own mlc 27 2 (.slice pv49m ms49.length cv49m) (ms49), .ows (zsM ms49), .own mlc 27 2 (.slice pv46m ms46.length cv46m) (ms46), .ows (zsM ms46), .blk N43 27 (mlc m41), .own mlc 27 2 (v41m) (ms41), .ows (zsM ms41), .ows (zsM ([m41])), .own mlc 27 2 (u11) (ls.filter (fun m => m.fo == tz)), .own mlc 27 2 (u9) (ls ++ zs.map (mkM tz))] Y91 := hM
                    obtain ⟨v92, Y92, hrun, ht⟩ := own_app1 infoMl rfl (by decide) Try.underlying22 mlc_len mlc_one (hM.oka 3 rfl) x (hM.at 2 rfl) (by decide) (by have h := HL4.out; simp; omega) 22
                    have hM1 := hM.turn 3 rfl ht rfl
                    clear ht
                    refine oD 23 3 (stepH_append (d := some 153) (t := 22) (t' := 22) (ty := 22) (v := v91) (x := .slice (some ⟨N88, 0, none⟩) 1 1) (by kernel_rfl) hrun (hM1.sub (.cons _ (.cons _ (.cons _ (.cons _ (.cons_cons _ (.cons_cons _ (.cons_cons _ (.cons_cons _ (.cons_cons _ (.cons_cons _ (.cons_cons _ (.cons_cons _ (.cons_cons _ (.cons_cons _ (.cons_cons _ .slnil)))))))))))))))) ?_)
                    replace hS := hM1.sub (.cons _ (.cons _ (.cons _ (.cons _ (.cons_cons _ (.cons_cons _ (.cons_cons _ (.cons_cons _ (.cons_cons _ (.cons_cons _ (.cons_cons _ (.cons_cons _ (.cons_cons _ (.cons_cons _ (.cons_cons _ .slnil)))))))))))))))
                    replace hM := hM1
                    clear hM1 hrun
                    refine oD 24 2 (cD (some 154) 9 #[.slice pv89m ms89.length cv89m, v92] ((same23_any (la := ms89) (lb := ls ++ [x]) _ ((hM.oka 0 rfl).rsl mlc_len) (Nat.le_refl _) ((hM.oka 3 rfl).rsl mlc_len) (Nat.le_refl _) (hM.oka 1 rfl).holdW (hold_of (HKK.out.up hM.b) (mem_too HXl.out)) (HE89.out.trans (post_too HL4.out))).mono ?_))
                    rintro e Y93 ⟨rfl, hb⟩
                    refine And.intro (hS.below hb) ?_
                    replace hS := hS.below hb
                    replace hM := hM.below hb
                    clear hb
                    refine tD 0 [.val 25 (some 155) (.bool true), .val 26 (some 8) (.bool true)] trivial hS ?_
                    refine dD ?_
                    try simp only [puts, Tk.put, Act.put, List.setIfInBounds_toArray, List.set_cons_zero, List.set_cons_succ]
                    clear hS
                    go_wp2_with fail
                    go_ret
                    exact ⟨rfl, hM.b⟩
                · refine rD (some 152) (.slice (some ⟨Y60.heap.size, 0, none⟩) 1 1) (Y60.alloc (.cells (mlc x).toArray 27)) (hS.other _) ?_
                  replace hS := hS.other (.cells (mlc x).toArray 27)
                  replace hM := hM.alloc 27 (mlc x)
                  generalize World.alloc _ _ = Y94 at *
                  generalize hNe : Y60.heap.size = N94 at *
                  clear hNe
                  refine oT 14 15 6 ?_ ?_
                  · refine cD (some 144) 13 #[.slice pl ls.length cl, .int .i64 z] ((twin_any ls z x _ (HLl.out.below hM.b HHl.out) (Nat.le_trans HHl.out hM.size) (by have h := HL4.out; omega) (HKK.out.up hM.b) HBP.out HXl.out).mono ?_)
                    rintro e Y95 ⟨v95m, ms95, rfl, he95, hR⟩
                    refine And.intro (hS.below hR.b) ?_
                    replace hS := hS.below hR.b
                    have HE95 := Lib.hid he95
                    replace hM := hM.gain2 hR
                    clear hR he95
                    obtain ⟨pv95m, cv95m, rfl⟩ := (hM.oka 0 rfl).slice mlc_len
                    refine oD 15 5 (rD (some 145) (.slice (some ⟨Y95.heap.size, 0, none⟩) 0 0) (Y95.alloc (.cells ([]).toArray 27)) (hS.other _) ?_)
                    replace hS := hS.other (.cells ([]).toArray 27)
                    replace hM := hM.alloc 27 ([])
                    generalize World.alloc _ _ = Y97 at *
                    generalize hNe : Y95.heap.size = N97 at *
                    clear hNe
                    replace hM := hM.mtrow (f := mlc) (n := 2)
                    obtain ⟨v98, Y98, hrun, ht⟩ := own_appR infoMl rfl (by decide) Try.underlying22 mlc_len mlc_one (hM.oka 0 rfl) (HLl.out.below hM.b HHl.out) (by decide) (by have h := HL4.out; simp; omega) 22
                    have hM1 := hM.turn 0 rfl ht rfl
                    clear ht
                    refine oD 17 4 (stepH_append (d := some 147) (t := 22) (t' := 22) (ty := 22) (v := .slice (some ⟨N97, 0, none⟩) 0 0) (x := .slice pl ls.length cl) (by kernel_rfl) hrun (hM1.sub (.cons _ (.cons _ (.cons _ (.cons _ (.cons_cons _ (.cons_cons _ (.cons_cons _ (.cons_cons _ (.cons_cons _ (.cons_cons _ (.cons_cons _ (.cons_cons _ (.cons_cons _ (.cons_cons _ (.cons_cons _ .slnil)))))))))))))))) ?_)
                    replace hS := hM1.sub (.cons _ (.cons _ (.cons _ (.cons _ (.cons_cons _ (.cons_cons _ (.cons_cons _ (.cons_cons _ (.cons_cons _ (.cons_cons _ (.cons_cons _ (.cons_cons _ (.cons_cons _ (.cons_cons _ (.cons_cons _ .slnil)))))))))))))))
                    replace hM := hM1
                    clear hM1 hrun
                    replace hM : Sep w [] [.own mlc 27 2 (v98) (ls), .own mlc 27 2 (.slice pv95m ms95.length cv95m) (ms95), .ows (zsM ms95), .blk N94 27 (mlc x), .own mlc 27 2 (v57) ((ls.take (plcN z ls.length)) ++ (ls.drop (plcN z ls.length + 1))), .own mlc 27 2 (.slice pv49m ms49.length cv49m) (ms49), .ows (zsM ms49), .own mlc 27 2 (.slice pv46m ms46.length cv46m) (ms46), .ows (zsM ms46), .blk N43 27 (mlc m41), .own mlc 27 2 (v41m) (ms41), .ows (zsM ms41), .ows (zsM ([m41])), .own mlc 27 2 (u11) (ls.filter (fun m => m.fo == tz)), .own mlc 27 2 (u9) (ls ++ zs.map (mkM tz))] Y98 := hM
                    obtain ⟨v99, Y99, hrun, ht⟩ := own_app1 infoMl rfl (by decide) Try.underlying22 mlc_len mlc_one (hM.oka 0 rfl) x (hM.at 3 rfl) (by decide) (by have h := HL4.out; simp; omega) 22
                    have hM1 := hM.turn 0 rfl ht rfl
                    clear ht
                    refine oD 23 3 (stepH_append (d := some 153) (t := 22) (t' := 22) (ty := 22) (v := v98) (x := .slice (some ⟨N94, 0, none⟩) 1 1) (by kernel_rfl) hrun (hM1.sub (.cons _ (.cons _ (.cons _ (.cons _ (.cons_cons _ (.cons_cons _ (.cons_cons _ (.cons_cons _ (.cons_cons _ (.cons_cons _ (.cons_cons _ (.cons_cons _ (.cons_cons _ (.cons_cons _ (.cons_cons _ .slnil)))))))))))))))) ?_)
                    replace hS := hM1.sub (.cons _ (.cons _ (.cons _ (.cons _ (.cons_cons _ (.cons_cons _ (.cons_cons _ (.cons_cons _ (.cons_cons _ (.cons_cons _ (.cons_cons _ (.cons_cons _ (.cons_cons _ (.cons_cons _ (.cons_cons _ .slnil)))))))))))))))
                    replace hM := hM1
                    clear hM1 hrun
                    refine oD 24 2 (cD (some 154) 9 #[.slice pv95m ms95.length cv95m, v99] ((same23_any (la := ms95) (lb := ls ++ [x]) _ ((hM.oka 1 rfl).rsl mlc_len) (Nat.le_refl _) ((hM.oka 0 rfl).rsl mlc_len) (Nat.le_refl _) (hM.oka 2 rfl).holdW (hold_of (HKK.out.up hM.b) (mem_too HXl.out)) (HE95.out.trans (post_too HL4.out))).mono ?_))
                    rintro e Y100 ⟨rfl, hb⟩
                    refine And.intro (hS.below hb) ?_
                    replace hS := hS.below hb
                    replace hM := hM.below hb
                    clear hb
                    refine tD 0 [.val 25 (some 155) (.bool true), .val 26 (some 8) (.bool true)] trivial hS ?_
                    refine dD ?_
                    try simp only [puts, Tk.put, Act.put, List.setIfInBounds_toArray, List.set_cons_zero, List.set_cons_succ]
                    clear hS
                    go_wp2_with fail
                    go_ret
                    exact ⟨rfl, hM.b⟩
                  · refine rD (some 145) (.slice (some ⟨Y94.heap.size, 0, none⟩) 0 0) (Y94.alloc (.cells ([]).toArray 27)) (hS.other _) ?_
                    replace hS := hS.other (.cells ([]).toArray 27)
                    replace hM := hM.alloc 27 ([])
                    generalize World.alloc _ _ = Y101 at *
                    generalize hNe : Y94.heap.size = N101 at *
                    clear hNe
                    replace hM := hM.mtrow (f := mlc) (n := 2)
                    refine oD 14 5 (cD (some 144) 13 #[.slice pl ls.length cl, .int .i64 z] ((twin_any ls z x _ (HLl.out.below hM.b HHl.out) (Nat.le_trans HHl.out hM.size) (by have h := HL4.out; omega) (HKK.out.up hM.b) HBP.out HXl.out).mono ?_))
                    rintro e Y102 ⟨v102m, ms102, rfl, he102, hR⟩
                    refine And.intro (hS.below hR.b) ?_
                    replace hS := hS.below hR.b
                    have HE102 := Lib.hid he102
                    replace hM := hM.gain2 hR
                    clear hR he102
                    obtain ⟨pv102m, cv102m, rfl⟩ := (hM.oka 0 rfl).slice mlc_len
                    obtain ⟨v104, Y104, hrun, ht⟩ := own_appR infoMl rfl (by decide) Try.underlying22 mlc_len mlc_one (hM.oka 2 rfl) (HLl.out.below hM.b HHl.out) (by decide) (by have h := HL4.out; simp; omega) 22
                    have hM1 := hM.turn 2 rfl ht rfl
                    clear ht
                    refine oD 17 4 (stepH_append (d := some 147) (t := 22) (t' := 22) (ty := 22) (v := .slice (some ⟨N101, 0, none⟩) 0 0) (x := .slice pl ls.length cl) (by kernel_rfl) hrun (hM1.sub (.cons _ (.cons _ (.cons _ (.cons _ (.cons_cons _ (.cons_cons _ (.cons_cons _ (.cons_cons _ (.cons_cons _ (.cons_cons _ (.cons_cons _ (.cons_cons _ (.cons_cons _ (.cons_cons _ (.cons_cons _ .slnil)))))))))))))))) ?_)
                    replace hS := hM1.sub (.cons _ (.cons _ (.cons _ (.cons _ (.cons_cons _ (.cons_cons _ (.cons_cons _ (.cons_cons _ (.cons_cons _ (.cons_cons _ (.cons_cons _ (.cons_cons _ (.cons_cons _ (.cons_cons _ (.cons_cons _ .slnil)))))))))))))))
                    replace hM := hM1
                    clear hM1 hrun
                    replace hM : Sep w [] [.own mlc 27 2 (.slice pv102m ms102.length cv102m) (ms102), .ows (zsM ms102), .own mlc 27 2 (v104) (ls), .blk N94 27 (mlc x), .own mlc 27 2 (v57) ((ls.take (plcN z ls.length)) ++ (ls.drop (plcN z ls.length + 1))), .own mlc 27 2 (.slice pv49m ms49.length cv49m) (ms49), .ows (zsM ms49), .own mlc 27 2 (.slice pv46m ms46.length cv46m) (ms46), .ows (zsM ms46), .blk N43 27 (mlc m41), .own mlc 27 2 (v41m) (ms41), .ows (zsM ms41), .ows (zsM ([m41])), .own mlc 27 2 (u11) (ls.filter (fun m => m.fo == tz)), .own mlc 27 2 (u9) (ls ++ zs.map (mkM tz))] Y104 := hM
                    obtain ⟨v105, Y105, hrun, ht⟩ := own_app1 infoMl rfl (by decide) Try.underlying22 mlc_len mlc_one (hM.oka 2 rfl) x (hM.at 3 rfl) (by decide) (by have h := HL4.out; simp; omega) 22
                    have hM1 := hM.turn 2 rfl ht rfl
                    clear ht
                    refine oD 23 3 (stepH_append (d := some 153) (t := 22) (t' := 22) (ty := 22) (v := v104) (x := .slice (some ⟨N94, 0, none⟩) 1 1) (by kernel_rfl) hrun (hM1.sub (.cons _ (.cons _ (.cons _ (.cons _ (.cons_cons _ (.cons_cons _ (.cons_cons _ (.cons_cons _ (.cons_cons _ (.cons_cons _ (.cons_cons _ (.cons_cons _ (.cons_cons _ (.cons_cons _ (.cons_cons _ .slnil)))))))))))))))) ?_)
                    replace hS := hM1.sub (.cons _ (.cons _ (.cons _ (.cons _ (.cons_cons _ (.cons_cons _ (.cons_cons _ (.cons_cons _ (.cons_cons _ (.cons_cons _ (.cons_cons _ (.cons_cons _ (.cons_cons _ (.cons_cons _ (.cons_cons _ .slnil)))))))))))))))
                    replace hM := hM1
                    clear hM1 hrun
                    refine oD 24 2 (cD (some 154) 9 #[.slice pv102m ms102.length cv102m, v105] ((same23_any (la := ms102) (lb := ls ++ [x]) _ ((hM.oka 0 rfl).rsl mlc_len) (Nat.le_refl _) ((hM.oka 2 rfl).rsl mlc_len) (Nat.le_refl _) (hM.oka 1 rfl).holdW (hold_of (HKK.out.up hM.b) (mem_too HXl.out)) (HE102.out.trans (post_too HL4.out))).mono ?_))
                    rintro e Y106 ⟨rfl, hb⟩
                    refine And.intro (hS.below hb) ?_
                    replace hS := hS.below hb
                    replace hM := hM.below hb
                    clear hb
                    refine tD 0 [.val 25 (some 155) (.bool true), .val 26 (some 8) (.bool true)] trivial hS ?_
                    refine dD ?_
                    try simp only [puts, Tk.put, Act.put, List.setIfInBounds_toArray, List.set_cons_zero, List.set_cons_succ]
                    clear hS
                    go_wp2_with fail
                    go_ret
                    exact ⟨rfl, hM.b⟩
    | true =>
      have Hhb2 := Lib.hid hb2
      clear hb2
      go_upto_region 4 with fail
      refine wp_region_fromM (fun W => Sep w [] [] W) hM ?_
      clear hM
      rintro Y107 hM
      refine tF 1 [.val 0 (some 8) (.bool true)] trivial ?_
      refine dF ?_
      try simp only [puts, Tk.put, Act.put, List.setIfInBounds_toArray, List.set_cons_zero, List.set_cons_succ]
      go_wp2_with fail
      go_ret
      exact ⟨rfl, hM.b⟩
  | true =>
    have Hhb1 := Lib.hid hb1
    clear hb1
    refine tF 5 [.skip 4 (some 24)] trivial ?_
    refine wpFrom_not (d := some 25) (by kernel_rfl) ?_
    refine tF 8 [.skip 6 (some 26), .val 7 (some 27) (.bool true)] trivial ?_
    refine dF ?_
    try simp only [puts, Tk.put, Act.put, List.setIfInBounds_toArray, List.set_cons_zero, List.set_cons_succ]
    go_upto_region 4 with fail
    refine wp_region_fromM (fun W => Sep w [] [] W) hM ?_
    clear hM
    rintro Y108 hM
    refine tF 1 [.val 0 (some 8) (.bool true)] trivial ?_
    refine dF ?_
    try simp only [puts, Tk.put, Act.put, List.setIfInBounds_toArray, List.set_cons_zero, List.set_cons_succ]
    go_wp2_with fail
    go_ret
    exact ⟨rfl, hM.b⟩
end Go.Proofs.Ytedoogoelolbdaa
