/-
  The law: taken always the first, mail comes as it was posted.
-/
import Derived.Test.YtedoogoelolbdaaNetL
namespace Go.Proofs.Ytedoogoelolbdaa
open Go.RowKit Go.Shelf
attribute [local irreducible] wpFrom wpAnyH StepH

def itc (y : Int) : List Value := [.int .i64 y]
theorem itc_len (y : Int) : (itc y).length = 1 := rfl
/-- What was posted, in order. -/
def ordP (ts : List Int) (zs : List Zs) : List (Int × List UInt8) := zs.mapIdx fun k z => ((ts[k]?).getD 0, z.l)
theorem ord_len (ts : List Int) (zs : List Zs) : (ordP ts zs).length = zs.length := List.length_mapIdx
theorem ord_at {ts : List Int} {zs : List Zs} {j : Nat} {z : Zs} (h : zs[j]? = some z) : (ordP ts zs)[j]? = some ((ts[j]?).getD 0, z.l) := by
  unfold ordP
  rw [List.getElem?_mapIdx, h]
  rfl
theorem ord_post {ts : List Int} {zs : List Zs} {j : Nat} {z : Zs} {tz : Int} {ms : List Ml} (h : zs[j]? = some z) (ht : (ts[j]?).getD 0 = tz) (hj : j ≤ 100) (he : ms.map plM = ordP ts (zs.take j)) : postL (ms.map plM) tz [z.l] = ordP ts (zs.take (j + 1)) := by
  have hlt : j < zs.length := (List.getElem?_eq_some_iff.1 h).1
  have hl : (zs.take j).length = j := List.length_take_of_le (by omega)
  have e : ordP ts (zs.take (j + 1)) = ordP ts (zs.take j) ++ [(tz, z.l)] := by
    rw [List.take_add_one, h, Option.toList_some]
    unfold ordP
    rw [List.mapIdx_concat, hl, ht]
  rw [e, he]
  unfold postL
  exact List.take_of_length_le (by rw [List.length_append, ord_len, hl]; simp; omega)
theorem ord_few {ts : List Int} {zs : List Zs} {j : Nat} {ms : List Ml} (he : ms.map plM = ordP ts (zs.take j)) : ms.length ≤ j := by
  have h := congrArg List.length he
  rw [List.length_map, ord_len, List.length_take] at h
  omega
theorem ord_bp {ts : List Int} {zs : List Zs} {j : Nat} {ms : List Ml} (he : ms.map plM = ordP ts (zs.take j)) (h : BZ zs) : BP (ms.map plM) := by
  rw [he]
  intro x hx
  obtain ⟨k, hk, rfl⟩ := List.mem_mapIdx.1 hx
  exact h _ (List.mem_of_mem_take (List.getElem_mem hk))
theorem drop_bp {ts : List Int} {zs : List Zs} {j : Nat} {ms : List Ml} (he : ms.map plM = (ordP ts zs).drop j) (h : BZ zs) : BP (ms.map plM) := by
  rw [he]
  intro x hx
  obtain ⟨k, hk, rfl⟩ := List.mem_mapIdx.1 (List.mem_of_mem_drop hx)
  exact h _ (List.getElem_mem hk)
theorem drop_few {ts : List Int} {zs : List Zs} {j : Nat} {ms : List Ml} (he : ms.map plM = (ordP ts zs).drop j) : ms.length = zs.length - j := by
  have h := congrArg List.length he
  rwa [List.length_map, List.length_drop, ord_len] at h
theorem plc_0 (n : Nat) : plcN 0 n = 0 := by
  unfold plcN
  rw [Int.zero_tmod, Int.zero_add, Int.tmod_self]
  rfl
theorem drop_first {ts : List Int} {zs : List Zs} {j : Nat} {ms : List Ml} {z : Zs} (he : ms.map plM = (ordP ts zs).drop j) (h : zs[j]? = some z) : ∃ x, ms[plcN 0 ms.length]? = some x ∧ plM x = ((ts[j]?).getD 0, z.l) := by
  rw [plc_0]
  have h1 : (ms.map plM)[0]? = some ((ts[j]?).getD 0, z.l) := by rw [he, List.getElem?_drop, Nat.add_zero, ord_at h]
  rw [List.getElem?_map] at h1
  obtain ⟨x, hx, hy⟩ := Option.map_eq_some_iff.1 h1
  exact ⟨x, hx, hy⟩
theorem drop_rest {ts : List Int} {zs : List Zs} {j : Nat} {ms ms2 : List Ml} (he : ms.map plM = (ordP ts zs).drop j) (h2 : ms2.map plM = (ms.map plM).take (plcN 0 ms.length) ++ (ms.map plM).drop (plcN 0 ms.length + 1)) : ms2.map plM = (ordP ts zs).drop (j + 1) := by
  rw [plc_0, List.take_zero, List.nil_append, he, List.drop_drop] at h2
  exact h2
theorem neTxN {a b : List UInt8} (h : a = b) : (!((txB a).toList == (txB b).toList)) = false := by rw [txEq, decide_eq_true h]; rfl
set_option maxRecDepth 100000 in
set_option maxHeartbeats 4000000 in
theorem netOrder_any {zs : List Zs} {ts : List Int} {v1 v2 : Value} {lo1 hi1 lo2 hi2 : Nat} (w : World) (hz : RSl zsc lo1 hi1 w v1 zs) (hhz : hi1 ≤ w.heap.size) (ht : RSl itc lo2 hi2 w v2 ts) (hht : hi2 ≤ w.heap.size) (hkz : Holds w.heap.size w zs) (hbz : BZ zs) : Calls Try.prog 6 #[v1, v2] w fun e W' => e = .returned (.bool true) ∧ Below w.heap.size w W' := by
  have hmx : Try.prog.follows .mixedOrders = true := by kernel_rfl
  have HEz := Lib.hid (fun k x (hx : zs[k]? = some x) => hz.elem zsc_len hx Try.underlying23 (fun W => by kernel_rfl))
  obtain ⟨pz, cz, rfl⟩ := hz.slice
  have HLz := Lib.hid hz
  have HHz := Lib.hid hhz
  have HLENz := Lib.hid (show zs.length ≤ 9223372036854775807 from by have h := hz.len; unfold maxLen at h; omega)
  clear hz hhz 
  have HEu := Lib.hid (fun k x (hx : ts[k]? = some x) => ht.elem itc_len hx Try.underlying37 (fun W => by kernel_rfl))
  obtain ⟨pu, cu, rfl⟩ := ht.slice
  have HLu := Lib.hid ht
  have HHu := Lib.hid hht
  have HLENu := Lib.hid (show ts.length ≤ 9223372036854775807 from by have h := ht.len; unfold maxLen at h; omega)
  clear ht hht
  have HKZ := Lib.hid hkz
  have HBZ := Lib.hid hbz
  clear hkz hbz
  have hM := Sep.start w
  go_enter Try.func6, Try.ntmps6
  go_upto_region 0 with fail
  refine wp_region_fromM (fun W => Sep w [] [] W) hM ?_
  clear hM
  rintro Y1 hM
  refine tF 1 [.val 0 (some 4) (.bool false)] trivial ?_
  refine dF ?_
  try simp only [puts, Tk.put, Act.put, List.setIfInBounds_toArray, List.set_cons_zero, List.set_cons_succ]
  go_upto_region 1 with fail
  refine wp_region_fromM (fun W => Sep w [] [] W) hM ?_
  clear hM
  rintro Y2 hM
  refine cF (some 12) 7 #[] ((alive23_any _).mono ?_)
  rintro e Y3 ⟨rfl, hb⟩
  replace hM := hM.below hb
  clear hb
  refine tF 2 [.val 1 (some 13) (.bool false)] trivial ?_
  refine dF ?_
  try simp only [puts, Tk.put, Act.put, List.setIfInBounds_toArray, List.set_cons_zero, List.set_cons_succ]
  go_upto_region 3 with fail
  refine wp_region_fromM (fun W => Sep w [] [] W) hM ?_
  clear hM
  rintro Y4 hM
  refine tF 3 [.val 0 (some 14) (.slice pz zs.length cz), .val 1 (some 15) (.int .i64 (zs.length : Int)), .val 2 (some 16) (.bool (decide (100 < (zs.length : Int))))] trivial ?_
  refine dF ?_
  try simp only [puts, Tk.put, Act.put, List.setIfInBounds_toArray, List.set_cons_zero, List.set_cons_succ]
  cases hb1 : decide (100 < (zs.length : Int)) with
  | false =>
    have Hhb1 := Lib.hid hb1
    clear hb1
    have HLL : Hid (zs.length ≤ 100) := Lib.hid (by have h := of_decide_eq_false Hhb1.out; omega)
    go_upto_region 5 with fail
    refine wp_region_fromM (fun W => Sep w [] [] W) hM ?_
    clear hM
    rintro Y5 hM
    refine tF 1 [.val 0 (some 5) (.slice none 0 0)] trivial ?_
    refine dF ?_
    try simp only [puts, Tk.put, Act.put, List.setIfInBounds_toArray, List.set_cons_zero, List.set_cons_succ]
    go_upto_region 6 with fail
    refine wp_region_fromM (fun W => Sep w [] [] W) hM ?_
    clear hM
    rintro Y6 hM
    refine tF 1 [.val 0 (some 6) (.int .i64 0)] trivial ?_
    refine dF ?_
    try simp only [puts, Tk.put, Act.put, List.setIfInBounds_toArray, List.set_cons_zero, List.set_cons_succ]
    replace hM := (hM.ows0).nil mlc 27 2
    go_wp2_with fail
    go_loopw [6, 5] (fun i u5 wr => ∃ (j : Nat) (ms : List Ml), j ≤ zs.length ∧ i = .int .i64 (j : Int) ∧ ms.map plM = ordP ts (zs.take j) ∧ Sep w [] [.own mlc 27 2 (u5) (ms), .ows (zsM ms)] wr) (fun i u5 _ => zs.length - (intOf i).toNat)
    case atStart => exact ⟨0, [], Nat.zero_le _, rfl, rfl, hM⟩
    clear hM
    case round =>
      obtain ⟨j, ms, hj, rfl, he, hM⟩ := hrel
      have HE := Lib.hid he
      clear he
      obtain ⟨pu5, cu5, rfl⟩ := (hM.oka 0 rfl).slice mlc_len
      by_cases hlt : j < zs.length
      case pos =>
        have HJ := Lib.hid hlt
        have hlt' : (j : Int) < (zs.length : Int) := by omega
        have HLT := Lib.hid hlt'
        clear hlt'
        obtain ⟨z, hx⟩ : ∃ z, zs[j]? = some z := ⟨_, List.getElem?_eq_getElem hlt⟩
        obtain ⟨bz, oz, _, _, hit, hct⟩ := HEz.out j z hx
        have HXz := Lib.hid hx
        have HIz := Lib.hid hit
        have HCz := Lib.hid hct
        clear hx hit hct
        clear hlt
        go_upto_region 7 with fail
        refine wp_region_fromM (fun W => Sep w [] [.own mlc 27 2 (.slice pu5 ms.length cu5) (ms), .ows (zsM ms)] W) hM ?_
        clear hM
        rintro Y7 hM
        refine tF 4 [.val 0 (some 17) (.int .i64 (j : Int)), .val 1 (some 18) (.slice pz zs.length cz), .val 2 (some 19) (.int .i64 (zs.length : Int)), .alt 3 (some 20) (.bool (decide ((j : Int) < (zs.length : Int)))) (.bool true)] ⟨congrArg Value.bool (decide_eq_true HLT.out), trivial⟩ ?_
        refine dF ?_
        try simp only [puts, Tk.put, Act.put, List.setIfInBounds_toArray, List.set_cons_zero, List.set_cons_succ]
        go_upto_region 9 with fail
        refine wp_region_fromM (fun W => Sep w [] [.own mlc 27 2 (.slice pu5 ms.length cu5) (ms), .ows (zsM ms)] W) hM ?_
        clear hM
        rintro Y8 hM
        refine tF 1 [.val 0 (some 7) (.int .i64 0)] trivial ?_
        refine dF ?_
        try simp only [puts, Tk.put, Act.put, List.setIfInBounds_toArray, List.set_cons_zero, List.set_cons_succ]
        go_upto_region 10 with fail
        refine wp_region_fromM (fun W => Sep w [] [.own mlc 27 2 (.slice pu5 ms.length cu5) (ms), .ows (zsM ms)] W) hM ?_
        clear hM
        rintro Y9 hM
        refine tF 4 [.val 0 (some 23) (.int .i64 (j : Int)), .val 1 (some 24) (.slice pu ts.length cu), .val 2 (some 25) (.int .i64 (ts.length : Int)), .val 3 (some 26) (.bool (decide ((j : Int) < (ts.length : Int))))] trivial ?_
        refine dF ?_
        try simp only [puts, Tk.put, Act.put, List.setIfInBounds_toArray, List.set_cons_zero, List.set_cons_succ]
        cases hb2 : decide ((j : Int) < (ts.length : Int)) with
        | false =>
          have Hhb2 := Lib.hid hb2
          clear hb2
          have HT := Lib.hid (show (ts[j]?).getD 0 = 0 from by rw [List.getElem?_eq_none (by have h := of_decide_eq_false Hhb2.out; omega)]; rfl)
          go_upto_region 12 with fail
          refine wp_region_fromM (fun W => Sep w [] [.own mlc 27 2 (.slice pu5 ms.length cu5) (ms), .ows (zsM ms)] W) hM ?_
          clear hM
          rintro Y10 hM
          refine tF 6 [.val 0 (some 31) (.slice pu5 ms.length cu5), .val 1 (some 32) (.int .i64 0), .val 2 (some 33) (.slice pz zs.length cz), .val 3 (some 34) (.int .i64 (j : Int)), .idx 4 (some 35) 23 (.slice pz zs.length cz) (.int .i64 (j : Int)) (pt bz oz), .load 5 (some 36) 25 (pt bz oz) (.slice z.a z.l.length z.c)] ⟨HIz.out _, ld_cell _ _ Try.underlying25 rfl (HCz.out _ (HLz.out.below hM.b HHz.out) 0 _ rfl), trivial⟩ ?_
          refine rF (some 37) (.slice (some ⟨Y10.heap.size, 0, none⟩) 1 1) (Y10.alloc (.cells ([.slice z.a z.l.length z.c]).toArray 25)) ?_
          replace hM := hM.alloc 25 ([.slice z.a z.l.length z.c])
          generalize World.alloc _ _ = Y11 at *
          generalize hNe : Y10.heap.size = N11 at *
          clear hNe
          refine cF (some 38) 10 #[.slice pu5 ms.length cu5, .int .i64 0, .slice (some ⟨N11, 0, none⟩) 1 1] ((post_any ms ([(⟨z.a, z.c, z.l⟩ : Zs)]) 0 _ ((hM.oka 1 rfl).rsl mlc_len) (Nat.le_refl _) (rsl_blk (f := zsc) (x := (⟨z.a, z.c, z.l⟩ : Zs)) (hM.at 0 rfl)) (Nat.le_refl _) (by have h := HLL.out; have h2 := HJ.out; have h3 := ord_few HE.out; simp; omega) (hM.oka 2 rfl).holdW (ord_bp HE.out HBZ.out) (Holds.one (z := (⟨z.a, z.c, z.l⟩ : Zs)) ((((HKZ.out.get HXz.out).below hM.b (Nat.le_refl _)).mono (Nat.le_refl _) hM.size))) (bz_one (z := (⟨z.a, z.c, z.l⟩ : Zs)) (HBZ.out _ (List.mem_of_getElem? HXz.out)))).mono ?_)
          rintro e Y12 ⟨v12m, ms12, rfl, he12, hR⟩
          have HE12 := Lib.hid he12
          replace hM := hM.gain2 hR
          clear hR he12
          obtain ⟨pv12m, cv12m, rfl⟩ := (hM.oka 0 rfl).slice mlc_len
          refine tF 9 [.val 8 (some 5) (.slice pv12m ms12.length cv12m)] trivial ?_
          refine dF ?_
          try simp only [puts, Tk.put, Act.put, List.setIfInBounds_toArray, List.set_cons_zero, List.set_cons_succ]
          go_upto_region 8 with fail
          refine wp_region_fromM (fun W => Sep w [] [.own mlc 27 2 (.slice pv12m ms12.length cv12m) (ms12), .ows (zsM ms12), .blk N11 25 ([.slice z.a z.l.length z.c]), .own mlc 27 2 (.slice pu5 ms.length cu5) (ms), .ows (zsM ms)] W) hM ?_
          clear hM
          rintro Y14 hM
          refine tF 3 [.val 0 (some 21) (.int .i64 (j : Int)), .alt 1 (some 22) (.int .i64 (IntKind.i64.wrap ((j : Int) + 1))) (.int .i64 ((j + 1 : Nat) : Int)), .val 2 (some 6) (.int .i64 ((j + 1 : Nat) : Int))] ⟨congrArg (Value.int .i64) ((IntWalk.i64_in _ (by have := HLENz.out; have := HJ.out; omega)).trans (by omega)), trivial⟩ ?_
          refine dF ?_
          try simp only [puts, Tk.put, Act.put, List.setIfInBounds_toArray, List.set_cons_zero, List.set_cons_succ]
          have HM1 : Hid (Sep w [] [.own mlc 27 2 (.slice pv12m ms12.length cv12m) (ms12), .ows (zsM ms12)] Y14) := Lib.hid (hM.pick [0, 1] (by decide) rfl)
          clear hM
          go_wp2_with fail
          go_roundw
          case rel => exact ⟨j + 1, _, HJ.out, rfl, HE12.out.trans (ord_post HXz.out HT.out (by have h := HLL.out; have h2 := HJ.out; omega) HE.out), HM1.out⟩
          case measure => have := HJ.out; simp [intOf]; omega
        | true =>
          have Hhb2 := Lib.hid hb2
          clear hb2
          have hlt2 : j < ts.length := by have h := of_decide_eq_true Hhb2.out; omega
          obtain ⟨t, hx⟩ : ∃ x, ts[j]? = some x := ⟨_, List.getElem?_eq_getElem hlt2⟩
          obtain ⟨bu, ou, _, _, hit, hct⟩ := HEu.out j t hx
          have HXu := Lib.hid hx
          have HIu := Lib.hid hit
          have HCu := Lib.hid hct
          clear hx hit hct
          clear hlt2
          have HT := Lib.hid (show (ts[j]?).getD 0 = t from by rw [HXu.out]; rfl)
          go_upto_region 11 with fail
          refine wp_region_fromM (fun W => Sep w [] [.own mlc 27 2 (.slice pu5 ms.length cu5) (ms), .ows (zsM ms)] W) hM ?_
          clear hM
          rintro Y15 hM
          refine tF 5 [.val 0 (some 27) (.slice pu ts.length cu), .val 1 (some 28) (.int .i64 (j : Int)), .idx 2 (some 29) 37 (.slice pu ts.length cu) (.int .i64 (j : Int)) (pt bu ou), .load 3 (some 30) 3 (pt bu ou) (.int .i64 t), .val 4 (some 7) (.int .i64 t)] ⟨HIu.out _, ld_cell _ _ Try.underlying3 rfl (HCu.out _ (HLu.out.below hM.b HHu.out) 0 _ rfl), trivial⟩ ?_
          refine dF ?_
          try simp only [puts, Tk.put, Act.put, List.setIfInBounds_toArray, List.set_cons_zero, List.set_cons_succ]
          go_upto_region 12 with fail
          refine wp_region_fromM (fun W => Sep w [] [.own mlc 27 2 (.slice pu5 ms.length cu5) (ms), .ows (zsM ms)] W) hM ?_
          clear hM
          rintro Y16 hM
          refine tF 6 [.val 0 (some 31) (.slice pu5 ms.length cu5), .val 1 (some 32) (.int .i64 t), .val 2 (some 33) (.slice pz zs.length cz), .val 3 (some 34) (.int .i64 (j : Int)), .idx 4 (some 35) 23 (.slice pz zs.length cz) (.int .i64 (j : Int)) (pt bz oz), .load 5 (some 36) 25 (pt bz oz) (.slice z.a z.l.length z.c)] ⟨HIz.out _, ld_cell _ _ Try.underlying25 rfl (HCz.out _ (HLz.out.below hM.b HHz.out) 0 _ rfl), trivial⟩ ?_
          refine rF (some 37) (.slice (some ⟨Y16.heap.size, 0, none⟩) 1 1) (Y16.alloc (.cells ([.slice z.a z.l.length z.c]).toArray 25)) ?_
          replace hM := hM.alloc 25 ([.slice z.a z.l.length z.c])
          generalize World.alloc _ _ = Y17 at *
          generalize hNe : Y16.heap.size = N17 at *
          clear hNe
          refine cF (some 38) 10 #[.slice pu5 ms.length cu5, .int .i64 t, .slice (some ⟨N17, 0, none⟩) 1 1] ((post_any ms ([(⟨z.a, z.c, z.l⟩ : Zs)]) t _ ((hM.oka 1 rfl).rsl mlc_len) (Nat.le_refl _) (rsl_blk (f := zsc) (x := (⟨z.a, z.c, z.l⟩ : Zs)) (hM.at 0 rfl)) (Nat.le_refl _) (by have h := HLL.out; have h2 := HJ.out; have h3 := ord_few HE.out; simp; omega) (hM.oka 2 rfl).holdW (ord_bp HE.out HBZ.out) (Holds.one (z := (⟨z.a, z.c, z.l⟩ : Zs)) ((((HKZ.out.get HXz.out).below hM.b (Nat.le_refl _)).mono (Nat.le_refl _) hM.size))) (bz_one (z := (⟨z.a, z.c, z.l⟩ : Zs)) (HBZ.out _ (List.mem_of_getElem? HXz.out)))).mono ?_)
          rintro e Y18 ⟨v18m, ms18, rfl, he18, hR⟩
          have HE18 := Lib.hid he18
          replace hM := hM.gain2 hR
          clear hR he18
          obtain ⟨pv18m, cv18m, rfl⟩ := (hM.oka 0 rfl).slice mlc_len
          refine tF 9 [.val 8 (some 5) (.slice pv18m ms18.length cv18m)] trivial ?_
          refine dF ?_
          try simp only [puts, Tk.put, Act.put, List.setIfInBounds_toArray, List.set_cons_zero, List.set_cons_succ]
          go_upto_region 8 with fail
          refine wp_region_fromM (fun W => Sep w [] [.own mlc 27 2 (.slice pv18m ms18.length cv18m) (ms18), .ows (zsM ms18), .blk N17 25 ([.slice z.a z.l.length z.c]), .own mlc 27 2 (.slice pu5 ms.length cu5) (ms), .ows (zsM ms)] W) hM ?_
          clear hM
          rintro Y20 hM
          refine tF 3 [.val 0 (some 21) (.int .i64 (j : Int)), .alt 1 (some 22) (.int .i64 (IntKind.i64.wrap ((j : Int) + 1))) (.int .i64 ((j + 1 : Nat) : Int)), .val 2 (some 6) (.int .i64 ((j + 1 : Nat) : Int))] ⟨congrArg (Value.int .i64) ((IntWalk.i64_in _ (by have := HLENz.out; have := HJ.out; omega)).trans (by omega)), trivial⟩ ?_
          refine dF ?_
          try simp only [puts, Tk.put, Act.put, List.setIfInBounds_toArray, List.set_cons_zero, List.set_cons_succ]
          have HM1 : Hid (Sep w [] [.own mlc 27 2 (.slice pv18m ms18.length cv18m) (ms18), .ows (zsM ms18)] Y20) := Lib.hid (hM.pick [0, 1] (by decide) rfl)
          clear hM
          go_wp2_with fail
          go_roundw
          case rel => exact ⟨j + 1, _, HJ.out, rfl, HE18.out.trans (ord_post HXz.out HT.out (by have h := HLL.out; have h2 := HJ.out; omega) HE.out), HM1.out⟩
          case measure => have := HJ.out; simp [intOf]; omega
      case neg =>
        obtain rfl : j = zs.length := by omega
        go_upto_region 7 with fail
        refine wp_region_fromM (fun W => Sep w [] [.own mlc 27 2 (.slice pu5 ms.length cu5) (ms), .ows (zsM ms)] W) hM ?_
        clear hM
        rintro Y21 hM
        refine tF 4 [.val 0 (some 17) (.int .i64 (zs.length : Int)), .val 1 (some 18) (.slice pz zs.length cz), .val 2 (some 19) (.int .i64 (zs.length : Int)), .alt 3 (some 20) (.bool (decide ((zs.length : Int) < (zs.length : Int)))) (.bool false)] ⟨congrArg Value.bool (decide_eq_false (by omega)), trivial⟩ ?_
        refine dF ?_
        try simp only [puts, Tk.put, Act.put, List.setIfInBounds_toArray, List.set_cons_zero, List.set_cons_succ]
        go_upto_region 13 with fail
        refine wp_region_fromM (fun W => Sep w [] [.own mlc 27 2 (.slice pu5 ms.length cu5) (ms), .ows (zsM ms)] W) hM ?_
        clear hM
        rintro Y22 hM
        refine tF 1 [.val 0 (some 8) (.int .i64 0)] trivial ?_
        refine dF ?_
        try simp only [puts, Tk.put, Act.put, List.setIfInBounds_toArray, List.set_cons_zero, List.set_cons_succ]
        have HM2 : Hid (Sep w [] [.own mlc 27 2 (.slice pu5 ms.length cu5) (ms), .ows (zsM ms)] Y22) := Lib.hid (hM.pick [0, 1] (by decide) rfl)
        go_wp2_with fail
        go_loopw [8, 5] (fun i u5 wr => ∃ (j : Nat) (ms : List Ml), j ≤ zs.length ∧ i = .int .i64 (j : Int) ∧ ms.map plM = (ordP ts zs).drop j ∧ Sep w [] [.own mlc 27 2 (u5) (ms), .ows (zsM ms)] wr) (fun i u5 _ => zs.length - (intOf i).toNat)
        case atStart => exact ⟨0, _, Nat.zero_le _, rfl, by have h := HE.out; rwa [List.take_length] at h, HM2.out⟩
        clear hM
        case round =>
          obtain ⟨j, ms, hj, rfl, he, hM⟩ := hrel
          have HE := Lib.hid he
          clear he
          obtain ⟨pu5, cu5, rfl⟩ := (hM.oka 0 rfl).slice mlc_len
          by_cases hlt : j < zs.length
          case pos =>
            have HJ := Lib.hid hlt
            have hlt' : (j : Int) < (zs.length : Int) := by omega
            have HLT := Lib.hid hlt'
            clear hlt'
            obtain ⟨z, hx⟩ : ∃ z, zs[j]? = some z := ⟨_, List.getElem?_eq_getElem hlt⟩
            obtain ⟨bz, oz, _, _, hit, hct⟩ := HEz.out j z hx
            have HXz := Lib.hid hx
            have HIz := Lib.hid hit
            have HCz := Lib.hid hct
            clear hx hit hct
            clear hlt
            go_upto_region 14 with fail
            refine wp_region_fromM (fun W => Sep w [] [.own mlc 27 2 (.slice pu5 ms.length cu5) (ms), .ows (zsM ms)] W) hM ?_
            clear hM
            rintro Y23 hM
            refine tF 4 [.val 0 (some 39) (.int .i64 (j : Int)), .val 1 (some 40) (.slice pz zs.length cz), .val 2 (some 41) (.int .i64 (zs.length : Int)), .alt 3 (some 42) (.bool (decide ((j : Int) < (zs.length : Int)))) (.bool true)] ⟨congrArg Value.bool (decide_eq_true HLT.out), trivial⟩ ?_
            refine dF ?_
            try simp only [puts, Tk.put, Act.put, List.setIfInBounds_toArray, List.set_cons_zero, List.set_cons_succ]
            go_upto_region 16 with fail
            refine wp_region_fromM (fun W => Sep w [] [.own mlc 27 2 (.slice pu5 ms.length cu5) (ms), .ows (zsM ms)] W) hM ?_
            clear hM
            rintro Y24 hM
            refine tF 1 [.val 0 (some 46) (.slice pu5 ms.length cu5)] trivial ?_
            obtain ⟨x, hx, hxz⟩ := drop_first HE.out HXz.out
            have HXX := Lib.hid hx
            have HXY := Lib.hid hxz
            clear hx hxz
            refine cF (some 47) 8 #[.slice pu5 ms.length cu5, .int .i64 0] ((take_any ms 0 x _ ((hM.oka 0 rfl).rsl mlc_len) (Nat.le_refl _) (by have h := HLL.out; have h3 := drop_few HE.out; omega) (hM.oka 1 rfl).holdW (drop_bp HE.out HBZ.out) HXX.out).mono ?_)
            rintro e Y25 ⟨m25, v25m, ms25, rfl, hm25, he25, hR⟩
            have HE25 := Lib.hid he25
            have HFO := Lib.hid (show m25.fo = (ts[j]?).getD 0 from congrArg Prod.fst (hm25.trans HXY.out))
            have HLX := Lib.hid (show m25.l = z.l from congrArg Prod.snd (hm25.trans HXY.out))
            replace hM := hM.gain3 hR
            clear hR he25 hm25
            refine tF 6 [.val 2 (some 45) (.tuple #[mlv m25, v25m, .bool true]), .val 3 (some 48) (mlv m25), .val 4 (some 49) (v25m), .val 5 (some 50) (.bool true)] trivial ?_
            refine rF (some 9) (pt Y25.heap.size 0) (Y25.alloc (.cells (mlc noMl).toArray 27)) ?_
            replace hM := hM.alloc 27 (mlc noMl)
            generalize World.alloc _ _ = Y27 at *
            generalize hNe : Y25.heap.size = N27 at *
            clear hNe
            have hst := sto_part (mlc m25) (hM.at 0 rfl) 0 27 (mlv m25) (mlc m25) rfl (by kernel_rfl) (Nat.le_of_ble_eq_true rfl) rfl rfl
            refine sF 27 (pt N27 0) (mlv m25) (hst) ?_
            clear hst
            replace hM := hM.set 0 (cs' := mlc m25) rfl rfl
            generalize World.setRow _ _ _ = Y28 at *
            refine tF 10 [.val 8 (some 10) (v25m), .val 9 (some 11) (.bool true)] trivial ?_
            refine dF ?_
            try simp only [puts, Tk.put, Act.put, List.setIfInBounds_toArray, List.set_cons_zero, List.set_cons_succ]
            go_upto_region 17 with fail
            refine wp_region_M (fun W => Sep w [] [.blk N27 27 (mlc m25), .own mlc 27 2 (v25m) (ms25), .ows (zsM ms25), .ows (zsM ([m25])), .own mlc 27 2 (.slice pu5 ms.length cu5) (ms), .ows (zsM ms)] W) (fun W => Sep w [] [.blk N27 27 (mlc m25), .own mlc 27 2 (v25m) (ms25), .ows (zsM ms25), .ows (zsM ([m25])), .own mlc 27 2 (.slice pu5 ms.length cu5) (ms), .ows (zsM ms)] W) hmx hM.drew ?_
            clear hM
            rintro Y29 hM
            have hS := hM.sub (.cons_cons _ (.cons_cons _ (.cons_cons _ (.cons_cons _ (.cons_cons _ (.cons_cons _ .slnil))))))
            refine tD 19 [.val 0 (some 51) (.bool true), .val 1 (some 52) (.bool false), .val 2 (some 53) (.bool false), .val 3 (some 54) (pt N27 1), .load 4 (some 55) 25 (pt N27 1) (.slice m25.a m25.l.length m25.c), .val 6 (some 57) (.slice pz zs.length cz), .val 7 (some 58) (.int .i64 (j : Int)), .idx 8 (some 59) 23 (.slice pz zs.length cz) (.int .i64 (j : Int)) (pt bz oz), .load 9 (some 60) 25 (pt bz oz) (.slice z.a z.l.length z.c)] ⟨fun W h => ld_any _ _ Try.underlying25 rfl (h.at 0 rfl) 1 rfl, fun W h => HIz.out _, fun W h => ld_cell _ _ Try.underlying25 rfl (HCz.out _ (HLz.out.below h.b HHz.out) 0 _ rfl), trivial⟩ hS ?_
            refine oT 5 10 18 ?_ ?_
            · refine cvD (.tmp 55) (some 56) (.slice m25.a m25.l.length m25.c) (.string (txB m25.l)) (cvT ((hM.oka 3 rfl).holdW.ml (k := 0) (x := m25) rfl)) hS ?_
              refine oD 10 17 (cvD (.tmp 60) (some 61) (.slice z.a z.l.length z.c) (.string (txB z.l)) (cvT (((HKZ.out.get HXz.out).below hM.b (Nat.le_refl _)).mono (Nat.le_refl _) hM.size)) hS ?_)
              refine tD 9 [.alt 11 (some 62) (.bool (!((txB m25.l).toList == (txB z.l).toList))) (.bool false), .val 12 (some 63) (.bool false), .val 13 (some 64) (.bool false), .val 14 (some 65) (.int .i64 (j : Int)), .val 15 (some 66) (.slice pu ts.length cu), .val 16 (some 67) (.int .i64 (ts.length : Int)), .val 17 (some 68) (.bool (decide ((j : Int) < (ts.length : Int)))), .val 18 (some 69) (.bool (decide ((j : Int) < (ts.length : Int))))] ⟨congrArg Value.bool (neTxN HLX.out), trivial⟩ hS ?_
              cases hb3 : decide ((j : Int) < (ts.length : Int)) with
              | false =>
                have Hhb3 := Lib.hid hb3
                clear hb3
                have HT := Lib.hid (show (ts[j]?).getD 0 = 0 from by rw [List.getElem?_eq_none (by have h := of_decide_eq_false Hhb3.out; omega)]; rfl)
                refine tD 0 [.skip 19 (some 70), .skip 20 (some 71), .skip 21 (some 72), .skip 22 (some 73), .skip 23 (some 74), .skip 24 (some 75), .skip 25 (some 76), .val 26 (some 77) (.bool false), .val 27 (some 78) (.bool false)] trivial hS ?_
                refine dD ?_
                try simp only [puts, Tk.put, Act.put, List.setIfInBounds_toArray, List.set_cons_zero, List.set_cons_succ]
                clear hS
                go_upto_region 19 with fail
                refine wp_region_fromM (fun W => Sep w [] [.blk N27 27 (mlc m25), .own mlc 27 2 (v25m) (ms25), .ows (zsM ms25), .ows (zsM ([m25])), .own mlc 27 2 (.slice pu5 ms.length cu5) (ms), .ows (zsM ms)] W) hM ?_
                clear hM
                rintro Y30 hM
                refine tF 2 [.val 0 (some 79) (v25m), .val 1 (some 5) (v25m)] trivial ?_
                refine dF ?_
                try simp only [puts, Tk.put, Act.put, List.setIfInBounds_toArray, List.set_cons_zero, List.set_cons_succ]
                go_upto_region 15 with fail
                refine wp_region_fromM (fun W => Sep w [] [.blk N27 27 (mlc m25), .own mlc 27 2 (v25m) (ms25), .ows (zsM ms25), .ows (zsM ([m25])), .own mlc 27 2 (.slice pu5 ms.length cu5) (ms), .ows (zsM ms)] W) hM ?_
                clear hM
                rintro Y31 hM
                refine tF 3 [.val 0 (some 43) (.int .i64 (j : Int)), .alt 1 (some 44) (.int .i64 (IntKind.i64.wrap ((j : Int) + 1))) (.int .i64 ((j + 1 : Nat) : Int)), .val 2 (some 8) (.int .i64 ((j + 1 : Nat) : Int))] ⟨congrArg (Value.int .i64) ((IntWalk.i64_in _ (by have := HLENz.out; have := HJ.out; omega)).trans (by omega)), trivial⟩ ?_
                refine dF ?_
                try simp only [puts, Tk.put, Act.put, List.setIfInBounds_toArray, List.set_cons_zero, List.set_cons_succ]
                have HM1 : Hid (Sep w [] [.own mlc 27 2 (v25m) (ms25), .ows (zsM ms25)] Y31) := Lib.hid (hM.pick [1, 2] (by decide) rfl)
                clear hM
                go_wp2_with fail
                go_roundw
                case rel => exact ⟨j + 1, _, HJ.out, rfl, drop_rest HE.out HE25.out, HM1.out⟩
                case measure => have := HJ.out; simp [intOf]; omega
              | true =>
                have Hhb3 := Lib.hid hb3
                clear hb3
                have hlt2 : j < ts.length := by have h := of_decide_eq_true Hhb3.out; omega
                obtain ⟨t, hx⟩ : ∃ x, ts[j]? = some x := ⟨_, List.getElem?_eq_getElem hlt2⟩
                obtain ⟨bu, ou, _, _, hit, hct⟩ := HEu.out j t hx
                have HXu := Lib.hid hx
                have HIu := Lib.hid hit
                have HCu := Lib.hid hct
                clear hx hit hct
                clear hlt2
                have HT := Lib.hid (show (ts[j]?).getD 0 = t from by rw [HXu.out]; rfl)
                refine tD 0 [.val 19 (some 70) (pt N27 0), .load 20 (some 71) 3 (pt N27 0) (.int .i64 m25.fo), .val 21 (some 72) (.slice pu ts.length cu), .val 22 (some 73) (.int .i64 (j : Int)), .idx 23 (some 74) 37 (.slice pu ts.length cu) (.int .i64 (j : Int)) (pt bu ou), .load 24 (some 75) 3 (pt bu ou) (.int .i64 t), .alt 25 (some 76) (.bool (m25.fo != t)) (.bool false), .val 26 (some 77) (.bool false), .val 27 (some 78) (.bool false)] ⟨fun W h => ld_any _ _ Try.underlying3 rfl (h.at 0 rfl) 0 rfl, fun W h => HIu.out _, fun W h => ld_cell _ _ Try.underlying3 rfl (HCu.out _ (HLu.out.below h.b HHu.out) 0 _ rfl), congrArg Value.bool ((by rw [HFO.out, HT.out]; exact bne_self_eq_false _)), trivial⟩ hS ?_
                refine dD ?_
                try simp only [puts, Tk.put, Act.put, List.setIfInBounds_toArray, List.set_cons_zero, List.set_cons_succ]
                clear hS
                go_upto_region 19 with fail
                refine wp_region_fromM (fun W => Sep w [] [.blk N27 27 (mlc m25), .own mlc 27 2 (v25m) (ms25), .ows (zsM ms25), .ows (zsM ([m25])), .own mlc 27 2 (.slice pu5 ms.length cu5) (ms), .ows (zsM ms)] W) hM ?_
                clear hM
                rintro Y32 hM
                refine tF 2 [.val 0 (some 79) (v25m), .val 1 (some 5) (v25m)] trivial ?_
                refine dF ?_
                try simp only [puts, Tk.put, Act.put, List.setIfInBounds_toArray, List.set_cons_zero, List.set_cons_succ]
                go_upto_region 15 with fail
                refine wp_region_fromM (fun W => Sep w [] [.blk N27 27 (mlc m25), .own mlc 27 2 (v25m) (ms25), .ows (zsM ms25), .ows (zsM ([m25])), .own mlc 27 2 (.slice pu5 ms.length cu5) (ms), .ows (zsM ms)] W) hM ?_
                clear hM
                rintro Y33 hM
                refine tF 3 [.val 0 (some 43) (.int .i64 (j : Int)), .alt 1 (some 44) (.int .i64 (IntKind.i64.wrap ((j : Int) + 1))) (.int .i64 ((j + 1 : Nat) : Int)), .val 2 (some 8) (.int .i64 ((j + 1 : Nat) : Int))] ⟨congrArg (Value.int .i64) ((IntWalk.i64_in _ (by have := HLENz.out; have := HJ.out; omega)).trans (by omega)), trivial⟩ ?_
                refine dF ?_
                try simp only [puts, Tk.put, Act.put, List.setIfInBounds_toArray, List.set_cons_zero, List.set_cons_succ]
                have HM1 : Hid (Sep w [] [.own mlc 27 2 (v25m) (ms25), .ows (zsM ms25)] Y33) := Lib.hid (hM.pick [1, 2] (by decide) rfl)
                clear hM
                go_wp2_with fail
                go_roundw
                case rel => exact ⟨j + 1, _, HJ.out, rfl, drop_rest HE.out HE25.out, HM1.out⟩
                case measure => have := HJ.out; simp [intOf]; omega
            · refine cvD (.tmp 60) (some 61) (.slice z.a z.l.length z.c) (.string (txB z.l)) (cvT (((HKZ.out.get HXz.out).below hM.b (Nat.le_refl _)).mono (Nat.le_refl _) hM.size)) hS ?_
              refine oD 5 17 (cvD (.tmp 55) (some 56) (.slice m25.a m25.l.length m25.c) (.string (txB m25.l)) (cvT ((hM.oka 3 rfl).holdW.ml (k := 0) (x := m25) rfl)) hS ?_)
              refine tD 9 [.alt 11 (some 62) (.bool (!((txB m25.l).toList == (txB z.l).toList))) (.bool false), .val 12 (some 63) (.bool false), .val 13 (some 64) (.bool false), .val 14 (some 65) (.int .i64 (j : Int)), .val 15 (some 66) (.slice pu ts.length cu), .val 16 (some 67) (.int .i64 (ts.length : Int)), .val 17 (some 68) (.bool (decide ((j : Int) < (ts.length : Int)))), .val 18 (some 69) (.bool (decide ((j : Int) < (ts.length : Int))))] ⟨congrArg Value.bool (neTxN HLX.out), trivial⟩ hS ?_
              cases hb4 : decide ((j : Int) < (ts.length : Int)) with
              | false =>
                have Hhb4 := Lib.hid hb4
                clear hb4
                have HT := Lib.hid (show (ts[j]?).getD 0 = 0 from by rw [List.getElem?_eq_none (by have h := of_decide_eq_false Hhb4.out; omega)]; rfl)
                refine tD 0 [.skip 19 (some 70), .skip 20 (some 71), .skip 21 (some 72), .skip 22 (some 73), .skip 23 (some 74), .skip 24 (some 75), .skip 25 (some 76), .val 26 (some 77) (.bool false), .val 27 (some 78) (.bool false)] trivial hS ?_
                refine dD ?_
                try simp only [puts, Tk.put, Act.put, List.setIfInBounds_toArray, List.set_cons_zero, List.set_cons_succ]
                clear hS
                go_upto_region 19 with fail
                refine wp_region_fromM (fun W => Sep w [] [.blk N27 27 (mlc m25), .own mlc 27 2 (v25m) (ms25), .ows (zsM ms25), .ows (zsM ([m25])), .own mlc 27 2 (.slice pu5 ms.length cu5) (ms), .ows (zsM ms)] W) hM ?_
                clear hM
                rintro Y34 hM
                refine tF 2 [.val 0 (some 79) (v25m), .val 1 (some 5) (v25m)] trivial ?_
                refine dF ?_
                try simp only [puts, Tk.put, Act.put, List.setIfInBounds_toArray, List.set_cons_zero, List.set_cons_succ]
                go_upto_region 15 with fail
                refine wp_region_fromM (fun W => Sep w [] [.blk N27 27 (mlc m25), .own mlc 27 2 (v25m) (ms25), .ows (zsM ms25), .ows (zsM ([m25])), .own mlc 27 2 (.slice pu5 ms.length cu5) (ms), .ows (zsM ms)] W) hM ?_
                clear hM
                rintro Y35 hM
                refine tF 3 [.val 0 (some 43) (.int .i64 (j : Int)), .alt 1 (some 44) (.int .i64 (IntKind.i64.wrap ((j : Int) + 1))) (.int .i64 ((j + 1 : Nat) : Int)), .val 2 (some 8) (.int .i64 ((j + 1 : Nat) : Int))] ⟨congrArg (Value.int .i64) ((IntWalk.i64_in _ (by have := HLENz.out; have := HJ.out; omega)).trans (by omega)), trivial⟩ ?_
                refine dF ?_
                try simp only [puts, Tk.put, Act.put, List.setIfInBounds_toArray, List.set_cons_zero, List.set_cons_succ]
                have HM1 : Hid (Sep w [] [.own mlc 27 2 (v25m) (ms25), .ows (zsM ms25)] Y35) := Lib.hid (hM.pick [1, 2] (by decide) rfl)
                clear hM
                go_wp2_with fail
                go_roundw
                case rel => exact ⟨j + 1, _, HJ.out, rfl, drop_rest HE.out HE25.out, HM1.out⟩
                case measure => have := HJ.out; simp [intOf]; omega
              | true =>
                have Hhb4 := Lib.hid hb4
                clear hb4
                have hlt2 : j < ts.length := by have h := of_decide_eq_true Hhb4.out; omega
                obtain ⟨t, hx⟩ : ∃ x, ts[j]? = some x := ⟨_, List.getElem?_eq_getElem hlt2⟩
                obtain ⟨bu, ou, _, _, hit, hct⟩ := HEu.out j t hx
                have HXu := Lib.hid hx
                have HIu := Lib.hid hit
                have HCu := Lib.hid hct
                clear hx hit hct
                clear hlt2
                have HT := Lib.hid (show (ts[j]?).getD 0 = t from by rw [HXu.out]; rfl)
                refine tD 0 [.val 19 (some 70) (pt N27 0), .load 20 (some 71) 3 (pt N27 0) (.int .i64 m25.fo), .val 21 (some 72) (.slice pu ts.length cu), .val 22 (some 73) (.int .i64 (j : Int)), .idx 23 (some 74) 37 (.slice pu ts.length cu) (.int .i64 (j : Int)) (pt bu ou), .load 24 (some 75) 3 (pt bu ou) (.int .i64 t), .alt 25 (some 76) (.bool (m25.fo != t)) (.bool false), .val 26 (some 77) (.bool false), .val 27 (some 78) (.bool false)] ⟨fun W h => ld_any _ _ Try.underlying3 rfl (h.at 0 rfl) 0 rfl, fun W h => HIu.out _, fun W h => ld_cell _ _ Try.underlying3 rfl (HCu.out _ (HLu.out.below h.b HHu.out) 0 _ rfl), congrArg Value.bool ((by rw [HFO.out, HT.out]; exact bne_self_eq_false _)), trivial⟩ hS ?_
                refine dD ?_
                try simp only [puts, Tk.put, Act.put, List.setIfInBounds_toArray, List.set_cons_zero, List.set_cons_succ]
                clear hS
                go_upto_region 19 with fail
                refine wp_region_fromM (fun W => Sep w [] [.blk N27 27 (mlc m25), .own mlc 27 2 (v25m) (ms25), .ows (zsM ms25), .ows (zsM ([m25])), .own mlc 27 2 (.slice pu5 ms.length cu5) (ms), .ows (zsM ms)] W) hM ?_
                clear hM
                rintro Y36 hM
                refine tF 2 [.val 0 (some 79) (v25m), .val 1 (some 5) (v25m)] trivial ?_
                refine dF ?_
                try simp only [puts, Tk.put, Act.put, List.setIfInBounds_toArray, List.set_cons_zero, List.set_cons_succ]
                go_upto_region 15 with fail
                refine wp_region_fromM (fun W => Sep w [] [.blk N27 27 (mlc m25), .own mlc 27 2 (v25m) (ms25), .ows (zsM ms25), .ows (zsM ([m25])), .own mlc 27 2 (.slice pu5 ms.length cu5) (ms), .ows (zsM ms)] W) hM ?_
                clear hM
                rintro Y37 hM
                refine tF 3 [.val 0 (some 43) (.int .i64 (j : Int)), .alt 1 (some 44) (.int .i64 (IntKind.i64.wrap ((j : Int) + 1))) (.int .i64 ((j + 1 : Nat) : Int)), .val 2 (some 8) (.int .i64 ((j + 1 : Nat) : Int))] ⟨congrArg (Value.int .i64) ((IntWalk.i64_in _ (by have := HLENz.out; have := HJ.out; omega)).trans (by omega)), trivial⟩ ?_
                refine dF ?_
                try simp only [puts, Tk.put, Act.put, List.setIfInBounds_toArray, List.set_cons_zero, List.set_cons_succ]
                have HM1 : Hid (Sep w [] [.own mlc 27 2 (v25m) (ms25), .ows (zsM ms25)] Y37) := Lib.hid (hM.pick [1, 2] (by decide) rfl)
                clear hM
                go_wp2_with fail
                go_roundw
                case rel => exact ⟨j + 1, _, HJ.out, rfl, drop_rest HE.out HE25.out, HM1.out⟩
                case measure => have := HJ.out; simp [intOf]; omega
          case neg =>
            obtain rfl : j = zs.length := by omega
            go_upto_region 14 with fail
            refine wp_region_fromM (fun W => Sep w [] [.own mlc 27 2 (.slice pu5 ms.length cu5) (ms), .ows (zsM ms)] W) hM ?_
            clear hM
            rintro Y38 hM
            refine tF 4 [.val 0 (some 39) (.int .i64 (zs.length : Int)), .val 1 (some 40) (.slice pz zs.length cz), .val 2 (some 41) (.int .i64 (zs.length : Int)), .alt 3 (some 42) (.bool (decide ((zs.length : Int) < (zs.length : Int)))) (.bool false)] ⟨congrArg Value.bool (decide_eq_false (by omega)), trivial⟩ ?_
            refine dF ?_
            try simp only [puts, Tk.put, Act.put, List.setIfInBounds_toArray, List.set_cons_zero, List.set_cons_succ]
            go_upto_region 20 with fail
            refine wp_region_fromM (fun W => Sep w [] [.own mlc 27 2 (.slice pu5 ms.length cu5) (ms), .ows (zsM ms)] W) hM ?_
            clear hM
            rintro Y39 hM
            refine tF 4 [.val 0 (some 80) (.slice pu5 ms.length cu5), .val 1 (some 81) (.int .i64 (ms.length : Int)), .alt 2 (some 82) (.bool ((ms.length : Int) == 0)) (.bool true), .val 3 (some 4) (.bool true)] ⟨congrArg Value.bool ((by have h := drop_few HE.out; rw [Nat.sub_self] at h; rw [h]; rfl)), trivial⟩ ?_
            refine dF ?_
            try simp only [puts, Tk.put, Act.put, List.setIfInBounds_toArray, List.set_cons_zero, List.set_cons_succ]
            go_wp2_with fail
            go_ret
            exact ⟨rfl, hM.b⟩
  | true =>
    have Hhb1 := Lib.hid hb1
    clear hb1
    go_upto_region 4 with fail
    refine wp_region_fromM (fun W => Sep w [] [] W) hM ?_
    clear hM
    rintro Y40 hM
    refine tF 1 [.val 0 (some 4) (.bool true)] trivial ?_
    refine dF ?_
    try simp only [puts, Tk.put, Act.put, List.setIfInBounds_toArray, List.set_cons_zero, List.set_cons_succ]
    go_wp2_with fail
    go_ret
    exact ⟨rfl, hM.b⟩
end Go.Proofs.Ytedoogoelolbdaa
