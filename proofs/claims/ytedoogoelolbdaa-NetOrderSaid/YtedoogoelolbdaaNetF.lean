/-
  Mail on its way: the program's functions.
-/
import Derived.Test.YtedoogoelolbdaaNetM
import Derived.Test.YtedoogoelolbdaaBytesClone
namespace Go.Proofs.Ytedoogoelolbdaa
open Go.RowKit Go.Shelf
attribute [local irreducible] wpFrom wpAnyH StepH

set_option maxRecDepth 100000 in
set_option maxHeartbeats 4000000 in
theorem cUpto_any (j : Nat) (x : Ml) (w : World) : Calls Try.prog 19 #[.int .i64 (j : Int), mlv x] w fun e W' => e = .returned (.bool (decide ((j : Int) < 512))) ∧ Below w.heap.size w W' := by
  have hmx : Try.prog.follows .mixedOrders = true := by kernel_rfl
  have hM := Sep.start w
  go_enter Try.func19, Try.ntmps19
  go_upto_region 0 with fail
  refine wp_region_fromM (fun W => Sep w [] [] W) hM ?_
  clear hM
  rintro Y1 hM
  refine rF (some 3) (pt Y1.heap.size 0) (Y1.alloc (.cells (mlc x).toArray 27)) ?_
  replace hM := hM.alloc 27 (mlc x)
  generalize World.alloc _ _ = Y2 at *
  generalize hNe : Y1.heap.size = N2 at *
  clear hNe
  refine tF 2 [.val 1 (some 4) (.bool false)] trivial ?_
  refine dF ?_
  try simp only [puts, Tk.put, Act.put, List.setIfInBounds_toArray, List.set_cons_zero, List.set_cons_succ]
  go_upto_region 1 with fail
  refine wp_region_fromM (fun W => Sep w [] [.blk N2 27 (mlc x)] W) hM ?_
  clear hM
  rintro Y3 hM
  refine tF 3 [.val 0 (some 5) (.int .i64 (j : Int)), .val 1 (some 6) (.bool (decide ((j : Int) < 512))), .val 2 (some 4) (.bool (decide ((j : Int) < 512)))] trivial ?_
  refine dF ?_
  try simp only [puts, Tk.put, Act.put, List.setIfInBounds_toArray, List.set_cons_zero, List.set_cons_succ]
  go_wp2_with fail
  go_ret
  exact ⟨rfl, hM.b⟩
set_option maxRecDepth 100000 in
set_option maxHeartbeats 4000000 in
theorem cAt_any {K : Nat} {n : Int} (j : Nat) (x : Ml) (w : World) (hk : Blk w K 3 [.int .i64 n]) : Calls Try.prog 16 #[.int .i64 (j : Int), mlv x, .pointer (some ⟨K, 0, none⟩)] w fun e W' => e = .returned (.bool ((j : Int) == n)) ∧ Below w.heap.size w W' := by
  have hmx : Try.prog.follows .mixedOrders = true := by kernel_rfl
  have HK := Lib.hid hk
  clear hk
  have hM := Sep.start w
  go_enter Try.func16, Try.ntmps16
  go_upto_region 0 with fail
  refine wp_region_fromM (fun W => Sep w [] [] W) hM ?_
  clear hM
  rintro Y1 hM
  refine rF (some 4) (pt Y1.heap.size 0) (Y1.alloc (.cells (mlc x).toArray 27)) ?_
  replace hM := hM.alloc 27 (mlc x)
  generalize World.alloc _ _ = Y2 at *
  generalize hNe : Y1.heap.size = N2 at *
  clear hNe
  refine tF 2 [.val 1 (some 5) (.bool false)] trivial ?_
  refine dF ?_
  try simp only [puts, Tk.put, Act.put, List.setIfInBounds_toArray, List.set_cons_zero, List.set_cons_succ]
  go_upto_region 1 with fail
  refine wp_region_fromM (fun W => Sep w [] [.blk N2 27 (mlc x)] W) hM ?_
  clear hM
  rintro Y3 hM
  refine tF 4 [.val 0 (some 6) (.int .i64 (j : Int)), .load 1 (some 7) 3 (pt K 0) (.int .i64 n), .val 2 (some 8) (.bool ((j : Int) == n)), .val 3 (some 5) (.bool ((j : Int) == n))] ⟨ld_any _ _ Try.underlying3 rfl (HK.out.below hM.b HK.out.lt) 0 rfl, trivial⟩ ?_
  refine dF ?_
  try simp only [puts, Tk.put, Act.put, List.setIfInBounds_toArray, List.set_cons_zero, List.set_cons_succ]
  go_wp2_with fail
  go_ret
  exact ⟨rfl, hM.b⟩
set_option maxRecDepth 100000 in
set_option maxHeartbeats 4000000 in
theorem cBut_any {K : Nat} {n : Int} (j : Nat) (x : Ml) (w : World) (hk : Blk w K 3 [.int .i64 n]) : Calls Try.prog 17 #[.int .i64 (j : Int), mlv x, .pointer (some ⟨K, 0, none⟩)] w fun e W' => e = .returned (.bool ((j : Int) != n)) ∧ Below w.heap.size w W' := by
  have hmx : Try.prog.follows .mixedOrders = true := by kernel_rfl
  have HK := Lib.hid hk
  clear hk
  have hM := Sep.start w
  go_enter Try.func17, Try.ntmps17
  go_upto_region 0 with fail
  refine wp_region_fromM (fun W => Sep w [] [] W) hM ?_
  clear hM
  rintro Y1 hM
  refine rF (some 4) (pt Y1.heap.size 0) (Y1.alloc (.cells (mlc x).toArray 27)) ?_
  replace hM := hM.alloc 27 (mlc x)
  generalize World.alloc _ _ = Y2 at *
  generalize hNe : Y1.heap.size = N2 at *
  clear hNe
  refine tF 2 [.val 1 (some 5) (.bool false)] trivial ?_
  refine dF ?_
  try simp only [puts, Tk.put, Act.put, List.setIfInBounds_toArray, List.set_cons_zero, List.set_cons_succ]
  go_upto_region 1 with fail
  refine wp_region_fromM (fun W => Sep w [] [.blk N2 27 (mlc x)] W) hM ?_
  clear hM
  rintro Y3 hM
  refine tF 4 [.val 0 (some 6) (.int .i64 (j : Int)), .load 1 (some 7) 3 (pt K 0) (.int .i64 n), .val 2 (some 8) (.bool ((j : Int) != n)), .val 3 (some 5) (.bool ((j : Int) != n))] ⟨ld_any _ _ Try.underlying3 rfl (HK.out.below hM.b HK.out.lt) 0 rfl, trivial⟩ ?_
  refine dF ?_
  try simp only [puts, Tk.put, Act.put, List.setIfInBounds_toArray, List.set_cons_zero, List.set_cons_succ]
  go_wp2_with fail
  go_ret
  exact ⟨rfl, hM.b⟩
set_option maxRecDepth 100000 in
set_option maxHeartbeats 4000000 in
theorem cFor_any {K : Nat} {n : Int} (j : Nat) (x : Ml) (w : World) (hk : Blk w K 3 [.int .i64 n]) : Calls Try.prog 20 #[.int .i64 (j : Int), mlv x, .pointer (some ⟨K, 0, none⟩)] w fun e W' => e = .returned (.bool (x.fo == n)) ∧ Below w.heap.size w W' := by
  have hmx : Try.prog.follows .mixedOrders = true := by kernel_rfl
  have HK := Lib.hid hk
  clear hk
  have hM := Sep.start w
  go_enter Try.func20, Try.ntmps20
  go_upto_region 0 with fail
  refine wp_region_fromM (fun W => Sep w [] [] W) hM ?_
  clear hM
  rintro Y1 hM
  refine rF (some 4) (pt Y1.heap.size 0) (Y1.alloc (.cells (mlc x).toArray 27)) ?_
  replace hM := hM.alloc 27 (mlc x)
  generalize World.alloc _ _ = Y2 at *
  generalize hNe : Y1.heap.size = N2 at *
  clear hNe
  refine tF 2 [.val 1 (some 5) (.bool false)] trivial ?_
  refine dF ?_
  try simp only [puts, Tk.put, Act.put, List.setIfInBounds_toArray, List.set_cons_zero, List.set_cons_succ]
  go_upto_region 1 with fail
  refine wp_region_fromM (fun W => Sep w [] [.blk N2 27 (mlc x)] W) hM ?_
  clear hM
  rintro Y3 hM
  refine tF 5 [.val 0 (some 6) (pt N2 0), .load 1 (some 7) 3 (pt N2 0) (.int .i64 x.fo), .load 2 (some 8) 3 (pt K 0) (.int .i64 n), .val 3 (some 9) (.bool (x.fo == n)), .val 4 (some 5) (.bool (x.fo == n))] ⟨ld_any _ _ Try.underlying3 rfl (hM.at 0 rfl) 0 rfl, ld_any _ _ Try.underlying3 rfl (HK.out.below hM.b HK.out.lt) 0 rfl, trivial⟩ ?_
  refine dF ?_
  try simp only [puts, Tk.put, Act.put, List.setIfInBounds_toArray, List.set_cons_zero, List.set_cons_succ]
  go_wp2_with fail
  go_ret
  exact ⟨rfl, hM.b⟩
set_option maxRecDepth 100000 in
set_option maxHeartbeats 4000000 in
theorem whUpto_any (ls : List Ml) (v : Value) (w : World) {lo hi : Nat} (hl : RSl mlc lo hi w v ls) (hhi : hi ≤ w.heap.size) (hr : ls.length ≤ 1000) (hkk : Holds w.heap.size w (zsM ls)) (hbp : BP (ls.map plM)) : Calls Try.prog 15 #[.func (.func 19) #[] #[], v] w (MlR (selG (fun j _ => decide ((j : Int) < 512)) 0 (ls.map plM)) w) := by
  have hmx : Try.prog.follows .mixedOrders = true := by kernel_rfl
  have HEl := Lib.hid (fun k x (hx : ls[k]? = some x) => hl.elem mlc_len hx Try.underlying22 (fun W => by kernel_rfl))
  obtain ⟨pl, cl, rfl⟩ := hl.slice
  have HLl := Lib.hid hl
  have HHl := Lib.hid hhi
  have HLENl := Lib.hid (show ls.length ≤ 9223372036854775807 from by have h := hl.len; unfold maxLen at h; omega)
  clear hl hhi
  have HR := Lib.hid hr
  have HKK := Lib.hid hkk
  have HBP := Lib.hid hbp
  clear hr hkk hbp
  have hM := Sep.start w
  go_enter Try.func15, Try.ntmps15
  go_upto_region 0 with fail
  refine wp_region_fromM (fun W => Sep w [] [] W) hM ?_
  clear hM
  rintro Y1 hM
  refine tF 1 [.val 0 (some 4) (.slice none 0 0)] trivial ?_
  refine dF ?_
  try simp only [puts, Tk.put, Act.put, List.setIfInBounds_toArray, List.set_cons_zero, List.set_cons_succ]
  go_upto_region 1 with fail
  refine wp_region_fromM (fun W => Sep w [] [] W) hM ?_
  clear hM
  rintro Y2 hM
  refine tF 1 [.val 0 (some 5) (.slice none 0 0)] trivial ?_
  refine dF ?_
  try simp only [puts, Tk.put, Act.put, List.setIfInBounds_toArray, List.set_cons_zero, List.set_cons_succ]
  go_upto_region 2 with fail
  refine wp_region_fromM (fun W => Sep w [] [] W) hM ?_
  clear hM
  rintro Y3 hM
  refine tF 3 [.val 0 (some 8) (.slice pl ls.length cl), .val 1 (some 9) (.int .i64 (ls.length : Int)), .val 2 (some 10) (.int .i64 0)] trivial ?_
  refine dF ?_
  try simp only [puts, Tk.put, Act.put, List.setIfInBounds_toArray, List.set_cons_zero, List.set_cons_succ]
  replace hM := (hM.ows0).nil mlc 27 2
  go_wp2_with fail
  go_loopw [10, 5] (fun i u5 wr => ∃ (j : Nat) (ms : List Ml), j ≤ ls.length ∧ i = .int .i64 (j : Int) ∧ ms.map plM = selG (fun j _ => decide ((j : Int) < 512)) 0 ((ls.take j).map plM) ∧ Sep w [] [.own mlc 27 2 (u5) (ms), .ows (zsM ms)] wr) (fun i u5 _ => ls.length - (intOf i).toNat)
  case atStart => exact ⟨0, [], Nat.zero_le _, rfl, rfl, hM⟩
  clear hM
  case round =>
    obtain ⟨j, ms, hj, rfl, he, hM⟩ := hrel
    have HE := Lib.hid he
    clear he
    by_cases hlt : j < ls.length
    case pos =>
      obtain ⟨x, hx⟩ : ∃ x, ls[j]? = some x := ⟨_, List.getElem?_eq_getElem hlt⟩
      obtain ⟨bl, ol, _, _, hit, hct⟩ := HEl.out j x hx
      have HXl := Lib.hid hx
      have HIl := Lib.hid hit
      have HCl := Lib.hid hct
      clear hx hit hct
      have HJ := Lib.hid hlt
      have hlt' : (j : Int) < (ls.length : Int) := by omega
      clear hlt
      go_upto_region 3 with fail
      refine wp_region_fromM (fun W => Sep w [] [.own mlc 27 2 (u5) (ms), .ows (zsM ms)] W) hM ?_
      clear hM
      rintro Y4 hM
      refine tF 1 [.alt 0 (some 11) (.bool (decide ((j : Int) < (ls.length : Int)))) (.bool true)] ⟨congrArg Value.bool (decide_eq_true hlt'), trivial⟩ ?_
      refine dF ?_
      try simp only [puts, Tk.put, Act.put, List.setIfInBounds_toArray, List.set_cons_zero, List.set_cons_succ]
      go_upto_region 4 with fail
      refine wp_region_fromM (fun W => Sep w [] [.own mlc 27 2 (u5) (ms), .ows (zsM ms)] W) hM ?_
      clear hM
      rintro Y5 hM
      refine tF 3 [.val 0 (some 12) (.int .i64 (j : Int)), .idx 1 (some 13) 22 (.slice pl ls.length cl) (.int .i64 (j : Int)) (pt bl ol), .load 2 (some 14) 27 (pt bl ol) (mlv x)] ⟨HIl.out _, ld_cells (mlc x) _ _ Try.underlying27 rfl (by kernel_rfl) (HCl.out _ (HLl.out.below hM.b HHl.out)), trivial⟩ ?_
      refine rF (some 7) (pt Y5.heap.size 0) (Y5.alloc (.cells (mlc noMl).toArray 27)) ?_
      replace hM := hM.alloc 27 (mlc noMl)
      generalize World.alloc _ _ = Y6 at *
      generalize hNe : Y5.heap.size = N6 at *
      clear hNe
      refine tF 5 [.val 4 (some 6) (.int .i64 (j : Int))] trivial ?_
      have hst := sto_part (mlc x) (hM.at 0 rfl) 0 27 (mlv x) (mlc x) rfl (by kernel_rfl) (Nat.le_of_ble_eq_true rfl) rfl rfl
      refine sF 27 (pt N6 0) (mlv x) (hst) ?_
      clear hst
      replace hM := hM.set 0 (cs' := mlc x) rfl rfl
      generalize World.setRow _ _ _ = Y7 at *
      refine dF ?_
      try simp only [puts, Tk.put, Act.put, List.setIfInBounds_toArray, List.set_cons_zero, List.set_cons_succ]
      go_upto_region 5 with fail
      refine wp_region_fromM (fun W => Sep w [] [.blk N6 27 (mlc x), .own mlc 27 2 (u5) (ms), .ows (zsM ms)] W) hM ?_
      clear hM
      rintro Y8 hM
      refine tF 3 [.val 0 (some 15) (.func (.func 19) #[] #[]), .val 1 (some 16) (.int .i64 (j : Int)), .load 2 (some 17) 27 (pt N6 0) (mlv x)] ⟨load_part (hM.at 0 rfl) 0 (mlc x) rfl _ _ Try.underlying27 rfl (by kernel_rfl), trivial⟩ ?_
      refine cF (some 18) 19 #[.int .i64 (j : Int), mlv x] ((cUpto_any j x _).mono ?_)
      rintro e Y9 ⟨rfl, hb⟩
      replace hM := hM.below hb
      clear hb
      refine dF ?_
      try simp only [puts, Tk.put, Act.put, List.setIfInBounds_toArray, List.set_cons_zero, List.set_cons_succ]
      cases hb1 : decide ((j : Int) < 512) with
      | false =>
        have Hhb1 := Lib.hid hb1
        clear hb1
        go_upto_region 7 with fail
        refine wp_region_fromM (fun W => Sep w [] [.blk N6 27 (mlc x), .own mlc 27 2 (u5) (ms), .ows (zsM ms)] W) hM ?_
        clear hM
        rintro Y10 hM
        refine tF 2 [.alt 0 (some 28) (.int .i64 (IntKind.i64.wrap ((j : Int) + 1))) (.int .i64 ((j + 1 : Nat) : Int)), .val 1 (some 10) (.int .i64 ((j + 1 : Nat) : Int))] ⟨congrArg (Value.int .i64) ((IntWalk.i64_in _ (by have := HLENl.out; have := HJ.out; omega)).trans (by omega)), trivial⟩ ?_
        refine dF ?_
        try simp only [puts, Tk.put, Act.put, List.setIfInBounds_toArray, List.set_cons_zero, List.set_cons_succ]
        have HM1 : Hid (Sep w [] [.own mlc 27 2 (u5) (ms), .ows (zsM ms)] Y10) := Lib.hid (hM.pick [1, 2] (by decide) rfl)
        clear hM
        go_wp2_with fail
        go_roundw
        case rel => exact ⟨j + 1, _, HJ.out, rfl, sel_no (p := (fun j _ => decide ((j : Int) < 512))) HXl.out HE.out Hhb1.out, HM1.out⟩
        case measure => have := HJ.out; simp [intOf]; omega
      | true =>
        have Hhb1 := Lib.hid hb1
        clear hb1
        go_upto_region 6 with fail
        refine wp_region_M (fun W => Sep w [] [.blk N6 27 (mlc x), .ows (zsM ms)] W) (fun W => Sep w [] [.blk N6 27 (mlc x), .own mlc 27 2 (u5) (ms), .ows (zsM ms)] W) hmx hM.drew ?_
        clear hM
        rintro Y11 hM
        have hS := hM.sub (.cons_cons _ (.cons _ (.cons_cons _ .slnil)))
        refine tD 5 [.val 0 (some 19) (u5), .val 1 (some 20) (pt N6 0), .load 2 (some 21) 3 (pt N6 0) (.int .i64 x.fo), .val 3 (some 22) (pt N6 1), .load 4 (some 23) 25 (pt N6 1) (.slice x.a x.l.length x.c)] ⟨fun W h => ld_any _ _ Try.underlying3 rfl (h.at 0 rfl) 0 rfl, fun W h => ld_any _ _ Try.underlying25 rfl (h.at 0 rfl) 1 rfl, trivial⟩ hS ?_
        refine oD 5 4 (cD (some 24) 21 #[.slice x.a x.l.length x.c] ((bytesClone_any x.l _ _ (by have h := HBP.out.ml HXl.out; omega) (((HKK.out.ml HXl.out).below hM.b (Nat.le_refl _)).mono (Nat.le_refl _) hM.size) (Nat.le_refl _)).mono ?_))
        rintro e Y12 ⟨v12o, rfl, hO, hb⟩
        refine And.intro (hS.below hb) ?_
        replace hS := hS.below hb
        rw [← flat_oc] at hO
        replace hM := hM.row (f := ocM) hO hb
        clear hO hb
        obtain ⟨a12o, c12o, rfl⟩ := (hM.oka 0 rfl).slice ocM_len
        refine tD 3 [.val 6 (some 25) (mlv (Ml.mk x.fo a12o c12o x.l))] trivial hS ?_
        refine oD 7 2 (rD (some 26) (.slice (some ⟨Y12.heap.size, 0, none⟩) 1 1) (Y12.alloc (.cells (mlc (Ml.mk x.fo a12o c12o x.l)).toArray 27)) (hS.other _) ?_)
        replace hS := hS.other (.cells (mlc (Ml.mk x.fo a12o c12o x.l)).toArray 27)
        replace hM := hM.alloc 27 (mlc (Ml.mk x.fo a12o c12o x.l))
        generalize World.alloc _ _ = Y14 at *
        generalize hNe : Y12.heap.size = N14 at *
        clear hNe
        obtain ⟨v15, Y15, hrun, ht⟩ := own_app1 infoMl rfl (by decide) Try.underlying22 mlc_len mlc_one (hM.oka 3 rfl) (Ml.mk x.fo a12o c12o x.l) (hM.at 0 rfl) (by decide) (by have h1 := HR.out; have h2 := sel_few HE.out; have h3 := HJ.out; omega) 22
        have hM1 := hM.turn 3 rfl ht rfl
        clear ht
        refine oD 8 1 (stepH_append (d := some 27) (t := 22) (t' := 22) (ty := 22) (v := u5) (x := .slice (some ⟨N14, 0, none⟩) 1 1) (by kernel_rfl) hrun (hM1.sub (.cons _ (.cons _ (.cons_cons _ (.cons _ (.cons_cons _ .slnil)))))) ?_)
        replace hS := hM1.sub (.cons _ (.cons _ (.cons_cons _ (.cons _ (.cons_cons _ .slnil)))))
        replace hM := hM1
        clear hM1 hrun
        refine tD 0 [.val 9 (some 5) (v15)] trivial hS ?_
        refine dD ?_
        try simp only [puts, Tk.put, Act.put, List.setIfInBounds_toArray, List.set_cons_zero, List.set_cons_succ]
        clear hS
        go_upto_region 7 with fail
        refine wp_region_fromM (fun W => Sep w [] [.blk N14 27 (mlc (Ml.mk x.fo a12o c12o x.l)), .own ocM 5 1 (.slice a12o x.l.length c12o) (x.l), .blk N6 27 (mlc x), .own mlc 27 2 (v15) (ms ++ [Ml.mk x.fo a12o c12o x.l]), .ows (zsM ms)] W) hM ?_
        clear hM
        rintro Y16 hM
        refine tF 2 [.alt 0 (some 28) (.int .i64 (IntKind.i64.wrap ((j : Int) + 1))) (.int .i64 ((j + 1 : Nat) : Int)), .val 1 (some 10) (.int .i64 ((j + 1 : Nat) : Int))] ⟨congrArg (Value.int .i64) ((IntWalk.i64_in _ (by have := HLENl.out; have := HJ.out; omega)).trans (by omega)), trivial⟩ ?_
        refine dF ?_
        try simp only [puts, Tk.put, Act.put, List.setIfInBounds_toArray, List.set_cons_zero, List.set_cons_succ]
        have hM1 := Sep.mls1 (Ml.mk x.fo a12o c12o x.l) rfl rfl (l := [.own mlc 27 2 (v15) (ms ++ [Ml.mk x.fo a12o c12o x.l])]) (hM.pick [1, 4, 3] (by decide) rfl)
        have HM1 : Hid (Sep w [] [.own mlc 27 2 (v15) (ms ++ [Ml.mk x.fo a12o c12o x.l]), .ows (zsM (ms ++ [Ml.mk x.fo a12o c12o x.l]))] Y16) := Lib.hid (hM1.pick [1, 0] (by decide) rfl)
        clear hM hM1
        go_wp2_with fail
        go_roundw
        case rel => exact ⟨j + 1, _, HJ.out, rfl, sel_yes (y := Ml.mk x.fo a12o c12o x.l) (p := (fun j _ => decide ((j : Int) < 512))) HXl.out HE.out Hhb1.out rfl, HM1.out⟩
        case measure => have := HJ.out; simp [intOf]; omega
    case neg =>
      obtain rfl : j = ls.length := by omega
      go_upto_region 3 with fail
      refine wp_region_fromM (fun W => Sep w [] [.own mlc 27 2 (u5) (ms), .ows (zsM ms)] W) hM ?_
      clear hM
      rintro Y17 hM
      refine tF 1 [.alt 0 (some 11) (.bool (decide ((ls.length : Int) < (ls.length : Int)))) (.bool false)] ⟨congrArg Value.bool (decide_eq_false (by omega)), trivial⟩ ?_
      refine dF ?_
      try simp only [puts, Tk.put, Act.put, List.setIfInBounds_toArray, List.set_cons_zero, List.set_cons_succ]
      go_upto_region 8 with fail
      refine wp_region_fromM (fun W => Sep w [] [.own mlc 27 2 (u5) (ms), .ows (zsM ms)] W) hM ?_
      clear hM
      rintro Y18 hM
      refine tF 2 [.val 0 (some 29) (u5), .val 1 (some 4) (u5)] trivial ?_
      refine dF ?_
      try simp only [puts, Tk.put, Act.put, List.setIfInBounds_toArray, List.set_cons_zero, List.set_cons_succ]
      have he := HE.out
      rw [List.take_length] at he
      go_wp2_with fail
      go_ret
      exact ⟨_, _, rfl, he, hM⟩
set_option maxRecDepth 100000 in
set_option maxHeartbeats 4000000 in
theorem whAt_any {K : Nat} {n : Int} (ls : List Ml) (v : Value) (w : World) {lo hi : Nat} (hl : RSl mlc lo hi w v ls) (hhi : hi ≤ w.heap.size) (hr : ls.length ≤ 1000) (hkk : Holds w.heap.size w (zsM ls)) (hbp : BP (ls.map plM)) (hk : Blk w K 3 [.int .i64 n]) : Calls Try.prog 15 #[.func (.func 16) #[] #[.pointer (some ⟨K, 0, none⟩)], v] w (MlR (selG (fun j _ => ((j : Int) == n)) 0 (ls.map plM)) w) := by
  have hmx : Try.prog.follows .mixedOrders = true := by kernel_rfl
  have HEl := Lib.hid (fun k x (hx : ls[k]? = some x) => hl.elem mlc_len hx Try.underlying22 (fun W => by kernel_rfl))
  obtain ⟨pl, cl, rfl⟩ := hl.slice
  have HLl := Lib.hid hl
  have HHl := Lib.hid hhi
  have HLENl := Lib.hid (show ls.length ≤ 9223372036854775807 from by have h := hl.len; unfold maxLen at h; omega)
  clear hl hhi
  have HR := Lib.hid hr
  have HKK := Lib.hid hkk
  have HBP := Lib.hid hbp
  clear hr hkk hbp
  have HK := Lib.hid hk
  clear hk
  have hM := Sep.start w
  go_enter Try.func15, Try.ntmps15
  go_upto_region 0 with fail
  refine wp_region_fromM (fun W => Sep w [] [] W) hM ?_
  clear hM
  rintro Y1 hM
  refine tF 1 [.val 0 (some 4) (.slice none 0 0)] trivial ?_
  refine dF ?_
  try simp only [puts, Tk.put, Act.put, List.setIfInBounds_toArray, List.set_cons_zero, List.set_cons_succ]
  go_upto_region 1 with fail
  refine wp_region_fromM (fun W => Sep w [] [] W) hM ?_
  clear hM
  rintro Y2 hM
  refine tF 1 [.val 0 (some 5) (.slice none 0 0)] trivial ?_
  refine dF ?_
  try simp only [puts, Tk.put, Act.put, List.setIfInBounds_toArray, List.set_cons_zero, List.set_cons_succ]
  go_upto_region 2 with fail
  refine wp_region_fromM (fun W => Sep w [] [] W) hM ?_
  clear hM
  rintro Y3 hM
  refine tF 3 [.val 0 (some 8) (.slice pl ls.length cl), .val 1 (some 9) (.int .i64 (ls.length : Int)), .val 2 (some 10) (.int .i64 0)] trivial ?_
  refine dF ?_
  try simp only [puts, Tk.put, Act.put, List.setIfInBounds_toArray, List.set_cons_zero, List.set_cons_succ]
  replace hM := (hM.ows0).nil mlc 27 2
  go_wp2_with fail
  go_loopw [10, 5] (fun i u5 wr => ∃ (j : Nat) (ms : List Ml), j ≤ ls.length ∧ i = .int .i64 (j : Int) ∧ ms.map plM = selG (fun j _ => ((j : Int) == n)) 0 ((ls.take j).map plM) ∧ Sep w [] [.own mlc 27 2 (u5) (ms), .ows (zsM ms)] wr) (fun i u5 _ => ls.length - (intOf i).toNat)
  case atStart => exact ⟨0, [], Nat.zero_le _, rfl, rfl, hM⟩
  clear hM
  case round =>
    obtain ⟨j, ms, hj, rfl, he, hM⟩ := hrel
    have HE := Lib.hid he
    clear he
    by_cases hlt : j < ls.length
    case pos =>
      obtain ⟨x, hx⟩ : ∃ x, ls[j]? = some x := ⟨_, List.getElem?_eq_getElem hlt⟩
      obtain ⟨bl, ol, _, _, hit, hct⟩ := HEl.out j x hx
      have HXl := Lib.hid hx
      have HIl := Lib.hid hit
      have HCl := Lib.hid hct
      clear hx hit hct
      have HJ := Lib.hid hlt
      have hlt' : (j : Int) < (ls.length : Int) := by omega
      clear hlt
      go_upto_region 3 with fail
      refine wp_region_fromM (fun W => Sep w [] [.own mlc 27 2 (u5) (ms), .ows (zsM ms)] W) hM ?_
      clear hM
      rintro Y4 hM
      refine tF 1 [.alt 0 (some 11) (.bool (decide ((j : Int) < (ls.length : Int)))) (.bool true)] ⟨congrArg Value.bool (decide_eq_true hlt'), trivial⟩ ?_
      refine dF ?_
      try simp only [puts, Tk.put, Act.put, List.setIfInBounds_toArray, List.set_cons_zero, List.set_cons_succ]
      go_upto_region 4 with fail
      refine wp_region_fromM (fun W => Sep w [] [.own mlc 27 2 (u5) (ms), .ows (zsM ms)] W) hM ?_
      clear hM
      rintro Y5 hM
      refine tF 3 [.val 0 (some 12) (.int .i64 (j : Int)), .idx 1 (some 13) 22 (.slice pl ls.length cl) (.int .i64 (j : Int)) (pt bl ol), .load 2 (some 14) 27 (pt bl ol) (mlv x)] ⟨HIl.out _, ld_cells (mlc x) _ _ Try.underlying27 rfl (by kernel_rfl) (HCl.out _ (HLl.out.below hM.b HHl.out)), trivial⟩ ?_
      refine rF (some 7) (pt Y5.heap.size 0) (Y5.alloc (.cells (mlc noMl).toArray 27)) ?_
      replace hM := hM.alloc 27 (mlc noMl)
      generalize World.alloc _ _ = Y6 at *
      generalize hNe : Y5.heap.size = N6 at *
      clear hNe
      refine tF 5 [.val 4 (some 6) (.int .i64 (j : Int))] trivial ?_
      have hst := sto_part (mlc x) (hM.at 0 rfl) 0 27 (mlv x) (mlc x) rfl (by kernel_rfl) (Nat.le_of_ble_eq_true rfl) rfl rfl
      refine sF 27 (pt N6 0) (mlv x) (hst) ?_
      clear hst
      replace hM := hM.set 0 (cs' := mlc x) rfl rfl
      generalize World.setRow _ _ _ = Y7 at *
      refine dF ?_
      try simp only [puts, Tk.put, Act.put, List.setIfInBounds_toArray, List.set_cons_zero, List.set_cons_succ]
      go_upto_region 5 with fail
      refine wp_region_fromM (fun W => Sep w [] [.blk N6 27 (mlc x), .own mlc 27 2 (u5) (ms), .ows (zsM ms)] W) hM ?_
      clear hM
      rintro Y8 hM
      refine tF 3 [.val 0 (some 15) (.func (.func 16) #[] #[.pointer (some ⟨K, 0, none⟩)]), .val 1 (some 16) (.int .i64 (j : Int)), .load 2 (some 17) 27 (pt N6 0) (mlv x)] ⟨load_part (hM.at 0 rfl) 0 (mlc x) rfl _ _ Try.underlying27 rfl (by kernel_rfl), trivial⟩ ?_
      refine cF (some 18) 16 #[.int .i64 (j : Int), mlv x, .pointer (some ⟨K, 0, none⟩)] ((cAt_any j x _ (HK.out.below hM.b HK.out.lt)).mono ?_)
      rintro e Y9 ⟨rfl, hb⟩
      replace hM := hM.below hb
      clear hb
      refine dF ?_
      try simp only [puts, Tk.put, Act.put, List.setIfInBounds_toArray, List.set_cons_zero, List.set_cons_succ]
      cases hb1 : (j : Int) == n with
      | false =>
        have Hhb1 := Lib.hid hb1
        clear hb1
        go_upto_region 7 with fail
        refine wp_region_fromM (fun W => Sep w [] [.blk N6 27 (mlc x), .own mlc 27 2 (u5) (ms), .ows (zsM ms)] W) hM ?_
        clear hM
        rintro Y10 hM
        refine tF 2 [.alt 0 (some 28) (.int .i64 (IntKind.i64.wrap ((j : Int) + 1))) (.int .i64 ((j + 1 : Nat) : Int)), .val 1 (some 10) (.int .i64 ((j + 1 : Nat) : Int))] ⟨congrArg (Value.int .i64) ((IntWalk.i64_in _ (by have := HLENl.out; have := HJ.out; omega)).trans (by omega)), trivial⟩ ?_
        refine dF ?_
        try simp only [puts, Tk.put, Act.put, List.setIfInBounds_toArray, List.set_cons_zero, List.set_cons_succ]
        have HM1 : Hid (Sep w [] [.own mlc 27 2 (u5) (ms), .ows (zsM ms)] Y10) := Lib.hid (hM.pick [1, 2] (by decide) rfl)
        clear hM
        go_wp2_with fail
        go_roundw
        case rel => exact ⟨j + 1, _, HJ.out, rfl, sel_no (p := (fun j _ => ((j : Int) == n))) HXl.out HE.out Hhb1.out, HM1.out⟩
        case measure => have := HJ.out; simp [intOf]; omega
      | true =>
        have Hhb1 := Lib.hid hb1
        clear hb1
        go_upto_region 6 with fail
        refine wp_region_M (fun W => Sep w [] [.blk N6 27 (mlc x), .ows (zsM ms)] W) (fun W => Sep w [] [.blk N6 27 (mlc x), .own mlc 27 2 (u5) (ms), .ows (zsM ms)] W) hmx hM.drew ?_
        clear hM
        rintro Y11 hM
        have hS := hM.sub (.cons_cons _ (.cons _ (.cons_cons _ .slnil)))
        refine tD 5 [.val 0 (some 19) (u5), .val 1 (some 20) (pt N6 0), .load 2 (some 21) 3 (pt N6 0) (.int .i64 x.fo), .val 3 (some 22) (pt N6 1), .load 4 (some 23) 25 (pt N6 1) (.slice x.a x.l.length x.c)] ⟨fun W h => ld_any _ _ Try.underlying3 rfl (h.at 0 rfl) 0 rfl, fun W h => ld_any _ _ Try.underlying25 rfl (h.at 0 rfl) 1 rfl, trivial⟩ hS ?_
        refine oD 5 4 (cD (some 24) 21 #[.slice x.a x.l.length x.c] ((bytesClone_any x.l _ _ (by have h := HBP.out.ml HXl.out; omega) (((HKK.out.ml HXl.out).below hM.b (Nat.le_refl _)).mono (Nat.le_refl _) hM.size) (Nat.le_refl _)).mono ?_))
        rintro e Y12 ⟨v12o, rfl, hO, hb⟩
        refine And.intro (hS.below hb) ?_
        replace hS := hS.below hb
        rw [← flat_oc] at hO
        replace hM := hM.row (f := ocM) hO hb
        clear hO hb
        obtain ⟨a12o, c12o, rfl⟩ := (hM.oka 0 rfl).slice ocM_len
        refine tD 3 [.val 6 (some 25) (mlv (Ml.mk x.fo a12o c12o x.l))] trivial hS ?_
        refine oD 7 2 (rD (some 26) (.slice (some ⟨Y12.heap.size, 0, none⟩) 1 1) (Y12.alloc (.cells (mlc (Ml.mk x.fo a12o c12o x.l)).toArray 27)) (hS.other _) ?_)
        replace hS := hS.other (.cells (mlc (Ml.mk x.fo a12o c12o x.l)).toArray 27)
        replace hM := hM.alloc 27 (mlc (Ml.mk x.fo a12o c12o x.l))
        generalize World.alloc _ _ = Y14 at *
        generalize hNe : Y12.heap.size = N14 at *
        clear hNe
        obtain ⟨v15, Y15, hrun, ht⟩ := own_app1 infoMl rfl (by decide) Try.underlying22 mlc_len mlc_one (hM.oka 3 rfl) (Ml.mk x.fo a12o c12o x.l) (hM.at 0 rfl) (by decide) (by have h1 := HR.out; have h2 := sel_few HE.out; have h3 := HJ.out; omega) 22
        have hM1 := hM.turn 3 rfl ht rfl
        clear ht
        refine oD 8 1 (stepH_append (d := some 27) (t := 22) (t' := 22) (ty := 22) (v := u5) (x := .slice (some ⟨N14, 0, none⟩) 1 1) (by kernel_rfl) hrun (hM1.sub (.cons _ (.cons _ (.cons_cons _ (.cons _ (.cons_cons _ .slnil)))))) ?_)
        replace hS := hM1.sub (.cons _ (.cons _ (.cons_cons _ (.cons _ (.cons_cons _ .slnil)))))
        replace hM := hM1
        clear hM1 hrun
        refine tD 0 [.val 9 (some 5) (v15)] trivial hS ?_
        refine dD ?_
        try simp only [puts, Tk.put, Act.put, List.setIfInBounds_toArray, List.set_cons_zero, List.set_cons_succ]
        clear hS
        go_upto_region 7 with fail
        refine wp_region_fromM (fun W => Sep w [] [.blk N14 27 (mlc (Ml.mk x.fo a12o c12o x.l)), .own ocM 5 1 (.slice a12o x.l.length c12o) (x.l), .blk N6 27 (mlc x), .own mlc 27 2 (v15) (ms ++ [Ml.mk x.fo a12o c12o x.l]), .ows (zsM ms)] W) hM ?_
        clear hM
        rintro Y16 hM
        refine tF 2 [.alt 0 (some 28) (.int .i64 (IntKind.i64.wrap ((j : Int) + 1))) (.int .i64 ((j + 1 : Nat) : Int)), .val 1 (some 10) (.int .i64 ((j + 1 : Nat) : Int))] ⟨congrArg (Value.int .i64) ((IntWalk.i64_in _ (by have := HLENl.out; have := HJ.out; omega)).trans (by omega)), trivial⟩ ?_
        refine dF ?_
        try simp only [puts, Tk.put, Act.put, List.setIfInBounds_toArray, List.set_cons_zero, List.set_cons_succ]
        have hM1 := Sep.mls1 (Ml.mk x.fo a12o c12o x.l) rfl rfl (l := [.own mlc 27 2 (v15) (ms ++ [Ml.mk x.fo a12o c12o x.l])]) (hM.pick [1, 4, 3] (by decide) rfl)
        have HM1 : Hid (Sep w [] [.own mlc 27 2 (v15) (ms ++ [Ml.mk x.fo a12o c12o x.l]), .ows (zsM (ms ++ [Ml.mk x.fo a12o c12o x.l]))] Y16) := Lib.hid (hM1.pick [1, 0] (by decide) rfl)
        clear hM hM1
        go_wp2_with fail
        go_roundw
        case rel => exact ⟨j + 1, _, HJ.out, rfl, sel_yes (y := Ml.mk x.fo a12o c12o x.l) (p := (fun j _ => ((j : Int) == n))) HXl.out HE.out Hhb1.out rfl, HM1.out⟩
        case measure => have := HJ.out; simp [intOf]; omega
    case neg =>
      obtain rfl : j = ls.length := by omega
      go_upto_region 3 with fail
      refine wp_region_fromM (fun W => Sep w [] [.own mlc 27 2 (u5) (ms), .ows (zsM ms)] W) hM ?_
      clear hM
      rintro Y17 hM
      refine tF 1 [.alt 0 (some 11) (.bool (decide ((ls.length : Int) < (ls.length : Int)))) (.bool false)] ⟨congrArg Value.bool (decide_eq_false (by omega)), trivial⟩ ?_
      refine dF ?_
      try simp only [puts, Tk.put, Act.put, List.setIfInBounds_toArray, List.set_cons_zero, List.set_cons_succ]
      go_upto_region 8 with fail
      refine wp_region_fromM (fun W => Sep w [] [.own mlc 27 2 (u5) (ms), .ows (zsM ms)] W) hM ?_
      clear hM
      rintro Y18 hM
      refine tF 2 [.val 0 (some 29) (u5), .val 1 (some 4) (u5)] trivial ?_
      refine dF ?_
      try simp only [puts, Tk.put, Act.put, List.setIfInBounds_toArray, List.set_cons_zero, List.set_cons_succ]
      have he := HE.out
      rw [List.take_length] at he
      go_wp2_with fail
      go_ret
      exact ⟨_, _, rfl, he, hM⟩
set_option maxRecDepth 100000 in
set_option maxHeartbeats 4000000 in
theorem whBut_any {K : Nat} {n : Int} (ls : List Ml) (v : Value) (w : World) {lo hi : Nat} (hl : RSl mlc lo hi w v ls) (hhi : hi ≤ w.heap.size) (hr : ls.length ≤ 1000) (hkk : Holds w.heap.size w (zsM ls)) (hbp : BP (ls.map plM)) (hk : Blk w K 3 [.int .i64 n]) : Calls Try.prog 15 #[.func (.func 17) #[] #[.pointer (some ⟨K, 0, none⟩)], v] w (MlR (selG (fun j _ => ((j : Int) != n)) 0 (ls.map plM)) w) := by
  have hmx : Try.prog.follows .mixedOrders = true := by kernel_rfl
  have HEl := Lib.hid (fun k x (hx : ls[k]? = some x) => hl.elem mlc_len hx Try.underlying22 (fun W => by kernel_rfl))
  obtain ⟨pl, cl, rfl⟩ := hl.slice
  have HLl := Lib.hid hl
  have HHl := Lib.hid hhi
  have HLENl := Lib.hid (show ls.length ≤ 9223372036854775807 from by have h := hl.len; unfold maxLen at h; omega)
  clear hl hhi
  have HR := Lib.hid hr
  have HKK := Lib.hid hkk
  have HBP := Lib.hid hbp
  clear hr hkk hbp
  have HK := Lib.hid hk
  clear hk
  have hM := Sep.start w
  go_enter Try.func15, Try.ntmps15
  go_upto_region 0 with fail
  refine wp_region_fromM (fun W => Sep w [] [] W) hM ?_
  clear hM
  rintro Y1 hM
  refine tF 1 [.val 0 (some 4) (.slice none 0 0)] trivial ?_
  refine dF ?_
  try simp only [puts, Tk.put, Act.put, List.setIfInBounds_toArray, List.set_cons_zero, List.set_cons_succ]
  go_upto_region 1 with fail
  refine wp_region_fromM (fun W => Sep w [] [] W) hM ?_
  clear hM
  rintro Y2 hM
  refine tF 1 [.val 0 (some 5) (.slice none 0 0)] trivial ?_
  refine dF ?_
  try simp only [puts, Tk.put, Act.put, List.setIfInBounds_toArray, List.set_cons_zero, List.set_cons_succ]
  go_upto_region 2 with fail
  refine wp_region_fromM (fun W => Sep w [] [] W) hM ?_
  clear hM
  rintro Y3 hM
  refine tF 3 [.val 0 (some 8) (.slice pl ls.length cl), .val 1 (some 9) (.int .i64 (ls.length : Int)), .val 2 (some 10) (.int .i64 0)] trivial ?_
  refine dF ?_
  try simp only [puts, Tk.put, Act.put, List.setIfInBounds_toArray, List.set_cons_zero, List.set_cons_succ]
  replace hM := (hM.ows0).nil mlc 27 2
  go_wp2_with fail
  go_loopw [10, 5] (fun i u5 wr => ∃ (j : Nat) (ms : List Ml), j ≤ ls.length ∧ i = .int .i64 (j : Int) ∧ ms.map plM = selG (fun j _ => ((j : Int) != n)) 0 ((ls.take j).map plM) ∧ Sep w [] [.own mlc 27 2 (u5) (ms), .ows (zsM ms)] wr) (fun i u5 _ => ls.length - (intOf i).toNat)
  case atStart => exact ⟨0, [], Nat.zero_le _, rfl, rfl, hM⟩
  clear hM
  case round =>
    obtain ⟨j, ms, hj, rfl, he, hM⟩ := hrel
    have HE := Lib.hid he
    clear he
    by_cases hlt : j < ls.length
    case pos =>
      obtain ⟨x, hx⟩ : ∃ x, ls[j]? = some x := ⟨_, List.getElem?_eq_getElem hlt⟩
      obtain ⟨bl, ol, _, _, hit, hct⟩ := HEl.out j x hx
      have HXl := Lib.hid hx
      have HIl := Lib.hid hit
      have HCl := Lib.hid hct
      clear hx hit hct
      have HJ := Lib.hid hlt
      have hlt' : (j : Int) < (ls.length : Int) := by omega
      clear hlt
      go_upto_region 3 with fail
      refine wp_region_fromM (fun W => Sep w [] [.own mlc 27 2 (u5) (ms), .ows (zsM ms)] W) hM ?_
      clear hM
      rintro Y4 hM
      refine tF 1 [.alt 0 (some 11) (.bool (decide ((j : Int) < (ls.length : Int)))) (.bool true)] ⟨congrArg Value.bool (decide_eq_true hlt'), trivial⟩ ?_
      refine dF ?_
      try simp only [puts, Tk.put, Act.put, List.setIfInBounds_toArray, List.set_cons_zero, List.set_cons_succ]
      go_upto_region 4 with fail
      refine wp_region_fromM (fun W => Sep w [] [.own mlc 27 2 (u5) (ms), .ows (zsM ms)] W) hM ?_
      clear hM
      rintro Y5 hM
      refine tF 3 [.val 0 (some 12) (.int .i64 (j : Int)), .idx 1 (some 13) 22 (.slice pl ls.length cl) (.int .i64 (j : Int)) (pt bl ol), .load 2 (some 14) 27 (pt bl ol) (mlv x)] ⟨HIl.out _, ld_cells (mlc x) _ _ Try.underlying27 rfl (by kernel_rfl) (HCl.out _ (HLl.out.below hM.b HHl.out)), trivial⟩ ?_
      refine rF (some 7) (pt Y5.heap.size 0) (Y5.alloc (.cells (mlc noMl).toArray 27)) ?_
      replace hM := hM.alloc 27 (mlc noMl)
      generalize World.alloc _ _ = Y6 at *
      generalize hNe : Y5.heap.size = N6 at *
      clear hNe
      refine tF 5 [.val 4 (some 6) (.int .i64 (j : Int))] trivial ?_
      have hst := sto_part (mlc x) (hM.at 0 rfl) 0 27 (mlv x) (mlc x) rfl (by kernel_rfl) (Nat.le_of_ble_eq_true rfl) rfl rfl
      refine sF 27 (pt N6 0) (mlv x) (hst) ?_
      clear hst
      replace hM := hM.set 0 (cs' := mlc x) rfl rfl
      generalize World.setRow _ _ _ = Y7 at *
      refine dF ?_
      try simp only [puts, Tk.put, Act.put, List.setIfInBounds_toArray, List.set_cons_zero, List.set_cons_succ]
      go_upto_region 5 with fail
      refine wp_region_fromM (fun W => Sep w [] [.blk N6 27 (mlc x), .own mlc 27 2 (u5) (ms), .ows (zsM ms)] W) hM ?_
      clear hM
      rintro Y8 hM
      refine tF 3 [.val 0 (some 15) (.func (.func 17) #[] #[.pointer (some ⟨K, 0, none⟩)]), .val 1 (some 16) (.int .i64 (j : Int)), .load 2 (some 17) 27 (pt N6 0) (mlv x)] ⟨load_part (hM.at 0 rfl) 0 (mlc x) rfl _ _ Try.underlying27 rfl (by kernel_rfl), trivial⟩ ?_
      refine cF (some 18) 17 #[.int .i64 (j : Int), mlv x, .pointer (some ⟨K, 0, none⟩)] ((cBut_any j x _ (HK.out.below hM.b HK.out.lt)).mono ?_)
      rintro e Y9 ⟨rfl, hb⟩
      replace hM := hM.below hb
      clear hb
      refine dF ?_
      try simp only [puts, Tk.put, Act.put, List.setIfInBounds_toArray, List.set_cons_zero, List.set_cons_succ]
      cases hb1 : (j : Int) != n with
      | false =>
        have Hhb1 := Lib.hid hb1
        clear hb1
        go_upto_region 7 with fail
        refine wp_region_fromM (fun W => Sep w [] [.blk N6 27 (mlc x), .own mlc 27 2 (u5) (ms), .ows (zsM ms)] W) hM ?_
        clear hM
        rintro Y10 hM
        refine tF 2 [.alt 0 (some 28) (.int .i64 (IntKind.i64.wrap ((j : Int) + 1))) (.int .i64 ((j + 1 : Nat) : Int)), .val 1 (some 10) (.int .i64 ((j + 1 : Nat) : Int))] ⟨congrArg (Value.int .i64) ((IntWalk.i64_in _ (by have := HLENl.out; have := HJ.out; omega)).trans (by omega)), trivial⟩ ?_
        refine dF ?_
        try simp only [puts, Tk.put, Act.put, List.setIfInBounds_toArray, List.set_cons_zero, List.set_cons_succ]
        have HM1 : Hid (Sep w [] [.own mlc 27 2 (u5) (ms), .ows (zsM ms)] Y10) := Lib.hid (hM.pick [1, 2] (by decide) rfl)
        clear hM
        go_wp2_with fail
        go_roundw
        case rel => exact ⟨j + 1, _, HJ.out, rfl, sel_no (p := (fun j _ => ((j : Int) != n))) HXl.out HE.out Hhb1.out, HM1.out⟩
        case measure => have := HJ.out; simp [intOf]; omega
      | true =>
        have Hhb1 := Lib.hid hb1
        clear hb1
        go_upto_region 6 with fail
        refine wp_region_M (fun W => Sep w [] [.blk N6 27 (mlc x), .ows (zsM ms)] W) (fun W => Sep w [] [.blk N6 27 (mlc x), .own mlc 27 2 (u5) (ms), .ows (zsM ms)] W) hmx hM.drew ?_
        clear hM
        rintro Y11 hM
        have hS := hM.sub (.cons_cons _ (.cons _ (.cons_cons _ .slnil)))
        refine tD 5 [.val 0 (some 19) (u5), .val 1 (some 20) (pt N6 0), .load 2 (some 21) 3 (pt N6 0) (.int .i64 x.fo), .val 3 (some 22) (pt N6 1), .load 4 (some 23) 25 (pt N6 1) (.slice x.a x.l.length x.c)] ⟨fun W h => ld_any _ _ Try.underlying3 rfl (h.at 0 rfl) 0 rfl, fun W h => ld_any _ _ Try.underlying25 rfl (h.at 0 rfl) 1 rfl, trivial⟩ hS ?_
        refine oD 5 4 (cD (some 24) 21 #[.slice x.a x.l.length x.c] ((bytesClone_any x.l _ _ (by have h := HBP.out.ml HXl.out; omega) (((HKK.out.ml HXl.out).below hM.b (Nat.le_refl _)).mono (Nat.le_refl _) hM.size) (Nat.le_refl _)).mono ?_))
        rintro e Y12 ⟨v12o, rfl, hO, hb⟩
        refine And.intro (hS.below hb) ?_
        replace hS := hS.below hb
        rw [← flat_oc] at hO
        replace hM := hM.row (f := ocM) hO hb
        clear hO hb
        obtain ⟨a12o, c12o, rfl⟩ := (hM.oka 0 rfl).slice ocM_len
        refine tD 3 [.val 6 (some 25) (mlv (Ml.mk x.fo a12o c12o x.l))] trivial hS ?_
        refine oD 7 2 (rD (some 26) (.slice (some ⟨Y12.heap.size, 0, none⟩) 1 1) (Y12.alloc (.cells (mlc (Ml.mk x.fo a12o c12o x.l)).toArray 27)) (hS.other _) ?_)
        replace hS := hS.other (.cells (mlc (Ml.mk x.fo a12o c12o x.l)).toArray 27)
        replace hM := hM.alloc 27 (mlc (Ml.mk x.fo a12o c12o x.l))
        generalize World.alloc _ _ = Y14 at *
        generalize hNe : Y12.heap.size = N14 at *
        clear hNe
        obtain ⟨v15, Y15, hrun, ht⟩ := own_app1 infoMl rfl (by decide) Try.underlying22 mlc_len mlc_one (hM.oka 3 rfl) (Ml.mk x.fo a12o c12o x.l) (hM.at 0 rfl) (by decide) (by have h1 := HR.out; have h2 := sel_few HE.out; have h3 := HJ.out; omega) 22
        have hM1 := hM.turn 3 rfl ht rfl
        clear ht
        refine oD 8 1 (stepH_append (d := some 27) (t := 22) (t' := 22) (ty := 22) (v := u5) (x := .slice (some ⟨N14, 0, none⟩) 1 1) (by kernel_rfl) hrun (hM1.sub (.cons _ (.cons _ (.cons_cons _ (.cons _ (.cons_cons _ .slnil)))))) ?_)
        replace hS := hM1.sub (.cons _ (.cons _ (.cons_cons _ (.cons _ (.cons_cons _ .slnil)))))
        replace hM := hM1
        clear hM1 hrun
        refine tD 0 [.val 9 (some 5) (v15)] trivial hS ?_
        refine dD ?_
        try simp only [puts, Tk.put, Act.put, List.setIfInBounds_toArray, List.set_cons_zero, List.set_cons_succ]
        clear hS
        go_upto_region 7 with fail
        refine wp_region_fromM (fun W => Sep w [] [.blk N14 27 (mlc (Ml.mk x.fo a12o c12o x.l)), .own ocM 5 1 (.slice a12o x.l.length c12o) (x.l), .blk N6 27 (mlc x), .own mlc 27 2 (v15) (ms ++ [Ml.mk x.fo a12o c12o x.l]), .ows (zsM ms)] W) hM ?_
        clear hM
        rintro Y16 hM
        refine tF 2 [.alt 0 (some 28) (.int .i64 (IntKind.i64.wrap ((j : Int) + 1))) (.int .i64 ((j + 1 : Nat) : Int)), .val 1 (some 10) (.int .i64 ((j + 1 : Nat) : Int))] ⟨congrArg (Value.int .i64) ((IntWalk.i64_in _ (by have := HLENl.out; have := HJ.out; omega)).trans (by omega)), trivial⟩ ?_
        refine dF ?_
        try simp only [puts, Tk.put, Act.put, List.setIfInBounds_toArray, List.set_cons_zero, List.set_cons_succ]
        have hM1 := Sep.mls1 (Ml.mk x.fo a12o c12o x.l) rfl rfl (l := [.own mlc 27 2 (v15) (ms ++ [Ml.mk x.fo a12o c12o x.l])]) (hM.pick [1, 4, 3] (by decide) rfl)
        have HM1 : Hid (Sep w [] [.own mlc 27 2 (v15) (ms ++ [Ml.mk x.fo a12o c12o x.l]), .ows (zsM (ms ++ [Ml.mk x.fo a12o c12o x.l]))] Y16) := Lib.hid (hM1.pick [1, 0] (by decide) rfl)
        clear hM hM1
        go_wp2_with fail
        go_roundw
        case rel => exact ⟨j + 1, _, HJ.out, rfl, sel_yes (y := Ml.mk x.fo a12o c12o x.l) (p := (fun j _ => ((j : Int) != n))) HXl.out HE.out Hhb1.out rfl, HM1.out⟩
        case measure => have := HJ.out; simp [intOf]; omega
    case neg =>
      obtain rfl : j = ls.length := by omega
      go_upto_region 3 with fail
      refine wp_region_fromM (fun W => Sep w [] [.own mlc 27 2 (u5) (ms), .ows (zsM ms)] W) hM ?_
      clear hM
      rintro Y17 hM
      refine tF 1 [.alt 0 (some 11) (.bool (decide ((ls.length : Int) < (ls.length : Int)))) (.bool false)] ⟨congrArg Value.bool (decide_eq_false (by omega)), trivial⟩ ?_
      refine dF ?_
      try simp only [puts, Tk.put, Act.put, List.setIfInBounds_toArray, List.set_cons_zero, List.set_cons_succ]
      go_upto_region 8 with fail
      refine wp_region_fromM (fun W => Sep w [] [.own mlc 27 2 (u5) (ms), .ows (zsM ms)] W) hM ?_
      clear hM
      rintro Y18 hM
      refine tF 2 [.val 0 (some 29) (u5), .val 1 (some 4) (u5)] trivial ?_
      refine dF ?_
      try simp only [puts, Tk.put, Act.put, List.setIfInBounds_toArray, List.set_cons_zero, List.set_cons_succ]
      have he := HE.out
      rw [List.take_length] at he
      go_wp2_with fail
      go_ret
      exact ⟨_, _, rfl, he, hM⟩
set_option maxRecDepth 100000 in
set_option maxHeartbeats 4000000 in
theorem whFor_any {K : Nat} {n : Int} (ls : List Ml) (v : Value) (w : World) {lo hi : Nat} (hl : RSl mlc lo hi w v ls) (hhi : hi ≤ w.heap.size) (hr : ls.length ≤ 1000) (hkk : Holds w.heap.size w (zsM ls)) (hbp : BP (ls.map plM)) (hk : Blk w K 3 [.int .i64 n]) : Calls Try.prog 15 #[.func (.func 20) #[] #[.pointer (some ⟨K, 0, none⟩)], v] w (MlR (selG (fun _ m => (m.1 == n)) 0 (ls.map plM)) w) := by
  have hmx : Try.prog.follows .mixedOrders = true := by kernel_rfl
  have HEl := Lib.hid (fun k x (hx : ls[k]? = some x) => hl.elem mlc_len hx Try.underlying22 (fun W => by kernel_rfl))
  obtain ⟨pl, cl, rfl⟩ := hl.slice
  have HLl := Lib.hid hl
  have HHl := Lib.hid hhi
  have HLENl := Lib.hid (show ls.length ≤ 9223372036854775807 from by have h := hl.len; unfold maxLen at h; omega)
  clear hl hhi
  have HR := Lib.hid hr
  have HKK := Lib.hid hkk
  have HBP := Lib.hid hbp
  clear hr hkk hbp
  have HK := Lib.hid hk
  clear hk
  have hM := Sep.start w
  go_enter Try.func15, Try.ntmps15
  go_upto_region 0 with fail
  refine wp_region_fromM (fun W => Sep w [] [] W) hM ?_
  clear hM
  rintro Y1 hM
  refine tF 1 [.val 0 (some 4) (.slice none 0 0)] trivial ?_
  refine dF ?_
  try simp only [puts, Tk.put, Act.put, List.setIfInBounds_toArray, List.set_cons_zero, List.set_cons_succ]
  go_upto_region 1 with fail
  refine wp_region_fromM (fun W => Sep w [] [] W) hM ?_
  clear hM
  rintro Y2 hM
  refine tF 1 [.val 0 (some 5) (.slice none 0 0)] trivial ?_
  refine dF ?_
  try simp only [puts, Tk.put, Act.put, List.setIfInBounds_toArray, List.set_cons_zero, List.set_cons_succ]
  go_upto_region 2 with fail
  refine wp_region_fromM (fun W => Sep w [] [] W) hM ?_
  clear hM
  rintro Y3 hM
  refine tF 3 [.val 0 (some 8) (.slice pl ls.length cl), .val 1 (some 9) (.int .i64 (ls.length : Int)), .val 2 (some 10) (.int .i64 0)] trivial ?_
  refine dF ?_
  try simp only [puts, Tk.put, Act.put, List.setIfInBounds_toArray, List.set_cons_zero, List.set_cons_succ]
  replace hM := (hM.ows0).nil mlc 27 2
  go_wp2_with fail
  go_loopw [10, 5] (fun i u5 wr => ∃ (j : Nat) (ms : List Ml), j ≤ ls.length ∧ i = .int .i64 (j : Int) ∧ ms.map plM = selG (fun _ m => (m.1 == n)) 0 ((ls.take j).map plM) ∧ Sep w [] [.own mlc 27 2 (u5) (ms), .ows (zsM ms)] wr) (fun i u5 _ => ls.length - (intOf i).toNat)
  case atStart => exact ⟨0, [], Nat.zero_le _, rfl, rfl, hM⟩
  clear hM
  case round =>
    obtain ⟨j, ms, hj, rfl, he, hM⟩ := hrel
    have HE := Lib.hid he
    clear he
    by_cases hlt : j < ls.length
    case pos =>
      obtain ⟨x, hx⟩ : ∃ x, ls[j]? = some x := ⟨_, List.getElem?_eq_getElem hlt⟩
      obtain ⟨bl, ol, _, _, hit, hct⟩ := HEl.out j x hx
      have HXl := Lib.hid hx
      have HIl := Lib.hid hit
      have HCl := Lib.hid hct
      clear hx hit hct
      have HJ := Lib.hid hlt
      have hlt' : (j : Int) < (ls.length : Int) := by omega
      clear hlt
      go_upto_region 3 with fail
      refine wp_region_fromM (fun W => Sep w [] [.own mlc 27 2 (u5) (ms), .ows (zsM ms)] W) hM ?_
      clear hM
      rintro Y4 hM
      refine tF 1 [.alt 0 (some 11) (.bool (decide ((j : Int) < (ls.length : Int)))) (.bool true)] ⟨congrArg Value.bool (decide_eq_true hlt'), trivial⟩ ?_
      refine dF ?_
      try simp only [puts, Tk.put, Act.put, List.setIfInBounds_toArray, List.set_cons_zero, List.set_cons_succ]
      go_upto_region 4 with fail
      refine wp_region_fromM (fun W => Sep w [] [.own mlc 27 2 (u5) (ms), .ows (zsM ms)] W) hM ?_
      clear hM
      rintro Y5 hM
      refine tF 3 [.val 0 (some 12) (.int .i64 (j : Int)), .idx 1 (some 13) 22 (.slice pl ls.length cl) (.int .i64 (j : Int)) (pt bl ol), .load 2 (some 14) 27 (pt bl ol) (mlv x)] ⟨HIl.out _, ld_cells (mlc x) _ _ Try.underlying27 rfl (by kernel_rfl) (HCl.out _ (HLl.out.below hM.b HHl.out)), trivial⟩ ?_
      refine rF (some 7) (pt Y5.heap.size 0) (Y5.alloc (.cells (mlc noMl).toArray 27)) ?_
      replace hM := hM.alloc 27 (mlc noMl)
      generalize World.alloc _ _ = Y6 at *
      generalize hNe : Y5.heap.size = N6 at *
      clear hNe
      refine tF 5 [.val 4 (some 6) (.int .i64 (j : Int))] trivial ?_
      have hst := sto_part (mlc x) (hM.at 0 rfl) 0 27 (mlv x) (mlc x) rfl (by kernel_rfl) (Nat.le_of_ble_eq_true rfl) rfl rfl
      refine sF 27 (pt N6 0) (mlv x) (hst) ?_
      clear hst
      replace hM := hM.set 0 (cs' := mlc x) rfl rfl
      generalize World.setRow _ _ _ = Y7 at *
      refine dF ?_
      try simp only [puts, Tk.put, Act.put, List.setIfInBounds_toArray, List.set_cons_zero, List.set_cons_succ]
      go_upto_region 5 with fail
      refine wp_region_fromM (fun W => Sep w [] [.blk N6 27 (mlc x), .own mlc 27 2 (u5) (ms), .ows (zsM ms)] W) hM ?_
      clear hM
      rintro Y8 hM
      refine tF 3 [.val 0 (some 15) (.func (.func 20) #[] #[.pointer (some ⟨K, 0, none⟩)]), .val 1 (some 16) (.int .i64 (j : Int)), .load 2 (some 17) 27 (pt N6 0) (mlv x)] ⟨load_part (hM.at 0 rfl) 0 (mlc x) rfl _ _ Try.underlying27 rfl (by kernel_rfl), trivial⟩ ?_
      refine cF (some 18) 20 #[.int .i64 (j : Int), mlv x, .pointer (some ⟨K, 0, none⟩)] ((cFor_any j x _ (HK.out.below hM.b HK.out.lt)).mono ?_)
      rintro e Y9 ⟨rfl, hb⟩
      replace hM := hM.below hb
      clear hb
      refine dF ?_
      try simp only [puts, Tk.put, Act.put, List.setIfInBounds_toArray, List.set_cons_zero, List.set_cons_succ]
      cases hb1 : x.fo == n with
      | false =>
        have Hhb1 := Lib.hid hb1
        clear hb1
        go_upto_region 7 with fail
        refine wp_region_fromM (fun W => Sep w [] [.blk N6 27 (mlc x), .own mlc 27 2 (u5) (ms), .ows (zsM ms)] W) hM ?_
        clear hM
        rintro Y10 hM
        refine tF 2 [.alt 0 (some 28) (.int .i64 (IntKind.i64.wrap ((j : Int) + 1))) (.int .i64 ((j + 1 : Nat) : Int)), .val 1 (some 10) (.int .i64 ((j + 1 : Nat) : Int))] ⟨congrArg (Value.int .i64) ((IntWalk.i64_in _ (by have := HLENl.out; have := HJ.out; omega)).trans (by omega)), trivial⟩ ?_
        refine dF ?_
        try simp only [puts, Tk.put, Act.put, List.setIfInBounds_toArray, List.set_cons_zero, List.set_cons_succ]
        have HM1 : Hid (Sep w [] [.own mlc 27 2 (u5) (ms), .ows (zsM ms)] Y10) := Lib.hid (hM.pick [1, 2] (by decide) rfl)
        clear hM
        go_wp2_with fail
        go_roundw
        case rel => exact ⟨j + 1, _, HJ.out, rfl, sel_no (p := (fun _ m => (m.1 == n))) HXl.out HE.out Hhb1.out, HM1.out⟩
        case measure => have := HJ.out; simp [intOf]; omega
      | true =>
        have Hhb1 := Lib.hid hb1
        clear hb1
        go_upto_region 6 with fail
        refine wp_region_M (fun W => Sep w [] [.blk N6 27 (mlc x), .ows (zsM ms)] W) (fun W => Sep w [] [.blk N6 27 (mlc x), .own mlc 27 2 (u5) (ms), .ows (zsM ms)] W) hmx hM.drew ?_
        clear hM
        rintro Y11 hM
        have hS := hM.sub (.cons_cons _ (.cons _ (.cons_cons _ .slnil)))
        refine tD 5 [.val 0 (some 19) (u5), .val 1 (some 20) (pt N6 0), .load 2 (some 21) 3 (pt N6 0) (.int .i64 x.fo), .val 3 (some 22) (pt N6 1), .load 4 (some 23) 25 (pt N6 1) (.slice x.a x.l.length x.c)] ⟨fun W h => ld_any _ _ Try.underlying3 rfl (h.at 0 rfl) 0 rfl, fun W h => ld_any _ _ Try.underlying25 rfl (h.at 0 rfl) 1 rfl, trivial⟩ hS ?_
        refine oD 5 4 (cD (some 24) 21 #[.slice x.a x.l.length x.c] ((bytesClone_any x.l _ _ (by have h := HBP.out.ml HXl.out; omega) (((HKK.out.ml HXl.out).below hM.b (Nat.le_refl _)).mono (Nat.le_refl _) hM.size) (Nat.le_refl _)).mono ?_))
        rintro e Y12 ⟨v12o, rfl, hO, hb⟩
        refine And.intro (hS.below hb) ?_
        replace hS := hS.below hb
        rw [← flat_oc] at hO
        replace hM := hM.row (f := ocM) hO hb
        clear hO hb
        obtain ⟨a12o, c12o, rfl⟩ := (hM.oka 0 rfl).slice ocM_len
        refine tD 3 [.val 6 (some 25) (mlv (Ml.mk x.fo a12o c12o x.l))] trivial hS ?_
        refine oD 7 2 (rD (some 26) (.slice (some ⟨Y12.heap.size, 0, none⟩) 1 1) (Y12.alloc (.cells (mlc (Ml.mk x.fo a12o c12o x.l)).toArray 27)) (hS.other _) ?_)
        replace hS := hS.other (.cells (mlc (Ml.mk x.fo a12o c12o x.l)).toArray 27)
        replace hM := hM.alloc 27 (mlc (Ml.mk x.fo a12o c12o x.l))
        generalize World.alloc _ _ = Y14 at *
        generalize hNe : Y12.heap.size = N14 at *
        clear hNe
        obtain ⟨v15, Y15, hrun, ht⟩ := own_app1 infoMl rfl (by decide) Try.underlying22 mlc_len mlc_one (hM.oka 3 rfl) (Ml.mk x.fo a12o c12o x.l) (hM.at 0 rfl) (by decide) (by have h1 := HR.out; have h2 := sel_few HE.out; have h3 := HJ.out; omega) 22
        have hM1 := hM.turn 3 rfl ht rfl
        clear ht
        refine oD 8 1 (stepH_append (d := some 27) (t := 22) (t' := 22) (ty := 22) (v := u5) (x := .slice (some ⟨N14, 0, none⟩) 1 1) (by kernel_rfl) hrun (hM1.sub (.cons _ (.cons _ (.cons_cons _ (.cons _ (.cons_cons _ .slnil)))))) ?_)
        replace hS := hM1.sub (.cons _ (.cons _ (.cons_cons _ (.cons _ (.cons_cons _ .slnil)))))
        replace hM := hM1
        clear hM1 hrun
        refine tD 0 [.val 9 (some 5) (v15)] trivial hS ?_
        refine dD ?_
        try simp only [puts, Tk.put, Act.put, List.setIfInBounds_toArray, List.set_cons_zero, List.set_cons_succ]
        clear hS
        go_upto_region 7 with fail
        refine wp_region_fromM (fun W => Sep w [] [.blk N14 27 (mlc (Ml.mk x.fo a12o c12o x.l)), .own ocM 5 1 (.slice a12o x.l.length c12o) (x.l), .blk N6 27 (mlc x), .own mlc 27 2 (v15) (ms ++ [Ml.mk x.fo a12o c12o x.l]), .ows (zsM ms)] W) hM ?_
        clear hM
        rintro Y16 hM
        refine tF 2 [.alt 0 (some 28) (.int .i64 (IntKind.i64.wrap ((j : Int) + 1))) (.int .i64 ((j + 1 : Nat) : Int)), .val 1 (some 10) (.int .i64 ((j + 1 : Nat) : Int))] ⟨congrArg (Value.int .i64) ((IntWalk.i64_in _ (by have := HLENl.out; have := HJ.out; omega)).trans (by omega)), trivial⟩ ?_
        refine dF ?_
        try simp only [puts, Tk.put, Act.put, List.setIfInBounds_toArray, List.set_cons_zero, List.set_cons_succ]
        have hM1 := Sep.mls1 (Ml.mk x.fo a12o c12o x.l) rfl rfl (l := [.own mlc 27 2 (v15) (ms ++ [Ml.mk x.fo a12o c12o x.l])]) (hM.pick [1, 4, 3] (by decide) rfl)
        have HM1 : Hid (Sep w [] [.own mlc 27 2 (v15) (ms ++ [Ml.mk x.fo a12o c12o x.l]), .ows (zsM (ms ++ [Ml.mk x.fo a12o c12o x.l]))] Y16) := Lib.hid (hM1.pick [1, 0] (by decide) rfl)
        clear hM hM1
        go_wp2_with fail
        go_roundw
        case rel => exact ⟨j + 1, _, HJ.out, rfl, sel_yes (y := Ml.mk x.fo a12o c12o x.l) (p := (fun _ m => (m.1 == n))) HXl.out HE.out Hhb1.out rfl, HM1.out⟩
        case measure => have := HJ.out; simp [intOf]; omega
    case neg =>
      obtain rfl : j = ls.length := by omega
      go_upto_region 3 with fail
      refine wp_region_fromM (fun W => Sep w [] [.own mlc 27 2 (u5) (ms), .ows (zsM ms)] W) hM ?_
      clear hM
      rintro Y17 hM
      refine tF 1 [.alt 0 (some 11) (.bool (decide ((ls.length : Int) < (ls.length : Int)))) (.bool false)] ⟨congrArg Value.bool (decide_eq_false (by omega)), trivial⟩ ?_
      refine dF ?_
      try simp only [puts, Tk.put, Act.put, List.setIfInBounds_toArray, List.set_cons_zero, List.set_cons_succ]
      go_upto_region 8 with fail
      refine wp_region_fromM (fun W => Sep w [] [.own mlc 27 2 (u5) (ms), .ows (zsM ms)] W) hM ?_
      clear hM
      rintro Y18 hM
      refine tF 2 [.val 0 (some 29) (u5), .val 1 (some 4) (u5)] trivial ?_
      refine dF ?_
      try simp only [puts, Tk.put, Act.put, List.setIfInBounds_toArray, List.set_cons_zero, List.set_cons_succ]
      have he := HE.out
      rw [List.take_length] at he
      go_wp2_with fail
      go_ret
      exact ⟨_, _, rfl, he, hM⟩
end Go.Proofs.Ytedoogoelolbdaa
