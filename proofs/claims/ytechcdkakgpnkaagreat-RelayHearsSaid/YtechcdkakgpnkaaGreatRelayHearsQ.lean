/-
  RelayHears answers true at every input, and leaves its arguments as they are.
-/
import Derived.Deep.Slices
import Derived.SizedLaws
import Derived.Carry
import Derived.ChangeMaps5
import Derived.Test.YtechcdkakgpnkaaGreatK14
namespace Go.Proofs.YtechcdkakgpnkaaGreat
open Go.RowKit Go.Shelf
attribute [local irreducible] wpFrom wpAnyH StepH
theorem read_0 : readG (openS []) = ((readG (openS [])).1, (readG (openS [])).2) := Prod.ext rfl rfl
set_option maxRecDepth 100000 in
set_option maxHeartbeats 4000000 in
theorem relayHears_any (m : Ms) (hm : OkM m) (b : List UInt8) (sv : Value) (w : World) (hsb : BSl 0 w.heap.size w sv b) : Calls Tryz.prog 3 #[msv m, sv] w fun e W' => e = .returned (.bool true) ∧ Below w.heap.size w W' := by
  have hmx : Tryz.prog.follows .mixedOrders = true := by kernel_rfl
  obtain ⟨pb, cb, rfl, _⟩ := hsb.slice
  have HB := Lib.hid hsb
  have HMO := Lib.hid hm
  clear hsb hm
  obtain ⟨⟨y, c⟩, hy⟩ : ∃ r, readG (openS b) = r := ⟨_, rfl⟩
  have HY := Lib.hid hy
  clear hy
  have hM := Sep.start w
  go_enter Tryz.func3, Tryz.ntmps3
  go_upto_region 0 with fail
  refine wp_region_fromM (fun W => Sep w [] [] W) hM ?_
  clear hM
  rintro Y1 hM
  refine rF (some 2) (pt Y1.heap.size 0) (Y1.alloc (.cells (msc m).toArray 34)) ?_
  replace hM := hM.alloc 34 (msc m)
  generalize World.alloc _ _ = Y2 at *
  generalize hNe : Y1.heap.size = N2 at *
  clear hNe
  refine tF 2 [.val 1 (some 4) (.bool false)] trivial ?_
  refine dF ?_
  try simp only [puts, Tk.put, Act.put, List.setIfInBounds_toArray, List.set_cons_zero, List.set_cons_succ]
  go_upto_region 1 with fail
  refine wp_region_fromM (fun W => Sep w [] [.blk N2 34 (msc m)] W) hM ?_
  clear hM
  rintro Y3 hM
  refine cF (some 14) 6 #[] ((alive22_any _).mono ?_)
  rintro e Y4 ⟨rfl, hb⟩
  replace hM := hM.below hb
  clear hb
  refine tF 2 [.val 1 (some 15) (.bool false)] trivial ?_
  refine dF ?_
  try simp only [puts, Tk.put, Act.put, List.setIfInBounds_toArray, List.set_cons_zero, List.set_cons_succ]
  go_upto_region 3 with fail
  refine wp_region_fromM (fun W => Sep w [] [.blk N2 34 (msc m)] W) hM ?_
  clear hM
  rintro Y5 hM
  refine cF (some 16) 7 #[] ((rlNew_any _).mono ?_)
  rintro e Y6 ⟨B6, v6, rfl, hR⟩
  replace hM := hM.gain (Sep.close (ps := RLR B6 [] v6) (l := []) hR)
  clear hR
  refine tF 2 [.val 1 (some 5) (pt B6 0)] trivial ?_
  refine dF ?_
  try simp only [puts, Tk.put, Act.put, List.setIfInBounds_toArray, List.set_cons_zero, List.set_cons_succ]
  go_upto_region 4 with fail
  refine wp_region_fromM (fun W => Sep w [] [.join (RLR B6 ([]) v6), .blk N2 34 (msc m)] W) hM ?_
  clear hM
  rintro Y7 hM
  refine tF 1 [.load 0 (some 18) 34 (pt N2 0) (msv m)] ⟨load_part (hM.at 1 rfl) 0 (msc m) rfl _ _ Tryz.underlying34 rfl (by kernel_rfl), trivial⟩ ?_
  cases hb1 : (errG m) == 0 with
  | false =>
    have Hhb1 := Lib.hid hb1
    clear hb1
    have hq := mailPut_own m HMO.out Y7
    rw [octG_no (beq_eq_false_iff_ne.1 Hhb1.out)] at hq
    refine cF (some 19) 8 #[msv m] ((hq).mono ?_)
    rintro e Y8 ⟨v8o, rfl, hO, hb⟩
    clear hq
    replace hM := hM.octN hO hb
    clear hO hb
    obtain ⟨a8o, c8o, rfl, _⟩ := (hM.oka 0 rfl).octs.slice
    refine tF 7 [.val 2 (some 17) (.tuple #[.slice a8o ([] : List UInt8).length c8o, .int .i64 (errG m)]), .val 3 (some 20) (.slice a8o ([] : List UInt8).length c8o), .val 4 (some 21) (.int .i64 (errG m)), .val 5 (some 6) (.slice a8o ([] : List UInt8).length c8o), .val 6 (some 7) (.int .i64 (errG m))] trivial ?_
    refine dF ?_
    try simp only [puts, Tk.put, Act.put, List.setIfInBounds_toArray, List.set_cons_zero, List.set_cons_succ]
    go_upto_region 5 with fail
    refine wp_region_fromM (fun W => Sep w [] [.oct (.slice a8o ([] : List UInt8).length c8o) ([] : List UInt8), .join (RLR B6 ([]) v6), .blk N2 34 (msc m)] W) hM ?_
    clear hM
    rintro Y10 hM
    refine tF 14 [.val 0 (some 22) (.int .i64 (errG m)), .alt 1 (some 23) (.bool ((errG m) == 0)) (.bool false), .val 2 (some 24) (.bool false), .skip 3 (some 25), .skip 4 (some 26), .skip 5 (some 27), .val 6 (some 28) (.bool false), .val 7 (some 29) (.bool false), .skip 8 (some 30), .skip 9 (some 31), .skip 10 (some 32), .skip 11 (some 33), .val 12 (some 34) (.bool false), .val 13 (some 8) (.bool false)] ⟨congrArg Value.bool (Hhb1.out), trivial⟩ ?_
    refine dF ?_
    try simp only [puts, Tk.put, Act.put, List.setIfInBounds_toArray, List.set_cons_zero, List.set_cons_succ]
    go_upto_region 6 with fail
    refine wp_region_fromM (fun W => Sep w [] [.oct (.slice a8o ([] : List UInt8).length c8o) ([] : List UInt8), .join (RLR B6 ([]) v6), .blk N2 34 (msc m)] W) hM ?_
    clear hM
    rintro Y11 hM
    refine tF 2 [.val 0 (some 35) (pt B6 0), .val 1 (some 36) (.slice a8o ([] : List UInt8).length c8o)] trivial ?_
    have hq := rlHear_any ([] : List UInt8) _ _ (hM.oka 1 rfl) (BF.mine hM (i := 0) (j := 1) rfl rfl (by decide)) read_0
    rw [hear_nil] at hq
    refine cF (some 37) 9 #[pt B6 0, .slice a8o ([] : List UInt8).length c8o] ((hq).mono ?_)
    rintro e Y12 ⟨rfl, v12, hT⟩
    clear hq
    replace hM := hM.turn 1 rfl hT rfl
    clear hT
    refine tF 8 [.val 3 (some 38) (.bool false), .val 4 (some 39) (.bool false), .val 5 (some 40) (.bool false), .val 6 (some 41) (pt B6 0), .val 7 (some 42) (.slice a8o ([] : List UInt8).length c8o)] trivial ?_
    have hq := rlHear_any ([] : List UInt8) _ _ (hM.oka 1 rfl) (BF.mine hM (i := 0) (j := 1) rfl rfl (by decide)) read_0
    rw [hear_nil] at hq
    refine cF (some 43) 9 #[pt B6 0, .slice a8o ([] : List UInt8).length c8o] ((hq).mono ?_)
    rintro e Y13 ⟨rfl, v13, hT⟩
    clear hq
    replace hM := hM.turn 1 rfl hT rfl
    clear hT
    refine tF 10 [.val 9 (some 44) (.bool false)] trivial ?_
    refine dF ?_
    try simp only [puts, Tk.put, Act.put, List.setIfInBounds_toArray, List.set_cons_zero, List.set_cons_succ]
    go_upto_region 8 with fail
    refine wp_region_fromM (fun W => Sep w [] [.oct (.slice a8o ([] : List UInt8).length c8o) ([] : List UInt8), .join (RLR B6 ([]) v13), .blk N2 34 (msc m)] W) hM ?_
    clear hM
    rintro Y14 hM
    refine tF 1 [.val 0 (some 45) (pt B6 0)] trivial ?_
    refine cF (some 46) 10 #[pt B6 0] ((rlCountJ (hM.oka 1 rfl)).mono ?_)
    rintro e Y15 ⟨rfl, hb⟩
    replace hM := hM.below hb
    clear hb
    refine tF 3 [.val 2 (some 9) (.int .i64 0)] trivial ?_
    refine dF ?_
    try simp only [puts, Tk.put, Act.put, List.setIfInBounds_toArray, List.set_cons_zero, List.set_cons_succ]
    go_upto_region 9 with fail
    refine wp_region_fromM (fun W => Sep w [] [.oct (.slice a8o ([] : List UInt8).length c8o) ([] : List UInt8), .join (RLR B6 ([]) v13), .blk N2 34 (msc m)] W) hM ?_
    clear hM
    rintro Y16 hM
    refine tF 1 [.val 0 (some 48) (.slice pb b.length cb)] trivial ?_
    cases hb2 : c == 0 with
    | false =>
      have Hhb2 := Lib.hid hb2
      clear hb2
      have hq := mailRead_any b _ _ ((HB.out.below hM.b (Nat.le_refl _)).mono (Nat.le_refl _) hM.size)
      rw [HY.out] at hq
      refine cF (some 49) 11 #[.slice pb b.length cb] ((hq).mono ?_)
      rintro e Y17 ⟨rfl, hb⟩
      clear hq
      replace hM := hM.below hb
      clear hb
      refine tF 5 [.val 2 (some 47) (.tuple #[msv y, .int .i64 c]), .val 3 (some 50) (msv y), .val 4 (some 51) (.int .i64 c)] trivial ?_
      refine rF (some 10) (pt Y17.heap.size 0) (Y17.alloc (.cells (msc noM).toArray 34)) ?_
      replace hM := hM.alloc 34 (msc noM)
      generalize World.alloc _ _ = Y18 at *
      generalize hNe : Y17.heap.size = N18 at *
      clear hNe
      have hst := sto_part (msc y) (hM.at 0 rfl) 0 34 (msv y) (msc y) rfl (by kernel_rfl) (Nat.le_of_ble_eq_true rfl) rfl rfl
      refine sF 34 (pt N18 0) (msv y) (hst) ?_
      clear hst
      replace hM := hM.set 0 (cs' := msc y) rfl rfl
      generalize World.setRow _ _ _ = Y19 at *
      refine tF 8 [.val 7 (some 11) (.int .i64 c)] trivial ?_
      refine dF ?_
      try simp only [puts, Tk.put, Act.put, List.setIfInBounds_toArray, List.set_cons_zero, List.set_cons_succ]
      go_upto_region 10 with fail
      refine wp_region_fromM (fun W => Sep w [] [.blk N18 34 (msc y), .oct (.slice a8o ([] : List UInt8).length c8o) ([] : List UInt8), .join (RLR B6 ([]) v13), .blk N2 34 (msc m)] W) hM ?_
      clear hM
      rintro Y20 hM
      refine tF 15 [.val 0 (some 52) (.int .i64 c), .alt 1 (some 53) (.bool (c == 0)) (.bool false), .val 2 (some 54) (.bool false), .skip 3 (some 55), .skip 4 (some 56), .skip 5 (some 57), .val 6 (some 58) (.bool false), .val 7 (some 59) (.bool false), .skip 8 (some 60), .skip 9 (some 61), .skip 10 (some 62), .skip 11 (some 63), .val 12 (some 64) (.bool false), .val 13 (some 65) (.bool false), .skip 14 (some 66)] ⟨congrArg Value.bool (Hhb2.out), trivial⟩ ?_
      refine wpFrom_not (d := some 67) (by kernel_rfl) ?_
      refine tF 17 [.skip 16 (some 68)] trivial ?_
      refine wpFrom_not (d := some 69) (by kernel_rfl) ?_
      refine tF 21 [.skip 18 (some 70), .val 19 (some 71) (.bool false), .val 20 (some 12) (.bool false)] trivial ?_
      refine dF ?_
      try simp only [puts, Tk.put, Act.put, List.setIfInBounds_toArray, List.set_cons_zero, List.set_cons_succ]
      go_upto_region 11 with fail
      refine wp_region_fromM (fun W => Sep w [] [.blk N18 34 (msc y), .oct (.slice a8o ([] : List UInt8).length c8o) ([] : List UInt8), .join (RLR B6 ([]) v13), .blk N2 34 (msc m)] W) hM ?_
      clear hM
      rintro Y21 hM
      refine tF 2 [.val 0 (some 72) (pt B6 0), .val 1 (some 73) (.slice pb b.length cb)] trivial ?_
      have hq := rlHear_any b _ _ (hM.oka 2 rfl) (BF.arg hM (List.mem_of_getElem? (i := 2) rfl) HB.out (Nat.le_refl _)) HY.out
      rw [hear_no ([]) (by decide) (.inl Hhb2.out)] at hq
      refine cF (some 74) 9 #[pt B6 0, .slice pb b.length cb] ((hq).mono ?_)
      rintro e Y22 ⟨rfl, v22, hT⟩
      clear hq
      replace hM := hM.turn 2 rfl hT rfl
      clear hT
      refine tF 5 [.val 3 (some 75) (.bool false), .val 4 (some 76) (.bool false)] trivial ?_
      refine dF ?_
      try simp only [puts, Tk.put, Act.put, List.setIfInBounds_toArray, List.set_cons_zero, List.set_cons_succ]
      go_upto_region 13 with fail
      refine wp_region_fromM (fun W => Sep w [] [.blk N18 34 (msc y), .oct (.slice a8o ([] : List UInt8).length c8o) ([] : List UInt8), .join (RLR B6 ([]) v22), .blk N2 34 (msc m)] W) hM ?_
      clear hM
      rintro Y23 hM
      refine tF 1 [.val 0 (some 13) (.pointer none)] trivial ?_
      refine dF ?_
      try simp only [puts, Tk.put, Act.put, List.setIfInBounds_toArray, List.set_cons_zero, List.set_cons_succ]
      go_upto_region 14 with fail
      refine wp_region_fromM (fun W => Sep w [] [.blk N18 34 (msc y), .oct (.slice a8o ([] : List UInt8).length c8o) ([] : List UInt8), .join (RLR B6 ([]) v22), .blk N2 34 (msc m)] W) hM ?_
      clear hM
      rintro Y24 hM
      refine tF 7 [.val 0 (some 77) (.int .i64 0), .val 1 (some 78) (.bool false), .val 2 (some 79) (.bool false), .val 3 (some 80) (.bool true), .val 4 (some 81) (.bool true), .val 5 (some 82) (.pointer none), .val 6 (some 83) (.slice pb b.length cb)] trivial ?_
      refine cF (some 84) 9 #[.pointer none, .slice pb b.length cb] ((rlHear_no (.slice pb b.length cb) _).mono ?_)
      rintro e Y25 ⟨rfl, hb⟩
      replace hM := hM.below hb
      clear hb
      refine tF 12 [.val 8 (some 85) (.bool true), .val 9 (some 86) (.bool true), .val 10 (some 87) (.bool true), .val 11 (some 88) (.pointer none)] trivial ?_
      refine cF (some 89) 10 #[.pointer none] ((rlCount_no _).mono ?_)
      rintro e Y26 ⟨rfl, hb⟩
      replace hM := hM.below hb
      clear hb
      refine tF 17 [.val 13 (some 90) (.bool true), .val 14 (some 91) (.bool true), .val 15 (some 92) (.bool true), .val 16 (some 93) (.pointer none)] trivial ?_
      refine cF (some 94) 12 #[.pointer none, .pointer none] ((rlLook_no _).mono ?_)
      rintro e Y27 ⟨rfl, hb⟩
      replace hM := hM.below hb
      clear hb
      refine tF 22 [.val 18 (some 95) (.int .i64 0), .val 19 (some 96) (.bool true), .val 20 (some 97) (.bool true), .val 21 (some 4) (.bool true)] trivial ?_
      refine dF ?_
      try simp only [puts, Tk.put, Act.put, List.setIfInBounds_toArray, List.set_cons_zero, List.set_cons_succ]
      go_wp2_with fail
      go_ret
      exact ⟨rfl, hM.b⟩
    | true =>
      have Hhb2 := Lib.hid hb2
      clear hb2
      cases hb3 : y.kd == 3 with
      | false =>
        have Hhb3 := Lib.hid hb3
        clear hb3
        have hq := mailRead_any b _ _ ((HB.out.below hM.b (Nat.le_refl _)).mono (Nat.le_refl _) hM.size)
        rw [HY.out] at hq
        refine cF (some 49) 11 #[.slice pb b.length cb] ((hq).mono ?_)
        rintro e Y28 ⟨rfl, hb⟩
        clear hq
        replace hM := hM.below hb
        clear hb
        refine tF 5 [.val 2 (some 47) (.tuple #[msv y, .int .i64 c]), .val 3 (some 50) (msv y), .val 4 (some 51) (.int .i64 c)] trivial ?_
        refine rF (some 10) (pt Y28.heap.size 0) (Y28.alloc (.cells (msc noM).toArray 34)) ?_
        replace hM := hM.alloc 34 (msc noM)
        generalize World.alloc _ _ = Y29 at *
        generalize hNe : Y28.heap.size = N29 at *
        clear hNe
        have hst := sto_part (msc y) (hM.at 0 rfl) 0 34 (msv y) (msc y) rfl (by kernel_rfl) (Nat.le_of_ble_eq_true rfl) rfl rfl
        refine sF 34 (pt N29 0) (msv y) (hst) ?_
        clear hst
        replace hM := hM.set 0 (cs' := msc y) rfl rfl
        generalize World.setRow _ _ _ = Y30 at *
        refine tF 8 [.val 7 (some 11) (.int .i64 c)] trivial ?_
        refine dF ?_
        try simp only [puts, Tk.put, Act.put, List.setIfInBounds_toArray, List.set_cons_zero, List.set_cons_succ]
        go_upto_region 10 with fail
        refine wp_region_fromM (fun W => Sep w [] [.blk N29 34 (msc y), .oct (.slice a8o ([] : List UInt8).length c8o) ([] : List UInt8), .join (RLR B6 ([]) v13), .blk N2 34 (msc m)] W) hM ?_
        clear hM
        rintro Y31 hM
        refine tF 15 [.val 0 (some 52) (.int .i64 c), .alt 1 (some 53) (.bool (c == 0)) (.bool true), .val 2 (some 54) (.bool true), .val 3 (some 55) (pt N29 0), .load 4 (some 56) 3 (pt N29 0) (.int .i64 y.kd), .alt 5 (some 57) (.bool (y.kd == 3)) (.bool false), .val 6 (some 58) (.bool false), .val 7 (some 59) (.bool false), .skip 8 (some 60), .skip 9 (some 61), .skip 10 (some 62), .skip 11 (some 63), .val 12 (some 64) (.bool false), .val 13 (some 65) (.bool false), .skip 14 (some 66)] ⟨congrArg Value.bool (Hhb2.out), ld_any _ _ Tryz.underlying3 rfl (hM.at 0 rfl) 0 rfl, congrArg Value.bool (Hhb3.out), trivial⟩ ?_
        refine wpFrom_not (d := some 67) (by kernel_rfl) ?_
        refine tF 17 [.skip 16 (some 68)] trivial ?_
        refine wpFrom_not (d := some 69) (by kernel_rfl) ?_
        refine tF 21 [.skip 18 (some 70), .val 19 (some 71) (.bool false), .val 20 (some 12) (.bool false)] trivial ?_
        refine dF ?_
        try simp only [puts, Tk.put, Act.put, List.setIfInBounds_toArray, List.set_cons_zero, List.set_cons_succ]
        go_upto_region 11 with fail
        refine wp_region_fromM (fun W => Sep w [] [.blk N29 34 (msc y), .oct (.slice a8o ([] : List UInt8).length c8o) ([] : List UInt8), .join (RLR B6 ([]) v13), .blk N2 34 (msc m)] W) hM ?_
        clear hM
        rintro Y32 hM
        refine tF 2 [.val 0 (some 72) (pt B6 0), .val 1 (some 73) (.slice pb b.length cb)] trivial ?_
        have hq := rlHear_any b _ _ (hM.oka 2 rfl) (BF.arg hM (List.mem_of_getElem? (i := 2) rfl) HB.out (Nat.le_refl _)) HY.out
        rw [hear_no ([]) (by decide) (.inr (.inl Hhb3.out))] at hq
        refine cF (some 74) 9 #[pt B6 0, .slice pb b.length cb] ((hq).mono ?_)
        rintro e Y33 ⟨rfl, v33, hT⟩
        clear hq
        replace hM := hM.turn 2 rfl hT rfl
        clear hT
        refine tF 5 [.val 3 (some 75) (.bool false), .val 4 (some 76) (.bool false)] trivial ?_
        refine dF ?_
        try simp only [puts, Tk.put, Act.put, List.setIfInBounds_toArray, List.set_cons_zero, List.set_cons_succ]
        go_upto_region 13 with fail
        refine wp_region_fromM (fun W => Sep w [] [.blk N29 34 (msc y), .oct (.slice a8o ([] : List UInt8).length c8o) ([] : List UInt8), .join (RLR B6 ([]) v33), .blk N2 34 (msc m)] W) hM ?_
        clear hM
        rintro Y34 hM
        refine tF 1 [.val 0 (some 13) (.pointer none)] trivial ?_
        refine dF ?_
        try simp only [puts, Tk.put, Act.put, List.setIfInBounds_toArray, List.set_cons_zero, List.set_cons_succ]
        go_upto_region 14 with fail
        refine wp_region_fromM (fun W => Sep w [] [.blk N29 34 (msc y), .oct (.slice a8o ([] : List UInt8).length c8o) ([] : List UInt8), .join (RLR B6 ([]) v33), .blk N2 34 (msc m)] W) hM ?_
        clear hM
        rintro Y35 hM
        refine tF 7 [.val 0 (some 77) (.int .i64 0), .val 1 (some 78) (.bool false), .val 2 (some 79) (.bool false), .val 3 (some 80) (.bool true), .val 4 (some 81) (.bool true), .val 5 (some 82) (.pointer none), .val 6 (some 83) (.slice pb b.length cb)] trivial ?_
        refine cF (some 84) 9 #[.pointer none, .slice pb b.length cb] ((rlHear_no (.slice pb b.length cb) _).mono ?_)
        rintro e Y36 ⟨rfl, hb⟩
        replace hM := hM.below hb
        clear hb
        refine tF 12 [.val 8 (some 85) (.bool true), .val 9 (some 86) (.bool true), .val 10 (some 87) (.bool true), .val 11 (some 88) (.pointer none)] trivial ?_
        refine cF (some 89) 10 #[.pointer none] ((rlCount_no _).mono ?_)
        rintro e Y37 ⟨rfl, hb⟩
        replace hM := hM.below hb
        clear hb
        refine tF 17 [.val 13 (some 90) (.bool true), .val 14 (some 91) (.bool true), .val 15 (some 92) (.bool true), .val 16 (some 93) (.pointer none)] trivial ?_
        refine cF (some 94) 12 #[.pointer none, .pointer none] ((rlLook_no _).mono ?_)
        rintro e Y38 ⟨rfl, hb⟩
        replace hM := hM.below hb
        clear hb
        refine tF 22 [.val 18 (some 95) (.int .i64 0), .val 19 (some 96) (.bool true), .val 20 (some 97) (.bool true), .val 21 (some 4) (.bool true)] trivial ?_
        refine dF ?_
        try simp only [puts, Tk.put, Act.put, List.setIfInBounds_toArray, List.set_cons_zero, List.set_cons_succ]
        go_wp2_with fail
        go_ret
        exact ⟨rfl, hM.b⟩
      | true =>
        have Hhb3 := Lib.hid hb3
        clear hb3
        cases hb4 : feZ y with
        | false =>
          have Hhb4 := Lib.hid hb4
          clear hb4
          have hq := mailRead_any b _ _ ((HB.out.below hM.b (Nat.le_refl _)).mono (Nat.le_refl _) hM.size)
          rw [HY.out] at hq
          refine cF (some 49) 11 #[.slice pb b.length cb] ((hq).mono ?_)
          rintro e Y39 ⟨rfl, hb⟩
          clear hq
          replace hM := hM.below hb
          clear hb
          refine tF 5 [.val 2 (some 47) (.tuple #[msv y, .int .i64 c]), .val 3 (some 50) (msv y), .val 4 (some 51) (.int .i64 c)] trivial ?_
          refine rF (some 10) (pt Y39.heap.size 0) (Y39.alloc (.cells (msc noM).toArray 34)) ?_
          replace hM := hM.alloc 34 (msc noM)
          generalize World.alloc _ _ = Y40 at *
          generalize hNe : Y39.heap.size = N40 at *
          clear hNe
          have hst := sto_part (msc y) (hM.at 0 rfl) 0 34 (msv y) (msc y) rfl (by kernel_rfl) (Nat.le_of_ble_eq_true rfl) rfl rfl
          refine sF 34 (pt N40 0) (msv y) (hst) ?_
          clear hst
          replace hM := hM.set 0 (cs' := msc y) rfl rfl
          generalize World.setRow _ _ _ = Y41 at *
          refine tF 8 [.val 7 (some 11) (.int .i64 c)] trivial ?_
          refine dF ?_
          try simp only [puts, Tk.put, Act.put, List.setIfInBounds_toArray, List.set_cons_zero, List.set_cons_succ]
          go_upto_region 10 with fail
          refine wp_region_fromM (fun W => Sep w [] [.blk N40 34 (msc y), .oct (.slice a8o ([] : List UInt8).length c8o) ([] : List UInt8), .join (RLR B6 ([]) v13), .blk N2 34 (msc m)] W) hM ?_
          clear hM
          rintro Y42 hM
          refine tF 11 [.val 0 (some 52) (.int .i64 c), .alt 1 (some 53) (.bool (c == 0)) (.bool true), .val 2 (some 54) (.bool true), .val 3 (some 55) (pt N40 0), .load 4 (some 56) 3 (pt N40 0) (.int .i64 y.kd), .alt 5 (some 57) (.bool (y.kd == 3)) (.bool true), .val 6 (some 58) (.bool true), .val 7 (some 59) (.bool true), .val 8 (some 60) (pt N40 38), .load 9 (some 61) 24 (pt N40 38) (wv y.f0 y.f1 y.f2 y.f3), .val 10 (some 62) (wn 0)] ⟨congrArg Value.bool (Hhb2.out), ld_any _ _ Tryz.underlying3 rfl (hM.at 0 rfl) 0 rfl, congrArg Value.bool (Hhb3.out), load_part (hM.at 0 rfl) 38 (fec y) rfl _ _ Tryz.underlying24 rfl (by kernel_rfl), trivial⟩ ?_
          refine neA (.tmp 61) (.tmp 62) 24 (some 63) (fec y).toArray (wnc 0).toArray false (Eq.trans (run_feZ y _) (congrArg (fun z => Result.ok z _) (Hhb4.out))) ?_
          refine tF 15 [.val 12 (some 64) (.bool true), .val 13 (some 65) (.bool true), .val 14 (some 66) (.slice pb b.length cb)] trivial ?_
          refine cvF (.tmp 66) (some 67) (.slice pb b.length cb) (.string (txB b)) (cvT ((HB.out.below hM.b (Nat.le_refl _)).mono (Nat.le_refl _) hM.size)) ?_
          refine tF 17 [.val 16 (some 68) (.slice a8o ([] : List UInt8).length c8o)] trivial ?_
          refine cvF (.tmp 68) (some 69) (.slice a8o ([] : List UInt8).length c8o) (.string (txB ([] : List UInt8))) (cvT (hM.oka 1 rfl).octs) ?_
          refine tF 21 [.alt 18 (some 70) (.bool (!((txB b).toList == (txB ([] : List UInt8)).toList))) (.bool true), .val 19 (some 71) (.bool true), .val 20 (some 12) (.bool true)] ⟨congrArg Value.bool (tx_ne (ne_nil HY.out Hhb2.out)), trivial⟩ ?_
          refine dF ?_
          try simp only [puts, Tk.put, Act.put, List.setIfInBounds_toArray, List.set_cons_zero, List.set_cons_succ]
          go_upto_region 11 with fail
          refine wp_region_fromM (fun W => Sep w [] [.blk N40 34 (msc y), .oct (.slice a8o ([] : List UInt8).length c8o) ([] : List UInt8), .join (RLR B6 ([]) v13), .blk N2 34 (msc m)] W) hM ?_
          clear hM
          rintro Y43 hM
          refine tF 2 [.val 0 (some 72) (pt B6 0), .val 1 (some 73) (.slice pb b.length cb)] trivial ?_
          have hq := rlHear_any b _ _ (hM.oka 2 rfl) (BF.arg hM (List.mem_of_getElem? (i := 2) rfl) HB.out (Nat.le_refl _)) HY.out
          rw [hear_y1 Hhb2.out Hhb3.out Hhb4.out] at hq
          refine cF (some 74) 9 #[pt B6 0, .slice pb b.length cb] ((hq).mono ?_)
          rintro e Y44 ⟨rfl, v44, hT⟩
          clear hq
          replace hM := hM.turn 2 rfl hT rfl
          clear hT
          refine tF 5 [.val 3 (some 75) (.bool true), .val 4 (some 76) (.bool false)] trivial ?_
          refine dF ?_
          try simp only [puts, Tk.put, Act.put, List.setIfInBounds_toArray, List.set_cons_zero, List.set_cons_succ]
          go_upto_region 13 with fail
          refine wp_region_fromM (fun W => Sep w [] [.blk N40 34 (msc y), .oct (.slice a8o ([] : List UInt8).length c8o) ([] : List UInt8), .join (RLR B6 ([y]) v44), .blk N2 34 (msc m)] W) hM ?_
          clear hM
          rintro Y45 hM
          refine tF 1 [.val 0 (some 13) (.pointer none)] trivial ?_
          refine dF ?_
          try simp only [puts, Tk.put, Act.put, List.setIfInBounds_toArray, List.set_cons_zero, List.set_cons_succ]
          go_upto_region 14 with fail
          refine wp_region_fromM (fun W => Sep w [] [.blk N40 34 (msc y), .oct (.slice a8o ([] : List UInt8).length c8o) ([] : List UInt8), .join (RLR B6 ([y]) v44), .blk N2 34 (msc m)] W) hM ?_
          clear hM
          rintro Y46 hM
          refine tF 7 [.val 0 (some 77) (.int .i64 0), .val 1 (some 78) (.bool false), .val 2 (some 79) (.bool false), .val 3 (some 80) (.bool true), .val 4 (some 81) (.bool true), .val 5 (some 82) (.pointer none), .val 6 (some 83) (.slice pb b.length cb)] trivial ?_
          refine cF (some 84) 9 #[.pointer none, .slice pb b.length cb] ((rlHear_no (.slice pb b.length cb) _).mono ?_)
          rintro e Y47 ⟨rfl, hb⟩
          replace hM := hM.below hb
          clear hb
          refine tF 12 [.val 8 (some 85) (.bool true), .val 9 (some 86) (.bool true), .val 10 (some 87) (.bool true), .val 11 (some 88) (.pointer none)] trivial ?_
          refine cF (some 89) 10 #[.pointer none] ((rlCount_no _).mono ?_)
          rintro e Y48 ⟨rfl, hb⟩
          replace hM := hM.below hb
          clear hb
          refine tF 17 [.val 13 (some 90) (.bool true), .val 14 (some 91) (.bool true), .val 15 (some 92) (.bool true), .val 16 (some 93) (.pointer none)] trivial ?_
          refine cF (some 94) 12 #[.pointer none, .pointer none] ((rlLook_no _).mono ?_)
          rintro e Y49 ⟨rfl, hb⟩
          replace hM := hM.below hb
          clear hb
          refine tF 22 [.val 18 (some 95) (.int .i64 0), .val 19 (some 96) (.bool true), .val 20 (some 97) (.bool true), .val 21 (some 4) (.bool true)] trivial ?_
          refine dF ?_
          try simp only [puts, Tk.put, Act.put, List.setIfInBounds_toArray, List.set_cons_zero, List.set_cons_succ]
          go_wp2_with fail
          go_ret
          exact ⟨rfl, hM.b⟩
        | true =>
          have Hhb4 := Lib.hid hb4
          clear hb4
          have hq := mailRead_any b _ _ ((HB.out.below hM.b (Nat.le_refl _)).mono (Nat.le_refl _) hM.size)
          rw [HY.out] at hq
          refine cF (some 49) 11 #[.slice pb b.length cb] ((hq).mono ?_)
          rintro e Y50 ⟨rfl, hb⟩
          clear hq
          replace hM := hM.below hb
          clear hb
          refine tF 5 [.val 2 (some 47) (.tuple #[msv y, .int .i64 c]), .val 3 (some 50) (msv y), .val 4 (some 51) (.int .i64 c)] trivial ?_
          refine rF (some 10) (pt Y50.heap.size 0) (Y50.alloc (.cells (msc noM).toArray 34)) ?_
          replace hM := hM.alloc 34 (msc noM)
          generalize World.alloc _ _ = Y51 at *
          generalize hNe : Y50.heap.size = N51 at *
          clear hNe
          have hst := sto_part (msc y) (hM.at 0 rfl) 0 34 (msv y) (msc y) rfl (by kernel_rfl) (Nat.le_of_ble_eq_true rfl) rfl rfl
          refine sF 34 (pt N51 0) (msv y) (hst) ?_
          clear hst
          replace hM := hM.set 0 (cs' := msc y) rfl rfl
          generalize World.setRow _ _ _ = Y52 at *
          refine tF 8 [.val 7 (some 11) (.int .i64 c)] trivial ?_
          refine dF ?_
          try simp only [puts, Tk.put, Act.put, List.setIfInBounds_toArray, List.set_cons_zero, List.set_cons_succ]
          go_upto_region 10 with fail
          refine wp_region_fromM (fun W => Sep w [] [.blk N51 34 (msc y), .oct (.slice a8o ([] : List UInt8).length c8o) ([] : List UInt8), .join (RLR B6 ([]) v13), .blk N2 34 (msc m)] W) hM ?_
          clear hM
          rintro Y53 hM
          refine tF 11 [.val 0 (some 52) (.int .i64 c), .alt 1 (some 53) (.bool (c == 0)) (.bool true), .val 2 (some 54) (.bool true), .val 3 (some 55) (pt N51 0), .load 4 (some 56) 3 (pt N51 0) (.int .i64 y.kd), .alt 5 (some 57) (.bool (y.kd == 3)) (.bool true), .val 6 (some 58) (.bool true), .val 7 (some 59) (.bool true), .val 8 (some 60) (pt N51 38), .load 9 (some 61) 24 (pt N51 38) (wv y.f0 y.f1 y.f2 y.f3), .val 10 (some 62) (wn 0)] ⟨congrArg Value.bool (Hhb2.out), ld_any _ _ Tryz.underlying3 rfl (hM.at 0 rfl) 0 rfl, congrArg Value.bool (Hhb3.out), load_part (hM.at 0 rfl) 38 (fec y) rfl _ _ Tryz.underlying24 rfl (by kernel_rfl), trivial⟩ ?_
          refine neA (.tmp 61) (.tmp 62) 24 (some 63) (fec y).toArray (wnc 0).toArray true (Eq.trans (run_feZ y _) (congrArg (fun z => Result.ok z _) (Hhb4.out))) ?_
          refine tF 15 [.val 12 (some 64) (.bool false), .val 13 (some 65) (.bool false), .skip 14 (some 66)] trivial ?_
          refine wpFrom_not (d := some 67) (by kernel_rfl) ?_
          refine tF 17 [.skip 16 (some 68)] trivial ?_
          refine wpFrom_not (d := some 69) (by kernel_rfl) ?_
          refine tF 21 [.skip 18 (some 70), .val 19 (some 71) (.bool false), .val 20 (some 12) (.bool false)] trivial ?_
          refine dF ?_
          try simp only [puts, Tk.put, Act.put, List.setIfInBounds_toArray, List.set_cons_zero, List.set_cons_succ]
          go_upto_region 11 with fail
          refine wp_region_fromM (fun W => Sep w [] [.blk N51 34 (msc y), .oct (.slice a8o ([] : List UInt8).length c8o) ([] : List UInt8), .join (RLR B6 ([]) v13), .blk N2 34 (msc m)] W) hM ?_
          clear hM
          rintro Y54 hM
          refine tF 2 [.val 0 (some 72) (pt B6 0), .val 1 (some 73) (.slice pb b.length cb)] trivial ?_
          have hq := rlHear_any b _ _ (hM.oka 2 rfl) (BF.arg hM (List.mem_of_getElem? (i := 2) rfl) HB.out (Nat.le_refl _)) HY.out
          rw [hear_no ([]) (by decide) (.inr (.inr Hhb4.out))] at hq
          refine cF (some 74) 9 #[pt B6 0, .slice pb b.length cb] ((hq).mono ?_)
          rintro e Y55 ⟨rfl, v55, hT⟩
          clear hq
          replace hM := hM.turn 2 rfl hT rfl
          clear hT
          refine tF 5 [.val 3 (some 75) (.bool false), .val 4 (some 76) (.bool false)] trivial ?_
          refine dF ?_
          try simp only [puts, Tk.put, Act.put, List.setIfInBounds_toArray, List.set_cons_zero, List.set_cons_succ]
          go_upto_region 13 with fail
          refine wp_region_fromM (fun W => Sep w [] [.blk N51 34 (msc y), .oct (.slice a8o ([] : List UInt8).length c8o) ([] : List UInt8), .join (RLR B6 ([]) v55), .blk N2 34 (msc m)] W) hM ?_
          clear hM
          rintro Y56 hM
          refine tF 1 [.val 0 (some 13) (.pointer none)] trivial ?_
          refine dF ?_
          try simp only [puts, Tk.put, Act.put, List.setIfInBounds_toArray, List.set_cons_zero, List.set_cons_succ]
          go_upto_region 14 with fail
          refine wp_region_fromM (fun W => Sep w [] [.blk N51 34 (msc y), .oct (.slice a8o ([] : List UInt8).length c8o) ([] : List UInt8), .join (RLR B6 ([]) v55), .blk N2 34 (msc m)] W) hM ?_
          clear hM
          rintro Y57 hM
          refine tF 7 [.val 0 (some 77) (.int .i64 0), .val 1 (some 78) (.bool false), .val 2 (some 79) (.bool false), .val 3 (some 80) (.bool true), .val 4 (some 81) (.bool true), .val 5 (some 82) (.pointer none), .val 6 (some 83) (.slice pb b.length cb)] trivial ?_
          refine cF (some 84) 9 #[.pointer none, .slice pb b.length cb] ((rlHear_no (.slice pb b.length cb) _).mono ?_)
          rintro e Y58 ⟨rfl, hb⟩
          replace hM := hM.below hb
          clear hb
          refine tF 12 [.val 8 (some 85) (.bool true), .val 9 (some 86) (.bool true), .val 10 (some 87) (.bool true), .val 11 (some 88) (.pointer none)] trivial ?_
          refine cF (some 89) 10 #[.pointer none] ((rlCount_no _).mono ?_)
          rintro e Y59 ⟨rfl, hb⟩
          replace hM := hM.below hb
          clear hb
          refine tF 17 [.val 13 (some 90) (.bool true), .val 14 (some 91) (.bool true), .val 15 (some 92) (.bool true), .val 16 (some 93) (.pointer none)] trivial ?_
          refine cF (some 94) 12 #[.pointer none, .pointer none] ((rlLook_no _).mono ?_)
          rintro e Y60 ⟨rfl, hb⟩
          replace hM := hM.below hb
          clear hb
          refine tF 22 [.val 18 (some 95) (.int .i64 0), .val 19 (some 96) (.bool true), .val 20 (some 97) (.bool true), .val 21 (some 4) (.bool true)] trivial ?_
          refine dF ?_
          try simp only [puts, Tk.put, Act.put, List.setIfInBounds_toArray, List.set_cons_zero, List.set_cons_succ]
          go_wp2_with fail
          go_ret
          exact ⟨rfl, hM.b⟩
  | true =>
    have Hhb1 := Lib.hid hb1
    clear hb1
    cases hb5 : m.kd == 3 with
    | false =>
      have Hhb5 := Lib.hid hb5
      clear hb5
      have hq := mailPut_own m HMO.out Y7
      rw [(msg_back (beq_iff_eq.1 Hhb1.out) HMO.out).1] at hq
      refine cF (some 19) 8 #[msv m] ((hq).mono ?_)
      rintro e Y61 ⟨v61o, rfl, hO, hb⟩
      clear hq
      replace hM := hM.octN hO hb
      clear hO hb
      obtain ⟨a61o, c61o, rfl, _⟩ := (hM.oka 0 rfl).octs.slice
      refine tF 7 [.val 2 (some 17) (.tuple #[.slice a61o (encG m).length c61o, .int .i64 0]), .val 3 (some 20) (.slice a61o (encG m).length c61o), .val 4 (some 21) (.int .i64 0), .val 5 (some 6) (.slice a61o (encG m).length c61o), .val 6 (some 7) (.int .i64 0)] trivial ?_
      refine dF ?_
      try simp only [puts, Tk.put, Act.put, List.setIfInBounds_toArray, List.set_cons_zero, List.set_cons_succ]
      go_upto_region 5 with fail
      refine wp_region_fromM (fun W => Sep w [] [.oct (.slice a61o (encG m).length c61o) (encG m), .join (RLR B6 ([]) v6), .blk N2 34 (msc m)] W) hM ?_
      clear hM
      rintro Y63 hM
      refine tF 14 [.val 0 (some 22) (.int .i64 0), .val 1 (some 23) (.bool true), .val 2 (some 24) (.bool true), .val 3 (some 25) (pt N2 0), .load 4 (some 26) 3 (pt N2 0) (.int .i64 m.kd), .alt 5 (some 27) (.bool (m.kd == 3)) (.bool false), .val 6 (some 28) (.bool false), .val 7 (some 29) (.bool false), .skip 8 (some 30), .skip 9 (some 31), .skip 10 (some 32), .skip 11 (some 33), .val 12 (some 34) (.bool false), .val 13 (some 8) (.bool false)] ⟨ld_any _ _ Tryz.underlying3 rfl (hM.at 2 rfl) 0 rfl, congrArg Value.bool (Hhb5.out), trivial⟩ ?_
      refine dF ?_
      try simp only [puts, Tk.put, Act.put, List.setIfInBounds_toArray, List.set_cons_zero, List.set_cons_succ]
      go_upto_region 6 with fail
      refine wp_region_fromM (fun W => Sep w [] [.oct (.slice a61o (encG m).length c61o) (encG m), .join (RLR B6 ([]) v6), .blk N2 34 (msc m)] W) hM ?_
      clear hM
      rintro Y64 hM
      refine tF 2 [.val 0 (some 35) (pt B6 0), .val 1 (some 36) (.slice a61o (encG m).length c61o)] trivial ?_
      have hq := rlHear_any (encG m) _ _ (hM.oka 1 rfl) (BF.mine hM (i := 0) (j := 1) rfl rfl (by decide)) (msg_back (beq_iff_eq.1 Hhb1.out) HMO.out).2.2
      rw [hear_k1 Hhb5.out] at hq
      refine cF (some 37) 9 #[pt B6 0, .slice a61o (encG m).length c61o] ((hq).mono ?_)
      rintro e Y65 ⟨rfl, v65, hT⟩
      clear hq
      replace hM := hM.turn 1 rfl hT rfl
      clear hT
      refine tF 8 [.val 3 (some 38) (.bool false), .val 4 (some 39) (.bool false), .val 5 (some 40) (.bool false), .val 6 (some 41) (pt B6 0), .val 7 (some 42) (.slice a61o (encG m).length c61o)] trivial ?_
      have hq := rlHear_any (encG m) _ _ (hM.oka 1 rfl) (BF.mine hM (i := 0) (j := 1) rfl rfl (by decide)) (msg_back (beq_iff_eq.1 Hhb1.out) HMO.out).2.2
      rw [hear_k1 Hhb5.out] at hq
      refine cF (some 43) 9 #[pt B6 0, .slice a61o (encG m).length c61o] ((hq).mono ?_)
      rintro e Y66 ⟨rfl, v66, hT⟩
      clear hq
      replace hM := hM.turn 1 rfl hT rfl
      clear hT
      refine tF 10 [.val 9 (some 44) (.bool false)] trivial ?_
      refine dF ?_
      try simp only [puts, Tk.put, Act.put, List.setIfInBounds_toArray, List.set_cons_zero, List.set_cons_succ]
      go_upto_region 8 with fail
      refine wp_region_fromM (fun W => Sep w [] [.oct (.slice a61o (encG m).length c61o) (encG m), .join (RLR B6 ([]) v66), .blk N2 34 (msc m)] W) hM ?_
      clear hM
      rintro Y67 hM
      refine tF 1 [.val 0 (some 45) (pt B6 0)] trivial ?_
      refine cF (some 46) 10 #[pt B6 0] ((rlCountJ (hM.oka 1 rfl)).mono ?_)
      rintro e Y68 ⟨rfl, hb⟩
      replace hM := hM.below hb
      clear hb
      refine tF 3 [.val 2 (some 9) (.int .i64 0)] trivial ?_
      refine dF ?_
      try simp only [puts, Tk.put, Act.put, List.setIfInBounds_toArray, List.set_cons_zero, List.set_cons_succ]
      go_upto_region 9 with fail
      refine wp_region_fromM (fun W => Sep w [] [.oct (.slice a61o (encG m).length c61o) (encG m), .join (RLR B6 ([]) v66), .blk N2 34 (msc m)] W) hM ?_
      clear hM
      rintro Y69 hM
      refine tF 1 [.val 0 (some 48) (.slice pb b.length cb)] trivial ?_
      cases hb6 : c == 0 with
      | false =>
        have Hhb6 := Lib.hid hb6
        clear hb6
        have hq := mailRead_any b _ _ ((HB.out.below hM.b (Nat.le_refl _)).mono (Nat.le_refl _) hM.size)
        rw [HY.out] at hq
        refine cF (some 49) 11 #[.slice pb b.length cb] ((hq).mono ?_)
        rintro e Y70 ⟨rfl, hb⟩
        clear hq
        replace hM := hM.below hb
        clear hb
        refine tF 5 [.val 2 (some 47) (.tuple #[msv y, .int .i64 c]), .val 3 (some 50) (msv y), .val 4 (some 51) (.int .i64 c)] trivial ?_
        refine rF (some 10) (pt Y70.heap.size 0) (Y70.alloc (.cells (msc noM).toArray 34)) ?_
        replace hM := hM.alloc 34 (msc noM)
        generalize World.alloc _ _ = Y71 at *
        generalize hNe : Y70.heap.size = N71 at *
        clear hNe
        have hst := sto_part (msc y) (hM.at 0 rfl) 0 34 (msv y) (msc y) rfl (by kernel_rfl) (Nat.le_of_ble_eq_true rfl) rfl rfl
        refine sF 34 (pt N71 0) (msv y) (hst) ?_
        clear hst
        replace hM := hM.set 0 (cs' := msc y) rfl rfl
        generalize World.setRow _ _ _ = Y72 at *
        refine tF 8 [.val 7 (some 11) (.int .i64 c)] trivial ?_
        refine dF ?_
        try simp only [puts, Tk.put, Act.put, List.setIfInBounds_toArray, List.set_cons_zero, List.set_cons_succ]
        go_upto_region 10 with fail
        refine wp_region_fromM (fun W => Sep w [] [.blk N71 34 (msc y), .oct (.slice a61o (encG m).length c61o) (encG m), .join (RLR B6 ([]) v66), .blk N2 34 (msc m)] W) hM ?_
        clear hM
        rintro Y73 hM
        refine tF 15 [.val 0 (some 52) (.int .i64 c), .alt 1 (some 53) (.bool (c == 0)) (.bool false), .val 2 (some 54) (.bool false), .skip 3 (some 55), .skip 4 (some 56), .skip 5 (some 57), .val 6 (some 58) (.bool false), .val 7 (some 59) (.bool false), .skip 8 (some 60), .skip 9 (some 61), .skip 10 (some 62), .skip 11 (some 63), .val 12 (some 64) (.bool false), .val 13 (some 65) (.bool false), .skip 14 (some 66)] ⟨congrArg Value.bool (Hhb6.out), trivial⟩ ?_
        refine wpFrom_not (d := some 67) (by kernel_rfl) ?_
        refine tF 17 [.skip 16 (some 68)] trivial ?_
        refine wpFrom_not (d := some 69) (by kernel_rfl) ?_
        refine tF 21 [.skip 18 (some 70), .val 19 (some 71) (.bool false), .val 20 (some 12) (.bool false)] trivial ?_
        refine dF ?_
        try simp only [puts, Tk.put, Act.put, List.setIfInBounds_toArray, List.set_cons_zero, List.set_cons_succ]
        go_upto_region 11 with fail
        refine wp_region_fromM (fun W => Sep w [] [.blk N71 34 (msc y), .oct (.slice a61o (encG m).length c61o) (encG m), .join (RLR B6 ([]) v66), .blk N2 34 (msc m)] W) hM ?_
        clear hM
        rintro Y74 hM
        refine tF 2 [.val 0 (some 72) (pt B6 0), .val 1 (some 73) (.slice pb b.length cb)] trivial ?_
        have hq := rlHear_any b _ _ (hM.oka 2 rfl) (BF.arg hM (List.mem_of_getElem? (i := 2) rfl) HB.out (Nat.le_refl _)) HY.out
        rw [hear_no ([]) (by decide) (.inl Hhb6.out)] at hq
        refine cF (some 74) 9 #[pt B6 0, .slice pb b.length cb] ((hq).mono ?_)
        rintro e Y75 ⟨rfl, v75, hT⟩
        clear hq
        replace hM := hM.turn 2 rfl hT rfl
        clear hT
        refine tF 5 [.val 3 (some 75) (.bool false), .val 4 (some 76) (.bool false)] trivial ?_
        refine dF ?_
        try simp only [puts, Tk.put, Act.put, List.setIfInBounds_toArray, List.set_cons_zero, List.set_cons_succ]
        go_upto_region 13 with fail
        refine wp_region_fromM (fun W => Sep w [] [.blk N71 34 (msc y), .oct (.slice a61o (encG m).length c61o) (encG m), .join (RLR B6 ([]) v75), .blk N2 34 (msc m)] W) hM ?_
        clear hM
        rintro Y76 hM
        refine tF 1 [.val 0 (some 13) (.pointer none)] trivial ?_
        refine dF ?_
        try simp only [puts, Tk.put, Act.put, List.setIfInBounds_toArray, List.set_cons_zero, List.set_cons_succ]
        go_upto_region 14 with fail
        refine wp_region_fromM (fun W => Sep w [] [.blk N71 34 (msc y), .oct (.slice a61o (encG m).length c61o) (encG m), .join (RLR B6 ([]) v75), .blk N2 34 (msc m)] W) hM ?_
        clear hM
        rintro Y77 hM
        refine tF 7 [.val 0 (some 77) (.int .i64 0), .val 1 (some 78) (.bool false), .val 2 (some 79) (.bool false), .val 3 (some 80) (.bool true), .val 4 (some 81) (.bool true), .val 5 (some 82) (.pointer none), .val 6 (some 83) (.slice pb b.length cb)] trivial ?_
        refine cF (some 84) 9 #[.pointer none, .slice pb b.length cb] ((rlHear_no (.slice pb b.length cb) _).mono ?_)
        rintro e Y78 ⟨rfl, hb⟩
        replace hM := hM.below hb
        clear hb
        refine tF 12 [.val 8 (some 85) (.bool true), .val 9 (some 86) (.bool true), .val 10 (some 87) (.bool true), .val 11 (some 88) (.pointer none)] trivial ?_
        refine cF (some 89) 10 #[.pointer none] ((rlCount_no _).mono ?_)
        rintro e Y79 ⟨rfl, hb⟩
        replace hM := hM.below hb
        clear hb
        refine tF 17 [.val 13 (some 90) (.bool true), .val 14 (some 91) (.bool true), .val 15 (some 92) (.bool true), .val 16 (some 93) (.pointer none)] trivial ?_
        refine cF (some 94) 12 #[.pointer none, .pointer none] ((rlLook_no _).mono ?_)
        rintro e Y80 ⟨rfl, hb⟩
        replace hM := hM.below hb
        clear hb
        refine tF 22 [.val 18 (some 95) (.int .i64 0), .val 19 (some 96) (.bool true), .val 20 (some 97) (.bool true), .val 21 (some 4) (.bool true)] trivial ?_
        refine dF ?_
        try simp only [puts, Tk.put, Act.put, List.setIfInBounds_toArray, List.set_cons_zero, List.set_cons_succ]
        go_wp2_with fail
        go_ret
        exact ⟨rfl, hM.b⟩
      | true =>
        have Hhb6 := Lib.hid hb6
        clear hb6
        cases hb7 : y.kd == 3 with
        | false =>
          have Hhb7 := Lib.hid hb7
          clear hb7
          have hq := mailRead_any b _ _ ((HB.out.below hM.b (Nat.le_refl _)).mono (Nat.le_refl _) hM.size)
          rw [HY.out] at hq
          refine cF (some 49) 11 #[.slice pb b.length cb] ((hq).mono ?_)
          rintro e Y81 ⟨rfl, hb⟩
          clear hq
          replace hM := hM.below hb
          clear hb
          refine tF 5 [.val 2 (some 47) (.tuple #[msv y, .int .i64 c]), .val 3 (some 50) (msv y), .val 4 (some 51) (.int .i64 c)] trivial ?_
          refine rF (some 10) (pt Y81.heap.size 0) (Y81.alloc (.cells (msc noM).toArray 34)) ?_
          replace hM := hM.alloc 34 (msc noM)
          generalize World.alloc _ _ = Y82 at *
          generalize hNe : Y81.heap.size = N82 at *
          clear hNe
          have hst := sto_part (msc y) (hM.at 0 rfl) 0 34 (msv y) (msc y) rfl (by kernel_rfl) (Nat.le_of_ble_eq_true rfl) rfl rfl
          refine sF 34 (pt N82 0) (msv y) (hst) ?_
          clear hst
          replace hM := hM.set 0 (cs' := msc y) rfl rfl
          generalize World.setRow _ _ _ = Y83 at *
          refine tF 8 [.val 7 (some 11) (.int .i64 c)] trivial ?_
          refine dF ?_
          try simp only [puts, Tk.put, Act.put, List.setIfInBounds_toArray, List.set_cons_zero, List.set_cons_succ]
          go_upto_region 10 with fail
          refine wp_region_fromM (fun W => Sep w [] [.blk N82 34 (msc y), .oct (.slice a61o (encG m).length c61o) (encG m), .join (RLR B6 ([]) v66), .blk N2 34 (msc m)] W) hM ?_
          clear hM
          rintro Y84 hM
          refine tF 15 [.val 0 (some 52) (.int .i64 c), .alt 1 (some 53) (.bool (c == 0)) (.bool true), .val 2 (some 54) (.bool true), .val 3 (some 55) (pt N82 0), .load 4 (some 56) 3 (pt N82 0) (.int .i64 y.kd), .alt 5 (some 57) (.bool (y.kd == 3)) (.bool false), .val 6 (some 58) (.bool false), .val 7 (some 59) (.bool false), .skip 8 (some 60), .skip 9 (some 61), .skip 10 (some 62), .skip 11 (some 63), .val 12 (some 64) (.bool false), .val 13 (some 65) (.bool false), .skip 14 (some 66)] ⟨congrArg Value.bool (Hhb6.out), ld_any _ _ Tryz.underlying3 rfl (hM.at 0 rfl) 0 rfl, congrArg Value.bool (Hhb7.out), trivial⟩ ?_
          refine wpFrom_not (d := some 67) (by kernel_rfl) ?_
          refine tF 17 [.skip 16 (some 68)] trivial ?_
          refine wpFrom_not (d := some 69) (by kernel_rfl) ?_
          refine tF 21 [.skip 18 (some 70), .val 19 (some 71) (.bool false), .val 20 (some 12) (.bool false)] trivial ?_
          refine dF ?_
          try simp only [puts, Tk.put, Act.put, List.setIfInBounds_toArray, List.set_cons_zero, List.set_cons_succ]
          go_upto_region 11 with fail
          refine wp_region_fromM (fun W => Sep w [] [.blk N82 34 (msc y), .oct (.slice a61o (encG m).length c61o) (encG m), .join (RLR B6 ([]) v66), .blk N2 34 (msc m)] W) hM ?_
          clear hM
          rintro Y85 hM
          refine tF 2 [.val 0 (some 72) (pt B6 0), .val 1 (some 73) (.slice pb b.length cb)] trivial ?_
          have hq := rlHear_any b _ _ (hM.oka 2 rfl) (BF.arg hM (List.mem_of_getElem? (i := 2) rfl) HB.out (Nat.le_refl _)) HY.out
          rw [hear_no ([]) (by decide) (.inr (.inl Hhb7.out))] at hq
          refine cF (some 74) 9 #[pt B6 0, .slice pb b.length cb] ((hq).mono ?_)
          rintro e Y86 ⟨rfl, v86, hT⟩
          clear hq
          replace hM := hM.turn 2 rfl hT rfl
          clear hT
          refine tF 5 [.val 3 (some 75) (.bool false), .val 4 (some 76) (.bool false)] trivial ?_
          refine dF ?_
          try simp only [puts, Tk.put, Act.put, List.setIfInBounds_toArray, List.set_cons_zero, List.set_cons_succ]
          go_upto_region 13 with fail
          refine wp_region_fromM (fun W => Sep w [] [.blk N82 34 (msc y), .oct (.slice a61o (encG m).length c61o) (encG m), .join (RLR B6 ([]) v86), .blk N2 34 (msc m)] W) hM ?_
          clear hM
          rintro Y87 hM
          refine tF 1 [.val 0 (some 13) (.pointer none)] trivial ?_
          refine dF ?_
          try simp only [puts, Tk.put, Act.put, List.setIfInBounds_toArray, List.set_cons_zero, List.set_cons_succ]
          go_upto_region 14 with fail
          refine wp_region_fromM (fun W => Sep w [] [.blk N82 34 (msc y), .oct (.slice a61o (encG m).length c61o) (encG m), .join (RLR B6 ([]) v86), .blk N2 34 (msc m)] W) hM ?_
          clear hM
          rintro Y88 hM
          refine tF 7 [.val 0 (some 77) (.int .i64 0), .val 1 (some 78) (.bool false), .val 2 (some 79) (.bool false), .val 3 (some 80) (.bool true), .val 4 (some 81) (.bool true), .val 5 (some 82) (.pointer none), .val 6 (some 83) (.slice pb b.length cb)] trivial ?_
          refine cF (some 84) 9 #[.pointer none, .slice pb b.length cb] ((rlHear_no (.slice pb b.length cb) _).mono ?_)
          rintro e Y89 ⟨rfl, hb⟩
          replace hM := hM.below hb
          clear hb
          refine tF 12 [.val 8 (some 85) (.bool true), .val 9 (some 86) (.bool true), .val 10 (some 87) (.bool true), .val 11 (some 88) (.pointer none)] trivial ?_
          refine cF (some 89) 10 #[.pointer none] ((rlCount_no _).mono ?_)
          rintro e Y90 ⟨rfl, hb⟩
          replace hM := hM.below hb
          clear hb
          refine tF 17 [.val 13 (some 90) (.bool true), .val 14 (some 91) (.bool true), .val 15 (some 92) (.bool true), .val 16 (some 93) (.pointer none)] trivial ?_
          refine cF (some 94) 12 #[.pointer none, .pointer none] ((rlLook_no _).mono ?_)
          rintro e Y91 ⟨rfl, hb⟩
          replace hM := hM.below hb
          clear hb
          refine tF 22 [.val 18 (some 95) (.int .i64 0), .val 19 (some 96) (.bool true), .val 20 (some 97) (.bool true), .val 21 (some 4) (.bool true)] trivial ?_
          refine dF ?_
          try simp only [puts, Tk.put, Act.put, List.setIfInBounds_toArray, List.set_cons_zero, List.set_cons_succ]
          go_wp2_with fail
          go_ret
          exact ⟨rfl, hM.b⟩
        | true =>
          have Hhb7 := Lib.hid hb7
          clear hb7
          cases hb8 : feZ y with
          | false =>
            have Hhb8 := Lib.hid hb8
            clear hb8
            have hq := mailRead_any b _ _ ((HB.out.below hM.b (Nat.le_refl _)).mono (Nat.le_refl _) hM.size)
            rw [HY.out] at hq
            refine cF (some 49) 11 #[.slice pb b.length cb] ((hq).mono ?_)
            rintro e Y92 ⟨rfl, hb⟩
            clear hq
            replace hM := hM.below hb
            clear hb
            refine tF 5 [.val 2 (some 47) (.tuple #[msv y, .int .i64 c]), .val 3 (some 50) (msv y), .val 4 (some 51) (.int .i64 c)] trivial ?_
            refine rF (some 10) (pt Y92.heap.size 0) (Y92.alloc (.cells (msc noM).toArray 34)) ?_
            replace hM := hM.alloc 34 (msc noM)
            generalize World.alloc _ _ = Y93 at *
            generalize hNe : Y92.heap.size = N93 at *
            clear hNe
            have hst := sto_part (msc y) (hM.at 0 rfl) 0 34 (msv y) (msc y) rfl (by kernel_rfl) (Nat.le_of_ble_eq_true rfl) rfl rfl
            refine sF 34 (pt N93 0) (msv y) (hst) ?_
            clear hst
            replace hM := hM.set 0 (cs' := msc y) rfl rfl
            generalize World.setRow _ _ _ = Y94 at *
            refine tF 8 [.val 7 (some 11) (.int .i64 c)] trivial ?_
            refine dF ?_
            try simp only [puts, Tk.put, Act.put, List.setIfInBounds_toArray, List.set_cons_zero, List.set_cons_succ]
            go_upto_region 10 with fail
            refine wp_region_fromM (fun W => Sep w [] [.blk N93 34 (msc y), .oct (.slice a61o (encG m).length c61o) (encG m), .join (RLR B6 ([]) v66), .blk N2 34 (msc m)] W) hM ?_
            clear hM
            rintro Y95 hM
            refine tF 11 [.val 0 (some 52) (.int .i64 c), .alt 1 (some 53) (.bool (c == 0)) (.bool true), .val 2 (some 54) (.bool true), .val 3 (some 55) (pt N93 0), .load 4 (some 56) 3 (pt N93 0) (.int .i64 y.kd), .alt 5 (some 57) (.bool (y.kd == 3)) (.bool true), .val 6 (some 58) (.bool true), .val 7 (some 59) (.bool true), .val 8 (some 60) (pt N93 38), .load 9 (some 61) 24 (pt N93 38) (wv y.f0 y.f1 y.f2 y.f3), .val 10 (some 62) (wn 0)] ⟨congrArg Value.bool (Hhb6.out), ld_any _ _ Tryz.underlying3 rfl (hM.at 0 rfl) 0 rfl, congrArg Value.bool (Hhb7.out), load_part (hM.at 0 rfl) 38 (fec y) rfl _ _ Tryz.underlying24 rfl (by kernel_rfl), trivial⟩ ?_
            refine neA (.tmp 61) (.tmp 62) 24 (some 63) (fec y).toArray (wnc 0).toArray false (Eq.trans (run_feZ y _) (congrArg (fun z => Result.ok z _) (Hhb8.out))) ?_
            refine tF 15 [.val 12 (some 64) (.bool true), .val 13 (some 65) (.bool true), .val 14 (some 66) (.slice pb b.length cb)] trivial ?_
            refine cvF (.tmp 66) (some 67) (.slice pb b.length cb) (.string (txB b)) (cvT ((HB.out.below hM.b (Nat.le_refl _)).mono (Nat.le_refl _) hM.size)) ?_
            refine tF 17 [.val 16 (some 68) (.slice a61o (encG m).length c61o)] trivial ?_
            refine cvF (.tmp 68) (some 69) (.slice a61o (encG m).length c61o) (.string (txB (encG m))) (cvT (hM.oka 1 rfl).octs) ?_
            refine tF 21 [.alt 18 (some 70) (.bool (!((txB b).toList == (txB (encG m)).toList))) (.bool true), .val 19 (some 71) (.bool true), .val 20 (some 12) (.bool true)] ⟨congrArg Value.bool (tx_ne (ne_kd HY.out Hhb7.out (beq_iff_eq.1 Hhb1.out) HMO.out Hhb5.out)), trivial⟩ ?_
            refine dF ?_
            try simp only [puts, Tk.put, Act.put, List.setIfInBounds_toArray, List.set_cons_zero, List.set_cons_succ]
            go_upto_region 11 with fail
            refine wp_region_fromM (fun W => Sep w [] [.blk N93 34 (msc y), .oct (.slice a61o (encG m).length c61o) (encG m), .join (RLR B6 ([]) v66), .blk N2 34 (msc m)] W) hM ?_
            clear hM
            rintro Y96 hM
            refine tF 2 [.val 0 (some 72) (pt B6 0), .val 1 (some 73) (.slice pb b.length cb)] trivial ?_
            have hq := rlHear_any b _ _ (hM.oka 2 rfl) (BF.arg hM (List.mem_of_getElem? (i := 2) rfl) HB.out (Nat.le_refl _)) HY.out
            rw [hear_y1 Hhb6.out Hhb7.out Hhb8.out] at hq
            refine cF (some 74) 9 #[pt B6 0, .slice pb b.length cb] ((hq).mono ?_)
            rintro e Y97 ⟨rfl, v97, hT⟩
            clear hq
            replace hM := hM.turn 2 rfl hT rfl
            clear hT
            refine tF 5 [.val 3 (some 75) (.bool true), .val 4 (some 76) (.bool false)] trivial ?_
            refine dF ?_
            try simp only [puts, Tk.put, Act.put, List.setIfInBounds_toArray, List.set_cons_zero, List.set_cons_succ]
            go_upto_region 13 with fail
            refine wp_region_fromM (fun W => Sep w [] [.blk N93 34 (msc y), .oct (.slice a61o (encG m).length c61o) (encG m), .join (RLR B6 ([y]) v97), .blk N2 34 (msc m)] W) hM ?_
            clear hM
            rintro Y98 hM
            refine tF 1 [.val 0 (some 13) (.pointer none)] trivial ?_
            refine dF ?_
            try simp only [puts, Tk.put, Act.put, List.setIfInBounds_toArray, List.set_cons_zero, List.set_cons_succ]
            go_upto_region 14 with fail
            refine wp_region_fromM (fun W => Sep w [] [.blk N93 34 (msc y), .oct (.slice a61o (encG m).length c61o) (encG m), .join (RLR B6 ([y]) v97), .blk N2 34 (msc m)] W) hM ?_
            clear hM
            rintro Y99 hM
            refine tF 7 [.val 0 (some 77) (.int .i64 0), .val 1 (some 78) (.bool false), .val 2 (some 79) (.bool false), .val 3 (some 80) (.bool true), .val 4 (some 81) (.bool true), .val 5 (some 82) (.pointer none), .val 6 (some 83) (.slice pb b.length cb)] trivial ?_
            refine cF (some 84) 9 #[.pointer none, .slice pb b.length cb] ((rlHear_no (.slice pb b.length cb) _).mono ?_)
            rintro e Y100 ⟨rfl, hb⟩
            replace hM := hM.below hb
            clear hb
            refine tF 12 [.val 8 (some 85) (.bool true), .val 9 (some 86) (.bool true), .val 10 (some 87) (.bool true), .val 11 (some 88) (.pointer none)] trivial ?_
            refine cF (some 89) 10 #[.pointer none] ((rlCount_no _).mono ?_)
            rintro e Y101 ⟨rfl, hb⟩
            replace hM := hM.below hb
            clear hb
            refine tF 17 [.val 13 (some 90) (.bool true), .val 14 (some 91) (.bool true), .val 15 (some 92) (.bool true), .val 16 (some 93) (.pointer none)] trivial ?_
            refine cF (some 94) 12 #[.pointer none, .pointer none] ((rlLook_no _).mono ?_)
            rintro e Y102 ⟨rfl, hb⟩
            replace hM := hM.below hb
            clear hb
            refine tF 22 [.val 18 (some 95) (.int .i64 0), .val 19 (some 96) (.bool true), .val 20 (some 97) (.bool true), .val 21 (some 4) (.bool true)] trivial ?_
            refine dF ?_
            try simp only [puts, Tk.put, Act.put, List.setIfInBounds_toArray, List.set_cons_zero, List.set_cons_succ]
            go_wp2_with fail
            go_ret
            exact ⟨rfl, hM.b⟩
          | true =>
            have Hhb8 := Lib.hid hb8
            clear hb8
            have hq := mailRead_any b _ _ ((HB.out.below hM.b (Nat.le_refl _)).mono (Nat.le_refl _) hM.size)
            rw [HY.out] at hq
            refine cF (some 49) 11 #[.slice pb b.length cb] ((hq).mono ?_)
            rintro e Y103 ⟨rfl, hb⟩
            clear hq
            replace hM := hM.below hb
            clear hb
            refine tF 5 [.val 2 (some 47) (.tuple #[msv y, .int .i64 c]), .val 3 (some 50) (msv y), .val 4 (some 51) (.int .i64 c)] trivial ?_
            refine rF (some 10) (pt Y103.heap.size 0) (Y103.alloc (.cells (msc noM).toArray 34)) ?_
            replace hM := hM.alloc 34 (msc noM)
            generalize World.alloc _ _ = Y104 at *
            generalize hNe : Y103.heap.size = N104 at *
            clear hNe
            have hst := sto_part (msc y) (hM.at 0 rfl) 0 34 (msv y) (msc y) rfl (by kernel_rfl) (Nat.le_of_ble_eq_true rfl) rfl rfl
            refine sF 34 (pt N104 0) (msv y) (hst) ?_
            clear hst
            replace hM := hM.set 0 (cs' := msc y) rfl rfl
            generalize World.setRow _ _ _ = Y105 at *
            refine tF 8 [.val 7 (some 11) (.int .i64 c)] trivial ?_
            refine dF ?_
            try simp only [puts, Tk.put, Act.put, List.setIfInBounds_toArray, List.set_cons_zero, List.set_cons_succ]
            go_upto_region 10 with fail
            refine wp_region_fromM (fun W => Sep w [] [.blk N104 34 (msc y), .oct (.slice a61o (encG m).length c61o) (encG m), .join (RLR B6 ([]) v66), .blk N2 34 (msc m)] W) hM ?_
            clear hM
            rintro Y106 hM
            refine tF 11 [.val 0 (some 52) (.int .i64 c), .alt 1 (some 53) (.bool (c == 0)) (.bool true), .val 2 (some 54) (.bool true), .val 3 (some 55) (pt N104 0), .load 4 (some 56) 3 (pt N104 0) (.int .i64 y.kd), .alt 5 (some 57) (.bool (y.kd == 3)) (.bool true), .val 6 (some 58) (.bool true), .val 7 (some 59) (.bool true), .val 8 (some 60) (pt N104 38), .load 9 (some 61) 24 (pt N104 38) (wv y.f0 y.f1 y.f2 y.f3), .val 10 (some 62) (wn 0)] ⟨congrArg Value.bool (Hhb6.out), ld_any _ _ Tryz.underlying3 rfl (hM.at 0 rfl) 0 rfl, congrArg Value.bool (Hhb7.out), load_part (hM.at 0 rfl) 38 (fec y) rfl _ _ Tryz.underlying24 rfl (by kernel_rfl), trivial⟩ ?_
            refine neA (.tmp 61) (.tmp 62) 24 (some 63) (fec y).toArray (wnc 0).toArray true (Eq.trans (run_feZ y _) (congrArg (fun z => Result.ok z _) (Hhb8.out))) ?_
            refine tF 15 [.val 12 (some 64) (.bool false), .val 13 (some 65) (.bool false), .skip 14 (some 66)] trivial ?_
            refine wpFrom_not (d := some 67) (by kernel_rfl) ?_
            refine tF 17 [.skip 16 (some 68)] trivial ?_
            refine wpFrom_not (d := some 69) (by kernel_rfl) ?_
            refine tF 21 [.skip 18 (some 70), .val 19 (some 71) (.bool false), .val 20 (some 12) (.bool false)] trivial ?_
            refine dF ?_
            try simp only [puts, Tk.put, Act.put, List.setIfInBounds_toArray, List.set_cons_zero, List.set_cons_succ]
            go_upto_region 11 with fail
            refine wp_region_fromM (fun W => Sep w [] [.blk N104 34 (msc y), .oct (.slice a61o (encG m).length c61o) (encG m), .join (RLR B6 ([]) v66), .blk N2 34 (msc m)] W) hM ?_
            clear hM
            rintro Y107 hM
            refine tF 2 [.val 0 (some 72) (pt B6 0), .val 1 (some 73) (.slice pb b.length cb)] trivial ?_
            have hq := rlHear_any b _ _ (hM.oka 2 rfl) (BF.arg hM (List.mem_of_getElem? (i := 2) rfl) HB.out (Nat.le_refl _)) HY.out
            rw [hear_no ([]) (by decide) (.inr (.inr Hhb8.out))] at hq
            refine cF (some 74) 9 #[pt B6 0, .slice pb b.length cb] ((hq).mono ?_)
            rintro e Y108 ⟨rfl, v108, hT⟩
            clear hq
            replace hM := hM.turn 2 rfl hT rfl
            clear hT
            refine tF 5 [.val 3 (some 75) (.bool false), .val 4 (some 76) (.bool false)] trivial ?_
            refine dF ?_
            try simp only [puts, Tk.put, Act.put, List.setIfInBounds_toArray, List.set_cons_zero, List.set_cons_succ]
            go_upto_region 13 with fail
            refine wp_region_fromM (fun W => Sep w [] [.blk N104 34 (msc y), .oct (.slice a61o (encG m).length c61o) (encG m), .join (RLR B6 ([]) v108), .blk N2 34 (msc m)] W) hM ?_
            clear hM
            rintro Y109 hM
            refine tF 1 [.val 0 (some 13) (.pointer none)] trivial ?_
            refine dF ?_
            try simp only [puts, Tk.put, Act.put, List.setIfInBounds_toArray, List.set_cons_zero, List.set_cons_succ]
            go_upto_region 14 with fail
            refine wp_region_fromM (fun W => Sep w [] [.blk N104 34 (msc y), .oct (.slice a61o (encG m).length c61o) (encG m), .join (RLR B6 ([]) v108), .blk N2 34 (msc m)] W) hM ?_
            clear hM
            rintro Y110 hM
            refine tF 7 [.val 0 (some 77) (.int .i64 0), .val 1 (some 78) (.bool false), .val 2 (some 79) (.bool false), .val 3 (some 80) (.bool true), .val 4 (some 81) (.bool true), .val 5 (some 82) (.pointer none), .val 6 (some 83) (.slice pb b.length cb)] trivial ?_
            refine cF (some 84) 9 #[.pointer none, .slice pb b.length cb] ((rlHear_no (.slice pb b.length cb) _).mono ?_)
            rintro e Y111 ⟨rfl, hb⟩
            replace hM := hM.below hb
            clear hb
            refine tF 12 [.val 8 (some 85) (.bool true), .val 9 (some 86) (.bool true), .val 10 (some 87) (.bool true), .val 11 (some 88) (.pointer none)] trivial ?_
            refine cF (some 89) 10 #[.pointer none] ((rlCount_no _).mono ?_)
            rintro e Y112 ⟨rfl, hb⟩
            replace hM := hM.below hb
            clear hb
            refine tF 17 [.val 13 (some 90) (.bool true), .val 14 (some 91) (.bool true), .val 15 (some 92) (.bool true), .val 16 (some 93) (.pointer none)] trivial ?_
            refine cF (some 94) 12 #[.pointer none, .pointer none] ((rlLook_no _).mono ?_)
            rintro e Y113 ⟨rfl, hb⟩
            replace hM := hM.below hb
            clear hb
            refine tF 22 [.val 18 (some 95) (.int .i64 0), .val 19 (some 96) (.bool true), .val 20 (some 97) (.bool true), .val 21 (some 4) (.bool true)] trivial ?_
            refine dF ?_
            try simp only [puts, Tk.put, Act.put, List.setIfInBounds_toArray, List.set_cons_zero, List.set_cons_succ]
            go_wp2_with fail
            go_ret
            exact ⟨rfl, hM.b⟩
    | true =>
      have Hhb5 := Lib.hid hb5
      clear hb5
      cases hb9 : feZ m with
      | false =>
        have Hhb9 := Lib.hid hb9
        clear hb9
        have hq := mailPut_own m HMO.out Y7
        rw [(msg_back (beq_iff_eq.1 Hhb1.out) HMO.out).1] at hq
        refine cF (some 19) 8 #[msv m] ((hq).mono ?_)
        rintro e Y114 ⟨v114o, rfl, hO, hb⟩
        clear hq
        replace hM := hM.octN hO hb
        clear hO hb
        obtain ⟨a114o, c114o, rfl, _⟩ := (hM.oka 0 rfl).octs.slice
        refine tF 7 [.val 2 (some 17) (.tuple #[.slice a114o (encG m).length c114o, .int .i64 0]), .val 3 (some 20) (.slice a114o (encG m).length c114o), .val 4 (some 21) (.int .i64 0), .val 5 (some 6) (.slice a114o (encG m).length c114o), .val 6 (some 7) (.int .i64 0)] trivial ?_
        refine dF ?_
        try simp only [puts, Tk.put, Act.put, List.setIfInBounds_toArray, List.set_cons_zero, List.set_cons_succ]
        go_upto_region 5 with fail
        refine wp_region_fromM (fun W => Sep w [] [.oct (.slice a114o (encG m).length c114o) (encG m), .join (RLR B6 ([]) v6), .blk N2 34 (msc m)] W) hM ?_
        clear hM
        rintro Y116 hM
        refine tF 11 [.val 0 (some 22) (.int .i64 0), .val 1 (some 23) (.bool true), .val 2 (some 24) (.bool true), .val 3 (some 25) (pt N2 0), .load 4 (some 26) 3 (pt N2 0) (.int .i64 m.kd), .alt 5 (some 27) (.bool (m.kd == 3)) (.bool true), .val 6 (some 28) (.bool true), .val 7 (some 29) (.bool true), .val 8 (some 30) (pt N2 38), .load 9 (some 31) 24 (pt N2 38) (wv m.f0 m.f1 m.f2 m.f3), .val 10 (some 32) (wn 0)] ⟨ld_any _ _ Tryz.underlying3 rfl (hM.at 2 rfl) 0 rfl, congrArg Value.bool (Hhb5.out), load_part (hM.at 2 rfl) 38 (fec m) rfl _ _ Tryz.underlying24 rfl (by kernel_rfl), trivial⟩ ?_
        refine neA (.tmp 31) (.tmp 32) 24 (some 33) (fec m).toArray (wnc 0).toArray false (Eq.trans (run_feZ m _) (congrArg (fun z => Result.ok z _) (Hhb9.out))) ?_
        refine tF 14 [.val 12 (some 34) (.bool true), .val 13 (some 8) (.bool true)] trivial ?_
        refine dF ?_
        try simp only [puts, Tk.put, Act.put, List.setIfInBounds_toArray, List.set_cons_zero, List.set_cons_succ]
        go_upto_region 6 with fail
        refine wp_region_fromM (fun W => Sep w [] [.oct (.slice a114o (encG m).length c114o) (encG m), .join (RLR B6 ([]) v6), .blk N2 34 (msc m)] W) hM ?_
        clear hM
        rintro Y117 hM
        refine tF 2 [.val 0 (some 35) (pt B6 0), .val 1 (some 36) (.slice a114o (encG m).length c114o)] trivial ?_
        have hq := rlHear_any (encG m) _ _ (hM.oka 1 rfl) (BF.mine hM (i := 0) (j := 1) rfl rfl (by decide)) (msg_back (beq_iff_eq.1 Hhb1.out) HMO.out).2.2
        rw [hear_d1 Hhb5.out Hhb9.out] at hq
        refine cF (some 37) 9 #[pt B6 0, .slice a114o (encG m).length c114o] ((hq).mono ?_)
        rintro e Y118 ⟨rfl, v118, hT⟩
        clear hq
        replace hM := hM.turn 1 rfl hT rfl
        clear hT
        refine tF 8 [.val 3 (some 38) (.bool true), .val 4 (some 39) (.bool false), .val 5 (some 40) (.bool false), .val 6 (some 41) (pt B6 0), .val 7 (some 42) (.slice a114o (encG m).length c114o)] trivial ?_
        have hq := rlHear_any (encG m) _ _ (hM.oka 1 rfl) (BF.mine hM (i := 0) (j := 1) rfl rfl (by decide)) (msg_back (beq_iff_eq.1 Hhb1.out) HMO.out).2.2
        rw [hear_d2 Hhb5.out Hhb9.out] at hq
        refine cF (some 43) 9 #[pt B6 0, .slice a114o (encG m).length c114o] ((hq).mono ?_)
        rintro e Y119 ⟨rfl, v119, hT⟩
        clear hq
        replace hM := hM.turn 1 rfl hT rfl
        clear hT
        refine tF 10 [.val 9 (some 44) (.bool false)] trivial ?_
        refine dF ?_
        try simp only [puts, Tk.put, Act.put, List.setIfInBounds_toArray, List.set_cons_zero, List.set_cons_succ]
        go_upto_region 8 with fail
        refine wp_region_fromM (fun W => Sep w [] [.oct (.slice a114o (encG m).length c114o) (encG m), .join (RLR B6 ([plainM m]) v119), .blk N2 34 (msc m)] W) hM ?_
        clear hM
        rintro Y120 hM
        refine tF 1 [.val 0 (some 45) (pt B6 0)] trivial ?_
        refine cF (some 46) 10 #[pt B6 0] ((rlCountJ (hM.oka 1 rfl)).mono ?_)
        rintro e Y121 ⟨rfl, hb⟩
        replace hM := hM.below hb
        clear hb
        refine tF 3 [.val 2 (some 9) (.int .i64 1)] trivial ?_
        refine dF ?_
        try simp only [puts, Tk.put, Act.put, List.setIfInBounds_toArray, List.set_cons_zero, List.set_cons_succ]
        go_upto_region 9 with fail
        refine wp_region_fromM (fun W => Sep w [] [.oct (.slice a114o (encG m).length c114o) (encG m), .join (RLR B6 ([plainM m]) v119), .blk N2 34 (msc m)] W) hM ?_
        clear hM
        rintro Y122 hM
        refine tF 1 [.val 0 (some 48) (.slice pb b.length cb)] trivial ?_
        cases hb10 : c == 0 with
        | false =>
          have Hhb10 := Lib.hid hb10
          clear hb10
          have hq := mailRead_any b _ _ ((HB.out.below hM.b (Nat.le_refl _)).mono (Nat.le_refl _) hM.size)
          rw [HY.out] at hq
          refine cF (some 49) 11 #[.slice pb b.length cb] ((hq).mono ?_)
          rintro e Y123 ⟨rfl, hb⟩
          clear hq
          replace hM := hM.below hb
          clear hb
          refine tF 5 [.val 2 (some 47) (.tuple #[msv y, .int .i64 c]), .val 3 (some 50) (msv y), .val 4 (some 51) (.int .i64 c)] trivial ?_
          refine rF (some 10) (pt Y123.heap.size 0) (Y123.alloc (.cells (msc noM).toArray 34)) ?_
          replace hM := hM.alloc 34 (msc noM)
          generalize World.alloc _ _ = Y124 at *
          generalize hNe : Y123.heap.size = N124 at *
          clear hNe
          have hst := sto_part (msc y) (hM.at 0 rfl) 0 34 (msv y) (msc y) rfl (by kernel_rfl) (Nat.le_of_ble_eq_true rfl) rfl rfl
          refine sF 34 (pt N124 0) (msv y) (hst) ?_
          clear hst
          replace hM := hM.set 0 (cs' := msc y) rfl rfl
          generalize World.setRow _ _ _ = Y125 at *
          refine tF 8 [.val 7 (some 11) (.int .i64 c)] trivial ?_
          refine dF ?_
          try simp only [puts, Tk.put, Act.put, List.setIfInBounds_toArray, List.set_cons_zero, List.set_cons_succ]
          go_upto_region 10 with fail
          refine wp_region_fromM (fun W => Sep w [] [.blk N124 34 (msc y), .oct (.slice a114o (encG m).length c114o) (encG m), .join (RLR B6 ([plainM m]) v119), .blk N2 34 (msc m)] W) hM ?_
          clear hM
          rintro Y126 hM
          refine tF 15 [.val 0 (some 52) (.int .i64 c), .alt 1 (some 53) (.bool (c == 0)) (.bool false), .val 2 (some 54) (.bool false), .skip 3 (some 55), .skip 4 (some 56), .skip 5 (some 57), .val 6 (some 58) (.bool false), .val 7 (some 59) (.bool false), .skip 8 (some 60), .skip 9 (some 61), .skip 10 (some 62), .skip 11 (some 63), .val 12 (some 64) (.bool false), .val 13 (some 65) (.bool false), .skip 14 (some 66)] ⟨congrArg Value.bool (Hhb10.out), trivial⟩ ?_
          refine wpFrom_not (d := some 67) (by kernel_rfl) ?_
          refine tF 17 [.skip 16 (some 68)] trivial ?_
          refine wpFrom_not (d := some 69) (by kernel_rfl) ?_
          refine tF 21 [.skip 18 (some 70), .val 19 (some 71) (.bool false), .val 20 (some 12) (.bool false)] trivial ?_
          refine dF ?_
          try simp only [puts, Tk.put, Act.put, List.setIfInBounds_toArray, List.set_cons_zero, List.set_cons_succ]
          go_upto_region 11 with fail
          refine wp_region_fromM (fun W => Sep w [] [.blk N124 34 (msc y), .oct (.slice a114o (encG m).length c114o) (encG m), .join (RLR B6 ([plainM m]) v119), .blk N2 34 (msc m)] W) hM ?_
          clear hM
          rintro Y127 hM
          refine tF 2 [.val 0 (some 72) (pt B6 0), .val 1 (some 73) (.slice pb b.length cb)] trivial ?_
          have hq := rlHear_any b _ _ (hM.oka 2 rfl) (BF.arg hM (List.mem_of_getElem? (i := 2) rfl) HB.out (Nat.le_refl _)) HY.out
          rw [hear_no ([plainM m]) (Nat.le_refl 1) (.inl Hhb10.out)] at hq
          refine cF (some 74) 9 #[pt B6 0, .slice pb b.length cb] ((hq).mono ?_)
          rintro e Y128 ⟨rfl, v128, hT⟩
          clear hq
          replace hM := hM.turn 2 rfl hT rfl
          clear hT
          refine tF 5 [.val 3 (some 75) (.bool false), .val 4 (some 76) (.bool false)] trivial ?_
          refine dF ?_
          try simp only [puts, Tk.put, Act.put, List.setIfInBounds_toArray, List.set_cons_zero, List.set_cons_succ]
          go_upto_region 13 with fail
          refine wp_region_fromM (fun W => Sep w [] [.blk N124 34 (msc y), .oct (.slice a114o (encG m).length c114o) (encG m), .join (RLR B6 ([plainM m]) v128), .blk N2 34 (msc m)] W) hM ?_
          clear hM
          rintro Y129 hM
          refine tF 1 [.val 0 (some 13) (.pointer none)] trivial ?_
          refine dF ?_
          try simp only [puts, Tk.put, Act.put, List.setIfInBounds_toArray, List.set_cons_zero, List.set_cons_succ]
          go_upto_region 14 with fail
          refine wp_region_fromM (fun W => Sep w [] [.blk N124 34 (msc y), .oct (.slice a114o (encG m).length c114o) (encG m), .join (RLR B6 ([plainM m]) v128), .blk N2 34 (msc m)] W) hM ?_
          clear hM
          rintro Y130 hM
          refine tF 7 [.val 0 (some 77) (.int .i64 1), .val 1 (some 78) (.bool true), .val 2 (some 79) (.bool true), .val 3 (some 80) (.bool true), .val 4 (some 81) (.bool true), .val 5 (some 82) (.pointer none), .val 6 (some 83) (.slice pb b.length cb)] trivial ?_
          refine cF (some 84) 9 #[.pointer none, .slice pb b.length cb] ((rlHear_no (.slice pb b.length cb) _).mono ?_)
          rintro e Y131 ⟨rfl, hb⟩
          replace hM := hM.below hb
          clear hb
          refine tF 12 [.val 8 (some 85) (.bool true), .val 9 (some 86) (.bool true), .val 10 (some 87) (.bool true), .val 11 (some 88) (.pointer none)] trivial ?_
          refine cF (some 89) 10 #[.pointer none] ((rlCount_no _).mono ?_)
          rintro e Y132 ⟨rfl, hb⟩
          replace hM := hM.below hb
          clear hb
          refine tF 17 [.val 13 (some 90) (.bool true), .val 14 (some 91) (.bool true), .val 15 (some 92) (.bool true), .val 16 (some 93) (.pointer none)] trivial ?_
          refine cF (some 94) 12 #[.pointer none, .pointer none] ((rlLook_no _).mono ?_)
          rintro e Y133 ⟨rfl, hb⟩
          replace hM := hM.below hb
          clear hb
          refine tF 22 [.val 18 (some 95) (.int .i64 0), .val 19 (some 96) (.bool true), .val 20 (some 97) (.bool true), .val 21 (some 4) (.bool true)] trivial ?_
          refine dF ?_
          try simp only [puts, Tk.put, Act.put, List.setIfInBounds_toArray, List.set_cons_zero, List.set_cons_succ]
          go_wp2_with fail
          go_ret
          exact ⟨rfl, hM.b⟩
        | true =>
          have Hhb10 := Lib.hid hb10
          clear hb10
          cases hb11 : y.kd == 3 with
          | false =>
            have Hhb11 := Lib.hid hb11
            clear hb11
            have hq := mailRead_any b _ _ ((HB.out.below hM.b (Nat.le_refl _)).mono (Nat.le_refl _) hM.size)
            rw [HY.out] at hq
            refine cF (some 49) 11 #[.slice pb b.length cb] ((hq).mono ?_)
            rintro e Y134 ⟨rfl, hb⟩
            clear hq
            replace hM := hM.below hb
            clear hb
            refine tF 5 [.val 2 (some 47) (.tuple #[msv y, .int .i64 c]), .val 3 (some 50) (msv y), .val 4 (some 51) (.int .i64 c)] trivial ?_
            refine rF (some 10) (pt Y134.heap.size 0) (Y134.alloc (.cells (msc noM).toArray 34)) ?_
            replace hM := hM.alloc 34 (msc noM)
            generalize World.alloc _ _ = Y135 at *
            generalize hNe : Y134.heap.size = N135 at *
            clear hNe
            have hst := sto_part (msc y) (hM.at 0 rfl) 0 34 (msv y) (msc y) rfl (by kernel_rfl) (Nat.le_of_ble_eq_true rfl) rfl rfl
            refine sF 34 (pt N135 0) (msv y) (hst) ?_
            clear hst
            replace hM := hM.set 0 (cs' := msc y) rfl rfl
            generalize World.setRow _ _ _ = Y136 at *
            refine tF 8 [.val 7 (some 11) (.int .i64 c)] trivial ?_
            refine dF ?_
            try simp only [puts, Tk.put, Act.put, List.setIfInBounds_toArray, List.set_cons_zero, List.set_cons_succ]
            go_upto_region 10 with fail
            refine wp_region_fromM (fun W => Sep w [] [.blk N135 34 (msc y), .oct (.slice a114o (encG m).length c114o) (encG m), .join (RLR B6 ([plainM m]) v119), .blk N2 34 (msc m)] W) hM ?_
            clear hM
            rintro Y137 hM
            refine tF 15 [.val 0 (some 52) (.int .i64 c), .alt 1 (some 53) (.bool (c == 0)) (.bool true), .val 2 (some 54) (.bool true), .val 3 (some 55) (pt N135 0), .load 4 (some 56) 3 (pt N135 0) (.int .i64 y.kd), .alt 5 (some 57) (.bool (y.kd == 3)) (.bool false), .val 6 (some 58) (.bool false), .val 7 (some 59) (.bool false), .skip 8 (some 60), .skip 9 (some 61), .skip 10 (some 62), .skip 11 (some 63), .val 12 (some 64) (.bool false), .val 13 (some 65) (.bool false), .skip 14 (some 66)] ⟨congrArg Value.bool (Hhb10.out), ld_any _ _ Tryz.underlying3 rfl (hM.at 0 rfl) 0 rfl, congrArg Value.bool (Hhb11.out), trivial⟩ ?_
            refine wpFrom_not (d := some 67) (by kernel_rfl) ?_
            refine tF 17 [.skip 16 (some 68)] trivial ?_
            refine wpFrom_not (d := some 69) (by kernel_rfl) ?_
            refine tF 21 [.skip 18 (some 70), .val 19 (some 71) (.bool false), .val 20 (some 12) (.bool false)] trivial ?_
            refine dF ?_
            try simp only [puts, Tk.put, Act.put, List.setIfInBounds_toArray, List.set_cons_zero, List.set_cons_succ]
            go_upto_region 11 with fail
            refine wp_region_fromM (fun W => Sep w [] [.blk N135 34 (msc y), .oct (.slice a114o (encG m).length c114o) (encG m), .join (RLR B6 ([plainM m]) v119), .blk N2 34 (msc m)] W) hM ?_
            clear hM
            rintro Y138 hM
            refine tF 2 [.val 0 (some 72) (pt B6 0), .val 1 (some 73) (.slice pb b.length cb)] trivial ?_
            have hq := rlHear_any b _ _ (hM.oka 2 rfl) (BF.arg hM (List.mem_of_getElem? (i := 2) rfl) HB.out (Nat.le_refl _)) HY.out
            rw [hear_no ([plainM m]) (Nat.le_refl 1) (.inr (.inl Hhb11.out))] at hq
            refine cF (some 74) 9 #[pt B6 0, .slice pb b.length cb] ((hq).mono ?_)
            rintro e Y139 ⟨rfl, v139, hT⟩
            clear hq
            replace hM := hM.turn 2 rfl hT rfl
            clear hT
            refine tF 5 [.val 3 (some 75) (.bool false), .val 4 (some 76) (.bool false)] trivial ?_
            refine dF ?_
            try simp only [puts, Tk.put, Act.put, List.setIfInBounds_toArray, List.set_cons_zero, List.set_cons_succ]
            go_upto_region 13 with fail
            refine wp_region_fromM (fun W => Sep w [] [.blk N135 34 (msc y), .oct (.slice a114o (encG m).length c114o) (encG m), .join (RLR B6 ([plainM m]) v139), .blk N2 34 (msc m)] W) hM ?_
            clear hM
            rintro Y140 hM
            refine tF 1 [.val 0 (some 13) (.pointer none)] trivial ?_
            refine dF ?_
            try simp only [puts, Tk.put, Act.put, List.setIfInBounds_toArray, List.set_cons_zero, List.set_cons_succ]
            go_upto_region 14 with fail
            refine wp_region_fromM (fun W => Sep w [] [.blk N135 34 (msc y), .oct (.slice a114o (encG m).length c114o) (encG m), .join (RLR B6 ([plainM m]) v139), .blk N2 34 (msc m)] W) hM ?_
            clear hM
            rintro Y141 hM
            refine tF 7 [.val 0 (some 77) (.int .i64 1), .val 1 (some 78) (.bool true), .val 2 (some 79) (.bool true), .val 3 (some 80) (.bool true), .val 4 (some 81) (.bool true), .val 5 (some 82) (.pointer none), .val 6 (some 83) (.slice pb b.length cb)] trivial ?_
            refine cF (some 84) 9 #[.pointer none, .slice pb b.length cb] ((rlHear_no (.slice pb b.length cb) _).mono ?_)
            rintro e Y142 ⟨rfl, hb⟩
            replace hM := hM.below hb
            clear hb
            refine tF 12 [.val 8 (some 85) (.bool true), .val 9 (some 86) (.bool true), .val 10 (some 87) (.bool true), .val 11 (some 88) (.pointer none)] trivial ?_
            refine cF (some 89) 10 #[.pointer none] ((rlCount_no _).mono ?_)
            rintro e Y143 ⟨rfl, hb⟩
            replace hM := hM.below hb
            clear hb
            refine tF 17 [.val 13 (some 90) (.bool true), .val 14 (some 91) (.bool true), .val 15 (some 92) (.bool true), .val 16 (some 93) (.pointer none)] trivial ?_
            refine cF (some 94) 12 #[.pointer none, .pointer none] ((rlLook_no _).mono ?_)
            rintro e Y144 ⟨rfl, hb⟩
            replace hM := hM.below hb
            clear hb
            refine tF 22 [.val 18 (some 95) (.int .i64 0), .val 19 (some 96) (.bool true), .val 20 (some 97) (.bool true), .val 21 (some 4) (.bool true)] trivial ?_
            refine dF ?_
            try simp only [puts, Tk.put, Act.put, List.setIfInBounds_toArray, List.set_cons_zero, List.set_cons_succ]
            go_wp2_with fail
            go_ret
            exact ⟨rfl, hM.b⟩
          | true =>
            have Hhb11 := Lib.hid hb11
            clear hb11
            cases hb12 : feZ y with
            | false =>
              have Hhb12 := Lib.hid hb12
              clear hb12
              cases hb13 : decide (b = encG m) with
              | false =>
                have Hhb13 := Lib.hid hb13
                clear hb13
                have hq := mailRead_any b _ _ ((HB.out.below hM.b (Nat.le_refl _)).mono (Nat.le_refl _) hM.size)
                rw [HY.out] at hq
                refine cF (some 49) 11 #[.slice pb b.length cb] ((hq).mono ?_)
                rintro e Y145 ⟨rfl, hb⟩
                clear hq
                replace hM := hM.below hb
                clear hb
                refine tF 5 [.val 2 (some 47) (.tuple #[msv y, .int .i64 c]), .val 3 (some 50) (msv y), .val 4 (some 51) (.int .i64 c)] trivial ?_
                refine rF (some 10) (pt Y145.heap.size 0) (Y145.alloc (.cells (msc noM).toArray 34)) ?_
                replace hM := hM.alloc 34 (msc noM)
                generalize World.alloc _ _ = Y146 at *
                generalize hNe : Y145.heap.size = N146 at *
                clear hNe
                have hst := sto_part (msc y) (hM.at 0 rfl) 0 34 (msv y) (msc y) rfl (by kernel_rfl) (Nat.le_of_ble_eq_true rfl) rfl rfl
                refine sF 34 (pt N146 0) (msv y) (hst) ?_
                clear hst
                replace hM := hM.set 0 (cs' := msc y) rfl rfl
                generalize World.setRow _ _ _ = Y147 at *
                refine tF 8 [.val 7 (some 11) (.int .i64 c)] trivial ?_
                refine dF ?_
                try simp only [puts, Tk.put, Act.put, List.setIfInBounds_toArray, List.set_cons_zero, List.set_cons_succ]
                go_upto_region 10 with fail
                refine wp_region_fromM (fun W => Sep w [] [.blk N146 34 (msc y), .oct (.slice a114o (encG m).length c114o) (encG m), .join (RLR B6 ([plainM m]) v119), .blk N2 34 (msc m)] W) hM ?_
                clear hM
                rintro Y148 hM
                refine tF 11 [.val 0 (some 52) (.int .i64 c), .alt 1 (some 53) (.bool (c == 0)) (.bool true), .val 2 (some 54) (.bool true), .val 3 (some 55) (pt N146 0), .load 4 (some 56) 3 (pt N146 0) (.int .i64 y.kd), .alt 5 (some 57) (.bool (y.kd == 3)) (.bool true), .val 6 (some 58) (.bool true), .val 7 (some 59) (.bool true), .val 8 (some 60) (pt N146 38), .load 9 (some 61) 24 (pt N146 38) (wv y.f0 y.f1 y.f2 y.f3), .val 10 (some 62) (wn 0)] ⟨congrArg Value.bool (Hhb10.out), ld_any _ _ Tryz.underlying3 rfl (hM.at 0 rfl) 0 rfl, congrArg Value.bool (Hhb11.out), load_part (hM.at 0 rfl) 38 (fec y) rfl _ _ Tryz.underlying24 rfl (by kernel_rfl), trivial⟩ ?_
                refine neA (.tmp 61) (.tmp 62) 24 (some 63) (fec y).toArray (wnc 0).toArray false (Eq.trans (run_feZ y _) (congrArg (fun z => Result.ok z _) (Hhb12.out))) ?_
                refine tF 15 [.val 12 (some 64) (.bool true), .val 13 (some 65) (.bool true), .val 14 (some 66) (.slice pb b.length cb)] trivial ?_
                refine cvF (.tmp 66) (some 67) (.slice pb b.length cb) (.string (txB b)) (cvT ((HB.out.below hM.b (Nat.le_refl _)).mono (Nat.le_refl _) hM.size)) ?_
                refine tF 17 [.val 16 (some 68) (.slice a114o (encG m).length c114o)] trivial ?_
                refine cvF (.tmp 68) (some 69) (.slice a114o (encG m).length c114o) (.string (txB (encG m))) (cvT (hM.oka 1 rfl).octs) ?_
                refine tF 21 [.alt 18 (some 70) (.bool (!((txB b).toList == (txB (encG m)).toList))) (.bool true), .val 19 (some 71) (.bool true), .val 20 (some 12) (.bool true)] ⟨congrArg Value.bool (tx_ne (of_decide_eq_false Hhb13.out)), trivial⟩ ?_
                refine dF ?_
                try simp only [puts, Tk.put, Act.put, List.setIfInBounds_toArray, List.set_cons_zero, List.set_cons_succ]
                go_upto_region 11 with fail
                refine wp_region_fromM (fun W => Sep w [] [.blk N146 34 (msc y), .oct (.slice a114o (encG m).length c114o) (encG m), .join (RLR B6 ([plainM m]) v119), .blk N2 34 (msc m)] W) hM ?_
                clear hM
                rintro Y149 hM
                refine tF 2 [.val 0 (some 72) (pt B6 0), .val 1 (some 73) (.slice pb b.length cb)] trivial ?_
                have hq := rlHear_any b _ _ (hM.oka 2 rfl) (BF.arg hM (List.mem_of_getElem? (i := 2) rfl) HB.out (Nat.le_refl _)) HY.out
                rw [hear_new HY.out Hhb10.out Hhb11.out Hhb12.out Hhb5.out Hhb13.out] at hq
                refine cF (some 74) 9 #[pt B6 0, .slice pb b.length cb] ((hq).mono ?_)
                rintro e Y150 ⟨rfl, v150, hT⟩
                clear hq
                replace hM := hM.turn 2 rfl hT rfl
                clear hT
                refine tF 5 [.val 3 (some 75) (.bool true), .val 4 (some 76) (.bool false)] trivial ?_
                refine dF ?_
                try simp only [puts, Tk.put, Act.put, List.setIfInBounds_toArray, List.set_cons_zero, List.set_cons_succ]
                go_upto_region 13 with fail
                refine wp_region_fromM (fun W => Sep w [] [.blk N146 34 (msc y), .oct (.slice a114o (encG m).length c114o) (encG m), .join (RLR B6 ([plainM m, y]) v150), .blk N2 34 (msc m)] W) hM ?_
                clear hM
                rintro Y151 hM
                refine tF 1 [.val 0 (some 13) (.pointer none)] trivial ?_
                refine dF ?_
                try simp only [puts, Tk.put, Act.put, List.setIfInBounds_toArray, List.set_cons_zero, List.set_cons_succ]
                go_upto_region 14 with fail
                refine wp_region_fromM (fun W => Sep w [] [.blk N146 34 (msc y), .oct (.slice a114o (encG m).length c114o) (encG m), .join (RLR B6 ([plainM m, y]) v150), .blk N2 34 (msc m)] W) hM ?_
                clear hM
                rintro Y152 hM
                refine tF 7 [.val 0 (some 77) (.int .i64 1), .val 1 (some 78) (.bool true), .val 2 (some 79) (.bool true), .val 3 (some 80) (.bool true), .val 4 (some 81) (.bool true), .val 5 (some 82) (.pointer none), .val 6 (some 83) (.slice pb b.length cb)] trivial ?_
                refine cF (some 84) 9 #[.pointer none, .slice pb b.length cb] ((rlHear_no (.slice pb b.length cb) _).mono ?_)
                rintro e Y153 ⟨rfl, hb⟩
                replace hM := hM.below hb
                clear hb
                refine tF 12 [.val 8 (some 85) (.bool true), .val 9 (some 86) (.bool true), .val 10 (some 87) (.bool true), .val 11 (some 88) (.pointer none)] trivial ?_
                refine cF (some 89) 10 #[.pointer none] ((rlCount_no _).mono ?_)
                rintro e Y154 ⟨rfl, hb⟩
                replace hM := hM.below hb
                clear hb
                refine tF 17 [.val 13 (some 90) (.bool true), .val 14 (some 91) (.bool true), .val 15 (some 92) (.bool true), .val 16 (some 93) (.pointer none)] trivial ?_
                refine cF (some 94) 12 #[.pointer none, .pointer none] ((rlLook_no _).mono ?_)
                rintro e Y155 ⟨rfl, hb⟩
                replace hM := hM.below hb
                clear hb
                refine tF 22 [.val 18 (some 95) (.int .i64 0), .val 19 (some 96) (.bool true), .val 20 (some 97) (.bool true), .val 21 (some 4) (.bool true)] trivial ?_
                refine dF ?_
                try simp only [puts, Tk.put, Act.put, List.setIfInBounds_toArray, List.set_cons_zero, List.set_cons_succ]
                go_wp2_with fail
                go_ret
                exact ⟨rfl, hM.b⟩
              | true =>
                have Hhb13 := Lib.hid hb13
                clear hb13
                have hq := mailRead_any b _ _ ((HB.out.below hM.b (Nat.le_refl _)).mono (Nat.le_refl _) hM.size)
                rw [HY.out] at hq
                refine cF (some 49) 11 #[.slice pb b.length cb] ((hq).mono ?_)
                rintro e Y156 ⟨rfl, hb⟩
                clear hq
                replace hM := hM.below hb
                clear hb
                refine tF 5 [.val 2 (some 47) (.tuple #[msv y, .int .i64 c]), .val 3 (some 50) (msv y), .val 4 (some 51) (.int .i64 c)] trivial ?_
                refine rF (some 10) (pt Y156.heap.size 0) (Y156.alloc (.cells (msc noM).toArray 34)) ?_
                replace hM := hM.alloc 34 (msc noM)
                generalize World.alloc _ _ = Y157 at *
                generalize hNe : Y156.heap.size = N157 at *
                clear hNe
                have hst := sto_part (msc y) (hM.at 0 rfl) 0 34 (msv y) (msc y) rfl (by kernel_rfl) (Nat.le_of_ble_eq_true rfl) rfl rfl
                refine sF 34 (pt N157 0) (msv y) (hst) ?_
                clear hst
                replace hM := hM.set 0 (cs' := msc y) rfl rfl
                generalize World.setRow _ _ _ = Y158 at *
                refine tF 8 [.val 7 (some 11) (.int .i64 c)] trivial ?_
                refine dF ?_
                try simp only [puts, Tk.put, Act.put, List.setIfInBounds_toArray, List.set_cons_zero, List.set_cons_succ]
                go_upto_region 10 with fail
                refine wp_region_fromM (fun W => Sep w [] [.blk N157 34 (msc y), .oct (.slice a114o (encG m).length c114o) (encG m), .join (RLR B6 ([plainM m]) v119), .blk N2 34 (msc m)] W) hM ?_
                clear hM
                rintro Y159 hM
                refine tF 11 [.val 0 (some 52) (.int .i64 c), .alt 1 (some 53) (.bool (c == 0)) (.bool true), .val 2 (some 54) (.bool true), .val 3 (some 55) (pt N157 0), .load 4 (some 56) 3 (pt N157 0) (.int .i64 y.kd), .alt 5 (some 57) (.bool (y.kd == 3)) (.bool true), .val 6 (some 58) (.bool true), .val 7 (some 59) (.bool true), .val 8 (some 60) (pt N157 38), .load 9 (some 61) 24 (pt N157 38) (wv y.f0 y.f1 y.f2 y.f3), .val 10 (some 62) (wn 0)] ⟨congrArg Value.bool (Hhb10.out), ld_any _ _ Tryz.underlying3 rfl (hM.at 0 rfl) 0 rfl, congrArg Value.bool (Hhb11.out), load_part (hM.at 0 rfl) 38 (fec y) rfl _ _ Tryz.underlying24 rfl (by kernel_rfl), trivial⟩ ?_
                refine neA (.tmp 61) (.tmp 62) 24 (some 63) (fec y).toArray (wnc 0).toArray false (Eq.trans (run_feZ y _) (congrArg (fun z => Result.ok z _) (Hhb12.out))) ?_
                refine tF 15 [.val 12 (some 64) (.bool true), .val 13 (some 65) (.bool true), .val 14 (some 66) (.slice pb b.length cb)] trivial ?_
                refine cvF (.tmp 66) (some 67) (.slice pb b.length cb) (.string (txB b)) (cvT ((HB.out.below hM.b (Nat.le_refl _)).mono (Nat.le_refl _) hM.size)) ?_
                refine tF 17 [.val 16 (some 68) (.slice a114o (encG m).length c114o)] trivial ?_
                refine cvF (.tmp 68) (some 69) (.slice a114o (encG m).length c114o) (.string (txB (encG m))) (cvT (hM.oka 1 rfl).octs) ?_
                refine tF 21 [.alt 18 (some 70) (.bool (!((txB b).toList == (txB (encG m)).toList))) (.bool false), .val 19 (some 71) (.bool false), .val 20 (some 12) (.bool false)] ⟨congrArg Value.bool (tx_eq Hhb13.out), trivial⟩ ?_
                refine dF ?_
                try simp only [puts, Tk.put, Act.put, List.setIfInBounds_toArray, List.set_cons_zero, List.set_cons_succ]
                go_upto_region 11 with fail
                refine wp_region_fromM (fun W => Sep w [] [.blk N157 34 (msc y), .oct (.slice a114o (encG m).length c114o) (encG m), .join (RLR B6 ([plainM m]) v119), .blk N2 34 (msc m)] W) hM ?_
                clear hM
                rintro Y160 hM
                refine tF 2 [.val 0 (some 72) (pt B6 0), .val 1 (some 73) (.slice pb b.length cb)] trivial ?_
                have hq := rlHear_any b _ _ (hM.oka 2 rfl) (BF.arg hM (List.mem_of_getElem? (i := 2) rfl) HB.out (Nat.le_refl _)) HY.out
                rw [hear_same HY.out Hhb5.out Hhb9.out (beq_iff_eq.1 Hhb1.out) HMO.out Hhb13.out] at hq
                refine cF (some 74) 9 #[pt B6 0, .slice pb b.length cb] ((hq).mono ?_)
                rintro e Y161 ⟨rfl, v161, hT⟩
                clear hq
                replace hM := hM.turn 2 rfl hT rfl
                clear hT
                refine tF 5 [.val 3 (some 75) (.bool false), .val 4 (some 76) (.bool false)] trivial ?_
                refine dF ?_
                try simp only [puts, Tk.put, Act.put, List.setIfInBounds_toArray, List.set_cons_zero, List.set_cons_succ]
                go_upto_region 13 with fail
                refine wp_region_fromM (fun W => Sep w [] [.blk N157 34 (msc y), .oct (.slice a114o (encG m).length c114o) (encG m), .join (RLR B6 ([plainM m]) v161), .blk N2 34 (msc m)] W) hM ?_
                clear hM
                rintro Y162 hM
                refine tF 1 [.val 0 (some 13) (.pointer none)] trivial ?_
                refine dF ?_
                try simp only [puts, Tk.put, Act.put, List.setIfInBounds_toArray, List.set_cons_zero, List.set_cons_succ]
                go_upto_region 14 with fail
                refine wp_region_fromM (fun W => Sep w [] [.blk N157 34 (msc y), .oct (.slice a114o (encG m).length c114o) (encG m), .join (RLR B6 ([plainM m]) v161), .blk N2 34 (msc m)] W) hM ?_
                clear hM
                rintro Y163 hM
                refine tF 7 [.val 0 (some 77) (.int .i64 1), .val 1 (some 78) (.bool true), .val 2 (some 79) (.bool true), .val 3 (some 80) (.bool true), .val 4 (some 81) (.bool true), .val 5 (some 82) (.pointer none), .val 6 (some 83) (.slice pb b.length cb)] trivial ?_
                refine cF (some 84) 9 #[.pointer none, .slice pb b.length cb] ((rlHear_no (.slice pb b.length cb) _).mono ?_)
                rintro e Y164 ⟨rfl, hb⟩
                replace hM := hM.below hb
                clear hb
                refine tF 12 [.val 8 (some 85) (.bool true), .val 9 (some 86) (.bool true), .val 10 (some 87) (.bool true), .val 11 (some 88) (.pointer none)] trivial ?_
                refine cF (some 89) 10 #[.pointer none] ((rlCount_no _).mono ?_)
                rintro e Y165 ⟨rfl, hb⟩
                replace hM := hM.below hb
                clear hb
                refine tF 17 [.val 13 (some 90) (.bool true), .val 14 (some 91) (.bool true), .val 15 (some 92) (.bool true), .val 16 (some 93) (.pointer none)] trivial ?_
                refine cF (some 94) 12 #[.pointer none, .pointer none] ((rlLook_no _).mono ?_)
                rintro e Y166 ⟨rfl, hb⟩
                replace hM := hM.below hb
                clear hb
                refine tF 22 [.val 18 (some 95) (.int .i64 0), .val 19 (some 96) (.bool true), .val 20 (some 97) (.bool true), .val 21 (some 4) (.bool true)] trivial ?_
                refine dF ?_
                try simp only [puts, Tk.put, Act.put, List.setIfInBounds_toArray, List.set_cons_zero, List.set_cons_succ]
                go_wp2_with fail
                go_ret
                exact ⟨rfl, hM.b⟩
            | true =>
              have Hhb12 := Lib.hid hb12
              clear hb12
              have hq := mailRead_any b _ _ ((HB.out.below hM.b (Nat.le_refl _)).mono (Nat.le_refl _) hM.size)
              rw [HY.out] at hq
              refine cF (some 49) 11 #[.slice pb b.length cb] ((hq).mono ?_)
              rintro e Y167 ⟨rfl, hb⟩
              clear hq
              replace hM := hM.below hb
              clear hb
              refine tF 5 [.val 2 (some 47) (.tuple #[msv y, .int .i64 c]), .val 3 (some 50) (msv y), .val 4 (some 51) (.int .i64 c)] trivial ?_
              refine rF (some 10) (pt Y167.heap.size 0) (Y167.alloc (.cells (msc noM).toArray 34)) ?_
              replace hM := hM.alloc 34 (msc noM)
              generalize World.alloc _ _ = Y168 at *
              generalize hNe : Y167.heap.size = N168 at *
              clear hNe
              have hst := sto_part (msc y) (hM.at 0 rfl) 0 34 (msv y) (msc y) rfl (by kernel_rfl) (Nat.le_of_ble_eq_true rfl) rfl rfl
              refine sF 34 (pt N168 0) (msv y) (hst) ?_
              clear hst
              replace hM := hM.set 0 (cs' := msc y) rfl rfl
              generalize World.setRow _ _ _ = Y169 at *
              refine tF 8 [.val 7 (some 11) (.int .i64 c)] trivial ?_
              refine dF ?_
              try simp only [puts, Tk.put, Act.put, List.setIfInBounds_toArray, List.set_cons_zero, List.set_cons_succ]
              go_upto_region 10 with fail
              refine wp_region_fromM (fun W => Sep w [] [.blk N168 34 (msc y), .oct (.slice a114o (encG m).length c114o) (encG m), .join (RLR B6 ([plainM m]) v119), .blk N2 34 (msc m)] W) hM ?_
              clear hM
              rintro Y170 hM
              refine tF 11 [.val 0 (some 52) (.int .i64 c), .alt 1 (some 53) (.bool (c == 0)) (.bool true), .val 2 (some 54) (.bool true), .val 3 (some 55) (pt N168 0), .load 4 (some 56) 3 (pt N168 0) (.int .i64 y.kd), .alt 5 (some 57) (.bool (y.kd == 3)) (.bool true), .val 6 (some 58) (.bool true), .val 7 (some 59) (.bool true), .val 8 (some 60) (pt N168 38), .load 9 (some 61) 24 (pt N168 38) (wv y.f0 y.f1 y.f2 y.f3), .val 10 (some 62) (wn 0)] ⟨congrArg Value.bool (Hhb10.out), ld_any _ _ Tryz.underlying3 rfl (hM.at 0 rfl) 0 rfl, congrArg Value.bool (Hhb11.out), load_part (hM.at 0 rfl) 38 (fec y) rfl _ _ Tryz.underlying24 rfl (by kernel_rfl), trivial⟩ ?_
              refine neA (.tmp 61) (.tmp 62) 24 (some 63) (fec y).toArray (wnc 0).toArray true (Eq.trans (run_feZ y _) (congrArg (fun z => Result.ok z _) (Hhb12.out))) ?_
              refine tF 15 [.val 12 (some 64) (.bool false), .val 13 (some 65) (.bool false), .skip 14 (some 66)] trivial ?_
              refine wpFrom_not (d := some 67) (by kernel_rfl) ?_
              refine tF 17 [.skip 16 (some 68)] trivial ?_
              refine wpFrom_not (d := some 69) (by kernel_rfl) ?_
              refine tF 21 [.skip 18 (some 70), .val 19 (some 71) (.bool false), .val 20 (some 12) (.bool false)] trivial ?_
              refine dF ?_
              try simp only [puts, Tk.put, Act.put, List.setIfInBounds_toArray, List.set_cons_zero, List.set_cons_succ]
              go_upto_region 11 with fail
              refine wp_region_fromM (fun W => Sep w [] [.blk N168 34 (msc y), .oct (.slice a114o (encG m).length c114o) (encG m), .join (RLR B6 ([plainM m]) v119), .blk N2 34 (msc m)] W) hM ?_
              clear hM
              rintro Y171 hM
              refine tF 2 [.val 0 (some 72) (pt B6 0), .val 1 (some 73) (.slice pb b.length cb)] trivial ?_
              have hq := rlHear_any b _ _ (hM.oka 2 rfl) (BF.arg hM (List.mem_of_getElem? (i := 2) rfl) HB.out (Nat.le_refl _)) HY.out
              rw [hear_no ([plainM m]) (Nat.le_refl 1) (.inr (.inr Hhb12.out))] at hq
              refine cF (some 74) 9 #[pt B6 0, .slice pb b.length cb] ((hq).mono ?_)
              rintro e Y172 ⟨rfl, v172, hT⟩
              clear hq
              replace hM := hM.turn 2 rfl hT rfl
              clear hT
              refine tF 5 [.val 3 (some 75) (.bool false), .val 4 (some 76) (.bool false)] trivial ?_
              refine dF ?_
              try simp only [puts, Tk.put, Act.put, List.setIfInBounds_toArray, List.set_cons_zero, List.set_cons_succ]
              go_upto_region 13 with fail
              refine wp_region_fromM (fun W => Sep w [] [.blk N168 34 (msc y), .oct (.slice a114o (encG m).length c114o) (encG m), .join (RLR B6 ([plainM m]) v172), .blk N2 34 (msc m)] W) hM ?_
              clear hM
              rintro Y173 hM
              refine tF 1 [.val 0 (some 13) (.pointer none)] trivial ?_
              refine dF ?_
              try simp only [puts, Tk.put, Act.put, List.setIfInBounds_toArray, List.set_cons_zero, List.set_cons_succ]
              go_upto_region 14 with fail
              refine wp_region_fromM (fun W => Sep w [] [.blk N168 34 (msc y), .oct (.slice a114o (encG m).length c114o) (encG m), .join (RLR B6 ([plainM m]) v172), .blk N2 34 (msc m)] W) hM ?_
              clear hM
              rintro Y174 hM
              refine tF 7 [.val 0 (some 77) (.int .i64 1), .val 1 (some 78) (.bool true), .val 2 (some 79) (.bool true), .val 3 (some 80) (.bool true), .val 4 (some 81) (.bool true), .val 5 (some 82) (.pointer none), .val 6 (some 83) (.slice pb b.length cb)] trivial ?_
              refine cF (some 84) 9 #[.pointer none, .slice pb b.length cb] ((rlHear_no (.slice pb b.length cb) _).mono ?_)
              rintro e Y175 ⟨rfl, hb⟩
              replace hM := hM.below hb
              clear hb
              refine tF 12 [.val 8 (some 85) (.bool true), .val 9 (some 86) (.bool true), .val 10 (some 87) (.bool true), .val 11 (some 88) (.pointer none)] trivial ?_
              refine cF (some 89) 10 #[.pointer none] ((rlCount_no _).mono ?_)
              rintro e Y176 ⟨rfl, hb⟩
              replace hM := hM.below hb
              clear hb
              refine tF 17 [.val 13 (some 90) (.bool true), .val 14 (some 91) (.bool true), .val 15 (some 92) (.bool true), .val 16 (some 93) (.pointer none)] trivial ?_
              refine cF (some 94) 12 #[.pointer none, .pointer none] ((rlLook_no _).mono ?_)
              rintro e Y177 ⟨rfl, hb⟩
              replace hM := hM.below hb
              clear hb
              refine tF 22 [.val 18 (some 95) (.int .i64 0), .val 19 (some 96) (.bool true), .val 20 (some 97) (.bool true), .val 21 (some 4) (.bool true)] trivial ?_
              refine dF ?_
              try simp only [puts, Tk.put, Act.put, List.setIfInBounds_toArray, List.set_cons_zero, List.set_cons_succ]
              go_wp2_with fail
              go_ret
              exact ⟨rfl, hM.b⟩
      | true =>
        have Hhb9 := Lib.hid hb9
        clear hb9
        have hq := mailPut_own m HMO.out Y7
        rw [(msg_back (beq_iff_eq.1 Hhb1.out) HMO.out).1] at hq
        refine cF (some 19) 8 #[msv m] ((hq).mono ?_)
        rintro e Y178 ⟨v178o, rfl, hO, hb⟩
        clear hq
        replace hM := hM.octN hO hb
        clear hO hb
        obtain ⟨a178o, c178o, rfl, _⟩ := (hM.oka 0 rfl).octs.slice
        refine tF 7 [.val 2 (some 17) (.tuple #[.slice a178o (encG m).length c178o, .int .i64 0]), .val 3 (some 20) (.slice a178o (encG m).length c178o), .val 4 (some 21) (.int .i64 0), .val 5 (some 6) (.slice a178o (encG m).length c178o), .val 6 (some 7) (.int .i64 0)] trivial ?_
        refine dF ?_
        try simp only [puts, Tk.put, Act.put, List.setIfInBounds_toArray, List.set_cons_zero, List.set_cons_succ]
        go_upto_region 5 with fail
        refine wp_region_fromM (fun W => Sep w [] [.oct (.slice a178o (encG m).length c178o) (encG m), .join (RLR B6 ([]) v6), .blk N2 34 (msc m)] W) hM ?_
        clear hM
        rintro Y180 hM
        refine tF 11 [.val 0 (some 22) (.int .i64 0), .val 1 (some 23) (.bool true), .val 2 (some 24) (.bool true), .val 3 (some 25) (pt N2 0), .load 4 (some 26) 3 (pt N2 0) (.int .i64 m.kd), .alt 5 (some 27) (.bool (m.kd == 3)) (.bool true), .val 6 (some 28) (.bool true), .val 7 (some 29) (.bool true), .val 8 (some 30) (pt N2 38), .load 9 (some 31) 24 (pt N2 38) (wv m.f0 m.f1 m.f2 m.f3), .val 10 (some 32) (wn 0)] ⟨ld_any _ _ Tryz.underlying3 rfl (hM.at 2 rfl) 0 rfl, congrArg Value.bool (Hhb5.out), load_part (hM.at 2 rfl) 38 (fec m) rfl _ _ Tryz.underlying24 rfl (by kernel_rfl), trivial⟩ ?_
        refine neA (.tmp 31) (.tmp 32) 24 (some 33) (fec m).toArray (wnc 0).toArray true (Eq.trans (run_feZ m _) (congrArg (fun z => Result.ok z _) (Hhb9.out))) ?_
        refine tF 14 [.val 12 (some 34) (.bool false), .val 13 (some 8) (.bool false)] trivial ?_
        refine dF ?_
        try simp only [puts, Tk.put, Act.put, List.setIfInBounds_toArray, List.set_cons_zero, List.set_cons_succ]
        go_upto_region 6 with fail
        refine wp_region_fromM (fun W => Sep w [] [.oct (.slice a178o (encG m).length c178o) (encG m), .join (RLR B6 ([]) v6), .blk N2 34 (msc m)] W) hM ?_
        clear hM
        rintro Y181 hM
        refine tF 2 [.val 0 (some 35) (pt B6 0), .val 1 (some 36) (.slice a178o (encG m).length c178o)] trivial ?_
        have hq := rlHear_any (encG m) _ _ (hM.oka 1 rfl) (BF.mine hM (i := 0) (j := 1) rfl rfl (by decide)) (msg_back (beq_iff_eq.1 Hhb1.out) HMO.out).2.2
        rw [hear_f1 Hhb5.out Hhb9.out] at hq
        refine cF (some 37) 9 #[pt B6 0, .slice a178o (encG m).length c178o] ((hq).mono ?_)
        rintro e Y182 ⟨rfl, v182, hT⟩
        clear hq
        replace hM := hM.turn 1 rfl hT rfl
        clear hT
        refine tF 8 [.val 3 (some 38) (.bool false), .val 4 (some 39) (.bool false), .val 5 (some 40) (.bool false), .val 6 (some 41) (pt B6 0), .val 7 (some 42) (.slice a178o (encG m).length c178o)] trivial ?_
        have hq := rlHear_any (encG m) _ _ (hM.oka 1 rfl) (BF.mine hM (i := 0) (j := 1) rfl rfl (by decide)) (msg_back (beq_iff_eq.1 Hhb1.out) HMO.out).2.2
        rw [hear_f1 Hhb5.out Hhb9.out] at hq
        refine cF (some 43) 9 #[pt B6 0, .slice a178o (encG m).length c178o] ((hq).mono ?_)
        rintro e Y183 ⟨rfl, v183, hT⟩
        clear hq
        replace hM := hM.turn 1 rfl hT rfl
        clear hT
        refine tF 10 [.val 9 (some 44) (.bool false)] trivial ?_
        refine dF ?_
        try simp only [puts, Tk.put, Act.put, List.setIfInBounds_toArray, List.set_cons_zero, List.set_cons_succ]
        go_upto_region 8 with fail
        refine wp_region_fromM (fun W => Sep w [] [.oct (.slice a178o (encG m).length c178o) (encG m), .join (RLR B6 ([]) v183), .blk N2 34 (msc m)] W) hM ?_
        clear hM
        rintro Y184 hM
        refine tF 1 [.val 0 (some 45) (pt B6 0)] trivial ?_
        refine cF (some 46) 10 #[pt B6 0] ((rlCountJ (hM.oka 1 rfl)).mono ?_)
        rintro e Y185 ⟨rfl, hb⟩
        replace hM := hM.below hb
        clear hb
        refine tF 3 [.val 2 (some 9) (.int .i64 0)] trivial ?_
        refine dF ?_
        try simp only [puts, Tk.put, Act.put, List.setIfInBounds_toArray, List.set_cons_zero, List.set_cons_succ]
        go_upto_region 9 with fail
        refine wp_region_fromM (fun W => Sep w [] [.oct (.slice a178o (encG m).length c178o) (encG m), .join (RLR B6 ([]) v183), .blk N2 34 (msc m)] W) hM ?_
        clear hM
        rintro Y186 hM
        refine tF 1 [.val 0 (some 48) (.slice pb b.length cb)] trivial ?_
        cases hb14 : c == 0 with
        | false =>
          have Hhb14 := Lib.hid hb14
          clear hb14
          have hq := mailRead_any b _ _ ((HB.out.below hM.b (Nat.le_refl _)).mono (Nat.le_refl _) hM.size)
          rw [HY.out] at hq
          refine cF (some 49) 11 #[.slice pb b.length cb] ((hq).mono ?_)
          rintro e Y187 ⟨rfl, hb⟩
          clear hq
          replace hM := hM.below hb
          clear hb
          refine tF 5 [.val 2 (some 47) (.tuple #[msv y, .int .i64 c]), .val 3 (some 50) (msv y), .val 4 (some 51) (.int .i64 c)] trivial ?_
          refine rF (some 10) (pt Y187.heap.size 0) (Y187.alloc (.cells (msc noM).toArray 34)) ?_
          replace hM := hM.alloc 34 (msc noM)
          generalize World.alloc _ _ = Y188 at *
          generalize hNe : Y187.heap.size = N188 at *
          clear hNe
          have hst := sto_part (msc y) (hM.at 0 rfl) 0 34 (msv y) (msc y) rfl (by kernel_rfl) (Nat.le_of_ble_eq_true rfl) rfl rfl
          refine sF 34 (pt N188 0) (msv y) (hst) ?_
          clear hst
          replace hM := hM.set 0 (cs' := msc y) rfl rfl
          generalize World.setRow _ _ _ = Y189 at *
          refine tF 8 [.val 7 (some 11) (.int .i64 c)] trivial ?_
          refine dF ?_
          try simp only [puts, Tk.put, Act.put, List.setIfInBounds_toArray, List.set_cons_zero, List.set_cons_succ]
          go_upto_region 10 with fail
          refine wp_region_fromM (fun W => Sep w [] [.blk N188 34 (msc y), .oct (.slice a178o (encG m).length c178o) (encG m), .join (RLR B6 ([]) v183), .blk N2 34 (msc m)] W) hM ?_
          clear hM
          rintro Y190 hM
          refine tF 15 [.val 0 (some 52) (.int .i64 c), .alt 1 (some 53) (.bool (c == 0)) (.bool false), .val 2 (some 54) (.bool false), .skip 3 (some 55), .skip 4 (some 56), .skip 5 (some 57), .val 6 (some 58) (.bool false), .val 7 (some 59) (.bool false), .skip 8 (some 60), .skip 9 (some 61), .skip 10 (some 62), .skip 11 (some 63), .val 12 (some 64) (.bool false), .val 13 (some 65) (.bool false), .skip 14 (some 66)] ⟨congrArg Value.bool (Hhb14.out), trivial⟩ ?_
          refine wpFrom_not (d := some 67) (by kernel_rfl) ?_
          refine tF 17 [.skip 16 (some 68)] trivial ?_
          refine wpFrom_not (d := some 69) (by kernel_rfl) ?_
          refine tF 21 [.skip 18 (some 70), .val 19 (some 71) (.bool false), .val 20 (some 12) (.bool false)] trivial ?_
          refine dF ?_
          try simp only [puts, Tk.put, Act.put, List.setIfInBounds_toArray, List.set_cons_zero, List.set_cons_succ]
          go_upto_region 11 with fail
          refine wp_region_fromM (fun W => Sep w [] [.blk N188 34 (msc y), .oct (.slice a178o (encG m).length c178o) (encG m), .join (RLR B6 ([]) v183), .blk N2 34 (msc m)] W) hM ?_
          clear hM
          rintro Y191 hM
          refine tF 2 [.val 0 (some 72) (pt B6 0), .val 1 (some 73) (.slice pb b.length cb)] trivial ?_
          have hq := rlHear_any b _ _ (hM.oka 2 rfl) (BF.arg hM (List.mem_of_getElem? (i := 2) rfl) HB.out (Nat.le_refl _)) HY.out
          rw [hear_no ([]) (by decide) (.inl Hhb14.out)] at hq
          refine cF (some 74) 9 #[pt B6 0, .slice pb b.length cb] ((hq).mono ?_)
          rintro e Y192 ⟨rfl, v192, hT⟩
          clear hq
          replace hM := hM.turn 2 rfl hT rfl
          clear hT
          refine tF 5 [.val 3 (some 75) (.bool false), .val 4 (some 76) (.bool false)] trivial ?_
          refine dF ?_
          try simp only [puts, Tk.put, Act.put, List.setIfInBounds_toArray, List.set_cons_zero, List.set_cons_succ]
          go_upto_region 13 with fail
          refine wp_region_fromM (fun W => Sep w [] [.blk N188 34 (msc y), .oct (.slice a178o (encG m).length c178o) (encG m), .join (RLR B6 ([]) v192), .blk N2 34 (msc m)] W) hM ?_
          clear hM
          rintro Y193 hM
          refine tF 1 [.val 0 (some 13) (.pointer none)] trivial ?_
          refine dF ?_
          try simp only [puts, Tk.put, Act.put, List.setIfInBounds_toArray, List.set_cons_zero, List.set_cons_succ]
          go_upto_region 14 with fail
          refine wp_region_fromM (fun W => Sep w [] [.blk N188 34 (msc y), .oct (.slice a178o (encG m).length c178o) (encG m), .join (RLR B6 ([]) v192), .blk N2 34 (msc m)] W) hM ?_
          clear hM
          rintro Y194 hM
          refine tF 7 [.val 0 (some 77) (.int .i64 0), .val 1 (some 78) (.bool false), .val 2 (some 79) (.bool false), .val 3 (some 80) (.bool true), .val 4 (some 81) (.bool true), .val 5 (some 82) (.pointer none), .val 6 (some 83) (.slice pb b.length cb)] trivial ?_
          refine cF (some 84) 9 #[.pointer none, .slice pb b.length cb] ((rlHear_no (.slice pb b.length cb) _).mono ?_)
          rintro e Y195 ⟨rfl, hb⟩
          replace hM := hM.below hb
          clear hb
          refine tF 12 [.val 8 (some 85) (.bool true), .val 9 (some 86) (.bool true), .val 10 (some 87) (.bool true), .val 11 (some 88) (.pointer none)] trivial ?_
          refine cF (some 89) 10 #[.pointer none] ((rlCount_no _).mono ?_)
          rintro e Y196 ⟨rfl, hb⟩
          replace hM := hM.below hb
          clear hb
          refine tF 17 [.val 13 (some 90) (.bool true), .val 14 (some 91) (.bool true), .val 15 (some 92) (.bool true), .val 16 (some 93) (.pointer none)] trivial ?_
          refine cF (some 94) 12 #[.pointer none, .pointer none] ((rlLook_no _).mono ?_)
          rintro e Y197 ⟨rfl, hb⟩
          replace hM := hM.below hb
          clear hb
          refine tF 22 [.val 18 (some 95) (.int .i64 0), .val 19 (some 96) (.bool true), .val 20 (some 97) (.bool true), .val 21 (some 4) (.bool true)] trivial ?_
          refine dF ?_
          try simp only [puts, Tk.put, Act.put, List.setIfInBounds_toArray, List.set_cons_zero, List.set_cons_succ]
          go_wp2_with fail
          go_ret
          exact ⟨rfl, hM.b⟩
        | true =>
          have Hhb14 := Lib.hid hb14
          clear hb14
          cases hb15 : y.kd == 3 with
          | false =>
            have Hhb15 := Lib.hid hb15
            clear hb15
            have hq := mailRead_any b _ _ ((HB.out.below hM.b (Nat.le_refl _)).mono (Nat.le_refl _) hM.size)
            rw [HY.out] at hq
            refine cF (some 49) 11 #[.slice pb b.length cb] ((hq).mono ?_)
            rintro e Y198 ⟨rfl, hb⟩
            clear hq
            replace hM := hM.below hb
            clear hb
            refine tF 5 [.val 2 (some 47) (.tuple #[msv y, .int .i64 c]), .val 3 (some 50) (msv y), .val 4 (some 51) (.int .i64 c)] trivial ?_
            refine rF (some 10) (pt Y198.heap.size 0) (Y198.alloc (.cells (msc noM).toArray 34)) ?_
            replace hM := hM.alloc 34 (msc noM)
            generalize World.alloc _ _ = Y199 at *
            generalize hNe : Y198.heap.size = N199 at *
            clear hNe
            have hst := sto_part (msc y) (hM.at 0 rfl) 0 34 (msv y) (msc y) rfl (by kernel_rfl) (Nat.le_of_ble_eq_true rfl) rfl rfl
            refine sF 34 (pt N199 0) (msv y) (hst) ?_
            clear hst
            replace hM := hM.set 0 (cs' := msc y) rfl rfl
            generalize World.setRow _ _ _ = Y200 at *
            refine tF 8 [.val 7 (some 11) (.int .i64 c)] trivial ?_
            refine dF ?_
            try simp only [puts, Tk.put, Act.put, List.setIfInBounds_toArray, List.set_cons_zero, List.set_cons_succ]
            go_upto_region 10 with fail
            refine wp_region_fromM (fun W => Sep w [] [.blk N199 34 (msc y), .oct (.slice a178o (encG m).length c178o) (encG m), .join (RLR B6 ([]) v183), .blk N2 34 (msc m)] W) hM ?_
            clear hM
            rintro Y201 hM
            refine tF 15 [.val 0 (some 52) (.int .i64 c), .alt 1 (some 53) (.bool (c == 0)) (.bool true), .val 2 (some 54) (.bool true), .val 3 (some 55) (pt N199 0), .load 4 (some 56) 3 (pt N199 0) (.int .i64 y.kd), .alt 5 (some 57) (.bool (y.kd == 3)) (.bool false), .val 6 (some 58) (.bool false), .val 7 (some 59) (.bool false), .skip 8 (some 60), .skip 9 (some 61), .skip 10 (some 62), .skip 11 (some 63), .val 12 (some 64) (.bool false), .val 13 (some 65) (.bool false), .skip 14 (some 66)] ⟨congrArg Value.bool (Hhb14.out), ld_any _ _ Tryz.underlying3 rfl (hM.at 0 rfl) 0 rfl, congrArg Value.bool (Hhb15.out), trivial⟩ ?_
            refine wpFrom_not (d := some 67) (by kernel_rfl) ?_
            refine tF 17 [.skip 16 (some 68)] trivial ?_
            refine wpFrom_not (d := some 69) (by kernel_rfl) ?_
            refine tF 21 [.skip 18 (some 70), .val 19 (some 71) (.bool false), .val 20 (some 12) (.bool false)] trivial ?_
            refine dF ?_
            try simp only [puts, Tk.put, Act.put, List.setIfInBounds_toArray, List.set_cons_zero, List.set_cons_succ]
            go_upto_region 11 with fail
            refine wp_region_fromM (fun W => Sep w [] [.blk N199 34 (msc y), .oct (.slice a178o (encG m).length c178o) (encG m), .join (RLR B6 ([]) v183), .blk N2 34 (msc m)] W) hM ?_
            clear hM
            rintro Y202 hM
            refine tF 2 [.val 0 (some 72) (pt B6 0), .val 1 (some 73) (.slice pb b.length cb)] trivial ?_
            have hq := rlHear_any b _ _ (hM.oka 2 rfl) (BF.arg hM (List.mem_of_getElem? (i := 2) rfl) HB.out (Nat.le_refl _)) HY.out
            rw [hear_no ([]) (by decide) (.inr (.inl Hhb15.out))] at hq
            refine cF (some 74) 9 #[pt B6 0, .slice pb b.length cb] ((hq).mono ?_)
            rintro e Y203 ⟨rfl, v203, hT⟩
            clear hq
            replace hM := hM.turn 2 rfl hT rfl
            clear hT
            refine tF 5 [.val 3 (some 75) (.bool false), .val 4 (some 76) (.bool false)] trivial ?_
            refine dF ?_
            try simp only [puts, Tk.put, Act.put, List.setIfInBounds_toArray, List.set_cons_zero, List.set_cons_succ]
            go_upto_region 13 with fail
            refine wp_region_fromM (fun W => Sep w [] [.blk N199 34 (msc y), .oct (.slice a178o (encG m).length c178o) (encG m), .join (RLR B6 ([]) v203), .blk N2 34 (msc m)] W) hM ?_
            clear hM
            rintro Y204 hM
            refine tF 1 [.val 0 (some 13) (.pointer none)] trivial ?_
            refine dF ?_
            try simp only [puts, Tk.put, Act.put, List.setIfInBounds_toArray, List.set_cons_zero, List.set_cons_succ]
            go_upto_region 14 with fail
            refine wp_region_fromM (fun W => Sep w [] [.blk N199 34 (msc y), .oct (.slice a178o (encG m).length c178o) (encG m), .join (RLR B6 ([]) v203), .blk N2 34 (msc m)] W) hM ?_
            clear hM
            rintro Y205 hM
            refine tF 7 [.val 0 (some 77) (.int .i64 0), .val 1 (some 78) (.bool false), .val 2 (some 79) (.bool false), .val 3 (some 80) (.bool true), .val 4 (some 81) (.bool true), .val 5 (some 82) (.pointer none), .val 6 (some 83) (.slice pb b.length cb)] trivial ?_
            refine cF (some 84) 9 #[.pointer none, .slice pb b.length cb] ((rlHear_no (.slice pb b.length cb) _).mono ?_)
            rintro e Y206 ⟨rfl, hb⟩
            replace hM := hM.below hb
            clear hb
            refine tF 12 [.val 8 (some 85) (.bool true), .val 9 (some 86) (.bool true), .val 10 (some 87) (.bool true), .val 11 (some 88) (.pointer none)] trivial ?_
            refine cF (some 89) 10 #[.pointer none] ((rlCount_no _).mono ?_)
            rintro e Y207 ⟨rfl, hb⟩
            replace hM := hM.below hb
            clear hb
            refine tF 17 [.val 13 (some 90) (.bool true), .val 14 (some 91) (.bool true), .val 15 (some 92) (.bool true), .val 16 (some 93) (.pointer none)] trivial ?_
            refine cF (some 94) 12 #[.pointer none, .pointer none] ((rlLook_no _).mono ?_)
            rintro e Y208 ⟨rfl, hb⟩
            replace hM := hM.below hb
            clear hb
            refine tF 22 [.val 18 (some 95) (.int .i64 0), .val 19 (some 96) (.bool true), .val 20 (some 97) (.bool true), .val 21 (some 4) (.bool true)] trivial ?_
            refine dF ?_
            try simp only [puts, Tk.put, Act.put, List.setIfInBounds_toArray, List.set_cons_zero, List.set_cons_succ]
            go_wp2_with fail
            go_ret
            exact ⟨rfl, hM.b⟩
          | true =>
            have Hhb15 := Lib.hid hb15
            clear hb15
            cases hb16 : feZ y with
            | false =>
              have Hhb16 := Lib.hid hb16
              clear hb16
              have hq := mailRead_any b _ _ ((HB.out.below hM.b (Nat.le_refl _)).mono (Nat.le_refl _) hM.size)
              rw [HY.out] at hq
              refine cF (some 49) 11 #[.slice pb b.length cb] ((hq).mono ?_)
              rintro e Y209 ⟨rfl, hb⟩
              clear hq
              replace hM := hM.below hb
              clear hb
              refine tF 5 [.val 2 (some 47) (.tuple #[msv y, .int .i64 c]), .val 3 (some 50) (msv y), .val 4 (some 51) (.int .i64 c)] trivial ?_
              refine rF (some 10) (pt Y209.heap.size 0) (Y209.alloc (.cells (msc noM).toArray 34)) ?_
              replace hM := hM.alloc 34 (msc noM)
              generalize World.alloc _ _ = Y210 at *
              generalize hNe : Y209.heap.size = N210 at *
              clear hNe
              have hst := sto_part (msc y) (hM.at 0 rfl) 0 34 (msv y) (msc y) rfl (by kernel_rfl) (Nat.le_of_ble_eq_true rfl) rfl rfl
              refine sF 34 (pt N210 0) (msv y) (hst) ?_
              clear hst
              replace hM := hM.set 0 (cs' := msc y) rfl rfl
              generalize World.setRow _ _ _ = Y211 at *
              refine tF 8 [.val 7 (some 11) (.int .i64 c)] trivial ?_
              refine dF ?_
              try simp only [puts, Tk.put, Act.put, List.setIfInBounds_toArray, List.set_cons_zero, List.set_cons_succ]
              go_upto_region 10 with fail
              refine wp_region_fromM (fun W => Sep w [] [.blk N210 34 (msc y), .oct (.slice a178o (encG m).length c178o) (encG m), .join (RLR B6 ([]) v183), .blk N2 34 (msc m)] W) hM ?_
              clear hM
              rintro Y212 hM
              refine tF 11 [.val 0 (some 52) (.int .i64 c), .alt 1 (some 53) (.bool (c == 0)) (.bool true), .val 2 (some 54) (.bool true), .val 3 (some 55) (pt N210 0), .load 4 (some 56) 3 (pt N210 0) (.int .i64 y.kd), .alt 5 (some 57) (.bool (y.kd == 3)) (.bool true), .val 6 (some 58) (.bool true), .val 7 (some 59) (.bool true), .val 8 (some 60) (pt N210 38), .load 9 (some 61) 24 (pt N210 38) (wv y.f0 y.f1 y.f2 y.f3), .val 10 (some 62) (wn 0)] ⟨congrArg Value.bool (Hhb14.out), ld_any _ _ Tryz.underlying3 rfl (hM.at 0 rfl) 0 rfl, congrArg Value.bool (Hhb15.out), load_part (hM.at 0 rfl) 38 (fec y) rfl _ _ Tryz.underlying24 rfl (by kernel_rfl), trivial⟩ ?_
              refine neA (.tmp 61) (.tmp 62) 24 (some 63) (fec y).toArray (wnc 0).toArray false (Eq.trans (run_feZ y _) (congrArg (fun z => Result.ok z _) (Hhb16.out))) ?_
              refine tF 15 [.val 12 (some 64) (.bool true), .val 13 (some 65) (.bool true), .val 14 (some 66) (.slice pb b.length cb)] trivial ?_
              refine cvF (.tmp 66) (some 67) (.slice pb b.length cb) (.string (txB b)) (cvT ((HB.out.below hM.b (Nat.le_refl _)).mono (Nat.le_refl _) hM.size)) ?_
              refine tF 17 [.val 16 (some 68) (.slice a178o (encG m).length c178o)] trivial ?_
              refine cvF (.tmp 68) (some 69) (.slice a178o (encG m).length c178o) (.string (txB (encG m))) (cvT (hM.oka 1 rfl).octs) ?_
              refine tF 21 [.alt 18 (some 70) (.bool (!((txB b).toList == (txB (encG m)).toList))) (.bool true), .val 19 (some 71) (.bool true), .val 20 (some 12) (.bool true)] ⟨congrArg Value.bool (tx_ne (ne_fe HY.out Hhb16.out (beq_iff_eq.1 Hhb1.out) HMO.out Hhb5.out Hhb9.out)), trivial⟩ ?_
              refine dF ?_
              try simp only [puts, Tk.put, Act.put, List.setIfInBounds_toArray, List.set_cons_zero, List.set_cons_succ]
              go_upto_region 11 with fail
              refine wp_region_fromM (fun W => Sep w [] [.blk N210 34 (msc y), .oct (.slice a178o (encG m).length c178o) (encG m), .join (RLR B6 ([]) v183), .blk N2 34 (msc m)] W) hM ?_
              clear hM
              rintro Y213 hM
              refine tF 2 [.val 0 (some 72) (pt B6 0), .val 1 (some 73) (.slice pb b.length cb)] trivial ?_
              have hq := rlHear_any b _ _ (hM.oka 2 rfl) (BF.arg hM (List.mem_of_getElem? (i := 2) rfl) HB.out (Nat.le_refl _)) HY.out
              rw [hear_y1 Hhb14.out Hhb15.out Hhb16.out] at hq
              refine cF (some 74) 9 #[pt B6 0, .slice pb b.length cb] ((hq).mono ?_)
              rintro e Y214 ⟨rfl, v214, hT⟩
              clear hq
              replace hM := hM.turn 2 rfl hT rfl
              clear hT
              refine tF 5 [.val 3 (some 75) (.bool true), .val 4 (some 76) (.bool false)] trivial ?_
              refine dF ?_
              try simp only [puts, Tk.put, Act.put, List.setIfInBounds_toArray, List.set_cons_zero, List.set_cons_succ]
              go_upto_region 13 with fail
              refine wp_region_fromM (fun W => Sep w [] [.blk N210 34 (msc y), .oct (.slice a178o (encG m).length c178o) (encG m), .join (RLR B6 ([y]) v214), .blk N2 34 (msc m)] W) hM ?_
              clear hM
              rintro Y215 hM
              refine tF 1 [.val 0 (some 13) (.pointer none)] trivial ?_
              refine dF ?_
              try simp only [puts, Tk.put, Act.put, List.setIfInBounds_toArray, List.set_cons_zero, List.set_cons_succ]
              go_upto_region 14 with fail
              refine wp_region_fromM (fun W => Sep w [] [.blk N210 34 (msc y), .oct (.slice a178o (encG m).length c178o) (encG m), .join (RLR B6 ([y]) v214), .blk N2 34 (msc m)] W) hM ?_
              clear hM
              rintro Y216 hM
              refine tF 7 [.val 0 (some 77) (.int .i64 0), .val 1 (some 78) (.bool false), .val 2 (some 79) (.bool false), .val 3 (some 80) (.bool true), .val 4 (some 81) (.bool true), .val 5 (some 82) (.pointer none), .val 6 (some 83) (.slice pb b.length cb)] trivial ?_
              refine cF (some 84) 9 #[.pointer none, .slice pb b.length cb] ((rlHear_no (.slice pb b.length cb) _).mono ?_)
              rintro e Y217 ⟨rfl, hb⟩
              replace hM := hM.below hb
              clear hb
              refine tF 12 [.val 8 (some 85) (.bool true), .val 9 (some 86) (.bool true), .val 10 (some 87) (.bool true), .val 11 (some 88) (.pointer none)] trivial ?_
              refine cF (some 89) 10 #[.pointer none] ((rlCount_no _).mono ?_)
              rintro e Y218 ⟨rfl, hb⟩
              replace hM := hM.below hb
              clear hb
              refine tF 17 [.val 13 (some 90) (.bool true), .val 14 (some 91) (.bool true), .val 15 (some 92) (.bool true), .val 16 (some 93) (.pointer none)] trivial ?_
              refine cF (some 94) 12 #[.pointer none, .pointer none] ((rlLook_no _).mono ?_)
              rintro e Y219 ⟨rfl, hb⟩
              replace hM := hM.below hb
              clear hb
              refine tF 22 [.val 18 (some 95) (.int .i64 0), .val 19 (some 96) (.bool true), .val 20 (some 97) (.bool true), .val 21 (some 4) (.bool true)] trivial ?_
              refine dF ?_
              try simp only [puts, Tk.put, Act.put, List.setIfInBounds_toArray, List.set_cons_zero, List.set_cons_succ]
              go_wp2_with fail
              go_ret
              exact ⟨rfl, hM.b⟩
            | true =>
              have Hhb16 := Lib.hid hb16
              clear hb16
              have hq := mailRead_any b _ _ ((HB.out.below hM.b (Nat.le_refl _)).mono (Nat.le_refl _) hM.size)
              rw [HY.out] at hq
              refine cF (some 49) 11 #[.slice pb b.length cb] ((hq).mono ?_)
              rintro e Y220 ⟨rfl, hb⟩
              clear hq
              replace hM := hM.below hb
              clear hb
              refine tF 5 [.val 2 (some 47) (.tuple #[msv y, .int .i64 c]), .val 3 (some 50) (msv y), .val 4 (some 51) (.int .i64 c)] trivial ?_
              refine rF (some 10) (pt Y220.heap.size 0) (Y220.alloc (.cells (msc noM).toArray 34)) ?_
              replace hM := hM.alloc 34 (msc noM)
              generalize World.alloc _ _ = Y221 at *
              generalize hNe : Y220.heap.size = N221 at *
              clear hNe
              have hst := sto_part (msc y) (hM.at 0 rfl) 0 34 (msv y) (msc y) rfl (by kernel_rfl) (Nat.le_of_ble_eq_true rfl) rfl rfl
              refine sF 34 (pt N221 0) (msv y) (hst) ?_
              clear hst
              replace hM := hM.set 0 (cs' := msc y) rfl rfl
              generalize World.setRow _ _ _ = Y222 at *
              refine tF 8 [.val 7 (some 11) (.int .i64 c)] trivial ?_
              refine dF ?_
              try simp only [puts, Tk.put, Act.put, List.setIfInBounds_toArray, List.set_cons_zero, List.set_cons_succ]
              go_upto_region 10 with fail
              refine wp_region_fromM (fun W => Sep w [] [.blk N221 34 (msc y), .oct (.slice a178o (encG m).length c178o) (encG m), .join (RLR B6 ([]) v183), .blk N2 34 (msc m)] W) hM ?_
              clear hM
              rintro Y223 hM
              refine tF 11 [.val 0 (some 52) (.int .i64 c), .alt 1 (some 53) (.bool (c == 0)) (.bool true), .val 2 (some 54) (.bool true), .val 3 (some 55) (pt N221 0), .load 4 (some 56) 3 (pt N221 0) (.int .i64 y.kd), .alt 5 (some 57) (.bool (y.kd == 3)) (.bool true), .val 6 (some 58) (.bool true), .val 7 (some 59) (.bool true), .val 8 (some 60) (pt N221 38), .load 9 (some 61) 24 (pt N221 38) (wv y.f0 y.f1 y.f2 y.f3), .val 10 (some 62) (wn 0)] ⟨congrArg Value.bool (Hhb14.out), ld_any _ _ Tryz.underlying3 rfl (hM.at 0 rfl) 0 rfl, congrArg Value.bool (Hhb15.out), load_part (hM.at 0 rfl) 38 (fec y) rfl _ _ Tryz.underlying24 rfl (by kernel_rfl), trivial⟩ ?_
              refine neA (.tmp 61) (.tmp 62) 24 (some 63) (fec y).toArray (wnc 0).toArray true (Eq.trans (run_feZ y _) (congrArg (fun z => Result.ok z _) (Hhb16.out))) ?_
              refine tF 15 [.val 12 (some 64) (.bool false), .val 13 (some 65) (.bool false), .skip 14 (some 66)] trivial ?_
              refine wpFrom_not (d := some 67) (by kernel_rfl) ?_
              refine tF 17 [.skip 16 (some 68)] trivial ?_
              refine wpFrom_not (d := some 69) (by kernel_rfl) ?_
              refine tF 21 [.skip 18 (some 70), .val 19 (some 71) (.bool false), .val 20 (some 12) (.bool false)] trivial ?_
              refine dF ?_
              try simp only [puts, Tk.put, Act.put, List.setIfInBounds_toArray, List.set_cons_zero, List.set_cons_succ]
              go_upto_region 11 with fail
              refine wp_region_fromM (fun W => Sep w [] [.blk N221 34 (msc y), .oct (.slice a178o (encG m).length c178o) (encG m), .join (RLR B6 ([]) v183), .blk N2 34 (msc m)] W) hM ?_
              clear hM
              rintro Y224 hM
              refine tF 2 [.val 0 (some 72) (pt B6 0), .val 1 (some 73) (.slice pb b.length cb)] trivial ?_
              have hq := rlHear_any b _ _ (hM.oka 2 rfl) (BF.arg hM (List.mem_of_getElem? (i := 2) rfl) HB.out (Nat.le_refl _)) HY.out
              rw [hear_no ([]) (by decide) (.inr (.inr Hhb16.out))] at hq
              refine cF (some 74) 9 #[pt B6 0, .slice pb b.length cb] ((hq).mono ?_)
              rintro e Y225 ⟨rfl, v225, hT⟩
              clear hq
              replace hM := hM.turn 2 rfl hT rfl
              clear hT
              refine tF 5 [.val 3 (some 75) (.bool false), .val 4 (some 76) (.bool false)] trivial ?_
              refine dF ?_
              try simp only [puts, Tk.put, Act.put, List.setIfInBounds_toArray, List.set_cons_zero, List.set_cons_succ]
              go_upto_region 13 with fail
              refine wp_region_fromM (fun W => Sep w [] [.blk N221 34 (msc y), .oct (.slice a178o (encG m).length c178o) (encG m), .join (RLR B6 ([]) v225), .blk N2 34 (msc m)] W) hM ?_
              clear hM
              rintro Y226 hM
              refine tF 1 [.val 0 (some 13) (.pointer none)] trivial ?_
              refine dF ?_
              try simp only [puts, Tk.put, Act.put, List.setIfInBounds_toArray, List.set_cons_zero, List.set_cons_succ]
              go_upto_region 14 with fail
              refine wp_region_fromM (fun W => Sep w [] [.blk N221 34 (msc y), .oct (.slice a178o (encG m).length c178o) (encG m), .join (RLR B6 ([]) v225), .blk N2 34 (msc m)] W) hM ?_
              clear hM
              rintro Y227 hM
              refine tF 7 [.val 0 (some 77) (.int .i64 0), .val 1 (some 78) (.bool false), .val 2 (some 79) (.bool false), .val 3 (some 80) (.bool true), .val 4 (some 81) (.bool true), .val 5 (some 82) (.pointer none), .val 6 (some 83) (.slice pb b.length cb)] trivial ?_
              refine cF (some 84) 9 #[.pointer none, .slice pb b.length cb] ((rlHear_no (.slice pb b.length cb) _).mono ?_)
              rintro e Y228 ⟨rfl, hb⟩
              replace hM := hM.below hb
              clear hb
              refine tF 12 [.val 8 (some 85) (.bool true), .val 9 (some 86) (.bool true), .val 10 (some 87) (.bool true), .val 11 (some 88) (.pointer none)] trivial ?_
              refine cF (some 89) 10 #[.pointer none] ((rlCount_no _).mono ?_)
              rintro e Y229 ⟨rfl, hb⟩
              replace hM := hM.below hb
              clear hb
              refine tF 17 [.val 13 (some 90) (.bool true), .val 14 (some 91) (.bool true), .val 15 (some 92) (.bool true), .val 16 (some 93) (.pointer none)] trivial ?_
              refine cF (some 94) 12 #[.pointer none, .pointer none] ((rlLook_no _).mono ?_)
              rintro e Y230 ⟨rfl, hb⟩
              replace hM := hM.below hb
              clear hb
              refine tF 22 [.val 18 (some 95) (.int .i64 0), .val 19 (some 96) (.bool true), .val 20 (some 97) (.bool true), .val 21 (some 4) (.bool true)] trivial ?_
              refine dF ?_
              try simp only [puts, Tk.put, Act.put, List.setIfInBounds_toArray, List.set_cons_zero, List.set_cons_succ]
              go_wp2_with fail
              go_ret
              exact ⟨rfl, hM.b⟩
end Go.Proofs.YtechcdkakgpnkaaGreat
namespace Go.Proofs.YtechcdkakgpnkaaGreat
open Go.ChangeShapes Go.WideShapes Go.ChangeAt Go.RowKit Go.Deep
open Go.ChangeMaps (open_string)
set_option maxRecDepth 100000 in
theorem relayHears_lifted (os : Os) (started : os.Started) (H : Type) (enc : TypeId × Value → H) :
    ReturnsInHanded {} Tryz.checked os 3 .any (Rows.relayHearsSpec.pre6 enc Tryz.prog Tryz.f3 Rows.relayHearsRow.domain false) (Rows.relayHearsSpec.post enc Tryz.prog Tryz.f3 false true false false) := by
  refine returnsInHanded_of_change_sized (C := Tryz.checked) Tryz.own started (by kernel_rfl) Tryz.func3
    (ChangeSpec.witness6 (enc := enc) (C := Tryz.checked) false ⟨#[], #[.agg #[.int .i64 0, .int .i64 0, .int .i64 0, .int .i64 0, .int .i64 0, .int .u64 0, .int .u64 0, .int .u64 0, .int .u64 0, .string ⟨#[]⟩, .int .i64 0, .int .i64 0, .int .i64 0, .int .i64 0, .int .i64 0, .int .u64 0, .int .u64 0, .int .u64 0, .int .u64 0, .string ⟨#[]⟩, .int .u64 0, .int .u64 0, .int .u64 0, .int .u64 0, .int .i64 0, .string ⟨#[]⟩, .int .i64 0, .string ⟨#[]⟩, .int .i64 0, .int .i64 0, .int .i64 0, .int .i64 0, .string ⟨#[]⟩, .int .u64 0, .int .u64 0, .int .u64 0, .int .u64 0, .int .i64 0, .int .u64 0, .int .u64 0, .int .u64 0, .int .u64 0, .string ⟨#[]⟩], .slice none 0 0], []⟩ 8 (by kernel_rfl) (by kernel_rfl) (by kernel_rfl) (by kernel_rfl)) ?_
  intro W base args ds gs before hval0 hW hcnd hsz0 _
  have hval : ∀ (j : Nat) t v, Tryz.f3.params[j]? = some t → args[j]? = some v → Value.okWide Tryz.prog W .any base t v := hval0
  have hW' := hW
  obtain ⟨p, q, hA0, hV, rfl, hfz, hnd⟩ := hW
  have hA : DataW.TrodAll enc Tryz.prog W 0 (fun _ => true) true Tryz.f3.params.toList args.toList ds p := hA0
  have hsz : (DataW.weightsEach Tryz.prog (Tryz.f3.params.toList ++ Rows.relayHearsSpec.plain.varTypes Tryz.prog) (ds ++ gs)).all (· ≤ reachBytes) = true := hsz0
  rw [Tryz.params3] at hA hval hsz
  obtain ⟨v0, v1, d0, d1, p0, p1, rfl, rfl, rfl, h0, h1⟩ := trodAll_two hA
  obtain ⟨rfl, rfl⟩ := trodVars_none hV
  obtain ⟨a1, len1, cap1, rfl⟩ := okWide_slice Tryz.underlying35 (hval 1 35 v1 rfl rfl)
  have k0 := h0
  have k1 := h1
  have lt0 : ∀ x ∈ p0, x.block < W.heap.size := by obtain ⟨m, hm⟩ := k0; exact DataW.trod_lt m _ _ _ hm
  have lt1 : ∀ x ∈ p1, x.block < W.heap.size := by obtain ⟨m, hm⟩ := k1; exact DataW.trod_lt m _ _ _ hm
  obtain ⟨i0, rfl, hx0⟩ := open_msg (hval 0 34 v0 rfl rfl) h0
  obtain ⟨l1, rfl, hsl1, hd1⟩ := open_bytes h1
  have hreach1 : l1.length ≤ 140737488351232 := by
    rcases hd1 with rfl | ⟨el, sp, rfl, hel⟩
    · simp
    · have := sized_slice hsz (j := 1) (t := 35) (e := 5) rfl rfl Tryz.underlying35
      rw [Tryz.bytes8] at this
      simp only [reachBytes] at this
      omega
  clear hA0 hval0
  refine (relayHears_any i0 hx0 l1 _ W hsl1).mono fun e W' ⟨he, bel⟩ => ?_
  subst he
  exact ⟨_, rfl, _, _, _, [], _, [], hW', trodAll_mk1 (shut_bool Tryz.underlying4 _), (trodAll_mk2 (Below.trod Tryz.laidOut (by kernel_rfl) (of_decide_eq_true (by kernel_rfl)) k0 bel lt0) (Below.trod Tryz.laidOut (by kernel_rfl) (of_decide_eq_true (by kernel_rfl)) k1 bel lt1)), rfl, bel.frame _, fun h => by cases h⟩
theorem and_t {a b : Bool} (h : a = true) (g : b = true) : (a && b) = true := by rw [h, g]; rfl
set_option maxRecDepth 100000 in
theorem relayHears_j0 : (Rows.relayHearsRow.wf (OpenSpec.ofChange Rows.relayHearsSpec)) = true := by kernel_rfl
set_option maxRecDepth 100000 in
theorem relayHears_j1 : (laidOutB Tryz.pinned.checked.prog) = true := by kernel_rfl
set_option maxRecDepth 100000 in
theorem relayHears_j2 : (mapsRowed Tryz.pinned.checked.prog) = true := by kernel_rfl
set_option maxRecDepth 100000 in
theorem relayHears_j3 : (Tryz.f3.params.all (Tryz.pinned.checked.prog.readableRec ·)) = true := by kernel_rfl
set_option maxRecDepth 100000 in
theorem relayHears_j4 : (namedTie Tryz.pinned.checked.prog Rows.relayHearsRow.named Rows.relayHearsSpec.vars) = true := by kernel_rfl
set_option maxRecDepth 100000 in
theorem relayHears_j5 : ((Rows.relayHearsRow.stops == [])) = true := by kernel_rfl
set_option maxRecDepth 100000 in
theorem relayHears_j6 : ((Tryz.pinned.checked.prog.stops == [])) = true := by kernel_rfl
set_option maxRecDepth 100000 in
theorem relayHears_j7 : ((Rows.relayHearsRow.knobs == [])) = true := by kernel_rfl
set_option maxRecDepth 100000 in
theorem relayHears_j8 : ((Tryz.pinned.checked.prog.stopKnobs == [])) = true := by kernel_rfl
set_option maxRecDepth 100000 in
theorem relayHears_j9 : ((Rows.relayHearsRow.inPlace == Tryz.pinned.checked.prog.inPlace 3)) = true := by kernel_rfl
set_option maxRecDepth 100000 in
theorem relayHears_j10 : ((Rows.relayHearsRow.unfollowed == Tryz.pinned.checked.prog.unfollowed 3)) = true := by kernel_rfl
set_option maxRecDepth 100000 in
theorem relayHears_j11 : ((Rows.relayHearsRow.recurses == Tryz.pinned.checked.prog.recurses 3)) = true := by kernel_rfl
set_option maxRecDepth 100000 in
theorem relayHears_j12 : ((Rows.relayHearsRow.named == Tryz.pinned.checked.prog.varsNamed 3)) = true := by kernel_rfl
set_option maxRecDepth 100000 in
theorem relayHears_j13 : ((Rows.relayHearsRow.maps == (Tryz.f3.params.toList ++ Rows.relayHearsSpec.plain.varTypes Tryz.pinned.checked.prog).any (Tryz.pinned.checked.prog.mapsRec ·))) = true := by kernel_rfl
set_option maxRecDepth 100000 in
theorem relayHears_j14 : ((Rows.relayHearsRow.ifaces == (Tryz.f3.params.toList ++ Rows.relayHearsSpec.plain.varTypes Tryz.pinned.checked.prog).any (Tryz.pinned.checked.prog.ifacesRec ·))) = true := by kernel_rfl
set_option maxRecDepth 100000 in
theorem relayHears_j15 : ((Rows.relayHearsRow.mapsOut == Tryz.pinned.checked.prog.mapsAmong Tryz.f3.resultTypes.toList)) = true := by kernel_rfl
set_option maxRecDepth 100000 in
theorem relayHears_j16 : ((Rows.relayHearsRow.loops == (Tryz.f3.params.toList ++ Rows.relayHearsSpec.plain.varTypes Tryz.pinned.checked.prog).any (Tryz.pinned.checked.prog.loopsFrom ·))) = true := by kernel_rfl
set_option maxRecDepth 100000 in
theorem relayHears_j17 : ((Rows.relayHearsRow.wideKeys == (Tryz.f3.params.toList ++ Rows.relayHearsSpec.plain.varTypes Tryz.pinned.checked.prog ++ Tryz.f3.resultTypes.toList).any (Tryz.pinned.checked.prog.wideKeysFrom ·))) = true := by kernel_rfl
set_option maxRecDepth 100000 in
theorem relayHears_j18 : (Rows.relayHearsSpec.vars.all (Tryz.pinned.checked.prog.varReadable ·)) = true := by kernel_rfl
set_option maxRecDepth 100000 in
theorem relayHears_j19 : (Tryz.f3.resultTypes.all (fun t => Tryz.pinned.checked.prog.readableRec t && decide (t < Tryz.pinned.checked.prog.types.size))) = true := by kernel_rfl
set_option maxRecDepth 100000 in
theorem relayHears_j20 : ((Rows.relayHearsRow.ifacesOut == Tryz.f3.resultTypes.toList.any (Tryz.pinned.checked.prog.ifacesRec ·))) = true := by kernel_rfl
set_option maxRecDepth 100000 in
theorem relayHears_j21 : ((Rows.relayHearsRow.loopsOut == Tryz.f3.resultTypes.toList.any (Tryz.pinned.checked.prog.loopsFrom ·))) = true := by kernel_rfl
set_option maxRecDepth 100000 in
theorem relayHears_j22 : ((Rows.relayHearsRow.plainKeys == Tryz.pinned.checked.prog.plainKeys)) = true := by kernel_rfl
set_option maxRecDepth 100000 in
theorem relayHears_j23 : (Rows.relayHearsRow.shortTexts.isNone) = true := by kernel_rfl
set_option maxRecDepth 100000 in
theorem relayHears_j24 : (Tryz.pinned.checked.prog.stopsHeard) = true := by kernel_rfl
set_option maxRecDepth 100000 in
theorem relayHears_j25 : (Tryz.pinned.checked.prog.mayEnter) = true := by kernel_rfl
set_option maxRecDepth 100000 in
theorem relayHears_j26 : ((Rows.relayHearsRow.lifted == Tryz.pinned.checked.prog.liftsFinal)) = true := by kernel_rfl
set_option maxRecDepth 100000 in
theorem relayHears_j27 : ((Tryz.pinned.checked.prog.make == some Rows.relayHearsRow.make)) = true := by kernel_rfl
set_option maxRecDepth 100000 in
theorem relayHears_j28 : ((Rows.relayHearsRow.kinds == (if Rows.relayHearsRow.domain.isEmpty then [] else Tryz.f3.params.toList.map fun t => match Tryz.pinned.checked.prog.underlying t with | some (.int k) => some k | _ => none))) = true := by kernel_rfl
set_option maxRecDepth 100000 in
theorem relayHears_j29 : ((Rows.relayHearsRow.pinned == Rows.relayHearsRow.pinnedBy)) = true := by kernel_rfl
set_option maxRecDepth 100000 in
theorem relayHears_j30 : ((Rows.relayHearsRow.veiled == (Tryz.f3.params.toList ++ Rows.relayHearsSpec.plain.varTypes Tryz.pinned.checked.prog ++ Tryz.f3.resultTypes.toList).any (Tryz.pinned.checked.prog.veiledRec ·))) = true := by kernel_rfl
set_option maxRecDepth 100000 in
theorem relayHears_j31 : (Rows.relayHearsRow.veiledFits Tryz.pinned.checked.prog Tryz.f3.params.toList (Tryz.f3.params.toList ++ Rows.relayHearsSpec.plain.varTypes Tryz.pinned.checked.prog ++ Tryz.f3.resultTypes.toList)) = true := by kernel_rfl
set_option maxRecDepth 100000 in
theorem relayHears_over : Rows.relayHearsRow.holds Tryz.pinned (OpenSpec.ofChange Rows.relayHearsSpec) :=
  OpenClaim.holds_of_wide 3 Tryz.f3 rfl rfl rfl rfl rfl rfl rfl ⟨rfl, rfl, rfl, rfl, rfl⟩ rfl rfl rfl rfl rfl (by kernel_rfl) Tryz.func3 (by unfold joinedFacts; exact (and_t (and_t (and_t (and_t (and_t (and_t (and_t (and_t (and_t (and_t (and_t (and_t (and_t (and_t (and_t (and_t (and_t (and_t (and_t (and_t (and_t (and_t (and_t (and_t (and_t (and_t (and_t (and_t (and_t (and_t (and_t relayHears_j0 relayHears_j1) relayHears_j2) relayHears_j3) relayHears_j4) relayHears_j5) relayHears_j6) relayHears_j7) relayHears_j8) relayHears_j9) relayHears_j10) relayHears_j11) relayHears_j12) relayHears_j13) relayHears_j14) relayHears_j15) relayHears_j16) relayHears_j17) relayHears_j18) relayHears_j19) relayHears_j20) relayHears_j21) relayHears_j22) relayHears_j23) relayHears_j24) relayHears_j25) relayHears_j26) relayHears_j27) relayHears_j28) relayHears_j29) relayHears_j30) relayHears_j31))
    (of_decide_eq_true (by kernel_rfl)) (by unfold Func.isWrapper; first | (rw [if_pos (by decide +kernel)]; kernel_rfl) | (rw [if_neg (by decide +kernel)]; exact ⟨rfl, rfl⟩))
    (fun os started H enc _ => relayHears_lifted os started H enc)
theorem relayHears_proved : Rows.RelayHearsSaid := relayHears_over
end Go.Proofs.YtechcdkakgpnkaaGreat
