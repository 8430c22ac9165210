/-
  ScriptRefuses answers true at every input, and leaves its arguments as they are.
-/
import Derived.Deep.Slices
import Derived.SizedLaws
import Derived.Carry
import Derived.ChangeMaps5
import Derived.Test.YtemknjnljciioaaGreatK14
namespace Go.Proofs.YtemknjnljciioaaGreat
open Go.RowKit Go.Shelf
attribute [local irreducible] wpFrom wpAnyH StepH
theorem many_eq (z : Int) : IntKind.i64.wrap (511 + ((plcN z 3 : Nat) : Int)) = ((511 + plcN z 3 : Nat) : Int) := (IntWalk.i64_in _ (by have := plc_lt z (n := 3) (by decide); omega)).trans (by omega)
set_option maxRecDepth 100000 in
set_option maxHeartbeats 4000000 in
theorem scriptRefuses_any (x : Sp) (z1 z2 : Int) (w : World) (hs : BSl 0 w.heap.size w (.slice x.ad x.l.length x.cp) x.l) (hx : x.l.length ≤ 140737488351232) : Calls Tryz.prog 3 #[spv x, .int .i64 z1, .int .i64 z2] w fun e W' => e = .returned (.bool true) ∧ Below w.heap.size w W' := by
  have hmx : Tryz.prog.follows .mixedOrders = true := by kernel_rfl
  have HS := Lib.hid hs
  have HRL := Lib.hid hx
  clear hs hx
  have hM := Sep.start w
  go_enter Tryz.func3, Tryz.ntmps3
  go_upto_region 0 with fail
  refine wp_region_fromM (fun W => Sep w [] [] W) hM ?_
  clear hM
  rintro Y1 hM
  refine rF (some 3) (pt Y1.heap.size 0) (Y1.alloc (.cells (spc x).toArray 24)) ?_
  replace hM := hM.alloc 24 (spc x)
  generalize World.alloc _ _ = Y2 at *
  generalize hNe : Y1.heap.size = N2 at *
  clear hNe
  refine tF 2 [.val 1 (some 6) (.bool false)] trivial ?_
  refine dF ?_
  try simp only [puts, Tk.put, Act.put, List.setIfInBounds_toArray, List.set_cons_zero, List.set_cons_succ]
  go_upto_region 1 with fail
  refine wp_region_fromM (fun W => Sep w [] [.blk N2 24 (spc x)] W) hM ?_
  clear hM
  rintro Y3 hM
  refine cF (some 18) 4 #[] ((alive25_any _).mono ?_)
  rintro e Y4 ⟨rfl, hb⟩
  replace hM := hM.below hb
  clear hb
  refine tF 2 [.val 1 (some 19) (.bool false)] trivial ?_
  refine dF ?_
  try simp only [puts, Tk.put, Act.put, List.setIfInBounds_toArray, List.set_cons_zero, List.set_cons_succ]
  go_upto_region 3 with fail
  refine wp_region_fromM (fun W => Sep w [] [.blk N2 24 (spc x)] W) hM ?_
  clear hM
  rintro Y5 hM
  refine tF 4 [.val 0 (some 20) (pt N2 0), .load 1 (some 21) 3 (pt N2 0) (.int .i64 x.ki), .val 2 (some 22) (.bool (decide (x.ki < 0))), .val 3 (some 23) (.bool (decide (x.ki < 0)))] ⟨ld_any _ _ Tryz.underlying3 rfl (hM.at 0 rfl) 0 rfl, trivial⟩ ?_
  cases hb1 : decide (x.ki < 0) with
  | false =>
    have Hhb1 := Lib.hid hb1
    clear hb1
    refine tF 9 [.val 4 (some 24) (pt N2 0), .load 5 (some 25) 3 (pt N2 0) (.int .i64 x.ki), .val 6 (some 26) (.bool (decide (255 < x.ki))), .val 7 (some 27) (.bool (decide (255 < x.ki))), .val 8 (some 7) (.bool (decide (255 < x.ki)))] ⟨ld_any _ _ Tryz.underlying3 rfl (hM.at 0 rfl) 0 rfl, trivial⟩ ?_
    refine dF ?_
    try simp only [puts, Tk.put, Act.put, List.setIfInBounds_toArray, List.set_cons_zero, List.set_cons_succ]
    go_upto_region 4 with fail
    refine wp_region_fromM (fun W => Sep w [] [.blk N2 24 (spc x)] W) hM ?_
    clear hM
    rintro Y6 hM
    refine tF 6 [.val 0 (some 28) (pt N2 1), .load 1 (some 29) 3 (pt N2 1) (.int .i64 x.xa), .val 2 (some 30) (pt N2 2), .load 3 (some 31) 3 (pt N2 2) (.int .i64 x.xb), .val 4 (some 32) (pt N2 3), .load 5 (some 33) 3 (pt N2 3) (.int .i64 x.xc)] ⟨ld_any _ _ Tryz.underlying3 rfl (hM.at 0 rfl) 1 rfl, ld_any _ _ Tryz.underlying3 rfl (hM.at 0 rfl) 2 rfl, ld_any _ _ Tryz.underlying3 rfl (hM.at 0 rfl) 3 rfl, trivial⟩ ?_
    refine rF (some 34) (.slice (some ⟨Y6.heap.size, 0, none⟩) 3 3) (Y6.alloc (.cells ([.int .i64 x.xa, .int .i64 x.xb, .int .i64 x.xc]).toArray 3)) ?_
    replace hM := hM.alloc 3 ([.int .i64 x.xa, .int .i64 x.xb, .int .i64 x.xc])
    generalize World.alloc _ _ = Y7 at *
    generalize hNe : Y6.heap.size = N7 at *
    clear hNe
    refine tF 8 [.val 7 (some 8) (.slice (some ⟨N7, 0, none⟩) 3 3)] trivial ?_
    refine dF ?_
    try simp only [puts, Tk.put, Act.put, List.setIfInBounds_toArray, List.set_cons_zero, List.set_cons_succ]
    go_upto_region 5 with fail
    refine wp_region_fromM (fun W => Sep w [] [.blk N7 3 ([.int .i64 x.xa, .int .i64 x.xb, .int .i64 x.xc]), .blk N2 24 (spc x)] W) hM ?_
    clear hM
    rintro Y8 hM
    refine tF 1 [.val 0 (some 9) (.int .i64 0)] trivial ?_
    refine dF ?_
    try simp only [puts, Tk.put, Act.put, List.setIfInBounds_toArray, List.set_cons_zero, List.set_cons_succ]
    go_wp2_with fail
    go_loopw [9, 7] (fun i u7 wr => ∃ j : Nat, (j = 0 ∨ j = 1 ∨ j = 2 ∨ j = 3) ∧ i = .int .i64 (j : Int) ∧ u7 = .bool (outP (plP x) j) ∧ Sep w [] [.blk N7 3 ([.int .i64 x.xa, .int .i64 x.xb, .int .i64 x.xc]), .blk N2 24 (spc x)] wr) (fun i u7 _ => 3 - (intOf i).toNat)
    case atStart => exact ⟨0, .inl rfl, rfl, out_1 (s := plP x) Hhb1.out, hM⟩
    clear hM
    case round =>
      obtain ⟨j, hq, hi, rfl, hM⟩ := hrel
      rcases hq with rfl | rfl | rfl | rfl
      case inl =>
        replace hi : _ = Value.int .i64 0 := hi
        subst hi
        go_upto_region 6 with fail
        refine wp_region_fromM (fun W => Sep w [] [.blk N7 3 ([.int .i64 x.xa, .int .i64 x.xb, .int .i64 x.xc]), .blk N2 24 (spc x)] W) hM ?_
        clear hM
        rintro Y9 hM
        refine tF 2 [.val 0 (some 35) (.int .i64 0), .val 1 (some 36) (.bool true)] trivial ?_
        refine dF ?_
        try simp only [puts, Tk.put, Act.put, List.setIfInBounds_toArray, List.set_cons_zero, List.set_cons_succ]
        go_upto_region 8 with fail
        refine wp_region_fromM (fun W => Sep w [] [.blk N7 3 ([.int .i64 x.xa, .int .i64 x.xb, .int .i64 x.xc]), .blk N2 24 (spc x)] W) hM ?_
        clear hM
        rintro Y10 hM
        refine tF 2 [.val 0 (some 39) (.bool (outP (plP x) 0)), .val 1 (some 40) (.bool (outP (plP x) 0))] trivial ?_
        cases hb2 : outP (plP x) 0 with
        | false =>
          have Hhb2 := Lib.hid hb2
          clear hb2
          refine tF 9 [.val 2 (some 41) (.slice (some ⟨N7, 0, none⟩) 3 3), .val 3 (some 42) (.int .i64 0), .idx 4 (some 43) 26 (.slice (some ⟨N7, 0, none⟩) 3 3) (.int .i64 0) (pt N7 0), .load 5 (some 44) 3 (pt N7 0) (.int .i64 x.xa), .val 6 (some 45) (.bool (decide (x.xa < (-32768)))), .val 7 (some 46) (.bool (decide (x.xa < (-32768)))), .val 8 (some 47) (.bool (decide (x.xa < (-32768))))] ⟨idx_sl (k := 0) Tryz.underlying26 (c := 1) (by kernel_rfl) (by decide), ld_any _ _ Tryz.underlying3 rfl (hM.at 0 rfl) 0 rfl, trivial⟩ ?_
          cases hb3 : decide (x.xa < (-32768)) with
          | false =>
            have Hhb3 := Lib.hid hb3
            clear hb3
            refine tF 16 [.val 9 (some 48) (.slice (some ⟨N7, 0, none⟩) 3 3), .val 10 (some 49) (.int .i64 0), .idx 11 (some 50) 26 (.slice (some ⟨N7, 0, none⟩) 3 3) (.int .i64 0) (pt N7 0), .load 12 (some 51) 3 (pt N7 0) (.int .i64 x.xa), .val 13 (some 52) (.bool (decide (32767 < x.xa))), .val 14 (some 53) (.bool (decide (32767 < x.xa))), .val 15 (some 7) (.bool (decide (32767 < x.xa)))] ⟨idx_sl (k := 0) Tryz.underlying26 (c := 1) (by kernel_rfl) (by decide), ld_any _ _ Tryz.underlying3 rfl (hM.at 0 rfl) 0 rfl, trivial⟩ ?_
            refine dF ?_
            try simp only [puts, Tk.put, Act.put, List.setIfInBounds_toArray, List.set_cons_zero, List.set_cons_succ]
            go_upto_region 7 with fail
            refine wp_region_fromM (fun W => Sep w [] [.blk N7 3 ([.int .i64 x.xa, .int .i64 x.xb, .int .i64 x.xc]), .blk N2 24 (spc x)] W) hM ?_
            clear hM
            rintro Y11 hM
            refine tF 3 [.val 0 (some 37) (.int .i64 0), .val 1 (some 38) (.int .i64 1), .val 2 (some 9) (.int .i64 1)] trivial ?_
            refine dF ?_
            try simp only [puts, Tk.put, Act.put, List.setIfInBounds_toArray, List.set_cons_zero, List.set_cons_succ]
            have hM1 : Sep w [] [.blk N7 3 ([.int .i64 x.xa, .int .i64 x.xb, .int .i64 x.xc]), .blk N2 24 (spc x)] Y11 := hM.pick [0, 1] (by decide) rfl
            clear hM
            go_wp2_with fail
            go_roundw
            case rel => exact ⟨1, .inr (.inl rfl), rfl, out_c (s := plP x) (j := 0) Hhb2.out Hhb3.out, hM1⟩
            case measure => simp [intOf]
          | true =>
            have Hhb3 := Lib.hid hb3
            clear hb3
            refine tF 16 [.skip 9 (some 48), .skip 10 (some 49), .skip 11 (some 50), .skip 12 (some 51), .skip 13 (some 52), .val 14 (some 53) (.bool true), .val 15 (some 7) (.bool true)] trivial ?_
            refine dF ?_
            try simp only [puts, Tk.put, Act.put, List.setIfInBounds_toArray, List.set_cons_zero, List.set_cons_succ]
            go_upto_region 7 with fail
            refine wp_region_fromM (fun W => Sep w [] [.blk N7 3 ([.int .i64 x.xa, .int .i64 x.xb, .int .i64 x.xc]), .blk N2 24 (spc x)] W) hM ?_
            clear hM
            rintro Y12 hM
            refine tF 3 [.val 0 (some 37) (.int .i64 0), .val 1 (some 38) (.int .i64 1), .val 2 (some 9) (.int .i64 1)] trivial ?_
            refine dF ?_
            try simp only [puts, Tk.put, Act.put, List.setIfInBounds_toArray, List.set_cons_zero, List.set_cons_succ]
            have hM1 : Sep w [] [.blk N7 3 ([.int .i64 x.xa, .int .i64 x.xb, .int .i64 x.xc]), .blk N2 24 (spc x)] Y12 := hM.pick [0, 1] (by decide) rfl
            clear hM
            go_wp2_with fail
            go_roundw
            case rel => exact ⟨1, .inr (.inl rfl), rfl, out_b (s := plP x) (j := 0) Hhb2.out Hhb3.out, hM1⟩
            case measure => simp [intOf]
        | true =>
          have Hhb2 := Lib.hid hb2
          clear hb2
          refine tF 16 [.skip 2 (some 41), .skip 3 (some 42), .skip 4 (some 43), .skip 5 (some 44), .skip 6 (some 45), .val 7 (some 46) (.bool true), .val 8 (some 47) (.bool true), .skip 9 (some 48), .skip 10 (some 49), .skip 11 (some 50), .skip 12 (some 51), .skip 13 (some 52), .val 14 (some 53) (.bool true), .val 15 (some 7) (.bool true)] trivial ?_
          refine dF ?_
          try simp only [puts, Tk.put, Act.put, List.setIfInBounds_toArray, List.set_cons_zero, List.set_cons_succ]
          go_upto_region 7 with fail
          refine wp_region_fromM (fun W => Sep w [] [.blk N7 3 ([.int .i64 x.xa, .int .i64 x.xb, .int .i64 x.xc]), .blk N2 24 (spc x)] W) hM ?_
          clear hM
          rintro Y13 hM
          refine tF 3 [.val 0 (some 37) (.int .i64 0), .val 1 (some 38) (.int .i64 1), .val 2 (some 9) (.int .i64 1)] trivial ?_
          refine dF ?_
          try simp only [puts, Tk.put, Act.put, List.setIfInBounds_toArray, List.set_cons_zero, List.set_cons_succ]
          have hM1 : Sep w [] [.blk N7 3 ([.int .i64 x.xa, .int .i64 x.xb, .int .i64 x.xc]), .blk N2 24 (spc x)] Y13 := hM.pick [0, 1] (by decide) rfl
          clear hM
          go_wp2_with fail
          go_roundw
          case rel => exact ⟨1, .inr (.inl rfl), rfl, out_a (s := plP x) (j := 0) Hhb2.out, hM1⟩
          case measure => simp [intOf]
      case inr.inl =>
        replace hi : _ = Value.int .i64 1 := hi
        subst hi
        go_upto_region 6 with fail
        refine wp_region_fromM (fun W => Sep w [] [.blk N7 3 ([.int .i64 x.xa, .int .i64 x.xb, .int .i64 x.xc]), .blk N2 24 (spc x)] W) hM ?_
        clear hM
        rintro Y14 hM
        refine tF 2 [.val 0 (some 35) (.int .i64 1), .val 1 (some 36) (.bool true)] trivial ?_
        refine dF ?_
        try simp only [puts, Tk.put, Act.put, List.setIfInBounds_toArray, List.set_cons_zero, List.set_cons_succ]
        go_upto_region 8 with fail
        refine wp_region_fromM (fun W => Sep w [] [.blk N7 3 ([.int .i64 x.xa, .int .i64 x.xb, .int .i64 x.xc]), .blk N2 24 (spc x)] W) hM ?_
        clear hM
        rintro Y15 hM
        refine tF 2 [.val 0 (some 39) (.bool (outP (plP x) 1)), .val 1 (some 40) (.bool (outP (plP x) 1))] trivial ?_
        cases hb4 : outP (plP x) 1 with
        | false =>
          have Hhb4 := Lib.hid hb4
          clear hb4
          refine tF 9 [.val 2 (some 41) (.slice (some ⟨N7, 0, none⟩) 3 3), .val 3 (some 42) (.int .i64 1), .idx 4 (some 43) 26 (.slice (some ⟨N7, 0, none⟩) 3 3) (.int .i64 1) (pt N7 1), .load 5 (some 44) 3 (pt N7 1) (.int .i64 x.xb), .val 6 (some 45) (.bool (decide (x.xb < (-32768)))), .val 7 (some 46) (.bool (decide (x.xb < (-32768)))), .val 8 (some 47) (.bool (decide (x.xb < (-32768))))] ⟨idx_sl (k := 1) Tryz.underlying26 (c := 1) (by kernel_rfl) (by decide), ld_any _ _ Tryz.underlying3 rfl (hM.at 0 rfl) 1 rfl, trivial⟩ ?_
          cases hb5 : decide (x.xb < (-32768)) with
          | false =>
            have Hhb5 := Lib.hid hb5
            clear hb5
            refine tF 16 [.val 9 (some 48) (.slice (some ⟨N7, 0, none⟩) 3 3), .val 10 (some 49) (.int .i64 1), .idx 11 (some 50) 26 (.slice (some ⟨N7, 0, none⟩) 3 3) (.int .i64 1) (pt N7 1), .load 12 (some 51) 3 (pt N7 1) (.int .i64 x.xb), .val 13 (some 52) (.bool (decide (32767 < x.xb))), .val 14 (some 53) (.bool (decide (32767 < x.xb))), .val 15 (some 7) (.bool (decide (32767 < x.xb)))] ⟨idx_sl (k := 1) Tryz.underlying26 (c := 1) (by kernel_rfl) (by decide), ld_any _ _ Tryz.underlying3 rfl (hM.at 0 rfl) 1 rfl, trivial⟩ ?_
            refine dF ?_
            try simp only [puts, Tk.put, Act.put, List.setIfInBounds_toArray, List.set_cons_zero, List.set_cons_succ]
            go_upto_region 7 with fail
            refine wp_region_fromM (fun W => Sep w [] [.blk N7 3 ([.int .i64 x.xa, .int .i64 x.xb, .int .i64 x.xc]), .blk N2 24 (spc x)] W) hM ?_
            clear hM
            rintro Y16 hM
            refine tF 3 [.val 0 (some 37) (.int .i64 1), .val 1 (some 38) (.int .i64 2), .val 2 (some 9) (.int .i64 2)] trivial ?_
            refine dF ?_
            try simp only [puts, Tk.put, Act.put, List.setIfInBounds_toArray, List.set_cons_zero, List.set_cons_succ]
            have hM1 : Sep w [] [.blk N7 3 ([.int .i64 x.xa, .int .i64 x.xb, .int .i64 x.xc]), .blk N2 24 (spc x)] Y16 := hM.pick [0, 1] (by decide) rfl
            clear hM
            go_wp2_with fail
            go_roundw
            case rel => exact ⟨2, .inr (.inr (.inl rfl)), rfl, out_c (s := plP x) (j := 1) Hhb4.out Hhb5.out, hM1⟩
            case measure => simp [intOf]
          | true =>
            have Hhb5 := Lib.hid hb5
            clear hb5
            refine tF 16 [.skip 9 (some 48), .skip 10 (some 49), .skip 11 (some 50), .skip 12 (some 51), .skip 13 (some 52), .val 14 (some 53) (.bool true), .val 15 (some 7) (.bool true)] trivial ?_
            refine dF ?_
            try simp only [puts, Tk.put, Act.put, List.setIfInBounds_toArray, List.set_cons_zero, List.set_cons_succ]
            go_upto_region 7 with fail
            refine wp_region_fromM (fun W => Sep w [] [.blk N7 3 ([.int .i64 x.xa, .int .i64 x.xb, .int .i64 x.xc]), .blk N2 24 (spc x)] W) hM ?_
            clear hM
            rintro Y17 hM
            refine tF 3 [.val 0 (some 37) (.int .i64 1), .val 1 (some 38) (.int .i64 2), .val 2 (some 9) (.int .i64 2)] trivial ?_
            refine dF ?_
            try simp only [puts, Tk.put, Act.put, List.setIfInBounds_toArray, List.set_cons_zero, List.set_cons_succ]
            have hM1 : Sep w [] [.blk N7 3 ([.int .i64 x.xa, .int .i64 x.xb, .int .i64 x.xc]), .blk N2 24 (spc x)] Y17 := hM.pick [0, 1] (by decide) rfl
            clear hM
            go_wp2_with fail
            go_roundw
            case rel => exact ⟨2, .inr (.inr (.inl rfl)), rfl, out_b (s := plP x) (j := 1) Hhb4.out Hhb5.out, hM1⟩
            case measure => simp [intOf]
        | true =>
          have Hhb4 := Lib.hid hb4
          clear hb4
          refine tF 16 [.skip 2 (some 41), .skip 3 (some 42), .skip 4 (some 43), .skip 5 (some 44), .skip 6 (some 45), .val 7 (some 46) (.bool true), .val 8 (some 47) (.bool true), .skip 9 (some 48), .skip 10 (some 49), .skip 11 (some 50), .skip 12 (some 51), .skip 13 (some 52), .val 14 (some 53) (.bool true), .val 15 (some 7) (.bool true)] trivial ?_
          refine dF ?_
          try simp only [puts, Tk.put, Act.put, List.setIfInBounds_toArray, List.set_cons_zero, List.set_cons_succ]
          go_upto_region 7 with fail
          refine wp_region_fromM (fun W => Sep w [] [.blk N7 3 ([.int .i64 x.xa, .int .i64 x.xb, .int .i64 x.xc]), .blk N2 24 (spc x)] W) hM ?_
          clear hM
          rintro Y18 hM
          refine tF 3 [.val 0 (some 37) (.int .i64 1), .val 1 (some 38) (.int .i64 2), .val 2 (some 9) (.int .i64 2)] trivial ?_
          refine dF ?_
          try simp only [puts, Tk.put, Act.put, List.setIfInBounds_toArray, List.set_cons_zero, List.set_cons_succ]
          have hM1 : Sep w [] [.blk N7 3 ([.int .i64 x.xa, .int .i64 x.xb, .int .i64 x.xc]), .blk N2 24 (spc x)] Y18 := hM.pick [0, 1] (by decide) rfl
          clear hM
          go_wp2_with fail
          go_roundw
          case rel => exact ⟨2, .inr (.inr (.inl rfl)), rfl, out_a (s := plP x) (j := 1) Hhb4.out, hM1⟩
          case measure => simp [intOf]
      case inr.inr.inl =>
        replace hi : _ = Value.int .i64 2 := hi
        subst hi
        go_upto_region 6 with fail
        refine wp_region_fromM (fun W => Sep w [] [.blk N7 3 ([.int .i64 x.xa, .int .i64 x.xb, .int .i64 x.xc]), .blk N2 24 (spc x)] W) hM ?_
        clear hM
        rintro Y19 hM
        refine tF 2 [.val 0 (some 35) (.int .i64 2), .val 1 (some 36) (.bool true)] trivial ?_
        refine dF ?_
        try simp only [puts, Tk.put, Act.put, List.setIfInBounds_toArray, List.set_cons_zero, List.set_cons_succ]
        go_upto_region 8 with fail
        refine wp_region_fromM (fun W => Sep w [] [.blk N7 3 ([.int .i64 x.xa, .int .i64 x.xb, .int .i64 x.xc]), .blk N2 24 (spc x)] W) hM ?_
        clear hM
        rintro Y20 hM
        refine tF 2 [.val 0 (some 39) (.bool (outP (plP x) 2)), .val 1 (some 40) (.bool (outP (plP x) 2))] trivial ?_
        cases hb6 : outP (plP x) 2 with
        | false =>
          have Hhb6 := Lib.hid hb6
          clear hb6
          refine tF 9 [.val 2 (some 41) (.slice (some ⟨N7, 0, none⟩) 3 3), .val 3 (some 42) (.int .i64 2), .idx 4 (some 43) 26 (.slice (some ⟨N7, 0, none⟩) 3 3) (.int .i64 2) (pt N7 2), .load 5 (some 44) 3 (pt N7 2) (.int .i64 x.xc), .val 6 (some 45) (.bool (decide (x.xc < (-32768)))), .val 7 (some 46) (.bool (decide (x.xc < (-32768)))), .val 8 (some 47) (.bool (decide (x.xc < (-32768))))] ⟨idx_sl (k := 2) Tryz.underlying26 (c := 1) (by kernel_rfl) (by decide), ld_any _ _ Tryz.underlying3 rfl (hM.at 0 rfl) 2 rfl, trivial⟩ ?_
          cases hb7 : decide (x.xc < (-32768)) with
          | false =>
            have Hhb7 := Lib.hid hb7
            clear hb7
            refine tF 16 [.val 9 (some 48) (.slice (some ⟨N7, 0, none⟩) 3 3), .val 10 (some 49) (.int .i64 2), .idx 11 (some 50) 26 (.slice (some ⟨N7, 0, none⟩) 3 3) (.int .i64 2) (pt N7 2), .load 12 (some 51) 3 (pt N7 2) (.int .i64 x.xc), .val 13 (some 52) (.bool (decide (32767 < x.xc))), .val 14 (some 53) (.bool (decide (32767 < x.xc))), .val 15 (some 7) (.bool (decide (32767 < x.xc)))] ⟨idx_sl (k := 2) Tryz.underlying26 (c := 1) (by kernel_rfl) (by decide), ld_any _ _ Tryz.underlying3 rfl (hM.at 0 rfl) 2 rfl, trivial⟩ ?_
            refine dF ?_
            try simp only [puts, Tk.put, Act.put, List.setIfInBounds_toArray, List.set_cons_zero, List.set_cons_succ]
            go_upto_region 7 with fail
            refine wp_region_fromM (fun W => Sep w [] [.blk N7 3 ([.int .i64 x.xa, .int .i64 x.xb, .int .i64 x.xc]), .blk N2 24 (spc x)] W) hM ?_
            clear hM
            rintro Y21 hM
            refine tF 3 [.val 0 (some 37) (.int .i64 2), .val 1 (some 38) (.int .i64 3), .val 2 (some 9) (.int .i64 3)] trivial ?_
            refine dF ?_
            try simp only [puts, Tk.put, Act.put, List.setIfInBounds_toArray, List.set_cons_zero, List.set_cons_succ]
            have hM1 : Sep w [] [.blk N7 3 ([.int .i64 x.xa, .int .i64 x.xb, .int .i64 x.xc]), .blk N2 24 (spc x)] Y21 := hM.pick [0, 1] (by decide) rfl
            clear hM
            go_wp2_with fail
            go_roundw
            case rel => exact ⟨3, .inr (.inr (.inr (rfl))), rfl, out_c (s := plP x) (j := 2) Hhb6.out Hhb7.out, hM1⟩
            case measure => simp [intOf]
          | true =>
            have Hhb7 := Lib.hid hb7
            clear hb7
            refine tF 16 [.skip 9 (some 48), .skip 10 (some 49), .skip 11 (some 50), .skip 12 (some 51), .skip 13 (some 52), .val 14 (some 53) (.bool true), .val 15 (some 7) (.bool true)] trivial ?_
            refine dF ?_
            try simp only [puts, Tk.put, Act.put, List.setIfInBounds_toArray, List.set_cons_zero, List.set_cons_succ]
            go_upto_region 7 with fail
            refine wp_region_fromM (fun W => Sep w [] [.blk N7 3 ([.int .i64 x.xa, .int .i64 x.xb, .int .i64 x.xc]), .blk N2 24 (spc x)] W) hM ?_
            clear hM
            rintro Y22 hM
            refine tF 3 [.val 0 (some 37) (.int .i64 2), .val 1 (some 38) (.int .i64 3), .val 2 (some 9) (.int .i64 3)] trivial ?_
            refine dF ?_
            try simp only [puts, Tk.put, Act.put, List.setIfInBounds_toArray, List.set_cons_zero, List.set_cons_succ]
            have hM1 : Sep w [] [.blk N7 3 ([.int .i64 x.xa, .int .i64 x.xb, .int .i64 x.xc]), .blk N2 24 (spc x)] Y22 := hM.pick [0, 1] (by decide) rfl
            clear hM
            go_wp2_with fail
            go_roundw
            case rel => exact ⟨3, .inr (.inr (.inr (rfl))), rfl, out_b (s := plP x) (j := 2) Hhb6.out Hhb7.out, hM1⟩
            case measure => simp [intOf]
        | true =>
          have Hhb6 := Lib.hid hb6
          clear hb6
          refine tF 16 [.skip 2 (some 41), .skip 3 (some 42), .skip 4 (some 43), .skip 5 (some 44), .skip 6 (some 45), .val 7 (some 46) (.bool true), .val 8 (some 47) (.bool true), .skip 9 (some 48), .skip 10 (some 49), .skip 11 (some 50), .skip 12 (some 51), .skip 13 (some 52), .val 14 (some 53) (.bool true), .val 15 (some 7) (.bool true)] trivial ?_
          refine dF ?_
          try simp only [puts, Tk.put, Act.put, List.setIfInBounds_toArray, List.set_cons_zero, List.set_cons_succ]
          go_upto_region 7 with fail
          refine wp_region_fromM (fun W => Sep w [] [.blk N7 3 ([.int .i64 x.xa, .int .i64 x.xb, .int .i64 x.xc]), .blk N2 24 (spc x)] W) hM ?_
          clear hM
          rintro Y23 hM
          refine tF 3 [.val 0 (some 37) (.int .i64 2), .val 1 (some 38) (.int .i64 3), .val 2 (some 9) (.int .i64 3)] trivial ?_
          refine dF ?_
          try simp only [puts, Tk.put, Act.put, List.setIfInBounds_toArray, List.set_cons_zero, List.set_cons_succ]
          have hM1 : Sep w [] [.blk N7 3 ([.int .i64 x.xa, .int .i64 x.xb, .int .i64 x.xc]), .blk N2 24 (spc x)] Y23 := hM.pick [0, 1] (by decide) rfl
          clear hM
          go_wp2_with fail
          go_roundw
          case rel => exact ⟨3, .inr (.inr (.inr (rfl))), rfl, out_a (s := plP x) (j := 2) Hhb6.out, hM1⟩
          case measure => simp [intOf]
      case inr.inr.inr =>
        replace hi : _ = Value.int .i64 3 := hi
        subst hi
        go_upto_region 6 with fail
        refine wp_region_fromM (fun W => Sep w [] [.blk N7 3 ([.int .i64 x.xa, .int .i64 x.xb, .int .i64 x.xc]), .blk N2 24 (spc x)] W) hM ?_
        clear hM
        rintro Y24 hM
        refine tF 2 [.val 0 (some 35) (.int .i64 3), .val 1 (some 36) (.bool false)] trivial ?_
        refine dF ?_
        try simp only [puts, Tk.put, Act.put, List.setIfInBounds_toArray, List.set_cons_zero, List.set_cons_succ]
        go_upto_region 9 with fail
        refine wp_region_fromM (fun W => Sep w [] [.blk N7 3 ([.int .i64 x.xa, .int .i64 x.xb, .int .i64 x.xc]), .blk N2 24 (spc x)] W) hM ?_
        clear hM
        rintro Y25 hM
        refine tF 1 [.load 0 (some 55) 24 (pt N2 0) (spv x)] ⟨load_part (hM.at 1 rfl) 0 (spc x) rfl _ _ Tryz.underlying24 rfl (by kernel_rfl), trivial⟩ ?_
        refine rF (some 56) (.slice (some ⟨Y25.heap.size, 0, none⟩) 1 1) (Y25.alloc (.cells (spc x).toArray 24)) ?_
        replace hM := hM.alloc 24 (spc x)
        generalize World.alloc _ _ = Y26 at *
        generalize hNe : Y25.heap.size = N26 at *
        clear hNe
        refine cF (some 57) 5 #[.slice (some ⟨N26, 0, none⟩) 1 1] ((putP_any ([x]) _ _ (rsl_blk (f := spc) (x := x) (hM.at 0 rfl)) (Nat.le_refl _) (Holds.one (z := Sp.z (x)) (((HS.out.below hM.b (Nat.le_refl _)).mono (Nat.le_refl _) hM.size)))).mono ?_)
        rintro e Y27 ⟨v27p, rfl, hR⟩
        replace hM := hM.gain hR
        clear hR
        obtain ⟨pv27p, cv27p, rfl⟩ := (hM.oka 0 rfl).slice ocM_len
        refine tF 8 [.val 3 (some 54) (.tuple #[.slice pv27p (putP (([x]).map plP)).length cv27p, .int .i64 (errP (([x]).map plP))]), .val 4 (some 58) (.slice pv27p (putP (([x]).map plP)).length cv27p), .val 5 (some 59) (.int .i64 (errP (([x]).map plP))), .val 6 (some 10) (.slice pv27p (putP (([x]).map plP)).length cv27p), .val 7 (some 11) (.int .i64 (errP (([x]).map plP)))] trivial ?_
        refine dF ?_
        try simp only [puts, Tk.put, Act.put, List.setIfInBounds_toArray, List.set_cons_zero, List.set_cons_succ]
        go_upto_region 10 with fail
        refine wp_region_fromM (fun W => Sep w [] [.own ocM 5 1 (.slice pv27p (putP (([x]).map plP)).length cv27p) (putP (([x]).map plP)), .blk N26 24 (spc x), .blk N7 3 ([.int .i64 x.xa, .int .i64 x.xb, .int .i64 x.xc]), .blk N2 24 (spc x)] W) hM ?_
        clear hM
        rintro Y28 hM
        refine tF 2 [.val 0 (some 61) (.bool (outP (plP x) 3)), .val 1 (some 60) (.bool (outP (plP x) 3))] trivial ?_
        refine dF ?_
        try simp only [puts, Tk.put, Act.put, List.setIfInBounds_toArray, List.set_cons_zero, List.set_cons_succ]
        cases hb8 : outP (plP x) 3 with
        | false =>
          have Hhb8 := Lib.hid hb8
          clear hb8
          go_upto_region 12 with fail
          refine wp_region_fromM (fun W => Sep w [] [.own ocM 5 1 (.slice pv27p (putP (([x]).map plP)).length cv27p) (putP (([x]).map plP)), .blk N26 24 (spc x), .blk N7 3 ([.int .i64 x.xa, .int .i64 x.xb, .int .i64 x.xc]), .blk N2 24 (spc x)] W) hM ?_
          clear hM
          rintro Y29 hM
          refine tF 5 [.val 0 (some 70) (pt N2 4), .load 1 (some 71) 22 (pt N2 4) (.slice x.ad x.l.length x.cp), .val 2 (some 72) (.int .i64 (x.l.length : Int)), .val 3 (some 73) (.bool (decide (1024 < (x.l.length : Int)))), .val 4 (some 69) (.bool (decide (1024 < (x.l.length : Int))))] ⟨ld_any _ _ Tryz.underlying22 rfl (hM.at 3 rfl) 4 rfl, trivial⟩ ?_
          refine dF ?_
          try simp only [puts, Tk.put, Act.put, List.setIfInBounds_toArray, List.set_cons_zero, List.set_cons_succ]
          cases hb9 : decide (1024 < (x.l.length : Int)) with
          | false =>
            have Hhb9 := Lib.hid hb9
            clear hb9
            have HO : Hid (errP (([x]).map plP) = 0 ∧ putP (([x]).map plP) = octP (plP x) ∧ OkP (plP x)) := Lib.hid (one_ok Hhb8.out (by have h := of_decide_eq_false Hhb9.out; simp only [plP]; omega))
            have HLN : Hid ((putP (([x]).map plP)).length = 9 + x.l.length) := Lib.hid (by rw [HO.out.2.1, octP_len]; rfl)
            have HLE : Hid (x.l.length ≤ 1024) := Lib.hid (by have h := of_decide_eq_false Hhb9.out; omega)
            go_upto_region 14 with fail
            refine wp_region_fromM (fun W => Sep w [] [.own ocM 5 1 (.slice pv27p (putP (([x]).map plP)).length cv27p) (putP (([x]).map plP)), .blk N26 24 (spc x), .blk N7 3 ([.int .i64 x.xa, .int .i64 x.xb, .int .i64 x.xc]), .blk N2 24 (spc x)] W) hM ?_
            clear hM
            rintro Y30 hM
            refine tF 1 [.val 0 (some 81) (.int .i64 z1)] trivial ?_
            refine remF (.tmp 81) (.const (.int .i64 3)) 3 3 (some 82) z1 3 (Int.tmod z1 ((3 : Nat) : Int)) (by decide) rfl ?_
            refine tF 3 [.alt 2 (some 83) (.int .i64 (IntKind.i64.wrap ((Int.tmod z1 ((3 : Nat) : Int)) + 3))) (.int .i64 (Int.tmod z1 ((3 : Nat) : Int) + ((3 : Nat) : Int)))] ⟨congrArg (Value.int .i64) ((plc_sum z1 (n := 3) (by decide) (by decide))), trivial⟩ ?_
            refine remF (.tmp 83) (.const (.int .i64 3)) 3 3 (some 84) (Int.tmod z1 ((3 : Nat) : Int) + ((3 : Nat) : Int)) 3 ((plcN z1 3 : Nat) : Int) (by decide) (plc_eq z1 (n := 3) (by decide)) ?_
            refine tF 6 [.alt 4 (some 85) (.int .i64 (IntKind.i64.wrap (511 + ((plcN z1 3 : Nat) : Int)))) (.int .i64 ((511 + plcN z1 3 : Nat) : Int)), .val 5 (some 1) (.int .i64 ((511 + plcN z1 3 : Nat) : Int))] ⟨congrArg (Value.int .i64) (many_eq z1), trivial⟩ ?_
            refine dF ?_
            try simp only [puts, Tk.put, Act.put, List.setIfInBounds_toArray, List.set_cons_zero, List.set_cons_succ]
            obtain ⟨n, hn⟩ : ∃ n : Nat, n = 511 + plcN z1 3 := ⟨_, rfl⟩
            have HNN : Hid (n ≤ 513) := Lib.hid (by have := plc_lt z1 (n := 3) (by decide); omega)
            rw [← hn]
            clear hn
            go_upto_region 15 with fail
            refine wp_region_fromM (fun W => Sep w [] [.own ocM 5 1 (.slice pv27p (putP (([x]).map plP)).length cv27p) (putP (([x]).map plP)), .blk N26 24 (spc x), .blk N7 3 ([.int .i64 x.xa, .int .i64 x.xb, .int .i64 x.xc]), .blk N2 24 (spc x)] W) hM ?_
            clear hM
            rintro Y31 hM
            refine tF 1 [.val 0 (some 87) (.int .i64 (n : Int))] trivial ?_
            obtain ⟨mv32, Y32, hrun, hO, hb⟩ := makeSp Y31 n (by have h := HNN.out; omega)
            replace hM := hM.row (f := spc) hO hb
            refine rF (some 88) (mv32) Y32 ?_ (runAt_makeM (by kernel_rfl) hrun)
            clear hrun hO hb
            refine cF (some 89) 5 #[mv32] ((putP_any (List.replicate n noSp) _ _ ((hM.oka 0 rfl).rsl spc_len) (Nat.le_refl _) (hold_rep _ n _)).mono ?_)
            rintro e Y33 ⟨v33p, rfl, hR⟩
            replace hM := hM.gain hR
            clear hR
            obtain ⟨pv33p, cv33p, rfl⟩ := (hM.oka 0 rfl).slice ocM_len
            refine tF 8 [.val 3 (some 86) (.tuple #[.slice pv33p (putP ((List.replicate n noSp).map plP)).length cv33p, .int .i64 (errP ((List.replicate n noSp).map plP))]), .val 4 (some 90) (.slice pv33p (putP ((List.replicate n noSp).map plP)).length cv33p), .val 5 (some 91) (.int .i64 (errP ((List.replicate n noSp).map plP))), .val 6 (some 12) (.slice pv33p (putP ((List.replicate n noSp).map plP)).length cv33p), .val 7 (some 13) (.int .i64 (errP ((List.replicate n noSp).map plP)))] trivial ?_
            refine dF ?_
            try simp only [puts, Tk.put, Act.put, List.setIfInBounds_toArray, List.set_cons_zero, List.set_cons_succ]
            go_upto_region 16 with fail
            refine wp_region_fromM (fun W => Sep w [] [.own ocM 5 1 (.slice pv33p (putP ((List.replicate n noSp).map plP)).length cv33p) (putP ((List.replicate n noSp).map plP)), .own spc 24 5 (mv32) (List.replicate n noSp), .own ocM 5 1 (.slice pv27p (putP (([x]).map plP)).length cv27p) (putP (([x]).map plP)), .blk N26 24 (spc x), .blk N7 3 ([.int .i64 x.xa, .int .i64 x.xb, .int .i64 x.xc]), .blk N2 24 (spc x)] W) hM ?_
            clear hM
            rintro Y34 hM
            refine tF 2 [.val 0 (some 93) (suv (Su.mk 1 0 31 0)), .val 1 (some 94) (.int .i64 (n : Int))] trivial ?_
            obtain ⟨mv35, Y35, hrun, hO, hb⟩ := makeSp Y34 n (by have h := HNN.out; omega)
            replace hM := hM.row (f := spc) hO hb
            refine rF (some 95) (mv35) Y35 ?_ (runAt_makeM (by kernel_rfl) hrun)
            clear hrun hO hb
            refine cF (some 96) 6 #[suv (Su.mk 1 0 31 0), mv35] ((runW_any (List.replicate n noSp) _ _ ((hM.oka 0 rfl).rsl spc_len) (Nat.le_refl _) all_rep).mono ?_)
            rintro e Y36 ⟨pr36, rfl, hb⟩
            replace hM := hM.below hb
            clear hb
            refine tF 9 [.val 4 (some 92) (.tuple #[.pointer pr36, .int .i64 (erW (List.replicate n noSp).length)]), .val 5 (some 97) (.pointer pr36), .val 6 (some 98) (.int .i64 (erW (List.replicate n noSp).length)), .val 7 (some 14) (.pointer pr36), .val 8 (some 15) (.int .i64 (erW (List.replicate n noSp).length))] trivial ?_
            refine dF ?_
            try simp only [puts, Tk.put, Act.put, List.setIfInBounds_toArray, List.set_cons_zero, List.set_cons_succ]
            go_upto_region 17 with fail
            have HPS := Lib.hid (plc_sum z2 (n := (putP (([x]).map plP)).length) (by have h := HLN.out; omega) (by have h := HLN.out; have h2 := HLE.out; omega))
            have HPE := Lib.hid (plc_eq z2 (n := (putP (([x]).map plP)).length) (by have h := HLN.out; omega))
            have HNZ : Hid ((((putP (([x]).map plP)).length : Nat) : Int) ≠ 0) := Lib.hid (by have h := HLN.out; omega)
            refine wp_region_fromM (fun W => Sep w [] [.own spc 24 5 (mv35) (List.replicate n noSp), .own ocM 5 1 (.slice pv33p (putP ((List.replicate n noSp).map plP)).length cv33p) (putP ((List.replicate n noSp).map plP)), .own spc 24 5 (mv32) (List.replicate n noSp), .own ocM 5 1 (.slice pv27p (putP (([x]).map plP)).length cv27p) (putP (([x]).map plP)), .blk N26 24 (spc x), .blk N7 3 ([.int .i64 x.xa, .int .i64 x.xb, .int .i64 x.xc]), .blk N2 24 (spc x)] W) hM ?_
            clear hM
            rintro Y37 hM
            refine tF 3 [.val 0 (some 99) (.int .i64 z2), .val 1 (some 100) (.slice pv27p (putP (([x]).map plP)).length cv27p), .val 2 (some 101) (.int .i64 ((putP (([x]).map plP)).length : Int))] trivial ?_
            refine remF (.tmp 99) (.tmp 101) 3 3 (some 102) z2 ((putP (([x]).map plP)).length : Int) (Int.tmod z2 ((putP (([x]).map plP)).length : Int)) HNZ.out rfl ?_
            refine tF 9 [.val 4 (some 103) (.slice pv27p (putP (([x]).map plP)).length cv27p), .val 5 (some 104) (.int .i64 ((putP (([x]).map plP)).length : Int)), .alt 6 (some 105) (.int .i64 (IntKind.i64.wrap ((Int.tmod z2 ((putP (([x]).map plP)).length : Int)) + ((putP (([x]).map plP)).length : Int)))) (.int .i64 (Int.tmod z2 ((putP (([x]).map plP)).length : Int) + ((putP (([x]).map plP)).length : Int))), .val 7 (some 106) (.slice pv27p (putP (([x]).map plP)).length cv27p), .val 8 (some 107) (.int .i64 ((putP (([x]).map plP)).length : Int))] ⟨congrArg (Value.int .i64) (HPS.out), trivial⟩ ?_
            refine remF (.tmp 105) (.tmp 107) 3 3 (some 108) (Int.tmod z2 ((putP (([x]).map plP)).length : Int) + ((putP (([x]).map plP)).length : Int)) ((putP (([x]).map plP)).length : Int) ((plcN z2 (putP (([x]).map plP)).length : Nat) : Int) HNZ.out HPE.out ?_
            refine tF 11 [.val 10 (some 2) (.int .i64 ((plcN z2 (putP (([x]).map plP)).length : Nat) : Int))] trivial ?_
            refine dF ?_
            try simp only [puts, Tk.put, Act.put, List.setIfInBounds_toArray, List.set_cons_zero, List.set_cons_succ]
            obtain ⟨k, hk⟩ : ∃ k : Nat, k = plcN z2 (putP (([x]).map plP)).length := ⟨_, rfl⟩
            have HK : Hid (k < 9 + x.l.length) := Lib.hid (by have h := plc_lt z2 (n := (putP (([x]).map plP)).length) (by have h := HLN.out; omega); rw [← hk, HLN.out] at h; exact h)
            rw [← hk]
            clear hk
            go_upto_region 18 with fail
            obtain ⟨ak, ck, hrun, hcb, _⟩ := cutH (hM.oka 3 rfl).own_bsl (j := k) rfl (by have h := HLN.out; have h2 := HK.out; omega)
            have HR := Lib.hid hrun
            have HCB := Lib.hid hcb
            clear hrun hcb
            refine wp_region_fromM (fun W => Sep w [] [.own spc 24 5 (mv35) (List.replicate n noSp), .own ocM 5 1 (.slice pv33p (putP ((List.replicate n noSp).map plP)).length cv33p) (putP ((List.replicate n noSp).map plP)), .own spc 24 5 (mv32) (List.replicate n noSp), .own ocM 5 1 (.slice pv27p (putP (([x]).map plP)).length cv27p) (putP (([x]).map plP)), .blk N26 24 (spc x), .blk N7 3 ([.int .i64 x.xa, .int .i64 x.xb, .int .i64 x.xc]), .blk N2 24 (spc x)] W) hM ?_
            clear hM
            rintro Y38 hM
            refine tF 3 [.val 0 (some 110) (.slice pv27p (putP (([x]).map plP)).length cv27p), .val 1 (some 111) (.int .i64 (k : Int)), .slc 2 (some 112) 22 (.slice pv27p (putP (([x]).map plP)).length cv27p) none (some (.int .i64 (k : Int))) none (.slice ak ((putP (([x]).map plP)).take k).length ck)] ⟨HR.out _, trivial⟩ ?_
            refine cF (some 113) 7 #[.slice ak ((putP (([x]).map plP)).take k).length ck] ((readP_any ((putP (([x]).map plP)).take k) _ ((by have h := HLN.out; have h2 := HLE.out; rw [List.length_take]; omega)) (HCB.out _ _ _ (hM.oka 3 rfl).own_bsl)).mono ?_)
            rintro e Y39 ⟨v39r, xs39, er39, rfl, hd, hR⟩
            have HD39 := Lib.hid hd
            replace hM := hM.gain2 hR
            clear hR hd
            obtain ⟨pv39r, cv39r, rfl⟩ := (hM.oka 0 rfl).slice spc_len
            have HCR := Lib.hid (cut_read HO.out.2.2 (k := k) (by have h := HK.out; rw [octP_len]; exact h) (by have h := HD39.out; rw [HO.out.2.1] at h; exact h))
            refine tF 9 [.val 4 (some 109) (.tuple #[.slice pv39r xs39.length cv39r, .int .i64 er39]), .val 5 (some 114) (.slice pv39r xs39.length cv39r), .val 6 (some 115) (.int .i64 er39), .val 7 (some 16) (.slice pv39r xs39.length cv39r), .val 8 (some 17) (.int .i64 er39)] trivial ?_
            refine dF ?_
            try simp only [puts, Tk.put, Act.put, List.setIfInBounds_toArray, List.set_cons_zero, List.set_cons_succ]
            go_upto_region 19 with fail
            have HF : Hid ((errP ((List.replicate n noSp).map plP) == 3) = decide ((512 : Int) < (n : Int)) ∧ (((erW (List.replicate n noSp).length : Int)) == 3) = decide ((512 : Int) < (n : Int))) := Lib.hid (by
              by_cases h : 512 < n
              · rw [rep_many h, List.length_replicate, show erW n = 3 from if_pos h, decide_eq_true (show (512 : Int) < (n : Int) by omega)]; exact ⟨rfl, rfl⟩
              · rw [rep_few (by omega), List.length_replicate, show erW n = 0 from if_neg h, decide_eq_false (show ¬ (512 : Int) < (n : Int) by omega)]; exact ⟨rfl, rfl⟩)
            refine wp_region_fromM (fun W => Sep w [] [.own spc 24 5 (.slice pv39r xs39.length cv39r) (xs39), .octs (zsP xs39), .own spc 24 5 (mv35) (List.replicate n noSp), .own ocM 5 1 (.slice pv33p (putP ((List.replicate n noSp).map plP)).length cv33p) (putP ((List.replicate n noSp).map plP)), .own spc 24 5 (mv32) (List.replicate n noSp), .own ocM 5 1 (.slice pv27p (putP (([x]).map plP)).length cv27p) (putP (([x]).map plP)), .blk N26 24 (spc x), .blk N7 3 ([.int .i64 x.xa, .int .i64 x.xb, .int .i64 x.xc]), .blk N2 24 (spc x)] W) hM ?_
            clear hM
            rintro Y40 hM
            refine tF 30 [.val 0 (some 116) (.int .i64 (errP (([x]).map plP))), .alt 1 (some 117) (.bool ((errP (([x]).map plP)) == 0)) (.bool true), .val 2 (some 118) (.bool true), .val 3 (some 119) (.slice pv27p (putP (([x]).map plP)).length cv27p), .val 4 (some 120) (.int .i64 ((putP (([x]).map plP)).length : Int)), .val 5 (some 121) (pt N2 4), .load 6 (some 122) 22 (pt N2 4) (.slice x.ad x.l.length x.cp), .val 7 (some 123) (.int .i64 (x.l.length : Int)), .alt 8 (some 124) (.int .i64 (IntKind.i64.wrap (9 + (x.l.length : Int)))) (.int .i64 ((9 + x.l.length : Nat) : Int)), .alt 9 (some 125) (.bool (((putP (([x]).map plP)).length : Int) == ((9 + x.l.length : Nat) : Int))) (.bool true), .val 10 (some 126) (.bool true), .val 11 (some 127) (.bool true), .val 12 (some 128) (.int .i64 (errP ((List.replicate n noSp).map plP))), .val 13 (some 129) (.bool ((errP ((List.replicate n noSp).map plP)) == 3)), .val 14 (some 130) (.int .i64 (n : Int)), .val 15 (some 131) (.bool (decide (512 < (n : Int)))), .alt 16 (some 132) (.bool (((errP ((List.replicate n noSp).map plP)) == 3) == (decide (512 < (n : Int))))) (.bool true), .val 17 (some 133) (.bool true), .val 18 (some 134) (.bool true), .val 19 (some 135) (.int .i64 (erW (List.replicate n noSp).length)), .val 20 (some 136) (.bool ((erW (List.replicate n noSp).length) == 3)), .val 21 (some 137) (.int .i64 (n : Int)), .val 22 (some 138) (.bool (decide (512 < (n : Int)))), .alt 23 (some 139) (.bool (((erW (List.replicate n noSp).length) == 3) == (decide (512 < (n : Int))))) (.bool true), .val 24 (some 140) (.bool true), .val 25 (some 141) (.bool true), .val 26 (some 142) (.int .i64 er39), .val 27 (some 143) (.bool (er39 == 0)), .val 28 (some 144) (.int .i64 (k : Int)), .val 29 (some 145) (.bool ((k : Int) == 0))] ⟨congrArg Value.bool ((by rw [HO.out.1]; rfl)), ld_any _ _ Tryz.underlying22 rfl (hM.at 8 rfl) 4 rfl, congrArg (Value.int .i64) ((IntWalk.i64_in _ (by have h := HLE.out; omega)).trans (by omega)), congrArg Value.bool ((by rw [HLN.out]; exact beq_self_eq_true _)), congrArg Value.bool ((by rw [HF.out.1]; exact beq_self_eq_true _)), congrArg Value.bool ((by rw [HF.out.2]; exact beq_self_eq_true _)), trivial⟩ ?_
            refine tF 33 [.alt 30 (some 146) (.bool ((er39 == 0) == ((k : Int) == 0))) (.bool true), .val 31 (some 147) (.bool true), .val 32 (some 6) (.bool true)] ⟨congrArg Value.bool ((by rw [HCR.out]; exact beq_self_eq_true _)), trivial⟩ ?_
            refine dF ?_
            try simp only [puts, Tk.put, Act.put, List.setIfInBounds_toArray, List.set_cons_zero, List.set_cons_succ]
            go_wp2_with fail
            go_ret
            exact ⟨rfl, hM.b⟩
          | true =>
            have Hhb9 := Lib.hid hb9
            clear hb9
            have HO : Hid (errP (([x]).map plP) = 5 ∧ putP (([x]).map plP) = []) := Lib.hid (one_long Hhb8.out (by have h := of_decide_eq_true Hhb9.out; simp only [plP]; omega))
            go_upto_region 13 with fail
            refine wp_region_fromM (fun W => Sep w [] [.own ocM 5 1 (.slice pv27p (putP (([x]).map plP)).length cv27p) (putP (([x]).map plP)), .blk N26 24 (spc x), .blk N7 3 ([.int .i64 x.xa, .int .i64 x.xb, .int .i64 x.xc]), .blk N2 24 (spc x)] W) hM ?_
            clear hM
            rintro Y41 hM
            refine tF 8 [.val 0 (some 74) (.int .i64 (errP (([x]).map plP))), .alt 1 (some 75) (.bool ((errP (([x]).map plP)) == 5)) (.bool true), .val 2 (some 76) (.bool true), .val 3 (some 77) (.slice pv27p (putP (([x]).map plP)).length cv27p), .val 4 (some 78) (.int .i64 ((putP (([x]).map plP)).length : Int)), .alt 5 (some 79) (.bool (((putP (([x]).map plP)).length : Int) == 0)) (.bool true), .val 6 (some 80) (.bool true), .val 7 (some 6) (.bool true)] ⟨congrArg Value.bool ((by rw [HO.out.1]; rfl)), congrArg Value.bool ((by rw [HO.out.2]; rfl)), trivial⟩ ?_
            refine dF ?_
            try simp only [puts, Tk.put, Act.put, List.setIfInBounds_toArray, List.set_cons_zero, List.set_cons_succ]
            go_wp2_with fail
            go_ret
            exact ⟨rfl, hM.b⟩
        | true =>
          have Hhb8 := Lib.hid hb8
          clear hb8
          have HO : Hid (errP (([x]).map plP) = 4 ∧ putP (([x]).map plP) = []) := Lib.hid (one_out Hhb8.out)
          go_upto_region 11 with fail
          refine wp_region_fromM (fun W => Sep w [] [.own ocM 5 1 (.slice pv27p (putP (([x]).map plP)).length cv27p) (putP (([x]).map plP)), .blk N26 24 (spc x), .blk N7 3 ([.int .i64 x.xa, .int .i64 x.xb, .int .i64 x.xc]), .blk N2 24 (spc x)] W) hM ?_
          clear hM
          rintro Y42 hM
          refine tF 8 [.val 0 (some 62) (.int .i64 (errP (([x]).map plP))), .alt 1 (some 63) (.bool ((errP (([x]).map plP)) == 4)) (.bool true), .val 2 (some 64) (.bool true), .val 3 (some 65) (.slice pv27p (putP (([x]).map plP)).length cv27p), .val 4 (some 66) (.int .i64 ((putP (([x]).map plP)).length : Int)), .alt 5 (some 67) (.bool (((putP (([x]).map plP)).length : Int) == 0)) (.bool true), .val 6 (some 68) (.bool true), .val 7 (some 6) (.bool true)] ⟨congrArg Value.bool ((by rw [HO.out.1]; rfl)), congrArg Value.bool ((by rw [HO.out.2]; rfl)), trivial⟩ ?_
          refine dF ?_
          try simp only [puts, Tk.put, Act.put, List.setIfInBounds_toArray, List.set_cons_zero, List.set_cons_succ]
          go_wp2_with fail
          go_ret
          exact ⟨rfl, hM.b⟩
  | true =>
    have Hhb1 := Lib.hid hb1
    clear hb1
    refine tF 9 [.skip 4 (some 24), .skip 5 (some 25), .skip 6 (some 26), .val 7 (some 27) (.bool true), .val 8 (some 7) (.bool true)] trivial ?_
    refine dF ?_
    try simp only [puts, Tk.put, Act.put, List.setIfInBounds_toArray, List.set_cons_zero, List.set_cons_succ]
    go_upto_region 4 with fail
    refine wp_region_fromM (fun W => Sep w [] [.blk N2 24 (spc x)] W) hM ?_
    clear hM
    rintro Y43 hM
    refine tF 6 [.val 0 (some 28) (pt N2 1), .load 1 (some 29) 3 (pt N2 1) (.int .i64 x.xa), .val 2 (some 30) (pt N2 2), .load 3 (some 31) 3 (pt N2 2) (.int .i64 x.xb), .val 4 (some 32) (pt N2 3), .load 5 (some 33) 3 (pt N2 3) (.int .i64 x.xc)] ⟨ld_any _ _ Tryz.underlying3 rfl (hM.at 0 rfl) 1 rfl, ld_any _ _ Tryz.underlying3 rfl (hM.at 0 rfl) 2 rfl, ld_any _ _ Tryz.underlying3 rfl (hM.at 0 rfl) 3 rfl, trivial⟩ ?_
    refine rF (some 34) (.slice (some ⟨Y43.heap.size, 0, none⟩) 3 3) (Y43.alloc (.cells ([.int .i64 x.xa, .int .i64 x.xb, .int .i64 x.xc]).toArray 3)) ?_
    replace hM := hM.alloc 3 ([.int .i64 x.xa, .int .i64 x.xb, .int .i64 x.xc])
    generalize World.alloc _ _ = Y44 at *
    generalize hNe : Y43.heap.size = N44 at *
    clear hNe
    refine tF 8 [.val 7 (some 8) (.slice (some ⟨N44, 0, none⟩) 3 3)] trivial ?_
    refine dF ?_
    try simp only [puts, Tk.put, Act.put, List.setIfInBounds_toArray, List.set_cons_zero, List.set_cons_succ]
    go_upto_region 5 with fail
    refine wp_region_fromM (fun W => Sep w [] [.blk N44 3 ([.int .i64 x.xa, .int .i64 x.xb, .int .i64 x.xc]), .blk N2 24 (spc x)] W) hM ?_
    clear hM
    rintro Y45 hM
    refine tF 1 [.val 0 (some 9) (.int .i64 0)] trivial ?_
    refine dF ?_
    try simp only [puts, Tk.put, Act.put, List.setIfInBounds_toArray, List.set_cons_zero, List.set_cons_succ]
    go_wp2_with fail
    go_loopw [9, 7] (fun i u7 wr => ∃ j : Nat, (j = 0 ∨ j = 1 ∨ j = 2 ∨ j = 3) ∧ i = .int .i64 (j : Int) ∧ u7 = .bool (outP (plP x) j) ∧ Sep w [] [.blk N44 3 ([.int .i64 x.xa, .int .i64 x.xb, .int .i64 x.xc]), .blk N2 24 (spc x)] wr) (fun i u7 _ => 3 - (intOf i).toNat)
    case atStart => exact ⟨0, .inl rfl, rfl, out_0 (s := plP x) Hhb1.out, hM⟩
    clear hM
    case round =>
      obtain ⟨j, hq, hi, rfl, hM⟩ := hrel
      rcases hq with rfl | rfl | rfl | rfl
      case inl =>
        replace hi : _ = Value.int .i64 0 := hi
        subst hi
        go_upto_region 6 with fail
        refine wp_region_fromM (fun W => Sep w [] [.blk N44 3 ([.int .i64 x.xa, .int .i64 x.xb, .int .i64 x.xc]), .blk N2 24 (spc x)] W) hM ?_
        clear hM
        rintro Y46 hM
        refine tF 2 [.val 0 (some 35) (.int .i64 0), .val 1 (some 36) (.bool true)] trivial ?_
        refine dF ?_
        try simp only [puts, Tk.put, Act.put, List.setIfInBounds_toArray, List.set_cons_zero, List.set_cons_succ]
        go_upto_region 8 with fail
        refine wp_region_fromM (fun W => Sep w [] [.blk N44 3 ([.int .i64 x.xa, .int .i64 x.xb, .int .i64 x.xc]), .blk N2 24 (spc x)] W) hM ?_
        clear hM
        rintro Y47 hM
        refine tF 2 [.val 0 (some 39) (.bool (outP (plP x) 0)), .val 1 (some 40) (.bool (outP (plP x) 0))] trivial ?_
        cases hb10 : outP (plP x) 0 with
        | false =>
          have Hhb10 := Lib.hid hb10
          clear hb10
          refine tF 9 [.val 2 (some 41) (.slice (some ⟨N44, 0, none⟩) 3 3), .val 3 (some 42) (.int .i64 0), .idx 4 (some 43) 26 (.slice (some ⟨N44, 0, none⟩) 3 3) (.int .i64 0) (pt N44 0), .load 5 (some 44) 3 (pt N44 0) (.int .i64 x.xa), .val 6 (some 45) (.bool (decide (x.xa < (-32768)))), .val 7 (some 46) (.bool (decide (x.xa < (-32768)))), .val 8 (some 47) (.bool (decide (x.xa < (-32768))))] ⟨idx_sl (k := 0) Tryz.underlying26 (c := 1) (by kernel_rfl) (by decide), ld_any _ _ Tryz.underlying3 rfl (hM.at 0 rfl) 0 rfl, trivial⟩ ?_
          cases hb11 : decide (x.xa < (-32768)) with
          | false =>
            have Hhb11 := Lib.hid hb11
            clear hb11
            refine tF 16 [.val 9 (some 48) (.slice (some ⟨N44, 0, none⟩) 3 3), .val 10 (some 49) (.int .i64 0), .idx 11 (some 50) 26 (.slice (some ⟨N44, 0, none⟩) 3 3) (.int .i64 0) (pt N44 0), .load 12 (some 51) 3 (pt N44 0) (.int .i64 x.xa), .val 13 (some 52) (.bool (decide (32767 < x.xa))), .val 14 (some 53) (.bool (decide (32767 < x.xa))), .val 15 (some 7) (.bool (decide (32767 < x.xa)))] ⟨idx_sl (k := 0) Tryz.underlying26 (c := 1) (by kernel_rfl) (by decide), ld_any _ _ Tryz.underlying3 rfl (hM.at 0 rfl) 0 rfl, trivial⟩ ?_
            refine dF ?_
            try simp only [puts, Tk.put, Act.put, List.setIfInBounds_toArray, List.set_cons_zero, List.set_cons_succ]
            go_upto_region 7 with fail
            refine wp_region_fromM (fun W => Sep w [] [.blk N44 3 ([.int .i64 x.xa, .int .i64 x.xb, .int .i64 x.xc]), .blk N2 24 (spc x)] W) hM ?_
            clear hM
            rintro Y48 hM
            refine tF 3 [.val 0 (some 37) (.int .i64 0), .val 1 (some 38) (.int .i64 1), .val 2 (some 9) (.int .i64 1)] trivial ?_
            refine dF ?_
            try simp only [puts, Tk.put, Act.put, List.setIfInBounds_toArray, List.set_cons_zero, List.set_cons_succ]
            have hM1 : Sep w [] [.blk N44 3 ([.int .i64 x.xa, .int .i64 x.xb, .int .i64 x.xc]), .blk N2 24 (spc x)] Y48 := hM.pick [0, 1] (by decide) rfl
            clear hM
            go_wp2_with fail
            go_roundw
            case rel => exact ⟨1, .inr (.inl rfl), rfl, out_c (s := plP x) (j := 0) Hhb10.out Hhb11.out, hM1⟩
            case measure => simp [intOf]
          | true =>
            have Hhb11 := Lib.hid hb11
            clear hb11
            refine tF 16 [.skip 9 (some 48), .skip 10 (some 49), .skip 11 (some 50), .skip 12 (some 51), .skip 13 (some 52), .val 14 (some 53) (.bool true), .val 15 (some 7) (.bool true)] trivial ?_
            refine dF ?_
            try simp only [puts, Tk.put, Act.put, List.setIfInBounds_toArray, List.set_cons_zero, List.set_cons_succ]
            go_upto_region 7 with fail
            refine wp_region_fromM (fun W => Sep w [] [.blk N44 3 ([.int .i64 x.xa, .int .i64 x.xb, .int .i64 x.xc]), .blk N2 24 (spc x)] W) hM ?_
            clear hM
            rintro Y49 hM
            refine tF 3 [.val 0 (some 37) (.int .i64 0), .val 1 (some 38) (.int .i64 1), .val 2 (some 9) (.int .i64 1)] trivial ?_
            refine dF ?_
            try simp only [puts, Tk.put, Act.put, List.setIfInBounds_toArray, List.set_cons_zero, List.set_cons_succ]
            have hM1 : Sep w [] [.blk N44 3 ([.int .i64 x.xa, .int .i64 x.xb, .int .i64 x.xc]), .blk N2 24 (spc x)] Y49 := hM.pick [0, 1] (by decide) rfl
            clear hM
            go_wp2_with fail
            go_roundw
            case rel => exact ⟨1, .inr (.inl rfl), rfl, out_b (s := plP x) (j := 0) Hhb10.out Hhb11.out, hM1⟩
            case measure => simp [intOf]
        | true =>
          have Hhb10 := Lib.hid hb10
          clear hb10
          refine tF 16 [.skip 2 (some 41), .skip 3 (some 42), .skip 4 (some 43), .skip 5 (some 44), .skip 6 (some 45), .val 7 (some 46) (.bool true), .val 8 (some 47) (.bool true), .skip 9 (some 48), .skip 10 (some 49), .skip 11 (some 50), .skip 12 (some 51), .skip 13 (some 52), .val 14 (some 53) (.bool true), .val 15 (some 7) (.bool true)] trivial ?_
          refine dF ?_
          try simp only [puts, Tk.put, Act.put, List.setIfInBounds_toArray, List.set_cons_zero, List.set_cons_succ]
          go_upto_region 7 with fail
          refine wp_region_fromM (fun W => Sep w [] [.blk N44 3 ([.int .i64 x.xa, .int .i64 x.xb, .int .i64 x.xc]), .blk N2 24 (spc x)] W) hM ?_
          clear hM
          rintro Y50 hM
          refine tF 3 [.val 0 (some 37) (.int .i64 0), .val 1 (some 38) (.int .i64 1), .val 2 (some 9) (.int .i64 1)] trivial ?_
          refine dF ?_
          try simp only [puts, Tk.put, Act.put, List.setIfInBounds_toArray, List.set_cons_zero, List.set_cons_succ]
          have hM1 : Sep w [] [.blk N44 3 ([.int .i64 x.xa, .int .i64 x.xb, .int .i64 x.xc]), .blk N2 24 (spc x)] Y50 := hM.pick [0, 1] (by decide) rfl
          clear hM
          go_wp2_with fail
          go_roundw
          case rel => exact ⟨1, .inr (.inl rfl), rfl, out_a (s := plP x) (j := 0) Hhb10.out, hM1⟩
          case measure => simp [intOf]
      case inr.inl =>
        replace hi : _ = Value.int .i64 1 := hi
        subst hi
        go_upto_region 6 with fail
        refine wp_region_fromM (fun W => Sep w [] [.blk N44 3 ([.int .i64 x.xa, .int .i64 x.xb, .int .i64 x.xc]), .blk N2 24 (spc x)] W) hM ?_
        clear hM
        rintro Y51 hM
        refine tF 2 [.val 0 (some 35) (.int .i64 1), .val 1 (some 36) (.bool true)] trivial ?_
        refine dF ?_
        try simp only [puts, Tk.put, Act.put, List.setIfInBounds_toArray, List.set_cons_zero, List.set_cons_succ]
        go_upto_region 8 with fail
        refine wp_region_fromM (fun W => Sep w [] [.blk N44 3 ([.int .i64 x.xa, .int .i64 x.xb, .int .i64 x.xc]), .blk N2 24 (spc x)] W) hM ?_
        clear hM
        rintro Y52 hM
        refine tF 2 [.val 0 (some 39) (.bool (outP (plP x) 1)), .val 1 (some 40) (.bool (outP (plP x) 1))] trivial ?_
        cases hb12 : outP (plP x) 1 with
        | false =>
          have Hhb12 := Lib.hid hb12
          clear hb12
          refine tF 9 [.val 2 (some 41) (.slice (some ⟨N44, 0, none⟩) 3 3), .val 3 (some 42) (.int .i64 1), .idx 4 (some 43) 26 (.slice (some ⟨N44, 0, none⟩) 3 3) (.int .i64 1) (pt N44 1), .load 5 (some 44) 3 (pt N44 1) (.int .i64 x.xb), .val 6 (some 45) (.bool (decide (x.xb < (-32768)))), .val 7 (some 46) (.bool (decide (x.xb < (-32768)))), .val 8 (some 47) (.bool (decide (x.xb < (-32768))))] ⟨idx_sl (k := 1) Tryz.underlying26 (c := 1) (by kernel_rfl) (by decide), ld_any _ _ Tryz.underlying3 rfl (hM.at 0 rfl) 1 rfl, trivial⟩ ?_
          cases hb13 : decide (x.xb < (-32768)) with
          | false =>
            have Hhb13 := Lib.hid hb13
            clear hb13
            refine tF 16 [.val 9 (some 48) (.slice (some ⟨N44, 0, none⟩) 3 3), .val 10 (some 49) (.int .i64 1), .idx 11 (some 50) 26 (.slice (some ⟨N44, 0, none⟩) 3 3) (.int .i64 1) (pt N44 1), .load 12 (some 51) 3 (pt N44 1) (.int .i64 x.xb), .val 13 (some 52) (.bool (decide (32767 < x.xb))), .val 14 (some 53) (.bool (decide (32767 < x.xb))), .val 15 (some 7) (.bool (decide (32767 < x.xb)))] ⟨idx_sl (k := 1) Tryz.underlying26 (c := 1) (by kernel_rfl) (by decide), ld_any _ _ Tryz.underlying3 rfl (hM.at 0 rfl) 1 rfl, trivial⟩ ?_
            refine dF ?_
            try simp only [puts, Tk.put, Act.put, List.setIfInBounds_toArray, List.set_cons_zero, List.set_cons_succ]
            go_upto_region 7 with fail
            refine wp_region_fromM (fun W => Sep w [] [.blk N44 3 ([.int .i64 x.xa, .int .i64 x.xb, .int .i64 x.xc]), .blk N2 24 (spc x)] W) hM ?_
            clear hM
            rintro Y53 hM
            refine tF 3 [.val 0 (some 37) (.int .i64 1), .val 1 (some 38) (.int .i64 2), .val 2 (some 9) (.int .i64 2)] trivial ?_
            refine dF ?_
            try simp only [puts, Tk.put, Act.put, List.setIfInBounds_toArray, List.set_cons_zero, List.set_cons_succ]
            have hM1 : Sep w [] [.blk N44 3 ([.int .i64 x.xa, .int .i64 x.xb, .int .i64 x.xc]), .blk N2 24 (spc x)] Y53 := hM.pick [0, 1] (by decide) rfl
            clear hM
            go_wp2_with fail
            go_roundw
            case rel => exact ⟨2, .inr (.inr (.inl rfl)), rfl, out_c (s := plP x) (j := 1) Hhb12.out Hhb13.out, hM1⟩
            case measure => simp [intOf]
          | true =>
            have Hhb13 := Lib.hid hb13
            clear hb13
            refine tF 16 [.skip 9 (some 48), .skip 10 (some 49), .skip 11 (some 50), .skip 12 (some 51), .skip 13 (some 52), .val 14 (some 53) (.bool true), .val 15 (some 7) (.bool true)] trivial ?_
            refine dF ?_
            try simp only [puts, Tk.put, Act.put, List.setIfInBounds_toArray, List.set_cons_zero, List.set_cons_succ]
            go_upto_region 7 with fail
            refine wp_region_fromM (fun W => Sep w [] [.blk N44 3 ([.int .i64 x.xa, .int .i64 x.xb, .int .i64 x.xc]), .blk N2 24 (spc x)] W) hM ?_
            clear hM
            rintro Y54 hM
            refine tF 3 [.val 0 (some 37) (.int .i64 1), .val 1 (some 38) (.int .i64 2), .val 2 (some 9) (.int .i64 2)] trivial ?_
            refine dF ?_
            try simp only [puts, Tk.put, Act.put, List.setIfInBounds_toArray, List.set_cons_zero, List.set_cons_succ]
            have hM1 : Sep w [] [.blk N44 3 ([.int .i64 x.xa, .int .i64 x.xb, .int .i64 x.xc]), .blk N2 24 (spc x)] Y54 := hM.pick [0, 1] (by decide) rfl
            clear hM
            go_wp2_with fail
            go_roundw
            case rel => exact ⟨2, .inr (.inr (.inl rfl)), rfl, out_b (s := plP x) (j := 1) Hhb12.out Hhb13.out, hM1⟩
            case measure => simp [intOf]
        | true =>
          have Hhb12 := Lib.hid hb12
          clear hb12
          refine tF 16 [.skip 2 (some 41), .skip 3 (some 42), .skip 4 (some 43), .skip 5 (some 44), .skip 6 (some 45), .val 7 (some 46) (.bool true), .val 8 (some 47) (.bool true), .skip 9 (some 48), .skip 10 (some 49), .skip 11 (some 50), .skip 12 (some 51), .skip 13 (some 52), .val 14 (some 53) (.bool true), .val 15 (some 7) (.bool true)] trivial ?_
          refine dF ?_
          try simp only [puts, Tk.put, Act.put, List.setIfInBounds_toArray, List.set_cons_zero, List.set_cons_succ]
          go_upto_region 7 with fail
          refine wp_region_fromM (fun W => Sep w [] [.blk N44 3 ([.int .i64 x.xa, .int .i64 x.xb, .int .i64 x.xc]), .blk N2 24 (spc x)] W) hM ?_
          clear hM
          rintro Y55 hM
          refine tF 3 [.val 0 (some 37) (.int .i64 1), .val 1 (some 38) (.int .i64 2), .val 2 (some 9) (.int .i64 2)] trivial ?_
          refine dF ?_
          try simp only [puts, Tk.put, Act.put, List.setIfInBounds_toArray, List.set_cons_zero, List.set_cons_succ]
          have hM1 : Sep w [] [.blk N44 3 ([.int .i64 x.xa, .int .i64 x.xb, .int .i64 x.xc]), .blk N2 24 (spc x)] Y55 := hM.pick [0, 1] (by decide) rfl
          clear hM
          go_wp2_with fail
          go_roundw
          case rel => exact ⟨2, .inr (.inr (.inl rfl)), rfl, out_a (s := plP x) (j := 1) Hhb12.out, hM1⟩
          case measure => simp [intOf]
      case inr.inr.inl =>
        replace hi : _ = Value.int .i64 2 := hi
        subst hi
        go_upto_region 6 with fail
        refine wp_region_fromM (fun W => Sep w [] [.blk N44 3 ([.int .i64 x.xa, .int .i64 x.xb, .int .i64 x.xc]), .blk N2 24 (spc x)] W) hM ?_
        clear hM
        rintro Y56 hM
        refine tF 2 [.val 0 (some 35) (.int .i64 2), .val 1 (some 36) (.bool true)] trivial ?_
        refine dF ?_
        try simp only [puts, Tk.put, Act.put, List.setIfInBounds_toArray, List.set_cons_zero, List.set_cons_succ]
        go_upto_region 8 with fail
        refine wp_region_fromM (fun W => Sep w [] [.blk N44 3 ([.int .i64 x.xa, .int .i64 x.xb, .int .i64 x.xc]), .blk N2 24 (spc x)] W) hM ?_
        clear hM
        rintro Y57 hM
        refine tF 2 [.val 0 (some 39) (.bool (outP (plP x) 2)), .val 1 (some 40) (.bool (outP (plP x) 2))] trivial ?_
        cases hb14 : outP (plP x) 2 with
        | false =>
          have Hhb14 := Lib.hid hb14
          clear hb14
          refine tF 9 [.val 2 (some 41) (.slice (some ⟨N44, 0, none⟩) 3 3), .val 3 (some 42) (.int .i64 2), .idx 4 (some 43) 26 (.slice (some ⟨N44, 0, none⟩) 3 3) (.int .i64 2) (pt N44 2), .load 5 (some 44) 3 (pt N44 2) (.int .i64 x.xc), .val 6 (some 45) (.bool (decide (x.xc < (-32768)))), .val 7 (some 46) (.bool (decide (x.xc < (-32768)))), .val 8 (some 47) (.bool (decide (x.xc < (-32768))))] ⟨idx_sl (k := 2) Tryz.underlying26 (c := 1) (by kernel_rfl) (by decide), ld_any _ _ Tryz.underlying3 rfl (hM.at 0 rfl) 2 rfl, trivial⟩ ?_
          cases hb15 : decide (x.xc < (-32768)) with
          | false =>
            have Hhb15 := Lib.hid hb15
            clear hb15
            refine tF 16 [.val 9 (some 48) (.slice (some ⟨N44, 0, none⟩) 3 3), .val 10 (some 49) (.int .i64 2), .idx 11 (some 50) 26 (.slice (some ⟨N44, 0, none⟩) 3 3) (.int .i64 2) (pt N44 2), .load 12 (some 51) 3 (pt N44 2) (.int .i64 x.xc), .val 13 (some 52) (.bool (decide (32767 < x.xc))), .val 14 (some 53) (.bool (decide (32767 < x.xc))), .val 15 (some 7) (.bool (decide (32767 < x.xc)))] ⟨idx_sl (k := 2) Tryz.underlying26 (c := 1) (by kernel_rfl) (by decide), ld_any _ _ Tryz.underlying3 rfl (hM.at 0 rfl) 2 rfl, trivial⟩ ?_
            refine dF ?_
            try simp only [puts, Tk.put, Act.put, List.setIfInBounds_toArray, List.set_cons_zero, List.set_cons_succ]
            go_upto_region 7 with fail
            refine wp_region_fromM (fun W => Sep w [] [.blk N44 3 ([.int .i64 x.xa, .int .i64 x.xb, .int .i64 x.xc]), .blk N2 24 (spc x)] W) hM ?_
            clear hM
            rintro Y58 hM
            refine tF 3 [.val 0 (some 37) (.int .i64 2), .val 1 (some 38) (.int .i64 3), .val 2 (some 9) (.int .i64 3)] trivial ?_
            refine dF ?_
            try simp only [puts, Tk.put, Act.put, List.setIfInBounds_toArray, List.set_cons_zero, List.set_cons_succ]
            have hM1 : Sep w [] [.blk N44 3 ([.int .i64 x.xa, .int .i64 x.xb, .int .i64 x.xc]), .blk N2 24 (spc x)] Y58 := hM.pick [0, 1] (by decide) rfl
            clear hM
            go_wp2_with fail
            go_roundw
            case rel => exact ⟨3, .inr (.inr (.inr (rfl))), rfl, out_c (s := plP x) (j := 2) Hhb14.out Hhb15.out, hM1⟩
            case measure => simp [intOf]
          | true =>
            have Hhb15 := Lib.hid hb15
            clear hb15
            refine tF 16 [.skip 9 (some 48), .skip 10 (some 49), .skip 11 (some 50), .skip 12 (some 51), .skip 13 (some 52), .val 14 (some 53) (.bool true), .val 15 (some 7) (.bool true)] trivial ?_
            refine dF ?_
            try simp only [puts, Tk.put, Act.put, List.setIfInBounds_toArray, List.set_cons_zero, List.set_cons_succ]
            go_upto_region 7 with fail
            refine wp_region_fromM (fun W => Sep w [] [.blk N44 3 ([.int .i64 x.xa, .int .i64 x.xb, .int .i64 x.xc]), .blk N2 24 (spc x)] W) hM ?_
            clear hM
            rintro Y59 hM
            refine tF 3 [.val 0 (some 37) (.int .i64 2), .val 1 (some 38) (.int .i64 3), .val 2 (some 9) (.int .i64 3)] trivial ?_
            refine dF ?_
            try simp only [puts, Tk.put, Act.put, List.setIfInBounds_toArray, List.set_cons_zero, List.set_cons_succ]
            have hM1 : Sep w [] [.blk N44 3 ([.int .i64 x.xa, .int .i64 x.xb, .int .i64 x.xc]), .blk N2 24 (spc x)] Y59 := hM.pick [0, 1] (by decide) rfl
            clear hM
            go_wp2_with fail
            go_roundw
            case rel => exact ⟨3, .inr (.inr (.inr (rfl))), rfl, out_b (s := plP x) (j := 2) Hhb14.out Hhb15.out, hM1⟩
            case measure => simp [intOf]
        | true =>
          have Hhb14 := Lib.hid hb14
          clear hb14
          refine tF 16 [.skip 2 (some 41), .skip 3 (some 42), .skip 4 (some 43), .skip 5 (some 44), .skip 6 (some 45), .val 7 (some 46) (.bool true), .val 8 (some 47) (.bool true), .skip 9 (some 48), .skip 10 (some 49), .skip 11 (some 50), .skip 12 (some 51), .skip 13 (some 52), .val 14 (some 53) (.bool true), .val 15 (some 7) (.bool true)] trivial ?_
          refine dF ?_
          try simp only [puts, Tk.put, Act.put, List.setIfInBounds_toArray, List.set_cons_zero, List.set_cons_succ]
          go_upto_region 7 with fail
          refine wp_region_fromM (fun W => Sep w [] [.blk N44 3 ([.int .i64 x.xa, .int .i64 x.xb, .int .i64 x.xc]), .blk N2 24 (spc x)] W) hM ?_
          clear hM
          rintro Y60 hM
          refine tF 3 [.val 0 (some 37) (.int .i64 2), .val 1 (some 38) (.int .i64 3), .val 2 (some 9) (.int .i64 3)] trivial ?_
          refine dF ?_
          try simp only [puts, Tk.put, Act.put, List.setIfInBounds_toArray, List.set_cons_zero, List.set_cons_succ]
          have hM1 : Sep w [] [.blk N44 3 ([.int .i64 x.xa, .int .i64 x.xb, .int .i64 x.xc]), .blk N2 24 (spc x)] Y60 := hM.pick [0, 1] (by decide) rfl
          clear hM
          go_wp2_with fail
          go_roundw
          case rel => exact ⟨3, .inr (.inr (.inr (rfl))), rfl, out_a (s := plP x) (j := 2) Hhb14.out, hM1⟩
          case measure => simp [intOf]
      case inr.inr.inr =>
        replace hi : _ = Value.int .i64 3 := hi
        subst hi
        go_upto_region 6 with fail
        refine wp_region_fromM (fun W => Sep w [] [.blk N44 3 ([.int .i64 x.xa, .int .i64 x.xb, .int .i64 x.xc]), .blk N2 24 (spc x)] W) hM ?_
        clear hM
        rintro Y61 hM
        refine tF 2 [.val 0 (some 35) (.int .i64 3), .val 1 (some 36) (.bool false)] trivial ?_
        refine dF ?_
        try simp only [puts, Tk.put, Act.put, List.setIfInBounds_toArray, List.set_cons_zero, List.set_cons_succ]
        go_upto_region 9 with fail
        refine wp_region_fromM (fun W => Sep w [] [.blk N44 3 ([.int .i64 x.xa, .int .i64 x.xb, .int .i64 x.xc]), .blk N2 24 (spc x)] W) hM ?_
        clear hM
        rintro Y62 hM
        refine tF 1 [.load 0 (some 55) 24 (pt N2 0) (spv x)] ⟨load_part (hM.at 1 rfl) 0 (spc x) rfl _ _ Tryz.underlying24 rfl (by kernel_rfl), trivial⟩ ?_
        refine rF (some 56) (.slice (some ⟨Y62.heap.size, 0, none⟩) 1 1) (Y62.alloc (.cells (spc x).toArray 24)) ?_
        replace hM := hM.alloc 24 (spc x)
        generalize World.alloc _ _ = Y63 at *
        generalize hNe : Y62.heap.size = N63 at *
        clear hNe
        refine cF (some 57) 5 #[.slice (some ⟨N63, 0, none⟩) 1 1] ((putP_any ([x]) _ _ (rsl_blk (f := spc) (x := x) (hM.at 0 rfl)) (Nat.le_refl _) (Holds.one (z := Sp.z (x)) (((HS.out.below hM.b (Nat.le_refl _)).mono (Nat.le_refl _) hM.size)))).mono ?_)
        rintro e Y64 ⟨v64p, rfl, hR⟩
        replace hM := hM.gain hR
        clear hR
        obtain ⟨pv64p, cv64p, rfl⟩ := (hM.oka 0 rfl).slice ocM_len
        refine tF 8 [.val 3 (some 54) (.tuple #[.slice pv64p (putP (([x]).map plP)).length cv64p, .int .i64 (errP (([x]).map plP))]), .val 4 (some 58) (.slice pv64p (putP (([x]).map plP)).length cv64p), .val 5 (some 59) (.int .i64 (errP (([x]).map plP))), .val 6 (some 10) (.slice pv64p (putP (([x]).map plP)).length cv64p), .val 7 (some 11) (.int .i64 (errP (([x]).map plP)))] trivial ?_
        refine dF ?_
        try simp only [puts, Tk.put, Act.put, List.setIfInBounds_toArray, List.set_cons_zero, List.set_cons_succ]
        go_upto_region 10 with fail
        refine wp_region_fromM (fun W => Sep w [] [.own ocM 5 1 (.slice pv64p (putP (([x]).map plP)).length cv64p) (putP (([x]).map plP)), .blk N63 24 (spc x), .blk N44 3 ([.int .i64 x.xa, .int .i64 x.xb, .int .i64 x.xc]), .blk N2 24 (spc x)] W) hM ?_
        clear hM
        rintro Y65 hM
        refine tF 2 [.val 0 (some 61) (.bool (outP (plP x) 3)), .val 1 (some 60) (.bool (outP (plP x) 3))] trivial ?_
        refine dF ?_
        try simp only [puts, Tk.put, Act.put, List.setIfInBounds_toArray, List.set_cons_zero, List.set_cons_succ]
        cases hb16 : outP (plP x) 3 with
        | false =>
          have Hhb16 := Lib.hid hb16
          clear hb16
          go_upto_region 12 with fail
          refine wp_region_fromM (fun W => Sep w [] [.own ocM 5 1 (.slice pv64p (putP (([x]).map plP)).length cv64p) (putP (([x]).map plP)), .blk N63 24 (spc x), .blk N44 3 ([.int .i64 x.xa, .int .i64 x.xb, .int .i64 x.xc]), .blk N2 24 (spc x)] W) hM ?_
          clear hM
          rintro Y66 hM
          refine tF 5 [.val 0 (some 70) (pt N2 4), .load 1 (some 71) 22 (pt N2 4) (.slice x.ad x.l.length x.cp), .val 2 (some 72) (.int .i64 (x.l.length : Int)), .val 3 (some 73) (.bool (decide (1024 < (x.l.length : Int)))), .val 4 (some 69) (.bool (decide (1024 < (x.l.length : Int))))] ⟨ld_any _ _ Tryz.underlying22 rfl (hM.at 3 rfl) 4 rfl, trivial⟩ ?_
          refine dF ?_
          try simp only [puts, Tk.put, Act.put, List.setIfInBounds_toArray, List.set_cons_zero, List.set_cons_succ]
          cases hb17 : decide (1024 < (x.l.length : Int)) with
          | false =>
            have Hhb17 := Lib.hid hb17
            clear hb17
            have HO : Hid (errP (([x]).map plP) = 0 ∧ putP (([x]).map plP) = octP (plP x) ∧ OkP (plP x)) := Lib.hid (one_ok Hhb16.out (by have h := of_decide_eq_false Hhb17.out; simp only [plP]; omega))
            have HLN : Hid ((putP (([x]).map plP)).length = 9 + x.l.length) := Lib.hid (by rw [HO.out.2.1, octP_len]; rfl)
            have HLE : Hid (x.l.length ≤ 1024) := Lib.hid (by have h := of_decide_eq_false Hhb17.out; omega)
            go_upto_region 14 with fail
            refine wp_region_fromM (fun W => Sep w [] [.own ocM 5 1 (.slice pv64p (putP (([x]).map plP)).length cv64p) (putP (([x]).map plP)), .blk N63 24 (spc x), .blk N44 3 ([.int .i64 x.xa, .int .i64 x.xb, .int .i64 x.xc]), .blk N2 24 (spc x)] W) hM ?_
            clear hM
            rintro Y67 hM
            refine tF 1 [.val 0 (some 81) (.int .i64 z1)] trivial ?_
            refine remF (.tmp 81) (.const (.int .i64 3)) 3 3 (some 82) z1 3 (Int.tmod z1 ((3 : Nat) : Int)) (by decide) rfl ?_
            refine tF 3 [.alt 2 (some 83) (.int .i64 (IntKind.i64.wrap ((Int.tmod z1 ((3 : Nat) : Int)) + 3))) (.int .i64 (Int.tmod z1 ((3 : Nat) : Int) + ((3 : Nat) : Int)))] ⟨congrArg (Value.int .i64) ((plc_sum z1 (n := 3) (by decide) (by decide))), trivial⟩ ?_
            refine remF (.tmp 83) (.const (.int .i64 3)) 3 3 (some 84) (Int.tmod z1 ((3 : Nat) : Int) + ((3 : Nat) : Int)) 3 ((plcN z1 3 : Nat) : Int) (by decide) (plc_eq z1 (n := 3) (by decide)) ?_
            refine tF 6 [.alt 4 (some 85) (.int .i64 (IntKind.i64.wrap (511 + ((plcN z1 3 : Nat) : Int)))) (.int .i64 ((511 + plcN z1 3 : Nat) : Int)), .val 5 (some 1) (.int .i64 ((511 + plcN z1 3 : Nat) : Int))] ⟨congrArg (Value.int .i64) (many_eq z1), trivial⟩ ?_
            refine dF ?_
            try simp only [puts, Tk.put, Act.put, List.setIfInBounds_toArray, List.set_cons_zero, List.set_cons_succ]
            obtain ⟨n, hn⟩ : ∃ n : Nat, n = 511 + plcN z1 3 := ⟨_, rfl⟩
            have HNN : Hid (n ≤ 513) := Lib.hid (by have := plc_lt z1 (n := 3) (by decide); omega)
            rw [← hn]
            clear hn
            go_upto_region 15 with fail
            refine wp_region_fromM (fun W => Sep w [] [.own ocM 5 1 (.slice pv64p (putP (([x]).map plP)).length cv64p) (putP (([x]).map plP)), .blk N63 24 (spc x), .blk N44 3 ([.int .i64 x.xa, .int .i64 x.xb, .int .i64 x.xc]), .blk N2 24 (spc x)] W) hM ?_
            clear hM
            rintro Y68 hM
            refine tF 1 [.val 0 (some 87) (.int .i64 (n : Int))] trivial ?_
            obtain ⟨mv69, Y69, hrun, hO, hb⟩ := makeSp Y68 n (by have h := HNN.out; omega)
            replace hM := hM.row (f := spc) hO hb
            refine rF (some 88) (mv69) Y69 ?_ (runAt_makeM (by kernel_rfl) hrun)
            clear hrun hO hb
            refine cF (some 89) 5 #[mv69] ((putP_any (List.replicate n noSp) _ _ ((hM.oka 0 rfl).rsl spc_len) (Nat.le_refl _) (hold_rep _ n _)).mono ?_)
            rintro e Y70 ⟨v70p, rfl, hR⟩
            replace hM := hM.gain hR
            clear hR
            obtain ⟨pv70p, cv70p, rfl⟩ := (hM.oka 0 rfl).slice ocM_len
            refine tF 8 [.val 3 (some 86) (.tuple #[.slice pv70p (putP ((List.replicate n noSp).map plP)).length cv70p, .int .i64 (errP ((List.replicate n noSp).map plP))]), .val 4 (some 90) (.slice pv70p (putP ((List.replicate n noSp).map plP)).length cv70p), .val 5 (some 91) (.int .i64 (errP ((List.replicate n noSp).map plP))), .val 6 (some 12) (.slice pv70p (putP ((List.replicate n noSp).map plP)).length cv70p), .val 7 (some 13) (.int .i64 (errP ((List.replicate n noSp).map plP)))] trivial ?_
            refine dF ?_
            try simp only [puts, Tk.put, Act.put, List.setIfInBounds_toArray, List.set_cons_zero, List.set_cons_succ]
            go_upto_region 16 with fail
            refine wp_region_fromM (fun W => Sep w [] [.own ocM 5 1 (.slice pv70p (putP ((List.replicate n noSp).map plP)).length cv70p) (putP ((List.replicate n noSp).map plP)), .own spc 24 5 (mv69) (List.replicate n noSp), .own ocM 5 1 (.slice pv64p (putP (([x]).map plP)).length cv64p) (putP (([x]).map plP)), .blk N63 24 (spc x), .blk N44 3 ([.int .i64 x.xa, .int .i64 x.xb, .int .i64 x.xc]), .blk N2 24 (spc x)] W) hM ?_
            clear hM
            rintro Y71 hM
            refine tF 2 [.val 0 (some 93) (suv (Su.mk 1 0 31 0)), .val 1 (some 94) (.int .i64 (n : Int))] trivial ?_
            obtain ⟨mv72, Y72, hrun, hO, hb⟩ := makeSp Y71 n (by have h := HNN.out; omega)
            replace hM := hM.row (f := spc) hO hb
            refine rF (some 95) (mv72) Y72 ?_ (runAt_makeM (by kernel_rfl) hrun)
            clear hrun hO hb
            refine cF (some 96) 6 #[suv (Su.mk 1 0 31 0), mv72] ((runW_any (List.replicate n noSp) _ _ ((hM.oka 0 rfl).rsl spc_len) (Nat.le_refl _) all_rep).mono ?_)
            rintro e Y73 ⟨pr73, rfl, hb⟩
            replace hM := hM.below hb
            clear hb
            refine tF 9 [.val 4 (some 92) (.tuple #[.pointer pr73, .int .i64 (erW (List.replicate n noSp).length)]), .val 5 (some 97) (.pointer pr73), .val 6 (some 98) (.int .i64 (erW (List.replicate n noSp).length)), .val 7 (some 14) (.pointer pr73), .val 8 (some 15) (.int .i64 (erW (List.replicate n noSp).length))] trivial ?_
            refine dF ?_
            try simp only [puts, Tk.put, Act.put, List.setIfInBounds_toArray, List.set_cons_zero, List.set_cons_succ]
            go_upto_region 17 with fail
            have HPS := Lib.hid (plc_sum z2 (n := (putP (([x]).map plP)).length) (by have h := HLN.out; omega) (by have h := HLN.out; have h2 := HLE.out; omega))
            have HPE := Lib.hid (plc_eq z2 (n := (putP (([x]).map plP)).length) (by have h := HLN.out; omega))
            have HNZ : Hid ((((putP (([x]).map plP)).length : Nat) : Int) ≠ 0) := Lib.hid (by have h := HLN.out; omega)
            refine wp_region_fromM (fun W => Sep w [] [.own spc 24 5 (mv72) (List.replicate n noSp), .own ocM 5 1 (.slice pv70p (putP ((List.replicate n noSp).map plP)).length cv70p) (putP ((List.replicate n noSp).map plP)), .own spc 24 5 (mv69) (List.replicate n noSp), .own ocM 5 1 (.slice pv64p (putP (([x]).map plP)).length cv64p) (putP (([x]).map plP)), .blk N63 24 (spc x), .blk N44 3 ([.int .i64 x.xa, .int .i64 x.xb, .int .i64 x.xc]), .blk N2 24 (spc x)] W) hM ?_
            clear hM
            rintro Y74 hM
            refine tF 3 [.val 0 (some 99) (.int .i64 z2), .val 1 (some 100) (.slice pv64p (putP (([x]).map plP)).length cv64p), .val 2 (some 101) (.int .i64 ((putP (([x]).map plP)).length : Int))] trivial ?_
            refine remF (.tmp 99) (.tmp 101) 3 3 (some 102) z2 ((putP (([x]).map plP)).length : Int) (Int.tmod z2 ((putP (([x]).map plP)).length : Int)) HNZ.out rfl ?_
            refine tF 9 [.val 4 (some 103) (.slice pv64p (putP (([x]).map plP)).length cv64p), .val 5 (some 104) (.int .i64 ((putP (([x]).map plP)).length : Int)), .alt 6 (some 105) (.int .i64 (IntKind.i64.wrap ((Int.tmod z2 ((putP (([x]).map plP)).length : Int)) + ((putP (([x]).map plP)).length : Int)))) (.int .i64 (Int.tmod z2 ((putP (([x]).map plP)).length : Int) + ((putP (([x]).map plP)).length : Int))), .val 7 (some 106) (.slice pv64p (putP (([x]).map plP)).length cv64p), .val 8 (some 107) (.int .i64 ((putP (([x]).map plP)).length : Int))] ⟨congrArg (Value.int .i64) (HPS.out), trivial⟩ ?_
            refine remF (.tmp 105) (.tmp 107) 3 3 (some 108) (Int.tmod z2 ((putP (([x]).map plP)).length : Int) + ((putP (([x]).map plP)).length : Int)) ((putP (([x]).map plP)).length : Int) ((plcN z2 (putP (([x]).map plP)).length : Nat) : Int) HNZ.out HPE.out ?_
            refine tF 11 [.val 10 (some 2) (.int .i64 ((plcN z2 (putP (([x]).map plP)).length : Nat) : Int))] trivial ?_
            refine dF ?_
            try simp only [puts, Tk.put, Act.put, List.setIfInBounds_toArray, List.set_cons_zero, List.set_cons_succ]
            obtain ⟨k, hk⟩ : ∃ k : Nat, k = plcN z2 (putP (([x]).map plP)).length := ⟨_, rfl⟩
            have HK : Hid (k < 9 + x.l.length) := Lib.hid (by have h := plc_lt z2 (n := (putP (([x]).map plP)).length) (by have h := HLN.out; omega); rw [← hk, HLN.out] at h; exact h)
            rw [← hk]
            clear hk
            go_upto_region 18 with fail
            obtain ⟨ak, ck, hrun, hcb, _⟩ := cutH (hM.oka 3 rfl).own_bsl (j := k) rfl (by have h := HLN.out; have h2 := HK.out; omega)
            have HR := Lib.hid hrun
            have HCB := Lib.hid hcb
            clear hrun hcb
            refine wp_region_fromM (fun W => Sep w [] [.own spc 24 5 (mv72) (List.replicate n noSp), .own ocM 5 1 (.slice pv70p (putP ((List.replicate n noSp).map plP)).length cv70p) (putP ((List.replicate n noSp).map plP)), .own spc 24 5 (mv69) (List.replicate n noSp), .own ocM 5 1 (.slice pv64p (putP (([x]).map plP)).length cv64p) (putP (([x]).map plP)), .blk N63 24 (spc x), .blk N44 3 ([.int .i64 x.xa, .int .i64 x.xb, .int .i64 x.xc]), .blk N2 24 (spc x)] W) hM ?_
            clear hM
            rintro Y75 hM
            refine tF 3 [.val 0 (some 110) (.slice pv64p (putP (([x]).map plP)).length cv64p), .val 1 (some 111) (.int .i64 (k : Int)), .slc 2 (some 112) 22 (.slice pv64p (putP (([x]).map plP)).length cv64p) none (some (.int .i64 (k : Int))) none (.slice ak ((putP (([x]).map plP)).take k).length ck)] ⟨HR.out _, trivial⟩ ?_
            refine cF (some 113) 7 #[.slice ak ((putP (([x]).map plP)).take k).length ck] ((readP_any ((putP (([x]).map plP)).take k) _ ((by have h := HLN.out; have h2 := HLE.out; rw [List.length_take]; omega)) (HCB.out _ _ _ (hM.oka 3 rfl).own_bsl)).mono ?_)
            rintro e Y76 ⟨v76r, xs76, er76, rfl, hd, hR⟩
            have HD76 := Lib.hid hd
            replace hM := hM.gain2 hR
            clear hR hd
            obtain ⟨pv76r, cv76r, rfl⟩ := (hM.oka 0 rfl).slice spc_len
            have HCR := Lib.hid (cut_read HO.out.2.2 (k := k) (by have h := HK.out; rw [octP_len]; exact h) (by have h := HD76.out; rw [HO.out.2.1] at h; exact h))
            refine tF 9 [.val 4 (some 109) (.tuple #[.slice pv76r xs76.length cv76r, .int .i64 er76]), .val 5 (some 114) (.slice pv76r xs76.length cv76r), .val 6 (some 115) (.int .i64 er76), .val 7 (some 16) (.slice pv76r xs76.length cv76r), .val 8 (some 17) (.int .i64 er76)] trivial ?_
            refine dF ?_
            try simp only [puts, Tk.put, Act.put, List.setIfInBounds_toArray, List.set_cons_zero, List.set_cons_succ]
            go_upto_region 19 with fail
            have HF : Hid ((errP ((List.replicate n noSp).map plP) == 3) = decide ((512 : Int) < (n : Int)) ∧ (((erW (List.replicate n noSp).length : Int)) == 3) = decide ((512 : Int) < (n : Int))) := Lib.hid (by
              by_cases h : 512 < n
              · rw [rep_many h, List.length_replicate, show erW n = 3 from if_pos h, decide_eq_true (show (512 : Int) < (n : Int) by omega)]; exact ⟨rfl, rfl⟩
              · rw [rep_few (by omega), List.length_replicate, show erW n = 0 from if_neg h, decide_eq_false (show ¬ (512 : Int) < (n : Int) by omega)]; exact ⟨rfl, rfl⟩)
            refine wp_region_fromM (fun W => Sep w [] [.own spc 24 5 (.slice pv76r xs76.length cv76r) (xs76), .octs (zsP xs76), .own spc 24 5 (mv72) (List.replicate n noSp), .own ocM 5 1 (.slice pv70p (putP ((List.replicate n noSp).map plP)).length cv70p) (putP ((List.replicate n noSp).map plP)), .own spc 24 5 (mv69) (List.replicate n noSp), .own ocM 5 1 (.slice pv64p (putP (([x]).map plP)).length cv64p) (putP (([x]).map plP)), .blk N63 24 (spc x), .blk N44 3 ([.int .i64 x.xa, .int .i64 x.xb, .int .i64 x.xc]), .blk N2 24 (spc x)] W) hM ?_
            clear hM
            rintro Y77 hM
            refine tF 30 [.val 0 (some 116) (.int .i64 (errP (([x]).map plP))), .alt 1 (some 117) (.bool ((errP (([x]).map plP)) == 0)) (.bool true), .val 2 (some 118) (.bool true), .val 3 (some 119) (.slice pv64p (putP (([x]).map plP)).length cv64p), .val 4 (some 120) (.int .i64 ((putP (([x]).map plP)).length : Int)), .val 5 (some 121) (pt N2 4), .load 6 (some 122) 22 (pt N2 4) (.slice x.ad x.l.length x.cp), .val 7 (some 123) (.int .i64 (x.l.length : Int)), .alt 8 (some 124) (.int .i64 (IntKind.i64.wrap (9 + (x.l.length : Int)))) (.int .i64 ((9 + x.l.length : Nat) : Int)), .alt 9 (some 125) (.bool (((putP (([x]).map plP)).length : Int) == ((9 + x.l.length : Nat) : Int))) (.bool true), .val 10 (some 126) (.bool true), .val 11 (some 127) (.bool true), .val 12 (some 128) (.int .i64 (errP ((List.replicate n noSp).map plP))), .val 13 (some 129) (.bool ((errP ((List.replicate n noSp).map plP)) == 3)), .val 14 (some 130) (.int .i64 (n : Int)), .val 15 (some 131) (.bool (decide (512 < (n : Int)))), .alt 16 (some 132) (.bool (((errP ((List.replicate n noSp).map plP)) == 3) == (decide (512 < (n : Int))))) (.bool true), .val 17 (some 133) (.bool true), .val 18 (some 134) (.bool true), .val 19 (some 135) (.int .i64 (erW (List.replicate n noSp).length)), .val 20 (some 136) (.bool ((erW (List.replicate n noSp).length) == 3)), .val 21 (some 137) (.int .i64 (n : Int)), .val 22 (some 138) (.bool (decide (512 < (n : Int)))), .alt 23 (some 139) (.bool (((erW (List.replicate n noSp).length) == 3) == (decide (512 < (n : Int))))) (.bool true), .val 24 (some 140) (.bool true), .val 25 (some 141) (.bool true), .val 26 (some 142) (.int .i64 er76), .val 27 (some 143) (.bool (er76 == 0)), .val 28 (some 144) (.int .i64 (k : Int)), .val 29 (some 145) (.bool ((k : Int) == 0))] ⟨congrArg Value.bool ((by rw [HO.out.1]; rfl)), ld_any _ _ Tryz.underlying22 rfl (hM.at 8 rfl) 4 rfl, congrArg (Value.int .i64) ((IntWalk.i64_in _ (by have h := HLE.out; omega)).trans (by omega)), congrArg Value.bool ((by rw [HLN.out]; exact beq_self_eq_true _)), congrArg Value.bool ((by rw [HF.out.1]; exact beq_self_eq_true _)), congrArg Value.bool ((by rw [HF.out.2]; exact beq_self_eq_true _)), trivial⟩ ?_
            refine tF 33 [.alt 30 (some 146) (.bool ((er76 == 0) == ((k : Int) == 0))) (.bool true), .val 31 (some 147) (.bool true), .val 32 (some 6) (.bool true)] ⟨congrArg Value.bool ((by rw [HCR.out]; exact beq_self_eq_true _)), trivial⟩ ?_
            refine dF ?_
            try simp only [puts, Tk.put, Act.put, List.setIfInBounds_toArray, List.set_cons_zero, List.set_cons_succ]
            go_wp2_with fail
            go_ret
            exact ⟨rfl, hM.b⟩
          | true =>
            have Hhb17 := Lib.hid hb17
            clear hb17
            have HO : Hid (errP (([x]).map plP) = 5 ∧ putP (([x]).map plP) = []) := Lib.hid (one_long Hhb16.out (by have h := of_decide_eq_true Hhb17.out; simp only [plP]; omega))
            go_upto_region 13 with fail
            refine wp_region_fromM (fun W => Sep w [] [.own ocM 5 1 (.slice pv64p (putP (([x]).map plP)).length cv64p) (putP (([x]).map plP)), .blk N63 24 (spc x), .blk N44 3 ([.int .i64 x.xa, .int .i64 x.xb, .int .i64 x.xc]), .blk N2 24 (spc x)] W) hM ?_
            clear hM
            rintro Y78 hM
            refine tF 8 [.val 0 (some 74) (.int .i64 (errP (([x]).map plP))), .alt 1 (some 75) (.bool ((errP (([x]).map plP)) == 5)) (.bool true), .val 2 (some 76) (.bool true), .val 3 (some 77) (.slice pv64p (putP (([x]).map plP)).length cv64p), .val 4 (some 78) (.int .i64 ((putP (([x]).map plP)).length : Int)), .alt 5 (some 79) (.bool (((putP (([x]).map plP)).length : Int) == 0)) (.bool true), .val 6 (some 80) (.bool true), .val 7 (some 6) (.bool true)] ⟨congrArg Value.bool ((by rw [HO.out.1]; rfl)), congrArg Value.bool ((by rw [HO.out.2]; rfl)), trivial⟩ ?_
            refine dF ?_
            try simp only [puts, Tk.put, Act.put, List.setIfInBounds_toArray, List.set_cons_zero, List.set_cons_succ]
            go_wp2_with fail
            go_ret
            exact ⟨rfl, hM.b⟩
        | true =>
          have Hhb16 := Lib.hid hb16
          clear hb16
          have HO : Hid (errP (([x]).map plP) = 4 ∧ putP (([x]).map plP) = []) := Lib.hid (one_out Hhb16.out)
          go_upto_region 11 with fail
          refine wp_region_fromM (fun W => Sep w [] [.own ocM 5 1 (.slice pv64p (putP (([x]).map plP)).length cv64p) (putP (([x]).map plP)), .blk N63 24 (spc x), .blk N44 3 ([.int .i64 x.xa, .int .i64 x.xb, .int .i64 x.xc]), .blk N2 24 (spc x)] W) hM ?_
          clear hM
          rintro Y79 hM
          refine tF 8 [.val 0 (some 62) (.int .i64 (errP (([x]).map plP))), .alt 1 (some 63) (.bool ((errP (([x]).map plP)) == 4)) (.bool true), .val 2 (some 64) (.bool true), .val 3 (some 65) (.slice pv64p (putP (([x]).map plP)).length cv64p), .val 4 (some 66) (.int .i64 ((putP (([x]).map plP)).length : Int)), .alt 5 (some 67) (.bool (((putP (([x]).map plP)).length : Int) == 0)) (.bool true), .val 6 (some 68) (.bool true), .val 7 (some 6) (.bool true)] ⟨congrArg Value.bool ((by rw [HO.out.1]; rfl)), congrArg Value.bool ((by rw [HO.out.2]; rfl)), trivial⟩ ?_
          refine dF ?_
          try simp only [puts, Tk.put, Act.put, List.setIfInBounds_toArray, List.set_cons_zero, List.set_cons_succ]
          go_wp2_with fail
          go_ret
          exact ⟨rfl, hM.b⟩
end Go.Proofs.YtemknjnljciioaaGreat
namespace Go.Proofs.YtemknjnljciioaaGreat
open Go.ChangeShapes Go.WideShapes Go.ChangeAt Go.RowKit Go.Deep
open Go.ChangeMaps (open_string)
set_option maxRecDepth 100000 in
theorem scriptRefuses_lifted (os : Os) (started : os.Started) (H : Type) (enc : TypeId × Value → H) :
    ReturnsInHanded {} Tryz.checked os 3 .any (Rows.scriptRefusesSpec.pre6 enc Tryz.prog Tryz.f3 Rows.scriptRefusesRow.domain false) (Rows.scriptRefusesSpec.post enc Tryz.prog Tryz.f3 false true false false) := by
  refine returnsInHanded_of_change_sized (C := Tryz.checked) Tryz.own started (by kernel_rfl) Tryz.func3
    (ChangeSpec.witness6 (enc := enc) (C := Tryz.checked) false ⟨#[], #[.agg #[.int .i64 0, .int .i64 0, .int .i64 0, .int .i64 0, .slice none 0 0], .int .i64 0, .int .i64 0], []⟩ 8 (by kernel_rfl) (by kernel_rfl) (by kernel_rfl) (by kernel_rfl)) ?_
  intro W base args ds gs before hval0 hW hcnd hsz0 _
  have hval : ∀ (j : Nat) t v, Tryz.f3.params[j]? = some t → args[j]? = some v → Value.okWide Tryz.prog W .any base t v := hval0
  have hW' := hW
  obtain ⟨p, q, hA0, hV, rfl, hfz, hnd⟩ := hW
  have hA : DataW.TrodAll enc Tryz.prog W 0 (fun _ => true) true Tryz.f3.params.toList args.toList ds p := hA0
  have hsz : (DataW.weightsEach Tryz.prog (Tryz.f3.params.toList ++ Rows.scriptRefusesSpec.plain.varTypes Tryz.prog) (ds ++ gs)).all (· ≤ reachBytes) = true := hsz0
  rw [Tryz.params3] at hA hval hsz
  obtain ⟨v0, v1, v2, d0, d1, d2, p0, p1, p2, rfl, rfl, rfl, h0, h1, h2⟩ := trodAll_three hA
  obtain ⟨rfl, rfl⟩ := trodVars_none hV
  have k0 := h0
  have k1 := h1
  have k2 := h2
  have lt0 : ∀ x ∈ p0, x.block < W.heap.size := by obtain ⟨m, hm⟩ := k0; exact DataW.trod_lt m _ _ _ hm
  have lt1 : ∀ x ∈ p1, x.block < W.heap.size := by obtain ⟨m, hm⟩ := k1; exact DataW.trod_lt m _ _ _ hm
  have lt2 : ∀ x ∈ p2, x.block < W.heap.size := by obtain ⟨m, hm⟩ := k2; exact DataW.trod_lt m _ _ _ hm
  obtain ⟨i0, rfl, hsl0, hx0⟩ := open_sp (hval 0 24 v0 rfl rfl) h0 (fun n hn => sized_in hsz (j := 0) (t := 24) rfl rfl n hn)
  obtain ⟨z1, rfl, _, _, wf1⟩ := open_int Tryz.underlying3 (hval 1 3 v1 rfl rfl) h1
  obtain ⟨zl1, zh1⟩ := wf_i64 wf1
  obtain ⟨z2, rfl, _, _, wf2⟩ := open_int Tryz.underlying3 (hval 2 3 v2 rfl rfl) h2
  obtain ⟨zl2, zh2⟩ := wf_i64 wf2
  clear hA0 hval0
  refine (scriptRefuses_any i0 z1 z2 W hsl0 hx0).mono fun e W' ⟨he, bel⟩ => ?_
  subst he
  exact ⟨_, rfl, _, _, _, [], _, [], hW', trodAll_mk1 (shut_bool Tryz.underlying4 _), (trodAll_mk3 (Below.trod Tryz.laidOut (by kernel_rfl) (of_decide_eq_true (by kernel_rfl)) k0 bel lt0) (Below.trod Tryz.laidOut (by kernel_rfl) (of_decide_eq_true (by kernel_rfl)) k1 bel lt1) (Below.trod Tryz.laidOut (by kernel_rfl) (of_decide_eq_true (by kernel_rfl)) k2 bel lt2)), rfl, bel.frame _, fun h => by cases h⟩
theorem and_t {a b : Bool} (h : a = true) (g : b = true) : (a && b) = true := by rw [h, g]; rfl
set_option maxRecDepth 100000 in
theorem scriptRefuses_j0 : (Rows.scriptRefusesRow.wf (OpenSpec.ofChange Rows.scriptRefusesSpec)) = true := by kernel_rfl
set_option maxRecDepth 100000 in
theorem scriptRefuses_j1 : (laidOutB Tryz.pinned.checked.prog) = true := by kernel_rfl
set_option maxRecDepth 100000 in
theorem scriptRefuses_j2 : (mapsRowed Tryz.pinned.checked.prog) = true := by kernel_rfl
set_option maxRecDepth 100000 in
theorem scriptRefuses_j3 : (Tryz.f3.params.all (Tryz.pinned.checked.prog.readableRec ·)) = true := by kernel_rfl
set_option maxRecDepth 100000 in
theorem scriptRefuses_j4 : (namedTie Tryz.pinned.checked.prog Rows.scriptRefusesRow.named Rows.scriptRefusesSpec.vars) = true := by kernel_rfl
set_option maxRecDepth 100000 in
theorem scriptRefuses_j5 : ((Rows.scriptRefusesRow.stops == [])) = true := by kernel_rfl
set_option maxRecDepth 100000 in
theorem scriptRefuses_j6 : ((Tryz.pinned.checked.prog.stops == [])) = true := by kernel_rfl
set_option maxRecDepth 100000 in
theorem scriptRefuses_j7 : ((Rows.scriptRefusesRow.knobs == [])) = true := by kernel_rfl
set_option maxRecDepth 100000 in
theorem scriptRefuses_j8 : ((Tryz.pinned.checked.prog.stopKnobs == [])) = true := by kernel_rfl
set_option maxRecDepth 100000 in
theorem scriptRefuses_j9 : ((Rows.scriptRefusesRow.inPlace == Tryz.pinned.checked.prog.inPlace 3)) = true := by kernel_rfl
set_option maxRecDepth 100000 in
theorem scriptRefuses_j10 : ((Rows.scriptRefusesRow.unfollowed == Tryz.pinned.checked.prog.unfollowed 3)) = true := by kernel_rfl
set_option maxRecDepth 100000 in
theorem scriptRefuses_j11 : ((Rows.scriptRefusesRow.recurses == Tryz.pinned.checked.prog.recurses 3)) = true := by kernel_rfl
set_option maxRecDepth 100000 in
theorem scriptRefuses_j12 : ((Rows.scriptRefusesRow.named == Tryz.pinned.checked.prog.varsNamed 3)) = true := by kernel_rfl
set_option maxRecDepth 100000 in
theorem scriptRefuses_j13 : ((Rows.scriptRefusesRow.maps == (Tryz.f3.params.toList ++ Rows.scriptRefusesSpec.plain.varTypes Tryz.pinned.checked.prog).any (Tryz.pinned.checked.prog.mapsRec ·))) = true := by kernel_rfl
set_option maxRecDepth 100000 in
theorem scriptRefuses_j14 : ((Rows.scriptRefusesRow.ifaces == (Tryz.f3.params.toList ++ Rows.scriptRefusesSpec.plain.varTypes Tryz.pinned.checked.prog).any (Tryz.pinned.checked.prog.ifacesRec ·))) = true := by kernel_rfl
set_option maxRecDepth 100000 in
theorem scriptRefuses_j15 : ((Rows.scriptRefusesRow.mapsOut == Tryz.pinned.checked.prog.mapsAmong Tryz.f3.resultTypes.toList)) = true := by kernel_rfl
set_option maxRecDepth 100000 in
theorem scriptRefuses_j16 : ((Rows.scriptRefusesRow.loops == (Tryz.f3.params.toList ++ Rows.scriptRefusesSpec.plain.varTypes Tryz.pinned.checked.prog).any (Tryz.pinned.checked.prog.loopsFrom ·))) = true := by kernel_rfl
set_option maxRecDepth 100000 in
theorem scriptRefuses_j17 : ((Rows.scriptRefusesRow.wideKeys == (Tryz.f3.params.toList ++ Rows.scriptRefusesSpec.plain.varTypes Tryz.pinned.checked.prog ++ Tryz.f3.resultTypes.toList).any (Tryz.pinned.checked.prog.wideKeysFrom ·))) = true := by kernel_rfl
set_option maxRecDepth 100000 in
theorem scriptRefuses_j18 : (Rows.scriptRefusesSpec.vars.all (Tryz.pinned.checked.prog.varReadable ·)) = true := by kernel_rfl
set_option maxRecDepth 100000 in
theorem scriptRefuses_j19 : (Tryz.f3.resultTypes.all (fun t => Tryz.pinned.checked.prog.readableRec t && decide (t < Tryz.pinned.checked.prog.types.size))) = true := by kernel_rfl
set_option maxRecDepth 100000 in
theorem scriptRefuses_j20 : ((Rows.scriptRefusesRow.ifacesOut == Tryz.f3.resultTypes.toList.any (Tryz.pinned.checked.prog.ifacesRec ·))) = true := by kernel_rfl
set_option maxRecDepth 100000 in
theorem scriptRefuses_j21 : ((Rows.scriptRefusesRow.loopsOut == Tryz.f3.resultTypes.toList.any (Tryz.pinned.checked.prog.loopsFrom ·))) = true := by kernel_rfl
set_option maxRecDepth 100000 in
theorem scriptRefuses_j22 : ((Rows.scriptRefusesRow.plainKeys == Tryz.pinned.checked.prog.plainKeys)) = true := by kernel_rfl
set_option maxRecDepth 100000 in
theorem scriptRefuses_j23 : (Rows.scriptRefusesRow.shortTexts.isNone) = true := by kernel_rfl
set_option maxRecDepth 100000 in
theorem scriptRefuses_j24 : (Tryz.pinned.checked.prog.stopsHeard) = true := by kernel_rfl
set_option maxRecDepth 100000 in
theorem scriptRefuses_j25 : (Tryz.pinned.checked.prog.mayEnter) = true := by kernel_rfl
set_option maxRecDepth 100000 in
theorem scriptRefuses_j26 : ((Rows.scriptRefusesRow.lifted == Tryz.pinned.checked.prog.liftsFinal)) = true := by kernel_rfl
set_option maxRecDepth 100000 in
theorem scriptRefuses_j27 : ((Tryz.pinned.checked.prog.make == some Rows.scriptRefusesRow.make)) = true := by kernel_rfl
set_option maxRecDepth 100000 in
theorem scriptRefuses_j28 : ((Rows.scriptRefusesRow.kinds == (if Rows.scriptRefusesRow.domain.isEmpty then [] else Tryz.f3.params.toList.map fun t => match Tryz.pinned.checked.prog.underlying t with | some (.int k) => some k | _ => none))) = true := by kernel_rfl
set_option maxRecDepth 100000 in
theorem scriptRefuses_j29 : ((Rows.scriptRefusesRow.pinned == Rows.scriptRefusesRow.pinnedBy)) = true := by kernel_rfl
set_option maxRecDepth 100000 in
theorem scriptRefuses_j30 : ((Rows.scriptRefusesRow.veiled == (Tryz.f3.params.toList ++ Rows.scriptRefusesSpec.plain.varTypes Tryz.pinned.checked.prog ++ Tryz.f3.resultTypes.toList).any (Tryz.pinned.checked.prog.veiledRec ·))) = true := by kernel_rfl
set_option maxRecDepth 100000 in
theorem scriptRefuses_j31 : (Rows.scriptRefusesRow.veiledFits Tryz.pinned.checked.prog Tryz.f3.params.toList (Tryz.f3.params.toList ++ Rows.scriptRefusesSpec.plain.varTypes Tryz.pinned.checked.prog ++ Tryz.f3.resultTypes.toList)) = true := by kernel_rfl
set_option maxRecDepth 100000 in
theorem scriptRefuses_over : Rows.scriptRefusesRow.holds Tryz.pinned (OpenSpec.ofChange Rows.scriptRefusesSpec) :=
  OpenClaim.holds_of_wide 3 Tryz.f3 rfl rfl rfl rfl rfl rfl rfl ⟨rfl, rfl, rfl, rfl, rfl⟩ rfl rfl rfl rfl rfl (by kernel_rfl) Tryz.func3 (by unfold joinedFacts; exact (and_t (and_t (and_t (and_t (and_t (and_t (and_t (and_t (and_t (and_t (and_t (and_t (and_t (and_t (and_t (and_t (and_t (and_t (and_t (and_t (and_t (and_t (and_t (and_t (and_t (and_t (and_t (and_t (and_t (and_t (and_t scriptRefuses_j0 scriptRefuses_j1) scriptRefuses_j2) scriptRefuses_j3) scriptRefuses_j4) scriptRefuses_j5) scriptRefuses_j6) scriptRefuses_j7) scriptRefuses_j8) scriptRefuses_j9) scriptRefuses_j10) scriptRefuses_j11) scriptRefuses_j12) scriptRefuses_j13) scriptRefuses_j14) scriptRefuses_j15) scriptRefuses_j16) scriptRefuses_j17) scriptRefuses_j18) scriptRefuses_j19) scriptRefuses_j20) scriptRefuses_j21) scriptRefuses_j22) scriptRefuses_j23) scriptRefuses_j24) scriptRefuses_j25) scriptRefuses_j26) scriptRefuses_j27) scriptRefuses_j28) scriptRefuses_j29) scriptRefuses_j30) scriptRefuses_j31))
    (of_decide_eq_true (by kernel_rfl)) (by unfold Func.isWrapper; first | (rw [if_pos (by decide +kernel)]; kernel_rfl) | (rw [if_neg (by decide +kernel)]; exact ⟨rfl, rfl⟩))
    (fun os started H enc _ => scriptRefuses_lifted os started H enc)
theorem scriptRefuses_proved : Rows.ScriptRefusesSaid := scriptRefuses_over
end Go.Proofs.YtemknjnljciioaaGreat
