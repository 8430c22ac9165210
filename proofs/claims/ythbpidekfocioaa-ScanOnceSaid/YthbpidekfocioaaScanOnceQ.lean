/-
  ScanOnce answers true at every input, and leaves its arguments as they are.
-/
import Derived.Deep.Slices
import Derived.SizedLaws
import Derived.Carry
import Derived.ChangeMaps5
import Derived.Test.YthbpidekfocioaaK08
namespace Go.Proofs.Ythbpidekfocioaa
open Go.RowKit Go.Shelf
attribute [local irreducible] wpFrom wpAnyH StepH
theorem found_is {l : List Ev} {key : ByteArray} {kind : Int} (h : (firstE l key kind).isSome = true) : key.toList.isEmpty = false ∧ (foundE (firstE l key kind)).cd = 0 ∧ (foundE (firstE l key kind)).tx.kd = kind ∧ keyB (foundE (firstE l key kind)).tx.iv = key := by
  obtain ⟨a, ha⟩ := Option.isSome_iff_exists.1 h
  obtain ⟨h1, _, h2, h3, h4⟩ := first_is ha
  rw [ha]
  exact ⟨h1, h2, h3, h4⟩
theorem found_no {l : List Ev} {key : ByteArray} {kind : Int} (h : (firstE l key kind).isSome = false) : foundE (firstE l key kind) = noE := by
  cases hf : firstE l key kind with
  | none => rfl
  | some a => rw [hf] at h; cases h
theorem not_beqS {a b : ByteArray} (h : a = b) : (!(a.toList == b.toList)) = false := by rw [h]; simp
theorem not_nilB {l : List UInt8} (h : l.isEmpty = false) : (!(l == ([] : List UInt8))) = true := by rw [nilB, h]; rfl
theorem bne_eq {a b : Int} (h : a = b) : (a != b) = false := by rw [h]; exact bne_self_eq_false _
set_option maxRecDepth 100000 in
set_option maxHeartbeats 4000000 in
theorem scanOnce_any (key : ByteArray) (l : List Ev) (v : Value) (w : World) {lo hi : Nat} (hl : RSl evc lo hi w v l) (hhi : hi ≤ w.heap.size) : Calls Try.prog 5 #[v, .string key] w fun e W' => e = .returned (.bool true) ∧ Below w.heap.size w W' := by
  have hmx : Try.prog.follows .mixedOrders = true := by kernel_rfl
  have HEl := Lib.hid (fun k x (hx : l[k]? = some x) => hl.elem evc_len hx Try.underlying22 (fun W => by kernel_rfl))
  obtain ⟨pl, cl, rfl⟩ := hl.slice
  have HLl := Lib.hid hl
  have HHl := Lib.hid hhi
  have HLENl := Lib.hid (show l.length ≤ 9223372036854775807 from by have h := hl.len; unfold maxLen at h; omega)
  clear hl hhi
  have hM := Sep.start w
  go_enter Try.func5, Try.ntmps5
  go_upto_region 0 with fail
  refine wp_region_fromM (fun W => Sep w [] [] W) hM ?_
  clear hM
  rintro Y1 hM
  refine tF 1 [.val 0 (some 4) (.bool false)] trivial ?_
  refine dF ?_
  try simp only [puts, Tk.put, Act.put, List.setIfInBounds_toArray, List.set_cons_zero, List.set_cons_succ]
  go_upto_region 1 with fail
  refine wp_region_fromM (fun W => Sep w [] [] W) hM ?_
  clear hM
  rintro Y2 hM
  refine cF (some 11) 6 #[] ((alive14_any _).mono ?_)
  rintro e Y3 ⟨rfl, hb⟩
  replace hM := hM.below hb
  clear hb
  refine tF 2 [.val 1 (some 12) (.bool false)] trivial ?_
  refine dF ?_
  try simp only [puts, Tk.put, Act.put, List.setIfInBounds_toArray, List.set_cons_zero, List.set_cons_succ]
  go_upto_region 3 with fail
  refine wp_region_fromM (fun W => Sep w [] [] W) hM ?_
  clear hM
  rintro Y4 hM
  refine tF 2 [.val 0 (some 14) (.slice pl l.length cl), .val 1 (some 15) (.string key)] trivial ?_
  refine cF (some 16) 8 #[.slice pl l.length cl, .string key] ((prepared_any key l _ _ (HLl.out.below hM.b HHl.out) (Nat.le_trans HHl.out hM.size)).mono ?_)
  rintro e Y5 ⟨rfl, hb⟩
  replace hM := hM.below hb
  clear hb
  refine tF 6 [.val 3 (some 13) (.tuple #[txv (foundE (firstE l key 4)).tx, .bool (firstE l key 4).isSome]), .val 4 (some 17) (txv (foundE (firstE l key 4)).tx), .val 5 (some 18) (.bool (firstE l key 4).isSome)] trivial ?_
  refine rF (some 5) (pt Y5.heap.size 0) (Y5.alloc (.cells (txc noT).toArray 33)) ?_
  replace hM := hM.alloc 33 (txc noT)
  generalize World.alloc _ _ = Y6 at *
  generalize hNe : Y5.heap.size = N6 at *
  clear hNe
  have hst := sto_part (txc (foundE (firstE l key 4)).tx) (hM.at 0 rfl) 0 33 (txv (foundE (firstE l key 4)).tx) (txc (foundE (firstE l key 4)).tx) rfl (by kernel_rfl) (Nat.le_of_ble_eq_true rfl) rfl rfl
  refine sF 33 (pt N6 0) (txv (foundE (firstE l key 4)).tx) (hst) ?_
  clear hst
  replace hM := hM.set 0 (cs' := txc (foundE (firstE l key 4)).tx) rfl rfl
  generalize World.setRow _ _ _ = Y7 at *
  refine tF 9 [.val 8 (some 6) (.bool (firstE l key 4).isSome)] trivial ?_
  refine dF ?_
  try simp only [puts, Tk.put, Act.put, List.setIfInBounds_toArray, List.set_cons_zero, List.set_cons_succ]
  go_upto_region 4 with fail
  refine wp_region_fromM (fun W => Sep w [] [.blk N6 33 (txc (foundE (firstE l key 4)).tx)] W) hM ?_
  clear hM
  rintro Y8 hM
  refine tF 2 [.val 0 (some 20) (.slice pl l.length cl), .val 1 (some 21) (.string key)] trivial ?_
  refine cF (some 22) 9 #[.slice pl l.length cl, .string key] ((fulfilled_any key l _ _ (HLl.out.below hM.b HHl.out) (Nat.le_trans HHl.out hM.size)).mono ?_)
  rintro e Y9 ⟨rfl, hb⟩
  replace hM := hM.below hb
  clear hb
  refine tF 6 [.val 3 (some 19) (.tuple #[evv (foundE (firstE l key 5)), .bool (firstE l key 5).isSome]), .val 4 (some 23) (evv (foundE (firstE l key 5))), .val 5 (some 24) (.bool (firstE l key 5).isSome)] trivial ?_
  refine rF (some 7) (pt Y9.heap.size 0) (Y9.alloc (.cells (evc noE).toArray 36)) ?_
  replace hM := hM.alloc 36 (evc noE)
  generalize World.alloc _ _ = Y10 at *
  generalize hNe : Y9.heap.size = N10 at *
  clear hNe
  have hst := sto_part (evc (foundE (firstE l key 5))) (hM.at 0 rfl) 0 36 (evv (foundE (firstE l key 5))) (evc (foundE (firstE l key 5))) rfl (by kernel_rfl) (Nat.le_of_ble_eq_true rfl) rfl rfl
  refine sF 36 (pt N10 0) (evv (foundE (firstE l key 5))) (hst) ?_
  clear hst
  replace hM := hM.set 0 (cs' := evc (foundE (firstE l key 5))) rfl rfl
  generalize World.setRow _ _ _ = Y11 at *
  refine tF 9 [.val 8 (some 8) (.bool (firstE l key 5).isSome)] trivial ?_
  refine dF ?_
  try simp only [puts, Tk.put, Act.put, List.setIfInBounds_toArray, List.set_cons_zero, List.set_cons_succ]
  go_upto_region 5 with fail
  refine wp_region_fromM (fun W => Sep w [] [.blk N10 36 (evc (foundE (firstE l key 5))), .blk N6 33 (txc (foundE (firstE l key 4)).tx)] W) hM ?_
  clear hM
  rintro Y12 hM
  refine tF 2 [.val 0 (some 26) (.slice pl l.length cl), .val 1 (some 27) (.string key)] trivial ?_
  refine cF (some 28) 10 #[.slice pl l.length cl, .string key] ((cancelled_any key l _ _ (HLl.out.below hM.b HHl.out) (Nat.le_trans HHl.out hM.size)).mono ?_)
  rintro e Y13 ⟨rfl, hb⟩
  replace hM := hM.below hb
  clear hb
  refine tF 6 [.val 3 (some 25) (.tuple #[evv (foundE (firstE l key 6)), .bool (firstE l key 6).isSome]), .val 4 (some 29) (evv (foundE (firstE l key 6))), .val 5 (some 30) (.bool (firstE l key 6).isSome)] trivial ?_
  refine rF (some 9) (pt Y13.heap.size 0) (Y13.alloc (.cells (evc noE).toArray 36)) ?_
  replace hM := hM.alloc 36 (evc noE)
  generalize World.alloc _ _ = Y14 at *
  generalize hNe : Y13.heap.size = N14 at *
  clear hNe
  have hst := sto_part (evc (foundE (firstE l key 6))) (hM.at 0 rfl) 0 36 (evv (foundE (firstE l key 6))) (evc (foundE (firstE l key 6))) rfl (by kernel_rfl) (Nat.le_of_ble_eq_true rfl) rfl rfl
  refine sF 36 (pt N14 0) (evv (foundE (firstE l key 6))) (hst) ?_
  clear hst
  replace hM := hM.set 0 (cs' := evc (foundE (firstE l key 6))) rfl rfl
  generalize World.setRow _ _ _ = Y15 at *
  refine tF 9 [.val 8 (some 10) (.bool (firstE l key 6).isSome)] trivial ?_
  refine dF ?_
  try simp only [puts, Tk.put, Act.put, List.setIfInBounds_toArray, List.set_cons_zero, List.set_cons_succ]
  go_upto_region 6 with fail
  refine wp_region_fromM (fun W => Sep w [] [.blk N14 36 (evc (foundE (firstE l key 6))), .blk N10 36 (evc (foundE (firstE l key 5))), .blk N6 33 (txc (foundE (firstE l key 4)).tx)] W) hM ?_
  clear hM
  rintro Y16 hM
  refine tF 2 [.val 0 (some 31) (.bool (firstE l key 4).isSome), .val 1 (some 32) (.bool (firstE l key 4).isSome)] trivial ?_
  cases hb1 : (firstE l key 4).isSome with
  | false =>
    have Hhb1 := Lib.hid hb1
    clear hb1
    refine tF 4 [.skip 2 (some 33), .skip 3 (some 34)] trivial ?_
    refine wpFrom_not (d := some 35) (by kernel_rfl) ?_
    refine tF 16 [.skip 5 (some 36), .skip 6 (some 37), .skip 7 (some 38), .skip 8 (some 39), .skip 9 (some 40), .skip 10 (some 41), .skip 11 (some 42), .val 12 (some 43) (.bool false), .val 13 (some 44) (.bool false), .val 14 (some 45) (.bool (firstE l key 5).isSome), .val 15 (some 46) (.bool (firstE l key 5).isSome)] trivial ?_
    cases hb2 : (firstE l key 5).isSome with
    | false =>
      have Hhb2 := Lib.hid hb2
      clear hb2
      refine tF 19 [.skip 16 (some 47), .skip 17 (some 48), .skip 18 (some 49)] trivial ?_
      refine wpFrom_not (d := some 50) (by kernel_rfl) ?_
      refine tF 38 [.skip 20 (some 51), .skip 21 (some 52), .skip 22 (some 53), .skip 23 (some 54), .skip 24 (some 55), .skip 25 (some 56), .skip 26 (some 57), .skip 27 (some 58), .skip 28 (some 59), .skip 29 (some 60), .skip 30 (some 61), .skip 31 (some 62), .skip 32 (some 63), .val 33 (some 64) (.bool false), .val 34 (some 65) (.bool false), .val 35 (some 66) (.bool false), .val 36 (some 67) (.bool (firstE l key 6).isSome), .val 37 (some 68) (.bool (firstE l key 6).isSome)] trivial ?_
      cases hb3 : (firstE l key 6).isSome with
      | false =>
        have Hhb3 := Lib.hid hb3
        clear hb3
        refine tF 41 [.skip 38 (some 69), .skip 39 (some 70), .skip 40 (some 71)] trivial ?_
        refine wpFrom_not (d := some 72) (by kernel_rfl) ?_
        refine tF 57 [.skip 42 (some 73), .skip 43 (some 74), .skip 44 (some 75), .skip 45 (some 76), .skip 46 (some 77), .skip 47 (some 78), .skip 48 (some 79), .skip 49 (some 80), .skip 50 (some 81), .skip 51 (some 82), .skip 52 (some 83), .skip 53 (some 84), .skip 54 (some 85), .val 55 (some 86) (.bool false), .val 56 (some 87) (.bool false)] trivial ?_
        refine dF ?_
        try simp only [puts, Tk.put, Act.put, List.setIfInBounds_toArray, List.set_cons_zero, List.set_cons_succ]
        go_upto_region 8 with fail
        refine wp_region_fromM (fun W => Sep w [] [.blk N14 36 (evc (foundE (firstE l key 6))), .blk N10 36 (evc (foundE (firstE l key 5))), .blk N6 33 (txc (foundE (firstE l key 4)).tx)] W) hM ?_
        clear hM
        rintro Y17 hM
        refine tF 4 [.val 0 (some 88) (.bool false), .val 1 (some 89) (.bool false), .load 2 (some 90) 33 (pt N6 0) (txv (foundE (firstE l key 4)).tx), .val 3 (some 91) (txv noT)] ⟨load_part (hM.at 2 rfl) 0 (txc (foundE (firstE l key 4)).tx) rfl _ _ Try.underlying33 rfl (by kernel_rfl), trivial⟩ ?_
        refine eqA (.tmp 90) (.tmp 91) 33 (some 92) (txc (foundE (firstE l key 4)).tx).toArray (txc noT).toArray true (Eq.trans (run_eqT (foundE (firstE l key 4)).tx noT _) (congrArg (fun z => Result.ok z _) ((by rw [found_no Hhb1.out]; exact eqT_refl _)))) ?_
        refine tF 11 [.val 5 (some 93) (.bool true), .val 6 (some 94) (.bool true), .val 7 (some 95) (.bool false), .val 8 (some 96) (.bool false), .load 9 (some 97) 36 (pt N10 0) (evv (foundE (firstE l key 5))), .val 10 (some 98) (evv noE)] ⟨load_part (hM.at 1 rfl) 0 (evc (foundE (firstE l key 5))) rfl _ _ Try.underlying36 rfl (by kernel_rfl), trivial⟩ ?_
        refine eqA (.tmp 97) (.tmp 98) 36 (some 99) (evc (foundE (firstE l key 5))).toArray (evc noE).toArray true (Eq.trans (run_eqE (foundE (firstE l key 5)) noE _) (congrArg (fun z => Result.ok z _) ((by rw [found_no Hhb2.out]; exact eqE_refl _)))) ?_
        refine tF 19 [.val 12 (some 100) (.bool true), .val 13 (some 101) (.bool true), .val 14 (some 102) (.bool true), .val 15 (some 103) (.bool false), .val 16 (some 104) (.bool false), .load 17 (some 105) 36 (pt N14 0) (evv (foundE (firstE l key 6))), .val 18 (some 106) (evv noE)] ⟨load_part (hM.at 0 rfl) 0 (evc (foundE (firstE l key 6))) rfl _ _ Try.underlying36 rfl (by kernel_rfl), trivial⟩ ?_
        refine eqA (.tmp 105) (.tmp 106) 36 (some 107) (evc (foundE (firstE l key 6))).toArray (evc noE).toArray true (Eq.trans (run_eqE (foundE (firstE l key 6)) noE _) (congrArg (fun z => Result.ok z _) ((by rw [found_no Hhb3.out]; exact eqE_refl _)))) ?_
        refine tF 26 [.val 20 (some 108) (.bool true), .val 21 (some 109) (.bool true), .val 22 (some 110) (.bool true), .val 23 (some 111) (.string key), .alt 24 (some 112) (.bool (!(key.toList == ([] : List UInt8)))) (.bool (!key.toList.isEmpty)), .val 25 (some 113) (.bool (!key.toList.isEmpty))] ⟨congrArg Value.bool (congrArg not (nilB _)), trivial⟩ ?_
        cases hb4 : !key.toList.isEmpty with
        | false =>
          have Hhb4 := Lib.hid hb4
          clear hb4
          refine tF 39 [.val 26 (some 114) (.bool false), .val 27 (some 115) (.bool true), .val 28 (some 116) (.bool true), .val 29 (some 117) (.bool false), .val 30 (some 118) (.bool true), .val 31 (some 119) (.bool true), .val 32 (some 120) (.bool true), .val 33 (some 121) (.bool false), .val 34 (some 122) (.bool true), .val 35 (some 123) (.bool true), .val 36 (some 124) (.bool true), .val 37 (some 125) (.bool true), .val 38 (some 4) (.bool true)] trivial ?_
          refine dF ?_
          try simp only [puts, Tk.put, Act.put, List.setIfInBounds_toArray, List.set_cons_zero, List.set_cons_succ]
          go_wp2_with fail
          go_ret
          exact ⟨rfl, hM.b⟩
        | true =>
          have Hhb4 := Lib.hid hb4
          clear hb4
          refine tF 39 [.skip 26 (some 114), .skip 27 (some 115), .skip 28 (some 116), .skip 29 (some 117), .skip 30 (some 118), .skip 31 (some 119), .skip 32 (some 120), .skip 33 (some 121), .skip 34 (some 122), .skip 35 (some 123), .val 36 (some 124) (.bool true), .val 37 (some 125) (.bool true), .val 38 (some 4) (.bool true)] trivial ?_
          refine dF ?_
          try simp only [puts, Tk.put, Act.put, List.setIfInBounds_toArray, List.set_cons_zero, List.set_cons_succ]
          go_wp2_with fail
          go_ret
          exact ⟨rfl, hM.b⟩
      | true =>
        have Hhb3 := Lib.hid hb3
        clear hb3
        obtain ⟨hf1, hf2, hf3, hf4⟩ := found_is Hhb3.out
        have HFa6 := Lib.hid hf1
        have HFb6 := Lib.hid hf2
        have HFc6 := Lib.hid hf3
        have HFd6 := Lib.hid hf4
        clear hf1 hf2 hf3 hf4
        refine tF 41 [.val 38 (some 69) (pt N14 2), .val 39 (some 70) (pt N14 10), .load 40 (some 71) 29 (pt N14 10) (ivv (foundE (firstE l key 6)).tx.iv)] ⟨load_part (hM.at 0 rfl) 10 (ivc (foundE (firstE l key 6)).tx.iv) rfl _ _ Try.underlying29 rfl (by kernel_rfl), trivial⟩ ?_
        refine cF (some 72) 7 #[ivv (foundE (firstE l key 6)).tx.iv] ((key_any (foundE (firstE l key 6)).tx.iv _).mono ?_)
        rintro e Y18 ⟨rfl, hb⟩
        replace hM := hM.below hb
        clear hb
        refine tF 57 [.val 42 (some 73) (.string key), .alt 43 (some 74) (.bool (!((keyB (foundE (firstE l key 6)).tx.iv).toList == key.toList))) (.bool false), .val 44 (some 75) (.bool false), .val 45 (some 76) (pt N14 2), .val 46 (some 77) (pt N14 4), .load 47 (some 78) 3 (pt N14 4) (.int .i64 (foundE (firstE l key 6)).tx.kd), .alt 48 (some 79) (.bool ((foundE (firstE l key 6)).tx.kd != 6)) (.bool false), .val 49 (some 80) (.bool false), .val 50 (some 81) (.bool false), .val 51 (some 82) (pt N14 1), .load 52 (some 83) 34 (pt N14 1) (.int .i64 (foundE (firstE l key 6)).cd), .alt 53 (some 84) (.bool ((foundE (firstE l key 6)).cd != 0)) (.bool false), .val 54 (some 85) (.bool false), .val 55 (some 86) (.bool false), .val 56 (some 87) (.bool false)] ⟨congrArg Value.bool (not_beqS HFd6.out), ld_any _ _ Try.underlying3 rfl (hM.at 0 rfl) 4 rfl, congrArg Value.bool (bne_eq HFc6.out), ld_any _ _ Try.underlying34 rfl (hM.at 0 rfl) 1 rfl, congrArg Value.bool (bne_eq HFb6.out), trivial⟩ ?_
        refine dF ?_
        try simp only [puts, Tk.put, Act.put, List.setIfInBounds_toArray, List.set_cons_zero, List.set_cons_succ]
        go_upto_region 8 with fail
        refine wp_region_fromM (fun W => Sep w [] [.blk N14 36 (evc (foundE (firstE l key 6))), .blk N10 36 (evc (foundE (firstE l key 5))), .blk N6 33 (txc (foundE (firstE l key 4)).tx)] W) hM ?_
        clear hM
        rintro Y19 hM
        refine tF 4 [.val 0 (some 88) (.bool false), .val 1 (some 89) (.bool false), .load 2 (some 90) 33 (pt N6 0) (txv (foundE (firstE l key 4)).tx), .val 3 (some 91) (txv noT)] ⟨load_part (hM.at 2 rfl) 0 (txc (foundE (firstE l key 4)).tx) rfl _ _ Try.underlying33 rfl (by kernel_rfl), trivial⟩ ?_
        refine eqA (.tmp 90) (.tmp 91) 33 (some 92) (txc (foundE (firstE l key 4)).tx).toArray (txc noT).toArray true (Eq.trans (run_eqT (foundE (firstE l key 4)).tx noT _) (congrArg (fun z => Result.ok z _) ((by rw [found_no Hhb1.out]; exact eqT_refl _)))) ?_
        refine tF 11 [.val 5 (some 93) (.bool true), .val 6 (some 94) (.bool true), .val 7 (some 95) (.bool false), .val 8 (some 96) (.bool false), .load 9 (some 97) 36 (pt N10 0) (evv (foundE (firstE l key 5))), .val 10 (some 98) (evv noE)] ⟨load_part (hM.at 1 rfl) 0 (evc (foundE (firstE l key 5))) rfl _ _ Try.underlying36 rfl (by kernel_rfl), trivial⟩ ?_
        refine eqA (.tmp 97) (.tmp 98) 36 (some 99) (evc (foundE (firstE l key 5))).toArray (evc noE).toArray true (Eq.trans (run_eqE (foundE (firstE l key 5)) noE _) (congrArg (fun z => Result.ok z _) ((by rw [found_no Hhb2.out]; exact eqE_refl _)))) ?_
        refine tF 39 [.val 12 (some 100) (.bool true), .val 13 (some 101) (.bool true), .val 14 (some 102) (.bool true), .val 15 (some 103) (.bool true), .val 16 (some 104) (.bool true), .skip 17 (some 105), .skip 18 (some 106), .skip 19 (some 107), .val 20 (some 108) (.bool true), .val 21 (some 109) (.bool true), .val 22 (some 110) (.bool true), .val 23 (some 111) (.string key), .alt 24 (some 112) (.bool (!(key.toList == ([] : List UInt8)))) (.bool true), .val 25 (some 113) (.bool true), .skip 26 (some 114), .skip 27 (some 115), .skip 28 (some 116), .skip 29 (some 117), .skip 30 (some 118), .skip 31 (some 119), .skip 32 (some 120), .skip 33 (some 121), .skip 34 (some 122), .skip 35 (some 123), .val 36 (some 124) (.bool true), .val 37 (some 125) (.bool true), .val 38 (some 4) (.bool true)] ⟨congrArg Value.bool ((not_nilB HFa6.out)), trivial⟩ ?_
        refine dF ?_
        try simp only [puts, Tk.put, Act.put, List.setIfInBounds_toArray, List.set_cons_zero, List.set_cons_succ]
        go_wp2_with fail
        go_ret
        exact ⟨rfl, hM.b⟩
    | true =>
      have Hhb2 := Lib.hid hb2
      clear hb2
      obtain ⟨hf1, hf2, hf3, hf4⟩ := found_is Hhb2.out
      have HFa5 := Lib.hid hf1
      have HFb5 := Lib.hid hf2
      have HFc5 := Lib.hid hf3
      have HFd5 := Lib.hid hf4
      clear hf1 hf2 hf3 hf4
      refine tF 19 [.val 16 (some 47) (pt N10 2), .val 17 (some 48) (pt N10 10), .load 18 (some 49) 29 (pt N10 10) (ivv (foundE (firstE l key 5)).tx.iv)] ⟨load_part (hM.at 1 rfl) 10 (ivc (foundE (firstE l key 5)).tx.iv) rfl _ _ Try.underlying29 rfl (by kernel_rfl), trivial⟩ ?_
      refine cF (some 50) 7 #[ivv (foundE (firstE l key 5)).tx.iv] ((key_any (foundE (firstE l key 5)).tx.iv _).mono ?_)
      rintro e Y20 ⟨rfl, hb⟩
      replace hM := hM.below hb
      clear hb
      refine tF 38 [.val 20 (some 51) (.string key), .alt 21 (some 52) (.bool (!((keyB (foundE (firstE l key 5)).tx.iv).toList == key.toList))) (.bool false), .val 22 (some 53) (.bool false), .val 23 (some 54) (pt N10 2), .val 24 (some 55) (pt N10 4), .load 25 (some 56) 3 (pt N10 4) (.int .i64 (foundE (firstE l key 5)).tx.kd), .alt 26 (some 57) (.bool ((foundE (firstE l key 5)).tx.kd != 5)) (.bool false), .val 27 (some 58) (.bool false), .val 28 (some 59) (.bool false), .val 29 (some 60) (pt N10 1), .load 30 (some 61) 34 (pt N10 1) (.int .i64 (foundE (firstE l key 5)).cd), .alt 31 (some 62) (.bool ((foundE (firstE l key 5)).cd != 0)) (.bool false), .val 32 (some 63) (.bool false), .val 33 (some 64) (.bool false), .val 34 (some 65) (.bool false), .val 35 (some 66) (.bool false), .val 36 (some 67) (.bool (firstE l key 6).isSome), .val 37 (some 68) (.bool (firstE l key 6).isSome)] ⟨congrArg Value.bool (not_beqS HFd5.out), ld_any _ _ Try.underlying3 rfl (hM.at 1 rfl) 4 rfl, congrArg Value.bool (bne_eq HFc5.out), ld_any _ _ Try.underlying34 rfl (hM.at 1 rfl) 1 rfl, congrArg Value.bool (bne_eq HFb5.out), trivial⟩ ?_
      cases hb5 : (firstE l key 6).isSome with
      | false =>
        have Hhb5 := Lib.hid hb5
        clear hb5
        refine tF 41 [.skip 38 (some 69), .skip 39 (some 70), .skip 40 (some 71)] trivial ?_
        refine wpFrom_not (d := some 72) (by kernel_rfl) ?_
        refine tF 57 [.skip 42 (some 73), .skip 43 (some 74), .skip 44 (some 75), .skip 45 (some 76), .skip 46 (some 77), .skip 47 (some 78), .skip 48 (some 79), .skip 49 (some 80), .skip 50 (some 81), .skip 51 (some 82), .skip 52 (some 83), .skip 53 (some 84), .skip 54 (some 85), .val 55 (some 86) (.bool false), .val 56 (some 87) (.bool false)] trivial ?_
        refine dF ?_
        try simp only [puts, Tk.put, Act.put, List.setIfInBounds_toArray, List.set_cons_zero, List.set_cons_succ]
        go_upto_region 8 with fail
        refine wp_region_fromM (fun W => Sep w [] [.blk N14 36 (evc (foundE (firstE l key 6))), .blk N10 36 (evc (foundE (firstE l key 5))), .blk N6 33 (txc (foundE (firstE l key 4)).tx)] W) hM ?_
        clear hM
        rintro Y21 hM
        refine tF 4 [.val 0 (some 88) (.bool false), .val 1 (some 89) (.bool false), .load 2 (some 90) 33 (pt N6 0) (txv (foundE (firstE l key 4)).tx), .val 3 (some 91) (txv noT)] ⟨load_part (hM.at 2 rfl) 0 (txc (foundE (firstE l key 4)).tx) rfl _ _ Try.underlying33 rfl (by kernel_rfl), trivial⟩ ?_
        refine eqA (.tmp 90) (.tmp 91) 33 (some 92) (txc (foundE (firstE l key 4)).tx).toArray (txc noT).toArray true (Eq.trans (run_eqT (foundE (firstE l key 4)).tx noT _) (congrArg (fun z => Result.ok z _) ((by rw [found_no Hhb1.out]; exact eqT_refl _)))) ?_
        refine tF 19 [.val 5 (some 93) (.bool true), .val 6 (some 94) (.bool true), .val 7 (some 95) (.bool true), .val 8 (some 96) (.bool true), .skip 9 (some 97), .skip 10 (some 98), .skip 11 (some 99), .val 12 (some 100) (.bool true), .val 13 (some 101) (.bool true), .val 14 (some 102) (.bool true), .val 15 (some 103) (.bool false), .val 16 (some 104) (.bool false), .load 17 (some 105) 36 (pt N14 0) (evv (foundE (firstE l key 6))), .val 18 (some 106) (evv noE)] ⟨load_part (hM.at 0 rfl) 0 (evc (foundE (firstE l key 6))) rfl _ _ Try.underlying36 rfl (by kernel_rfl), trivial⟩ ?_
        refine eqA (.tmp 105) (.tmp 106) 36 (some 107) (evc (foundE (firstE l key 6))).toArray (evc noE).toArray true (Eq.trans (run_eqE (foundE (firstE l key 6)) noE _) (congrArg (fun z => Result.ok z _) ((by rw [found_no Hhb5.out]; exact eqE_refl _)))) ?_
        refine tF 39 [.val 20 (some 108) (.bool true), .val 21 (some 109) (.bool true), .val 22 (some 110) (.bool true), .val 23 (some 111) (.string key), .alt 24 (some 112) (.bool (!(key.toList == ([] : List UInt8)))) (.bool true), .val 25 (some 113) (.bool true), .skip 26 (some 114), .skip 27 (some 115), .skip 28 (some 116), .skip 29 (some 117), .skip 30 (some 118), .skip 31 (some 119), .skip 32 (some 120), .skip 33 (some 121), .skip 34 (some 122), .skip 35 (some 123), .val 36 (some 124) (.bool true), .val 37 (some 125) (.bool true), .val 38 (some 4) (.bool true)] ⟨congrArg Value.bool ((not_nilB HFa5.out)), trivial⟩ ?_
        refine dF ?_
        try simp only [puts, Tk.put, Act.put, List.setIfInBounds_toArray, List.set_cons_zero, List.set_cons_succ]
        go_wp2_with fail
        go_ret
        exact ⟨rfl, hM.b⟩
      | true =>
        have Hhb5 := Lib.hid hb5
        clear hb5
        obtain ⟨hf1, hf2, hf3, hf4⟩ := found_is Hhb5.out
        have HFa6 := Lib.hid hf1
        have HFb6 := Lib.hid hf2
        have HFc6 := Lib.hid hf3
        have HFd6 := Lib.hid hf4
        clear hf1 hf2 hf3 hf4
        refine tF 41 [.val 38 (some 69) (pt N14 2), .val 39 (some 70) (pt N14 10), .load 40 (some 71) 29 (pt N14 10) (ivv (foundE (firstE l key 6)).tx.iv)] ⟨load_part (hM.at 0 rfl) 10 (ivc (foundE (firstE l key 6)).tx.iv) rfl _ _ Try.underlying29 rfl (by kernel_rfl), trivial⟩ ?_
        refine cF (some 72) 7 #[ivv (foundE (firstE l key 6)).tx.iv] ((key_any (foundE (firstE l key 6)).tx.iv _).mono ?_)
        rintro e Y22 ⟨rfl, hb⟩
        replace hM := hM.below hb
        clear hb
        refine tF 57 [.val 42 (some 73) (.string key), .alt 43 (some 74) (.bool (!((keyB (foundE (firstE l key 6)).tx.iv).toList == key.toList))) (.bool false), .val 44 (some 75) (.bool false), .val 45 (some 76) (pt N14 2), .val 46 (some 77) (pt N14 4), .load 47 (some 78) 3 (pt N14 4) (.int .i64 (foundE (firstE l key 6)).tx.kd), .alt 48 (some 79) (.bool ((foundE (firstE l key 6)).tx.kd != 6)) (.bool false), .val 49 (some 80) (.bool false), .val 50 (some 81) (.bool false), .val 51 (some 82) (pt N14 1), .load 52 (some 83) 34 (pt N14 1) (.int .i64 (foundE (firstE l key 6)).cd), .alt 53 (some 84) (.bool ((foundE (firstE l key 6)).cd != 0)) (.bool false), .val 54 (some 85) (.bool false), .val 55 (some 86) (.bool false), .val 56 (some 87) (.bool false)] ⟨congrArg Value.bool (not_beqS HFd6.out), ld_any _ _ Try.underlying3 rfl (hM.at 0 rfl) 4 rfl, congrArg Value.bool (bne_eq HFc6.out), ld_any _ _ Try.underlying34 rfl (hM.at 0 rfl) 1 rfl, congrArg Value.bool (bne_eq HFb6.out), trivial⟩ ?_
        refine dF ?_
        try simp only [puts, Tk.put, Act.put, List.setIfInBounds_toArray, List.set_cons_zero, List.set_cons_succ]
        go_upto_region 8 with fail
        refine wp_region_fromM (fun W => Sep w [] [.blk N14 36 (evc (foundE (firstE l key 6))), .blk N10 36 (evc (foundE (firstE l key 5))), .blk N6 33 (txc (foundE (firstE l key 4)).tx)] W) hM ?_
        clear hM
        rintro Y23 hM
        refine tF 4 [.val 0 (some 88) (.bool false), .val 1 (some 89) (.bool false), .load 2 (some 90) 33 (pt N6 0) (txv (foundE (firstE l key 4)).tx), .val 3 (some 91) (txv noT)] ⟨load_part (hM.at 2 rfl) 0 (txc (foundE (firstE l key 4)).tx) rfl _ _ Try.underlying33 rfl (by kernel_rfl), trivial⟩ ?_
        refine eqA (.tmp 90) (.tmp 91) 33 (some 92) (txc (foundE (firstE l key 4)).tx).toArray (txc noT).toArray true (Eq.trans (run_eqT (foundE (firstE l key 4)).tx noT _) (congrArg (fun z => Result.ok z _) ((by rw [found_no Hhb1.out]; exact eqT_refl _)))) ?_
        refine tF 35 [.val 5 (some 93) (.bool true), .val 6 (some 94) (.bool true), .val 7 (some 95) (.bool true), .val 8 (some 96) (.bool true), .skip 9 (some 97), .skip 10 (some 98), .skip 11 (some 99), .val 12 (some 100) (.bool true), .val 13 (some 101) (.bool true), .val 14 (some 102) (.bool true), .val 15 (some 103) (.bool true), .val 16 (some 104) (.bool true), .skip 17 (some 105), .skip 18 (some 106), .skip 19 (some 107), .val 20 (some 108) (.bool true), .val 21 (some 109) (.bool true), .val 22 (some 110) (.bool true), .val 23 (some 111) (.string key), .alt 24 (some 112) (.bool (!(key.toList == ([] : List UInt8)))) (.bool true), .val 25 (some 113) (.bool true), .skip 26 (some 114), .skip 27 (some 115), .skip 28 (some 116), .skip 29 (some 117), .skip 30 (some 118), .skip 31 (some 119), .skip 32 (some 120), .skip 33 (some 121), .skip 34 (some 122)] ⟨congrArg Value.bool ((not_nilB HFa6.out)), trivial⟩ ?_
        refine tF 39 [.skip 35 (some 123), .val 36 (some 124) (.bool true), .val 37 (some 125) (.bool true), .val 38 (some 4) (.bool true)] trivial ?_
        refine dF ?_
        try simp only [puts, Tk.put, Act.put, List.setIfInBounds_toArray, List.set_cons_zero, List.set_cons_succ]
        go_wp2_with fail
        go_ret
        exact ⟨rfl, hM.b⟩
  | true =>
    have Hhb1 := Lib.hid hb1
    clear hb1
    obtain ⟨hf1, hf2, hf3, hf4⟩ := found_is Hhb1.out
    have HFa4 := Lib.hid hf1
    have HFb4 := Lib.hid hf2
    have HFc4 := Lib.hid hf3
    have HFd4 := Lib.hid hf4
    clear hf1 hf2 hf3 hf4
    refine tF 4 [.val 2 (some 33) (pt N6 8), .load 3 (some 34) 29 (pt N6 8) (ivv (foundE (firstE l key 4)).tx.iv)] ⟨load_part (hM.at 2 rfl) 8 (ivc (foundE (firstE l key 4)).tx.iv) rfl _ _ Try.underlying29 rfl (by kernel_rfl), trivial⟩ ?_
    refine cF (some 35) 7 #[ivv (foundE (firstE l key 4)).tx.iv] ((key_any (foundE (firstE l key 4)).tx.iv _).mono ?_)
    rintro e Y24 ⟨rfl, hb⟩
    replace hM := hM.below hb
    clear hb
    refine tF 16 [.val 5 (some 36) (.string key), .alt 6 (some 37) (.bool (!((keyB (foundE (firstE l key 4)).tx.iv).toList == key.toList))) (.bool false), .val 7 (some 38) (.bool false), .val 8 (some 39) (pt N6 2), .load 9 (some 40) 3 (pt N6 2) (.int .i64 (foundE (firstE l key 4)).tx.kd), .alt 10 (some 41) (.bool ((foundE (firstE l key 4)).tx.kd != 4)) (.bool false), .val 11 (some 42) (.bool false), .val 12 (some 43) (.bool false), .val 13 (some 44) (.bool false), .val 14 (some 45) (.bool (firstE l key 5).isSome), .val 15 (some 46) (.bool (firstE l key 5).isSome)] ⟨congrArg Value.bool (not_beqS HFd4.out), ld_any _ _ Try.underlying3 rfl (hM.at 2 rfl) 2 rfl, congrArg Value.bool (bne_eq HFc4.out), trivial⟩ ?_
    cases hb6 : (firstE l key 5).isSome with
    | false =>
      have Hhb6 := Lib.hid hb6
      clear hb6
      refine tF 19 [.skip 16 (some 47), .skip 17 (some 48), .skip 18 (some 49)] trivial ?_
      refine wpFrom_not (d := some 50) (by kernel_rfl) ?_
      refine tF 38 [.skip 20 (some 51), .skip 21 (some 52), .skip 22 (some 53), .skip 23 (some 54), .skip 24 (some 55), .skip 25 (some 56), .skip 26 (some 57), .skip 27 (some 58), .skip 28 (some 59), .skip 29 (some 60), .skip 30 (some 61), .skip 31 (some 62), .skip 32 (some 63), .val 33 (some 64) (.bool false), .val 34 (some 65) (.bool false), .val 35 (some 66) (.bool false), .val 36 (some 67) (.bool (firstE l key 6).isSome), .val 37 (some 68) (.bool (firstE l key 6).isSome)] trivial ?_
      cases hb7 : (firstE l key 6).isSome with
      | false =>
        have Hhb7 := Lib.hid hb7
        clear hb7
        refine tF 41 [.skip 38 (some 69), .skip 39 (some 70), .skip 40 (some 71)] trivial ?_
        refine wpFrom_not (d := some 72) (by kernel_rfl) ?_
        refine tF 57 [.skip 42 (some 73), .skip 43 (some 74), .skip 44 (some 75), .skip 45 (some 76), .skip 46 (some 77), .skip 47 (some 78), .skip 48 (some 79), .skip 49 (some 80), .skip 50 (some 81), .skip 51 (some 82), .skip 52 (some 83), .skip 53 (some 84), .skip 54 (some 85), .val 55 (some 86) (.bool false), .val 56 (some 87) (.bool false)] trivial ?_
        refine dF ?_
        try simp only [puts, Tk.put, Act.put, List.setIfInBounds_toArray, List.set_cons_zero, List.set_cons_succ]
        go_upto_region 8 with fail
        refine wp_region_fromM (fun W => Sep w [] [.blk N14 36 (evc (foundE (firstE l key 6))), .blk N10 36 (evc (foundE (firstE l key 5))), .blk N6 33 (txc (foundE (firstE l key 4)).tx)] W) hM ?_
        clear hM
        rintro Y25 hM
        refine tF 11 [.val 0 (some 88) (.bool true), .val 1 (some 89) (.bool true), .skip 2 (some 90), .skip 3 (some 91), .skip 4 (some 92), .val 5 (some 93) (.bool true), .val 6 (some 94) (.bool true), .val 7 (some 95) (.bool false), .val 8 (some 96) (.bool false), .load 9 (some 97) 36 (pt N10 0) (evv (foundE (firstE l key 5))), .val 10 (some 98) (evv noE)] ⟨load_part (hM.at 1 rfl) 0 (evc (foundE (firstE l key 5))) rfl _ _ Try.underlying36 rfl (by kernel_rfl), trivial⟩ ?_
        refine eqA (.tmp 97) (.tmp 98) 36 (some 99) (evc (foundE (firstE l key 5))).toArray (evc noE).toArray true (Eq.trans (run_eqE (foundE (firstE l key 5)) noE _) (congrArg (fun z => Result.ok z _) ((by rw [found_no Hhb6.out]; exact eqE_refl _)))) ?_
        refine tF 19 [.val 12 (some 100) (.bool true), .val 13 (some 101) (.bool true), .val 14 (some 102) (.bool true), .val 15 (some 103) (.bool false), .val 16 (some 104) (.bool false), .load 17 (some 105) 36 (pt N14 0) (evv (foundE (firstE l key 6))), .val 18 (some 106) (evv noE)] ⟨load_part (hM.at 0 rfl) 0 (evc (foundE (firstE l key 6))) rfl _ _ Try.underlying36 rfl (by kernel_rfl), trivial⟩ ?_
        refine eqA (.tmp 105) (.tmp 106) 36 (some 107) (evc (foundE (firstE l key 6))).toArray (evc noE).toArray true (Eq.trans (run_eqE (foundE (firstE l key 6)) noE _) (congrArg (fun z => Result.ok z _) ((by rw [found_no Hhb7.out]; exact eqE_refl _)))) ?_
        refine tF 39 [.val 20 (some 108) (.bool true), .val 21 (some 109) (.bool true), .val 22 (some 110) (.bool true), .val 23 (some 111) (.string key), .alt 24 (some 112) (.bool (!(key.toList == ([] : List UInt8)))) (.bool true), .val 25 (some 113) (.bool true), .skip 26 (some 114), .skip 27 (some 115), .skip 28 (some 116), .skip 29 (some 117), .skip 30 (some 118), .skip 31 (some 119), .skip 32 (some 120), .skip 33 (some 121), .skip 34 (some 122), .skip 35 (some 123), .val 36 (some 124) (.bool true), .val 37 (some 125) (.bool true), .val 38 (some 4) (.bool true)] ⟨congrArg Value.bool ((not_nilB HFa4.out)), trivial⟩ ?_
        refine dF ?_
        try simp only [puts, Tk.put, Act.put, List.setIfInBounds_toArray, List.set_cons_zero, List.set_cons_succ]
        go_wp2_with fail
        go_ret
        exact ⟨rfl, hM.b⟩
      | true =>
        have Hhb7 := Lib.hid hb7
        clear hb7
        obtain ⟨hf1, hf2, hf3, hf4⟩ := found_is Hhb7.out
        have HFa6 := Lib.hid hf1
        have HFb6 := Lib.hid hf2
        have HFc6 := Lib.hid hf3
        have HFd6 := Lib.hid hf4
        clear hf1 hf2 hf3 hf4
        refine tF 41 [.val 38 (some 69) (pt N14 2), .val 39 (some 70) (pt N14 10), .load 40 (some 71) 29 (pt N14 10) (ivv (foundE (firstE l key 6)).tx.iv)] ⟨load_part (hM.at 0 rfl) 10 (ivc (foundE (firstE l key 6)).tx.iv) rfl _ _ Try.underlying29 rfl (by kernel_rfl), trivial⟩ ?_
        refine cF (some 72) 7 #[ivv (foundE (firstE l key 6)).tx.iv] ((key_any (foundE (firstE l key 6)).tx.iv _).mono ?_)
        rintro e Y26 ⟨rfl, hb⟩
        replace hM := hM.below hb
        clear hb
        refine tF 57 [.val 42 (some 73) (.string key), .alt 43 (some 74) (.bool (!((keyB (foundE (firstE l key 6)).tx.iv).toList == key.toList))) (.bool false), .val 44 (some 75) (.bool false), .val 45 (some 76) (pt N14 2), .val 46 (some 77) (pt N14 4), .load 47 (some 78) 3 (pt N14 4) (.int .i64 (foundE (firstE l key 6)).tx.kd), .alt 48 (some 79) (.bool ((foundE (firstE l key 6)).tx.kd != 6)) (.bool false), .val 49 (some 80) (.bool false), .val 50 (some 81) (.bool false), .val 51 (some 82) (pt N14 1), .load 52 (some 83) 34 (pt N14 1) (.int .i64 (foundE (firstE l key 6)).cd), .alt 53 (some 84) (.bool ((foundE (firstE l key 6)).cd != 0)) (.bool false), .val 54 (some 85) (.bool false), .val 55 (some 86) (.bool false), .val 56 (some 87) (.bool false)] ⟨congrArg Value.bool (not_beqS HFd6.out), ld_any _ _ Try.underlying3 rfl (hM.at 0 rfl) 4 rfl, congrArg Value.bool (bne_eq HFc6.out), ld_any _ _ Try.underlying34 rfl (hM.at 0 rfl) 1 rfl, congrArg Value.bool (bne_eq HFb6.out), trivial⟩ ?_
        refine dF ?_
        try simp only [puts, Tk.put, Act.put, List.setIfInBounds_toArray, List.set_cons_zero, List.set_cons_succ]
        go_upto_region 8 with fail
        refine wp_region_fromM (fun W => Sep w [] [.blk N14 36 (evc (foundE (firstE l key 6))), .blk N10 36 (evc (foundE (firstE l key 5))), .blk N6 33 (txc (foundE (firstE l key 4)).tx)] W) hM ?_
        clear hM
        rintro Y27 hM
        refine tF 11 [.val 0 (some 88) (.bool true), .val 1 (some 89) (.bool true), .skip 2 (some 90), .skip 3 (some 91), .skip 4 (some 92), .val 5 (some 93) (.bool true), .val 6 (some 94) (.bool true), .val 7 (some 95) (.bool false), .val 8 (some 96) (.bool false), .load 9 (some 97) 36 (pt N10 0) (evv (foundE (firstE l key 5))), .val 10 (some 98) (evv noE)] ⟨load_part (hM.at 1 rfl) 0 (evc (foundE (firstE l key 5))) rfl _ _ Try.underlying36 rfl (by kernel_rfl), trivial⟩ ?_
        refine eqA (.tmp 97) (.tmp 98) 36 (some 99) (evc (foundE (firstE l key 5))).toArray (evc noE).toArray true (Eq.trans (run_eqE (foundE (firstE l key 5)) noE _) (congrArg (fun z => Result.ok z _) ((by rw [found_no Hhb6.out]; exact eqE_refl _)))) ?_
        refine tF 39 [.val 12 (some 100) (.bool true), .val 13 (some 101) (.bool true), .val 14 (some 102) (.bool true), .val 15 (some 103) (.bool true), .val 16 (some 104) (.bool true), .skip 17 (some 105), .skip 18 (some 106), .skip 19 (some 107), .val 20 (some 108) (.bool true), .val 21 (some 109) (.bool true), .val 22 (some 110) (.bool true), .val 23 (some 111) (.string key), .alt 24 (some 112) (.bool (!(key.toList == ([] : List UInt8)))) (.bool true), .val 25 (some 113) (.bool true), .skip 26 (some 114), .skip 27 (some 115), .skip 28 (some 116), .skip 29 (some 117), .skip 30 (some 118), .skip 31 (some 119), .skip 32 (some 120), .skip 33 (some 121), .skip 34 (some 122), .skip 35 (some 123), .val 36 (some 124) (.bool true), .val 37 (some 125) (.bool true), .val 38 (some 4) (.bool true)] ⟨congrArg Value.bool ((not_nilB HFa6.out)), trivial⟩ ?_
        refine dF ?_
        try simp only [puts, Tk.put, Act.put, List.setIfInBounds_toArray, List.set_cons_zero, List.set_cons_succ]
        go_wp2_with fail
        go_ret
        exact ⟨rfl, hM.b⟩
    | true =>
      have Hhb6 := Lib.hid hb6
      clear hb6
      obtain ⟨hf1, hf2, hf3, hf4⟩ := found_is Hhb6.out
      have HFa5 := Lib.hid hf1
      have HFb5 := Lib.hid hf2
      have HFc5 := Lib.hid hf3
      have HFd5 := Lib.hid hf4
      clear hf1 hf2 hf3 hf4
      refine tF 19 [.val 16 (some 47) (pt N10 2), .val 17 (some 48) (pt N10 10), .load 18 (some 49) 29 (pt N10 10) (ivv (foundE (firstE l key 5)).tx.iv)] ⟨load_part (hM.at 1 rfl) 10 (ivc (foundE (firstE l key 5)).tx.iv) rfl _ _ Try.underlying29 rfl (by kernel_rfl), trivial⟩ ?_
      refine cF (some 50) 7 #[ivv (foundE (firstE l key 5)).tx.iv] ((key_any (foundE (firstE l key 5)).tx.iv _).mono ?_)
      rintro e Y28 ⟨rfl, hb⟩
      replace hM := hM.below hb
      clear hb
      refine tF 38 [.val 20 (some 51) (.string key), .alt 21 (some 52) (.bool (!((keyB (foundE (firstE l key 5)).tx.iv).toList == key.toList))) (.bool false), .val 22 (some 53) (.bool false), .val 23 (some 54) (pt N10 2), .val 24 (some 55) (pt N10 4), .load 25 (some 56) 3 (pt N10 4) (.int .i64 (foundE (firstE l key 5)).tx.kd), .alt 26 (some 57) (.bool ((foundE (firstE l key 5)).tx.kd != 5)) (.bool false), .val 27 (some 58) (.bool false), .val 28 (some 59) (.bool false), .val 29 (some 60) (pt N10 1), .load 30 (some 61) 34 (pt N10 1) (.int .i64 (foundE (firstE l key 5)).cd), .alt 31 (some 62) (.bool ((foundE (firstE l key 5)).cd != 0)) (.bool false), .val 32 (some 63) (.bool false), .val 33 (some 64) (.bool false), .val 34 (some 65) (.bool false), .val 35 (some 66) (.bool false), .val 36 (some 67) (.bool (firstE l key 6).isSome), .val 37 (some 68) (.bool (firstE l key 6).isSome)] ⟨congrArg Value.bool (not_beqS HFd5.out), ld_any _ _ Try.underlying3 rfl (hM.at 1 rfl) 4 rfl, congrArg Value.bool (bne_eq HFc5.out), ld_any _ _ Try.underlying34 rfl (hM.at 1 rfl) 1 rfl, congrArg Value.bool (bne_eq HFb5.out), trivial⟩ ?_
      cases hb8 : (firstE l key 6).isSome with
      | false =>
        have Hhb8 := Lib.hid hb8
        clear hb8
        refine tF 41 [.skip 38 (some 69), .skip 39 (some 70), .skip 40 (some 71)] trivial ?_
        refine wpFrom_not (d := some 72) (by kernel_rfl) ?_
        refine tF 57 [.skip 42 (some 73), .skip 43 (some 74), .skip 44 (some 75), .skip 45 (some 76), .skip 46 (some 77), .skip 47 (some 78), .skip 48 (some 79), .skip 49 (some 80), .skip 50 (some 81), .skip 51 (some 82), .skip 52 (some 83), .skip 53 (some 84), .skip 54 (some 85), .val 55 (some 86) (.bool false), .val 56 (some 87) (.bool false)] trivial ?_
        refine dF ?_
        try simp only [puts, Tk.put, Act.put, List.setIfInBounds_toArray, List.set_cons_zero, List.set_cons_succ]
        go_upto_region 8 with fail
        refine wp_region_fromM (fun W => Sep w [] [.blk N14 36 (evc (foundE (firstE l key 6))), .blk N10 36 (evc (foundE (firstE l key 5))), .blk N6 33 (txc (foundE (firstE l key 4)).tx)] W) hM ?_
        clear hM
        rintro Y29 hM
        refine tF 19 [.val 0 (some 88) (.bool true), .val 1 (some 89) (.bool true), .skip 2 (some 90), .skip 3 (some 91), .skip 4 (some 92), .val 5 (some 93) (.bool true), .val 6 (some 94) (.bool true), .val 7 (some 95) (.bool true), .val 8 (some 96) (.bool true), .skip 9 (some 97), .skip 10 (some 98), .skip 11 (some 99), .val 12 (some 100) (.bool true), .val 13 (some 101) (.bool true), .val 14 (some 102) (.bool true), .val 15 (some 103) (.bool false), .val 16 (some 104) (.bool false), .load 17 (some 105) 36 (pt N14 0) (evv (foundE (firstE l key 6))), .val 18 (some 106) (evv noE)] ⟨load_part (hM.at 0 rfl) 0 (evc (foundE (firstE l key 6))) rfl _ _ Try.underlying36 rfl (by kernel_rfl), trivial⟩ ?_
        refine eqA (.tmp 105) (.tmp 106) 36 (some 107) (evc (foundE (firstE l key 6))).toArray (evc noE).toArray true (Eq.trans (run_eqE (foundE (firstE l key 6)) noE _) (congrArg (fun z => Result.ok z _) ((by rw [found_no Hhb8.out]; exact eqE_refl _)))) ?_
        refine tF 39 [.val 20 (some 108) (.bool true), .val 21 (some 109) (.bool true), .val 22 (some 110) (.bool true), .val 23 (some 111) (.string key), .alt 24 (some 112) (.bool (!(key.toList == ([] : List UInt8)))) (.bool true), .val 25 (some 113) (.bool true), .skip 26 (some 114), .skip 27 (some 115), .skip 28 (some 116), .skip 29 (some 117), .skip 30 (some 118), .skip 31 (some 119), .skip 32 (some 120), .skip 33 (some 121), .skip 34 (some 122), .skip 35 (some 123), .val 36 (some 124) (.bool true), .val 37 (some 125) (.bool true), .val 38 (some 4) (.bool true)] ⟨congrArg Value.bool ((not_nilB HFa5.out)), trivial⟩ ?_
        refine dF ?_
        try simp only [puts, Tk.put, Act.put, List.setIfInBounds_toArray, List.set_cons_zero, List.set_cons_succ]
        go_wp2_with fail
        go_ret
        exact ⟨rfl, hM.b⟩
      | true =>
        have Hhb8 := Lib.hid hb8
        clear hb8
        obtain ⟨hf1, hf2, hf3, hf4⟩ := found_is Hhb8.out
        have HFa6 := Lib.hid hf1
        have HFb6 := Lib.hid hf2
        have HFc6 := Lib.hid hf3
        have HFd6 := Lib.hid hf4
        clear hf1 hf2 hf3 hf4
        refine tF 41 [.val 38 (some 69) (pt N14 2), .val 39 (some 70) (pt N14 10), .load 40 (some 71) 29 (pt N14 10) (ivv (foundE (firstE l key 6)).tx.iv)] ⟨load_part (hM.at 0 rfl) 10 (ivc (foundE (firstE l key 6)).tx.iv) rfl _ _ Try.underlying29 rfl (by kernel_rfl), trivial⟩ ?_
        refine cF (some 72) 7 #[ivv (foundE (firstE l key 6)).tx.iv] ((key_any (foundE (firstE l key 6)).tx.iv _).mono ?_)
        rintro e Y30 ⟨rfl, hb⟩
        replace hM := hM.below hb
        clear hb
        refine tF 57 [.val 42 (some 73) (.string key), .alt 43 (some 74) (.bool (!((keyB (foundE (firstE l key 6)).tx.iv).toList == key.toList))) (.bool false), .val 44 (some 75) (.bool false), .val 45 (some 76) (pt N14 2), .val 46 (some 77) (pt N14 4), .load 47 (some 78) 3 (pt N14 4) (.int .i64 (foundE (firstE l key 6)).tx.kd), .alt 48 (some 79) (.bool ((foundE (firstE l key 6)).tx.kd != 6)) (.bool false), .val 49 (some 80) (.bool false), .val 50 (some 81) (.bool false), .val 51 (some 82) (pt N14 1), .load 52 (some 83) 34 (pt N14 1) (.int .i64 (foundE (firstE l key 6)).cd), .alt 53 (some 84) (.bool ((foundE (firstE l key 6)).cd != 0)) (.bool false), .val 54 (some 85) (.bool false), .val 55 (some 86) (.bool false), .val 56 (some 87) (.bool false)] ⟨congrArg Value.bool (not_beqS HFd6.out), ld_any _ _ Try.underlying3 rfl (hM.at 0 rfl) 4 rfl, congrArg Value.bool (bne_eq HFc6.out), ld_any _ _ Try.underlying34 rfl (hM.at 0 rfl) 1 rfl, congrArg Value.bool (bne_eq HFb6.out), trivial⟩ ?_
        refine dF ?_
        try simp only [puts, Tk.put, Act.put, List.setIfInBounds_toArray, List.set_cons_zero, List.set_cons_succ]
        go_upto_region 8 with fail
        refine wp_region_fromM (fun W => Sep w [] [.blk N14 36 (evc (foundE (firstE l key 6))), .blk N10 36 (evc (foundE (firstE l key 5))), .blk N6 33 (txc (foundE (firstE l key 4)).tx)] W) hM ?_
        clear hM
        rintro Y31 hM
        refine tF 30 [.val 0 (some 88) (.bool true), .val 1 (some 89) (.bool true), .skip 2 (some 90), .skip 3 (some 91), .skip 4 (some 92), .val 5 (some 93) (.bool true), .val 6 (some 94) (.bool true), .val 7 (some 95) (.bool true), .val 8 (some 96) (.bool true), .skip 9 (some 97), .skip 10 (some 98), .skip 11 (some 99), .val 12 (some 100) (.bool true), .val 13 (some 101) (.bool true), .val 14 (some 102) (.bool true), .val 15 (some 103) (.bool true), .val 16 (some 104) (.bool true), .skip 17 (some 105), .skip 18 (some 106), .skip 19 (some 107), .val 20 (some 108) (.bool true), .val 21 (some 109) (.bool true), .val 22 (some 110) (.bool true), .val 23 (some 111) (.string key), .alt 24 (some 112) (.bool (!(key.toList == ([] : List UInt8)))) (.bool true), .val 25 (some 113) (.bool true), .skip 26 (some 114), .skip 27 (some 115), .skip 28 (some 116), .skip 29 (some 117)] ⟨congrArg Value.bool ((not_nilB HFa6.out)), trivial⟩ ?_
        refine tF 39 [.skip 30 (some 118), .skip 31 (some 119), .skip 32 (some 120), .skip 33 (some 121), .skip 34 (some 122), .skip 35 (some 123), .val 36 (some 124) (.bool true), .val 37 (some 125) (.bool true), .val 38 (some 4) (.bool true)] trivial ?_
        refine dF ?_
        try simp only [puts, Tk.put, Act.put, List.setIfInBounds_toArray, List.set_cons_zero, List.set_cons_succ]
        go_wp2_with fail
        go_ret
        exact ⟨rfl, hM.b⟩
end Go.Proofs.Ythbpidekfocioaa
namespace Go.Proofs.Ythbpidekfocioaa
open Go.ChangeShapes Go.WideShapes Go.ChangeAt Go.RowKit Go.Deep
open Go.ChangeMaps (open_string)
set_option maxRecDepth 100000 in
theorem scanOnce_lifted (os : Os) (started : os.Started) (H : Type) (enc : TypeId × Value → H) :
    ReturnsInHanded {} Try.checked os 5 .any (Rows.scanOnceSpec.pre6 enc Try.prog Try.f5 Rows.scanOnceRow.domain false) (Rows.scanOnceSpec.post enc Try.prog Try.f5 false true false false) := by
  refine returnsInHanded_of_change_sized (C := Try.checked) Try.own started (by kernel_rfl) Try.func5
    (ChangeSpec.witness6 (enc := enc) (C := Try.checked) false ⟨#[], #[.slice none 0 0, .string ⟨#[]⟩], []⟩ 8 (by kernel_rfl) (by kernel_rfl) (by kernel_rfl) (by kernel_rfl)) ?_
  intro W base args ds gs before hval0 hW hcnd hsz0 _
  have hval : ∀ (j : Nat) t v, Try.f5.params[j]? = some t → args[j]? = some v → Value.okWide Try.prog W .any base t v := hval0
  have hW' := hW
  obtain ⟨p, q, hA0, hV, rfl, hfz, hnd⟩ := hW
  have hA : DataW.TrodAll enc Try.prog W 0 (fun _ => true) true Try.f5.params.toList args.toList ds p := hA0
  have hsz : (DataW.weightsEach Try.prog (Try.f5.params.toList ++ Rows.scanOnceSpec.plain.varTypes Try.prog) (ds ++ gs)).all (· ≤ reachBytes) = true := hsz0
  rw [Try.params5] at hA hval hsz
  obtain ⟨v0, v1, d0, d1, p0, p1, rfl, rfl, rfl, h0, h1⟩ := trodAll_two hA
  obtain ⟨rfl, rfl⟩ := trodVars_none hV
  obtain ⟨a0, len0, cap0, rfl⟩ := okWide_slice Try.underlying22 (hval 0 22 v0 rfl rfl)
  have k0 := h0
  have k1 := h1
  have lt0 : ∀ x ∈ p0, x.block < W.heap.size := by obtain ⟨m, hm⟩ := k0; exact DataW.trod_lt m _ _ _ hm
  have lt1 : ∀ x ∈ p1, x.block < W.heap.size := by obtain ⟨m, hm⟩ := k1; exact DataW.trod_lt m _ _ _ hm
  obtain ⟨l0, hsl0, hok0, hln0⟩ := open_evn h0 (fun n hn => sized_in hsz (j := 0) (t := 22) rfl rfl n hn)
  obtain ⟨s1, rfl, ds1, _, _⟩ := open_string Try.underlying9 (hval 1 9 v1 rfl rfl) h1
  have hs1 : s1.size ≤ 140737488351232 := by
    have := sized_string hsz (j := 1) (t := 9) (bytes := s1.data.toList) rfl (by rw [ds1]; rfl)
    simp only [reachBytes] at this
    exact this
  clear hA0 hval0
  refine (scanOnce_any s1 l0 _ W hsl0 (Nat.le_refl _)).mono fun e W' ⟨he, bel⟩ => ?_
  subst he
  exact ⟨_, rfl, _, _, _, [], _, [], hW', trodAll_mk1 (shut_bool Try.underlying4 _), (trodAll_mk2 (Below.trod Try.laidOut (by kernel_rfl) (of_decide_eq_true (by kernel_rfl)) k0 bel lt0) (Below.trod Try.laidOut (by kernel_rfl) (of_decide_eq_true (by kernel_rfl)) k1 bel lt1)), rfl, bel.frame _, fun h => by cases h⟩
theorem scanOnce_over : Rows.scanOnceRow.holds Try.pinned (OpenSpec.ofChange Rows.scanOnceSpec) :=
  OpenClaim.holds_of_wide 5 Try.f5 rfl rfl rfl rfl rfl rfl rfl ⟨rfl, rfl, rfl, rfl, rfl⟩ rfl rfl rfl rfl rfl (by kernel_rfl) Try.func5 (by kernel_rfl)
    (of_decide_eq_true (by kernel_rfl)) (by unfold Func.isWrapper; first | (rw [if_pos (by decide +kernel)]; kernel_rfl) | (rw [if_neg (by decide +kernel)]; exact ⟨rfl, rfl⟩))
    (fun os started H enc _ => scanOnce_lifted os started H enc)
theorem scanOnce_proved : Rows.ScanOnceSaid := scanOnce_over
end Go.Proofs.Ythbpidekfocioaa
