/-
  ScanTells answers true at every input, and leaves its arguments as they are.
-/
import Derived.Deep.Slices
import Derived.SizedLaws
import Derived.Carry
import Derived.ChangeMaps5
import Derived.Test.YthbpidekfocioaaK08
namespace Go.Proofs.Ythbpidekfocioaa
open Go.RowKit Go.Shelf
attribute [local irreducible] wpFrom wpAnyH StepH
theorem isD_b {x : Ev} {k : Int} {a b : Bool} (h1 : decide (x.cd = 0) = a) (h2 : decide (x.tx.kd = k) = b) : isD k x = (a && b) := by unfold isD; rw [h1, h2]
theorem isD_n {x : Ev} {k : Int} (h1 : decide (x.cd = 0) = false) : isD k x = false := by unfold isD; rw [h1]; rfl
theorem filD {l : List Ev} {j : Nat} {x : Ev} {p : Ev → Bool} (hx : l[j]? = some x) (h : p x = false) : (l.take (j + 1)).filter p = (l.take j).filter p := by rw [take_filG hx, if_neg (by rw [h]; decide), List.append_nil]
theorem filT {l : List Ev} {j : Nat} {x : Ev} {p : Ev → Bool} (hx : l[j]? = some x) (h : p x = true) : (l.take (j + 1)).filter p = (l.take j).filter p ++ [x] := by rw [take_filG hx, if_pos h]
theorem mapT {l : List Ev} {j : Nat} {x : Ev} {p : Ev → Bool} (hx : l[j]? = some x) (h : p x = true) : ((l.take (j + 1)).filter p).map Ev.tx = ((l.take j).filter p).map Ev.tx ++ [x.tx] := by rw [filT hx h, List.map_append]; rfl
theorem mapD {l : List Ev} {j : Nat} {x : Ev} {p : Ev → Bool} (hx : l[j]? = some x) (h : p x = false) : ((l.take (j + 1)).filter p).map Ev.tx = ((l.take j).filter p).map Ev.tx := by rw [filD hx h]
set_option maxRecDepth 100000 in
set_option maxHeartbeats 4000000 in
theorem scanTells_any (a c : Int) (l : List Ev) (v : Value) (w : World) {lo hi : Nat} (hl : RSl evc lo hi w v l) (hhi : hi ≤ w.heap.size) (hr : l.length * 240 ≤ 140737488355328) : Calls Try.prog 3 #[v, .int .i64 a, .int .i64 c] w fun e W' => e = .returned (.bool true) ∧ Below w.heap.size w W' := by
  have hmx : Try.prog.follows .mixedOrders = true := by kernel_rfl
  have HEl := Lib.hid (fun k x (hx : l[k]? = some x) => hl.elem evc_len hx Try.underlying22 (fun W => by kernel_rfl))
  obtain ⟨pl, cl, rfl⟩ := hl.slice
  have HLl := Lib.hid hl
  have HHl := Lib.hid hhi
  have HLENl := Lib.hid (show l.length ≤ 9223372036854775807 from by have h := hl.len; unfold maxLen at h; omega)
  clear hl hhi
  have HR := Lib.hid hr
  clear hr
  have hM := Sep.start w
  have HL60 := Lib.hid (show l.length ≤ 4611686018427387903 by have h := HR.out; omega)
  go_enter Try.func3, Try.ntmps3
  go_upto_region 0 with fail
  refine wp_region_fromM (fun W => Sep w [] [] W) hM ?_
  clear hM
  rintro Y1 hM
  refine tF 1 [.val 0 (some 6) (.bool false)] trivial ?_
  refine dF ?_
  try simp only [puts, Tk.put, Act.put, List.setIfInBounds_toArray, List.set_cons_zero, List.set_cons_succ]
  go_upto_region 1 with fail
  refine wp_region_fromM (fun W => Sep w [] [] W) hM ?_
  clear hM
  rintro Y2 hM
  refine cF (some 29) 6 #[] ((alive14_any _).mono ?_)
  rintro e Y3 ⟨rfl, hb⟩
  replace hM := hM.below hb
  clear hb
  refine tF 2 [.val 1 (some 30) (.bool false)] trivial ?_
  refine dF ?_
  try simp only [puts, Tk.put, Act.put, List.setIfInBounds_toArray, List.set_cons_zero, List.set_cons_succ]
  go_upto_region 3 with fail
  refine wp_region_fromM (fun W => Sep w [] [] W) hM ?_
  clear hM
  rintro Y4 hM
  refine tF 1 [.val 0 (some 7) (.string ⟨#[110, 111, 110, 101]⟩)] trivial ?_
  refine dF ?_
  try simp only [puts, Tk.put, Act.put, List.setIfInBounds_toArray, List.set_cons_zero, List.set_cons_succ]
  go_upto_region 4 with fail
  refine wp_region_fromM (fun W => Sep w [] [] W) hM ?_
  clear hM
  rintro Y5 hM
  refine tF 3 [.val 0 (some 31) (.slice pl l.length cl), .val 1 (some 32) (.int .i64 (l.length : Int)), .val 2 (some 8) (.int .i64 (l.length : Int))] trivial ?_
  refine dF ?_
  try simp only [puts, Tk.put, Act.put, List.setIfInBounds_toArray, List.set_cons_zero, List.set_cons_succ]
  go_upto_region 5 with fail
  refine wp_region_fromM (fun W => Sep w [] [] W) hM ?_
  clear hM
  rintro Y6 hM
  refine tF 2 [.val 0 (some 33) (.int .i64 (l.length : Int)), .val 1 (some 34) (.bool (decide (0 < (l.length : Int))))] trivial ?_
  refine dF ?_
  try simp only [puts, Tk.put, Act.put, List.setIfInBounds_toArray, List.set_cons_zero, List.set_cons_succ]
  go_upto_if 34 with fail
  go_cut [7, 34] (fun u7 u34 wc => ∃ (s : ByteArray) (b : Bool), u7 = .string s ∧ u34 = .bool b ∧ Sep w [] [] wc)
  case first =>
    cases hb1 : decide (0 < (l.length : Int)) with
    | false =>
      have Hhb1 := Lib.hid hb1
      clear hb1
      go_wp2_with fail
      go_meet
      exact ⟨_, _, rfl, rfl, hM⟩
    | true =>
      have Hhb1 := Lib.hid hb1
      clear hb1
      have hn : 0 < l.length := by have h := of_decide_eq_true Hhb1.out; omega
      have HN0 := Lib.hid (show (l.length : Int) ≠ 0 by omega)
      have HAT := Lib.hid (atC_eq a hn)
      have HSM := Lib.hid (atC_sum a hn HL60.out)
      obtain ⟨x, hx⟩ : ∃ x, l[(atC a l.length)]? = some x := ⟨_, List.getElem?_eq_getElem (atC_lt a hn)⟩
      obtain ⟨bl, ol, _, _, hit, hct⟩ := HEl.out (atC a l.length) x hx
      have HXl := Lib.hid hx
      have HIl := Lib.hid hit
      have HCl := Lib.hid hct
      clear hx hit hct
      clear hn
      go_upto_region 6 with fail
      refine wp_region_fromM (fun W => Sep w [] [] W) hM ?_
      clear hM
      rintro Y7 hM
      refine tF 3 [.val 0 (some 35) (.slice pl l.length cl), .val 1 (some 36) (.int .i64 a), .val 2 (some 37) (.int .i64 (l.length : Int))] trivial ?_
      refine remF (.tmp 36) (.tmp 37) 3 3 (some 38) a (l.length : Int) (Int.tmod a (l.length : Int)) HN0.out rfl ?_
      refine tF 7 [.val 4 (some 39) (.int .i64 (l.length : Int)), .alt 5 (some 40) (.int .i64 (IntKind.i64.wrap ((Int.tmod a (l.length : Int)) + (l.length : Int)))) (.int .i64 (Int.tmod a (l.length : Int) + (l.length : Int))), .val 6 (some 41) (.int .i64 (l.length : Int))] ⟨congrArg (Value.int .i64) (HSM.out), trivial⟩ ?_
      refine remF (.tmp 40) (.tmp 41) 3 3 (some 42) (Int.tmod a (l.length : Int) + (l.length : Int)) (l.length : Int) ((atC a l.length) : Int) HN0.out HAT.out ?_
      refine tF 12 [.idx 8 (some 43) 22 (.slice pl l.length cl) (.int .i64 ((atC a l.length) : Int)) (pt bl ol), .val 9 (some 44) (pt bl (ol + 2)), .val 10 (some 45) (pt bl (ol + 2 + 8)), .load 11 (some 46) 29 (pt bl (ol + 2 + 8)) (ivv x.tx.iv)] ⟨HIl.out _, ld_cellsAt (HCl.out _ (HLl.out.below hM.b HHl.out)) 10 (ivc x.tx.iv) rfl _ _ Try.underlying29 rfl (by kernel_rfl), trivial⟩ ?_
      refine cF (some 47) 7 #[ivv x.tx.iv] ((key_any x.tx.iv _).mono ?_)
      rintro e Y8 ⟨rfl, hb⟩
      replace hM := hM.below hb
      clear hb
      refine tF 14 [.val 13 (some 7) (.string (keyB x.tx.iv))] trivial ?_
      refine dF ?_
      try simp only [puts, Tk.put, Act.put, List.setIfInBounds_toArray, List.set_cons_zero, List.set_cons_succ]
      go_wp2_with fail
      go_meet
      exact ⟨_, _, rfl, rfl, hM⟩
  case rest =>
    obtain ⟨s, b34, rfl, rfl, hM⟩ := hcut
    go_upto_region 7 with fail
    refine wp_region_fromM (fun W => Sep w [] [] W) hM ?_
    clear hM
    rintro Y9 hM
    refine tF 2 [.val 0 (some 49) (.slice pl l.length cl), .val 1 (some 50) (.string s)] trivial ?_
    refine cF (some 51) 8 #[.slice pl l.length cl, .string s] ((prepared_any s l _ _ (HLl.out.below hM.b HHl.out) (Nat.le_trans HHl.out hM.size)).mono ?_)
    rintro e Y10 ⟨rfl, hb⟩
    replace hM := hM.below hb
    clear hb
    refine tF 6 [.val 3 (some 48) (.tuple #[txv (foundE (firstE l s 4)).tx, .bool (firstE l s 4).isSome]), .val 4 (some 52) (txv (foundE (firstE l s 4)).tx), .val 5 (some 53) (.bool (firstE l s 4).isSome)] trivial ?_
    refine rF (some 9) (pt Y10.heap.size 0) (Y10.alloc (.cells (txc noT).toArray 33)) ?_
    replace hM := hM.alloc 33 (txc noT)
    generalize World.alloc _ _ = Y11 at *
    generalize hNe : Y10.heap.size = N11 at *
    clear hNe
    have hst := sto_part (txc (foundE (firstE l s 4)).tx) (hM.at 0 rfl) 0 33 (txv (foundE (firstE l s 4)).tx) (txc (foundE (firstE l s 4)).tx) rfl (by kernel_rfl) (Nat.le_of_ble_eq_true rfl) rfl rfl
    refine sF 33 (pt N11 0) (txv (foundE (firstE l s 4)).tx) (hst) ?_
    clear hst
    replace hM := hM.set 0 (cs' := txc (foundE (firstE l s 4)).tx) rfl rfl
    generalize World.setRow _ _ _ = Y12 at *
    refine tF 9 [.val 8 (some 10) (.bool (firstE l s 4).isSome)] trivial ?_
    refine dF ?_
    try simp only [puts, Tk.put, Act.put, List.setIfInBounds_toArray, List.set_cons_zero, List.set_cons_succ]
    go_upto_region 8 with fail
    refine wp_region_fromM (fun W => Sep w [] [.blk N11 33 (txc (foundE (firstE l s 4)).tx)] W) hM ?_
    clear hM
    rintro Y13 hM
    refine tF 2 [.val 0 (some 55) (.slice pl l.length cl), .val 1 (some 56) (.string s)] trivial ?_
    refine cF (some 57) 9 #[.slice pl l.length cl, .string s] ((fulfilled_any s l _ _ (HLl.out.below hM.b HHl.out) (Nat.le_trans HHl.out hM.size)).mono ?_)
    rintro e Y14 ⟨rfl, hb⟩
    replace hM := hM.below hb
    clear hb
    refine tF 6 [.val 3 (some 54) (.tuple #[evv (foundE (firstE l s 5)), .bool (firstE l s 5).isSome]), .val 4 (some 58) (evv (foundE (firstE l s 5))), .val 5 (some 59) (.bool (firstE l s 5).isSome)] trivial ?_
    refine rF (some 11) (pt Y14.heap.size 0) (Y14.alloc (.cells (evc noE).toArray 36)) ?_
    replace hM := hM.alloc 36 (evc noE)
    generalize World.alloc _ _ = Y15 at *
    generalize hNe : Y14.heap.size = N15 at *
    clear hNe
    have hst := sto_part (evc (foundE (firstE l s 5))) (hM.at 0 rfl) 0 36 (evv (foundE (firstE l s 5))) (evc (foundE (firstE l s 5))) rfl (by kernel_rfl) (Nat.le_of_ble_eq_true rfl) rfl rfl
    refine sF 36 (pt N15 0) (evv (foundE (firstE l s 5))) (hst) ?_
    clear hst
    replace hM := hM.set 0 (cs' := evc (foundE (firstE l s 5))) rfl rfl
    generalize World.setRow _ _ _ = Y16 at *
    refine tF 9 [.val 8 (some 12) (.bool (firstE l s 5).isSome)] trivial ?_
    refine dF ?_
    try simp only [puts, Tk.put, Act.put, List.setIfInBounds_toArray, List.set_cons_zero, List.set_cons_succ]
    go_upto_region 9 with fail
    refine wp_region_fromM (fun W => Sep w [] [.blk N15 36 (evc (foundE (firstE l s 5))), .blk N11 33 (txc (foundE (firstE l s 4)).tx)] W) hM ?_
    clear hM
    rintro Y17 hM
    refine tF 2 [.val 0 (some 61) (.slice pl l.length cl), .val 1 (some 62) (.string s)] trivial ?_
    refine cF (some 63) 10 #[.slice pl l.length cl, .string s] ((cancelled_any s l _ _ (HLl.out.below hM.b HHl.out) (Nat.le_trans HHl.out hM.size)).mono ?_)
    rintro e Y18 ⟨rfl, hb⟩
    replace hM := hM.below hb
    clear hb
    refine tF 6 [.val 3 (some 60) (.tuple #[evv (foundE (firstE l s 6)), .bool (firstE l s 6).isSome]), .val 4 (some 64) (evv (foundE (firstE l s 6))), .val 5 (some 65) (.bool (firstE l s 6).isSome)] trivial ?_
    refine rF (some 13) (pt Y18.heap.size 0) (Y18.alloc (.cells (evc noE).toArray 36)) ?_
    replace hM := hM.alloc 36 (evc noE)
    generalize World.alloc _ _ = Y19 at *
    generalize hNe : Y18.heap.size = N19 at *
    clear hNe
    have hst := sto_part (evc (foundE (firstE l s 6))) (hM.at 0 rfl) 0 36 (evv (foundE (firstE l s 6))) (evc (foundE (firstE l s 6))) rfl (by kernel_rfl) (Nat.le_of_ble_eq_true rfl) rfl rfl
    refine sF 36 (pt N19 0) (evv (foundE (firstE l s 6))) (hst) ?_
    clear hst
    replace hM := hM.set 0 (cs' := evc (foundE (firstE l s 6))) rfl rfl
    generalize World.setRow _ _ _ = Y20 at *
    refine tF 9 [.val 8 (some 14) (.bool (firstE l s 6).isSome)] trivial ?_
    refine dF ?_
    try simp only [puts, Tk.put, Act.put, List.setIfInBounds_toArray, List.set_cons_zero, List.set_cons_succ]
    go_upto_region 10 with fail
    refine wp_region_fromM (fun W => Sep w [] [.blk N19 36 (evc (foundE (firstE l s 6))), .blk N15 36 (evc (foundE (firstE l s 5))), .blk N11 33 (txc (foundE (firstE l s 4)).tx)] W) hM ?_
    clear hM
    rintro Y21 hM
    refine tF 2 [.val 0 (some 67) (.slice pl l.length cl), .val 1 (some 68) (.string s)] trivial ?_
    refine cF (some 69) 11 #[.slice pl l.length cl, .string s, .int .i64 4] ((first14_any s 4 l _ _ (HLl.out.below hM.b HHl.out) (Nat.le_trans HHl.out hM.size)).mono ?_)
    rintro e Y22 ⟨rfl, hb⟩
    replace hM := hM.below hb
    clear hb
    refine tF 6 [.val 3 (some 66) (.tuple #[evv (foundE (firstE l s 4)), .bool (firstE l s 4).isSome]), .val 4 (some 70) (evv (foundE (firstE l s 4))), .val 5 (some 71) (.bool (firstE l s 4).isSome)] trivial ?_
    refine rF (some 15) (pt Y22.heap.size 0) (Y22.alloc (.cells (evc noE).toArray 36)) ?_
    replace hM := hM.alloc 36 (evc noE)
    generalize World.alloc _ _ = Y23 at *
    generalize hNe : Y22.heap.size = N23 at *
    clear hNe
    have hst := sto_part (evc (foundE (firstE l s 4))) (hM.at 0 rfl) 0 36 (evv (foundE (firstE l s 4))) (evc (foundE (firstE l s 4))) rfl (by kernel_rfl) (Nat.le_of_ble_eq_true rfl) rfl rfl
    refine sF 36 (pt N23 0) (evv (foundE (firstE l s 4))) (hst) ?_
    clear hst
    replace hM := hM.set 0 (cs' := evc (foundE (firstE l s 4))) rfl rfl
    generalize World.setRow _ _ _ = Y24 at *
    refine tF 9 [.val 8 (some 16) (.bool (firstE l s 4).isSome)] trivial ?_
    refine dF ?_
    try simp only [puts, Tk.put, Act.put, List.setIfInBounds_toArray, List.set_cons_zero, List.set_cons_succ]
    go_upto_region 11 with fail
    refine wp_region_fromM (fun W => Sep w [] [.blk N23 36 (evc (foundE (firstE l s 4))), .blk N19 36 (evc (foundE (firstE l s 6))), .blk N15 36 (evc (foundE (firstE l s 5))), .blk N11 33 (txc (foundE (firstE l s 4)).tx)] W) hM ?_
    clear hM
    rintro Y25 hM
    refine tF 2 [.val 0 (some 73) (.slice pl l.length cl), .val 1 (some 74) (.string s)] trivial ?_
    refine cF (some 75) 11 #[.slice pl l.length cl, .string s, .int .i64 5] ((first14_any s 5 l _ _ (HLl.out.below hM.b HHl.out) (Nat.le_trans HHl.out hM.size)).mono ?_)
    rintro e Y26 ⟨rfl, hb⟩
    replace hM := hM.below hb
    clear hb
    refine tF 6 [.val 3 (some 72) (.tuple #[evv (foundE (firstE l s 5)), .bool (firstE l s 5).isSome]), .val 4 (some 76) (evv (foundE (firstE l s 5))), .val 5 (some 77) (.bool (firstE l s 5).isSome)] trivial ?_
    refine rF (some 17) (pt Y26.heap.size 0) (Y26.alloc (.cells (evc noE).toArray 36)) ?_
    replace hM := hM.alloc 36 (evc noE)
    generalize World.alloc _ _ = Y27 at *
    generalize hNe : Y26.heap.size = N27 at *
    clear hNe
    have hst := sto_part (evc (foundE (firstE l s 5))) (hM.at 0 rfl) 0 36 (evv (foundE (firstE l s 5))) (evc (foundE (firstE l s 5))) rfl (by kernel_rfl) (Nat.le_of_ble_eq_true rfl) rfl rfl
    refine sF 36 (pt N27 0) (evv (foundE (firstE l s 5))) (hst) ?_
    clear hst
    replace hM := hM.set 0 (cs' := evc (foundE (firstE l s 5))) rfl rfl
    generalize World.setRow _ _ _ = Y28 at *
    refine tF 9 [.val 8 (some 18) (.bool (firstE l s 5).isSome)] trivial ?_
    refine dF ?_
    try simp only [puts, Tk.put, Act.put, List.setIfInBounds_toArray, List.set_cons_zero, List.set_cons_succ]
    go_upto_region 12 with fail
    refine wp_region_fromM (fun W => Sep w [] [.blk N27 36 (evc (foundE (firstE l s 5))), .blk N23 36 (evc (foundE (firstE l s 4))), .blk N19 36 (evc (foundE (firstE l s 6))), .blk N15 36 (evc (foundE (firstE l s 5))), .blk N11 33 (txc (foundE (firstE l s 4)).tx)] W) hM ?_
    clear hM
    rintro Y29 hM
    refine tF 2 [.val 0 (some 79) (.slice pl l.length cl), .val 1 (some 80) (.string s)] trivial ?_
    refine cF (some 81) 11 #[.slice pl l.length cl, .string s, .int .i64 6] ((first14_any s 6 l _ _ (HLl.out.below hM.b HHl.out) (Nat.le_trans HHl.out hM.size)).mono ?_)
    rintro e Y30 ⟨rfl, hb⟩
    replace hM := hM.below hb
    clear hb
    refine tF 6 [.val 3 (some 78) (.tuple #[evv (foundE (firstE l s 6)), .bool (firstE l s 6).isSome]), .val 4 (some 82) (evv (foundE (firstE l s 6))), .val 5 (some 83) (.bool (firstE l s 6).isSome)] trivial ?_
    refine rF (some 19) (pt Y30.heap.size 0) (Y30.alloc (.cells (evc noE).toArray 36)) ?_
    replace hM := hM.alloc 36 (evc noE)
    generalize World.alloc _ _ = Y31 at *
    generalize hNe : Y30.heap.size = N31 at *
    clear hNe
    have hst := sto_part (evc (foundE (firstE l s 6))) (hM.at 0 rfl) 0 36 (evv (foundE (firstE l s 6))) (evc (foundE (firstE l s 6))) rfl (by kernel_rfl) (Nat.le_of_ble_eq_true rfl) rfl rfl
    refine sF 36 (pt N31 0) (evv (foundE (firstE l s 6))) (hst) ?_
    clear hst
    replace hM := hM.set 0 (cs' := evc (foundE (firstE l s 6))) rfl rfl
    generalize World.setRow _ _ _ = Y32 at *
    refine tF 9 [.val 8 (some 20) (.bool (firstE l s 6).isSome)] trivial ?_
    refine dF ?_
    try simp only [puts, Tk.put, Act.put, List.setIfInBounds_toArray, List.set_cons_zero, List.set_cons_succ]
    go_upto_region 13 with fail
    refine wp_region_fromM (fun W => Sep w [] [.blk N31 36 (evc (foundE (firstE l s 6))), .blk N27 36 (evc (foundE (firstE l s 5))), .blk N23 36 (evc (foundE (firstE l s 4))), .blk N19 36 (evc (foundE (firstE l s 6))), .blk N15 36 (evc (foundE (firstE l s 5))), .blk N11 33 (txc (foundE (firstE l s 4)).tx)] W) hM ?_
    clear hM
    rintro Y33 hM
    refine tF 3 [.load 0 (some 84) 33 (pt N11 0) (txv (foundE (firstE l s 4)).tx), .val 1 (some 85) (pt N23 2), .load 2 (some 86) 33 (pt N23 2) (txv (foundE (firstE l s 4)).tx)] ⟨load_part (hM.at 5 rfl) 0 (txc (foundE (firstE l s 4)).tx) rfl _ _ Try.underlying33 rfl (by kernel_rfl), load_part (hM.at 2 rfl) 2 (txc (foundE (firstE l s 4)).tx) rfl _ _ Try.underlying33 rfl (by kernel_rfl), trivial⟩ ?_
    refine neA (.tmp 84) (.tmp 86) 33 (some 87) (txc (foundE (firstE l s 4)).tx).toArray (txc (foundE (firstE l s 4)).tx).toArray true (Eq.trans (run_eqT (foundE (firstE l s 4)).tx (foundE (firstE l s 4)).tx _) (congrArg (fun z => Result.ok z _) (eqT_refl _))) ?_
    refine tF 12 [.val 4 (some 88) (.bool false), .val 5 (some 89) (.bool (firstE l s 4).isSome), .val 6 (some 90) (.bool (firstE l s 4).isSome), .alt 7 (some 91) (.bool ((firstE l s 4).isSome != (firstE l s 4).isSome)) (.bool false), .val 8 (some 92) (.bool false), .val 9 (some 93) (.bool false), .load 10 (some 94) 36 (pt N15 0) (evv (foundE (firstE l s 5))), .load 11 (some 95) 36 (pt N27 0) (evv (foundE (firstE l s 5)))] ⟨congrArg Value.bool (bne_self_b _), load_part (hM.at 4 rfl) 0 (evc (foundE (firstE l s 5))) rfl _ _ Try.underlying36 rfl (by kernel_rfl), load_part (hM.at 1 rfl) 0 (evc (foundE (firstE l s 5))) rfl _ _ Try.underlying36 rfl (by kernel_rfl), trivial⟩ ?_
    refine neA (.tmp 94) (.tmp 95) 36 (some 96) (evc (foundE (firstE l s 5))).toArray (evc (foundE (firstE l s 5))).toArray true (Eq.trans (run_eqE (foundE (firstE l s 5)) (foundE (firstE l s 5)) _) (congrArg (fun z => Result.ok z _) (eqE_refl _))) ?_
    refine tF 22 [.val 13 (some 97) (.bool false), .val 14 (some 98) (.bool false), .val 15 (some 99) (.bool (firstE l s 5).isSome), .val 16 (some 100) (.bool (firstE l s 5).isSome), .alt 17 (some 101) (.bool ((firstE l s 5).isSome != (firstE l s 5).isSome)) (.bool false), .val 18 (some 102) (.bool false), .val 19 (some 103) (.bool false), .load 20 (some 104) 36 (pt N19 0) (evv (foundE (firstE l s 6))), .load 21 (some 105) 36 (pt N31 0) (evv (foundE (firstE l s 6)))] ⟨congrArg Value.bool (bne_self_b _), load_part (hM.at 3 rfl) 0 (evc (foundE (firstE l s 6))) rfl _ _ Try.underlying36 rfl (by kernel_rfl), load_part (hM.at 0 rfl) 0 (evc (foundE (firstE l s 6))) rfl _ _ Try.underlying36 rfl (by kernel_rfl), trivial⟩ ?_
    refine neA (.tmp 104) (.tmp 105) 36 (some 106) (evc (foundE (firstE l s 6))).toArray (evc (foundE (firstE l s 6))).toArray true (Eq.trans (run_eqE (foundE (firstE l s 6)) (foundE (firstE l s 6)) _) (congrArg (fun z => Result.ok z _) (eqE_refl _))) ?_
    refine tF 29 [.val 23 (some 107) (.bool false), .val 24 (some 108) (.bool false), .val 25 (some 109) (.bool (firstE l s 6).isSome), .val 26 (some 110) (.bool (firstE l s 6).isSome), .alt 27 (some 111) (.bool ((firstE l s 6).isSome != (firstE l s 6).isSome)) (.bool false), .val 28 (some 112) (.bool false)] ⟨congrArg Value.bool (bne_self_b _), trivial⟩ ?_
    refine dF ?_
    try simp only [puts, Tk.put, Act.put, List.setIfInBounds_toArray, List.set_cons_zero, List.set_cons_succ]
    go_upto_region 15 with fail
    refine wp_region_fromM (fun W => Sep w [] [.blk N31 36 (evc (foundE (firstE l s 6))), .blk N27 36 (evc (foundE (firstE l s 5))), .blk N23 36 (evc (foundE (firstE l s 4))), .blk N19 36 (evc (foundE (firstE l s 6))), .blk N15 36 (evc (foundE (firstE l s 5))), .blk N11 33 (txc (foundE (firstE l s 4)).tx)] W) hM ?_
    clear hM
    rintro Y34 hM
    refine tF 1 [.val 0 (some 21) (.slice none 0 0)] trivial ?_
    refine dF ?_
    try simp only [puts, Tk.put, Act.put, List.setIfInBounds_toArray, List.set_cons_zero, List.set_cons_succ]
    go_upto_region 16 with fail
    refine wp_region_fromM (fun W => Sep w [] [.blk N31 36 (evc (foundE (firstE l s 6))), .blk N27 36 (evc (foundE (firstE l s 5))), .blk N23 36 (evc (foundE (firstE l s 4))), .blk N19 36 (evc (foundE (firstE l s 6))), .blk N15 36 (evc (foundE (firstE l s 5))), .blk N11 33 (txc (foundE (firstE l s 4)).tx)] W) hM ?_
    clear hM
    rintro Y35 hM
    refine tF 1 [.val 0 (some 22) (.slice none 0 0)] trivial ?_
    refine dF ?_
    try simp only [puts, Tk.put, Act.put, List.setIfInBounds_toArray, List.set_cons_zero, List.set_cons_succ]
    go_upto_region 17 with fail
    refine wp_region_fromM (fun W => Sep w [] [.blk N31 36 (evc (foundE (firstE l s 6))), .blk N27 36 (evc (foundE (firstE l s 5))), .blk N23 36 (evc (foundE (firstE l s 4))), .blk N19 36 (evc (foundE (firstE l s 6))), .blk N15 36 (evc (foundE (firstE l s 5))), .blk N11 33 (txc (foundE (firstE l s 4)).tx)] W) hM ?_
    clear hM
    rintro Y36 hM
    refine tF 1 [.val 0 (some 23) (.int .i64 (-1))] trivial ?_
    refine dF ?_
    try simp only [puts, Tk.put, Act.put, List.setIfInBounds_toArray, List.set_cons_zero, List.set_cons_succ]
    go_upto_region 18 with fail
    refine wp_region_fromM (fun W => Sep w [] [.blk N31 36 (evc (foundE (firstE l s 6))), .blk N27 36 (evc (foundE (firstE l s 5))), .blk N23 36 (evc (foundE (firstE l s 4))), .blk N19 36 (evc (foundE (firstE l s 6))), .blk N15 36 (evc (foundE (firstE l s 5))), .blk N11 33 (txc (foundE (firstE l s 4)).tx)] W) hM ?_
    clear hM
    rintro Y37 hM
    refine tF 1 [.val 0 (some 24) (.int .i64 0)] trivial ?_
    refine dF ?_
    try simp only [puts, Tk.put, Act.put, List.setIfInBounds_toArray, List.set_cons_zero, List.set_cons_succ]
    replace hM := hM.sub (l' := []) (.cons _ (.cons _ (.cons _ (.cons _ (.cons _ (.cons _ .slnil))))))
    replace hM := (hM.nil (fun t => txc t) 33 25).nil evc 36 27
    go_wp2_with fail
    go_loopw [21, 22, 23, 24] (fun u21 u22 u23 u24 wr => ∃ j : Nat, j ≤ l.length ∧ u24 = .int .i64 (j : Int) ∧ u23 = .int .i64 (lastE (-1) (l.take j)) ∧ Sep w [] [.own evc 36 27 (u22) (((l.take j).filter (isO c))), .own (fun t => txc t) 33 25 (u21) ((((l.take j).filter (isD 4)).map Ev.tx))] wr) (fun u21 u22 u23 u24 _ => l.length - (intOf u24).toNat)
    case atStart => exact ⟨0, Nat.zero_le _, rfl, rfl, hM⟩
    clear hM
    case round =>
      obtain ⟨j, hj, rfl, rfl, hM⟩ := hrel
      by_cases hlt : j < l.length
      case pos =>
        have HJ := Lib.hid hlt
        have hlt' : (j : Int) < (l.length : Int) := by omega
        obtain ⟨x, hx⟩ : ∃ x, l[j]? = some x := ⟨_, List.getElem?_eq_getElem hlt⟩
        obtain ⟨bl, ol, _, _, hit, hct⟩ := HEl.out j x hx
        have HXl := Lib.hid hx
        have HIl := Lib.hid hit
        have HCl := Lib.hid hct
        clear hx hit hct
        clear hlt
        go_upto_region 19 with fail
        refine wp_region_fromM (fun W => Sep w [] [.own evc 36 27 (u22) (((l.take j).filter (isO c))), .own (fun t => txc t) 33 25 (u21) ((((l.take j).filter (isD 4)).map Ev.tx))] W) hM ?_
        clear hM
        rintro Y38 hM
        refine tF 4 [.val 0 (some 113) (.int .i64 (j : Int)), .val 1 (some 114) (.slice pl l.length cl), .val 2 (some 115) (.int .i64 (l.length : Int)), .alt 3 (some 116) (.bool (decide ((j : Int) < (l.length : Int)))) (.bool true)] ⟨congrArg Value.bool (decide_eq_true hlt'), trivial⟩ ?_
        refine dF ?_
        try simp only [puts, Tk.put, Act.put, List.setIfInBounds_toArray, List.set_cons_zero, List.set_cons_succ]
        go_upto_region 21 with fail
        refine wp_region_fromM (fun W => Sep w [] [.own evc 36 27 (u22) (((l.take j).filter (isO c))), .own (fun t => txc t) 33 25 (u21) ((((l.take j).filter (isD 4)).map Ev.tx))] W) hM ?_
        clear hM
        rintro Y39 hM
        refine tF 7 [.val 0 (some 119) (.slice pl l.length cl), .val 1 (some 120) (.int .i64 (j : Int)), .idx 2 (some 121) 22 (.slice pl l.length cl) (.int .i64 (j : Int)) (pt bl ol), .val 3 (some 122) (pt bl (ol + 1)), .load 4 (some 123) 34 (pt bl (ol + 1)) (.int .i64 x.cd), .val 5 (some 124) (.bool (x.cd == 0)), .val 6 (some 125) (.bool (x.cd == 0))] ⟨HIl.out _, ld_cell _ _ Try.underlying34 rfl (HCl.out _ (HLl.out.below hM.b HHl.out) 1 _ rfl), trivial⟩ ?_
        cases hb2 : x.cd == 0 with
        | false =>
          have Hhb2 := Lib.hid hb2
          clear hb2
          refine tF 15 [.skip 7 (some 126), .skip 8 (some 127), .skip 9 (some 128), .skip 10 (some 129), .skip 11 (some 130), .skip 12 (some 131), .skip 13 (some 132), .val 14 (some 133) (.bool false)] trivial ?_
          refine dF ?_
          try simp only [puts, Tk.put, Act.put, List.setIfInBounds_toArray, List.set_cons_zero, List.set_cons_succ]
          go_upto_region 23 with fail
          refine wp_region_fromM (fun W => Sep w [] [.own evc 36 27 (u22) (((l.take j).filter (isO c))), .own (fun t => txc t) 33 25 (u21) ((((l.take j).filter (isD 4)).map Ev.tx))] W) hM ?_
          clear hM
          rintro Y40 hM
          refine tF 8 [.val 0 (some 142) (.slice pl l.length cl), .val 1 (some 143) (.int .i64 (j : Int)), .idx 2 (some 144) 22 (.slice pl l.length cl) (.int .i64 (j : Int)) (pt bl ol), .val 3 (some 145) (pt bl (ol + 2)), .val 4 (some 146) (pt bl (ol + 2)), .load 5 (some 147) 3 (pt bl (ol + 2)) (.int .i64 x.tx.fr), .val 6 (some 148) (.int .i64 c), .val 7 (some 149) (.bool (x.tx.fr == c))] ⟨HIl.out _, ld_cell _ _ Try.underlying3 rfl (HCl.out _ (HLl.out.below hM.b HHl.out) 2 _ rfl), trivial⟩ ?_
          refine dF ?_
          try simp only [puts, Tk.put, Act.put, List.setIfInBounds_toArray, List.set_cons_zero, List.set_cons_succ]
          cases hb3 : x.tx.fr == c with
          | false =>
            have Hhb3 := Lib.hid hb3
            clear hb3
            go_upto_region 25 with fail
            refine wp_region_fromM (fun W => Sep w [] [.own evc 36 27 (u22) (((l.take j).filter (isO c))), .own (fun t => txc t) 33 25 (u21) ((((l.take j).filter (isD 4)).map Ev.tx))] W) hM ?_
            clear hM
            rintro Y41 hM
            refine tF 8 [.val 0 (some 157) (.int .i64 (lastE (-1) (l.take j))), .val 1 (some 158) (.slice pl l.length cl), .val 2 (some 159) (.int .i64 (j : Int)), .idx 3 (some 160) 22 (.slice pl l.length cl) (.int .i64 (j : Int)) (pt bl ol), .val 4 (some 161) (pt bl ol), .load 5 (some 162) 3 (pt bl ol) (.int .i64 x.tm), .alt 6 (some 163) (.int .i64 (max2I (lastE (-1) (l.take j)) x.tm)) (.int .i64 (lastE (-1) (l.take (j + 1)))), .val 7 (some 23) (.int .i64 (lastE (-1) (l.take (j + 1))))] ⟨HIl.out _, ld_cell _ _ Try.underlying3 rfl (HCl.out _ (HLl.out.below hM.b HHl.out) 0 _ rfl), congrArg (Value.int .i64) ((last_snoc HXl.out).symm), trivial⟩ ?_
            refine dF ?_
            try simp only [puts, Tk.put, Act.put, List.setIfInBounds_toArray, List.set_cons_zero, List.set_cons_succ]
            go_upto_region 20 with fail
            refine wp_region_fromM (fun W => Sep w [] [.own evc 36 27 (u22) (((l.take j).filter (isO c))), .own (fun t => txc t) 33 25 (u21) ((((l.take j).filter (isD 4)).map Ev.tx))] W) hM ?_
            clear hM
            rintro Y42 hM
            refine tF 3 [.val 0 (some 117) (.int .i64 (j : Int)), .alt 1 (some 118) (.int .i64 (IntKind.i64.wrap ((j : Int) + 1))) (.int .i64 ((j + 1 : Nat) : Int)), .val 2 (some 24) (.int .i64 ((j + 1 : Nat) : Int))] ⟨congrArg (Value.int .i64) ((IntWalk.i64_in _ (by have := HLENl.out; have := HJ.out; omega)).trans (by omega)), trivial⟩ ?_
            refine dF ?_
            try simp only [puts, Tk.put, Act.put, List.setIfInBounds_toArray, List.set_cons_zero, List.set_cons_succ]
            have hM1 := Sep.pick (l' := [.own evc 36 27 (u22) (((l.take j).filter (isO c))), .own (fun t => txc t) 33 25 (u21) ((((l.take j).filter (isD 4)).map Ev.tx))]) hM [0, 1] (by decide) rfl
            rw [← mapD HXl.out (isD_n Hhb2.out), ← filD HXl.out (show isO c x = false from Hhb3.out)] at hM1
            have HM1 := Lib.hid hM1
            clear hM hM1
            go_wp2_with fail
            go_roundw
            case rel => exact ⟨j + 1, HJ.out, rfl, rfl, HM1.out⟩
            case measure => have := HJ.out; simp [intOf]; omega
          | true =>
            have Hhb3 := Lib.hid hb3
            clear hb3
            go_upto_region 24 with fail
            refine wp_region_fromM (fun W => Sep w [] [.own evc 36 27 (u22) (((l.take j).filter (isO c))), .own (fun t => txc t) 33 25 (u21) ((((l.take j).filter (isD 4)).map Ev.tx))] W) hM ?_
            clear hM
            rintro Y43 hM
            refine tF 5 [.val 0 (some 150) (u22), .val 1 (some 151) (.slice pl l.length cl), .val 2 (some 152) (.int .i64 (j : Int)), .idx 3 (some 153) 22 (.slice pl l.length cl) (.int .i64 (j : Int)) (pt bl ol), .load 4 (some 154) 36 (pt bl ol) (evv x)] ⟨HIl.out _, ld_cells (evc x) _ _ Try.underlying36 rfl (by kernel_rfl) (HCl.out _ (HLl.out.below hM.b HHl.out)), trivial⟩ ?_
            refine rF (some 155) (.slice (some ⟨Y43.heap.size, 0, none⟩) 1 1) (Y43.alloc (.cells (evc x).toArray 36)) ?_
            replace hM := hM.alloc 36 (evc x)
            generalize World.alloc _ _ = Y44 at *
            generalize hNe : Y43.heap.size = N44 at *
            clear hNe
            obtain ⟨v45, Y45, hrun, ht⟩ := own_app1 infoEv rfl (by decide) Try.underlying22 evc_len evc_one (hM.oka 1 rfl) x (hM.at 0 rfl) (by decide) ((by have h1 := HR.out; have h3 := HJ.out; have h4 := fil_len l j (isO c); omega)) 22
            replace hM := hM.turn 1 rfl ht rfl
            clear ht
            refine wpFrom_append (d := some 156) (t := 22) (t' := 22) (ty := 22) (v := u22) (x := .slice (some ⟨N44, 0, none⟩) 1 1) (by kernel_rfl) hrun ?_
            clear hrun
            refine tF 8 [.val 7 (some 22) (v45)] trivial ?_
            refine dF ?_
            try simp only [puts, Tk.put, Act.put, List.setIfInBounds_toArray, List.set_cons_zero, List.set_cons_succ]
            go_upto_region 25 with fail
            refine wp_region_fromM (fun W => Sep w [] [.blk N44 36 (evc x), .own evc 36 27 (v45) (((l.take j).filter (isO c)) ++ [x]), .own (fun t => txc t) 33 25 (u21) ((((l.take j).filter (isD 4)).map Ev.tx))] W) hM ?_
            clear hM
            rintro Y46 hM
            refine tF 8 [.val 0 (some 157) (.int .i64 (lastE (-1) (l.take j))), .val 1 (some 158) (.slice pl l.length cl), .val 2 (some 159) (.int .i64 (j : Int)), .idx 3 (some 160) 22 (.slice pl l.length cl) (.int .i64 (j : Int)) (pt bl ol), .val 4 (some 161) (pt bl ol), .load 5 (some 162) 3 (pt bl ol) (.int .i64 x.tm), .alt 6 (some 163) (.int .i64 (max2I (lastE (-1) (l.take j)) x.tm)) (.int .i64 (lastE (-1) (l.take (j + 1)))), .val 7 (some 23) (.int .i64 (lastE (-1) (l.take (j + 1))))] ⟨HIl.out _, ld_cell _ _ Try.underlying3 rfl (HCl.out _ (HLl.out.below hM.b HHl.out) 0 _ rfl), congrArg (Value.int .i64) ((last_snoc HXl.out).symm), trivial⟩ ?_
            refine dF ?_
            try simp only [puts, Tk.put, Act.put, List.setIfInBounds_toArray, List.set_cons_zero, List.set_cons_succ]
            go_upto_region 20 with fail
            refine wp_region_fromM (fun W => Sep w [] [.blk N44 36 (evc x), .own evc 36 27 (v45) (((l.take j).filter (isO c)) ++ [x]), .own (fun t => txc t) 33 25 (u21) ((((l.take j).filter (isD 4)).map Ev.tx))] W) hM ?_
            clear hM
            rintro Y47 hM
            refine tF 3 [.val 0 (some 117) (.int .i64 (j : Int)), .alt 1 (some 118) (.int .i64 (IntKind.i64.wrap ((j : Int) + 1))) (.int .i64 ((j + 1 : Nat) : Int)), .val 2 (some 24) (.int .i64 ((j + 1 : Nat) : Int))] ⟨congrArg (Value.int .i64) ((IntWalk.i64_in _ (by have := HLENl.out; have := HJ.out; omega)).trans (by omega)), trivial⟩ ?_
            refine dF ?_
            try simp only [puts, Tk.put, Act.put, List.setIfInBounds_toArray, List.set_cons_zero, List.set_cons_succ]
            have hM1 := Sep.pick (l' := [.own evc 36 27 (v45) (((l.take j).filter (isO c)) ++ [x]), .own (fun t => txc t) 33 25 (u21) ((((l.take j).filter (isD 4)).map Ev.tx))]) hM [1, 2] (by decide) rfl
            rw [← mapD HXl.out (isD_n Hhb2.out), ← filT HXl.out (show isO c x = true from Hhb3.out)] at hM1
            have HM1 := Lib.hid hM1
            clear hM hM1
            go_wp2_with fail
            go_roundw
            case rel => exact ⟨j + 1, HJ.out, rfl, rfl, HM1.out⟩
            case measure => have := HJ.out; simp [intOf]; omega
        | true =>
          have Hhb2 := Lib.hid hb2
          clear hb2
          refine tF 15 [.val 7 (some 126) (.slice pl l.length cl), .val 8 (some 127) (.int .i64 (j : Int)), .idx 9 (some 128) 22 (.slice pl l.length cl) (.int .i64 (j : Int)) (pt bl ol), .val 10 (some 129) (pt bl (ol + 2)), .val 11 (some 130) (pt bl (ol + 2 + 2)), .load 12 (some 131) 3 (pt bl (ol + 2 + 2)) (.int .i64 x.tx.kd), .val 13 (some 132) (.bool (x.tx.kd == 4)), .val 14 (some 133) (.bool (x.tx.kd == 4))] ⟨HIl.out _, ld_cell _ _ Try.underlying3 rfl (HCl.out _ (HLl.out.below hM.b HHl.out) 4 _ rfl), trivial⟩ ?_
          refine dF ?_
          try simp only [puts, Tk.put, Act.put, List.setIfInBounds_toArray, List.set_cons_zero, List.set_cons_succ]
          cases hb4 : x.tx.kd == 4 with
          | false =>
            have Hhb4 := Lib.hid hb4
            clear hb4
            go_upto_region 23 with fail
            refine wp_region_fromM (fun W => Sep w [] [.own evc 36 27 (u22) (((l.take j).filter (isO c))), .own (fun t => txc t) 33 25 (u21) ((((l.take j).filter (isD 4)).map Ev.tx))] W) hM ?_
            clear hM
            rintro Y48 hM
            refine tF 8 [.val 0 (some 142) (.slice pl l.length cl), .val 1 (some 143) (.int .i64 (j : Int)), .idx 2 (some 144) 22 (.slice pl l.length cl) (.int .i64 (j : Int)) (pt bl ol), .val 3 (some 145) (pt bl (ol + 2)), .val 4 (some 146) (pt bl (ol + 2)), .load 5 (some 147) 3 (pt bl (ol + 2)) (.int .i64 x.tx.fr), .val 6 (some 148) (.int .i64 c), .val 7 (some 149) (.bool (x.tx.fr == c))] ⟨HIl.out _, ld_cell _ _ Try.underlying3 rfl (HCl.out _ (HLl.out.below hM.b HHl.out) 2 _ rfl), trivial⟩ ?_
            refine dF ?_
            try simp only [puts, Tk.put, Act.put, List.setIfInBounds_toArray, List.set_cons_zero, List.set_cons_succ]
            cases hb5 : x.tx.fr == c with
            | false =>
              have Hhb5 := Lib.hid hb5
              clear hb5
              go_upto_region 25 with fail
              refine wp_region_fromM (fun W => Sep w [] [.own evc 36 27 (u22) (((l.take j).filter (isO c))), .own (fun t => txc t) 33 25 (u21) ((((l.take j).filter (isD 4)).map Ev.tx))] W) hM ?_
              clear hM
              rintro Y49 hM
              refine tF 8 [.val 0 (some 157) (.int .i64 (lastE (-1) (l.take j))), .val 1 (some 158) (.slice pl l.length cl), .val 2 (some 159) (.int .i64 (j : Int)), .idx 3 (some 160) 22 (.slice pl l.length cl) (.int .i64 (j : Int)) (pt bl ol), .val 4 (some 161) (pt bl ol), .load 5 (some 162) 3 (pt bl ol) (.int .i64 x.tm), .alt 6 (some 163) (.int .i64 (max2I (lastE (-1) (l.take j)) x.tm)) (.int .i64 (lastE (-1) (l.take (j + 1)))), .val 7 (some 23) (.int .i64 (lastE (-1) (l.take (j + 1))))] ⟨HIl.out _, ld_cell _ _ Try.underlying3 rfl (HCl.out _ (HLl.out.below hM.b HHl.out) 0 _ rfl), congrArg (Value.int .i64) ((last_snoc HXl.out).symm), trivial⟩ ?_
              refine dF ?_
              try simp only [puts, Tk.put, Act.put, List.setIfInBounds_toArray, List.set_cons_zero, List.set_cons_succ]
              go_upto_region 20 with fail
              refine wp_region_fromM (fun W => Sep w [] [.own evc 36 27 (u22) (((l.take j).filter (isO c))), .own (fun t => txc t) 33 25 (u21) ((((l.take j).filter (isD 4)).map Ev.tx))] W) hM ?_
              clear hM
              rintro Y50 hM
              refine tF 3 [.val 0 (some 117) (.int .i64 (j : Int)), .alt 1 (some 118) (.int .i64 (IntKind.i64.wrap ((j : Int) + 1))) (.int .i64 ((j + 1 : Nat) : Int)), .val 2 (some 24) (.int .i64 ((j + 1 : Nat) : Int))] ⟨congrArg (Value.int .i64) ((IntWalk.i64_in _ (by have := HLENl.out; have := HJ.out; omega)).trans (by omega)), trivial⟩ ?_
              refine dF ?_
              try simp only [puts, Tk.put, Act.put, List.setIfInBounds_toArray, List.set_cons_zero, List.set_cons_succ]
              have hM1 := Sep.pick (l' := [.own evc 36 27 (u22) (((l.take j).filter (isO c))), .own (fun t => txc t) 33 25 (u21) ((((l.take j).filter (isD 4)).map Ev.tx))]) hM [0, 1] (by decide) rfl
              rw [← mapD HXl.out (isD_b Hhb2.out Hhb4.out), ← filD HXl.out (show isO c x = false from Hhb5.out)] at hM1
              have HM1 := Lib.hid hM1
              clear hM hM1
              go_wp2_with fail
              go_roundw
              case rel => exact ⟨j + 1, HJ.out, rfl, rfl, HM1.out⟩
              case measure => have := HJ.out; simp [intOf]; omega
            | true =>
              have Hhb5 := Lib.hid hb5
              clear hb5
              go_upto_region 24 with fail
              refine wp_region_fromM (fun W => Sep w [] [.own evc 36 27 (u22) (((l.take j).filter (isO c))), .own (fun t => txc t) 33 25 (u21) ((((l.take j).filter (isD 4)).map Ev.tx))] W) hM ?_
              clear hM
              rintro Y51 hM
              refine tF 5 [.val 0 (some 150) (u22), .val 1 (some 151) (.slice pl l.length cl), .val 2 (some 152) (.int .i64 (j : Int)), .idx 3 (some 153) 22 (.slice pl l.length cl) (.int .i64 (j : Int)) (pt bl ol), .load 4 (some 154) 36 (pt bl ol) (evv x)] ⟨HIl.out _, ld_cells (evc x) _ _ Try.underlying36 rfl (by kernel_rfl) (HCl.out _ (HLl.out.below hM.b HHl.out)), trivial⟩ ?_
              refine rF (some 155) (.slice (some ⟨Y51.heap.size, 0, none⟩) 1 1) (Y51.alloc (.cells (evc x).toArray 36)) ?_
              replace hM := hM.alloc 36 (evc x)
              generalize World.alloc _ _ = Y52 at *
              generalize hNe : Y51.heap.size = N52 at *
              clear hNe
              obtain ⟨v53, Y53, hrun, ht⟩ := own_app1 infoEv rfl (by decide) Try.underlying22 evc_len evc_one (hM.oka 1 rfl) x (hM.at 0 rfl) (by decide) ((by have h1 := HR.out; have h3 := HJ.out; have h4 := fil_len l j (isO c); omega)) 22
              replace hM := hM.turn 1 rfl ht rfl
              clear ht
              refine wpFrom_append (d := some 156) (t := 22) (t' := 22) (ty := 22) (v := u22) (x := .slice (some ⟨N52, 0, none⟩) 1 1) (by kernel_rfl) hrun ?_
              clear hrun
              refine tF 8 [.val 7 (some 22) (v53)] trivial ?_
              refine dF ?_
              try simp only [puts, Tk.put, Act.put, List.setIfInBounds_toArray, List.set_cons_zero, List.set_cons_succ]
              go_upto_region 25 with fail
              refine wp_region_fromM (fun W => Sep w [] [.blk N52 36 (evc x), .own evc 36 27 (v53) (((l.take j).filter (isO c)) ++ [x]), .own (fun t => txc t) 33 25 (u21) ((((l.take j).filter (isD 4)).map Ev.tx))] W) hM ?_
              clear hM
              rintro Y54 hM
              refine tF 8 [.val 0 (some 157) (.int .i64 (lastE (-1) (l.take j))), .val 1 (some 158) (.slice pl l.length cl), .val 2 (some 159) (.int .i64 (j : Int)), .idx 3 (some 160) 22 (.slice pl l.length cl) (.int .i64 (j : Int)) (pt bl ol), .val 4 (some 161) (pt bl ol), .load 5 (some 162) 3 (pt bl ol) (.int .i64 x.tm), .alt 6 (some 163) (.int .i64 (max2I (lastE (-1) (l.take j)) x.tm)) (.int .i64 (lastE (-1) (l.take (j + 1)))), .val 7 (some 23) (.int .i64 (lastE (-1) (l.take (j + 1))))] ⟨HIl.out _, ld_cell _ _ Try.underlying3 rfl (HCl.out _ (HLl.out.below hM.b HHl.out) 0 _ rfl), congrArg (Value.int .i64) ((last_snoc HXl.out).symm), trivial⟩ ?_
              refine dF ?_
              try simp only [puts, Tk.put, Act.put, List.setIfInBounds_toArray, List.set_cons_zero, List.set_cons_succ]
              go_upto_region 20 with fail
              refine wp_region_fromM (fun W => Sep w [] [.blk N52 36 (evc x), .own evc 36 27 (v53) (((l.take j).filter (isO c)) ++ [x]), .own (fun t => txc t) 33 25 (u21) ((((l.take j).filter (isD 4)).map Ev.tx))] W) hM ?_
              clear hM
              rintro Y55 hM
              refine tF 3 [.val 0 (some 117) (.int .i64 (j : Int)), .alt 1 (some 118) (.int .i64 (IntKind.i64.wrap ((j : Int) + 1))) (.int .i64 ((j + 1 : Nat) : Int)), .val 2 (some 24) (.int .i64 ((j + 1 : Nat) : Int))] ⟨congrArg (Value.int .i64) ((IntWalk.i64_in _ (by have := HLENl.out; have := HJ.out; omega)).trans (by omega)), trivial⟩ ?_
              refine dF ?_
              try simp only [puts, Tk.put, Act.put, List.setIfInBounds_toArray, List.set_cons_zero, List.set_cons_succ]
              have hM1 := Sep.pick (l' := [.own evc 36 27 (v53) (((l.take j).filter (isO c)) ++ [x]), .own (fun t => txc t) 33 25 (u21) ((((l.take j).filter (isD 4)).map Ev.tx))]) hM [1, 2] (by decide) rfl
              rw [← mapD HXl.out (isD_b Hhb2.out Hhb4.out), ← filT HXl.out (show isO c x = true from Hhb5.out)] at hM1
              have HM1 := Lib.hid hM1
              clear hM hM1
              go_wp2_with fail
              go_roundw
              case rel => exact ⟨j + 1, HJ.out, rfl, rfl, HM1.out⟩
              case measure => have := HJ.out; simp [intOf]; omega
          | true =>
            have Hhb4 := Lib.hid hb4
            clear hb4
            go_upto_region 22 with fail
            refine wp_region_fromM (fun W => Sep w [] [.own evc 36 27 (u22) (((l.take j).filter (isO c))), .own (fun t => txc t) 33 25 (u21) ((((l.take j).filter (isD 4)).map Ev.tx))] W) hM ?_
            clear hM
            rintro Y56 hM
            refine tF 6 [.val 0 (some 134) (u21), .val 1 (some 135) (.slice pl l.length cl), .val 2 (some 136) (.int .i64 (j : Int)), .idx 3 (some 137) 22 (.slice pl l.length cl) (.int .i64 (j : Int)) (pt bl ol), .val 4 (some 138) (pt bl (ol + 2)), .load 5 (some 139) 33 (pt bl (ol + 2)) (txv x.tx)] ⟨HIl.out _, ld_cellsAt (HCl.out _ (HLl.out.below hM.b HHl.out)) 2 (txc x.tx) rfl _ _ Try.underlying33 rfl (by kernel_rfl), trivial⟩ ?_
            refine rF (some 140) (.slice (some ⟨Y56.heap.size, 0, none⟩) 1 1) (Y56.alloc (.cells (txc x.tx).toArray 33)) ?_
            replace hM := hM.alloc 33 (txc x.tx)
            generalize World.alloc _ _ = Y57 at *
            generalize hNe : Y56.heap.size = N57 at *
            clear hNe
            obtain ⟨v58, Y58, hrun, ht⟩ := own_app1 infoTx rfl (by decide) Try.underlying42 txc_25 txc_one (hM.oka 2 rfl) x.tx (hM.at 0 rfl) (by decide) ((by have h1 := HR.out; have h3 := HJ.out; rw [List.length_map]; have h4 := fil_len l j (isD 4); omega)) 42
            replace hM := hM.turn 2 rfl ht rfl
            clear ht
            refine wpFrom_append (d := some 141) (t := 42) (t' := 42) (ty := 42) (v := u21) (x := .slice (some ⟨N57, 0, none⟩) 1 1) (by kernel_rfl) hrun ?_
            clear hrun
            refine tF 9 [.val 8 (some 21) (v58)] trivial ?_
            refine dF ?_
            try simp only [puts, Tk.put, Act.put, List.setIfInBounds_toArray, List.set_cons_zero, List.set_cons_succ]
            go_upto_region 23 with fail
            refine wp_region_fromM (fun W => Sep w [] [.blk N57 33 (txc x.tx), .own evc 36 27 (u22) (((l.take j).filter (isO c))), .own (fun t => txc t) 33 25 (v58) ((((l.take j).filter (isD 4)).map Ev.tx) ++ [x.tx])] W) hM ?_
            clear hM
            rintro Y59 hM
            refine tF 8 [.val 0 (some 142) (.slice pl l.length cl), .val 1 (some 143) (.int .i64 (j : Int)), .idx 2 (some 144) 22 (.slice pl l.length cl) (.int .i64 (j : Int)) (pt bl ol), .val 3 (some 145) (pt bl (ol + 2)), .val 4 (some 146) (pt bl (ol + 2)), .load 5 (some 147) 3 (pt bl (ol + 2)) (.int .i64 x.tx.fr), .val 6 (some 148) (.int .i64 c), .val 7 (some 149) (.bool (x.tx.fr == c))] ⟨HIl.out _, ld_cell _ _ Try.underlying3 rfl (HCl.out _ (HLl.out.below hM.b HHl.out) 2 _ rfl), trivial⟩ ?_
            refine dF ?_
            try simp only [puts, Tk.put, Act.put, List.setIfInBounds_toArray, List.set_cons_zero, List.set_cons_succ]
            cases hb6 : x.tx.fr == c with
            | false =>
              have Hhb6 := Lib.hid hb6
              clear hb6
              go_upto_region 25 with fail
              refine wp_region_fromM (fun W => Sep w [] [.blk N57 33 (txc x.tx), .own evc 36 27 (u22) (((l.take j).filter (isO c))), .own (fun t => txc t) 33 25 (v58) ((((l.take j).filter (isD 4)).map Ev.tx) ++ [x.tx])] W) hM ?_
              clear hM
              rintro Y60 hM
              refine tF 8 [.val 0 (some 157) (.int .i64 (lastE (-1) (l.take j))), .val 1 (some 158) (.slice pl l.length cl), .val 2 (some 159) (.int .i64 (j : Int)), .idx 3 (some 160) 22 (.slice pl l.length cl) (.int .i64 (j : Int)) (pt bl ol), .val 4 (some 161) (pt bl ol), .load 5 (some 162) 3 (pt bl ol) (.int .i64 x.tm), .alt 6 (some 163) (.int .i64 (max2I (lastE (-1) (l.take j)) x.tm)) (.int .i64 (lastE (-1) (l.take (j + 1)))), .val 7 (some 23) (.int .i64 (lastE (-1) (l.take (j + 1))))] ⟨HIl.out _, ld_cell _ _ Try.underlying3 rfl (HCl.out _ (HLl.out.below hM.b HHl.out) 0 _ rfl), congrArg (Value.int .i64) ((last_snoc HXl.out).symm), trivial⟩ ?_
              refine dF ?_
              try simp only [puts, Tk.put, Act.put, List.setIfInBounds_toArray, List.set_cons_zero, List.set_cons_succ]
              go_upto_region 20 with fail
              refine wp_region_fromM (fun W => Sep w [] [.blk N57 33 (txc x.tx), .own evc 36 27 (u22) (((l.take j).filter (isO c))), .own (fun t => txc t) 33 25 (v58) ((((l.take j).filter (isD 4)).map Ev.tx) ++ [x.tx])] W) hM ?_
              clear hM
              rintro Y61 hM
              refine tF 3 [.val 0 (some 117) (.int .i64 (j : Int)), .alt 1 (some 118) (.int .i64 (IntKind.i64.wrap ((j : Int) + 1))) (.int .i64 ((j + 1 : Nat) : Int)), .val 2 (some 24) (.int .i64 ((j + 1 : Nat) : Int))] ⟨congrArg (Value.int .i64) ((IntWalk.i64_in _ (by have := HLENl.out; have := HJ.out; omega)).trans (by omega)), trivial⟩ ?_
              refine dF ?_
              try simp only [puts, Tk.put, Act.put, List.setIfInBounds_toArray, List.set_cons_zero, List.set_cons_succ]
              have hM1 := Sep.pick (l' := [.own evc 36 27 (u22) (((l.take j).filter (isO c))), .own (fun t => txc t) 33 25 (v58) ((((l.take j).filter (isD 4)).map Ev.tx) ++ [x.tx])]) hM [1, 2] (by decide) rfl
              rw [← mapT HXl.out (isD_b Hhb2.out Hhb4.out), ← filD HXl.out (show isO c x = false from Hhb6.out)] at hM1
              have HM1 := Lib.hid hM1
              clear hM hM1
              go_wp2_with fail
              go_roundw
              case rel => exact ⟨j + 1, HJ.out, rfl, rfl, HM1.out⟩
              case measure => have := HJ.out; simp [intOf]; omega
            | true =>
              have Hhb6 := Lib.hid hb6
              clear hb6
              go_upto_region 24 with fail
              refine wp_region_fromM (fun W => Sep w [] [.blk N57 33 (txc x.tx), .own evc 36 27 (u22) (((l.take j).filter (isO c))), .own (fun t => txc t) 33 25 (v58) ((((l.take j).filter (isD 4)).map Ev.tx) ++ [x.tx])] W) hM ?_
              clear hM
              rintro Y62 hM
              refine tF 5 [.val 0 (some 150) (u22), .val 1 (some 151) (.slice pl l.length cl), .val 2 (some 152) (.int .i64 (j : Int)), .idx 3 (some 153) 22 (.slice pl l.length cl) (.int .i64 (j : Int)) (pt bl ol), .load 4 (some 154) 36 (pt bl ol) (evv x)] ⟨HIl.out _, ld_cells (evc x) _ _ Try.underlying36 rfl (by kernel_rfl) (HCl.out _ (HLl.out.below hM.b HHl.out)), trivial⟩ ?_
              refine rF (some 155) (.slice (some ⟨Y62.heap.size, 0, none⟩) 1 1) (Y62.alloc (.cells (evc x).toArray 36)) ?_
              replace hM := hM.alloc 36 (evc x)
              generalize World.alloc _ _ = Y63 at *
              generalize hNe : Y62.heap.size = N63 at *
              clear hNe
              obtain ⟨v64, Y64, hrun, ht⟩ := own_app1 infoEv rfl (by decide) Try.underlying22 evc_len evc_one (hM.oka 2 rfl) x (hM.at 0 rfl) (by decide) ((by have h1 := HR.out; have h3 := HJ.out; have h4 := fil_len l j (isO c); omega)) 22
              replace hM := hM.turn 2 rfl ht rfl
              clear ht
              refine wpFrom_append (d := some 156) (t := 22) (t' := 22) (ty := 22) (v := u22) (x := .slice (some ⟨N63, 0, none⟩) 1 1) (by kernel_rfl) hrun ?_
              clear hrun
              refine tF 8 [.val 7 (some 22) (v64)] trivial ?_
              refine dF ?_
              try simp only [puts, Tk.put, Act.put, List.setIfInBounds_toArray, List.set_cons_zero, List.set_cons_succ]
              go_upto_region 25 with fail
              refine wp_region_fromM (fun W => Sep w [] [.blk N63 36 (evc x), .blk N57 33 (txc x.tx), .own evc 36 27 (v64) (((l.take j).filter (isO c)) ++ [x]), .own (fun t => txc t) 33 25 (v58) ((((l.take j).filter (isD 4)).map Ev.tx) ++ [x.tx])] W) hM ?_
              clear hM
              rintro Y65 hM
              refine tF 8 [.val 0 (some 157) (.int .i64 (lastE (-1) (l.take j))), .val 1 (some 158) (.slice pl l.length cl), .val 2 (some 159) (.int .i64 (j : Int)), .idx 3 (some 160) 22 (.slice pl l.length cl) (.int .i64 (j : Int)) (pt bl ol), .val 4 (some 161) (pt bl ol), .load 5 (some 162) 3 (pt bl ol) (.int .i64 x.tm), .alt 6 (some 163) (.int .i64 (max2I (lastE (-1) (l.take j)) x.tm)) (.int .i64 (lastE (-1) (l.take (j + 1)))), .val 7 (some 23) (.int .i64 (lastE (-1) (l.take (j + 1))))] ⟨HIl.out _, ld_cell _ _ Try.underlying3 rfl (HCl.out _ (HLl.out.below hM.b HHl.out) 0 _ rfl), congrArg (Value.int .i64) ((last_snoc HXl.out).symm), trivial⟩ ?_
              refine dF ?_
              try simp only [puts, Tk.put, Act.put, List.setIfInBounds_toArray, List.set_cons_zero, List.set_cons_succ]
              go_upto_region 20 with fail
              refine wp_region_fromM (fun W => Sep w [] [.blk N63 36 (evc x), .blk N57 33 (txc x.tx), .own evc 36 27 (v64) (((l.take j).filter (isO c)) ++ [x]), .own (fun t => txc t) 33 25 (v58) ((((l.take j).filter (isD 4)).map Ev.tx) ++ [x.tx])] W) hM ?_
              clear hM
              rintro Y66 hM
              refine tF 3 [.val 0 (some 117) (.int .i64 (j : Int)), .alt 1 (some 118) (.int .i64 (IntKind.i64.wrap ((j : Int) + 1))) (.int .i64 ((j + 1 : Nat) : Int)), .val 2 (some 24) (.int .i64 ((j + 1 : Nat) : Int))] ⟨congrArg (Value.int .i64) ((IntWalk.i64_in _ (by have := HLENl.out; have := HJ.out; omega)).trans (by omega)), trivial⟩ ?_
              refine dF ?_
              try simp only [puts, Tk.put, Act.put, List.setIfInBounds_toArray, List.set_cons_zero, List.set_cons_succ]
              have hM1 := Sep.pick (l' := [.own evc 36 27 (v64) (((l.take j).filter (isO c)) ++ [x]), .own (fun t => txc t) 33 25 (v58) ((((l.take j).filter (isD 4)).map Ev.tx) ++ [x.tx])]) hM [2, 3] (by decide) rfl
              rw [← mapT HXl.out (isD_b Hhb2.out Hhb4.out), ← filT HXl.out (show isO c x = true from Hhb6.out)] at hM1
              have HM1 := Lib.hid hM1
              clear hM hM1
              go_wp2_with fail
              go_roundw
              case rel => exact ⟨j + 1, HJ.out, rfl, rfl, HM1.out⟩
              case measure => have := HJ.out; simp [intOf]; omega
      case neg =>
        obtain rfl : j = l.length := by omega
        rw [List.take_length] at hM ⊢
        replace hM : Sep w [] [.own evc 36 27 (u22) ((ofE l c)), .own (fun t => txc t) 33 25 (u21) ((dealsE l))] wr := hM
        obtain ⟨pu22, cu22, rfl⟩ := (hM.oka 0 rfl).slice evc_len
        obtain ⟨pu21, cu21, rfl⟩ := (hM.oka 1 rfl).slice txc_25
        go_upto_region 19 with fail
        refine wp_region_fromM (fun W => Sep w [] [.own evc 36 27 (.slice pu22 (ofE l c).length cu22) ((ofE l c)), .own (fun t => txc t) 33 25 (.slice pu21 (dealsE l).length cu21) ((dealsE l))] W) hM ?_
        clear hM
        rintro Y67 hM
        refine tF 4 [.val 0 (some 113) (.int .i64 (l.length : Int)), .val 1 (some 114) (.slice pl l.length cl), .val 2 (some 115) (.int .i64 (l.length : Int)), .alt 3 (some 116) (.bool (decide ((l.length : Int) < (l.length : Int)))) (.bool false)] ⟨congrArg Value.bool (decide_eq_false (by omega)), trivial⟩ ?_
        refine dF ?_
        try simp only [puts, Tk.put, Act.put, List.setIfInBounds_toArray, List.set_cons_zero, List.set_cons_succ]
        go_upto_region 26 with fail
        refine wp_region_fromM (fun W => Sep w [] [.own evc 36 27 (.slice pu22 (ofE l c).length cu22) ((ofE l c)), .own (fun t => txc t) 33 25 (.slice pu21 (dealsE l).length cu21) ((dealsE l))] W) hM ?_
        clear hM
        rintro Y68 hM
        refine tF 1 [.val 0 (some 164) (.slice pl l.length cl)] trivial ?_
        refine cF (some 165) 12 #[.slice pl l.length cl] ((deals_any l _ _ (HLl.out.below hM.b HHl.out) (Nat.le_trans HHl.out hM.size) (HR.out)).mono ?_)
        rintro e Y69 ⟨v69, rfl, hR⟩
        replace hM := hM.gain hR
        clear hR
        obtain ⟨pv69, cv69, rfl⟩ := (hM.oka 0 rfl).slice txc_25
        refine tF 4 [.val 2 (some 166) (.slice pl l.length cl), .val 3 (some 167) (.int .i64 c)] trivial ?_
        refine cF (some 168) 13 #[.slice pl l.length cl, .int .i64 c] ((of_any c l _ _ (HLl.out.below hM.b HHl.out) (Nat.le_trans HHl.out hM.size) (HR.out)).mono ?_)
        rintro e Y70 ⟨v70, rfl, hR⟩
        replace hM := hM.gain hR
        clear hR
        obtain ⟨pv70, cv70, rfl⟩ := (hM.oka 0 rfl).slice evc_len
        refine tF 7 [.val 5 (some 25) (.slice pv69 (dealsE l).length cv69), .val 6 (some 26) (.slice pv70 (ofE l c).length cv70)] trivial ?_
        refine dF ?_
        try simp only [puts, Tk.put, Act.put, List.setIfInBounds_toArray, List.set_cons_zero, List.set_cons_succ]
        go_upto_region 27 with fail
        refine wp_region_fromM (fun W => Sep w [] [.own evc 36 27 (.slice pv70 (ofE l c).length cv70) ((ofE l c)), .own (fun t => txc t) 33 25 (.slice pv69 (dealsE l).length cv69) ((dealsE l)), .own evc 36 27 (.slice pu22 (ofE l c).length cu22) ((ofE l c)), .own (fun t => txc t) 33 25 (.slice pu21 (dealsE l).length cu21) ((dealsE l))] W) hM ?_
        clear hM
        rintro Y71 hM
        refine tF 14 [.val 0 (some 169) (.slice pv69 (dealsE l).length cv69), .val 1 (some 170) (.int .i64 ((dealsE l).length : Int)), .val 2 (some 171) (.slice pu21 (dealsE l).length cu21), .val 3 (some 172) (.int .i64 ((dealsE l).length : Int)), .alt 4 (some 173) (.bool (((dealsE l).length : Int) != ((dealsE l).length : Int))) (.bool false), .val 5 (some 174) (.bool false), .val 6 (some 175) (.slice pv70 (ofE l c).length cv70), .val 7 (some 176) (.int .i64 ((ofE l c).length : Int)), .val 8 (some 177) (.slice pu22 (ofE l c).length cu22), .val 9 (some 178) (.int .i64 ((ofE l c).length : Int)), .alt 10 (some 179) (.bool (((ofE l c).length : Int) != ((ofE l c).length : Int))) (.bool false), .val 11 (some 180) (.bool false), .val 12 (some 181) (.bool false), .val 13 (some 182) (.slice pl l.length cl)] ⟨congrArg Value.bool (bne_self_eq_false _), congrArg Value.bool (bne_self_eq_false _), trivial⟩ ?_
        refine cF (some 183) 14 #[.slice pl l.length cl] ((last_any l _ _ (HLl.out.below hM.b HHl.out) (Nat.le_trans HHl.out hM.size)).mono ?_)
        rintro e Y72 ⟨rfl, hb⟩
        replace hM := hM.below hb
        clear hb
        refine tF 18 [.val 15 (some 184) (.int .i64 (lastE (-1) l)), .alt 16 (some 185) (.bool ((lastE (-1) l) != (lastE (-1) l))) (.bool false), .val 17 (some 186) (.bool false)] ⟨congrArg Value.bool (bne_self_eq_false _), trivial⟩ ?_
        refine dF ?_
        try simp only [puts, Tk.put, Act.put, List.setIfInBounds_toArray, List.set_cons_zero, List.set_cons_succ]
        go_upto_region 29 with fail
        refine wp_region_fromM (fun W => Sep w [] [.own evc 36 27 (.slice pv70 (ofE l c).length cv70) ((ofE l c)), .own (fun t => txc t) 33 25 (.slice pv69 (dealsE l).length cv69) ((dealsE l)), .own evc 36 27 (.slice pu22 (ofE l c).length cu22) ((ofE l c)), .own (fun t => txc t) 33 25 (.slice pu21 (dealsE l).length cu21) ((dealsE l))] W) hM ?_
        clear hM
        rintro Y73 hM
        refine tF 1 [.val 0 (some 27) (.int .i64 0)] trivial ?_
        refine dF ?_
        try simp only [puts, Tk.put, Act.put, List.setIfInBounds_toArray, List.set_cons_zero, List.set_cons_succ]
        have HX63 := Lib.hid (show (dealsE l).length ≤ 9223372036854775806 from by have h := HR.out; have h2 : (dealsE l).length ≤ l.length := (by unfold dealsE; rw [List.length_map]; exact List.length_filter_le _ _); omega)
        go_wp2_with fail
        go_loopw [27] (fun u27 wr => ∃ j : Nat, j ≤ (dealsE l).length ∧ u27 = .int .i64 (j : Int) ∧ Sep w [] [.own evc 36 27 (.slice pv70 (ofE l c).length cv70) ((ofE l c)), .own (fun t => txc t) 33 25 (.slice pv69 (dealsE l).length cv69) ((dealsE l)), .own evc 36 27 (.slice pu22 (ofE l c).length cu22) ((ofE l c)), .own (fun t => txc t) 33 25 (.slice pu21 (dealsE l).length cu21) ((dealsE l))] wr) (fun u27 _ => (dealsE l).length - (intOf u27).toNat)
        case atStart => exact ⟨0, Nat.zero_le _, rfl, hM⟩
        clear hM
        case round =>
          obtain ⟨j, hj, rfl, hM⟩ := hrel
          by_cases hlt : j < (dealsE l).length
          case pos =>
            have HJ := Lib.hid hlt
            have hlt' : (j : Int) < ((dealsE l).length : Int) := by omega
            obtain ⟨x, hx⟩ : ∃ x, (dealsE l)[j]? = some x := ⟨_, List.getElem?_eq_getElem hlt⟩
            obtain ⟨bp, op, hit, hct⟩ := (hM.oka 1 rfl).elem txc_25 hx Try.underlying42 (fun W => by kernel_rfl)
            have HIp := Lib.hid hit
            have HCp := Lib.hid hct
            clear hit hct
            obtain ⟨bq, oq, hit, hct⟩ := (hM.oka 3 rfl).elem txc_25 hx Try.underlying42 (fun W => by kernel_rfl)
            have HIq := Lib.hid hit
            have HCq := Lib.hid hct
            clear hit hct
            clear hx
            clear hlt
            go_upto_region 30 with fail
            refine wp_region_fromM (fun W => Sep w [] [.own evc 36 27 (.slice pv70 (ofE l c).length cv70) ((ofE l c)), .own (fun t => txc t) 33 25 (.slice pv69 (dealsE l).length cv69) ((dealsE l)), .own evc 36 27 (.slice pu22 (ofE l c).length cu22) ((ofE l c)), .own (fun t => txc t) 33 25 (.slice pu21 (dealsE l).length cu21) ((dealsE l))] W) hM ?_
            clear hM
            rintro Y74 hM
            refine tF 4 [.val 0 (some 187) (.int .i64 (j : Int)), .val 1 (some 188) (.slice pv69 (dealsE l).length cv69), .val 2 (some 189) (.int .i64 ((dealsE l).length : Int)), .alt 3 (some 190) (.bool (decide ((j : Int) < ((dealsE l).length : Int)))) (.bool true)] ⟨congrArg Value.bool (decide_eq_true hlt'), trivial⟩ ?_
            refine dF ?_
            try simp only [puts, Tk.put, Act.put, List.setIfInBounds_toArray, List.set_cons_zero, List.set_cons_succ]
            go_upto_region 32 with fail
            refine wp_region_M (fun W => Sep w [] [.own evc 36 27 (.slice pv70 (ofE l c).length cv70) ((ofE l c)), .own (fun t => txc t) 33 25 (.slice pv69 (dealsE l).length cv69) ((dealsE l)), .own evc 36 27 (.slice pu22 (ofE l c).length cu22) ((ofE l c)), .own (fun t => txc t) 33 25 (.slice pu21 (dealsE l).length cu21) ((dealsE l))] W) (fun W => Sep w [] [.own evc 36 27 (.slice pv70 (ofE l c).length cv70) ((ofE l c)), .own (fun t => txc t) 33 25 (.slice pv69 (dealsE l).length cv69) ((dealsE l)), .own evc 36 27 (.slice pu22 (ofE l c).length cu22) ((ofE l c)), .own (fun t => txc t) 33 25 (.slice pu21 (dealsE l).length cu21) ((dealsE l))] W) hmx hM.drew ?_
            clear hM
            rintro Y75 hM
            have hS := hM.sub (.cons_cons _ (.cons_cons _ (.cons_cons _ (.cons_cons _ .slnil))))
            refine tD 1 [.val 0 (some 193) (.slice pv69 (dealsE l).length cv69), .val 1 (some 194) (.int .i64 (j : Int)), .idx 2 (some 195) 42 (.slice pv69 (dealsE l).length cv69) (.int .i64 (j : Int)) (pt bp op), .load 3 (some 196) 33 (pt bp op) (txv x), .val 4 (some 197) (.slice pu21 (dealsE l).length cu21), .val 5 (some 198) (.int .i64 (j : Int)), .idx 6 (some 199) 42 (.slice pu21 (dealsE l).length cu21) (.int .i64 (j : Int)) (pt bq oq), .load 7 (some 200) 33 (pt bq oq) (txv x)] ⟨fun W h => HIp.out _, fun W h => ld_cells (txc x) _ _ Try.underlying33 rfl (by kernel_rfl) (HCp.out _ (h.oka 1 rfl)), fun W h => HIq.out _, fun W h => ld_cells (txc x) _ _ Try.underlying33 rfl (by kernel_rfl) (HCq.out _ (h.oka 3 rfl)), trivial⟩ hS ?_
            refine oD 8 0 (unD (.tmp 196) (.tmp 200) 33 (some 201) (txc x).toArray (txc x).toArray true (Eq.trans (run_eqT x x _) (congrArg (fun z => Result.ok z _) (eqT_refl _))) hS ?_)
            refine dD ?_
            try simp only [puts, Tk.put, Act.put, List.setIfInBounds_toArray, List.set_cons_zero, List.set_cons_succ]
            clear hS
            go_upto_region 31 with fail
            refine wp_region_fromM (fun W => Sep w [] [.own evc 36 27 (.slice pv70 (ofE l c).length cv70) ((ofE l c)), .own (fun t => txc t) 33 25 (.slice pv69 (dealsE l).length cv69) ((dealsE l)), .own evc 36 27 (.slice pu22 (ofE l c).length cu22) ((ofE l c)), .own (fun t => txc t) 33 25 (.slice pu21 (dealsE l).length cu21) ((dealsE l))] W) hM ?_
            clear hM
            rintro Y76 hM
            refine tF 3 [.val 0 (some 191) (.int .i64 (j : Int)), .alt 1 (some 192) (.int .i64 (IntKind.i64.wrap ((j : Int) + 1))) (.int .i64 ((j + 1 : Nat) : Int)), .val 2 (some 27) (.int .i64 ((j + 1 : Nat) : Int))] ⟨congrArg (Value.int .i64) ((IntWalk.i64_in _ (by have := HX63.out; have := HJ.out; omega)).trans (by omega)), trivial⟩ ?_
            refine dF ?_
            try simp only [puts, Tk.put, Act.put, List.setIfInBounds_toArray, List.set_cons_zero, List.set_cons_succ]
            go_wp2_with fail
            go_roundw
            case rel => exact ⟨j + 1, HJ.out, rfl, hM⟩
            case measure => have := HJ.out; simp [intOf]; omega
          case neg =>
            obtain rfl : j = (dealsE l).length := by omega
            go_upto_region 30 with fail
            refine wp_region_fromM (fun W => Sep w [] [.own evc 36 27 (.slice pv70 (ofE l c).length cv70) ((ofE l c)), .own (fun t => txc t) 33 25 (.slice pv69 (dealsE l).length cv69) ((dealsE l)), .own evc 36 27 (.slice pu22 (ofE l c).length cu22) ((ofE l c)), .own (fun t => txc t) 33 25 (.slice pu21 (dealsE l).length cu21) ((dealsE l))] W) hM ?_
            clear hM
            rintro Y77 hM
            refine tF 4 [.val 0 (some 187) (.int .i64 ((dealsE l).length : Int)), .val 1 (some 188) (.slice pv69 (dealsE l).length cv69), .val 2 (some 189) (.int .i64 ((dealsE l).length : Int)), .alt 3 (some 190) (.bool (decide (((dealsE l).length : Int) < ((dealsE l).length : Int)))) (.bool false)] ⟨congrArg Value.bool (decide_eq_false (by omega)), trivial⟩ ?_
            refine dF ?_
            try simp only [puts, Tk.put, Act.put, List.setIfInBounds_toArray, List.set_cons_zero, List.set_cons_succ]
            go_upto_region 34 with fail
            refine wp_region_fromM (fun W => Sep w [] [.own evc 36 27 (.slice pv70 (ofE l c).length cv70) ((ofE l c)), .own (fun t => txc t) 33 25 (.slice pv69 (dealsE l).length cv69) ((dealsE l)), .own evc 36 27 (.slice pu22 (ofE l c).length cu22) ((ofE l c)), .own (fun t => txc t) 33 25 (.slice pu21 (dealsE l).length cu21) ((dealsE l))] W) hM ?_
            clear hM
            rintro Y78 hM
            refine tF 1 [.val 0 (some 28) (.int .i64 0)] trivial ?_
            refine dF ?_
            try simp only [puts, Tk.put, Act.put, List.setIfInBounds_toArray, List.set_cons_zero, List.set_cons_succ]
            have HX63 := Lib.hid (show (ofE l c).length ≤ 9223372036854775806 from by have h := HR.out; have h2 : (ofE l c).length ≤ l.length := List.length_filter_le _ _; omega)
            go_wp2_with fail
            go_loopw [28] (fun u28 wr => ∃ j : Nat, j ≤ (ofE l c).length ∧ u28 = .int .i64 (j : Int) ∧ Sep w [] [.own evc 36 27 (.slice pv70 (ofE l c).length cv70) ((ofE l c)), .own (fun t => txc t) 33 25 (.slice pv69 (dealsE l).length cv69) ((dealsE l)), .own evc 36 27 (.slice pu22 (ofE l c).length cu22) ((ofE l c)), .own (fun t => txc t) 33 25 (.slice pu21 (dealsE l).length cu21) ((dealsE l))] wr) (fun u28 _ => (ofE l c).length - (intOf u28).toNat)
            case atStart => exact ⟨0, Nat.zero_le _, rfl, hM⟩
            clear hM
            case round =>
              obtain ⟨j, hj, rfl, hM⟩ := hrel
              by_cases hlt : j < (ofE l c).length
              case pos =>
                have HJ := Lib.hid hlt
                have hlt' : (j : Int) < ((ofE l c).length : Int) := by omega
                obtain ⟨x, hx⟩ : ∃ x, (ofE l c)[j]? = some x := ⟨_, List.getElem?_eq_getElem hlt⟩
                obtain ⟨bp, op, hit, hct⟩ := (hM.oka 0 rfl).elem evc_len hx Try.underlying22 (fun W => by kernel_rfl)
                have HIp := Lib.hid hit
                have HCp := Lib.hid hct
                clear hit hct
                obtain ⟨bq, oq, hit, hct⟩ := (hM.oka 2 rfl).elem evc_len hx Try.underlying22 (fun W => by kernel_rfl)
                have HIq := Lib.hid hit
                have HCq := Lib.hid hct
                clear hit hct
                clear hx
                clear hlt
                go_upto_region 35 with fail
                refine wp_region_fromM (fun W => Sep w [] [.own evc 36 27 (.slice pv70 (ofE l c).length cv70) ((ofE l c)), .own (fun t => txc t) 33 25 (.slice pv69 (dealsE l).length cv69) ((dealsE l)), .own evc 36 27 (.slice pu22 (ofE l c).length cu22) ((ofE l c)), .own (fun t => txc t) 33 25 (.slice pu21 (dealsE l).length cu21) ((dealsE l))] W) hM ?_
                clear hM
                rintro Y79 hM
                refine tF 4 [.val 0 (some 202) (.int .i64 (j : Int)), .val 1 (some 203) (.slice pv70 (ofE l c).length cv70), .val 2 (some 204) (.int .i64 ((ofE l c).length : Int)), .alt 3 (some 205) (.bool (decide ((j : Int) < ((ofE l c).length : Int)))) (.bool true)] ⟨congrArg Value.bool (decide_eq_true hlt'), trivial⟩ ?_
                refine dF ?_
                try simp only [puts, Tk.put, Act.put, List.setIfInBounds_toArray, List.set_cons_zero, List.set_cons_succ]
                go_upto_region 37 with fail
                refine wp_region_M (fun W => Sep w [] [.own evc 36 27 (.slice pv70 (ofE l c).length cv70) ((ofE l c)), .own (fun t => txc t) 33 25 (.slice pv69 (dealsE l).length cv69) ((dealsE l)), .own evc 36 27 (.slice pu22 (ofE l c).length cu22) ((ofE l c)), .own (fun t => txc t) 33 25 (.slice pu21 (dealsE l).length cu21) ((dealsE l))] W) (fun W => Sep w [] [.own evc 36 27 (.slice pv70 (ofE l c).length cv70) ((ofE l c)), .own (fun t => txc t) 33 25 (.slice pv69 (dealsE l).length cv69) ((dealsE l)), .own evc 36 27 (.slice pu22 (ofE l c).length cu22) ((ofE l c)), .own (fun t => txc t) 33 25 (.slice pu21 (dealsE l).length cu21) ((dealsE l))] W) hmx hM.drew ?_
                clear hM
                rintro Y80 hM
                have hS := hM.sub (.cons_cons _ (.cons_cons _ (.cons_cons _ (.cons_cons _ .slnil))))
                refine tD 1 [.val 0 (some 208) (.slice pv70 (ofE l c).length cv70), .val 1 (some 209) (.int .i64 (j : Int)), .idx 2 (some 210) 22 (.slice pv70 (ofE l c).length cv70) (.int .i64 (j : Int)) (pt bp op), .load 3 (some 211) 36 (pt bp op) (evv x), .val 4 (some 212) (.slice pu22 (ofE l c).length cu22), .val 5 (some 213) (.int .i64 (j : Int)), .idx 6 (some 214) 22 (.slice pu22 (ofE l c).length cu22) (.int .i64 (j : Int)) (pt bq oq), .load 7 (some 215) 36 (pt bq oq) (evv x)] ⟨fun W h => HIp.out _, fun W h => ld_cells (evc x) _ _ Try.underlying36 rfl (by kernel_rfl) (HCp.out _ (h.oka 0 rfl)), fun W h => HIq.out _, fun W h => ld_cells (evc x) _ _ Try.underlying36 rfl (by kernel_rfl) (HCq.out _ (h.oka 2 rfl)), trivial⟩ hS ?_
                refine oD 8 0 (unD (.tmp 211) (.tmp 215) 36 (some 216) (evc x).toArray (evc x).toArray true (Eq.trans (run_eqE x x _) (congrArg (fun z => Result.ok z _) (eqE_refl _))) hS ?_)
                refine dD ?_
                try simp only [puts, Tk.put, Act.put, List.setIfInBounds_toArray, List.set_cons_zero, List.set_cons_succ]
                clear hS
                go_upto_region 36 with fail
                refine wp_region_fromM (fun W => Sep w [] [.own evc 36 27 (.slice pv70 (ofE l c).length cv70) ((ofE l c)), .own (fun t => txc t) 33 25 (.slice pv69 (dealsE l).length cv69) ((dealsE l)), .own evc 36 27 (.slice pu22 (ofE l c).length cu22) ((ofE l c)), .own (fun t => txc t) 33 25 (.slice pu21 (dealsE l).length cu21) ((dealsE l))] W) hM ?_
                clear hM
                rintro Y81 hM
                refine tF 3 [.val 0 (some 206) (.int .i64 (j : Int)), .alt 1 (some 207) (.int .i64 (IntKind.i64.wrap ((j : Int) + 1))) (.int .i64 ((j + 1 : Nat) : Int)), .val 2 (some 28) (.int .i64 ((j + 1 : Nat) : Int))] ⟨congrArg (Value.int .i64) ((IntWalk.i64_in _ (by have := HX63.out; have := HJ.out; omega)).trans (by omega)), trivial⟩ ?_
                refine dF ?_
                try simp only [puts, Tk.put, Act.put, List.setIfInBounds_toArray, List.set_cons_zero, List.set_cons_succ]
                go_wp2_with fail
                go_roundw
                case rel => exact ⟨j + 1, HJ.out, rfl, hM⟩
                case measure => have := HJ.out; simp [intOf]; omega
              case neg =>
                obtain rfl : j = (ofE l c).length := by omega
                go_upto_region 35 with fail
                refine wp_region_fromM (fun W => Sep w [] [.own evc 36 27 (.slice pv70 (ofE l c).length cv70) ((ofE l c)), .own (fun t => txc t) 33 25 (.slice pv69 (dealsE l).length cv69) ((dealsE l)), .own evc 36 27 (.slice pu22 (ofE l c).length cu22) ((ofE l c)), .own (fun t => txc t) 33 25 (.slice pu21 (dealsE l).length cu21) ((dealsE l))] W) hM ?_
                clear hM
                rintro Y82 hM
                refine tF 4 [.val 0 (some 202) (.int .i64 ((ofE l c).length : Int)), .val 1 (some 203) (.slice pv70 (ofE l c).length cv70), .val 2 (some 204) (.int .i64 ((ofE l c).length : Int)), .alt 3 (some 205) (.bool (decide (((ofE l c).length : Int) < ((ofE l c).length : Int)))) (.bool false)] ⟨congrArg Value.bool (decide_eq_false (by omega)), trivial⟩ ?_
                refine dF ?_
                try simp only [puts, Tk.put, Act.put, List.setIfInBounds_toArray, List.set_cons_zero, List.set_cons_succ]
                go_upto_region 39 with fail
                refine wp_region_fromM (fun W => Sep w [] [.own evc 36 27 (.slice pv70 (ofE l c).length cv70) ((ofE l c)), .own (fun t => txc t) 33 25 (.slice pv69 (dealsE l).length cv69) ((dealsE l)), .own evc 36 27 (.slice pu22 (ofE l c).length cu22) ((ofE l c)), .own (fun t => txc t) 33 25 (.slice pu21 (dealsE l).length cu21) ((dealsE l))] W) hM ?_
                clear hM
                rintro Y83 hM
                refine tF 1 [.val 0 (some 6) (.bool true)] trivial ?_
                refine dF ?_
                try simp only [puts, Tk.put, Act.put, List.setIfInBounds_toArray, List.set_cons_zero, List.set_cons_succ]
                go_wp2_with fail
                go_ret
                exact ⟨rfl, hM.b⟩
end Go.Proofs.Ythbpidekfocioaa
namespace Go.Proofs.Ythbpidekfocioaa
open Go.ChangeShapes Go.WideShapes Go.ChangeAt Go.RowKit Go.Deep
open Go.ChangeMaps (open_string)
set_option maxRecDepth 100000 in
theorem scanTells_lifted (os : Os) (started : os.Started) (H : Type) (enc : TypeId × Value → H) :
    ReturnsInHanded {} Try.checked os 3 .any (Rows.scanTellsSpec.pre6 enc Try.prog Try.f3 Rows.scanTellsRow.domain false) (Rows.scanTellsSpec.post enc Try.prog Try.f3 false true false false) := by
  refine returnsInHanded_of_change_sized (C := Try.checked) Try.own started (by kernel_rfl) Try.func3
    (ChangeSpec.witness6 (enc := enc) (C := Try.checked) false ⟨#[], #[.slice none 0 0, .int .i64 0, .int .i64 0], []⟩ 8 (by kernel_rfl) (by kernel_rfl) (by kernel_rfl) (by kernel_rfl)) ?_
  intro W base args ds gs before hval0 hW hcnd hsz0 _
  have hval : ∀ (j : Nat) t v, Try.f3.params[j]? = some t → args[j]? = some v → Value.okWide Try.prog W .any base t v := hval0
  have hW' := hW
  obtain ⟨p, q, hA0, hV, rfl, hfz, hnd⟩ := hW
  have hA : DataW.TrodAll enc Try.prog W 0 (fun _ => true) true Try.f3.params.toList args.toList ds p := hA0
  have hsz : (DataW.weightsEach Try.prog (Try.f3.params.toList ++ Rows.scanTellsSpec.plain.varTypes Try.prog) (ds ++ gs)).all (· ≤ reachBytes) = true := hsz0
  rw [Try.params3] at hA hval hsz
  obtain ⟨v0, v1, v2, d0, d1, d2, p0, p1, p2, rfl, rfl, rfl, h0, h1, h2⟩ := trodAll_three hA
  obtain ⟨rfl, rfl⟩ := trodVars_none hV
  obtain ⟨a0, len0, cap0, rfl⟩ := okWide_slice Try.underlying22 (hval 0 22 v0 rfl rfl)
  have k0 := h0
  have k1 := h1
  have k2 := h2
  have lt0 : ∀ x ∈ p0, x.block < W.heap.size := by obtain ⟨m, hm⟩ := k0; exact DataW.trod_lt m _ _ _ hm
  have lt1 : ∀ x ∈ p1, x.block < W.heap.size := by obtain ⟨m, hm⟩ := k1; exact DataW.trod_lt m _ _ _ hm
  have lt2 : ∀ x ∈ p2, x.block < W.heap.size := by obtain ⟨m, hm⟩ := k2; exact DataW.trod_lt m _ _ _ hm
  obtain ⟨l0, hsl0, hok0, hln0⟩ := open_evn h0 (fun n hn => sized_in hsz (j := 0) (t := 22) rfl rfl n hn)
  obtain ⟨z1, rfl, _, _, wf1⟩ := open_int Try.underlying3 (hval 1 3 v1 rfl rfl) h1
  obtain ⟨zl1, zh1⟩ := wf_i64 wf1
  obtain ⟨z2, rfl, _, _, wf2⟩ := open_int Try.underlying3 (hval 2 3 v2 rfl rfl) h2
  obtain ⟨zl2, zh2⟩ := wf_i64 wf2
  clear hA0 hval0
  refine (scanTells_any z1 z2 l0 _ W hsl0 (Nat.le_refl _) (by omega)).mono fun e W' ⟨he, bel⟩ => ?_
  subst he
  exact ⟨_, rfl, _, _, _, [], _, [], hW', trodAll_mk1 (shut_bool Try.underlying4 _), (trodAll_mk3 (Below.trod Try.laidOut (by kernel_rfl) (of_decide_eq_true (by kernel_rfl)) k0 bel lt0) (Below.trod Try.laidOut (by kernel_rfl) (of_decide_eq_true (by kernel_rfl)) k1 bel lt1) (Below.trod Try.laidOut (by kernel_rfl) (of_decide_eq_true (by kernel_rfl)) k2 bel lt2)), rfl, bel.frame _, fun h => by cases h⟩
theorem scanTells_over : Rows.scanTellsRow.holds Try.pinned (OpenSpec.ofChange Rows.scanTellsSpec) :=
  OpenClaim.holds_of_wide 3 Try.f3 rfl rfl rfl rfl rfl rfl rfl ⟨rfl, rfl, rfl, rfl, rfl⟩ rfl rfl rfl rfl rfl (by kernel_rfl) Try.func3 (by kernel_rfl)
    (of_decide_eq_true (by kernel_rfl)) (by unfold Func.isWrapper; first | (rw [if_pos (by decide +kernel)]; kernel_rfl) | (rw [if_neg (by decide +kernel)]; exact ⟨rfl, rfl⟩))
    (fun os started H enc _ => scanTells_lifted os started H enc)
theorem scanTells_proved : Rows.ScanTellsSaid := scanTells_over
end Go.Proofs.Ythbpidekfocioaa
