/-
  ScanMore answers true at every input of bulk 1048576 at most, and leaves its arguments as they are.
-/
import Derived.Deep.Slices
import Derived.SizedLaws
import Derived.Carry
import Derived.JoinedCond
import Derived.ChangeMaps5
import Derived.Test.YthbpidekfocioaaK08
namespace Go.Proofs.Ythbpidekfocioaa
open Go.RowKit Go.Shelf
attribute [local irreducible] wpFrom wpAnyH StepH
theorem more_some {l more : List Ev} {key : ByteArray} {kind : Int} (h : (firstE l key kind).isSome = true) : (firstE (l ++ more) key kind).isSome = true ∧ eqE (foundE (firstE l key kind)) (foundE (firstE (l ++ more) key kind)) = true := by
  obtain ⟨a, ha⟩ := Option.isSome_iff_exists.1 h
  rw [ha, first_app ha]
  exact ⟨rfl, eqE_refl _⟩
theorem deals_le (l : List Ev) : (dealsE l).length ≤ l.length := by unfold dealsE; rw [List.length_map]; exact List.length_filter_le _ _
set_option maxRecDepth 100000 in
set_option maxHeartbeats 4000000 in
theorem scanMore_any (a : Int) (l more : List Ev) (v v2 : Value) (w : World) {lo hi lo2 hi2 : Nat} (hl : RSl evc lo hi w v l) (hhi : hi ≤ w.heap.size) (hl2 : RSl evc lo2 hi2 w v2 more) (hhi2 : hi2 ≤ w.heap.size) (hr : (l.length + more.length) * 240 ≤ 140737488355328) : Calls Try.prog 4 #[v, v2, .int .i64 a] w fun e W' => e = .returned (.bool true) ∧ Below w.heap.size w W' := by
  have hmx : Try.prog.follows .mixedOrders = true := by kernel_rfl
  have HEl := Lib.hid (fun k x (hx : l[k]? = some x) => hl.elem evc_len hx Try.underlying22 (fun W => by kernel_rfl))
  obtain ⟨pl, cl, rfl⟩ := hl.slice
  have HLl := Lib.hid hl
  have HHl := Lib.hid hhi
  have HLENl := Lib.hid (show l.length ≤ 9223372036854775807 from by have h := hl.len; unfold maxLen at h; omega)
  clear hl hhi
  have HEm := Lib.hid (fun k x (hx : more[k]? = some x) => hl2.elem evc_len hx Try.underlying22 (fun W => by kernel_rfl))
  obtain ⟨pm, cm, rfl⟩ := hl2.slice
  have HLm := Lib.hid hl2
  have HHm := Lib.hid hhi2
  have HLENm := Lib.hid (show more.length ≤ 9223372036854775807 from by have h := hl2.len; unfold maxLen at h; omega)
  clear hl2 hhi2
  have HR := Lib.hid hr
  clear hr
  have hM := Sep.start w
  have HL60 := Lib.hid (show l.length ≤ 4611686018427387903 by have h := HR.out; omega)
  go_enter Try.func4, Try.ntmps4
  go_upto_region 0 with fail
  refine wp_region_fromM (fun W => Sep w [] [] W) hM ?_
  clear hM
  rintro Y1 hM
  refine tF 1 [.val 0 (some 6) (.bool false)] trivial ?_
  refine dF ?_
  try simp only [puts, Tk.put, Act.put, List.setIfInBounds_toArray, List.set_cons_zero, List.set_cons_succ]
  go_upto_region 1 with fail
  refine wp_region_fromM (fun W => Sep w [] [] W) hM ?_
  clear hM
  rintro Y2 hM
  refine cF (some 14) 6 #[] ((alive14_any _).mono ?_)
  rintro e Y3 ⟨rfl, hb⟩
  replace hM := hM.below hb
  clear hb
  refine tF 2 [.val 1 (some 15) (.bool false)] trivial ?_
  refine dF ?_
  try simp only [puts, Tk.put, Act.put, List.setIfInBounds_toArray, List.set_cons_zero, List.set_cons_succ]
  go_upto_region 3 with fail
  refine wp_region_fromM (fun W => Sep w [] [] W) hM ?_
  clear hM
  rintro Y4 hM
  refine tF 3 [.val 0 (some 16) (.slice pl l.length cl), .val 1 (some 17) (.int .i64 (l.length : Int)), .val 2 (some 7) (.int .i64 (l.length : Int))] trivial ?_
  refine dF ?_
  try simp only [puts, Tk.put, Act.put, List.setIfInBounds_toArray, List.set_cons_zero, List.set_cons_succ]
  go_upto_region 4 with fail
  refine wp_region_fromM (fun W => Sep w [] [] W) hM ?_
  clear hM
  rintro Y5 hM
  refine tF 2 [.val 0 (some 18) (.int .i64 (l.length : Int)), .val 1 (some 19) (.bool ((l.length : Int) == 0))] trivial ?_
  refine dF ?_
  try simp only [puts, Tk.put, Act.put, List.setIfInBounds_toArray, List.set_cons_zero, List.set_cons_succ]
  cases hb1 : (l.length : Int) == 0 with
  | false =>
    have Hhb1 := Lib.hid hb1
    clear hb1
    have hn : 0 < l.length := by have h := beq_eq_false_iff_ne.1 Hhb1.out; omega
    have HN0 := Lib.hid (show (l.length : Int) ≠ 0 by omega)
    have HAT := Lib.hid (atC_eq a hn)
    have HSM := Lib.hid (atC_sum a hn HL60.out)
    obtain ⟨x, hx⟩ : ∃ x, l[(atC a l.length)]? = some x := ⟨_, List.getElem?_eq_getElem (atC_lt a hn)⟩
    obtain ⟨bl, ol, _, _, hit, hct⟩ := HEl.out (atC a l.length) x hx
    have HXl := Lib.hid hx
    have HIl := Lib.hid hit
    have HCl := Lib.hid hct
    clear hx hit hct
    clear hn
    go_upto_region 6 with fail
    refine wp_region_fromM (fun W => Sep w [] [] W) hM ?_
    clear hM
    rintro Y6 hM
    refine tF 3 [.val 0 (some 20) (.slice pl l.length cl), .val 1 (some 21) (.int .i64 a), .val 2 (some 22) (.int .i64 (l.length : Int))] trivial ?_
    refine remF (.tmp 21) (.tmp 22) 3 3 (some 23) a (l.length : Int) (Int.tmod a (l.length : Int)) HN0.out rfl ?_
    refine tF 7 [.val 4 (some 24) (.int .i64 (l.length : Int)), .alt 5 (some 25) (.int .i64 (IntKind.i64.wrap ((Int.tmod a (l.length : Int)) + (l.length : Int)))) (.int .i64 (Int.tmod a (l.length : Int) + (l.length : Int))), .val 6 (some 26) (.int .i64 (l.length : Int))] ⟨congrArg (Value.int .i64) (HSM.out), trivial⟩ ?_
    refine remF (.tmp 25) (.tmp 26) 3 3 (some 27) (Int.tmod a (l.length : Int) + (l.length : Int)) (l.length : Int) ((atC a l.length) : Int) HN0.out HAT.out ?_
    refine tF 12 [.idx 8 (some 28) 22 (.slice pl l.length cl) (.int .i64 ((atC a l.length) : Int)) (pt bl ol), .val 9 (some 29) (pt bl (ol + 2)), .val 10 (some 30) (pt bl (ol + 2 + 8)), .load 11 (some 31) 29 (pt bl (ol + 2 + 8)) (ivv x.tx.iv)] ⟨HIl.out _, ld_cellsAt (HCl.out _ (HLl.out.below hM.b HHl.out)) 10 (ivc x.tx.iv) rfl _ _ Try.underlying29 rfl (by kernel_rfl), trivial⟩ ?_
    refine cF (some 32) 7 #[ivv x.tx.iv] ((key_any x.tx.iv _).mono ?_)
    rintro e Y7 ⟨rfl, hb⟩
    replace hM := hM.below hb
    clear hb
    refine tF 14 [.val 13 (some 8) (.string (keyB x.tx.iv))] trivial ?_
    refine dF ?_
    try simp only [puts, Tk.put, Act.put, List.setIfInBounds_toArray, List.set_cons_zero, List.set_cons_succ]
    go_upto_region 7 with fail
    refine wp_region_fromM (fun W => Sep w [] [] W) hM ?_
    clear hM
    rintro Y8 hM
    refine rF (some 33) (.slice (some ⟨Y8.heap.size, 0, none⟩) 0 0) (Y8.alloc (.cells ([]).toArray 36)) ?_
    replace hM := hM.alloc 36 ([])
    generalize World.alloc _ _ = Y9 at *
    generalize hNe : Y8.heap.size = N9 at *
    clear hNe
    replace hM := hM.mtrow (f := evc) (n := 27)
    refine tF 2 [.val 1 (some 34) (.slice pl l.length cl)] trivial ?_
    obtain ⟨v10, Y10, hrun, ht⟩ := own_appR infoEv rfl (by decide) Try.underlying22 evc_len evc_one (hM.oka 0 rfl) (HLl.out.below hM.b HHl.out) (by decide) ((by have := HR.out; first | (rw [List.length_nil]; omega) | omega)) 22
    replace hM := hM.turn 0 rfl ht rfl
    clear ht
    refine wpFrom_append (d := some 35) (t := 22) (t' := 22) (ty := 22) (v := .slice (some ⟨N9, 0, none⟩) 0 0) (x := .slice pl l.length cl) (by kernel_rfl) hrun ?_
    clear hrun
    replace hM : Sep w [] [.own evc 36 27 (v10) (l)] Y10 := hM
    refine tF 4 [.val 3 (some 36) (.slice pm more.length cm)] trivial ?_
    obtain ⟨v11, Y11, hrun, ht⟩ := own_appR infoEv rfl (by decide) Try.underlying22 evc_len evc_one (hM.oka 0 rfl) (HLm.out.below hM.b HHm.out) (by decide) ((by have := HR.out; first | (rw [List.length_nil]; omega) | omega)) 22
    replace hM := hM.turn 0 rfl ht rfl
    clear ht
    refine wpFrom_append (d := some 37) (t := 22) (t' := 22) (ty := 22) (v := v10) (x := .slice pm more.length cm) (by kernel_rfl) hrun ?_
    clear hrun
    refine tF 6 [.val 5 (some 9) (v11)] trivial ?_
    refine dF ?_
    try simp only [puts, Tk.put, Act.put, List.setIfInBounds_toArray, List.set_cons_zero, List.set_cons_succ]
    go_upto_region 8 with fail
    refine wp_region_fromM (fun W => Sep w [] [.own evc 36 27 (v11) (l ++ more)] W) hM ?_
    clear hM
    rintro Y12 hM
    refine tF 2 [.val 0 (some 39) (.slice pl l.length cl), .val 1 (some 40) (.string (keyB x.tx.iv))] trivial ?_
    refine cF (some 41) 9 #[.slice pl l.length cl, .string (keyB x.tx.iv)] ((fulfilled_any (keyB x.tx.iv) l _ _ (HLl.out.below hM.b HHl.out) (Nat.le_trans HHl.out hM.size)).mono ?_)
    rintro e Y13 ⟨rfl, hb⟩
    replace hM := hM.below hb
    clear hb
    refine tF 6 [.val 3 (some 38) (.tuple #[evv (foundE (firstE l (keyB x.tx.iv) 5)), .bool (firstE l (keyB x.tx.iv) 5).isSome]), .val 4 (some 42) (evv (foundE (firstE l (keyB x.tx.iv) 5))), .val 5 (some 43) (.bool (firstE l (keyB x.tx.iv) 5).isSome)] trivial ?_
    refine rF (some 10) (pt Y13.heap.size 0) (Y13.alloc (.cells (evc noE).toArray 36)) ?_
    replace hM := hM.alloc 36 (evc noE)
    generalize World.alloc _ _ = Y14 at *
    generalize hNe : Y13.heap.size = N14 at *
    clear hNe
    have hst := sto_part (evc (foundE (firstE l (keyB x.tx.iv) 5))) (hM.at 0 rfl) 0 36 (evv (foundE (firstE l (keyB x.tx.iv) 5))) (evc (foundE (firstE l (keyB x.tx.iv) 5))) rfl (by kernel_rfl) (Nat.le_of_ble_eq_true rfl) rfl rfl
    refine sF 36 (pt N14 0) (evv (foundE (firstE l (keyB x.tx.iv) 5))) (hst) ?_
    clear hst
    replace hM := hM.set 0 (cs' := evc (foundE (firstE l (keyB x.tx.iv) 5))) rfl rfl
    generalize World.setRow _ _ _ = Y15 at *
    refine tF 9 [.val 8 (some 11) (.bool (firstE l (keyB x.tx.iv) 5).isSome)] trivial ?_
    refine dF ?_
    try simp only [puts, Tk.put, Act.put, List.setIfInBounds_toArray, List.set_cons_zero, List.set_cons_succ]
    go_upto_region 9 with fail
    refine wp_region_fromM (fun W => Sep w [] [.blk N14 36 (evc (foundE (firstE l (keyB x.tx.iv) 5))), .own evc 36 27 (v11) (l ++ more)] W) hM ?_
    clear hM
    rintro Y16 hM
    refine tF 2 [.val 0 (some 45) (v11), .val 1 (some 46) (.string (keyB x.tx.iv))] trivial ?_
    refine cF (some 47) 9 #[v11, .string (keyB x.tx.iv)] ((fulfilled_any (keyB x.tx.iv) (l ++ more) _ _ ((hM.oka 1 rfl).rsl evc_len) (Nat.le_refl _)).mono ?_)
    rintro e Y17 ⟨rfl, hb⟩
    replace hM := hM.below hb
    clear hb
    refine tF 6 [.val 3 (some 44) (.tuple #[evv (foundE (firstE (l ++ more) (keyB x.tx.iv) 5)), .bool (firstE (l ++ more) (keyB x.tx.iv) 5).isSome]), .val 4 (some 48) (evv (foundE (firstE (l ++ more) (keyB x.tx.iv) 5))), .val 5 (some 49) (.bool (firstE (l ++ more) (keyB x.tx.iv) 5).isSome)] trivial ?_
    refine rF (some 12) (pt Y17.heap.size 0) (Y17.alloc (.cells (evc noE).toArray 36)) ?_
    replace hM := hM.alloc 36 (evc noE)
    generalize World.alloc _ _ = Y18 at *
    generalize hNe : Y17.heap.size = N18 at *
    clear hNe
    have hst := sto_part (evc (foundE (firstE (l ++ more) (keyB x.tx.iv) 5))) (hM.at 0 rfl) 0 36 (evv (foundE (firstE (l ++ more) (keyB x.tx.iv) 5))) (evc (foundE (firstE (l ++ more) (keyB x.tx.iv) 5))) rfl (by kernel_rfl) (Nat.le_of_ble_eq_true rfl) rfl rfl
    refine sF 36 (pt N18 0) (evv (foundE (firstE (l ++ more) (keyB x.tx.iv) 5))) (hst) ?_
    clear hst
    replace hM := hM.set 0 (cs' := evc (foundE (firstE (l ++ more) (keyB x.tx.iv) 5))) rfl rfl
    generalize World.setRow _ _ _ = Y19 at *
    refine tF 9 [.val 8 (some 13) (.bool (firstE (l ++ more) (keyB x.tx.iv) 5).isSome)] trivial ?_
    refine dF ?_
    try simp only [puts, Tk.put, Act.put, List.setIfInBounds_toArray, List.set_cons_zero, List.set_cons_succ]
    go_upto_region 10 with fail
    refine wp_region_fromM (fun W => Sep w [] [.blk N18 36 (evc (foundE (firstE (l ++ more) (keyB x.tx.iv) 5))), .blk N14 36 (evc (foundE (firstE l (keyB x.tx.iv) 5))), .own evc 36 27 (v11) (l ++ more)] W) hM ?_
    clear hM
    rintro Y20 hM
    refine tF 1 [.val 0 (some 50) (.bool (firstE l (keyB x.tx.iv) 5).isSome)] trivial ?_
    cases hb2 : (firstE l (keyB x.tx.iv) 5).isSome with
    | false =>
      have Hhb2 := Lib.hid hb2
      clear hb2
      refine tF 12 [.val 1 (some 51) (.bool true), .val 2 (some 52) (.bool true), .skip 3 (some 53), .skip 4 (some 54), .skip 5 (some 55), .skip 6 (some 56), .skip 7 (some 57), .skip 8 (some 58), .val 9 (some 59) (.bool true), .val 10 (some 60) (.bool true), .val 11 (some 61) (v11)] trivial ?_
      refine cF (some 62) 12 #[v11] ((deals_any (l ++ more) _ _ ((hM.oka 2 rfl).rsl evc_len) (Nat.le_refl _) (by rw [List.length_append]; exact HR.out)).mono ?_)
      rintro e Y21 ⟨v21, rfl, hR⟩
      replace hM := hM.gain hR
      clear hR
      obtain ⟨pv21, cv21, rfl⟩ := (hM.oka 0 rfl).slice txc_25
      refine tF 15 [.val 13 (some 63) (.int .i64 ((dealsE (l ++ more)).length : Int)), .val 14 (some 64) (.slice pl l.length cl)] trivial ?_
      refine cF (some 65) 12 #[.slice pl l.length cl] ((deals_any l _ _ (HLl.out.below hM.b HHl.out) (Nat.le_trans HHl.out hM.size) (by have := HR.out; omega)).mono ?_)
      rintro e Y22 ⟨v22, rfl, hR⟩
      replace hM := hM.gain hR
      clear hR
      obtain ⟨pv22, cv22, rfl⟩ := (hM.oka 0 rfl).slice txc_25
      refine tF 18 [.val 16 (some 66) (.int .i64 ((dealsE l).length : Int)), .val 17 (some 67) (.slice pm more.length cm)] trivial ?_
      refine cF (some 68) 12 #[.slice pm more.length cm] ((deals_any more _ _ (HLm.out.below hM.b HHm.out) (Nat.le_trans HHm.out hM.size) (by have := HR.out; omega)).mono ?_)
      rintro e Y23 ⟨v23, rfl, hR⟩
      replace hM := hM.gain hR
      clear hR
      obtain ⟨pv23, cv23, rfl⟩ := (hM.oka 0 rfl).slice txc_25
      refine tF 25 [.val 19 (some 69) (.int .i64 ((dealsE more).length : Int)), .alt 20 (some 70) (.int .i64 (IntKind.i64.wrap (((dealsE l).length : Int) + ((dealsE more).length : Int)))) (.int .i64 ((dealsE (l ++ more)).length : Int)), .alt 21 (some 71) (.bool (((dealsE (l ++ more)).length : Int) == ((dealsE (l ++ more)).length : Int))) (.bool true), .val 22 (some 72) (.bool true), .val 23 (some 73) (.bool true), .val 24 (some 74) (v11)] ⟨congrArg (Value.int .i64) ((IntWalk.i64_in _ (by have h1 := HR.out; have h2 := deals_le l; have h3 := deals_le more; omega)).trans (by rw [deals_app, List.length_append]; omega)), congrArg Value.bool (beq_self_eq_true _), trivial⟩ ?_
      refine cF (some 75) 14 #[v11] ((last_any (l ++ more) _ _ ((hM.oka 5 rfl).rsl evc_len) (Nat.le_refl _)).mono ?_)
      rintro e Y24 ⟨rfl, hb⟩
      replace hM := hM.below hb
      clear hb
      refine tF 27 [.val 26 (some 76) (.slice pl l.length cl)] trivial ?_
      refine cF (some 77) 14 #[.slice pl l.length cl] ((last_any l _ _ (HLl.out.below hM.b HHl.out) (Nat.le_trans HHl.out hM.size)).mono ?_)
      rintro e Y25 ⟨rfl, hb⟩
      replace hM := hM.below hb
      clear hb
      refine tF 29 [.val 28 (some 78) (.slice pm more.length cm)] trivial ?_
      refine cF (some 79) 14 #[.slice pm more.length cm] ((last_any more _ _ (HLm.out.below hM.b HHm.out) (Nat.le_trans HHm.out hM.size)).mono ?_)
      rintro e Y26 ⟨rfl, hb⟩
      replace hM := hM.below hb
      clear hb
      refine tF 34 [.alt 30 (some 80) (.int .i64 (max2I (lastE (-1) l) (lastE (-1) more))) (.int .i64 (lastE (-1) (l ++ more))), .alt 31 (some 81) (.bool ((lastE (-1) (l ++ more)) == (lastE (-1) (l ++ more)))) (.bool true), .val 32 (some 82) (.bool true), .val 33 (some 6) (.bool true)] ⟨congrArg (Value.int .i64) ((max2I_eq _ _).trans (last_two l more).symm), congrArg Value.bool (beq_self_eq_true _), trivial⟩ ?_
      refine dF ?_
      try simp only [puts, Tk.put, Act.put, List.setIfInBounds_toArray, List.set_cons_zero, List.set_cons_succ]
      go_wp2_with fail
      go_ret
      exact ⟨rfl, hM.b⟩
    | true =>
      have Hhb2 := Lib.hid hb2
      clear hb2
      obtain ⟨hf1, hf2⟩ := more_some (more := more) Hhb2.out
      have HF1 := Lib.hid hf1
      have HF2 := Lib.hid hf2
      clear hf1 hf2
      refine tF 5 [.val 1 (some 51) (.bool false), .val 2 (some 52) (.bool false), .val 3 (some 53) (.bool (firstE (l ++ more) (keyB x.tx.iv) 5).isSome), .val 4 (some 54) (.bool (firstE (l ++ more) (keyB x.tx.iv) 5).isSome)] trivial ?_
      rw [show (firstE (l ++ more) (keyB x.tx.iv) 5).isSome = true from HF1.out]
      refine tF 7 [.load 5 (some 55) 36 (pt N14 0) (evv (foundE (firstE l (keyB x.tx.iv) 5))), .load 6 (some 56) 36 (pt N18 0) (evv (foundE (firstE (l ++ more) (keyB x.tx.iv) 5)))] ⟨load_part (hM.at 1 rfl) 0 (evc (foundE (firstE l (keyB x.tx.iv) 5))) rfl _ _ Try.underlying36 rfl (by kernel_rfl), load_part (hM.at 0 rfl) 0 (evc (foundE (firstE (l ++ more) (keyB x.tx.iv) 5))) rfl _ _ Try.underlying36 rfl (by kernel_rfl), trivial⟩ ?_
      refine eqA (.tmp 55) (.tmp 56) 36 (some 57) (evc (foundE (firstE l (keyB x.tx.iv) 5))).toArray (evc (foundE (firstE (l ++ more) (keyB x.tx.iv) 5))).toArray true (Eq.trans (run_eqE (foundE (firstE l (keyB x.tx.iv) 5)) (foundE (firstE (l ++ more) (keyB x.tx.iv) 5)) _) (congrArg (fun z => Result.ok z _) (HF2.out))) ?_
      refine tF 12 [.val 8 (some 58) (.bool true), .val 9 (some 59) (.bool true), .val 10 (some 60) (.bool true), .val 11 (some 61) (v11)] trivial ?_
      refine cF (some 62) 12 #[v11] ((deals_any (l ++ more) _ _ ((hM.oka 2 rfl).rsl evc_len) (Nat.le_refl _) (by rw [List.length_append]; exact HR.out)).mono ?_)
      rintro e Y27 ⟨v27, rfl, hR⟩
      replace hM := hM.gain hR
      clear hR
      obtain ⟨pv27, cv27, rfl⟩ := (hM.oka 0 rfl).slice txc_25
      refine tF 15 [.val 13 (some 63) (.int .i64 ((dealsE (l ++ more)).length : Int)), .val 14 (some 64) (.slice pl l.length cl)] trivial ?_
      refine cF (some 65) 12 #[.slice pl l.length cl] ((deals_any l _ _ (HLl.out.below hM.b HHl.out) (Nat.le_trans HHl.out hM.size) (by have := HR.out; omega)).mono ?_)
      rintro e Y28 ⟨v28, rfl, hR⟩
      replace hM := hM.gain hR
      clear hR
      obtain ⟨pv28, cv28, rfl⟩ := (hM.oka 0 rfl).slice txc_25
      refine tF 18 [.val 16 (some 66) (.int .i64 ((dealsE l).length : Int)), .val 17 (some 67) (.slice pm more.length cm)] trivial ?_
      refine cF (some 68) 12 #[.slice pm more.length cm] ((deals_any more _ _ (HLm.out.below hM.b HHm.out) (Nat.le_trans HHm.out hM.size) (by have := HR.out; omega)).mono ?_)
      rintro e Y29 ⟨v29, rfl, hR⟩
      replace hM := hM.gain hR
      clear hR
      obtain ⟨pv29, cv29, rfl⟩ := (hM.oka 0 rfl).slice txc_25
      refine tF 25 [.val 19 (some 69) (.int .i64 ((dealsE more).length : Int)), .alt 20 (some 70) (.int .i64 (IntKind.i64.wrap (((dealsE l).length : Int) + ((dealsE more).length : Int)))) (.int .i64 ((dealsE (l ++ more)).length : Int)), .alt 21 (some 71) (.bool (((dealsE (l ++ more)).length : Int) == ((dealsE (l ++ more)).length : Int))) (.bool true), .val 22 (some 72) (.bool true), .val 23 (some 73) (.bool true), .val 24 (some 74) (v11)] ⟨congrArg (Value.int .i64) ((IntWalk.i64_in _ (by have h1 := HR.out; have h2 := deals_le l; have h3 := deals_le more; omega)).trans (by rw [deals_app, List.length_append]; omega)), congrArg Value.bool (beq_self_eq_true _), trivial⟩ ?_
      refine cF (some 75) 14 #[v11] ((last_any (l ++ more) _ _ ((hM.oka 5 rfl).rsl evc_len) (Nat.le_refl _)).mono ?_)
      rintro e Y30 ⟨rfl, hb⟩
      replace hM := hM.below hb
      clear hb
      refine tF 27 [.val 26 (some 76) (.slice pl l.length cl)] trivial ?_
      refine cF (some 77) 14 #[.slice pl l.length cl] ((last_any l _ _ (HLl.out.below hM.b HHl.out) (Nat.le_trans HHl.out hM.size)).mono ?_)
      rintro e Y31 ⟨rfl, hb⟩
      replace hM := hM.below hb
      clear hb
      refine tF 29 [.val 28 (some 78) (.slice pm more.length cm)] trivial ?_
      refine cF (some 79) 14 #[.slice pm more.length cm] ((last_any more _ _ (HLm.out.below hM.b HHm.out) (Nat.le_trans HHm.out hM.size)).mono ?_)
      rintro e Y32 ⟨rfl, hb⟩
      replace hM := hM.below hb
      clear hb
      refine tF 34 [.alt 30 (some 80) (.int .i64 (max2I (lastE (-1) l) (lastE (-1) more))) (.int .i64 (lastE (-1) (l ++ more))), .alt 31 (some 81) (.bool ((lastE (-1) (l ++ more)) == (lastE (-1) (l ++ more)))) (.bool true), .val 32 (some 82) (.bool true), .val 33 (some 6) (.bool true)] ⟨congrArg (Value.int .i64) ((max2I_eq _ _).trans (last_two l more).symm), congrArg Value.bool (beq_self_eq_true _), trivial⟩ ?_
      refine dF ?_
      try simp only [puts, Tk.put, Act.put, List.setIfInBounds_toArray, List.set_cons_zero, List.set_cons_succ]
      go_wp2_with fail
      go_ret
      exact ⟨rfl, hM.b⟩
  | true =>
    have Hhb1 := Lib.hid hb1
    clear hb1
    go_upto_region 5 with fail
    refine wp_region_fromM (fun W => Sep w [] [] W) hM ?_
    clear hM
    rintro Y33 hM
    refine tF 1 [.val 0 (some 6) (.bool true)] trivial ?_
    refine dF ?_
    try simp only [puts, Tk.put, Act.put, List.setIfInBounds_toArray, List.set_cons_zero, List.set_cons_succ]
    go_wp2_with fail
    go_ret
    exact ⟨rfl, hM.b⟩
end Go.Proofs.Ythbpidekfocioaa
namespace Go.Proofs.Ythbpidekfocioaa
open Go.ChangeShapes Go.WideShapes Go.ChangeAt Go.RowKit Go.Deep
open Go.ChangeMaps (open_string)
set_option maxRecDepth 100000 in
theorem scanMore_contract (H : Type) (enc : TypeId × Value → H) (W : World) (base : Nat) (args : Array Value) (ds gs : List (DataW H)) (before : List MemPlace)
    (hval0 : ∀ (j : Nat) t v, Try.f4.params[j]? = some t → args[j]? = some v → Value.okWide Try.prog W .any base t v)
    (hW : DataW.Whole enc Try.prog Try.f4.params.toList Rows.scanMoreSpec.vars false W args.toList ds gs before) (hk : Rows.uptoSmall H (ds ++ gs) = true) :
    Calls Try.prog 4 args W fun e W' => ∃ v, e = .returned v ∧ Rows.scanMoreSpec.post enc Try.prog Try.f4 false true false false W args v W' := by
  have hval : ∀ (j : Nat) t v, Try.f4.params[j]? = some t → args[j]? = some v → Value.okWide Try.prog W .any base t v := hval0
  have hW' := hW
  obtain ⟨p, q, hA0, hV, rfl, hfz, hnd⟩ := hW
  have hA : DataW.TrodAll enc Try.prog W 0 (fun _ => true) true Try.f4.params.toList args.toList ds p := hA0
  rw [Try.params4] at hA hval
  obtain ⟨v0, v1, v2, d0, d1, d2, p0, p1, p2, rfl, rfl, rfl, h0, h1, h2⟩ := trodAll_three hA
  obtain ⟨rfl, rfl⟩ := trodVars_none hV
  have hbulk := bulk_all (ds := [d0, d1, d2]) hk
  simp only [Rows.uptoBulkAll] at hbulk
  obtain ⟨a0, len0, cap0, rfl⟩ := okWide_slice Try.underlying22 (hval 0 22 v0 rfl rfl)
  obtain ⟨a1, len1, cap1, rfl⟩ := okWide_slice Try.underlying22 (hval 1 22 v1 rfl rfl)
  have k0 := h0
  have k1 := h1
  have k2 := h2
  have lt0 : ∀ x ∈ p0, x.block < W.heap.size := by obtain ⟨m, hm⟩ := k0; exact DataW.trod_lt m _ _ _ hm
  have lt1 : ∀ x ∈ p1, x.block < W.heap.size := by obtain ⟨m, hm⟩ := k1; exact DataW.trod_lt m _ _ _ hm
  have lt2 : ∀ x ∈ p2, x.block < W.heap.size := by obtain ⟨m, hm⟩ := k2; exact DataW.trod_lt m _ _ _ hm
  obtain ⟨l0, hsl0, hok0, hln0⟩ := open_evu h0
  obtain ⟨l1, hsl1, hok1, hln1⟩ := open_evu h1
  obtain ⟨z2, rfl, _, _, wf2⟩ := open_int Try.underlying3 (hval 2 3 v2 rfl rfl) h2
  clear hA0 hval0
  refine (scanMore_any z2 l0 l1 _ _ W hsl0 (Nat.le_refl _) hsl1 (Nat.le_refl _) (by omega)).mono fun e W' ⟨he, bel⟩ => ?_
  subst he
  exact ⟨_, rfl, _, _, _, [], _, [], hW', trodAll_mk1 (shut_bool Try.underlying4 _), (trodAll_mk3 (Below.trod Try.laidOut (by kernel_rfl) (of_decide_eq_true (by kernel_rfl)) k0 bel lt0) (Below.trod Try.laidOut (by kernel_rfl) (of_decide_eq_true (by kernel_rfl)) k1 bel lt1) (Below.trod Try.laidOut (by kernel_rfl) (of_decide_eq_true (by kernel_rfl)) k2 bel lt2)), rfl, bel.frame _, fun h => by cases h⟩
set_option maxRecDepth 100000 in
theorem scanMore_lifted (os : Os) (started : os.Started) (H : Type) (enc : TypeId × Value → H) (F : Stop.Interp) :
    ReturnsInHanded {} Try.checked os 4 .any ((Rows.OpenSpec.upto Rows.scanMoreSpec).pre6 enc Try.prog Try.f4 Rows.scanMoreUptoRow.domain false) (((Rows.OpenSpec.upto Rows.scanMoreSpec).at F).post enc Try.prog Try.f4 false true false false) := by
  refine returnsInHanded_of_cond (C := Try.checked) (s := Rows.OpenSpec.upto Rows.scanMoreSpec) (k := Rows.uptoSmall) rfl Try.own started (by kernel_rfl) Try.func4
    (OpenSpec.witness (enc := enc) (C := Try.checked) (s := Rows.OpenSpec.upto Rows.scanMoreSpec) (k := Rows.uptoSmall) rfl false ⟨#[], #[.slice none 0 0, .slice none 0 0, .int .i64 0], []⟩ 8 (by kernel_rfl) (by kernel_rfl) (by kernel_rfl)
      (x := ([.nil, .nil, .lit (.int .i64 0)], [], [])) (by kernel_rfl) rfl (by kernel_rfl)) ?_
  intro W base args ds gs before hval hW _ hk _
  exact scanMore_contract H enc W base args ds gs before hval hW hk
theorem scanMore_proved : Rows.ScanMoreUptoSaid :=
  OpenClaim.holds_of_cond 4 Try.f4 rfl rfl rfl rfl rfl rfl rfl ⟨rfl, rfl, rfl, rfl, rfl⟩ rfl rfl rfl rfl rfl (by kernel_rfl) Try.func4 (by kernel_rfl)
    (of_decide_eq_true (by kernel_rfl)) (by unfold Func.isWrapper; first | (rw [if_pos (by decide +kernel)]; kernel_rfl) | (rw [if_neg (by decide +kernel)]; exact ⟨rfl, rfl⟩))
    (fun os started H enc _ F => scanMore_lifted os started H enc F)
end Go.Proofs.Ythbpidekfocioaa
