/-
  JournalLasts answers true at every input of bulk 1048576 at most, and leaves its arguments as they are.
-/
import Derived.Deep.Slices
import Derived.SizedLaws
import Derived.Carry
import Derived.JoinedCond
import Derived.ChangeMaps5
import Derived.Test.YtcjodiemgnihoaaK08
namespace Go.Proofs.Ytcjodiemgnihoaa
open Go.RowKit Go.Shelf
attribute [local irreducible] wpFrom wpAnyH StepH
set_option maxRecDepth 100000 in
set_option maxHeartbeats 4000000 in
theorem journalLasts_any {xs ys : List Zs} (keep : Int) (c : List UInt8) {va vb vc : Value} {loa hia lob hib : Nat} (w : World) (ha : RSl zsc loa hia w va xs) (hha : hia ≤ w.heap.size) (ka : Holds w.heap.size w xs) (na : xs.length ≤ 1048576) (fa : (textsZ xs).flatten.length ≤ 1048576) (hb : RSl zsc lob hib w vb ys) (hhb : hib ≤ w.heap.size) (kb : Holds w.heap.size w ys) (nb : ys.length ≤ 1048576) (fb : (textsZ ys).flatten.length ≤ 1048576) (hc : BSl 0 w.heap.size w vc c) (nc : c.length ≤ 1048576) : Calls Try.prog 4 #[va, vb, .int .i64 keep, vc] w fun e W' => e = .returned (.bool true) ∧ Below w.heap.size w W' := by
  have hmx : Try.prog.follows .mixedOrders = true := by kernel_rfl
  have HEa := Lib.hid (fun k x (hx : xs[k]? = some x) => ha.elem zsc_len hx Try.underlying27 (fun W => by kernel_rfl))
  obtain ⟨pa, ca, rfl⟩ := ha.slice
  have HLa := Lib.hid ha
  have HHa := Lib.hid hha
  have HLENa := Lib.hid (show xs.length ≤ 9223372036854775807 from by have h := ha.len; unfold maxLen at h; omega)
  clear ha hha 
  have HKa := Lib.hid ka
  have HNa := Lib.hid na
  have HFLa := Lib.hid fa
  clear ka na fa
  have HEb := Lib.hid (fun k x (hx : ys[k]? = some x) => hb.elem zsc_len hx Try.underlying27 (fun W => by kernel_rfl))
  obtain ⟨pb, cb, rfl⟩ := hb.slice
  have HLb := Lib.hid hb
  have HHb := Lib.hid hhb
  have HLENb := Lib.hid (show ys.length ≤ 9223372036854775807 from by have h := hb.len; unfold maxLen at h; omega)
  clear hb hhb 
  have HKb := Lib.hid kb
  have HNb := Lib.hid nb
  have HFLb := Lib.hid fb
  clear kb nb fb
  obtain ⟨pq, cq, rfl, _⟩ := hc.slice
  have Hq := Lib.hid hc
  clear hc
  have HNQ := Lib.hid nc
  clear nc
  have hM := Sep.start w
  go_enter Try.func4, Try.ntmps4
  go_upto_region 0 with fail
  refine wp_region_fromM (fun W => Sep w [] [] W) hM ?_
  clear hM
  rintro Y1 hM
  refine tF 1 [.val 0 (some 8) (.bool false)] trivial ?_
  refine dF ?_
  try simp only [puts, Tk.put, Act.put, List.setIfInBounds_toArray, List.set_cons_zero, List.set_cons_succ]
  go_upto_region 1 with fail
  refine wp_region_fromM (fun W => Sep w [] [] W) hM ?_
  clear hM
  rintro Y2 hM
  refine cF (some 15) 7 #[] ((alive16_any _).mono ?_)
  rintro e Y3 ⟨rfl, hb⟩
  replace hM := hM.below hb
  clear hb
  refine tF 2 [.val 1 (some 16) (.bool false)] trivial ?_
  refine dF ?_
  try simp only [puts, Tk.put, Act.put, List.setIfInBounds_toArray, List.set_cons_zero, List.set_cons_succ]
  go_upto_region 3 with fail
  refine wp_region_fromM (fun W => Sep w [] [] W) hM ?_
  clear hM
  rintro Y4 hM
  refine cF (some 17) 15 #[.int .i64 65536] ((dkNew_any 65536 _).mono ?_)
  rintro e Y5 ⟨B5, v5, rfl, hR⟩
  replace hM := hM.gain (Sep.close (ps := DKR B5 (newD 65536) v5) (l := []) hR)
  clear hR
  refine tF 2 [.val 1 (some 9) (pt B5 0)] trivial ?_
  refine dF ?_
  try simp only [puts, Tk.put, Act.put, List.setIfInBounds_toArray, List.set_cons_zero, List.set_cons_succ]
  go_upto_region 4 with fail
  refine wp_region_fromM (fun W => Sep w [] [.join (DKR B5 (newD 65536) v5)] W) hM ?_
  clear hM
  rintro Y6 hM
  refine tF 2 [.val 0 (some 18) (pt B5 0), .val 1 (some 19) (.slice pa xs.length ca)] trivial ?_
  have hq := append_any (zs := xs) _ (hM.oka 0 rfl) (new_ok _) (RF.arg hM (List.mem_of_getElem? (i := 0) rfl) HLa.out HHa.out) (HF.arg hM (List.mem_of_getElem? (i := 0) rfl) HKa.out (Nat.le_refl _)) (flat_small HNa.out HFLa.out)
  refine cF (some 20) 16 #[pt B5 0, .slice pa xs.length ca] ((hq).mono ?_)
  rintro e Y8 ⟨rfl, v6, hT⟩
  clear hq
  replace hM := hM.turn 0 rfl hT rfl
  clear hT
  obtain ⟨D6, hD⟩ : ∃ D', (appJ (newD 65536) (textsZ xs)).1 = D' := ⟨_, rfl⟩
  obtain ⟨e6, hE⟩ : ∃ e', (appJ (newD 65536) (textsZ xs)).2 = e' := ⟨_, rfl⟩
  have hF := app_facts (new_ok _) hD hE
  replace hM : Sep w [] [.join (DKR B5 (appJ (newD 65536) (textsZ xs)).1 v6)] Y8 := hM
  rw [hD] at hM
  have hE2 : (appJ (newD 65536) (textsZ xs)).2 = e6 := hE
  rw [hE2]
  have HOD6 := Lib.hid hF.1
  have HF6 := Lib.hid hF
  have HE6 := Lib.hid hE
  clear hD hE hE2 hF
  refine tF 4 [.val 3 (some 21) (.bool (e6 != 0))] trivial ?_
  refine dF ?_
  try simp only [puts, Tk.put, Act.put, List.setIfInBounds_toArray, List.set_cons_zero, List.set_cons_succ]
  cases hb1 : e6 != 0 with
  | false =>
    have Hhb1 := Lib.hid hb1
    clear hb1
    have HY6 := Lib.hid (app_yes HF6.out Hhb1.out)
    go_upto_region 6 with fail
    refine wp_region_fromM (fun W => Sep w [] [.join (DKR B5 D6 v6)] W) hM ?_
    clear hM
    rintro Y9 hM
    refine tF 1 [.val 0 (some 25) (pt B5 0)] trivial ?_
    have hq := dkSync_any _ (hM.oka 0 rfl) HOD6.out
    refine cF (some 26) 18 #[pt B5 0] ((hq).mono ?_)
    rintro e Y10 ⟨rfl, v10, hT⟩
    clear hq
    replace hM := hM.turn 0 rfl hT rfl
    clear hT
    refine dF ?_
    try simp only [puts, Tk.put, Act.put, List.setIfInBounds_toArray, List.set_cons_zero, List.set_cons_succ]
    go_upto_region 7 with fail
    refine wp_region_fromM (fun W => Sep w [] [.join (DKR B5 (sureD D6) v10)] W) hM ?_
    clear hM
    rintro Y11 hM
    refine tF 2 [.val 0 (some 27) (pt B5 0), .val 1 (some 28) (.slice pb ys.length cb)] trivial ?_
    have hq := append_any (zs := ys) _ (hM.oka 0 rfl) (sure_ok HOD6.out) (RF.arg hM (List.mem_of_getElem? (i := 0) rfl) HLb.out HHb.out) (HF.arg hM (List.mem_of_getElem? (i := 0) rfl) HKb.out (Nat.le_refl _)) (flat_small HNb.out HFLb.out)
    refine cF (some 29) 16 #[pt B5 0, .slice pb ys.length cb] ((hq).mono ?_)
    rintro e Y13 ⟨rfl, v11, hT⟩
    clear hq
    replace hM := hM.turn 0 rfl hT rfl
    clear hT
    obtain ⟨D11, hD⟩ : ∃ D', (appJ (sureD D6) (textsZ ys)).1 = D' := ⟨_, rfl⟩
    obtain ⟨e11, hE⟩ : ∃ e', (appJ (sureD D6) (textsZ ys)).2 = e' := ⟨_, rfl⟩
    have hF := app_facts (sure_ok HOD6.out) hD hE
    replace hM : Sep w [] [.join (DKR B5 (appJ (sureD D6) (textsZ ys)).1 v11)] Y13 := hM
    rw [hD] at hM
    have hE2 : (appJ (sureD D6) (textsZ ys)).2 = e11 := hE
    rw [hE2]
    have HOD11 := Lib.hid hF.1
    have HF11 := Lib.hid hF
    have HE11 := Lib.hid hE
    clear hD hE hE2 hF
    refine tF 4 [.val 3 (some 30) (.bool (e11 != 0))] trivial ?_
    refine dF ?_
    try simp only [puts, Tk.put, Act.put, List.setIfInBounds_toArray, List.set_cons_zero, List.set_cons_succ]
    cases hb2 : e11 != 0 with
    | false =>
      have Hhb2 := Lib.hid hb2
      clear hb2
      have HY11 := Lib.hid (app_yes HF11.out Hhb2.out)
      go_upto_region 9 with fail
      refine wp_region_fromM (fun W => Sep w [] [.join (DKR B5 D11 v11)] W) hM ?_
      clear hM
      rintro Y14 hM
      refine tF 2 [.val 0 (some 31) (pt B5 0), .val 1 (some 32) (.int .i64 keep)] trivial ?_
      have hq := dkFall_any keep _ (hM.oka 0 rfl) HOD11.out
      refine cF (some 33) 19 #[pt B5 0, .int .i64 keep] ((hq).mono ?_)
      rintro e Y15 ⟨rfl, v15, hT⟩
      clear hq
      replace hM := hM.turn 0 rfl hT rfl
      clear hT
      refine dF ?_
      try simp only [puts, Tk.put, Act.put, List.setIfInBounds_toArray, List.set_cons_zero, List.set_cons_succ]
      go_upto_region 10 with fail
      refine wp_region_fromM (fun W => Sep w [] [.join (DKR B5 (leaveD D11 (keepN D11 keep)) v15)] W) hM ?_
      clear hM
      rintro Y16 hM
      refine tF 1 [.val 0 (some 35) (pt B5 0)] trivial ?_
      refine cF (some 36) 20 #[pt B5 0] ((load_any _ (hM.oka 0 rfl) (leave_ok HOD11.out (keep_le HOD11.out keep))).mono ?_)
      rintro e Y18 ⟨v16s, zs16, v16, n16, rfl, hs, hT⟩
      replace hM := hM.turn 0 rfl hT rfl
      clear hT
      replace hM : Sep w [] [.join ([.join (DKR B5 (leaveD (leaveD D11 (keepN D11 keep)) n16) v16), .own zsc 22 1 (v16s) (zs16), .octs zs16])] Y18 := hM.pick [0] (by decide) rfl
      replace hM : Sep w [] [.join (DKR B5 (leaveD (leaveD D11 (keepN D11 keep)) n16) v16), .own zsc 22 1 (v16s) (zs16), .octs zs16] Y18 := hM.part
      obtain ⟨D16, hD⟩ : ∃ D', leaveD (leaveD D11 (keepN D11 keep)) n16 = D' := ⟨_, rfl⟩
      have hF := load_facts (leave_ok HOD11.out (keep_le HOD11.out keep)) hs hD
      rw [hD] at hM
      have HS16 := Lib.hid hs
      have HOD16 := Lib.hid hF.1
      have HLD16 := Lib.hid hF.2
      clear hs hD hF
      replace hM : Sep w [] [.join (DKR B5 D16 v16), .own zsc 22 1 (v16s) (zs16), .octs zs16] Y18 := hM
      obtain ⟨pv16s, cv16s, rfl⟩ := (hM.oka 1 rfl).slice zsc_len
      refine tF 7 [.val 2 (some 34) (.tuple #[.slice pv16s zs16.length cv16s, .int .i64 0]), .val 3 (some 37) (.slice pv16s zs16.length cv16s), .val 4 (some 38) (.int .i64 0), .val 5 (some 10) (.slice pv16s zs16.length cv16s), .val 6 (some 11) (.int .i64 0)] trivial ?_
      refine dF ?_
      try simp only [puts, Tk.put, Act.put, List.setIfInBounds_toArray, List.set_cons_zero, List.set_cons_succ]
      have hl := lasts_load HY6.out.1 HY11.out.1 (D := D11) (by rw [HY11.out.2.2.2.1]; show D6.o ++ _ = _; rw [HY6.out.2.2.2.1]; rfl) (by rw [HY11.out.2.2.2.2.1]; show D6.o.length = _; rw [HY6.out.2.2.2.1]; rfl) HS16.out
      rw [textsZ_len, textsZ_len, textsZ_len] at hl
      have HLA := Lib.hid hl
      clear hl
      go_upto_region 11 with fail
      refine wp_region_fromM (fun W => Sep w [] [.join (DKR B5 D16 v16), .own zsc 22 1 (.slice pv16s zs16.length cv16s) (zs16), .octs zs16] W) hM ?_
      clear hM
      rintro Y19 hM
      refine tF 1 [.val 0 (some 12) (.slice none 0 0)] trivial ?_
      refine dF ?_
      try simp only [puts, Tk.put, Act.put, List.setIfInBounds_toArray, List.set_cons_zero, List.set_cons_succ]
      go_upto_region 12 with fail
      replace hM := hM.nil zsc 22 1
      refine wp_region_fromM (fun W => Sep w [] [.own zsc 22 1 (.slice none 0 0) ([]), .join (DKR B5 D16 v16), .own zsc 22 1 (.slice pv16s zs16.length cv16s) (zs16), .octs zs16] W) hM ?_
      clear hM
      rintro Y20 hM
      refine tF 2 [.val 0 (some 39) (.slice none 0 0), .val 1 (some 40) (.slice pa xs.length ca)] trivial ?_
      obtain ⟨v21, Y21, hrun, ht⟩ := own_appR infoZs rfl (by decide) Try.underlying27 zsc_len zsc_one (hM.oka 0 rfl) (HLa.out.below hM.b HHa.out) (by decide) (by have h1 := HNa.out; have h2 := HNb.out; first | omega | (simp only [List.length_nil]; omega)) 27
      replace hM := hM.turn 0 rfl ht rfl
      clear ht
      refine wpFrom_append (d := some 41) (t := 27) (t' := 27) (ty := 27) (v := .slice none 0 0) (x := .slice pa xs.length ca) (by kernel_rfl) hrun ?_
      clear hrun
      replace hM : Sep w [] [.own zsc 22 1 (v21) (xs), .join (DKR B5 D16 v16), .own zsc 22 1 (.slice pv16s zs16.length cv16s) (zs16), .octs zs16] Y21 := hM
      refine tF 4 [.val 3 (some 42) (.slice pb ys.length cb)] trivial ?_
      obtain ⟨v22, Y22, hrun, ht⟩ := own_appR infoZs rfl (by decide) Try.underlying27 zsc_len zsc_one (hM.oka 0 rfl) (HLb.out.below hM.b HHb.out) (by decide) (by have h1 := HNa.out; have h2 := HNb.out; first | omega | (simp only [List.length_nil]; omega)) 27
      replace hM := hM.turn 0 rfl ht rfl
      clear ht
      refine wpFrom_append (d := some 43) (t := 27) (t' := 27) (ty := 27) (v := v21) (x := .slice pb ys.length cb) (by kernel_rfl) hrun ?_
      clear hrun
      refine tF 6 [.val 5 (some 12) (v22)] trivial ?_
      refine dF ?_
      try simp only [puts, Tk.put, Act.put, List.setIfInBounds_toArray, List.set_cons_zero, List.set_cons_succ]
      obtain ⟨pv22, cv22, rfl⟩ := (hM.oka 0 rfl).slice zsc_len
      go_upto_region 13 with fail
      refine wp_region_fromM (fun W => Sep w [] [.own zsc 22 1 (.slice pv22 (xs ++ ys).length cv22) (xs ++ ys), .join (DKR B5 D16 v16), .own zsc 22 1 (.slice pv16s zs16.length cv16s) (zs16), .octs zs16] W) hM ?_
      clear hM
      rintro Y23 hM
      refine tF 21 [.val 0 (some 44) (.int .i64 0), .val 1 (some 45) (.bool false), .val 2 (some 46) (.bool false), .val 3 (some 47) (.slice pv16s zs16.length cv16s), .val 4 (some 48) (.int .i64 (zs16.length : Int)), .val 5 (some 49) (.slice pa xs.length ca), .val 6 (some 50) (.int .i64 (xs.length : Int)), .alt 7 (some 51) (.bool (decide ((zs16.length : Int) < (xs.length : Int)))) (.bool false), .val 8 (some 52) (.bool false), .val 9 (some 53) (.bool false), .val 10 (some 54) (.slice pv16s zs16.length cv16s), .val 11 (some 55) (.int .i64 (zs16.length : Int)), .val 12 (some 56) (.slice pv22 (xs ++ ys).length cv22), .val 13 (some 57) (.int .i64 ((xs ++ ys).length : Int)), .alt 14 (some 58) (.bool (decide (((xs ++ ys).length : Int) < (zs16.length : Int)))) (.bool false), .val 15 (some 59) (.bool false), .val 16 (some 60) (.bool false), .val 17 (some 61) (.slice pv16s zs16.length cv16s), .val 18 (some 62) (.slice pv22 (xs ++ ys).length cv22), .val 19 (some 63) (.slice pv16s zs16.length cv16s), .val 20 (some 64) (.int .i64 (zs16.length : Int))] ⟨congrArg Value.bool (decide_eq_false (by have h := HLA.out.1; omega)), congrArg Value.bool (decide_eq_false (by rw [List.length_append]; have h := HLA.out.2.1; omega)), trivial⟩ ?_
      obtain ⟨cu, hrun, hup⟩ := RSl.upto ((hM.oka 0 rfl).rsl zsc_len) (zk := (zs16.length : Int)) (k := zs16.length) rfl (by rw [List.length_append]; have h := HLA.out.2.1; omega)
      have HRU := Lib.hid hrun
      have HUP := Lib.hid hup
      clear hrun hup
      refine tF 22 [.slc 21 (some 65) 27 (.slice pv22 (xs ++ ys).length cv22) none (some (.int .i64 (zs16.length : Int))) none (.slice pv22 ((xs ++ ys).take zs16.length).length cu)] ⟨HRU.out _, trivial⟩ ?_
      refine cF (some 66) 11 #[.slice pv16s zs16.length cv16s, .slice pv22 ((xs ++ ys).take zs16.length).length cu] ((lists_any _ ((hM.oka 2 rfl).rsl zsc_len) (Nat.le_refl _) (HUP.out _ _ _ ((hM.oka 0 rfl).rsl zsc_len)) (Nat.le_refl _) ((hM.oka 3 rfl).hold) ((((HKa.out.below hM.b (Nat.le_refl _)).mono hM.size).app ((HKb.out.below hM.b (Nat.le_refl _)).mono hM.size)).take zs16.length) ((by rw [textsZ_take, textsZ_app]; exact HLA.out.2.2))).mono ?_)
      rintro e Y24 ⟨rfl, hb⟩
      replace hM := hM.below hb
      clear hb
      refine tF 25 [.val 23 (some 67) (.bool false), .val 24 (some 68) (.bool false)] trivial ?_
      refine dF ?_
      try simp only [puts, Tk.put, Act.put, List.setIfInBounds_toArray, List.set_cons_zero, List.set_cons_succ]
      go_upto_region 15 with fail
      refine wp_region_fromM (fun W => Sep w [] [.own zsc 22 1 (.slice pv22 (xs ++ ys).length cv22) (xs ++ ys), .join (DKR B5 D16 v16), .own zsc 22 1 (.slice pv16s zs16.length cv16s) (zs16), .octs zs16] W) hM ?_
      clear hM
      rintro Y25 hM
      refine tF 2 [.val 0 (some 69) (pt B5 0), .val 1 (some 70) (.slice pq c.length cq)] trivial ?_
      refine rF (some 71) (.slice (some ⟨Y25.heap.size, 0, none⟩) 1 1) (Y25.alloc (.cells ([.slice pq c.length cq]).toArray 22)) ?_
      replace hM := hM.alloc 22 ([.slice pq c.length cq])
      generalize World.alloc _ _ = Y26 at *
      generalize hNe : Y25.heap.size = N26 at *
      clear hNe
      have hq := append_any (zs := [(⟨pq, cq, c⟩ : Zs)]) _ (hM.oka 2 rfl) HOD16.out (RF.mine hM (i := 0) (j := 2) (z := (⟨pq, cq, c⟩ : Zs)) rfl rfl (by decide)) (HF.one (z := (⟨pq, cq, c⟩ : Zs)) (BF.arg hM (List.mem_of_getElem? (i := 2) rfl) Hq.out (Nat.le_refl _))) (one_small (c := c) HNQ.out)
      refine cF (some 72) 16 #[pt B5 0, .slice (some ⟨N26, 0, none⟩) 1 1] ((hq).mono ?_)
      rintro e Y28 ⟨rfl, v26, hT⟩
      clear hq
      replace hM := hM.turn 2 rfl hT rfl
      clear hT
      obtain ⟨D26, hD⟩ : ∃ D', (appJ D16 [c]).1 = D' := ⟨_, rfl⟩
      obtain ⟨e26, hE⟩ : ∃ e', (appJ D16 [c]).2 = e' := ⟨_, rfl⟩
      have hF := app_facts HOD16.out hD hE
      replace hM : Sep w [] [.blk N26 22 ([.slice pq c.length cq]), .own zsc 22 1 (.slice pv22 (xs ++ ys).length cv22) (xs ++ ys), .join (DKR B5 (appJ D16 [c]).1 v26), .own zsc 22 1 (.slice pv16s zs16.length cv16s) (zs16), .octs zs16] Y28 := hM
      rw [hD] at hM
      have hE2 : (appJ D16 (textsZ [(⟨pq, cq, c⟩ : Zs)])).2 = e26 := hE
      rw [hE2]
      have HOD26 := Lib.hid hF.1
      have HF26 := Lib.hid hF
      have HE26 := Lib.hid hE
      clear hD hE hE2 hF
      refine tF 5 [.val 4 (some 73) (.bool (e26 != 0))] trivial ?_
      refine dF ?_
      try simp only [puts, Tk.put, Act.put, List.setIfInBounds_toArray, List.set_cons_zero, List.set_cons_succ]
      cases hb3 : e26 != 0 with
      | false =>
        have Hhb3 := Lib.hid hb3
        clear hb3
        have HY26 := Lib.hid (app_yes HF26.out Hhb3.out)
        go_upto_region 17 with fail
        refine wp_region_fromM (fun W => Sep w [] [.blk N26 22 ([.slice pq c.length cq]), .own zsc 22 1 (.slice pv22 (xs ++ ys).length cv22) (xs ++ ys), .join (DKR B5 D26 v26), .own zsc 22 1 (.slice pv16s zs16.length cv16s) (zs16), .octs zs16] W) hM ?_
        clear hM
        rintro Y29 hM
        refine tF 1 [.val 0 (some 74) (pt B5 0)] trivial ?_
        have hq := dkSync_any _ (hM.oka 2 rfl) HOD26.out
        refine cF (some 75) 18 #[pt B5 0] ((hq).mono ?_)
        rintro e Y30 ⟨rfl, v30, hT⟩
        clear hq
        replace hM := hM.turn 2 rfl hT rfl
        clear hT
        refine dF ?_
        try simp only [puts, Tk.put, Act.put, List.setIfInBounds_toArray, List.set_cons_zero, List.set_cons_succ]
        go_upto_region 18 with fail
        refine wp_region_fromM (fun W => Sep w [] [.blk N26 22 ([.slice pq c.length cq]), .own zsc 22 1 (.slice pv22 (xs ++ ys).length cv22) (xs ++ ys), .join (DKR B5 (sureD D26) v30), .own zsc 22 1 (.slice pv16s zs16.length cv16s) (zs16), .octs zs16] W) hM ?_
        clear hM
        rintro Y31 hM
        refine tF 1 [.val 0 (some 77) (pt B5 0)] trivial ?_
        refine cF (some 78) 20 #[pt B5 0] ((load_any _ (hM.oka 2 rfl) (sure_ok HOD26.out)).mono ?_)
        rintro e Y33 ⟨v31s, zs31, v31, n31, rfl, hs, hT⟩
        replace hM := hM.turn 2 rfl hT rfl
        clear hT
        replace hM : Sep w [] [.join ([.join (DKR B5 (leaveD (sureD D26) n31) v31), .own zsc 22 1 (v31s) (zs31), .octs zs31]), .blk N26 22 ([.slice pq c.length cq]), .own zsc 22 1 (.slice pv22 (xs ++ ys).length cv22) (xs ++ ys), .own zsc 22 1 (.slice pv16s zs16.length cv16s) (zs16), .octs zs16] Y33 := hM.pick [2, 0, 1, 3, 4] (by decide) rfl
        replace hM : Sep w [] [.join (DKR B5 (leaveD (sureD D26) n31) v31), .own zsc 22 1 (v31s) (zs31), .octs zs31, .blk N26 22 ([.slice pq c.length cq]), .own zsc 22 1 (.slice pv22 (xs ++ ys).length cv22) (xs ++ ys), .own zsc 22 1 (.slice pv16s zs16.length cv16s) (zs16), .octs zs16] Y33 := hM.part
        obtain ⟨D31, hD⟩ : ∃ D', leaveD (sureD D26) n31 = D' := ⟨_, rfl⟩
        have hF := load_facts (sure_ok HOD26.out) hs hD
        rw [hD] at hM
        have HS31 := Lib.hid hs
        have HOD31 := Lib.hid hF.1
        have HLD31 := Lib.hid hF.2
        clear hs hD hF
        replace hM : Sep w [] [.join (DKR B5 D31 v31), .own zsc 22 1 (v31s) (zs31), .octs zs31, .blk N26 22 ([.slice pq c.length cq]), .own zsc 22 1 (.slice pv22 (xs ++ ys).length cv22) (xs ++ ys), .own zsc 22 1 (.slice pv16s zs16.length cv16s) (zs16), .octs zs16] Y33 := hM
        obtain ⟨pv31s, cv31s, rfl⟩ := (hM.oka 1 rfl).slice zsc_len
        refine tF 7 [.val 2 (some 76) (.tuple #[.slice pv31s zs31.length cv31s, .int .i64 0]), .val 3 (some 79) (.slice pv31s zs31.length cv31s), .val 4 (some 80) (.int .i64 0), .val 5 (some 13) (.slice pv31s zs31.length cv31s), .val 6 (some 14) (.int .i64 0)] trivial ?_
        refine dF ?_
        try simp only [puts, Tk.put, Act.put, List.setIfInBounds_toArray, List.set_cons_zero, List.set_cons_succ]
        go_upto_region 19 with fail
        have hl := lasts_more (zs := zs16) HS16.out.fits HY26.out.1 (D := D26) (by rw [HY26.out.2.2.2.1, HLD16.out.1]) HS31.out
        obtain ⟨y, hy, hyc⟩ := hl.2.2.1
        have HYC := Lib.hid hyc
        have HY := Lib.hid hy
        have HM2 := Lib.hid hl
        clear hl hyc
        obtain ⟨bey, oey, hit, hct⟩ := (hM.oka 1 rfl).elem zsc_len hy Try.underlying27 (fun W => by kernel_rfl)
        have HIey := Lib.hid hit
        have HCey := Lib.hid hct
        clear hit hct
        clear hy
        obtain ⟨cu2, hrun, hup⟩ := RSl.upto ((hM.oka 1 rfl).rsl zsc_len) (zk := (zs16.length : Int)) (k := zs16.length) rfl (by have h := HM2.out.2.1; omega)
        have HRU2 := Lib.hid hrun
        have HUP2 := Lib.hid hup
        clear hrun hup
        refine wp_region_M (fun W => Sep w [] [.join (DKR B5 D31 v31), .own zsc 22 1 (.slice pv31s zs31.length cv31s) (zs31), .octs zs31, .blk N26 22 ([.slice pq c.length cq]), .own zsc 22 1 (.slice pv22 (xs ++ ys).length cv22) (xs ++ ys), .own zsc 22 1 (.slice pv16s zs16.length cv16s) (zs16), .octs zs16] W) (fun W => Sep w [] [.join (DKR B5 D31 v31), .own zsc 22 1 (.slice pv31s zs31.length cv31s) (zs31), .octs zs31, .blk N26 22 ([.slice pq c.length cq]), .own zsc 22 1 (.slice pv22 (xs ++ ys).length cv22) (xs ++ ys), .own zsc 22 1 (.slice pv16s zs16.length cv16s) (zs16), .octs zs16] W) hmx hM.drew ?_
        clear hM
        rintro Y34 hM
        have hS := hM.sub (.cons_cons _ (.cons_cons _ (.cons_cons _ (.cons_cons _ (.cons_cons _ (.cons_cons _ (.cons_cons _ .slnil)))))))
        refine tD 14 [.val 0 (some 81) (.int .i64 0), .val 1 (some 82) (.bool true), .val 2 (some 83) (.bool true), .val 3 (some 84) (.slice pv31s zs31.length cv31s), .val 4 (some 85) (.int .i64 (zs31.length : Int)), .val 5 (some 86) (.slice pv16s zs16.length cv16s), .val 6 (some 87) (.int .i64 (zs16.length : Int)), .alt 7 (some 88) (.int .i64 (IntKind.i64.wrap ((zs16.length : Int) + 1))) (.int .i64 ((zs16.length + 1 : Nat) : Int)), .alt 8 (some 89) (.bool ((zs31.length : Int) == ((zs16.length + 1 : Nat) : Int))) (.bool true), .val 9 (some 90) (.bool true), .val 10 (some 91) (.bool true), .val 11 (some 92) (.slice pv31s zs31.length cv31s), .val 12 (some 93) (.slice pv16s zs16.length cv16s), .val 13 (some 94) (.int .i64 (zs16.length : Int)), .slc 14 (some 95) 27 (.slice pv31s zs31.length cv31s) none (some (.int .i64 (zs16.length : Int))) none (.slice pv31s (zs31.take zs16.length).length cu2), .val 15 (some 96) (.slice pv16s zs16.length cv16s)] ⟨congrArg (Value.int .i64) (((IntWalk.i64_in _ (by have h := HLA.out.2.1; have h1 := HNa.out; have h2 := HNb.out; omega)).trans (by omega))), congrArg Value.bool ((by rw [HM2.out.2.1]; exact beq_self_eq_true _)), fun W h => HRU2.out _, trivial⟩ hS ?_
        refine oD 16 13 (cD (some 97) 11 #[.slice pv31s (zs31.take zs16.length).length cu2, .slice pv16s zs16.length cv16s] ((lists_any _ (HUP2.out _ _ _ ((hM.oka 1 rfl).rsl zsc_len)) (Nat.le_refl _) ((hM.oka 5 rfl).rsl zsc_len) (Nat.le_refl _) (((hM.oka 2 rfl).hold).take zs16.length) ((hM.oka 6 rfl).hold) (HM2.out.2.2.2)).mono ?_))
        rintro e Y35 ⟨rfl, hb⟩
        refine And.intro (hS.below hb) ?_
        replace hS := hS.below hb
        replace hM := hM.below hb
        clear hb
        refine tD 5 [.val 17 (some 98) (.bool true), .val 18 (some 99) (.bool true), .val 19 (some 100) (.slice pv31s zs31.length cv31s), .val 20 (some 101) (.slice pv16s zs16.length cv16s), .val 21 (some 102) (.int .i64 (zs16.length : Int)), .idx 22 (some 103) 27 (.slice pv31s zs31.length cv31s) (.int .i64 (zs16.length : Int)) (pt bey oey), .load 23 (some 104) 22 (pt bey oey) (.slice y.a y.l.length y.c), .val 25 (some 106) (.slice pq c.length cq)] ⟨fun W h => HIey.out _, fun W h => ld_cell _ _ Try.underlying22 rfl (HCey.out _ (h.oka 1 rfl) 0 _ rfl), trivial⟩ hS ?_
        refine oT 24 26 4 ?_ ?_
        · refine cvD (.tmp 104) (some 105) (.slice y.a y.l.length y.c) (.string (txB y.l)) (cvT (((hM.oka 2 rfl).hold).get HY.out)) hS ?_
          refine oD 26 3 (cvD (.tmp 106) (some 107) (.slice pq c.length cq) (.string (txB c)) (cvT ((Hq.out.below hM.b (Nat.le_refl _)).mono (Nat.le_refl _) hM.size)) hS ?_)
          refine tD 0 [.alt 27 (some 108) (.bool ((txB y.l).toList == (txB c).toList)) (.bool true), .val 28 (some 109) (.bool true), .val 29 (some 8) (.bool true)] ⟨congrArg Value.bool ((by rw [txEq]; exact decide_eq_true HYC.out)), trivial⟩ hS ?_
          refine dD ?_
          try simp only [puts, Tk.put, Act.put, List.setIfInBounds_toArray, List.set_cons_zero, List.set_cons_succ]
          clear hS
          go_wp2_with fail
          go_ret
          exact ⟨rfl, hM.b⟩
        · refine cvD (.tmp 106) (some 107) (.slice pq c.length cq) (.string (txB c)) (cvT ((Hq.out.below hM.b (Nat.le_refl _)).mono (Nat.le_refl _) hM.size)) hS ?_
          refine oD 24 3 (cvD (.tmp 104) (some 105) (.slice y.a y.l.length y.c) (.string (txB y.l)) (cvT (((hM.oka 2 rfl).hold).get HY.out)) hS ?_)
          refine tD 0 [.alt 27 (some 108) (.bool ((txB y.l).toList == (txB c).toList)) (.bool true), .val 28 (some 109) (.bool true), .val 29 (some 8) (.bool true)] ⟨congrArg Value.bool ((by rw [txEq]; exact decide_eq_true HYC.out)), trivial⟩ hS ?_
          refine dD ?_
          try simp only [puts, Tk.put, Act.put, List.setIfInBounds_toArray, List.set_cons_zero, List.set_cons_succ]
          clear hS
          go_wp2_with fail
          go_ret
          exact ⟨rfl, hM.b⟩
      | true =>
        have Hhb3 := Lib.hid hb3
        clear hb3
        have HX26 := Lib.hid (app_no HF26.out Hhb3.out)
        go_upto_region 16 with fail
        refine wp_region_fromM (fun W => Sep w [] [.blk N26 22 ([.slice pq c.length cq]), .own zsc 22 1 (.slice pv22 (xs ++ ys).length cv22) (xs ++ ys), .join (DKR B5 D26 v26), .own zsc 22 1 (.slice pv16s zs16.length cv16s) (zs16), .octs zs16] W) hM ?_
        clear hM
        rintro Y36 hM
        refine tF 1 [.val 0 (some 8) (.bool true)] trivial ?_
        refine dF ?_
        try simp only [puts, Tk.put, Act.put, List.setIfInBounds_toArray, List.set_cons_zero, List.set_cons_succ]
        go_wp2_with fail
        go_ret
        exact ⟨rfl, hM.b⟩
    | true =>
      have Hhb2 := Lib.hid hb2
      clear hb2
      have HX11 := Lib.hid (app_no HF11.out Hhb2.out)
      go_upto_region 8 with fail
      refine wp_region_fromM (fun W => Sep w [] [.join (DKR B5 D11 v11)] W) hM ?_
      clear hM
      rintro Y37 hM
      refine tF 1 [.val 0 (some 8) (.bool true)] trivial ?_
      refine dF ?_
      try simp only [puts, Tk.put, Act.put, List.setIfInBounds_toArray, List.set_cons_zero, List.set_cons_succ]
      go_wp2_with fail
      go_ret
      exact ⟨rfl, hM.b⟩
  | true =>
    have Hhb1 := Lib.hid hb1
    clear hb1
    have HX6 := Lib.hid (app_no HF6.out Hhb1.out)
    go_upto_region 5 with fail
    refine wp_region_fromM (fun W => Sep w [] [.join (DKR B5 D6 v6)] W) hM ?_
    clear hM
    rintro Y38 hM
    refine tF 1 [.val 0 (some 22) (pt B5 0)] trivial ?_
    refine cF (some 23) 17 #[pt B5 0] ((dkFresh_any _ (DkV.of (hM.oka 0 rfl)) HOD6.out).mono ?_)
    rintro e Y39 ⟨rfl, hb⟩
    replace hM := hM.below hb
    clear hb
    refine tF 4 [.alt 2 (some 24) (.bool (((D6.o.length : Int) - (D6.su : Int)) == 0)) (.bool true), .val 3 (some 8) (.bool true)] ⟨congrArg Value.bool (fresh_z (by rw [HX6.out]; rfl) (by rw [HX6.out]; rfl)), trivial⟩ ?_
    refine dF ?_
    try simp only [puts, Tk.put, Act.put, List.setIfInBounds_toArray, List.set_cons_zero, List.set_cons_succ]
    go_wp2_with fail
    go_ret
    exact ⟨rfl, hM.b⟩
end Go.Proofs.Ytcjodiemgnihoaa
namespace Go.Proofs.Ytcjodiemgnihoaa
open Go.ChangeShapes Go.WideShapes Go.ChangeAt Go.RowKit Go.Deep
open Go.ChangeMaps (open_string)
set_option maxRecDepth 100000 in
theorem journalLasts_contract (H : Type) (enc : TypeId × Value → H) (W : World) (base : Nat) (args : Array Value) (ds gs : List (DataW H)) (before : List MemPlace)
    (hval0 : ∀ (j : Nat) t v, Try.f4.params[j]? = some t → args[j]? = some v → Value.okWide Try.prog W .any base t v)
    (hW : DataW.Whole enc Try.prog Try.f4.params.toList Rows.journalLastsSpec.vars false W args.toList ds gs before) (hk : Rows.uptoSmall H (ds ++ gs) = true) :
    Calls Try.prog 4 args W fun e W' => ∃ v, e = .returned v ∧ Rows.journalLastsSpec.post enc Try.prog Try.f4 false true false false W args v W' := by
  have hval : ∀ (j : Nat) t v, Try.f4.params[j]? = some t → args[j]? = some v → Value.okWide Try.prog W .any base t v := hval0
  have hW' := hW
  obtain ⟨p, q, hA0, hV, rfl, hfz, hnd⟩ := hW
  have hA : DataW.TrodAll enc Try.prog W 0 (fun _ => true) true Try.f4.params.toList args.toList ds p := hA0
  rw [Try.params4] at hA hval
  obtain ⟨v0, v1, v2, v3, d0, d1, d2, d3, p0, p1, p2, p3, rfl, rfl, rfl, h0, h1, h2, h3⟩ := trodAll_four hA
  obtain ⟨rfl, rfl⟩ := trodVars_none hV
  have hbulk := bulk_all (ds := [d0, d1, d2, d3]) hk
  simp only [Rows.uptoBulkAll] at hbulk
  obtain ⟨a0, len0, cap0, rfl⟩ := okWide_slice Try.underlying27 (hval 0 27 v0 rfl rfl)
  obtain ⟨a1, len1, cap1, rfl⟩ := okWide_slice Try.underlying27 (hval 1 27 v1 rfl rfl)
  obtain ⟨a3, len3, cap3, rfl⟩ := okWide_slice Try.underlying22 (hval 3 22 v3 rfl rfl)
  have k0 := h0
  have k1 := h1
  have k2 := h2
  have k3 := h3
  have lt0 : ∀ x ∈ p0, x.block < W.heap.size := by obtain ⟨m, hm⟩ := k0; exact DataW.trod_lt m _ _ _ hm
  have lt1 : ∀ x ∈ p1, x.block < W.heap.size := by obtain ⟨m, hm⟩ := k1; exact DataW.trod_lt m _ _ _ hm
  have lt2 : ∀ x ∈ p2, x.block < W.heap.size := by obtain ⟨m, hm⟩ := k2; exact DataW.trod_lt m _ _ _ hm
  have lt3 : ∀ x ∈ p3, x.block < W.heap.size := by obtain ⟨m, hm⟩ := k3; exact DataW.trod_lt m _ _ _ hm
  obtain ⟨l0, hsl0, hhi0, hk0, hn0, hf0⟩ := open_zs h0 (by omega)
  obtain ⟨l1, hsl1, hhi1, hk1, hn1, hf1⟩ := open_zs h1 (by omega)
  obtain ⟨z2, rfl, _, _, wf2⟩ := open_int Try.underlying3 (hval 2 3 v2 rfl rfl) h2
  obtain ⟨l3, hsl3, hq3⟩ := open_bytesU h3
  have hn3 : l3.length ≤ 1048576 := by omega
  clear hA0 hval0
  refine (journalLasts_any z2 l3 W hsl0 hhi0 hk0 hn0 hf0 hsl1 hhi1 hk1 hn1 hf1 hsl3 hn3).mono fun e W' ⟨he, bel⟩ => ?_
  subst he
  exact ⟨_, rfl, _, _, _, [], _, [], hW', trodAll_mk1 (shut_bool Try.underlying4 _), (trodAll_mk4 (Below.trod Try.laidOut (by kernel_rfl) (of_decide_eq_true (by kernel_rfl)) k0 bel lt0) (Below.trod Try.laidOut (by kernel_rfl) (of_decide_eq_true (by kernel_rfl)) k1 bel lt1) (Below.trod Try.laidOut (by kernel_rfl) (of_decide_eq_true (by kernel_rfl)) k2 bel lt2) (Below.trod Try.laidOut (by kernel_rfl) (of_decide_eq_true (by kernel_rfl)) k3 bel lt3)), rfl, bel.frame _, fun h => by cases h⟩
set_option maxRecDepth 100000 in
theorem journalLasts_lifted (os : Os) (started : os.Started) (H : Type) (enc : TypeId × Value → H) (F : Stop.Interp) :
    ReturnsInHanded {} Try.checked os 4 .any ((Rows.OpenSpec.upto Rows.journalLastsSpec).pre6 enc Try.prog Try.f4 Rows.journalLastsUptoRow.domain false) (((Rows.OpenSpec.upto Rows.journalLastsSpec).at F).post enc Try.prog Try.f4 false true false false) := by
  refine returnsInHanded_of_cond (C := Try.checked) (s := Rows.OpenSpec.upto Rows.journalLastsSpec) (k := Rows.uptoSmall) rfl Try.own started (by kernel_rfl) Try.func4
    (OpenSpec.witness (enc := enc) (C := Try.checked) (s := Rows.OpenSpec.upto Rows.journalLastsSpec) (k := Rows.uptoSmall) rfl false ⟨#[], #[.slice none 0 0, .slice none 0 0, .int .i64 0, .slice none 0 0], []⟩ 8 (by kernel_rfl) (by kernel_rfl) (by kernel_rfl)
      (x := ([.nil, .nil, .lit (.int .i64 0), .nil], [], [])) (by kernel_rfl) rfl (by kernel_rfl)) ?_
  intro W base args ds gs before hval hW _ hk _
  exact journalLasts_contract H enc W base args ds gs before hval hW hk
theorem journalLasts_proved : Rows.JournalLastsUptoSaid :=
  OpenClaim.holds_of_cond 4 Try.f4 rfl rfl rfl rfl rfl rfl rfl ⟨rfl, rfl, rfl, rfl, rfl⟩ rfl rfl rfl rfl rfl (by kernel_rfl) Try.func4 (by kernel_rfl)
    (of_decide_eq_true (by kernel_rfl)) (by unfold Func.isWrapper; first | (rw [if_pos (by decide +kernel)]; kernel_rfl) | (rw [if_neg (by decide +kernel)]; exact ⟨rfl, rfl⟩))
    (fun os started H enc _ F => journalLasts_lifted os started H enc F)
end Go.Proofs.Ytcjodiemgnihoaa
