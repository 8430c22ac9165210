/-
  JournalParts answers true at every input of bulk 1048576 at most, and leaves its arguments as they are.
-/
import Derived.Deep.Slices
import Derived.SizedLaws
import Derived.Carry
import Derived.JoinedCond
import Derived.ChangeMaps5
import Derived.Test.YtcjodiemgnihoaaK08
namespace Go.Proofs.Ytcjodiemgnihoaa
open Go.RowKit Go.Shelf
attribute [local irreducible] wpFrom wpAnyH StepH
set_option maxRecDepth 100000 in
set_option maxHeartbeats 4000000 in
theorem journalParts_any {xs : List Zs} {va : Value} {loa hia : Nat} (w : World) (ha : RSl zsc loa hia w va xs) (hha : hia ≤ w.heap.size) (ka : Holds w.heap.size w xs) (na : xs.length ≤ 1048576) (fa : (textsZ xs).flatten.length ≤ 1048576) : Calls Try.prog 6 #[va] w fun e W' => e = .returned (.bool true) ∧ Below w.heap.size w W' := by
  have hmx : Try.prog.follows .mixedOrders = true := by kernel_rfl
  have HEa := Lib.hid (fun k x (hx : xs[k]? = some x) => ha.elem zsc_len hx Try.underlying27 (fun W => by kernel_rfl))
  obtain ⟨pa, ca, rfl⟩ := ha.slice
  have HLa := Lib.hid ha
  have HHa := Lib.hid hha
  have HLENa := Lib.hid (show xs.length ≤ 9223372036854775807 from by have h := ha.len; unfold maxLen at h; omega)
  clear ha hha 
  have HKa := Lib.hid ka
  have HNa := Lib.hid na
  have HFLa := Lib.hid fa
  clear ka na fa
  have hM := Sep.start w
  go_enter Try.func6, Try.ntmps6
  go_upto_region 0 with fail
  refine wp_region_fromM (fun W => Sep w [] [] W) hM ?_
  clear hM
  rintro Y1 hM
  refine tF 1 [.val 0 (some 2) (.bool false)] trivial ?_
  refine dF ?_
  try simp only [puts, Tk.put, Act.put, List.setIfInBounds_toArray, List.set_cons_zero, List.set_cons_succ]
  go_upto_region 1 with fail
  refine wp_region_fromM (fun W => Sep w [] [] W) hM ?_
  clear hM
  rintro Y2 hM
  refine cF (some 9) 7 #[] ((alive16_any _).mono ?_)
  rintro e Y3 ⟨rfl, hb⟩
  replace hM := hM.below hb
  clear hb
  refine tF 2 [.val 1 (some 10) (.bool false)] trivial ?_
  refine dF ?_
  try simp only [puts, Tk.put, Act.put, List.setIfInBounds_toArray, List.set_cons_zero, List.set_cons_succ]
  go_upto_region 3 with fail
  refine wp_region_fromM (fun W => Sep w [] [] W) hM ?_
  clear hM
  rintro Y4 hM
  refine cF (some 11) 15 #[.int .i64 65536] ((dkNew_any 65536 _).mono ?_)
  rintro e Y5 ⟨B5, v5, rfl, hR⟩
  replace hM := hM.gain (Sep.close (ps := DKR B5 (newD 65536) v5) (l := []) hR)
  clear hR
  refine cF (some 12) 15 #[.int .i64 65536] ((dkNew_any 65536 _).mono ?_)
  rintro e Y6 ⟨B6, v6, rfl, hR⟩
  replace hM := hM.gain (Sep.close (ps := DKR B6 (newD 65536) v6) (l := []) hR)
  clear hR
  refine tF 4 [.val 2 (some 3) (pt B5 0), .val 3 (some 4) (pt B6 0)] trivial ?_
  refine dF ?_
  try simp only [puts, Tk.put, Act.put, List.setIfInBounds_toArray, List.set_cons_zero, List.set_cons_succ]
  go_upto_region 4 with fail
  refine wp_region_fromM (fun W => Sep w [] [.join (DKR B6 (newD 65536) v6), .join (DKR B5 (newD 65536) v5)] W) hM ?_
  clear hM
  rintro Y7 hM
  refine tF 2 [.val 0 (some 13) (pt B5 0), .val 1 (some 14) (.slice pa xs.length ca)] trivial ?_
  have hq := append_any (zs := xs) _ (hM.oka 1 rfl) (new_ok _) (RF.arg hM (List.mem_of_getElem? (i := 1) rfl) HLa.out HHa.out) (HF.arg hM (List.mem_of_getElem? (i := 1) rfl) HKa.out (Nat.le_refl _)) (flat_small HNa.out HFLa.out)
  refine cF (some 15) 16 #[pt B5 0, .slice pa xs.length ca] ((hq).mono ?_)
  rintro e Y9 ⟨rfl, v7, hT⟩
  clear hq
  replace hM := hM.turn 1 rfl hT rfl
  clear hT
  obtain ⟨D7, hD⟩ : ∃ D', (appJ (newD 65536) (textsZ xs)).1 = D' := ⟨_, rfl⟩
  obtain ⟨e7, hE⟩ : ∃ e', (appJ (newD 65536) (textsZ xs)).2 = e' := ⟨_, rfl⟩
  have hF := app_facts (new_ok _) hD hE
  replace hM : Sep w [] [.join (DKR B6 (newD 65536) v6), .join (DKR B5 (appJ (newD 65536) (textsZ xs)).1 v7)] Y9 := hM
  rw [hD] at hM
  have hE2 : (appJ (newD 65536) (textsZ xs)).2 = e7 := hE
  rw [hE2]
  have HOD7 := Lib.hid hF.1
  have HF7 := Lib.hid hF
  have HE7 := Lib.hid hE
  clear hD hE hE2 hF
  refine tF 4 [.val 3 (some 5) (.int .i64 e7)] trivial ?_
  refine dF ?_
  try simp only [puts, Tk.put, Act.put, List.setIfInBounds_toArray, List.set_cons_zero, List.set_cons_succ]
  go_upto_region 5 with fail
  refine wp_region_fromM (fun W => Sep w [] [.join (DKR B6 (newD 65536) v6), .join (DKR B5 D7 v7)] W) hM ?_
  clear hM
  rintro Y10 hM
  refine tF 2 [.val 0 (some 16) (.int .i64 e7), .val 1 (some 17) (.bool (e7 != 0))] trivial ?_
  refine dF ?_
  try simp only [puts, Tk.put, Act.put, List.setIfInBounds_toArray, List.set_cons_zero, List.set_cons_succ]
  cases hb1 : e7 != 0 with
  | false =>
    have Hhb1 := Lib.hid hb1
    clear hb1
    have HY7 := Lib.hid (app_yes HF7.out Hhb1.out)
    have HFT := Lib.hid HY7.out.1
    have HRM : Hid ((framesL (textsZ xs)).length ≤ 65536) := Lib.hid (by have h := HY7.out.2.1; change 0 + _ ≤ _ at h; have h2 := (new_facts (n := 65536) (by decide)).1; have h3 : (newD 65536).rm = 65536 := h2; omega)
    go_upto_region 7 with fail
    refine wp_region_fromM (fun W => Sep w [] [.join (DKR B6 (newD 65536) v6), .join (DKR B5 D7 v7)] W) hM ?_
    clear hM
    rintro Y11 hM
    refine tF 1 [.val 0 (some 6) (.int .i64 0)] trivial ?_
    refine dF ?_
    try simp only [puts, Tk.put, Act.put, List.setIfInBounds_toArray, List.set_cons_zero, List.set_cons_succ]
    replace hM : Sep w [] [.join (DKR B6 (newD 65536) v6), .join (DKR B5 D7 v7)] Y11 := hM.pick [0, 1] (by decide) rfl
    go_wp2_with fail
    go_loopw [6] (fun u6 wr => ∃ j : Nat, j ≤ xs.length ∧ u6 = .int .i64 (j : Int) ∧ ∃ (D : Dk) (v : Value), PartI xs j D ∧ Sep w [] [.join (DKR B6 D v), .join (DKR B5 D7 v7)] wr) (fun u6 _ => xs.length - (intOf u6).toNat)
    case atStart => exact ⟨0, Nat.zero_le _, rfl, _, _, ⟨new_ok _, rfl, (new_facts (n := 65536) (by decide)).1⟩, hM⟩
    clear hM
    case round =>
      obtain ⟨j, hj, rfl, D, v, hpi, hM⟩ := hrel
      have HPI := Lib.hid hpi
      have HOD := Lib.hid hpi.ok
      clear hpi
      by_cases hlt : j < xs.length
      case pos =>
        have HJ := Lib.hid hlt
        have hlt' : (j : Int) < (xs.length : Int) := by omega
        have HLT := Lib.hid hlt'
        obtain ⟨z, hx⟩ : ∃ z, xs[j]? = some z := ⟨_, List.getElem?_eq_getElem hlt⟩
        obtain ⟨ba, oa, _, _, hit, hct⟩ := HEa.out j z hx
        have HXa := Lib.hid hx
        have HIa := Lib.hid hit
        have HCa := Lib.hid hct
        clear hx hit hct
        clear hlt hlt'
        go_upto_region 8 with fail
        refine wp_region_fromM (fun W => Sep w [] [.join (DKR B6 D v), .join (DKR B5 D7 v7)] W) hM ?_
        clear hM
        rintro Y12 hM
        refine tF 4 [.val 0 (some 21) (.int .i64 (j : Int)), .val 1 (some 22) (.slice pa xs.length ca), .val 2 (some 23) (.int .i64 (xs.length : Int)), .alt 3 (some 24) (.bool (decide ((j : Int) < (xs.length : Int)))) (.bool true)] ⟨congrArg Value.bool (decide_eq_true HLT.out), trivial⟩ ?_
        refine dF ?_
        try simp only [puts, Tk.put, Act.put, List.setIfInBounds_toArray, List.set_cons_zero, List.set_cons_succ]
        go_upto_region 10 with fail
        refine wp_region_fromM (fun W => Sep w [] [.join (DKR B6 D v), .join (DKR B5 D7 v7)] W) hM ?_
        clear hM
        rintro Y13 hM
        refine tF 5 [.val 0 (some 27) (pt B6 0), .val 1 (some 28) (.slice pa xs.length ca), .val 2 (some 29) (.int .i64 (j : Int)), .idx 3 (some 30) 27 (.slice pa xs.length ca) (.int .i64 (j : Int)) (pt ba oa), .load 4 (some 31) 22 (pt ba oa) (.slice z.a z.l.length z.c)] ⟨HIa.out _, ld_cell _ _ Try.underlying22 rfl (HCa.out _ (HLa.out.below hM.b HHa.out) 0 _ rfl), trivial⟩ ?_
        refine rF (some 32) (.slice (some ⟨Y13.heap.size, 0, none⟩) 1 1) (Y13.alloc (.cells ([.slice z.a z.l.length z.c]).toArray 22)) ?_
        replace hM := hM.alloc 22 ([.slice z.a z.l.length z.c])
        generalize World.alloc _ _ = Y14 at *
        generalize hNe : Y13.heap.size = N14 at *
        clear hNe
        have hq := append_any (zs := [(⟨z.a, z.c, z.l⟩ : Zs)]) _ (hM.oka 1 rfl) HOD.out (RF.mine hM (i := 0) (j := 1) (z := (⟨z.a, z.c, z.l⟩ : Zs)) rfl rfl (by decide)) (HF.one (z := (⟨z.a, z.c, z.l⟩ : Zs)) (BF.arg hM (List.mem_of_getElem? (i := 1) rfl) (HKa.out.get HXa.out) (Nat.le_refl _))) (one_small (c := z.l) (by have h := HFT.out z.l (List.mem_of_getElem? (textsZ_at HXa.out)); omega))
        refine cF (some 33) 16 #[pt B6 0, .slice (some ⟨N14, 0, none⟩) 1 1] ((hq).mono ?_)
        rintro e Y16 ⟨rfl, v14, hT⟩
        clear hq
        replace hM := hM.turn 1 rfl hT rfl
        clear hT
        obtain ⟨D14, hD⟩ : ∃ D', (appJ D [z.l]).1 = D' := ⟨_, rfl⟩
        obtain ⟨e14, hE⟩ : ∃ e', (appJ D [z.l]).2 = e' := ⟨_, rfl⟩
        have hF := app_facts HOD.out hD hE
        replace hM : Sep w [] [.blk N14 22 ([.slice z.a z.l.length z.c]), .join (DKR B6 (appJ D [z.l]).1 v14), .join (DKR B5 D7 v7)] Y16 := hM
        rw [hD] at hM
        have hE2 : (appJ D (textsZ [(⟨z.a, z.c, z.l⟩ : Zs)])).2 = e14 := hE
        rw [hE2]
        have HOD14 := Lib.hid hF.1
        have HF14 := Lib.hid hF
        have HE14 := Lib.hid hE
        clear hD hE hE2 hF
        have hN := part_next HPI.out HXa.out HFT.out HRM.out HF14.out HE14.out
        have HN := Lib.hid hN
        clear hN
        refine tF 8 [.alt 7 (some 34) (.bool (e14 != 0)) (.bool false)] ⟨congrArg Value.bool (HN.out.1), trivial⟩ ?_
        refine dF ?_
        try simp only [puts, Tk.put, Act.put, List.setIfInBounds_toArray, List.set_cons_zero, List.set_cons_succ]
        go_upto_region 9 with fail
        refine wp_region_fromM (fun W => Sep w [] [.blk N14 22 ([.slice z.a z.l.length z.c]), .join (DKR B6 D14 v14), .join (DKR B5 D7 v7)] W) hM ?_
        clear hM
        rintro Y17 hM
        refine tF 3 [.val 0 (some 25) (.int .i64 (j : Int)), .alt 1 (some 26) (.int .i64 (IntKind.i64.wrap ((j : Int) + 1))) (.int .i64 ((j + 1 : Nat) : Int)), .val 2 (some 6) (.int .i64 ((j + 1 : Nat) : Int))] ⟨congrArg (Value.int .i64) ((IntWalk.i64_in _ (by have := HLENa.out; have := HJ.out; omega)).trans (by omega)), trivial⟩ ?_
        refine dF ?_
        try simp only [puts, Tk.put, Act.put, List.setIfInBounds_toArray, List.set_cons_zero, List.set_cons_succ]
        have hQ : Sep w [] [.join (DKR B6 D14 v14), .join (DKR B5 D7 v7)] Y17 := hM.pick [1, 2] (by decide) rfl
        have HQ := Lib.hid hQ
        clear hM hQ
        go_wp2_with fail
        go_roundw
        case rel => exact ⟨j + 1, HJ.out, rfl, D14, v14, HN.out.2, HQ.out⟩
        case measure => have := HJ.out; simp [intOf]; omega
      case neg =>
        obtain rfl : j = xs.length := by omega
        go_upto_region 8 with fail
        refine wp_region_fromM (fun W => Sep w [] [.join (DKR B6 D v), .join (DKR B5 D7 v7)] W) hM ?_
        clear hM
        rintro Y18 hM
        refine tF 4 [.val 0 (some 21) (.int .i64 (xs.length : Int)), .val 1 (some 22) (.slice pa xs.length ca), .val 2 (some 23) (.int .i64 (xs.length : Int)), .alt 3 (some 24) (.bool (decide ((xs.length : Int) < (xs.length : Int)))) (.bool false)] ⟨congrArg Value.bool (decide_eq_false (by omega)), trivial⟩ ?_
        refine dF ?_
        try simp only [puts, Tk.put, Act.put, List.setIfInBounds_toArray, List.set_cons_zero, List.set_cons_succ]
        go_upto_region 12 with fail
        refine wp_region_fromM (fun W => Sep w [] [.join (DKR B6 D v), .join (DKR B5 D7 v7)] W) hM ?_
        clear hM
        rintro Y19 hM
        refine tF 1 [.val 0 (some 36) (pt B6 0)] trivial ?_
        refine cF (some 37) 20 #[pt B6 0] ((load_any _ (hM.oka 0 rfl) HOD.out).mono ?_)
        rintro e Y21 ⟨v19s, zs19, v19, n19, rfl, hs, hT⟩
        replace hM := hM.turn 0 rfl hT rfl
        clear hT
        replace hM : Sep w [] [.join ([.join (DKR B6 (leaveD D n19) v19), .own zsc 22 1 (v19s) (zs19), .octs zs19]), .join (DKR B5 D7 v7)] Y21 := hM.pick [0, 1] (by decide) rfl
        replace hM : Sep w [] [.join (DKR B6 (leaveD D n19) v19), .own zsc 22 1 (v19s) (zs19), .octs zs19, .join (DKR B5 D7 v7)] Y21 := hM.part
        obtain ⟨D19, hD⟩ : ∃ D', leaveD D n19 = D' := ⟨_, rfl⟩
        have hF := load_facts HOD.out hs hD
        rw [hD] at hM
        have HS19 := Lib.hid hs
        have HOD19 := Lib.hid hF.1
        have HLD19 := Lib.hid hF.2
        clear hs hD hF
        replace hM : Sep w [] [.join (DKR B6 D19 v19), .own zsc 22 1 (v19s) (zs19), .octs zs19, .join (DKR B5 D7 v7)] Y21 := hM
        obtain ⟨pv19s, cv19s, rfl⟩ := (hM.oka 1 rfl).slice zsc_len
        refine tF 7 [.val 2 (some 35) (.tuple #[.slice pv19s zs19.length cv19s, .int .i64 0]), .val 3 (some 38) (.slice pv19s zs19.length cv19s), .val 4 (some 39) (.int .i64 0), .val 5 (some 7) (.slice pv19s zs19.length cv19s), .val 6 (some 8) (.int .i64 0)] trivial ?_
        refine dF ?_
        try simp only [puts, Tk.put, Act.put, List.setIfInBounds_toArray, List.set_cons_zero, List.set_cons_succ]
        have hone := spl_one HS19.out (by rw [HPI.out.o, List.take_length]; exact spl_all HFT.out)
        have HTX := Lib.hid hone.1
        have HOO := Lib.hid (show D7.o = D19.o from by rw [HLD19.out.1, hone.1, HY7.out.2.2.2.1]; rfl)
        clear hone
        go_upto_region 13 with fail
        refine wp_region_M (fun W => Sep w [] [.join (DKR B6 D19 v19), .own zsc 22 1 (.slice pv19s zs19.length cv19s) (zs19), .octs zs19, .join (DKR B5 D7 v7)] W) (fun W => Sep w [] [.join (DKR B6 D19 v19), .own zsc 22 1 (.slice pv19s zs19.length cv19s) (zs19), .octs zs19, .join (DKR B5 D7 v7)] W) hmx hM.drew ?_
        clear hM
        rintro Y22 hM
        have hS := hM.sub (.cons_cons _ (.cons_cons _ (.cons_cons _ (.cons_cons _ .slnil))))
        refine tD 15 [.val 0 (some 40) (pt B5 0), .val 3 (some 43) (pt B6 0)] trivial hS ?_
        refine oD 1 14 (cD (some 41) 21 #[pt B5 0] ((dkOctets_any _ (DkV.of (hM.oka 3 rfl)) HOD7.out).mono ?_))
        rintro e Y23 ⟨v23, rfl, hR⟩
        refine And.intro (hS.below hR.b) ?_
        replace hS := hS.below hR.b
        replace hM := hM.gain hR
        clear hR
        refine oT 2 4 13 ?_ ?_
        · refine cvD (.tmp 41) (some 42) (v23) (.string (txB D7.o)) (cvT (hM.oka 0 rfl).octs) hS ?_
          refine oD 4 12 (cD (some 44) 21 #[pt B6 0] ((dkOctets_any _ (DkV.of (hM.oka 1 rfl)) HOD19.out).mono ?_))
          rintro e Y24 ⟨v24, rfl, hR⟩
          refine And.intro (hS.below hR.b) ?_
          replace hS := hS.below hR.b
          replace hM := hM.gain hR
          clear hR
          refine oD 5 11 (cvD (.tmp 44) (some 45) (v24) (.string (txB D19.o)) (cvT (hM.oka 0 rfl).octs) hS ?_)
          refine tD 3 [.alt 6 (some 46) (.bool ((txB D7.o).toList == (txB D19.o).toList)) (.bool true), .val 7 (some 47) (.bool true), .val 8 (some 48) (.int .i64 0), .val 9 (some 49) (.bool true), .val 10 (some 50) (.bool true), .val 11 (some 51) (.bool true), .val 12 (some 52) (.slice pv19s zs19.length cv19s), .val 13 (some 53) (.slice pa xs.length ca)] ⟨congrArg Value.bool ((by rw [txEq]; exact decide_eq_true HOO.out)), trivial⟩ hS ?_
          refine oD 14 2 (cD (some 54) 11 #[.slice pv19s zs19.length cv19s, .slice pa xs.length ca] ((lists_any _ ((hM.oka 3 rfl).rsl zsc_len) (Nat.le_refl _) (HLa.out.below hM.b HHa.out) (Nat.le_trans HHa.out hM.size) ((hM.oka 4 rfl).hold) ((HKa.out.below hM.b (Nat.le_refl _)).mono hM.size) (HTX.out)).mono ?_))
          rintro e Y25 ⟨rfl, hb⟩
          refine And.intro (hS.below hb) ?_
          replace hS := hS.below hb
          replace hM := hM.below hb
          clear hb
          refine tD 0 [.val 15 (some 55) (.bool true), .val 16 (some 2) (.bool true)] trivial hS ?_
          refine dD ?_
          try simp only [puts, Tk.put, Act.put, List.setIfInBounds_toArray, List.set_cons_zero, List.set_cons_succ]
          clear hS
          go_wp2_with fail
          go_ret
          exact ⟨rfl, hM.b⟩
        · refine cD (some 44) 21 #[pt B6 0] ((dkOctets_any _ (DkV.of (hM.oka 1 rfl)) HOD19.out).mono ?_)
          rintro e Y26 ⟨v26, rfl, hR⟩
          refine And.intro (hS.below hR.b) ?_
          replace hS := hS.below hR.b
          replace hM := hM.gain hR
          clear hR
          refine oT 2 5 12 ?_ ?_
          · refine cvD (.tmp 41) (some 42) (v23) (.string (txB D7.o)) (cvT (hM.oka 1 rfl).octs) hS ?_
            refine oD 5 11 (cvD (.tmp 44) (some 45) (v26) (.string (txB D19.o)) (cvT (hM.oka 0 rfl).octs) hS ?_)
            refine tD 3 [.alt 6 (some 46) (.bool ((txB D7.o).toList == (txB D19.o).toList)) (.bool true), .val 7 (some 47) (.bool true), .val 8 (some 48) (.int .i64 0), .val 9 (some 49) (.bool true), .val 10 (some 50) (.bool true), .val 11 (some 51) (.bool true), .val 12 (some 52) (.slice pv19s zs19.length cv19s), .val 13 (some 53) (.slice pa xs.length ca)] ⟨congrArg Value.bool ((by rw [txEq]; exact decide_eq_true HOO.out)), trivial⟩ hS ?_
            refine oD 14 2 (cD (some 54) 11 #[.slice pv19s zs19.length cv19s, .slice pa xs.length ca] ((lists_any _ ((hM.oka 3 rfl).rsl zsc_len) (Nat.le_refl _) (HLa.out.below hM.b HHa.out) (Nat.le_trans HHa.out hM.size) ((hM.oka 4 rfl).hold) ((HKa.out.below hM.b (Nat.le_refl _)).mono hM.size) (HTX.out)).mono ?_))
            rintro e Y27 ⟨rfl, hb⟩
            refine And.intro (hS.below hb) ?_
            replace hS := hS.below hb
            replace hM := hM.below hb
            clear hb
            refine tD 0 [.val 15 (some 55) (.bool true), .val 16 (some 2) (.bool true)] trivial hS ?_
            refine dD ?_
            try simp only [puts, Tk.put, Act.put, List.setIfInBounds_toArray, List.set_cons_zero, List.set_cons_succ]
            clear hS
            go_wp2_with fail
            go_ret
            exact ⟨rfl, hM.b⟩
          · refine cvD (.tmp 44) (some 45) (v26) (.string (txB D19.o)) (cvT (hM.oka 0 rfl).octs) hS ?_
            refine oD 2 11 (cvD (.tmp 41) (some 42) (v23) (.string (txB D7.o)) (cvT (hM.oka 1 rfl).octs) hS ?_)
            refine tD 3 [.alt 6 (some 46) (.bool ((txB D7.o).toList == (txB D19.o).toList)) (.bool true), .val 7 (some 47) (.bool true), .val 8 (some 48) (.int .i64 0), .val 9 (some 49) (.bool true), .val 10 (some 50) (.bool true), .val 11 (some 51) (.bool true), .val 12 (some 52) (.slice pv19s zs19.length cv19s), .val 13 (some 53) (.slice pa xs.length ca)] ⟨congrArg Value.bool ((by rw [txEq]; exact decide_eq_true HOO.out)), trivial⟩ hS ?_
            refine oD 14 2 (cD (some 54) 11 #[.slice pv19s zs19.length cv19s, .slice pa xs.length ca] ((lists_any _ ((hM.oka 3 rfl).rsl zsc_len) (Nat.le_refl _) (HLa.out.below hM.b HHa.out) (Nat.le_trans HHa.out hM.size) ((hM.oka 4 rfl).hold) ((HKa.out.below hM.b (Nat.le_refl _)).mono hM.size) (HTX.out)).mono ?_))
            rintro e Y28 ⟨rfl, hb⟩
            refine And.intro (hS.below hb) ?_
            replace hS := hS.below hb
            replace hM := hM.below hb
            clear hb
            refine tD 0 [.val 15 (some 55) (.bool true), .val 16 (some 2) (.bool true)] trivial hS ?_
            refine dD ?_
            try simp only [puts, Tk.put, Act.put, List.setIfInBounds_toArray, List.set_cons_zero, List.set_cons_succ]
            clear hS
            go_wp2_with fail
            go_ret
            exact ⟨rfl, hM.b⟩
  | true =>
    have Hhb1 := Lib.hid hb1
    clear hb1
    have HX7 := Lib.hid (app_no HF7.out Hhb1.out)
    go_upto_region 6 with fail
    refine wp_region_fromM (fun W => Sep w [] [.join (DKR B6 (newD 65536) v6), .join (DKR B5 D7 v7)] W) hM ?_
    clear hM
    rintro Y29 hM
    refine tF 1 [.val 0 (some 18) (pt B5 0)] trivial ?_
    refine cF (some 19) 17 #[pt B5 0] ((dkFresh_any _ (DkV.of (hM.oka 1 rfl)) HOD7.out).mono ?_)
    rintro e Y30 ⟨rfl, hb⟩
    replace hM := hM.below hb
    clear hb
    refine tF 4 [.alt 2 (some 20) (.bool (((D7.o.length : Int) - (D7.su : Int)) == 0)) (.bool true), .val 3 (some 2) (.bool true)] ⟨congrArg Value.bool (fresh_z (by rw [HX7.out]; rfl) (by rw [HX7.out]; rfl)), trivial⟩ ?_
    refine dF ?_
    try simp only [puts, Tk.put, Act.put, List.setIfInBounds_toArray, List.set_cons_zero, List.set_cons_succ]
    go_wp2_with fail
    go_ret
    exact ⟨rfl, hM.b⟩
end Go.Proofs.Ytcjodiemgnihoaa
namespace Go.Proofs.Ytcjodiemgnihoaa
open Go.ChangeShapes Go.WideShapes Go.ChangeAt Go.RowKit Go.Deep
open Go.ChangeMaps (open_string)
set_option maxRecDepth 100000 in
theorem journalParts_contract (H : Type) (enc : TypeId × Value → H) (W : World) (base : Nat) (args : Array Value) (ds gs : List (DataW H)) (before : List MemPlace)
    (hval0 : ∀ (j : Nat) t v, Try.f6.params[j]? = some t → args[j]? = some v → Value.okWide Try.prog W .any base t v)
    (hW : DataW.Whole enc Try.prog Try.f6.params.toList Rows.journalPartsSpec.vars false W args.toList ds gs before) (hk : Rows.uptoSmall H (ds ++ gs) = true) :
    Calls Try.prog 6 args W fun e W' => ∃ v, e = .returned v ∧ Rows.journalPartsSpec.post enc Try.prog Try.f6 false true false false W args v W' := by
  have hval : ∀ (j : Nat) t v, Try.f6.params[j]? = some t → args[j]? = some v → Value.okWide Try.prog W .any base t v := hval0
  have hW' := hW
  obtain ⟨p, q, hA0, hV, rfl, hfz, hnd⟩ := hW
  have hA : DataW.TrodAll enc Try.prog W 0 (fun _ => true) true Try.f6.params.toList args.toList ds p := hA0
  rw [Try.params6] at hA hval
  obtain ⟨v0, d0, rfl, rfl, h0⟩ := trodAll_one hA
  obtain ⟨rfl, rfl⟩ := trodVars_none hV
  have hbulk := bulk_all (ds := [d0]) hk
  simp only [Rows.uptoBulkAll] at hbulk
  obtain ⟨a0, len0, cap0, rfl⟩ := okWide_slice Try.underlying27 (hval 0 27 v0 rfl rfl)
  have k0 := h0
  have lt0 : ∀ x ∈ p, x.block < W.heap.size := by obtain ⟨m, hm⟩ := k0; exact DataW.trod_lt m _ _ _ hm
  obtain ⟨l0, hsl0, hhi0, hk0, hn0, hf0⟩ := open_zs h0 (by omega)
  clear hA0 hval0
  refine (journalParts_any W hsl0 hhi0 hk0 hn0 hf0).mono fun e W' ⟨he, bel⟩ => ?_
  subst he
  exact ⟨_, rfl, _, _, _, [], _, [], hW', trodAll_mk1 (shut_bool Try.underlying4 _), (trodAll_mk1 (Below.trod Try.laidOut (by kernel_rfl) (of_decide_eq_true (by kernel_rfl)) k0 bel lt0)), rfl, bel.frame _, fun h => by cases h⟩
set_option maxRecDepth 100000 in
theorem journalParts_lifted (os : Os) (started : os.Started) (H : Type) (enc : TypeId × Value → H) (F : Stop.Interp) :
    ReturnsInHanded {} Try.checked os 6 .any ((Rows.OpenSpec.upto Rows.journalPartsSpec).pre6 enc Try.prog Try.f6 Rows.journalPartsUptoRow.domain false) (((Rows.OpenSpec.upto Rows.journalPartsSpec).at F).post enc Try.prog Try.f6 false true false false) := by
  refine returnsInHanded_of_cond (C := Try.checked) (s := Rows.OpenSpec.upto Rows.journalPartsSpec) (k := Rows.uptoSmall) rfl Try.own started (by kernel_rfl) Try.func6
    (OpenSpec.witness (enc := enc) (C := Try.checked) (s := Rows.OpenSpec.upto Rows.journalPartsSpec) (k := Rows.uptoSmall) rfl false ⟨#[], #[.slice none 0 0], []⟩ 8 (by kernel_rfl) (by kernel_rfl) (by kernel_rfl)
      (x := ([.nil], [], [])) (by kernel_rfl) rfl (by kernel_rfl)) ?_
  intro W base args ds gs before hval hW _ hk _
  exact journalParts_contract H enc W base args ds gs before hval hW hk
theorem journalParts_proved : Rows.JournalPartsUptoSaid :=
  OpenClaim.holds_of_cond 6 Try.f6 rfl rfl rfl rfl rfl rfl rfl ⟨rfl, rfl, rfl, rfl, rfl⟩ rfl rfl rfl rfl rfl (by kernel_rfl) Try.func6 (by kernel_rfl)
    (of_decide_eq_true (by kernel_rfl)) (by unfold Func.isWrapper; first | (rw [if_pos (by decide +kernel)]; kernel_rfl) | (rw [if_neg (by decide +kernel)]; exact ⟨rfl, rfl⟩))
    (fun os started H enc _ F => journalParts_lifted os started H enc F)
end Go.Proofs.Ytcjodiemgnihoaa
