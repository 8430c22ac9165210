/-
  JournalAll answers true at every input of bulk 1048576 at most, and leaves its arguments as they are.
-/
import Derived.Deep.Slices
import Derived.SizedLaws
import Derived.Carry
import Derived.JoinedCond
import Derived.ChangeMaps5
import Derived.Test.YtcjodiemgnihoaaK08
namespace Go.Proofs.Ytcjodiemgnihoaa
open Go.RowKit Go.Shelf
attribute [local irreducible] wpFrom wpAnyH StepH
theorem all_long {D : Dk} {e : Int} {ls : List (List UInt8)} (h : (appJ D ls).2 = e) (hl : longB ls = true) : e = 5 := by
  rw [← h]
  unfold appJ
  rw [hl]
  rfl
theorem all_full {D : Dk} {e : Int} {ls : List (List UInt8)} (h : (appJ D ls).2 = e) (hl : longB ls = false) (ho : D.o = []) (hn : D.rm < (framesL ls).length) : e = 10 := by
  rw [← h]
  unfold appJ
  rw [hl]
  show (writeD D (framesL ls)).2 = 10
  unfold writeD
  rw [ho, if_pos (by rw [List.length_nil]; omega)]
theorem all_fits {D : Dk} {e : Int} {ls : List (List UInt8)} (h : (appJ D ls).2 = e) (hl : longB ls = false) (ho : D.o = []) (hn : ¬ D.rm < (framesL ls).length) : e = 0 := by
  rw [← h]
  unfold appJ
  rw [hl]
  show (writeD D (framesL ls)).2 = 0
  unfold writeD
  rw [ho, if_neg (by rw [List.length_nil]; omega)]
set_option maxRecDepth 100000 in
set_option maxHeartbeats 4000000 in
theorem journalAll_any {xs : List Zs} (room : Int) {va : Value} {loa hia : Nat} (w : World) (ha : RSl zsc loa hia w va xs) (hha : hia ≤ w.heap.size) (ka : Holds w.heap.size w xs) (na : xs.length ≤ 1048576) (fa : (textsZ xs).flatten.length ≤ 1048576) : Calls Try.prog 5 #[va, .int .i64 room] w fun e W' => e = .returned (.bool true) ∧ Below w.heap.size w W' := by
  have hmx : Try.prog.follows .mixedOrders = true := by kernel_rfl
  have HEa := Lib.hid (fun k x (hx : xs[k]? = some x) => ha.elem zsc_len hx Try.underlying27 (fun W => by kernel_rfl))
  obtain ⟨pa, ca, rfl⟩ := ha.slice
  have HLa := Lib.hid ha
  have HHa := Lib.hid hha
  have HLENa := Lib.hid (show xs.length ≤ 9223372036854775807 from by have h := ha.len; unfold maxLen at h; omega)
  clear ha hha 
  have HKa := Lib.hid ka
  have HNa := Lib.hid na
  have HFLa := Lib.hid fa
  clear ka na fa
  have HK80 := Lib.hid (show Int.tmod (Int.tmod room 80 + 80) 80 = ((atC room 80 : Nat) : Int) from atC_eq room (n := 80) (by decide))
  have HS80 := Lib.hid (show IntKind.i64.wrap (Int.tmod room 80 + 80) = Int.tmod room 80 + 80 from atC_sum room (n := 80) (by decide) (by decide))
  have HLT80 := Lib.hid (atC_lt room (n := 80) (by decide))
  obtain ⟨r, hr⟩ : ∃ r, atC room 80 = r := ⟨_, rfl⟩
  rw [hr] at HK80 HLT80
  clear hr
  have HNEW := Lib.hid (new_facts (n := r) (by have h := HLT80.out; omega))
  have hM := Sep.start w
  go_enter Try.func5, Try.ntmps5
  go_upto_region 0 with fail
  refine wp_region_fromM (fun W => Sep w [] [] W) hM ?_
  clear hM
  rintro Y1 hM
  refine tF 1 [.val 0 (some 4) (.bool false)] trivial ?_
  refine dF ?_
  try simp only [puts, Tk.put, Act.put, List.setIfInBounds_toArray, List.set_cons_zero, List.set_cons_succ]
  go_upto_region 1 with fail
  refine wp_region_fromM (fun W => Sep w [] [] W) hM ?_
  clear hM
  rintro Y2 hM
  refine cF (some 15) 7 #[] ((alive16_any _).mono ?_)
  rintro e Y3 ⟨rfl, hb⟩
  replace hM := hM.below hb
  clear hb
  refine tF 2 [.val 1 (some 16) (.bool false)] trivial ?_
  refine dF ?_
  try simp only [puts, Tk.put, Act.put, List.setIfInBounds_toArray, List.set_cons_zero, List.set_cons_succ]
  go_upto_region 3 with fail
  refine wp_region_fromM (fun W => Sep w [] [] W) hM ?_
  clear hM
  rintro Y4 hM
  refine tF 1 [.val 0 (some 17) (.int .i64 room)] trivial ?_
  refine remF (.tmp 17) (.const (.int .i64 80)) 3 3 (some 18) room 80 (Int.tmod room 80) (by decide) rfl ?_
  refine tF 3 [.alt 2 (some 19) (.int .i64 (IntKind.i64.wrap ((Int.tmod room 80) + 80))) (.int .i64 (Int.tmod room 80 + 80))] ⟨congrArg (Value.int .i64) (HS80.out), trivial⟩ ?_
  refine remF (.tmp 19) (.const (.int .i64 80)) 3 3 (some 20) (Int.tmod room 80 + 80) 80 ((r : Nat) : Int) (by decide) HK80.out ?_
  refine tF 5 [.val 4 (some 1) (.int .i64 ((r : Nat) : Int))] trivial ?_
  refine dF ?_
  try simp only [puts, Tk.put, Act.put, List.setIfInBounds_toArray, List.set_cons_zero, List.set_cons_succ]
  go_upto_region 4 with fail
  refine wp_region_fromM (fun W => Sep w [] [] W) hM ?_
  clear hM
  rintro Y5 hM
  refine tF 1 [.val 0 (some 21) (.int .i64 ((r : Nat) : Int))] trivial ?_
  refine cF (some 22) 15 #[.int .i64 ((r : Nat) : Int)] ((dkNew_any ((r : Nat) : Int) _).mono ?_)
  rintro e Y6 ⟨B6, v6, rfl, hR⟩
  replace hM := hM.gain (Sep.close (ps := DKR B6 (newD ((r : Nat) : Int)) v6) (l := []) hR)
  clear hR
  refine tF 3 [.val 2 (some 5) (pt B6 0)] trivial ?_
  refine dF ?_
  try simp only [puts, Tk.put, Act.put, List.setIfInBounds_toArray, List.set_cons_zero, List.set_cons_succ]
  go_upto_region 5 with fail
  refine wp_region_fromM (fun W => Sep w [] [.join (DKR B6 (newD ((r : Nat) : Int)) v6)] W) hM ?_
  clear hM
  rintro Y7 hM
  refine tF 2 [.val 0 (some 6) (.int .i64 0), .val 1 (some 7) (.bool false)] trivial ?_
  refine dF ?_
  try simp only [puts, Tk.put, Act.put, List.setIfInBounds_toArray, List.set_cons_zero, List.set_cons_succ]
  go_upto_region 6 with fail
  refine wp_region_fromM (fun W => Sep w [] [.join (DKR B6 (newD ((r : Nat) : Int)) v6)] W) hM ?_
  clear hM
  rintro Y8 hM
  refine tF 1 [.val 0 (some 8) (.int .i64 0)] trivial ?_
  refine dF ?_
  try simp only [puts, Tk.put, Act.put, List.setIfInBounds_toArray, List.set_cons_zero, List.set_cons_succ]
  go_wp2_with fail
  go_loopw [6, 7, 8] (fun u6 u7 u8 wr => ∃ j : Nat, j ≤ xs.length ∧ u8 = .int .i64 (j : Int) ∧ u6 = .int .i64 (((framesL (textsZ (xs.take j))).length : Nat) : Int) ∧ u7 = .bool (longB (textsZ (xs.take j))) ∧ Sep w [] [.join (DKR B6 (newD ((r : Nat) : Int)) v6)] wr) (fun u6 u7 u8 _ => xs.length - (intOf u8).toNat)
  case atStart => exact ⟨0, Nat.zero_le _, rfl, rfl, rfl, hM⟩
  clear hM
  case round =>
    obtain ⟨j, hj, rfl, rfl, rfl, hM⟩ := hrel
    by_cases hlt : j < xs.length
    case pos =>
      have HJ := Lib.hid hlt
      have hlt' : (j : Int) < (xs.length : Int) := by omega
      have HLT := Lib.hid hlt'
      obtain ⟨z, hx⟩ : ∃ z, xs[j]? = some z := ⟨_, List.getElem?_eq_getElem hlt⟩
      obtain ⟨ba, oa, _, _, hit, hct⟩ := HEa.out j z hx
      have HXa := Lib.hid hx
      have HIa := Lib.hid hit
      have HCa := Lib.hid hct
      clear hx hit hct
      clear hlt hlt'
      go_upto_region 7 with fail
      refine wp_region_fromM (fun W => Sep w [] [.join (DKR B6 (newD ((r : Nat) : Int)) v6)] W) hM ?_
      clear hM
      rintro Y9 hM
      refine tF 4 [.val 0 (some 23) (.int .i64 (j : Int)), .val 1 (some 24) (.slice pa xs.length ca), .val 2 (some 25) (.int .i64 (xs.length : Int)), .alt 3 (some 26) (.bool (decide ((j : Int) < (xs.length : Int)))) (.bool true)] ⟨congrArg Value.bool (decide_eq_true HLT.out), trivial⟩ ?_
      refine dF ?_
      try simp only [puts, Tk.put, Act.put, List.setIfInBounds_toArray, List.set_cons_zero, List.set_cons_succ]
      go_upto_region 9 with fail
      refine wp_region_fromM (fun W => Sep w [] [.join (DKR B6 (newD ((r : Nat) : Int)) v6)] W) hM ?_
      clear hM
      rintro Y10 hM
      refine tF 9 [.val 0 (some 29) (.int .i64 (((framesL (textsZ (xs.take j))).length : Nat) : Int)), .alt 1 (some 30) (.int .i64 (IntKind.i64.wrap ((((framesL (textsZ (xs.take j))).length : Nat) : Int) + 6))) (.int .i64 (((framesL (textsZ (xs.take j))).length + 6 : Nat) : Int)), .val 2 (some 31) (.slice pa xs.length ca), .val 3 (some 32) (.int .i64 (j : Int)), .idx 4 (some 33) 27 (.slice pa xs.length ca) (.int .i64 (j : Int)) (pt ba oa), .load 5 (some 34) 22 (pt ba oa) (.slice z.a z.l.length z.c), .val 6 (some 35) (.int .i64 (z.l.length : Int)), .alt 7 (some 36) (.int .i64 (IntKind.i64.wrap ((((framesL (textsZ (xs.take j))).length + 6 : Nat) : Int) + (z.l.length : Int)))) (.int .i64 (((framesL (textsZ (xs.take (j + 1)))).length : Nat) : Int)), .val 8 (some 6) (.int .i64 (((framesL (textsZ (xs.take (j + 1)))).length : Nat) : Int))] ⟨congrArg (Value.int .i64) (((IntWalk.i64_in _ (by have h1 := frames_take_le (textsZ xs) (j + 1); have h2 := flat_small HNa.out HFLa.out; rw [← textsZ_take, len_next HXa.out] at h1; omega)).trans (by omega))), HIa.out _, ld_cell _ _ Try.underlying22 rfl (HCa.out _ (HLa.out.below hM.b HHa.out) 0 _ rfl), congrArg (Value.int .i64) (((IntWalk.i64_in _ (by have h1 := frames_take_le (textsZ xs) (j + 1); have h2 := flat_small HNa.out HFLa.out; rw [← textsZ_take, len_next HXa.out] at h1; omega)).trans (by rw [len_next HXa.out]; omega))), trivial⟩ ?_
      refine dF ?_
      try simp only [puts, Tk.put, Act.put, List.setIfInBounds_toArray, List.set_cons_zero, List.set_cons_succ]
      go_upto_region 10 with fail
      refine wp_region_fromM (fun W => Sep w [] [.join (DKR B6 (newD ((r : Nat) : Int)) v6)] W) hM ?_
      clear hM
      rintro Y11 hM
      refine tF 2 [.val 0 (some 37) (.bool (longB (textsZ (xs.take j)))), .val 1 (some 38) (.bool (longB (textsZ (xs.take j))))] trivial ?_
      cases hb1 : longB (textsZ (xs.take j)) with
      | false =>
        have Hhb1 := Lib.hid hb1
        clear hb1
        refine tF 10 [.val 2 (some 39) (.slice pa xs.length ca), .val 3 (some 40) (.int .i64 (j : Int)), .idx 4 (some 41) 27 (.slice pa xs.length ca) (.int .i64 (j : Int)) (pt ba oa), .load 5 (some 42) 22 (pt ba oa) (.slice z.a z.l.length z.c), .val 6 (some 43) (.int .i64 (z.l.length : Int)), .val 7 (some 44) (.bool (decide (1024 < (z.l.length : Int)))), .val 8 (some 45) (.bool (decide (1024 < (z.l.length : Int)))), .val 9 (some 7) (.bool (decide (1024 < (z.l.length : Int))))] ⟨HIa.out _, ld_cell _ _ Try.underlying22 rfl (HCa.out _ (HLa.out.below hM.b HHa.out) 0 _ rfl), trivial⟩ ?_
        refine dF ?_
        try simp only [puts, Tk.put, Act.put, List.setIfInBounds_toArray, List.set_cons_zero, List.set_cons_succ]
        go_upto_region 8 with fail
        refine wp_region_fromM (fun W => Sep w [] [.join (DKR B6 (newD ((r : Nat) : Int)) v6)] W) hM ?_
        clear hM
        rintro Y12 hM
        refine tF 3 [.val 0 (some 27) (.int .i64 (j : Int)), .alt 1 (some 28) (.int .i64 (IntKind.i64.wrap ((j : Int) + 1))) (.int .i64 ((j + 1 : Nat) : Int)), .val 2 (some 8) (.int .i64 ((j + 1 : Nat) : Int))] ⟨congrArg (Value.int .i64) ((IntWalk.i64_in _ (by have := HLENa.out; have := HJ.out; omega)).trans (by omega)), trivial⟩ ?_
        refine dF ?_
        try simp only [puts, Tk.put, Act.put, List.setIfInBounds_toArray, List.set_cons_zero, List.set_cons_succ]
        have hQ : Sep w [] [.join (DKR B6 (newD ((r : Nat) : Int)) v6)] Y12 := hM.pick [0] (by decide) rfl
        have HQ := Lib.hid hQ
        clear hM hQ
        have HBV := Lib.hid (show Value.bool (decide (1024 < (z.l.length : Int))) = .bool (longB (textsZ (xs.take (j + 1)))) from congrArg Value.bool (by rw [long_next HXa.out, Hhb1.out]; rfl))
        go_wp2_with fail
        go_roundw
        case rel => exact ⟨j + 1, HJ.out, rfl, rfl, HBV.out, HQ.out⟩
        case measure => have := HJ.out; simp [intOf]; omega
      | true =>
        have Hhb1 := Lib.hid hb1
        clear hb1
        refine tF 6 [.skip 2 (some 39), .skip 3 (some 40), .skip 4 (some 41), .skip 5 (some 42)] trivial ?_
        refine wpFrom_not (d := some 43) (by kernel_rfl) ?_
        refine tF 10 [.skip 7 (some 44), .val 8 (some 45) (.bool true), .val 9 (some 7) (.bool true)] trivial ?_
        refine dF ?_
        try simp only [puts, Tk.put, Act.put, List.setIfInBounds_toArray, List.set_cons_zero, List.set_cons_succ]
        go_upto_region 8 with fail
        refine wp_region_fromM (fun W => Sep w [] [.join (DKR B6 (newD ((r : Nat) : Int)) v6)] W) hM ?_
        clear hM
        rintro Y13 hM
        refine tF 3 [.val 0 (some 27) (.int .i64 (j : Int)), .alt 1 (some 28) (.int .i64 (IntKind.i64.wrap ((j : Int) + 1))) (.int .i64 ((j + 1 : Nat) : Int)), .val 2 (some 8) (.int .i64 ((j + 1 : Nat) : Int))] ⟨congrArg (Value.int .i64) ((IntWalk.i64_in _ (by have := HLENa.out; have := HJ.out; omega)).trans (by omega)), trivial⟩ ?_
        refine dF ?_
        try simp only [puts, Tk.put, Act.put, List.setIfInBounds_toArray, List.set_cons_zero, List.set_cons_succ]
        have hQ : Sep w [] [.join (DKR B6 (newD ((r : Nat) : Int)) v6)] Y13 := hM.pick [0] (by decide) rfl
        have HQ := Lib.hid hQ
        clear hM hQ
        have HBV := Lib.hid (show Value.bool true = .bool (longB (textsZ (xs.take (j + 1)))) from congrArg Value.bool (by rw [long_next HXa.out, Hhb1.out]; rfl))
        go_wp2_with fail
        go_roundw
        case rel => exact ⟨j + 1, HJ.out, rfl, rfl, HBV.out, HQ.out⟩
        case measure => have := HJ.out; simp [intOf]; omega
    case neg =>
      obtain rfl : j = xs.length := by omega
      rw [List.take_length]
      go_upto_region 7 with fail
      refine wp_region_fromM (fun W => Sep w [] [.join (DKR B6 (newD ((r : Nat) : Int)) v6)] W) hM ?_
      clear hM
      rintro Y14 hM
      refine tF 4 [.val 0 (some 23) (.int .i64 (xs.length : Int)), .val 1 (some 24) (.slice pa xs.length ca), .val 2 (some 25) (.int .i64 (xs.length : Int)), .alt 3 (some 26) (.bool (decide ((xs.length : Int) < (xs.length : Int)))) (.bool false)] ⟨congrArg Value.bool (decide_eq_false (by omega)), trivial⟩ ?_
      refine dF ?_
      try simp only [puts, Tk.put, Act.put, List.setIfInBounds_toArray, List.set_cons_zero, List.set_cons_succ]
      go_upto_region 11 with fail
      refine wp_region_fromM (fun W => Sep w [] [.join (DKR B6 (newD ((r : Nat) : Int)) v6)] W) hM ?_
      clear hM
      rintro Y15 hM
      refine tF 2 [.val 0 (some 46) (pt B6 0), .val 1 (some 47) (.slice pa xs.length ca)] trivial ?_
      have hq := append_any (zs := xs) _ (hM.oka 0 rfl) (new_ok _) (RF.arg hM (List.mem_of_getElem? (i := 0) rfl) HLa.out HHa.out) (HF.arg hM (List.mem_of_getElem? (i := 0) rfl) HKa.out (Nat.le_refl _)) (flat_small HNa.out HFLa.out)
      refine cF (some 48) 16 #[pt B6 0, .slice pa xs.length ca] ((hq).mono ?_)
      rintro e Y17 ⟨rfl, v15, hT⟩
      clear hq
      replace hM := hM.turn 0 rfl hT rfl
      clear hT
      obtain ⟨D15, hD⟩ : ∃ D', (appJ (newD ((r : Nat) : Int)) (textsZ xs)).1 = D' := ⟨_, rfl⟩
      obtain ⟨e15, hE⟩ : ∃ e', (appJ (newD ((r : Nat) : Int)) (textsZ xs)).2 = e' := ⟨_, rfl⟩
      have hF := app_facts (new_ok _) hD hE
      replace hM : Sep w [] [.join (DKR B6 (appJ (newD ((r : Nat) : Int)) (textsZ xs)).1 v15)] Y17 := hM
      rw [hD] at hM
      have hE2 : (appJ (newD ((r : Nat) : Int)) (textsZ xs)).2 = e15 := hE
      rw [hE2]
      have HOD15 := Lib.hid hF.1
      have HF15 := Lib.hid hF
      have HE15 := Lib.hid hE
      clear hD hE hE2 hF
      refine tF 4 [.val 3 (some 9) (.int .i64 e15)] trivial ?_
      refine dF ?_
      try simp only [puts, Tk.put, Act.put, List.setIfInBounds_toArray, List.set_cons_zero, List.set_cons_succ]
      go_upto_region 12 with fail
      refine wp_region_fromM (fun W => Sep w [] [.join (DKR B6 D15 v15)] W) hM ?_
      clear hM
      rintro Y18 hM
      refine tF 1 [.val 0 (some 10) (.pointer none)] trivial ?_
      refine dF ?_
      try simp only [puts, Tk.put, Act.put, List.setIfInBounds_toArray, List.set_cons_zero, List.set_cons_succ]
      go_upto_region 13 with fail
      refine wp_region_fromM (fun W => Sep w [] [.join (DKR B6 D15 v15)] W) hM ?_
      clear hM
      rintro Y19 hM
      refine tF 1 [.val 0 (some 50) (.pointer none)] trivial ?_
      refine cF (some 51) 20 #[.pointer none] ((load_no _ (.inl rfl)).mono ?_)
      rintro e Y20 ⟨rfl, hb⟩
      replace hM := hM.below hb
      clear hb
      refine tF 7 [.val 2 (some 49) (.tuple #[.slice none 0 0, .int .i64 9]), .val 3 (some 52) (.slice none 0 0), .val 4 (some 53) (.int .i64 9), .val 5 (some 11) (.slice none 0 0), .val 6 (some 12) (.int .i64 9)] trivial ?_
      refine dF ?_
      try simp only [puts, Tk.put, Act.put, List.setIfInBounds_toArray, List.set_cons_zero, List.set_cons_succ]
      go_upto_region 14 with fail
      refine wp_region_fromM (fun W => Sep w [] [.join (DKR B6 D15 v15)] W) hM ?_
      clear hM
      rintro Y21 hM
      refine tF 5 [.val 0 (some 54) (.int .i64 9), .val 1 (some 55) (.bool false), .val 2 (some 56) (.bool false), .val 3 (some 57) (.pointer none), .val 4 (some 58) (.slice pa xs.length ca)] trivial ?_
      refine cF (some 59) 16 #[.pointer none, .slice pa xs.length ca] ((append_no _ (.inl rfl)).mono ?_)
      rintro e Y22 ⟨rfl, rfl⟩
      refine tF 8 [.val 6 (some 60) (.bool false), .val 7 (some 61) (.bool false)] trivial ?_
      refine dF ?_
      try simp only [puts, Tk.put, Act.put, List.setIfInBounds_toArray, List.set_cons_zero, List.set_cons_succ]
      go_upto_region 16 with fail
      refine wp_region_fromM (fun W => Sep w [] [.join (DKR B6 D15 v15)] W) hM ?_
      clear hM
      rintro Y23 hM
      refine tF 2 [.val 0 (some 63) (.bool (longB (textsZ xs))), .val 1 (some 62) (.bool (longB (textsZ xs)))] trivial ?_
      refine dF ?_
      try simp only [puts, Tk.put, Act.put, List.setIfInBounds_toArray, List.set_cons_zero, List.set_cons_succ]
      cases hb2 : longB (textsZ xs) with
      | false =>
        have Hhb2 := Lib.hid hb2
        clear hb2
        go_upto_region 18 with fail
        refine wp_region_fromM (fun W => Sep w [] [.join (DKR B6 D15 v15)] W) hM ?_
        clear hM
        rintro Y24 hM
        refine tF 4 [.val 0 (some 72) (.int .i64 (((framesL (textsZ xs)).length : Nat) : Int)), .val 1 (some 73) (.int .i64 ((r : Nat) : Int)), .val 2 (some 74) (.bool (decide (((r : Nat) : Int) < (((framesL (textsZ xs)).length : Nat) : Int)))), .val 3 (some 71) (.bool (decide (((r : Nat) : Int) < (((framesL (textsZ xs)).length : Nat) : Int))))] trivial ?_
        refine dF ?_
        try simp only [puts, Tk.put, Act.put, List.setIfInBounds_toArray, List.set_cons_zero, List.set_cons_succ]
        cases hb3 : decide (((r : Nat) : Int) < (((framesL (textsZ xs)).length : Nat) : Int)) with
        | false =>
          have Hhb3 := Lib.hid hb3
          clear hb3
          have HZ := Lib.hid (all_fits HE15.out Hhb2.out HNEW.out.2.1 (by rw [HNEW.out.1]; have h := of_decide_eq_false Hhb3.out; omega))
          have HY15 := Lib.hid (app_yes HF15.out (by rw [HZ.out]; rfl))
          go_upto_region 20 with fail
          refine wp_region_fromM (fun W => Sep w [] [.join (DKR B6 D15 v15)] W) hM ?_
          clear hM
          rintro Y25 hM
          refine tF 1 [.val 0 (some 83) (pt B6 0)] trivial ?_
          refine cF (some 84) 20 #[pt B6 0] ((load_any _ (hM.oka 0 rfl) HOD15.out).mono ?_)
          rintro e Y27 ⟨v25s, zs25, v25, n25, rfl, hs, hT⟩
          replace hM := hM.turn 0 rfl hT rfl
          clear hT
          replace hM : Sep w [] [.join ([.join (DKR B6 (leaveD D15 n25) v25), .own zsc 22 1 (v25s) (zs25), .octs zs25])] Y27 := hM.pick [0] (by decide) rfl
          replace hM : Sep w [] [.join (DKR B6 (leaveD D15 n25) v25), .own zsc 22 1 (v25s) (zs25), .octs zs25] Y27 := hM.part
          obtain ⟨D25, hD⟩ : ∃ D', leaveD D15 n25 = D' := ⟨_, rfl⟩
          have hF := load_facts HOD15.out hs hD
          rw [hD] at hM
          have HS25 := Lib.hid hs
          have HOD25 := Lib.hid hF.1
          have HLD25 := Lib.hid hF.2
          clear hs hD hF
          replace hM : Sep w [] [.join (DKR B6 D25 v25), .own zsc 22 1 (v25s) (zs25), .octs zs25] Y27 := hM
          obtain ⟨pv25s, cv25s, rfl⟩ := (hM.oka 1 rfl).slice zsc_len
          have hone := spl_one HS25.out (by rw [HY15.out.2.2.2.1]; exact spl_all HY15.out.1)
          have HTX := Lib.hid hone.1
          clear hone
          refine tF 7 [.val 2 (some 82) (.tuple #[.slice pv25s zs25.length cv25s, .int .i64 0]), .val 3 (some 85) (.slice pv25s zs25.length cv25s), .val 4 (some 86) (.int .i64 0), .val 5 (some 13) (.slice pv25s zs25.length cv25s), .val 6 (some 14) (.int .i64 0)] trivial ?_
          refine dF ?_
          try simp only [puts, Tk.put, Act.put, List.setIfInBounds_toArray, List.set_cons_zero, List.set_cons_succ]
          go_upto_region 21 with fail
          refine wp_region_fromM (fun W => Sep w [] [.join (DKR B6 D25 v25), .own zsc 22 1 (.slice pv25s zs25.length cv25s) (zs25), .octs zs25] W) hM ?_
          clear hM
          rintro Y28 hM
          refine tF 9 [.val 0 (some 87) (.int .i64 e15), .alt 1 (some 88) (.bool (e15 == 0)) (.bool true), .val 2 (some 89) (.bool true), .val 3 (some 90) (.int .i64 0), .val 4 (some 91) (.bool true), .val 5 (some 92) (.bool true), .val 6 (some 93) (.bool true), .val 7 (some 94) (.slice pv25s zs25.length cv25s), .val 8 (some 95) (.slice pa xs.length ca)] ⟨congrArg Value.bool ((by rw [HZ.out]; rfl)), trivial⟩ ?_
          refine cF (some 96) 11 #[.slice pv25s zs25.length cv25s, .slice pa xs.length ca] ((lists_any _ ((hM.oka 1 rfl).rsl zsc_len) (Nat.le_refl _) (HLa.out.below hM.b HHa.out) (Nat.le_trans HHa.out hM.size) ((hM.oka 2 rfl).hold) ((HKa.out.below hM.b (Nat.le_refl _)).mono hM.size) (HTX.out)).mono ?_)
          rintro e Y29 ⟨rfl, hb⟩
          replace hM := hM.below hb
          clear hb
          refine tF 12 [.val 10 (some 97) (.bool true), .val 11 (some 4) (.bool true)] trivial ?_
          refine dF ?_
          try simp only [puts, Tk.put, Act.put, List.setIfInBounds_toArray, List.set_cons_zero, List.set_cons_succ]
          go_wp2_with fail
          go_ret
          exact ⟨rfl, hM.b⟩
        | true =>
          have Hhb3 := Lib.hid hb3
          clear hb3
          have HZ := Lib.hid (all_full HE15.out Hhb2.out HNEW.out.2.1 (by rw [HNEW.out.1]; have h := of_decide_eq_true Hhb3.out; omega))
          have HX15 := Lib.hid (app_no HF15.out (by rw [HZ.out]; rfl))
          go_upto_region 19 with fail
          refine wp_region_fromM (fun W => Sep w [] [.join (DKR B6 D15 v15)] W) hM ?_
          clear hM
          rintro Y30 hM
          refine tF 4 [.val 0 (some 75) (.int .i64 e15), .alt 1 (some 76) (.bool (e15 == 10)) (.bool true), .val 2 (some 77) (.bool true), .val 3 (some 78) (pt B6 0)] ⟨congrArg Value.bool ((by rw [HZ.out]; rfl)), trivial⟩ ?_
          refine cF (some 79) 17 #[pt B6 0] ((dkFresh_any _ (DkV.of (hM.oka 0 rfl)) HOD15.out).mono ?_)
          rintro e Y31 ⟨rfl, hb⟩
          replace hM := hM.below hb
          clear hb
          refine tF 8 [.alt 5 (some 80) (.bool (((D15.o.length : Int) - (D15.su : Int)) == 0)) (.bool true), .val 6 (some 81) (.bool true), .val 7 (some 4) (.bool true)] ⟨congrArg Value.bool (fresh_z (by rw [HX15.out]; rfl) (by rw [HX15.out]; rfl)), trivial⟩ ?_
          refine dF ?_
          try simp only [puts, Tk.put, Act.put, List.setIfInBounds_toArray, List.set_cons_zero, List.set_cons_succ]
          go_wp2_with fail
          go_ret
          exact ⟨rfl, hM.b⟩
      | true =>
        have Hhb2 := Lib.hid hb2
        clear hb2
        have HZ := Lib.hid (all_long HE15.out Hhb2.out)
        have HX15 := Lib.hid (app_no HF15.out (by rw [HZ.out]; rfl))
        go_upto_region 17 with fail
        refine wp_region_fromM (fun W => Sep w [] [.join (DKR B6 D15 v15)] W) hM ?_
        clear hM
        rintro Y32 hM
        refine tF 4 [.val 0 (some 64) (.int .i64 e15), .alt 1 (some 65) (.bool (e15 == 5)) (.bool true), .val 2 (some 66) (.bool true), .val 3 (some 67) (pt B6 0)] ⟨congrArg Value.bool ((by rw [HZ.out]; rfl)), trivial⟩ ?_
        refine cF (some 68) 17 #[pt B6 0] ((dkFresh_any _ (DkV.of (hM.oka 0 rfl)) HOD15.out).mono ?_)
        rintro e Y33 ⟨rfl, hb⟩
        replace hM := hM.below hb
        clear hb
        refine tF 8 [.alt 5 (some 69) (.bool (((D15.o.length : Int) - (D15.su : Int)) == 0)) (.bool true), .val 6 (some 70) (.bool true), .val 7 (some 4) (.bool true)] ⟨congrArg Value.bool (fresh_z (by rw [HX15.out]; rfl) (by rw [HX15.out]; rfl)), trivial⟩ ?_
        refine dF ?_
        try simp only [puts, Tk.put, Act.put, List.setIfInBounds_toArray, List.set_cons_zero, List.set_cons_succ]
        go_wp2_with fail
        go_ret
        exact ⟨rfl, hM.b⟩
end Go.Proofs.Ytcjodiemgnihoaa
namespace Go.Proofs.Ytcjodiemgnihoaa
open Go.ChangeShapes Go.WideShapes Go.ChangeAt Go.RowKit Go.Deep
open Go.ChangeMaps (open_string)
set_option maxRecDepth 100000 in
theorem journalAll_contract (H : Type) (enc : TypeId × Value → H) (W : World) (base : Nat) (args : Array Value) (ds gs : List (DataW H)) (before : List MemPlace)
    (hval0 : ∀ (j : Nat) t v, Try.f5.params[j]? = some t → args[j]? = some v → Value.okWide Try.prog W .any base t v)
    (hW : DataW.Whole enc Try.prog Try.f5.params.toList Rows.journalAllSpec.vars false W args.toList ds gs before) (hk : Rows.uptoSmall H (ds ++ gs) = true) :
    Calls Try.prog 5 args W fun e W' => ∃ v, e = .returned v ∧ Rows.journalAllSpec.post enc Try.prog Try.f5 false true false false W args v W' := by
  have hval : ∀ (j : Nat) t v, Try.f5.params[j]? = some t → args[j]? = some v → Value.okWide Try.prog W .any base t v := hval0
  have hW' := hW
  obtain ⟨p, q, hA0, hV, rfl, hfz, hnd⟩ := hW
  have hA : DataW.TrodAll enc Try.prog W 0 (fun _ => true) true Try.f5.params.toList args.toList ds p := hA0
  rw [Try.params5] at hA hval
  obtain ⟨v0, v1, d0, d1, p0, p1, rfl, rfl, rfl, h0, h1⟩ := trodAll_two hA
  obtain ⟨rfl, rfl⟩ := trodVars_none hV
  have hbulk := bulk_all (ds := [d0, d1]) hk
  simp only [Rows.uptoBulkAll] at hbulk
  obtain ⟨a0, len0, cap0, rfl⟩ := okWide_slice Try.underlying27 (hval 0 27 v0 rfl rfl)
  have k0 := h0
  have k1 := h1
  have lt0 : ∀ x ∈ p0, x.block < W.heap.size := by obtain ⟨m, hm⟩ := k0; exact DataW.trod_lt m _ _ _ hm
  have lt1 : ∀ x ∈ p1, x.block < W.heap.size := by obtain ⟨m, hm⟩ := k1; exact DataW.trod_lt m _ _ _ hm
  obtain ⟨l0, hsl0, hhi0, hk0, hn0, hf0⟩ := open_zs h0 (by omega)
  obtain ⟨z1, rfl, _, _, wf1⟩ := open_int Try.underlying3 (hval 1 3 v1 rfl rfl) h1
  clear hA0 hval0
  refine (journalAll_any z1 W hsl0 hhi0 hk0 hn0 hf0).mono fun e W' ⟨he, bel⟩ => ?_
  subst he
  exact ⟨_, rfl, _, _, _, [], _, [], hW', trodAll_mk1 (shut_bool Try.underlying4 _), (trodAll_mk2 (Below.trod Try.laidOut (by kernel_rfl) (of_decide_eq_true (by kernel_rfl)) k0 bel lt0) (Below.trod Try.laidOut (by kernel_rfl) (of_decide_eq_true (by kernel_rfl)) k1 bel lt1)), rfl, bel.frame _, fun h => by cases h⟩
set_option maxRecDepth 100000 in
theorem journalAll_lifted (os : Os) (started : os.Started) (H : Type) (enc : TypeId × Value → H) (F : Stop.Interp) :
    ReturnsInHanded {} Try.checked os 5 .any ((Rows.OpenSpec.upto Rows.journalAllSpec).pre6 enc Try.prog Try.f5 Rows.journalAllUptoRow.domain false) (((Rows.OpenSpec.upto Rows.journalAllSpec).at F).post enc Try.prog Try.f5 false true false false) := by
  refine returnsInHanded_of_cond (C := Try.checked) (s := Rows.OpenSpec.upto Rows.journalAllSpec) (k := Rows.uptoSmall) rfl Try.own started (by kernel_rfl) Try.func5
    (OpenSpec.witness (enc := enc) (C := Try.checked) (s := Rows.OpenSpec.upto Rows.journalAllSpec) (k := Rows.uptoSmall) rfl false ⟨#[], #[.slice none 0 0, .int .i64 0], []⟩ 8 (by kernel_rfl) (by kernel_rfl) (by kernel_rfl)
      (x := ([.nil, .lit (.int .i64 0)], [], [])) (by kernel_rfl) rfl (by kernel_rfl)) ?_
  intro W base args ds gs before hval hW _ hk _
  exact journalAll_contract H enc W base args ds gs before hval hW hk
theorem journalAll_proved : Rows.JournalAllUptoSaid :=
  OpenClaim.holds_of_cond 5 Try.f5 rfl rfl rfl rfl rfl rfl rfl ⟨rfl, rfl, rfl, rfl, rfl⟩ rfl rfl rfl rfl rfl (by kernel_rfl) Try.func5 (by kernel_rfl)
    (of_decide_eq_true (by kernel_rfl)) (by unfold Func.isWrapper; first | (rw [if_pos (by decide +kernel)]; kernel_rfl) | (rw [if_neg (by decide +kernel)]; exact ⟨rfl, rfl⟩))
    (fun os started H enc _ F => journalAll_lifted os started H enc F)
end Go.Proofs.Ytcjodiemgnihoaa
