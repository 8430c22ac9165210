/-
  What events tell: Deals, Of, Last; the law's alive, first; The law: what events tell; of one that was prepared; the first one
-/
import Derived.Test.YthbpidekfocioaaK06
namespace Go.Proofs.Ythbpidekfocioaa
open Go.RowKit Go.Shelf
attribute [local irreducible] wpFrom wpAnyH StepH
set_option maxRecDepth 100000 in
set_option maxHeartbeats 4000000 in
theorem of_any (a : Int) (l : List Ev) (v : Value) (w : World) {lo hi : Nat} (hl : RSl evc lo hi w v l) (hhi : hi ≤ w.heap.size) (hr : l.length * 240 ≤ 140737488355328) : Calls Try.prog 13 #[v, .int .i64 a] w (RowE (ofE l a) w) := by
  have hmx : Try.prog.follows .mixedOrders = true := by kernel_rfl
  have HEl := Lib.hid (fun k x (hx : l[k]? = some x) => hl.elem evc_len hx Try.underlying22 (fun W => by kernel_rfl))
  obtain ⟨pl, cl, rfl⟩ := hl.slice
  have HLl := Lib.hid hl
  have HHl := Lib.hid hhi
  have HLENl := Lib.hid (show l.length ≤ 9223372036854775807 from by have h := hl.len; unfold maxLen at h; omega)
  clear hl hhi
  have HR := Lib.hid hr
  clear hr
  have hM := Sep.start w
  go_enter Try.func13, Try.ntmps13
  go_upto_region 0 with fail
  refine wp_region_fromM (fun W => Sep w [] [] W) hM ?_
  clear hM
  rintro Y1 hM
  refine rF (some 3) (pt Y1.heap.size 0) (Y1.alloc (.cells ([.int .i64 a]).toArray 3)) ?_
  replace hM := hM.alloc 3 ([.int .i64 a])
  generalize World.alloc _ _ = Y2 at *
  generalize hNe : Y1.heap.size = N2 at *
  clear hNe
  refine tF 2 [.val 1 (some 4) (.slice none 0 0)] trivial ?_
  refine dF ?_
  try simp only [puts, Tk.put, Act.put, List.setIfInBounds_toArray, List.set_cons_zero, List.set_cons_succ]
  go_upto_region 1 with fail
  refine wp_region_fromM (fun W => Sep w [] [.blk N2 3 ([.int .i64 a])] W) hM ?_
  clear hM
  rintro Y3 hM
  refine tF 2 [.val 0 (some 5) (.slice pl l.length cl), .val 1 (some 6) (.func (.func 23) #[] #[pt N2 0])] trivial ?_
  refine cF (some 7) 21 #[.slice pl l.length cl, .func (.func 23) #[] #[pt N2 0]] ((which2_any a l _ _ (HLl.out.below hM.b HHl.out) (Nat.le_trans HHl.out hM.size) HR.out (hM.at 0 rfl)).mono ?_)
  rintro e Y4 ⟨v4, rfl, hR⟩
  replace hM := hM.gain hR
  clear hR
  obtain ⟨pv4, cv4, rfl⟩ := (hM.oka 0 rfl).slice evc_len
  refine tF 4 [.val 3 (some 4) (.slice pv4 (l.filter (isO a)).length cv4)] trivial ?_
  refine dF ?_
  try simp only [puts, Tk.put, Act.put, List.setIfInBounds_toArray, List.set_cons_zero, List.set_cons_succ]
  go_wp2_with fail
  go_ret
  exact ⟨_, rfl, hM.sub (.cons_cons _ (.cons _ .slnil))⟩
theorem last_snoc {l : List Ev} {j : Nat} {x : Ev} (hx : l[j]? = some x) : lastE (-1) (l.take (j + 1)) = max2I (lastE (-1) (l.take j)) x.tm := by
  rw [take_oneG hx, last_app, max2I_eq]
  rfl
set_option maxRecDepth 100000 in
set_option maxHeartbeats 4000000 in
theorem last_any (l : List Ev) (v : Value) (w : World) {lo hi : Nat} (hl : RSl evc lo hi w v l) (hhi : hi ≤ w.heap.size) : Calls Try.prog 14 #[v] w fun e W' => e = .returned (.int .i64 (lastE (-1) l)) ∧ Below w.heap.size w W' := by
  have hmx : Try.prog.follows .mixedOrders = true := by kernel_rfl
  have HEl := Lib.hid (fun k x (hx : l[k]? = some x) => hl.elem evc_len hx Try.underlying22 (fun W => by kernel_rfl))
  obtain ⟨pl, cl, rfl⟩ := hl.slice
  have HLl := Lib.hid hl
  have HHl := Lib.hid hhi
  have HLENl := Lib.hid (show l.length ≤ 9223372036854775807 from by have h := hl.len; unfold maxLen at h; omega)
  clear hl hhi
  have hM := Sep.start w
  go_enter Try.func14, Try.ntmps14
  go_upto_region 0 with fail
  refine wp_region_fromM (fun W => Sep w [] [] W) hM ?_
  clear hM
  rintro Y1 hM
  refine tF 1 [.val 0 (some 2) (.int .i64 0)] trivial ?_
  refine dF ?_
  try simp only [puts, Tk.put, Act.put, List.setIfInBounds_toArray, List.set_cons_zero, List.set_cons_succ]
  go_upto_region 1 with fail
  refine wp_region_fromM (fun W => Sep w [] [] W) hM ?_
  clear hM
  rintro Y2 hM
  refine tF 1 [.val 0 (some 3) (.int .i64 (-1))] trivial ?_
  refine dF ?_
  try simp only [puts, Tk.put, Act.put, List.setIfInBounds_toArray, List.set_cons_zero, List.set_cons_succ]
  go_upto_region 2 with fail
  refine wp_region_fromM (fun W => Sep w [] [] W) hM ?_
  clear hM
  rintro Y3 hM
  refine tF 3 [.val 0 (some 6) (.slice pl l.length cl), .val 1 (some 7) (.int .i64 (l.length : Int)), .val 2 (some 8) (.int .i64 0)] trivial ?_
  refine dF ?_
  try simp only [puts, Tk.put, Act.put, List.setIfInBounds_toArray, List.set_cons_zero, List.set_cons_succ]
  go_wp2_with fail
  go_loopw [3, 8] (fun n i wr => ∃ j : Nat, j ≤ l.length ∧ i = .int .i64 (j : Int) ∧ n = .int .i64 (lastE (-1) (l.take j)) ∧ Sep w [] [] wr) (fun n i _ => l.length - (intOf i).toNat)
  case atStart => exact ⟨0, Nat.zero_le _, rfl, rfl, hM⟩
  clear hM
  case round =>
    obtain ⟨j, hj, rfl, rfl, hM⟩ := hrel
    by_cases hlt : j < l.length
    case pos =>
      have HJ := Lib.hid hlt
      have hlt' : (j : Int) < (l.length : Int) := by omega
      obtain ⟨x, hx⟩ : ∃ x, l[j]? = some x := ⟨_, List.getElem?_eq_getElem hlt⟩
      obtain ⟨bl, ol, _, _, hit, hct⟩ := HEl.out j x hx
      have HXl := Lib.hid hx
      have HIl := Lib.hid hit
      have HCl := Lib.hid hct
      clear hx hit hct
      clear hlt
      go_upto_region 3 with fail
      refine wp_region_fromM (fun W => Sep w [] [] W) hM ?_
      clear hM
      rintro Y4 hM
      refine tF 1 [.alt 0 (some 9) (.bool (decide ((j : Int) < (l.length : Int)))) (.bool true)] ⟨congrArg Value.bool (decide_eq_true hlt'), trivial⟩ ?_
      refine dF ?_
      try simp only [puts, Tk.put, Act.put, List.setIfInBounds_toArray, List.set_cons_zero, List.set_cons_succ]
      go_upto_region 4 with fail
      refine wp_region_fromM (fun W => Sep w [] [] W) hM ?_
      clear hM
      rintro Y5 hM
      refine tF 2 [.idx 0 (some 10) 22 (.slice pl l.length cl) (.int .i64 (j : Int)) (pt bl ol), .load 1 (some 11) 36 (pt bl ol) (evv x)] ⟨HIl.out _, ld_cells (evc x) _ _ Try.underlying36 rfl (by kernel_rfl) (HCl.out _ (HLl.out.below hM.b HHl.out)), trivial⟩ ?_
      refine rF (some 5) (pt Y5.heap.size 0) (Y5.alloc (.cells (evc noE).toArray 36)) ?_
      replace hM := hM.alloc 36 (evc noE)
      generalize World.alloc _ _ = Y6 at *
      generalize hNe : Y5.heap.size = N6 at *
      clear hNe
      have hst := sto_part (evc x) (hM.at 0 rfl) 0 36 (evv x) (evc x) rfl (by kernel_rfl) (Nat.le_of_ble_eq_true rfl) rfl rfl
      refine sF 36 (pt N6 0) (evv x) (hst) ?_
      clear hst
      replace hM := hM.set 0 (cs' := evc x) rfl rfl
      generalize World.setRow _ _ _ = Y7 at *
      refine dF ?_
      try simp only [puts, Tk.put, Act.put, List.setIfInBounds_toArray, List.set_cons_zero, List.set_cons_succ]
      go_upto_region 5 with fail
      refine wp_region_fromM (fun W => Sep w [] [.blk N6 36 (evc x)] W) hM ?_
      clear hM
      rintro Y8 hM
      refine tF 5 [.val 0 (some 12) (.int .i64 (lastE (-1) (l.take j))), .val 1 (some 13) (pt N6 0), .load 2 (some 14) 3 (pt N6 0) (.int .i64 x.tm), .alt 3 (some 15) (.int .i64 (max2I (lastE (-1) (l.take j)) x.tm)) (.int .i64 (lastE (-1) (l.take (j + 1)))), .val 4 (some 3) (.int .i64 (lastE (-1) (l.take (j + 1))))] ⟨ld_any _ _ Try.underlying3 rfl (hM.at 0 rfl) 0 rfl, congrArg (Value.int .i64) ((last_snoc HXl.out).symm), trivial⟩ ?_
      refine dF ?_
      try simp only [puts, Tk.put, Act.put, List.setIfInBounds_toArray, List.set_cons_zero, List.set_cons_succ]
      go_upto_region 6 with fail
      refine wp_region_fromM (fun W => Sep w [] [.blk N6 36 (evc x)] W) hM ?_
      clear hM
      rintro Y9 hM
      refine tF 2 [.alt 0 (some 16) (.int .i64 (IntKind.i64.wrap ((j : Int) + 1))) (.int .i64 ((j + 1 : Nat) : Int)), .val 1 (some 8) (.int .i64 ((j + 1 : Nat) : Int))] ⟨congrArg (Value.int .i64) ((IntWalk.i64_in _ (by have := HLENl.out; have := HJ.out; omega)).trans (by omega)), trivial⟩ ?_
      refine dF ?_
      try simp only [puts, Tk.put, Act.put, List.setIfInBounds_toArray, List.set_cons_zero, List.set_cons_succ]
      have hM1 := hM.sub (l' := []) (.cons _ .slnil)
      have HM1 := Lib.hid hM1
      clear hM hM1
      go_wp2_with fail
      go_roundw
      case rel => exact ⟨j + 1, HJ.out, rfl, rfl, HM1.out⟩
      case measure => have := HJ.out; simp [intOf]; omega
    case neg =>
      obtain rfl : j = l.length := by omega
      go_upto_region 3 with fail
      refine wp_region_fromM (fun W => Sep w [] [] W) hM ?_
      clear hM
      rintro Y10 hM
      refine tF 1 [.alt 0 (some 9) (.bool (decide ((l.length : Int) < (l.length : Int)))) (.bool false)] ⟨congrArg Value.bool (decide_eq_false (by omega)), trivial⟩ ?_
      refine dF ?_
      try simp only [puts, Tk.put, Act.put, List.setIfInBounds_toArray, List.set_cons_zero, List.set_cons_succ]
      go_upto_region 7 with fail
      refine wp_region_fromM (fun W => Sep w [] [] W) hM ?_
      clear hM
      rintro Y11 hM
      refine tF 2 [.val 0 (some 17) (.int .i64 (lastE (-1) (l.take l.length))), .val 1 (some 2) (.int .i64 (lastE (-1) (l.take l.length)))] trivial ?_
      refine dF ?_
      try simp only [puts, Tk.put, Act.put, List.setIfInBounds_toArray, List.set_cons_zero, List.set_cons_succ]
      go_wp2_with fail
      go_ret
      exact ⟨by rw [List.take_length]; rfl, hM.b⟩
theorem take_map {l : List Ev} {j : Nat} {x : Ev} (hx : l[j]? = some x) : (l.take (j + 1)).map Ev.tx = (l.take j).map Ev.tx ++ [x.tx] := by
  rw [take_oneG hx, List.map_append]
  rfl
set_option maxRecDepth 100000 in
set_option maxHeartbeats 4000000 in
theorem deals_any (l : List Ev) (v : Value) (w : World) {lo hi : Nat} (hl : RSl evc lo hi w v l) (hhi : hi ≤ w.heap.size) (hr : l.length * 240 ≤ 140737488355328) : Calls Try.prog 12 #[v] w (RowT (dealsE l) w) := by
  have hmx : Try.prog.follows .mixedOrders = true := by kernel_rfl
  have HEl := Lib.hid (fun k x (hx : l[k]? = some x) => hl.elem evc_len hx Try.underlying22 (fun W => by kernel_rfl))
  obtain ⟨pl, cl, rfl⟩ := hl.slice
  have HLl := Lib.hid hl
  have HHl := Lib.hid hhi
  have HLENl := Lib.hid (show l.length ≤ 9223372036854775807 from by have h := hl.len; unfold maxLen at h; omega)
  clear hl hhi
  have HR := Lib.hid hr
  clear hr
  have hM := Sep.start w
  have HF := Lib.hid (show (l.filter (isD 4)).length ≤ l.length from List.length_filter_le _ _)
  go_enter Try.func12, Try.ntmps12
  go_upto_region 0 with fail
  refine wp_region_fromM (fun W => Sep w [] [] W) hM ?_
  clear hM
  rintro Y1 hM
  refine tF 1 [.val 0 (some 2) (.slice none 0 0)] trivial ?_
  refine dF ?_
  try simp only [puts, Tk.put, Act.put, List.setIfInBounds_toArray, List.set_cons_zero, List.set_cons_succ]
  go_upto_region 1 with fail
  refine wp_region_fromM (fun W => Sep w [] [] W) hM ?_
  clear hM
  rintro Y2 hM
  refine tF 1 [.val 0 (some 3) (.slice none 0 0)] trivial ?_
  refine dF ?_
  try simp only [puts, Tk.put, Act.put, List.setIfInBounds_toArray, List.set_cons_zero, List.set_cons_succ]
  go_upto_region 2 with fail
  refine wp_region_fromM (fun W => Sep w [] [] W) hM ?_
  clear hM
  rintro Y3 hM
  refine tF 1 [.val 0 (some 6) (.slice pl l.length cl)] trivial ?_
  refine cF (some 7) 22 #[.int .i64 4] ((done_any 4 _).mono ?_)
  rintro e Y4 ⟨K4, rfl, hR⟩
  replace hM := hM.gain hR
  clear hR
  refine cF (some 8) 21 #[.slice pl l.length cl, .func (.func 33) #[] #[.pointer (some ⟨K4, 0, none⟩)]] ((which1_any 4 l _ _ (HLl.out.below hM.b HHl.out) (Nat.le_trans HHl.out hM.size) HR.out (hM.at 0 rfl)).mono ?_)
  rintro e Y5 ⟨v5, rfl, hR⟩
  replace hM := hM.gain hR
  clear hR
  obtain ⟨pv5, cv5, rfl⟩ := (hM.oka 0 rfl).slice evc_len
  refine tF 5 [.val 3 (some 9) (.int .i64 ((l.filter (isD 4)).length : Int)), .val 4 (some 10) (.int .i64 0)] trivial ?_
  refine dF ?_
  try simp only [puts, Tk.put, Act.put, List.setIfInBounds_toArray, List.set_cons_zero, List.set_cons_succ]
  replace hM := hM.sub (l' := [.own evc 36 27 (.slice pv5 (l.filter (isD 4)).length cv5) ((l.filter (isD 4)))]) (.cons_cons _ (.cons _ .slnil))
  replace hM := hM.nil (fun t => txc t) 33 25
  have HLEN := Lib.hid (show (l.filter (isD 4)).length ≤ 9223372036854775806 from by have := HR.out; have := HF.out; omega)
  go_wp2_with fail
  go_loopw [3, 10] (fun u3 i wr => ∃ j : Nat, j ≤ (l.filter (isD 4)).length ∧ i = .int .i64 (j : Int) ∧ Sep w [] [.own (fun t => txc t) 33 25 (u3) ((((l.filter (isD 4)).take j).map Ev.tx)), .own evc 36 27 (.slice pv5 (l.filter (isD 4)).length cv5) ((l.filter (isD 4)))] wr) (fun u3 i _ => (l.filter (isD 4)).length - (intOf i).toNat)
  case atStart => exact ⟨0, Nat.zero_le _, rfl, hM⟩
  clear hM
  case round =>
    obtain ⟨j, hj, rfl, hM⟩ := hrel
    by_cases hlt : j < (l.filter (isD 4)).length
    case pos =>
      have HJ := Lib.hid hlt
      have hlt' : (j : Int) < ((l.filter (isD 4)).length : Int) := by omega
      obtain ⟨x, hx⟩ : ∃ x, (l.filter (isD 4))[j]? = some x := ⟨_, List.getElem?_eq_getElem hlt⟩
      have HX := Lib.hid hx
      have HTM := Lib.hid (take_map hx)
      obtain ⟨bd, od, hit, hct⟩ := (hM.oka 1 rfl).elem evc_len hx Try.underlying22 (fun W => by kernel_rfl)
      have HId := Lib.hid hit
      have HCd := Lib.hid hct
      clear hit hct
      clear hx
      clear hlt
      go_upto_region 3 with fail
      refine wp_region_fromM (fun W => Sep w [] [.own (fun t => txc t) 33 25 (u3) ((((l.filter (isD 4)).take j).map Ev.tx)), .own evc 36 27 (.slice pv5 (l.filter (isD 4)).length cv5) ((l.filter (isD 4)))] W) hM ?_
      clear hM
      rintro Y6 hM
      refine tF 1 [.alt 0 (some 11) (.bool (decide ((j : Int) < ((l.filter (isD 4)).length : Int)))) (.bool true)] ⟨congrArg Value.bool (decide_eq_true hlt'), trivial⟩ ?_
      refine dF ?_
      try simp only [puts, Tk.put, Act.put, List.setIfInBounds_toArray, List.set_cons_zero, List.set_cons_succ]
      go_upto_region 4 with fail
      refine wp_region_fromM (fun W => Sep w [] [.own (fun t => txc t) 33 25 (u3) ((((l.filter (isD 4)).take j).map Ev.tx)), .own evc 36 27 (.slice pv5 (l.filter (isD 4)).length cv5) ((l.filter (isD 4)))] W) hM ?_
      clear hM
      rintro Y7 hM
      refine tF 2 [.idx 0 (some 12) 22 (.slice pv5 (l.filter (isD 4)).length cv5) (.int .i64 (j : Int)) (pt bd od), .load 1 (some 13) 36 (pt bd od) (evv x)] ⟨HId.out _, ld_cells (evc x) _ _ Try.underlying36 rfl (by kernel_rfl) (HCd.out _ (hM.oka 1 rfl)), trivial⟩ ?_
      refine rF (some 5) (pt Y7.heap.size 0) (Y7.alloc (.cells (evc noE).toArray 36)) ?_
      replace hM := hM.alloc 36 (evc noE)
      generalize World.alloc _ _ = Y8 at *
      generalize hNe : Y7.heap.size = N8 at *
      clear hNe
      have hst := sto_part (evc x) (hM.at 0 rfl) 0 36 (evv x) (evc x) rfl (by kernel_rfl) (Nat.le_of_ble_eq_true rfl) rfl rfl
      refine sF 36 (pt N8 0) (evv x) (hst) ?_
      clear hst
      replace hM := hM.set 0 (cs' := evc x) rfl rfl
      generalize World.setRow _ _ _ = Y9 at *
      refine dF ?_
      try simp only [puts, Tk.put, Act.put, List.setIfInBounds_toArray, List.set_cons_zero, List.set_cons_succ]
      go_upto_region 5 with fail
      refine wp_region_fromM (fun W => Sep w [] [.blk N8 36 (evc x), .own (fun t => txc t) 33 25 (u3) ((((l.filter (isD 4)).take j).map Ev.tx)), .own evc 36 27 (.slice pv5 (l.filter (isD 4)).length cv5) ((l.filter (isD 4)))] W) hM ?_
      clear hM
      rintro Y10 hM
      refine tF 3 [.val 0 (some 14) (u3), .val 1 (some 15) (pt N8 2), .load 2 (some 16) 33 (pt N8 2) (txv x.tx)] ⟨load_part (hM.at 0 rfl) 2 (txc x.tx) rfl _ _ Try.underlying33 rfl (by kernel_rfl), trivial⟩ ?_
      refine rF (some 17) (.slice (some ⟨Y10.heap.size, 0, none⟩) 1 1) (Y10.alloc (.cells (txc x.tx).toArray 33)) ?_
      replace hM := hM.alloc 33 (txc x.tx)
      generalize World.alloc _ _ = Y11 at *
      generalize hNe : Y10.heap.size = N11 at *
      clear hNe
      obtain ⟨v12, Y12, hrun, ht⟩ := own_app1 infoTx rfl (by decide) Try.underlying42 txc_25 txc_one (hM.oka 2 rfl) x.tx (hM.at 0 rfl) (by decide) ((by have h1 := HR.out; have h2 := HF.out; have h3 := HJ.out; rw [List.length_map]; have h4 := List.length_take_le j (l.filter (isD 4)); omega)) 42
      replace hM := hM.turn 2 rfl ht rfl
      clear ht
      refine wpFrom_append (d := some 18) (t := 42) (t' := 42) (ty := 42) (v := u3) (x := .slice (some ⟨N11, 0, none⟩) 1 1) (by kernel_rfl) hrun ?_
      clear hrun
      refine tF 6 [.val 5 (some 3) (v12)] trivial ?_
      refine dF ?_
      try simp only [puts, Tk.put, Act.put, List.setIfInBounds_toArray, List.set_cons_zero, List.set_cons_succ]
      go_upto_region 6 with fail
      refine wp_region_fromM (fun W => Sep w [] [.blk N11 33 (txc x.tx), .blk N8 36 (evc x), .own (fun t => txc t) 33 25 (v12) ((((l.filter (isD 4)).take j).map Ev.tx) ++ [x.tx]), .own evc 36 27 (.slice pv5 (l.filter (isD 4)).length cv5) ((l.filter (isD 4)))] W) hM ?_
      clear hM
      rintro Y13 hM
      refine tF 2 [.alt 0 (some 19) (.int .i64 (IntKind.i64.wrap ((j : Int) + 1))) (.int .i64 ((j + 1 : Nat) : Int)), .val 1 (some 10) (.int .i64 ((j + 1 : Nat) : Int))] ⟨congrArg (Value.int .i64) ((IntWalk.i64_in _ (by have := HLEN.out; have := HJ.out; omega)).trans (by omega)), trivial⟩ ?_
      refine dF ?_
      try simp only [puts, Tk.put, Act.put, List.setIfInBounds_toArray, List.set_cons_zero, List.set_cons_succ]
      have hM1 := hM.sub (l' := [.own (fun t => txc t) 33 25 (v12) ((((l.filter (isD 4)).take j).map Ev.tx) ++ [x.tx]), .own evc 36 27 (.slice pv5 (l.filter (isD 4)).length cv5) ((l.filter (isD 4)))]) (.cons _ (.cons _ (.cons_cons _ (.cons_cons _ .slnil))))
      rw [← HTM.out] at hM1
      have HM1 := Lib.hid hM1
      clear hM hM1
      go_wp2_with fail
      go_roundw
      case rel => exact ⟨j + 1, HJ.out, rfl, HM1.out⟩
      case measure => have := HJ.out; simp [intOf]; omega
    case neg =>
      obtain rfl : j = (l.filter (isD 4)).length := by omega
      go_upto_region 3 with fail
      refine wp_region_fromM (fun W => Sep w [] [.own (fun t => txc t) 33 25 (u3) ((((l.filter (isD 4)).take (l.filter (isD 4)).length).map Ev.tx)), .own evc 36 27 (.slice pv5 (l.filter (isD 4)).length cv5) ((l.filter (isD 4)))] W) hM ?_
      clear hM
      rintro Y14 hM
      refine tF 1 [.alt 0 (some 11) (.bool (decide (((l.filter (isD 4)).length : Int) < ((l.filter (isD 4)).length : Int)))) (.bool false)] ⟨congrArg Value.bool (decide_eq_false (by omega)), trivial⟩ ?_
      refine dF ?_
      try simp only [puts, Tk.put, Act.put, List.setIfInBounds_toArray, List.set_cons_zero, List.set_cons_succ]
      go_upto_region 7 with fail
      refine wp_region_fromM (fun W => Sep w [] [.own (fun t => txc t) 33 25 (u3) ((((l.filter (isD 4)).take (l.filter (isD 4)).length).map Ev.tx)), .own evc 36 27 (.slice pv5 (l.filter (isD 4)).length cv5) ((l.filter (isD 4)))] W) hM ?_
      clear hM
      rintro Y15 hM
      refine tF 2 [.val 0 (some 20) (u3), .val 1 (some 2) (u3)] trivial ?_
      refine dF ?_
      try simp only [puts, Tk.put, Act.put, List.setIfInBounds_toArray, List.set_cons_zero, List.set_cons_succ]
      go_wp2_with fail
      go_ret
      rw [List.take_length] at hM
      exact ⟨_, rfl, hM.sub (.cons_cons _ (.cons _ .slnil))⟩
end Go.Proofs.Ythbpidekfocioaa
namespace Go.Proofs.Ythbpidekfocioaa
open Go.RowKit Go.Shelf
attribute [local irreducible] wpFrom wpAnyH StepH
def alI14 : Trf := { noI with rt := ⟨#[49, 50, 51, 52, 53, 54, 55, 56]⟩, ro := 2, id := ⟨#[120]⟩ }
def alE14 : Ev := ⟨0, 0, { noT with kd := 4, iv := alI14 }⟩
theorem alI_may : maybeI alI14 := by decide
theorem key_some {i : Trf} (h : maybeI i) : (keyB i).toList.isEmpty = false := by
  have h1 := keyB_size h
  cases hk : (keyB i).toList with
  | nil =>
    rw [ByteArray.toList_eq] at hk
    have h2 : (keyB i).size = (keyB i).data.toList.length := by rw [Array.length_toList]; rfl
    rw [hk] at h2
    rw [h1] at h2
    cases h2
  | cons x l => rfl
theorem al_first : firstE [alE14] (keyB alI14) 4 = some alE14 := by
  unfold firstE
  rw [if_neg (by rw [key_some alI_may]; decide), List.find?_cons]
  have h : isE (keyB alI14) 4 alE14 = true := by
    unfold isE
    rw [show keyB alE14.tx.iv = keyB alI14 from rfl, decide_eq_true rfl]
    rfl
  rw [h]
theorem prepared_al {v : Value} {lo hi : Nat} (w : World) (hl : RSl evc lo hi w v [alE14]) (hhi : hi ≤ w.heap.size) : Calls Try.prog 8 #[v, .string (keyB alI14)] w fun e W' => e = .returned (.tuple #[txv alE14.tx, .bool true]) ∧ Below w.heap.size w W' := by
  have h := prepared_any (keyB alI14) [alE14] v w hl hhi
  rw [al_first] at h
  exact h
set_option maxRecDepth 100000 in
set_option maxHeartbeats 4000000 in
theorem alive14_any (w : World) : Calls Try.prog 6 #[] w fun e W' => e = .returned (.bool true) ∧ Below w.heap.size w W' := by
  have hmx : Try.prog.follows .mixedOrders = true := by kernel_rfl
  have hM := Sep.start w
  go_enter Try.func6, Try.ntmps6
  go_upto_region 0 with fail
  refine wp_region_fromM (fun W => Sep w [] [] W) hM ?_
  clear hM
  rintro Y1 hM
  refine tF 1 [.val 0 (some 0) (.bool false)] trivial ?_
  refine dF ?_
  try simp only [puts, Tk.put, Act.put, List.setIfInBounds_toArray, List.set_cons_zero]
  go_upto_region 1 with fail
  refine wp_region_fromM (fun W => Sep w [] [] W) hM ?_
  clear hM
  rintro Y2 hM
  refine tF 1 [.val 0 (some 4) (ivv alI14)] trivial ?_
  refine rF (some 1) (pt Y2.heap.size 0) (Y2.alloc (.cells (ivc noI).toArray 29)) ?_
  replace hM := hM.alloc 29 (ivc noI)
  generalize World.alloc _ _ = Y3 at *
  generalize hNe : Y2.heap.size = N3 at *
  clear hNe
  have hst := sto_part (ivc alI14) (hM.at 0 rfl) 0 29 (ivv alI14) (ivc alI14) rfl (by kernel_rfl) (Nat.le_of_ble_eq_true rfl) rfl rfl
  refine sF 29 (pt N3 0) (ivv alI14) (hst) ?_
  clear hst
  replace hM := hM.set 0 (cs' := ivc alI14) rfl rfl
  generalize World.setRow _ _ _ = Y4 at *
  refine dF ?_
  try simp only [puts, Tk.put, Act.put, List.setIfInBounds_toArray, List.set_cons_zero, List.set_cons_succ]
  go_upto_region 2 with fail
  refine wp_region_M (fun W => Sep w [] [.blk N3 29 (ivc alI14)] W) (fun W => Sep w [] [.blk N3 29 (ivc alI14)] W) hmx hM.drew ?_
  clear hM
  rintro Y5 hM
  have hS := hM.sub (.cons_cons _ .slnil)
  refine tD 9 [.load 0 (some 6) 29 (pt N3 0) (ivv alI14), .val 1 (some 7) (txv alE14.tx), .val 2 (some 8) (evv alE14), .load 4 (some 10) 29 (pt N3 0) (ivv alI14)] ⟨fun W h => load_part (h.at 0 rfl) 0 (ivc alI14) rfl _ _ Try.underlying29 rfl (by kernel_rfl), fun W h => load_part (h.at 0 rfl) 0 (ivc alI14) rfl _ _ Try.underlying29 rfl (by kernel_rfl), trivial⟩ hS ?_
  refine oU 3 5 10 8 ?_ ?_ ?_
  · refine rD (some 9) (.slice (some ⟨Y5.heap.size, 0, none⟩) 1 1) (Y5.alloc (.cells (evc alE14).toArray 36)) (hS.other _) ?_
    replace hS := hS.other (.cells (evc alE14).toArray 36)
    replace hM := hM.alloc 36 (evc alE14)
    generalize World.alloc _ _ = Y6 at *
    generalize hNe : Y5.heap.size = N6 at *
    clear hNe
    refine oT 5 10 7 ?_ ?_
    · refine cD (some 11) 7 #[ivv alI14] ((key_any alI14 _).mono ?_)
      rintro e Y7 ⟨rfl, hb⟩
      refine And.intro (hS.below hb) ?_
      replace hS := hS.below hb
      replace hM := hM.below hb
      clear hb
      refine oT 6 10 6 ?_ ?_
      · refine cD (some 12) 8 #[.slice (some ⟨N6, 0, none⟩) 1 1, .string (keyB alI14)] ((prepared_al _ (rsl_blk (hM.at 0 rfl)) (Nat.le_refl _)).mono ?_)
        rintro e Y8 ⟨rfl, hb⟩
        refine And.intro (hS.below hb) ?_
        replace hS := hS.below hb
        replace hM := hM.below hb
        clear hb
        refine tD 3 [.val 7 (some 5) (.tuple #[txv alE14.tx, .bool true]), .val 8 (some 13) (txv alE14.tx), .val 9 (some 14) (.bool true)] trivial hS ?_
        refine oD 10 2 (rD (some 2) (pt Y8.heap.size 0) (Y8.alloc (.cells (txc noT).toArray 33)) (hS.other _) ?_)
        replace hS := hS.other (.cells (txc noT).toArray 33)
        replace hM := hM.alloc 33 (txc noT)
        generalize World.alloc _ _ = Y9 at *
        generalize hNe : Y8.heap.size = N9 at *
        clear hNe
        have hst := sto_part (txc alE14.tx) (hM.at 0 rfl) 0 33 (txv alE14.tx) (txc alE14.tx) rfl (by kernel_rfl) (Nat.le_of_ble_eq_true rfl) rfl rfl
        have hM1 := hM.set 0 (cs' := txc alE14.tx) rfl rfl
        refine oD 11 1 (sD 33 (pt N9 0) (txv alE14.tx) (hst) (hM1.sub (.cons _ (.cons _ (.cons_cons _ .slnil)))) ?_)
        clear hst
        replace hS := hM1.sub (.cons _ (.cons _ (.cons_cons _ .slnil)))
        replace hM := hM1
        clear hM1
        generalize World.setRow _ _ _ = Y10 at *
        refine tD 0 [.val 12 (some 3) (.bool true)] trivial hS ?_
        refine dD ?_
        try simp only [puts, Tk.put, Act.put, List.setIfInBounds_toArray, List.set_cons_zero, List.set_cons_succ]
        clear hS
        go_upto_region 3 with fail
        refine wp_region_fromM (fun W => Sep w [] [.blk N9 33 (txc alE14.tx), .blk N6 36 (evc alE14), .blk N3 29 (ivc alI14)] W) hM ?_
        clear hM
        rintro Y11 hM
        refine tF 5 [.val 0 (some 15) (.bool true), .val 1 (some 16) (.bool true), .val 2 (some 17) (pt N9 8), .load 3 (some 18) 29 (pt N9 8) (ivv alE14.tx.iv), .load 4 (some 19) 29 (pt N3 0) (ivv alI14)] ⟨load_part (hM.at 0 rfl) 8 (ivc alE14.tx.iv) rfl _ _ Try.underlying29 rfl (by kernel_rfl), load_part (hM.at 2 rfl) 0 (ivc alI14) rfl _ _ Try.underlying29 rfl (by kernel_rfl), trivial⟩ ?_
        refine eqA (.tmp 18) (.tmp 19) 29 (some 20) (ivc alE14.tx.iv).toArray (ivc alI14).toArray true (Eq.trans (run_eqI 9998 alE14.tx.iv alI14 _) (congrArg (fun z => Result.ok z _) (eqI_refl alI14))) ?_
        refine tF 8 [.val 6 (some 21) (.bool true), .val 7 (some 22) (.bool true)] trivial ?_
        refine cF (some 23) 14 #[.slice none 0 0] ((last_any ([]) _ _ (RSl.nil 0 0 _) (Nat.zero_le _)).mono ?_)
        rintro e Y12 ⟨rfl, hb⟩
        replace hM := hM.below hb
        clear hb
        refine tF 12 [.val 9 (some 24) (.bool ((lastE (-1) ([])) == (-1))), .val 10 (some 25) (.bool ((lastE (-1) ([])) == (-1))), .val 11 (some 0) (.bool ((lastE (-1) ([])) == (-1)))] trivial ?_
        refine dF ?_
        try simp only [puts, Tk.put, Act.put, List.setIfInBounds_toArray, List.set_cons_zero, List.set_cons_succ]
        go_wp2_with fail
        go_ret
        exact ⟨rfl, hM.b⟩
      · refine rD (some 2) (pt Y7.heap.size 0) (Y7.alloc (.cells (txc noT).toArray 33)) (hS.other _) ?_
        replace hS := hS.other (.cells (txc noT).toArray 33)
        replace hM := hM.alloc 33 (txc noT)
        generalize World.alloc _ _ = Y13 at *
        generalize hNe : Y7.heap.size = N13 at *
        clear hNe
        refine oD 6 5 (cD (some 12) 8 #[.slice (some ⟨N6, 0, none⟩) 1 1, .string (keyB alI14)] ((prepared_al _ (rsl_blk (hM.at 1 rfl)) (Nat.le_refl _)).mono ?_))
        rintro e Y14 ⟨rfl, hb⟩
        refine And.intro (hS.below hb) ?_
        replace hS := hS.below hb
        replace hM := hM.below hb
        clear hb
        refine tD 2 [.val 7 (some 5) (.tuple #[txv alE14.tx, .bool true]), .val 8 (some 13) (txv alE14.tx), .val 9 (some 14) (.bool true)] trivial hS ?_
        have hst := sto_part (txc alE14.tx) (hM.at 0 rfl) 0 33 (txv alE14.tx) (txc alE14.tx) rfl (by kernel_rfl) (Nat.le_of_ble_eq_true rfl) rfl rfl
        have hM1 := hM.set 0 (cs' := txc alE14.tx) rfl rfl
        refine oD 11 1 (sD 33 (pt N13 0) (txv alE14.tx) (hst) (hM1.sub (.cons _ (.cons _ (.cons_cons _ .slnil)))) ?_)
        clear hst
        replace hS := hM1.sub (.cons _ (.cons _ (.cons_cons _ .slnil)))
        replace hM := hM1
        clear hM1
        generalize World.setRow _ _ _ = Y15 at *
        refine tD 0 [.val 12 (some 3) (.bool true)] trivial hS ?_
        refine dD ?_
        try simp only [puts, Tk.put, Act.put, List.setIfInBounds_toArray, List.set_cons_zero, List.set_cons_succ]
        clear hS
        go_upto_region 3 with fail
        refine wp_region_fromM (fun W => Sep w [] [.blk N13 33 (txc alE14.tx), .blk N6 36 (evc alE14), .blk N3 29 (ivc alI14)] W) hM ?_
        clear hM
        rintro Y16 hM
        refine tF 5 [.val 0 (some 15) (.bool true), .val 1 (some 16) (.bool true), .val 2 (some 17) (pt N13 8), .load 3 (some 18) 29 (pt N13 8) (ivv alE14.tx.iv), .load 4 (some 19) 29 (pt N3 0) (ivv alI14)] ⟨load_part (hM.at 0 rfl) 8 (ivc alE14.tx.iv) rfl _ _ Try.underlying29 rfl (by kernel_rfl), load_part (hM.at 2 rfl) 0 (ivc alI14) rfl _ _ Try.underlying29 rfl (by kernel_rfl), trivial⟩ ?_
        refine eqA (.tmp 18) (.tmp 19) 29 (some 20) (ivc alE14.tx.iv).toArray (ivc alI14).toArray true (Eq.trans (run_eqI 9998 alE14.tx.iv alI14 _) (congrArg (fun z => Result.ok z _) (eqI_refl alI14))) ?_
        refine tF 8 [.val 6 (some 21) (.bool true), .val 7 (some 22) (.bool true)] trivial ?_
        refine cF (some 23) 14 #[.slice none 0 0] ((last_any ([]) _ _ (RSl.nil 0 0 _) (Nat.zero_le _)).mono ?_)
        rintro e Y17 ⟨rfl, hb⟩
        replace hM := hM.below hb
        clear hb
        refine tF 12 [.val 9 (some 24) (.bool ((lastE (-1) ([])) == (-1))), .val 10 (some 25) (.bool ((lastE (-1) ([])) == (-1))), .val 11 (some 0) (.bool ((lastE (-1) ([])) == (-1)))] trivial ?_
        refine dF ?_
        try simp only [puts, Tk.put, Act.put, List.setIfInBounds_toArray, List.set_cons_zero, List.set_cons_succ]
        go_wp2_with fail
        go_ret
        exact ⟨rfl, hM.b⟩
    · refine rD (some 2) (pt Y6.heap.size 0) (Y6.alloc (.cells (txc noT).toArray 33)) (hS.other _) ?_
      replace hS := hS.other (.cells (txc noT).toArray 33)
      replace hM := hM.alloc 33 (txc noT)
      generalize World.alloc _ _ = Y18 at *
      generalize hNe : Y6.heap.size = N18 at *
      clear hNe
      refine oD 5 6 (cD (some 11) 7 #[ivv alI14] ((key_any alI14 _).mono ?_))
      rintro e Y19 ⟨rfl, hb⟩
      refine And.intro (hS.below hb) ?_
      replace hS := hS.below hb
      replace hM := hM.below hb
      clear hb
      refine oD 6 5 (cD (some 12) 8 #[.slice (some ⟨N6, 0, none⟩) 1 1, .string (keyB alI14)] ((prepared_al _ (rsl_blk (hM.at 1 rfl)) (Nat.le_refl _)).mono ?_))
      rintro e Y20 ⟨rfl, hb⟩
      refine And.intro (hS.below hb) ?_
      replace hS := hS.below hb
      replace hM := hM.below hb
      clear hb
      refine tD 2 [.val 7 (some 5) (.tuple #[txv alE14.tx, .bool true]), .val 8 (some 13) (txv alE14.tx), .val 9 (some 14) (.bool true)] trivial hS ?_
      have hst := sto_part (txc alE14.tx) (hM.at 0 rfl) 0 33 (txv alE14.tx) (txc alE14.tx) rfl (by kernel_rfl) (Nat.le_of_ble_eq_true rfl) rfl rfl
      have hM1 := hM.set 0 (cs' := txc alE14.tx) rfl rfl
      refine oD 11 1 (sD 33 (pt N18 0) (txv alE14.tx) (hst) (hM1.sub (.cons _ (.cons _ (.cons_cons _ .slnil)))) ?_)
      clear hst
      replace hS := hM1.sub (.cons _ (.cons _ (.cons_cons _ .slnil)))
      replace hM := hM1
      clear hM1
      generalize World.setRow _ _ _ = Y21 at *
      refine tD 0 [.val 12 (some 3) (.bool true)] trivial hS ?_
      refine dD ?_
      try simp only [puts, Tk.put, Act.put, List.setIfInBounds_toArray, List.set_cons_zero, List.set_cons_succ]
      clear hS
      go_upto_region 3 with fail
      refine wp_region_fromM (fun W => Sep w [] [.blk N18 33 (txc alE14.tx), .blk N6 36 (evc alE14), .blk N3 29 (ivc alI14)] W) hM ?_
      clear hM
      rintro Y22 hM
      refine tF 5 [.val 0 (some 15) (.bool true), .val 1 (some 16) (.bool true), .val 2 (some 17) (pt N18 8), .load 3 (some 18) 29 (pt N18 8) (ivv alE14.tx.iv), .load 4 (some 19) 29 (pt N3 0) (ivv alI14)] ⟨load_part (hM.at 0 rfl) 8 (ivc alE14.tx.iv) rfl _ _ Try.underlying29 rfl (by kernel_rfl), load_part (hM.at 2 rfl) 0 (ivc alI14) rfl _ _ Try.underlying29 rfl (by kernel_rfl), trivial⟩ ?_
      refine eqA (.tmp 18) (.tmp 19) 29 (some 20) (ivc alE14.tx.iv).toArray (ivc alI14).toArray true (Eq.trans (run_eqI 9998 alE14.tx.iv alI14 _) (congrArg (fun z => Result.ok z _) (eqI_refl alI14))) ?_
      refine tF 8 [.val 6 (some 21) (.bool true), .val 7 (some 22) (.bool true)] trivial ?_
      refine cF (some 23) 14 #[.slice none 0 0] ((last_any ([]) _ _ (RSl.nil 0 0 _) (Nat.zero_le _)).mono ?_)
      rintro e Y23 ⟨rfl, hb⟩
      replace hM := hM.below hb
      clear hb
      refine tF 12 [.val 9 (some 24) (.bool ((lastE (-1) ([])) == (-1))), .val 10 (some 25) (.bool ((lastE (-1) ([])) == (-1))), .val 11 (some 0) (.bool ((lastE (-1) ([])) == (-1)))] trivial ?_
      refine dF ?_
      try simp only [puts, Tk.put, Act.put, List.setIfInBounds_toArray, List.set_cons_zero, List.set_cons_succ]
      go_wp2_with fail
      go_ret
      exact ⟨rfl, hM.b⟩
  · refine cD (some 11) 7 #[ivv alI14] ((key_any alI14 _).mono ?_)
    rintro e Y24 ⟨rfl, hb⟩
    refine And.intro (hS.below hb) ?_
    replace hS := hS.below hb
    replace hM := hM.below hb
    clear hb
    refine oT 3 10 7 ?_ ?_
    · refine rD (some 9) (.slice (some ⟨Y24.heap.size, 0, none⟩) 1 1) (Y24.alloc (.cells (evc alE14).toArray 36)) (hS.other _) ?_
      replace hS := hS.other (.cells (evc alE14).toArray 36)
      replace hM := hM.alloc 36 (evc alE14)
      generalize World.alloc _ _ = Y25 at *
      generalize hNe : Y24.heap.size = N25 at *
      clear hNe
      refine oT 6 10 6 ?_ ?_
      · refine cD (some 12) 8 #[.slice (some ⟨N25, 0, none⟩) 1 1, .string (keyB alI14)] ((prepared_al _ (rsl_blk (hM.at 0 rfl)) (Nat.le_refl _)).mono ?_)
        rintro e Y26 ⟨rfl, hb⟩
        refine And.intro (hS.below hb) ?_
        replace hS := hS.below hb
        replace hM := hM.below hb
        clear hb
        refine tD 3 [.val 7 (some 5) (.tuple #[txv alE14.tx, .bool true]), .val 8 (some 13) (txv alE14.tx), .val 9 (some 14) (.bool true)] trivial hS ?_
        refine oD 10 2 (rD (some 2) (pt Y26.heap.size 0) (Y26.alloc (.cells (txc noT).toArray 33)) (hS.other _) ?_)
        replace hS := hS.other (.cells (txc noT).toArray 33)
        replace hM := hM.alloc 33 (txc noT)
        generalize World.alloc _ _ = Y27 at *
        generalize hNe : Y26.heap.size = N27 at *
        clear hNe
        have hst := sto_part (txc alE14.tx) (hM.at 0 rfl) 0 33 (txv alE14.tx) (txc alE14.tx) rfl (by kernel_rfl) (Nat.le_of_ble_eq_true rfl) rfl rfl
        have hM1 := hM.set 0 (cs' := txc alE14.tx) rfl rfl
        refine oD 11 1 (sD 33 (pt N27 0) (txv alE14.tx) (hst) (hM1.sub (.cons _ (.cons _ (.cons_cons _ .slnil)))) ?_)
        clear hst
        replace hS := hM1.sub (.cons _ (.cons _ (.cons_cons _ .slnil)))
        replace hM := hM1
        clear hM1
        generalize World.setRow _ _ _ = Y28 at *
        refine tD 0 [.val 12 (some 3) (.bool true)] trivial hS ?_
        refine dD ?_
        try simp only [puts, Tk.put, Act.put, List.setIfInBounds_toArray, List.set_cons_zero, List.set_cons_succ]
        clear hS
        go_upto_region 3 with fail
        refine wp_region_fromM (fun W => Sep w [] [.blk N27 33 (txc alE14.tx), .blk N25 36 (evc alE14), .blk N3 29 (ivc alI14)] W) hM ?_
        clear hM
        rintro Y29 hM
        refine tF 5 [.val 0 (some 15) (.bool true), .val 1 (some 16) (.bool true), .val 2 (some 17) (pt N27 8), .load 3 (some 18) 29 (pt N27 8) (ivv alE14.tx.iv), .load 4 (some 19) 29 (pt N3 0) (ivv alI14)] ⟨load_part (hM.at 0 rfl) 8 (ivc alE14.tx.iv) rfl _ _ Try.underlying29 rfl (by kernel_rfl), load_part (hM.at 2 rfl) 0 (ivc alI14) rfl _ _ Try.underlying29 rfl (by kernel_rfl), trivial⟩ ?_
        refine eqA (.tmp 18) (.tmp 19) 29 (some 20) (ivc alE14.tx.iv).toArray (ivc alI14).toArray true (Eq.trans (run_eqI 9998 alE14.tx.iv alI14 _) (congrArg (fun z => Result.ok z _) (eqI_refl alI14))) ?_
        refine tF 8 [.val 6 (some 21) (.bool true), .val 7 (some 22) (.bool true)] trivial ?_
        refine cF (some 23) 14 #[.slice none 0 0] ((last_any ([]) _ _ (RSl.nil 0 0 _) (Nat.zero_le _)).mono ?_)
        rintro e Y30 ⟨rfl, hb⟩
        replace hM := hM.below hb
        clear hb
        refine tF 12 [.val 9 (some 24) (.bool ((lastE (-1) ([])) == (-1))), .val 10 (some 25) (.bool ((lastE (-1) ([])) == (-1))), .val 11 (some 0) (.bool ((lastE (-1) ([])) == (-1)))] trivial ?_
        refine dF ?_
        try simp only [puts, Tk.put, Act.put, List.setIfInBounds_toArray, List.set_cons_zero, List.set_cons_succ]
        go_wp2_with fail
        go_ret
        exact ⟨rfl, hM.b⟩
      · refine rD (some 2) (pt Y25.heap.size 0) (Y25.alloc (.cells (txc noT).toArray 33)) (hS.other _) ?_
        replace hS := hS.other (.cells (txc noT).toArray 33)
        replace hM := hM.alloc 33 (txc noT)
        generalize World.alloc _ _ = Y31 at *
        generalize hNe : Y25.heap.size = N31 at *
        clear hNe
        refine oD 6 5 (cD (some 12) 8 #[.slice (some ⟨N25, 0, none⟩) 1 1, .string (keyB alI14)] ((prepared_al _ (rsl_blk (hM.at 1 rfl)) (Nat.le_refl _)).mono ?_))
        rintro e Y32 ⟨rfl, hb⟩
        refine And.intro (hS.below hb) ?_
        replace hS := hS.below hb
        replace hM := hM.below hb
        clear hb
        refine tD 2 [.val 7 (some 5) (.tuple #[txv alE14.tx, .bool true]), .val 8 (some 13) (txv alE14.tx), .val 9 (some 14) (.bool true)] trivial hS ?_
        have hst := sto_part (txc alE14.tx) (hM.at 0 rfl) 0 33 (txv alE14.tx) (txc alE14.tx) rfl (by kernel_rfl) (Nat.le_of_ble_eq_true rfl) rfl rfl
        have hM1 := hM.set 0 (cs' := txc alE14.tx) rfl rfl
        refine oD 11 1 (sD 33 (pt N31 0) (txv alE14.tx) (hst) (hM1.sub (.cons _ (.cons _ (.cons_cons _ .slnil)))) ?_)
        clear hst
        replace hS := hM1.sub (.cons _ (.cons _ (.cons_cons _ .slnil)))
        replace hM := hM1
        clear hM1
        generalize World.setRow _ _ _ = Y33 at *
        refine tD 0 [.val 12 (some 3) (.bool true)] trivial hS ?_
        refine dD ?_
        try simp only [puts, Tk.put, Act.put, List.setIfInBounds_toArray, List.set_cons_zero, List.set_cons_succ]
        clear hS
        go_upto_region 3 with fail
        refine wp_region_fromM (fun W => Sep w [] [.blk N31 33 (txc alE14.tx), .blk N25 36 (evc alE14), .blk N3 29 (ivc alI14)] W) hM ?_
        clear hM
        rintro Y34 hM
        refine tF 5 [.val 0 (some 15) (.bool true), .val 1 (some 16) (.bool true), .val 2 (some 17) (pt N31 8), .load 3 (some 18) 29 (pt N31 8) (ivv alE14.tx.iv), .load 4 (some 19) 29 (pt N3 0) (ivv alI14)] ⟨load_part (hM.at 0 rfl) 8 (ivc alE14.tx.iv) rfl _ _ Try.underlying29 rfl (by kernel_rfl), load_part (hM.at 2 rfl) 0 (ivc alI14) rfl _ _ Try.underlying29 rfl (by kernel_rfl), trivial⟩ ?_
        refine eqA (.tmp 18) (.tmp 19) 29 (some 20) (ivc alE14.tx.iv).toArray (ivc alI14).toArray true (Eq.trans (run_eqI 9998 alE14.tx.iv alI14 _) (congrArg (fun z => Result.ok z _) (eqI_refl alI14))) ?_
        refine tF 8 [.val 6 (some 21) (.bool true), .val 7 (some 22) (.bool true)] trivial ?_
        refine cF (some 23) 14 #[.slice none 0 0] ((last_any ([]) _ _ (RSl.nil 0 0 _) (Nat.zero_le _)).mono ?_)
        rintro e Y35 ⟨rfl, hb⟩
        replace hM := hM.below hb
        clear hb
        refine tF 12 [.val 9 (some 24) (.bool ((lastE (-1) ([])) == (-1))), .val 10 (some 25) (.bool ((lastE (-1) ([])) == (-1))), .val 11 (some 0) (.bool ((lastE (-1) ([])) == (-1)))] trivial ?_
        refine dF ?_
        try simp only [puts, Tk.put, Act.put, List.setIfInBounds_toArray, List.set_cons_zero, List.set_cons_succ]
        go_wp2_with fail
        go_ret
        exact ⟨rfl, hM.b⟩
    · refine rD (some 2) (pt Y24.heap.size 0) (Y24.alloc (.cells (txc noT).toArray 33)) (hS.other _) ?_
      replace hS := hS.other (.cells (txc noT).toArray 33)
      replace hM := hM.alloc 33 (txc noT)
      generalize World.alloc _ _ = Y36 at *
      generalize hNe : Y24.heap.size = N36 at *
      clear hNe
      refine oD 3 6 (rD (some 9) (.slice (some ⟨Y36.heap.size, 0, none⟩) 1 1) (Y36.alloc (.cells (evc alE14).toArray 36)) (hS.other _) ?_)
      replace hS := hS.other (.cells (evc alE14).toArray 36)
      replace hM := hM.alloc 36 (evc alE14)
      generalize World.alloc _ _ = Y37 at *
      generalize hNe : Y36.heap.size = N37 at *
      clear hNe
      refine oD 6 5 (cD (some 12) 8 #[.slice (some ⟨N37, 0, none⟩) 1 1, .string (keyB alI14)] ((prepared_al _ (rsl_blk (hM.at 0 rfl)) (Nat.le_refl _)).mono ?_))
      rintro e Y38 ⟨rfl, hb⟩
      refine And.intro (hS.below hb) ?_
      replace hS := hS.below hb
      replace hM := hM.below hb
      clear hb
      refine tD 2 [.val 7 (some 5) (.tuple #[txv alE14.tx, .bool true]), .val 8 (some 13) (txv alE14.tx), .val 9 (some 14) (.bool true)] trivial hS ?_
      have hst := sto_part (txc alE14.tx) (hM.at 1 rfl) 0 33 (txv alE14.tx) (txc alE14.tx) rfl (by kernel_rfl) (Nat.le_of_ble_eq_true rfl) rfl rfl
      have hM1 := hM.set 1 (cs' := txc alE14.tx) rfl rfl
      refine oD 11 1 (sD 33 (pt N36 0) (txv alE14.tx) (hst) (hM1.sub (.cons _ (.cons _ (.cons_cons _ .slnil)))) ?_)
      clear hst
      replace hS := hM1.sub (.cons _ (.cons _ (.cons_cons _ .slnil)))
      replace hM := hM1
      clear hM1
      generalize World.setRow _ _ _ = Y39 at *
      refine tD 0 [.val 12 (some 3) (.bool true)] trivial hS ?_
      refine dD ?_
      try simp only [puts, Tk.put, Act.put, List.setIfInBounds_toArray, List.set_cons_zero, List.set_cons_succ]
      clear hS
      go_upto_region 3 with fail
      refine wp_region_fromM (fun W => Sep w [] [.blk N37 36 (evc alE14), .blk N36 33 (txc alE14.tx), .blk N3 29 (ivc alI14)] W) hM ?_
      clear hM
      rintro Y40 hM
      refine tF 5 [.val 0 (some 15) (.bool true), .val 1 (some 16) (.bool true), .val 2 (some 17) (pt N36 8), .load 3 (some 18) 29 (pt N36 8) (ivv alE14.tx.iv), .load 4 (some 19) 29 (pt N3 0) (ivv alI14)] ⟨load_part (hM.at 1 rfl) 8 (ivc alE14.tx.iv) rfl _ _ Try.underlying29 rfl (by kernel_rfl), load_part (hM.at 2 rfl) 0 (ivc alI14) rfl _ _ Try.underlying29 rfl (by kernel_rfl), trivial⟩ ?_
      refine eqA (.tmp 18) (.tmp 19) 29 (some 20) (ivc alE14.tx.iv).toArray (ivc alI14).toArray true (Eq.trans (run_eqI 9998 alE14.tx.iv alI14 _) (congrArg (fun z => Result.ok z _) (eqI_refl alI14))) ?_
      refine tF 8 [.val 6 (some 21) (.bool true), .val 7 (some 22) (.bool true)] trivial ?_
      refine cF (some 23) 14 #[.slice none 0 0] ((last_any ([]) _ _ (RSl.nil 0 0 _) (Nat.zero_le _)).mono ?_)
      rintro e Y41 ⟨rfl, hb⟩
      replace hM := hM.below hb
      clear hb
      refine tF 12 [.val 9 (some 24) (.bool ((lastE (-1) ([])) == (-1))), .val 10 (some 25) (.bool ((lastE (-1) ([])) == (-1))), .val 11 (some 0) (.bool ((lastE (-1) ([])) == (-1)))] trivial ?_
      refine dF ?_
      try simp only [puts, Tk.put, Act.put, List.setIfInBounds_toArray, List.set_cons_zero, List.set_cons_succ]
      go_wp2_with fail
      go_ret
      exact ⟨rfl, hM.b⟩
  · refine rD (some 2) (pt Y5.heap.size 0) (Y5.alloc (.cells (txc noT).toArray 33)) (hS.other _) ?_
    replace hS := hS.other (.cells (txc noT).toArray 33)
    replace hM := hM.alloc 33 (txc noT)
    generalize World.alloc _ _ = Y42 at *
    generalize hNe : Y5.heap.size = N42 at *
    clear hNe
    refine oT 3 5 7 ?_ ?_
    · refine rD (some 9) (.slice (some ⟨Y42.heap.size, 0, none⟩) 1 1) (Y42.alloc (.cells (evc alE14).toArray 36)) (hS.other _) ?_
      replace hS := hS.other (.cells (evc alE14).toArray 36)
      replace hM := hM.alloc 36 (evc alE14)
      generalize World.alloc _ _ = Y43 at *
      generalize hNe : Y42.heap.size = N43 at *
      clear hNe
      refine oD 5 6 (cD (some 11) 7 #[ivv alI14] ((key_any alI14 _).mono ?_))
      rintro e Y44 ⟨rfl, hb⟩
      refine And.intro (hS.below hb) ?_
      replace hS := hS.below hb
      replace hM := hM.below hb
      clear hb
      refine oD 6 5 (cD (some 12) 8 #[.slice (some ⟨N43, 0, none⟩) 1 1, .string (keyB alI14)] ((prepared_al _ (rsl_blk (hM.at 0 rfl)) (Nat.le_refl _)).mono ?_))
      rintro e Y45 ⟨rfl, hb⟩
      refine And.intro (hS.below hb) ?_
      replace hS := hS.below hb
      replace hM := hM.below hb
      clear hb
      refine tD 2 [.val 7 (some 5) (.tuple #[txv alE14.tx, .bool true]), .val 8 (some 13) (txv alE14.tx), .val 9 (some 14) (.bool true)] trivial hS ?_
      have hst := sto_part (txc alE14.tx) (hM.at 1 rfl) 0 33 (txv alE14.tx) (txc alE14.tx) rfl (by kernel_rfl) (Nat.le_of_ble_eq_true rfl) rfl rfl
      have hM1 := hM.set 1 (cs' := txc alE14.tx) rfl rfl
      refine oD 11 1 (sD 33 (pt N42 0) (txv alE14.tx) (hst) (hM1.sub (.cons _ (.cons _ (.cons_cons _ .slnil)))) ?_)
      clear hst
      replace hS := hM1.sub (.cons _ (.cons _ (.cons_cons _ .slnil)))
      replace hM := hM1
      clear hM1
      generalize World.setRow _ _ _ = Y46 at *
      refine tD 0 [.val 12 (some 3) (.bool true)] trivial hS ?_
      refine dD ?_
      try simp only [puts, Tk.put, Act.put, List.setIfInBounds_toArray, List.set_cons_zero, List.set_cons_succ]
      clear hS
      go_upto_region 3 with fail
      refine wp_region_fromM (fun W => Sep w [] [.blk N43 36 (evc alE14), .blk N42 33 (txc alE14.tx), .blk N3 29 (ivc alI14)] W) hM ?_
      clear hM
      rintro Y47 hM
      refine tF 5 [.val 0 (some 15) (.bool true), .val 1 (some 16) (.bool true), .val 2 (some 17) (pt N42 8), .load 3 (some 18) 29 (pt N42 8) (ivv alE14.tx.iv), .load 4 (some 19) 29 (pt N3 0) (ivv alI14)] ⟨load_part (hM.at 1 rfl) 8 (ivc alE14.tx.iv) rfl _ _ Try.underlying29 rfl (by kernel_rfl), load_part (hM.at 2 rfl) 0 (ivc alI14) rfl _ _ Try.underlying29 rfl (by kernel_rfl), trivial⟩ ?_
      refine eqA (.tmp 18) (.tmp 19) 29 (some 20) (ivc alE14.tx.iv).toArray (ivc alI14).toArray true (Eq.trans (run_eqI 9998 alE14.tx.iv alI14 _) (congrArg (fun z => Result.ok z _) (eqI_refl alI14))) ?_
      refine tF 8 [.val 6 (some 21) (.bool true), .val 7 (some 22) (.bool true)] trivial ?_
      refine cF (some 23) 14 #[.slice none 0 0] ((last_any ([]) _ _ (RSl.nil 0 0 _) (Nat.zero_le _)).mono ?_)
      rintro e Y48 ⟨rfl, hb⟩
      replace hM := hM.below hb
      clear hb
      refine tF 12 [.val 9 (some 24) (.bool ((lastE (-1) ([])) == (-1))), .val 10 (some 25) (.bool ((lastE (-1) ([])) == (-1))), .val 11 (some 0) (.bool ((lastE (-1) ([])) == (-1)))] trivial ?_
      refine dF ?_
      try simp only [puts, Tk.put, Act.put, List.setIfInBounds_toArray, List.set_cons_zero, List.set_cons_succ]
      go_wp2_with fail
      go_ret
      exact ⟨rfl, hM.b⟩
    · refine cD (some 11) 7 #[ivv alI14] ((key_any alI14 _).mono ?_)
      rintro e Y49 ⟨rfl, hb⟩
      refine And.intro (hS.below hb) ?_
      replace hS := hS.below hb
      replace hM := hM.below hb
      clear hb
      refine oD 3 6 (rD (some 9) (.slice (some ⟨Y49.heap.size, 0, none⟩) 1 1) (Y49.alloc (.cells (evc alE14).toArray 36)) (hS.other _) ?_)
      replace hS := hS.other (.cells (evc alE14).toArray 36)
      replace hM := hM.alloc 36 (evc alE14)
      generalize World.alloc _ _ = Y50 at *
      generalize hNe : Y49.heap.size = N50 at *
      clear hNe
      refine oD 6 5 (cD (some 12) 8 #[.slice (some ⟨N50, 0, none⟩) 1 1, .string (keyB alI14)] ((prepared_al _ (rsl_blk (hM.at 0 rfl)) (Nat.le_refl _)).mono ?_))
      rintro e Y51 ⟨rfl, hb⟩
      refine And.intro (hS.below hb) ?_
      replace hS := hS.below hb
      replace hM := hM.below hb
      clear hb
      refine tD 2 [.val 7 (some 5) (.tuple #[txv alE14.tx, .bool true]), .val 8 (some 13) (txv alE14.tx), .val 9 (some 14) (.bool true)] trivial hS ?_
      have hst := sto_part (txc alE14.tx) (hM.at 1 rfl) 0 33 (txv alE14.tx) (txc alE14.tx) rfl (by kernel_rfl) (Nat.le_of_ble_eq_true rfl) rfl rfl
      have hM1 := hM.set 1 (cs' := txc alE14.tx) rfl rfl
      refine oD 11 1 (sD 33 (pt N42 0) (txv alE14.tx) (hst) (hM1.sub (.cons _ (.cons _ (.cons_cons _ .slnil)))) ?_)
      clear hst
      replace hS := hM1.sub (.cons _ (.cons _ (.cons_cons _ .slnil)))
      replace hM := hM1
      clear hM1
      generalize World.setRow _ _ _ = Y52 at *
      refine tD 0 [.val 12 (some 3) (.bool true)] trivial hS ?_
      refine dD ?_
      try simp only [puts, Tk.put, Act.put, List.setIfInBounds_toArray, List.set_cons_zero, List.set_cons_succ]
      clear hS
      go_upto_region 3 with fail
      refine wp_region_fromM (fun W => Sep w [] [.blk N50 36 (evc alE14), .blk N42 33 (txc alE14.tx), .blk N3 29 (ivc alI14)] W) hM ?_
      clear hM
      rintro Y53 hM
      refine tF 5 [.val 0 (some 15) (.bool true), .val 1 (some 16) (.bool true), .val 2 (some 17) (pt N42 8), .load 3 (some 18) 29 (pt N42 8) (ivv alE14.tx.iv), .load 4 (some 19) 29 (pt N3 0) (ivv alI14)] ⟨load_part (hM.at 1 rfl) 8 (ivc alE14.tx.iv) rfl _ _ Try.underlying29 rfl (by kernel_rfl), load_part (hM.at 2 rfl) 0 (ivc alI14) rfl _ _ Try.underlying29 rfl (by kernel_rfl), trivial⟩ ?_
      refine eqA (.tmp 18) (.tmp 19) 29 (some 20) (ivc alE14.tx.iv).toArray (ivc alI14).toArray true (Eq.trans (run_eqI 9998 alE14.tx.iv alI14 _) (congrArg (fun z => Result.ok z _) (eqI_refl alI14))) ?_
      refine tF 8 [.val 6 (some 21) (.bool true), .val 7 (some 22) (.bool true)] trivial ?_
      refine cF (some 23) 14 #[.slice none 0 0] ((last_any ([]) _ _ (RSl.nil 0 0 _) (Nat.zero_le _)).mono ?_)
      rintro e Y54 ⟨rfl, hb⟩
      replace hM := hM.below hb
      clear hb
      refine tF 12 [.val 9 (some 24) (.bool ((lastE (-1) ([])) == (-1))), .val 10 (some 25) (.bool ((lastE (-1) ([])) == (-1))), .val 11 (some 0) (.bool ((lastE (-1) ([])) == (-1)))] trivial ?_
      refine dF ?_
      try simp only [puts, Tk.put, Act.put, List.setIfInBounds_toArray, List.set_cons_zero, List.set_cons_succ]
      go_wp2_with fail
      go_ret
      exact ⟨rfl, hM.b⟩
theorem first_snoc {l : List Ev} {j : Nat} {x : Ev} {key : ByteArray} {kind : Int} (hx : l[j]? = some x) (h0 : firstE (l.take j) key kind = none) (h : key.toList.isEmpty = true ∨ isE key kind x = false) : firstE (l.take (j + 1)) key kind = none := by
  unfold firstE at *
  split
  · rfl
  · rename_i hk
    rw [if_neg hk] at h0
    rw [take_oneG hx, List.find?_append, h0, List.find?_cons, h.resolve_left hk]
    rfl
theorem first_hit {l : List Ev} {j : Nat} {x : Ev} {key : ByteArray} {kind : Int} (hx : l[j]? = some x) (h0 : firstE (l.take j) key kind = none) (hk : key.toList.isEmpty = false) (h : isE key kind x = true) : firstE l key kind = some x := by
  have h1 : firstE (l.take (j + 1)) key kind = some x := by
    unfold firstE at *
    rw [if_neg (by rw [hk]; decide)] at h0 ⊢
    rw [take_oneG hx, List.find?_append, h0, List.find?_cons, h]
    rfl
  have h2 := first_app (k := l.drop (j + 1)) h1
  rwa [List.take_append_drop] at h2
theorem isE_no1 {key : ByteArray} {kind : Int} {x : Ev} (h : decide (x.cd = 0) = false) : isE key kind x = false := by unfold isE; rw [h]; rfl
theorem isE_no2 {key : ByteArray} {kind : Int} {x : Ev} (h : decide (x.tx.kd = kind) = false) : isE key kind x = false := by unfold isE; rw [h, Bool.false_and, Bool.and_false]
theorem isE_no3 {key : ByteArray} {kind : Int} {x : Ev} (h : decide (keyB x.tx.iv = key) = false) : isE key kind x = false := by unfold isE; rw [h, Bool.and_false, Bool.and_false]
theorem isE_yes {key : ByteArray} {kind : Int} {x : Ev} (h1 : decide (x.cd = 0) = true) (h2 : decide (x.tx.kd = kind) = true) (h3 : decide (keyB x.tx.iv = key) = true) : isE key kind x = true := by unfold isE; rw [h1, h2, h3]; rfl
set_option maxRecDepth 100000 in
set_option maxHeartbeats 4000000 in
theorem first14_any (key : ByteArray) (kind : Int) (l : List Ev) (v : Value) (w : World) {lo hi : Nat} (hl : RSl evc lo hi w v l) (hhi : hi ≤ w.heap.size) : Calls Try.prog 11 #[v, .string key, .int .i64 kind] w fun e W' => e = .returned (.tuple #[evv (foundE (firstE l key kind)), .bool (firstE l key kind).isSome]) ∧ Below w.heap.size w W' := by
  have hmx : Try.prog.follows .mixedOrders = true := by kernel_rfl
  have HEl := Lib.hid (fun k x (hx : l[k]? = some x) => hl.elem evc_len hx Try.underlying22 (fun W => by kernel_rfl))
  obtain ⟨pl, cl, rfl⟩ := hl.slice
  have HLl := Lib.hid hl
  have HHl := Lib.hid hhi
  have HLENl := Lib.hid (show l.length ≤ 9223372036854775807 from by have h := hl.len; unfold maxLen at h; omega)
  clear hl hhi
  have hM := Sep.start w
  go_enter Try.func11, Try.ntmps11
  go_upto_region 0 with fail
  refine wp_region_fromM (fun W => Sep w [] [] W) hM ?_
  clear hM
  rintro Y1 hM
  refine rF (some 6) (pt Y1.heap.size 0) (Y1.alloc (.cells (evc noE).toArray 36)) ?_
  replace hM := hM.alloc 36 (evc noE)
  generalize World.alloc _ _ = Y2 at *
  generalize hNe : Y1.heap.size = N2 at *
  clear hNe
  refine tF 2 [.val 1 (some 7) (.bool false)] trivial ?_
  refine dF ?_
  try simp only [puts, Tk.put, Act.put, List.setIfInBounds_toArray, List.set_cons_zero, List.set_cons_succ]
  go_upto_region 1 with fail
  refine wp_region_fromM (fun W => Sep w [] [.blk N2 36 (evc noE)] W) hM ?_
  clear hM
  rintro Y3 hM
  refine tF 1 [.val 0 (some 8) (.int .i64 0)] trivial ?_
  refine dF ?_
  try simp only [puts, Tk.put, Act.put, List.setIfInBounds_toArray, List.set_cons_zero, List.set_cons_succ]
  go_wp2_with fail
  go_loopw [8] (fun i wr => ∃ j : Nat, j ≤ l.length ∧ i = .int .i64 (j : Int) ∧ firstE (l.take j) key kind = none ∧ Sep w [] [.blk N2 36 (evc noE)] wr) (fun i _ => l.length - (intOf i).toNat)
  case atStart => exact ⟨0, Nat.zero_le _, rfl, by unfold firstE; split <;> rfl, hM⟩
  clear hM
  case round =>
    obtain ⟨j, hj, rfl, hno, hM⟩ := hrel
    by_cases hlt : j < l.length
    case pos =>
      have HJ := Lib.hid hlt
      have hlt' : (j : Int) < (l.length : Int) := by omega
      obtain ⟨x, hx⟩ : ∃ x, l[j]? = some x := ⟨_, List.getElem?_eq_getElem hlt⟩
      obtain ⟨bl, ol, _, _, hit, hct⟩ := HEl.out j x hx
      have HXl := Lib.hid hx
      have HIl := Lib.hid hit
      have HCl := Lib.hid hct
      clear hx hit hct
      have HN := Lib.hid hno
      clear hno
      clear hlt
      go_upto_region 2 with fail
      refine wp_region_fromM (fun W => Sep w [] [.blk N2 36 (evc noE)] W) hM ?_
      clear hM
      rintro Y4 hM
      refine tF 4 [.val 0 (some 9) (.int .i64 (j : Int)), .val 1 (some 10) (.slice pl l.length cl), .val 2 (some 11) (.int .i64 (l.length : Int)), .alt 3 (some 12) (.bool (decide ((j : Int) < (l.length : Int)))) (.bool true)] ⟨congrArg Value.bool (decide_eq_true hlt'), trivial⟩ ?_
      refine dF ?_
      try simp only [puts, Tk.put, Act.put, List.setIfInBounds_toArray, List.set_cons_zero, List.set_cons_succ]
      go_upto_region 4 with fail
      refine wp_region_fromM (fun W => Sep w [] [.blk N2 36 (evc noE)] W) hM ?_
      clear hM
      rintro Y5 hM
      refine tF 3 [.val 0 (some 15) (.string key), .alt 1 (some 16) (.bool (!(key.toList == ([] : List UInt8)))) (.bool (!key.toList.isEmpty)), .val 2 (some 17) (.bool (!key.toList.isEmpty))] ⟨congrArg Value.bool (congrArg not (nilB _)), trivial⟩ ?_
      cases hb1 : !key.toList.isEmpty with
      | false =>
        have Hhb1 := Lib.hid hb1
        clear hb1
        refine tF 27 [.skip 3 (some 18), .skip 4 (some 19), .skip 5 (some 20), .skip 6 (some 21), .skip 7 (some 22), .skip 8 (some 23), .val 9 (some 24) (.bool false), .val 10 (some 25) (.bool false), .skip 11 (some 26), .skip 12 (some 27), .skip 13 (some 28), .skip 14 (some 29), .skip 15 (some 30), .skip 16 (some 31), .skip 17 (some 32), .skip 18 (some 33), .val 19 (some 34) (.bool false), .val 20 (some 35) (.bool false), .skip 21 (some 36), .skip 22 (some 37), .skip 23 (some 38), .skip 24 (some 39), .skip 25 (some 40), .skip 26 (some 41)] trivial ?_
        refine wpFrom_not (d := some 42) (by kernel_rfl) ?_
        refine tF 31 [.skip 28 (some 43), .skip 29 (some 44), .val 30 (some 45) (.bool false)] trivial ?_
        refine dF ?_
        try simp only [puts, Tk.put, Act.put, List.setIfInBounds_toArray, List.set_cons_zero, List.set_cons_succ]
        go_upto_region 3 with fail
        refine wp_region_fromM (fun W => Sep w [] [.blk N2 36 (evc noE)] W) hM ?_
        clear hM
        rintro Y6 hM
        refine tF 3 [.val 0 (some 13) (.int .i64 (j : Int)), .alt 1 (some 14) (.int .i64 (IntKind.i64.wrap ((j : Int) + 1))) (.int .i64 ((j + 1 : Nat) : Int)), .val 2 (some 8) (.int .i64 ((j + 1 : Nat) : Int))] ⟨congrArg (Value.int .i64) ((IntWalk.i64_in _ (by have := HLENl.out; have := HJ.out; omega)).trans (by omega)), trivial⟩ ?_
        refine dF ?_
        try simp only [puts, Tk.put, Act.put, List.setIfInBounds_toArray, List.set_cons_zero, List.set_cons_succ]
        go_wp2_with fail
        go_roundw
        case rel => exact ⟨j + 1, HJ.out, rfl, first_snoc HXl.out HN.out (.inl (by have h := Hhb1.out; simpa using h)), hM⟩
        case measure => have := HJ.out; simp [intOf]; omega
      | true =>
        have Hhb1 := Lib.hid hb1
        clear hb1
        refine tF 11 [.val 3 (some 18) (.slice pl l.length cl), .val 4 (some 19) (.int .i64 (j : Int)), .idx 5 (some 20) 22 (.slice pl l.length cl) (.int .i64 (j : Int)) (pt bl ol), .val 6 (some 21) (pt bl (ol + 1)), .load 7 (some 22) 34 (pt bl (ol + 1)) (.int .i64 x.cd), .val 8 (some 23) (.bool (x.cd == 0)), .val 9 (some 24) (.bool (x.cd == 0)), .val 10 (some 25) (.bool (x.cd == 0))] ⟨HIl.out _, ld_cell _ _ Try.underlying34 rfl (HCl.out _ (HLl.out.below hM.b HHl.out) 1 _ rfl), trivial⟩ ?_
        cases hb2 : x.cd == 0 with
        | false =>
          have Hhb2 := Lib.hid hb2
          clear hb2
          refine tF 27 [.skip 11 (some 26), .skip 12 (some 27), .skip 13 (some 28), .skip 14 (some 29), .skip 15 (some 30), .skip 16 (some 31), .skip 17 (some 32), .skip 18 (some 33), .val 19 (some 34) (.bool false), .val 20 (some 35) (.bool false), .skip 21 (some 36), .skip 22 (some 37), .skip 23 (some 38), .skip 24 (some 39), .skip 25 (some 40), .skip 26 (some 41)] trivial ?_
          refine wpFrom_not (d := some 42) (by kernel_rfl) ?_
          refine tF 31 [.skip 28 (some 43), .skip 29 (some 44), .val 30 (some 45) (.bool false)] trivial ?_
          refine dF ?_
          try simp only [puts, Tk.put, Act.put, List.setIfInBounds_toArray, List.set_cons_zero, List.set_cons_succ]
          go_upto_region 3 with fail
          refine wp_region_fromM (fun W => Sep w [] [.blk N2 36 (evc noE)] W) hM ?_
          clear hM
          rintro Y7 hM
          refine tF 3 [.val 0 (some 13) (.int .i64 (j : Int)), .alt 1 (some 14) (.int .i64 (IntKind.i64.wrap ((j : Int) + 1))) (.int .i64 ((j + 1 : Nat) : Int)), .val 2 (some 8) (.int .i64 ((j + 1 : Nat) : Int))] ⟨congrArg (Value.int .i64) ((IntWalk.i64_in _ (by have := HLENl.out; have := HJ.out; omega)).trans (by omega)), trivial⟩ ?_
          refine dF ?_
          try simp only [puts, Tk.put, Act.put, List.setIfInBounds_toArray, List.set_cons_zero, List.set_cons_succ]
          go_wp2_with fail
          go_roundw
          case rel => exact ⟨j + 1, HJ.out, rfl, first_snoc HXl.out HN.out (.inr (isE_no1 Hhb2.out)), hM⟩
          case measure => have := HJ.out; simp [intOf]; omega
        | true =>
          have Hhb2 := Lib.hid hb2
          clear hb2
          refine tF 21 [.val 11 (some 26) (.slice pl l.length cl), .val 12 (some 27) (.int .i64 (j : Int)), .idx 13 (some 28) 22 (.slice pl l.length cl) (.int .i64 (j : Int)) (pt bl ol), .val 14 (some 29) (pt bl (ol + 2)), .val 15 (some 30) (pt bl (ol + 2 + 2)), .load 16 (some 31) 3 (pt bl (ol + 2 + 2)) (.int .i64 x.tx.kd), .val 17 (some 32) (.int .i64 kind), .val 18 (some 33) (.bool (x.tx.kd == kind)), .val 19 (some 34) (.bool (x.tx.kd == kind)), .val 20 (some 35) (.bool (x.tx.kd == kind))] ⟨HIl.out _, ld_cell _ _ Try.underlying3 rfl (HCl.out _ (HLl.out.below hM.b HHl.out) 4 _ rfl), trivial⟩ ?_
          cases hb3 : x.tx.kd == kind with
          | false =>
            have Hhb3 := Lib.hid hb3
            clear hb3
            refine tF 27 [.skip 21 (some 36), .skip 22 (some 37), .skip 23 (some 38), .skip 24 (some 39), .skip 25 (some 40), .skip 26 (some 41)] trivial ?_
            refine wpFrom_not (d := some 42) (by kernel_rfl) ?_
            refine tF 31 [.skip 28 (some 43), .skip 29 (some 44), .val 30 (some 45) (.bool false)] trivial ?_
            refine dF ?_
            try simp only [puts, Tk.put, Act.put, List.setIfInBounds_toArray, List.set_cons_zero, List.set_cons_succ]
            go_upto_region 3 with fail
            refine wp_region_fromM (fun W => Sep w [] [.blk N2 36 (evc noE)] W) hM ?_
            clear hM
            rintro Y8 hM
            refine tF 3 [.val 0 (some 13) (.int .i64 (j : Int)), .alt 1 (some 14) (.int .i64 (IntKind.i64.wrap ((j : Int) + 1))) (.int .i64 ((j + 1 : Nat) : Int)), .val 2 (some 8) (.int .i64 ((j + 1 : Nat) : Int))] ⟨congrArg (Value.int .i64) ((IntWalk.i64_in _ (by have := HLENl.out; have := HJ.out; omega)).trans (by omega)), trivial⟩ ?_
            refine dF ?_
            try simp only [puts, Tk.put, Act.put, List.setIfInBounds_toArray, List.set_cons_zero, List.set_cons_succ]
            go_wp2_with fail
            go_roundw
            case rel => exact ⟨j + 1, HJ.out, rfl, first_snoc HXl.out HN.out (.inr (isE_no2 Hhb3.out)), hM⟩
            case measure => have := HJ.out; simp [intOf]; omega
          | true =>
            have Hhb3 := Lib.hid hb3
            clear hb3
            refine tF 27 [.val 21 (some 36) (.slice pl l.length cl), .val 22 (some 37) (.int .i64 (j : Int)), .idx 23 (some 38) 22 (.slice pl l.length cl) (.int .i64 (j : Int)) (pt bl ol), .val 24 (some 39) (pt bl (ol + 2)), .val 25 (some 40) (pt bl (ol + 2 + 8)), .load 26 (some 41) 29 (pt bl (ol + 2 + 8)) (ivv x.tx.iv)] ⟨HIl.out _, ld_cellsAt (HCl.out _ (HLl.out.below hM.b HHl.out)) 10 (ivc x.tx.iv) rfl _ _ Try.underlying29 rfl (by kernel_rfl), trivial⟩ ?_
            refine cF (some 42) 7 #[ivv x.tx.iv] ((key_any x.tx.iv _).mono ?_)
            rintro e Y9 ⟨rfl, hb⟩
            replace hM := hM.below hb
            clear hb
            refine tF 31 [.val 28 (some 43) (.string key), .alt 29 (some 44) (.bool ((keyB x.tx.iv).toList == key.toList)) (.bool (decide (keyB x.tx.iv = key))), .val 30 (some 45) (.bool (decide (keyB x.tx.iv = key)))] ⟨congrArg Value.bool (beqB _ _), trivial⟩ ?_
            refine dF ?_
            try simp only [puts, Tk.put, Act.put, List.setIfInBounds_toArray, List.set_cons_zero, List.set_cons_succ]
            cases hb4 : decide (keyB x.tx.iv = key) with
            | false =>
              have Hhb4 := Lib.hid hb4
              clear hb4
              go_upto_region 3 with fail
              refine wp_region_fromM (fun W => Sep w [] [.blk N2 36 (evc noE)] W) hM ?_
              clear hM
              rintro Y10 hM
              refine tF 3 [.val 0 (some 13) (.int .i64 (j : Int)), .alt 1 (some 14) (.int .i64 (IntKind.i64.wrap ((j : Int) + 1))) (.int .i64 ((j + 1 : Nat) : Int)), .val 2 (some 8) (.int .i64 ((j + 1 : Nat) : Int))] ⟨congrArg (Value.int .i64) ((IntWalk.i64_in _ (by have := HLENl.out; have := HJ.out; omega)).trans (by omega)), trivial⟩ ?_
              refine dF ?_
              try simp only [puts, Tk.put, Act.put, List.setIfInBounds_toArray, List.set_cons_zero, List.set_cons_succ]
              go_wp2_with fail
              go_roundw
              case rel => exact ⟨j + 1, HJ.out, rfl, first_snoc HXl.out HN.out (.inr (isE_no3 Hhb4.out)), hM⟩
              case measure => have := HJ.out; simp [intOf]; omega
            | true =>
              have Hhb4 := Lib.hid hb4
              clear hb4
              go_upto_region 5 with fail
              refine wp_region_fromM (fun W => Sep w [] [.blk N2 36 (evc noE)] W) hM ?_
              clear hM
              rintro Y11 hM
              refine tF 4 [.val 0 (some 46) (.slice pl l.length cl), .val 1 (some 47) (.int .i64 (j : Int)), .idx 2 (some 48) 22 (.slice pl l.length cl) (.int .i64 (j : Int)) (pt bl ol), .load 3 (some 49) 36 (pt bl ol) (evv x)] ⟨HIl.out _, ld_cells (evc x) _ _ Try.underlying36 rfl (by kernel_rfl) (HCl.out _ (HLl.out.below hM.b HHl.out)), trivial⟩ ?_
              have hst := sto_part (evc x) (hM.at 0 rfl) 0 36 (evv x) (evc x) rfl (by kernel_rfl) (Nat.le_of_ble_eq_true rfl) rfl rfl
              refine sF 36 (pt N2 0) (evv x) (hst) ?_
              clear hst
              replace hM := hM.set 0 (cs' := evc x) rfl rfl
              generalize World.setRow _ _ _ = Y12 at *
              refine tF 6 [.val 5 (some 7) (.bool true)] trivial ?_
              refine dF ?_
              try simp only [puts, Tk.put, Act.put, List.setIfInBounds_toArray, List.set_cons_zero, List.set_cons_succ]
              go_wp2_with fail
              exact bodyPost_ret (v := .tuple #[evv x, .bool true]) (res_two rfl _ rfl rfl (lv_ev (hM.at 0 rfl))) rfl ⟨by rw [first_hit HXl.out HN.out (by have h := Hhb1.out; simpa using h) (isE_yes Hhb2.out Hhb3.out Hhb4.out)]; rfl, hM.b⟩
    case neg =>
      obtain rfl : j = l.length := by omega
      have HN := Lib.hid hno
      clear hno
      go_upto_region 2 with fail
      refine wp_region_fromM (fun W => Sep w [] [.blk N2 36 (evc noE)] W) hM ?_
      clear hM
      rintro Y13 hM
      refine tF 4 [.val 0 (some 9) (.int .i64 (l.length : Int)), .val 1 (some 10) (.slice pl l.length cl), .val 2 (some 11) (.int .i64 (l.length : Int)), .alt 3 (some 12) (.bool (decide ((l.length : Int) < (l.length : Int)))) (.bool false)] ⟨congrArg Value.bool (decide_eq_false (by omega)), trivial⟩ ?_
      refine dF ?_
      try simp only [puts, Tk.put, Act.put, List.setIfInBounds_toArray, List.set_cons_zero, List.set_cons_succ]
      go_upto_region 6 with fail
      refine wp_region_fromM (fun W => Sep w [] [.blk N2 36 (evc noE)] W) hM ?_
      clear hM
      rintro Y14 hM
      refine tF 1 [.val 0 (some 50) (evv noE)] trivial ?_
      have hst := sto_part (evc noE) (hM.at 0 rfl) 0 36 (evv noE) (evc noE) rfl (by kernel_rfl) (Nat.le_of_ble_eq_true rfl) rfl rfl
      refine sF 36 (pt N2 0) (evv noE) (hst) ?_
      clear hst
      replace hM := hM.set 0 (cs' := evc noE) rfl rfl
      generalize World.setRow _ _ _ = Y15 at *
      refine tF 3 [.val 2 (some 7) (.bool false)] trivial ?_
      refine dF ?_
      try simp only [puts, Tk.put, Act.put, List.setIfInBounds_toArray, List.set_cons_zero, List.set_cons_succ]
      go_wp2_with fail
      exact bodyPost_ret (v := .tuple #[evv noE, .bool false]) (res_two rfl _ rfl rfl (lv_ev (hM.at 0 rfl))) rfl ⟨by rw [(show firstE l key kind = none from by have h := HN.out; rwa [List.take_length] at h)]; rfl, hM.b⟩
end Go.Proofs.Ythbpidekfocioaa
