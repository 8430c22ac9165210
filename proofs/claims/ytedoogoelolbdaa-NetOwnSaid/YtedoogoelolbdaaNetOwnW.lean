/-
  The law: what is told shares nothing with what is handed in.
-/
import Derived.Test.YtedoogoelolbdaaNetL
namespace Go.Proofs.Ytedoogoelolbdaa
open Go.RowKit Go.Shelf
attribute [local irreducible] wpFrom wpAnyH StepH

theorem obs_store {W : World} {v : Value} {l : List UInt8} {i : Nat} {x : UInt8} (h : ROk (.own ocM 5 1 v l) W) (hx : l[i]? = some x) : ∃ g, (∀ W', (Instr.indexAt 25 v (.int .i64 (i : Int))).run Try.prog W' = .ok (.pointer (some ⟨g, i, none⟩)) W') ∧ ∀ W, ROk (.own ocM 5 1 v l) W → W.cell? ⟨g, i, none⟩ = some (bv x) ∧ ∀ y : UInt8, ∃ W', (Instr.storeAt 5 (.pointer (some ⟨g, i, none⟩)) (bv y)).run Try.prog W = .ok () W' ∧ RTurn (.own ocM 5 1 v l) (.own ocM 5 1 v (l.set i y)) W W' := by
  have hi : i < l.length := (List.getElem?_eq_some_iff.1 hx).1
  have h0 : W.ownsRow 0 5 1 v l.length (flatR ocM l) := h.h
  obtain ⟨hlen, ⟨_, hz⟩ | ⟨g, cap, _, hv, _⟩⟩ := h0
  · omega
  subst hv
  clear hlen
  refine ⟨g, fun W' => ?_, fun W h => ?_⟩
  · have := idx_sl (W := W') Try.underlying25 (c := 1) (by kernel_rfl) (b := g) (off := 0) (cap := cap) hi
    rwa [Nat.zero_add, Nat.mul_one] at this
  have h0 : W.ownsRow 0 5 1 (.slice (some ⟨g, 0, none⟩) l.length cap) l.length (flatR ocM l) := h.h
  obtain ⟨hlen, ⟨_, hz⟩ | ⟨g', cap', cur, hv, hg0, hb, hnc, hcm, hcs, hxs⟩⟩ := h0
  · omega
  obtain ⟨rfl, rfl⟩ : g = g' ∧ cap = cap' := by cases hv; exact ⟨rfl, rfl⟩
  have hB : Blk W g 5 cur.toList := by unfold Blk; exact hb
  have hcl : cur.toList.length = cap := by rw [Array.length_toList, hcs, Nat.mul_one]
  refine ⟨?_, fun y => ?_⟩
  · refine (hB.cell i).trans ?_
    have h1 : (cur.toList.take (l.length * 1))[i]? = (flatR ocM l)[i]? := by rw [hxs]
    rw [List.getElem?_take_of_lt (by omega), flat_oc, List.getElem?_map, hx] at h1
    exact h1
  · have hst := sto_part (cur.toList.set i (bv y)) hB i 5 (bv y) [bv y] rfl (by kernel_rfl) (by rw [hcl]; simp; omega) rfl (laid_one _ _ _ (by rw [hcl]; omega))
    refine ⟨_, hst, turn_own (v := .slice (some ⟨g, 0, none⟩) l.length cap) ?_ (grownBy_row W g _) (fun k hk => .inl hk)⟩
    refine ⟨by rw [flat_oc]; simp, .inr ⟨g, cap, (cur.toList.set i (bv y)).toArray, by rw [List.length_set], Nat.zero_le _, ?_, by rw [List.length_set]; exact hnc, hcm, by simp; omega, ?_⟩⟩
    · exact Blk.row hB (cur.toList.set i (bv y))
    · show (cur.toList.set i (bv y)).take _ = _
      rw [List.length_set, flat_oc, List.map_set, ← flat_oc, ← hxs, List.take_set]
theorem own_appB {v x : Value} {l ys : List UInt8} {W : World} (h : ROk (.own ocM 5 1 v l) W) {lo hi : Nat} (hx : BSl lo hi W x ys) (hr : l.length + ys.length ≤ 140737488355328) (ty : TypeId) :
    ∃ v' W', (Builtin.append_ #[25, 25] ty #[v, x]).run Try.prog W = .ok v' W' ∧ RTurn (.own ocM 5 1 v l) (.own ocM 5 1 v' (l ++ ys)) W W' := by
  obtain ⟨a, c, rfl, hc, h0⟩ := hx
  cases a with
  | some a =>
    refine own_apps infoOct1 rfl (by decide) Try.underlying25 ocM_len ocM_one h ys a c (fun j u hj => ?_) (by decide) (by omega) ty
    rcases h0 with rfl | ⟨b, off, ha, _, _, ho⟩
    · cases hj
    · cases ha
      rw [flat_oc, List.getElem?_map] at hj
      obtain ⟨y, hy, rfl⟩ := Option.map_eq_some_iff.1 hj
      rw [addr_add']
      exact ho j y hy
  | none =>
    have hy : ys = [] := by
      rcases h0 with h0 | ⟨b, off, ha, _⟩
      · exact h0
      · cases ha
    subst hy
    obtain ⟨i0, hi, hz0, hz1, hz2⟩ := info_parts infoOct1
    refine ⟨v, W, ?_, by rw [List.append_nil]; exact turn_refl h⟩
    have hu := Try.underlying25
    rcases h.h.2 with ⟨rfl, hl0⟩ | ⟨g, cap, cur, rfl, _, hg, hnc, hcm, hcs, _⟩
    · simp [Builtin.append_, run_underlying hu, sizeOf, typeInfo, hi, Builtin.lenOf, Builtin.firstCells]
    · simp [Builtin.append_, run_underlying hu, sizeOf, typeInfo, hi, Builtin.lenOf, Builtin.firstCells, loadCells, hnc, storeCells]
theorem u8_next (x : UInt8) : IntKind.u8.wrap ((x.toNat : Int) + 1) = (((x + 1).toNat : Nat) : Int) := by
  rw [UInt8.toNat_add]
  simp [IntKind.wrap, IntKind.bits, IntKind.signed]
theorem Sep.ows_m {w W : World} {F : List Nat} {l : List Res} {ms : List Ml} {m : Ml} (hm : ms = [m]) (h : Sep w F (.ows (zsM ms) :: l) W) : Sep w F (.own ocM 5 1 (.slice m.a m.l.length m.c) m.l :: l) W := by
  subst hm
  exact h.ows_one
theorem for_one {ms : List Ml} {tz : Int} {b : List UInt8} (h : ms = [⟨tz, none, 0, b⟩] ∨ ms.map plM = [(tz, b)]) : selG (fun _ m => (m.1 == tz)) 0 (ms.map plM) = [(tz, b)] := by
  have e : ms.map plM = [(tz, b)] := by
    rcases h with rfl | h
    · rfl
    · exact h
  rw [e]
  simp [selG]
set_option maxRecDepth 100000 in
set_option maxHeartbeats 4000000 in
theorem netOwn_any {b : List UInt8} {vb : Value} (tz : Int) (w : World) (hsb : BSl 0 w.heap.size w vb b) (hrb : b.length ≤ 140737488351232) : Calls Try.prog 5 #[vb, .int .i64 tz] w fun e W' => e = .returned (.bool true) ∧ Below w.heap.size w W' := by
  have hmx : Try.prog.follows .mixedOrders = true := by kernel_rfl
  obtain ⟨ab, cb, rfl, _⟩ := hsb.slice
  have HSB := Lib.hid hsb
  have HRB := Lib.hid hrb
  clear hsb hrb
  have hM := Sep.start w
  go_enter Try.func5, Try.ntmps5
  go_upto_region 0 with fail
  refine wp_region_fromM (fun W => Sep w [] [] W) hM ?_
  clear hM
  rintro Y1 hM
  refine tF 1 [.val 0 (some 4) (.bool false)] trivial ?_
  refine dF ?_
  try simp only [puts, Tk.put, Act.put, List.setIfInBounds_toArray, List.set_cons_zero, List.set_cons_succ]
  go_upto_region 1 with fail
  refine wp_region_fromM (fun W => Sep w [] [] W) hM ?_
  clear hM
  rintro Y2 hM
  refine cF (some 10) 7 #[] ((alive23_any _).mono ?_)
  rintro e Y3 ⟨rfl, hb⟩
  replace hM := hM.below hb
  clear hb
  refine tF 2 [.val 1 (some 11) (.bool false)] trivial ?_
  refine dF ?_
  try simp only [puts, Tk.put, Act.put, List.setIfInBounds_toArray, List.set_cons_zero, List.set_cons_succ]
  go_upto_region 3 with fail
  refine wp_region_fromM (fun W => Sep w [] [] W) hM ?_
  clear hM
  rintro Y4 hM
  refine rF (some 12) (.slice (some ⟨Y4.heap.size, 0, none⟩) 0 0) (Y4.alloc (.cells ([]).toArray 5)) ?_
  replace hM := hM.alloc 5 ([])
  generalize World.alloc _ _ = Y5 at *
  generalize hNe : Y4.heap.size = N5 at *
  clear hNe
  replace hM := hM.mtrow (f := ocM) (n := 1)
  refine tF 2 [.val 1 (some 13) (.slice ab b.length cb)] trivial ?_
  obtain ⟨v6, Y6, hrun, ht⟩ := own_appB (hM.oka 0 rfl) (((HSB.out.below hM.b (Nat.le_refl _)).mono (Nat.le_refl _) hM.size)) (by have h := HRB.out; simp; omega) 25
  replace hM := hM.turn 0 rfl ht rfl
  clear ht
  refine wpFrom_append (d := some 14) (t := 25) (t' := 25) (ty := 25) (v := .slice (some ⟨N5, 0, none⟩) 0 0) (x := .slice ab b.length cb) (by kernel_rfl) hrun ?_
  clear hrun
  replace hM : Sep w [] [.own ocM 5 1 (v6) (b)] Y6 := hM
  obtain ⟨pv6, cv6, rfl⟩ := (hM.oka 0 rfl).slice ocM_len
  refine tF 4 [.val 3 (some 5) (.slice pv6 b.length cv6)] trivial ?_
  refine dF ?_
  try simp only [puts, Tk.put, Act.put, List.setIfInBounds_toArray, List.set_cons_zero, List.set_cons_succ]
  go_upto_region 4 with fail
  refine wp_region_fromM (fun W => Sep w [] [.own ocM 5 1 (.slice pv6 b.length cv6) (b)] W) hM ?_
  clear hM
  rintro Y7 hM
  refine tF 2 [.val 0 (some 15) (.int .i64 tz), .val 1 (some 16) (.slice pv6 b.length cv6)] trivial ?_
  refine rF (some 17) (.slice (some ⟨Y7.heap.size, 0, none⟩) 1 1) (Y7.alloc (.cells ([.slice pv6 b.length cv6]).toArray 25)) ?_
  replace hM := hM.alloc 25 ([.slice pv6 b.length cv6])
  generalize World.alloc _ _ = Y8 at *
  generalize hNe : Y7.heap.size = N8 at *
  clear hNe
  refine cF (some 18) 10 #[.slice none 0 0, .int .i64 tz, .slice (some ⟨N8, 0, none⟩) 1 1] ((post_any ([]) ([(⟨pv6, cv6, b⟩ : Zs)]) tz _ (RSl.nil 0 0 _) (Nat.zero_le _) (rsl_blk (f := zsc) (x := (⟨pv6, cv6, b⟩ : Zs)) (hM.at 0 rfl)) (Nat.le_refl _) (Nat.le_of_ble_eq_true rfl) (Holds.nil _ _) BP.nil (Holds.one (z := (⟨pv6, cv6, b⟩ : Zs)) ((hM.oka 1 rfl).own_bsl)) (bz_one (z := (⟨pv6, cv6, b⟩ : Zs)) (HRB.out))).mono ?_)
  rintro e Y9 ⟨v9m, ms9, rfl, he9, hR⟩
  have HE9 := Lib.hid he9
  replace hM := hM.gain2 hR
  clear hR he9
  obtain ⟨pv9m, cv9m, rfl⟩ := (hM.oka 0 rfl).slice mlc_len
  refine tF 5 [.val 4 (some 6) (.slice pv9m ms9.length cv9m)] trivial ?_
  refine dF ?_
  try simp only [puts, Tk.put, Act.put, List.setIfInBounds_toArray, List.set_cons_zero, List.set_cons_succ]
  obtain ⟨m1, hm1, hm2⟩ := mone_of (y := (tz, b)) (HE9.out.trans rfl)
  have HA0 := Lib.hid hm1
  have HAL := Lib.hid (show m1.l = b from congrArg Prod.snd hm2)
  have HAE := Lib.hid (show ms9.map plM = [(tz, b)] from HE9.out.trans rfl)
  clear hm1 hm2
  go_upto_region 5 with fail
  refine wp_region_fromM (fun W => Sep w [] [.own mlc 27 2 (.slice pv9m ms9.length cv9m) (ms9), .ows (zsM ms9), .blk N8 25 ([.slice pv6 b.length cv6]), .own ocM 5 1 (.slice pv6 b.length cv6) (b)] W) hM ?_
  clear hM
  rintro Y11 hM
  refine tF 2 [.val 0 (some 19) (.slice pv9m ms9.length cv9m), .val 1 (some 20) (.int .i64 tz)] trivial ?_
  refine cF (some 21) 11 #[.slice pv9m ms9.length cv9m, .int .i64 tz] ((for_any ms9 tz _ ((hM.oka 0 rfl).rsl mlc_len) (Nat.le_refl _) (by rw [HA0.out]; exact Nat.le_of_ble_eq_true rfl) (hM.oka 1 rfl).holdW (by rw [HAE.out]; exact BP.one HRB.out)).mono ?_)
  rintro e Y12 ⟨v12m, ms12, rfl, he12, hR⟩
  have HE12 := Lib.hid he12
  replace hM := hM.gain2 hR
  clear hR he12
  obtain ⟨pv12m, cv12m, rfl⟩ := (hM.oka 0 rfl).slice mlc_len
  refine tF 4 [.val 3 (some 7) (.slice pv12m ms12.length cv12m)] trivial ?_
  refine dF ?_
  try simp only [puts, Tk.put, Act.put, List.setIfInBounds_toArray, List.set_cons_zero, List.set_cons_succ]
  obtain ⟨m2, hm1, hm2⟩ := mone_of (y := (tz, b)) (HE12.out.trans (for_one (.inr HAE.out)))
  have HB0 := Lib.hid hm1
  have HBL := Lib.hid (show m2.l = b from congrArg Prod.snd hm2)
  clear hm1 hm2
  go_upto_region 6 with fail
  refine wp_region_fromM (fun W => Sep w [] [.own mlc 27 2 (.slice pv12m ms12.length cv12m) (ms12), .ows (zsM ms12), .own mlc 27 2 (.slice pv9m ms9.length cv9m) (ms9), .ows (zsM ms9), .blk N8 25 ([.slice pv6 b.length cv6]), .own ocM 5 1 (.slice pv6 b.length cv6) (b)] W) hM ?_
  clear hM
  rintro Y14 hM
  refine tF 1 [.val 0 (some 8) (.int .i64 0)] trivial ?_
  refine dF ?_
  try simp only [puts, Tk.put, Act.put, List.setIfInBounds_toArray, List.set_cons_zero, List.set_cons_succ]
  replace hM : Sep w [] [.own ocM 5 1 (.slice pv6 b.length cv6) (b), .own mlc 27 2 (.slice pv9m ms9.length cv9m) (ms9), .ows (zsM ms9), .own mlc 27 2 (.slice pv12m ms12.length cv12m) (ms12), .ows (zsM ms12)] Y14 := hM.pick [5, 2, 3, 0, 1] (by decide) rfl
  go_wp2_with fail
  go_loopw [8] (fun i wr => ∃ (j : Nat) (xs : List UInt8), j ≤ b.length ∧ i = .int .i64 (j : Int) ∧ xs.length = b.length ∧ Sep w [] [.own ocM 5 1 (.slice pv6 b.length cv6) (xs), .own mlc 27 2 (.slice pv9m ms9.length cv9m) (ms9), .ows (zsM ms9), .own mlc 27 2 (.slice pv12m ms12.length cv12m) (ms12), .ows (zsM ms12)] wr) (fun i _ => b.length - (intOf i).toNat)
  case atStart => exact ⟨0, _, Nat.zero_le _, rfl, rfl, hM⟩
  clear hM
  case round =>
    obtain ⟨j, xs, hj, rfl, he, hM⟩ := hrel
    have HE := Lib.hid he
    clear he
    by_cases hlt : j < b.length
    case pos =>
      have HJ := Lib.hid hlt
      have hlt' : (j : Int) < (b.length : Int) := by omega
      have HLT := Lib.hid hlt'
      clear hlt' hlt
      obtain ⟨y0, hy0⟩ : ∃ y0, xs[j]? = some y0 := ⟨_, List.getElem?_eq_getElem (by have h := HE.out; have h2 := HJ.out; omega)⟩
      obtain ⟨g, hidx, hsto⟩ := obs_store (hM.oka 0 rfl) hy0
      have HIX := Lib.hid hidx
      have HST := Lib.hid hsto
      clear hy0 hidx hsto
      go_upto_region 7 with fail
      refine wp_region_fromM (fun W => Sep w [] [.own ocM 5 1 (.slice pv6 b.length cv6) (xs), .own mlc 27 2 (.slice pv9m ms9.length cv9m) (ms9), .ows (zsM ms9), .own mlc 27 2 (.slice pv12m ms12.length cv12m) (ms12), .ows (zsM ms12)] W) hM ?_
      clear hM
      rintro Y15 hM
      refine tF 4 [.val 0 (some 22) (.int .i64 (j : Int)), .val 1 (some 23) (.slice pv6 b.length cv6), .val 2 (some 24) (.int .i64 (b.length : Int)), .alt 3 (some 25) (.bool (decide ((j : Int) < (b.length : Int)))) (.bool true)] ⟨congrArg Value.bool (decide_eq_true HLT.out), trivial⟩ ?_
      refine dF ?_
      try simp only [puts, Tk.put, Act.put, List.setIfInBounds_toArray, List.set_cons_zero, List.set_cons_succ]
      go_upto_region 9 with fail
      refine wp_region_fromM (fun W => Sep w [] [.own ocM 5 1 (.slice pv6 b.length cv6) (xs), .own mlc 27 2 (.slice pv9m ms9.length cv9m) (ms9), .ows (zsM ms9), .own mlc 27 2 (.slice pv12m ms12.length cv12m) (ms12), .ows (zsM ms12)] W) hM ?_
      clear hM
      rintro Y16 hM
      refine tF 8 [.val 0 (some 28) (.slice pv6 b.length cv6), .val 1 (some 29) (.int .i64 (j : Int)), .val 2 (some 30) (.slice pv6 b.length cv6), .val 3 (some 31) (.int .i64 (j : Int)), .idx 4 (some 32) 25 (.slice pv6 b.length cv6) (.int .i64 (j : Int)) (pt g j), .load 5 (some 33) 5 (pt g j) (.int .u8 (y0.toNat : Int)), .alt 6 (some 34) (.int .u8 (IntKind.u8.wrap ((y0.toNat : Int) + 1))) (.int .u8 ((y0 + 1).toNat : Int)), .idx 7 (some 35) 25 (.slice pv6 b.length cv6) (.int .i64 (j : Int)) (pt g j)] ⟨HIX.out _, ld_cell _ _ Try.underlying5 rfl (HST.out _ (hM.oka 0 rfl)).1, congrArg (Value.int .u8) ((u8_next y0)), HIX.out _, trivial⟩ ?_
      obtain ⟨Y17, hst, ht⟩ := (HST.out _ (hM.oka 0 rfl)).2 (y0 + 1)
      replace hM := hM.turn 0 rfl ht rfl
      clear ht
      refine sF 5 (pt g j) (.int .u8 ((y0 + 1).toNat : Int)) (hst) ?_
      clear hst
      refine dF ?_
      try simp only [puts, Tk.put, Act.put, List.setIfInBounds_toArray, List.set_cons_zero, List.set_cons_succ]
      go_upto_region 8 with fail
      refine wp_region_fromM (fun W => Sep w [] [.own ocM 5 1 (.slice pv6 b.length cv6) (xs.set j (y0 + 1)), .own mlc 27 2 (.slice pv9m ms9.length cv9m) (ms9), .ows (zsM ms9), .own mlc 27 2 (.slice pv12m ms12.length cv12m) (ms12), .ows (zsM ms12)] W) hM ?_
      clear hM
      rintro Y18 hM
      refine tF 3 [.val 0 (some 26) (.int .i64 (j : Int)), .alt 1 (some 27) (.int .i64 (IntKind.i64.wrap ((j : Int) + 1))) (.int .i64 ((j + 1 : Nat) : Int)), .val 2 (some 8) (.int .i64 ((j + 1 : Nat) : Int))] ⟨congrArg (Value.int .i64) ((IntWalk.i64_in _ (by have h := HRB.out; have h1 := HAL.out; have := HJ.out; first | omega | (rw [h1] at this; omega))).trans (by omega)), trivial⟩ ?_
      refine dF ?_
      try simp only [puts, Tk.put, Act.put, List.setIfInBounds_toArray, List.set_cons_zero, List.set_cons_succ]
      have HM1 := Lib.hid hM
      clear hM
      go_wp2_with fail
      go_roundw
      case rel => exact ⟨j + 1, _, HJ.out, rfl, by rw [List.length_set]; exact HE.out, HM1.out⟩
      case measure => have := HJ.out; simp [intOf]; omega
    case neg =>
      obtain rfl : j = b.length := by omega
      go_upto_region 7 with fail
      refine wp_region_fromM (fun W => Sep w [] [.own ocM 5 1 (.slice pv6 b.length cv6) (xs), .own mlc 27 2 (.slice pv9m ms9.length cv9m) (ms9), .ows (zsM ms9), .own mlc 27 2 (.slice pv12m ms12.length cv12m) (ms12), .ows (zsM ms12)] W) hM ?_
      clear hM
      rintro Y19 hM
      refine tF 4 [.val 0 (some 22) (.int .i64 (b.length : Int)), .val 1 (some 23) (.slice pv6 b.length cv6), .val 2 (some 24) (.int .i64 (b.length : Int)), .alt 3 (some 25) (.bool (decide ((b.length : Int) < (b.length : Int)))) (.bool false)] ⟨congrArg Value.bool (decide_eq_false (by omega)), trivial⟩ ?_
      refine dF ?_
      try simp only [puts, Tk.put, Act.put, List.setIfInBounds_toArray, List.set_cons_zero, List.set_cons_succ]
      go_upto_region 10 with fail
      refine wp_region_fromM (fun W => Sep w [] [.own ocM 5 1 (.slice pv6 b.length cv6) (xs), .own mlc 27 2 (.slice pv9m ms9.length cv9m) (ms9), .ows (zsM ms9), .own mlc 27 2 (.slice pv12m ms12.length cv12m) (ms12), .ows (zsM ms12)] W) hM ?_
      clear hM
      rintro Y20 hM
      refine tF 1 [.val 0 (some 9) (.int .i64 0)] trivial ?_
      refine dF ?_
      try simp only [puts, Tk.put, Act.put, List.setIfInBounds_toArray, List.set_cons_zero, List.set_cons_succ]
      replace hM : Sep w [] [.ows (zsM ms9), .own mlc 27 2 (.slice pv9m ms9.length cv9m) (ms9), .own mlc 27 2 (.slice pv12m ms12.length cv12m) (ms12), .ows (zsM ms12)] Y20 := hM.pick [2, 1, 3, 4] (by decide) rfl
      replace hM := Sep.ows_m HA0.out hM
      go_wp2_with fail
      go_loopw [9] (fun i wr => ∃ (j : Nat) (ys : List UInt8), j ≤ m1.l.length ∧ i = .int .i64 (j : Int) ∧ ys.length = m1.l.length ∧ Sep w [] [.own ocM 5 1 (.slice m1.a m1.l.length m1.c) (ys), .own mlc 27 2 (.slice pv9m ms9.length cv9m) (ms9), .own mlc 27 2 (.slice pv12m ms12.length cv12m) (ms12), .ows (zsM ms12)] wr) (fun i _ => m1.l.length - (intOf i).toNat)
      case atStart => exact ⟨0, _, Nat.zero_le _, rfl, rfl, hM⟩
      clear hM
      case round =>
        obtain ⟨j, ys, hj, rfl, he, hM⟩ := hrel
        have HE := Lib.hid he
        clear he
        obtain ⟨bt, ot, hit, hct⟩ := (hM.oka 1 rfl).elem mlc_len (show ms9[0]? = some m1 from by rw [HA0.out]; rfl) Try.underlying22 (fun W => by kernel_rfl)
        have HIt := Lib.hid hit
        have HCt := Lib.hid hct
        clear hit hct
        by_cases hlt : j < m1.l.length
        case pos =>
          have HJ := Lib.hid hlt
          have hlt' : (j : Int) < (m1.l.length : Int) := by omega
          have HLT := Lib.hid hlt'
          clear hlt' hlt
          obtain ⟨y0, hy0⟩ : ∃ y0, ys[j]? = some y0 := ⟨_, List.getElem?_eq_getElem (by have h := HE.out; have h2 := HJ.out; omega)⟩
          obtain ⟨g, hidx, hsto⟩ := obs_store (hM.oka 0 rfl) hy0
          have HIX := Lib.hid hidx
          have HST := Lib.hid hsto
          clear hy0 hidx hsto
          go_upto_region 11 with fail
          refine wp_region_fromM (fun W => Sep w [] [.own ocM 5 1 (.slice m1.a m1.l.length m1.c) (ys), .own mlc 27 2 (.slice pv9m ms9.length cv9m) (ms9), .own mlc 27 2 (.slice pv12m ms12.length cv12m) (ms12), .ows (zsM ms12)] W) hM ?_
          clear hM
          rintro Y21 hM
          refine tF 7 [.val 0 (some 36) (.int .i64 (j : Int)), .val 1 (some 37) (.slice pv9m ms9.length cv9m), .idx 2 (some 38) 22 (.slice pv9m ms9.length cv9m) (.int .i64 0) (pt bt ot), .val 3 (some 39) (pt bt (ot + 1)), .load 4 (some 40) 25 (pt bt (ot + 1)) (.slice m1.a m1.l.length m1.c), .val 5 (some 41) (.int .i64 (m1.l.length : Int)), .alt 6 (some 42) (.bool (decide ((j : Int) < (m1.l.length : Int)))) (.bool true)] ⟨HIt.out _, ld_cell _ _ Try.underlying25 rfl (HCt.out _ (hM.oka 1 rfl) 1 _ rfl), congrArg Value.bool (decide_eq_true HLT.out), trivial⟩ ?_
          refine dF ?_
          try simp only [puts, Tk.put, Act.put, List.setIfInBounds_toArray, List.set_cons_zero, List.set_cons_succ]
          go_upto_region 13 with fail
          refine wp_region_fromM (fun W => Sep w [] [.own ocM 5 1 (.slice m1.a m1.l.length m1.c) (ys), .own mlc 27 2 (.slice pv9m ms9.length cv9m) (ms9), .own mlc 27 2 (.slice pv12m ms12.length cv12m) (ms12), .ows (zsM ms12)] W) hM ?_
          clear hM
          rintro Y22 hM
          refine tF 6 [.val 0 (some 45) (.slice pv9m ms9.length cv9m), .idx 1 (some 46) 22 (.slice pv9m ms9.length cv9m) (.int .i64 0) (pt bt ot), .val 2 (some 47) (pt bt (ot + 1)), .load 3 (some 48) 25 (pt bt (ot + 1)) (.slice m1.a m1.l.length m1.c), .val 4 (some 49) (.int .i64 (j : Int)), .idx 5 (some 50) 25 (.slice m1.a m1.l.length m1.c) (.int .i64 (j : Int)) (pt g j)] ⟨HIt.out _, ld_cell _ _ Try.underlying25 rfl (HCt.out _ (hM.oka 1 rfl) 1 _ rfl), HIX.out _, trivial⟩ ?_
          obtain ⟨Y23, hst, ht⟩ := (HST.out _ (hM.oka 0 rfl)).2 7
          replace hM := hM.turn 0 rfl ht rfl
          clear ht
          refine sF 5 (pt g j) (.int .u8 7) (hst) ?_
          clear hst
          refine dF ?_
          try simp only [puts, Tk.put, Act.put, List.setIfInBounds_toArray, List.set_cons_zero, List.set_cons_succ]
          go_upto_region 12 with fail
          refine wp_region_fromM (fun W => Sep w [] [.own ocM 5 1 (.slice m1.a m1.l.length m1.c) (ys.set j 7), .own mlc 27 2 (.slice pv9m ms9.length cv9m) (ms9), .own mlc 27 2 (.slice pv12m ms12.length cv12m) (ms12), .ows (zsM ms12)] W) hM ?_
          clear hM
          rintro Y24 hM
          refine tF 3 [.val 0 (some 43) (.int .i64 (j : Int)), .alt 1 (some 44) (.int .i64 (IntKind.i64.wrap ((j : Int) + 1))) (.int .i64 ((j + 1 : Nat) : Int)), .val 2 (some 9) (.int .i64 ((j + 1 : Nat) : Int))] ⟨congrArg (Value.int .i64) ((IntWalk.i64_in _ (by have h := HRB.out; have h1 := HAL.out; have := HJ.out; first | omega | (rw [h1] at this; omega))).trans (by omega)), trivial⟩ ?_
          refine dF ?_
          try simp only [puts, Tk.put, Act.put, List.setIfInBounds_toArray, List.set_cons_zero, List.set_cons_succ]
          have HM1 := Lib.hid hM
          clear hM
          go_wp2_with fail
          go_roundw
          case rel => exact ⟨j + 1, _, HJ.out, rfl, by rw [List.length_set]; exact HE.out, HM1.out⟩
          case measure => have := HJ.out; simp [intOf]; omega
        case neg =>
          obtain rfl : j = m1.l.length := by omega
          go_upto_region 11 with fail
          refine wp_region_fromM (fun W => Sep w [] [.own ocM 5 1 (.slice m1.a m1.l.length m1.c) (ys), .own mlc 27 2 (.slice pv9m ms9.length cv9m) (ms9), .own mlc 27 2 (.slice pv12m ms12.length cv12m) (ms12), .ows (zsM ms12)] W) hM ?_
          clear hM
          rintro Y25 hM
          refine tF 7 [.val 0 (some 36) (.int .i64 (m1.l.length : Int)), .val 1 (some 37) (.slice pv9m ms9.length cv9m), .idx 2 (some 38) 22 (.slice pv9m ms9.length cv9m) (.int .i64 0) (pt bt ot), .val 3 (some 39) (pt bt (ot + 1)), .load 4 (some 40) 25 (pt bt (ot + 1)) (.slice m1.a m1.l.length m1.c), .val 5 (some 41) (.int .i64 (m1.l.length : Int)), .alt 6 (some 42) (.bool (decide ((m1.l.length : Int) < (m1.l.length : Int)))) (.bool false)] ⟨HIt.out _, ld_cell _ _ Try.underlying25 rfl (HCt.out _ (hM.oka 1 rfl) 1 _ rfl), congrArg Value.bool (decide_eq_false (by omega)), trivial⟩ ?_
          refine dF ?_
          try simp only [puts, Tk.put, Act.put, List.setIfInBounds_toArray, List.set_cons_zero, List.set_cons_succ]
          go_upto_region 14 with fail
          obtain ⟨bq, oq, hit, hct⟩ := (hM.oka 2 rfl).elem mlc_len (show ms12[0]? = some m2 from by rw [HB0.out]; rfl) Try.underlying22 (fun W => by kernel_rfl)
          have HIq := Lib.hid hit
          have HCq := Lib.hid hct
          clear hit hct
          refine wp_region_M (fun W => Sep w [] [.own ocM 5 1 (.slice m1.a m1.l.length m1.c) (ys), .own mlc 27 2 (.slice pv9m ms9.length cv9m) (ms9), .own mlc 27 2 (.slice pv12m ms12.length cv12m) (ms12), .ows (zsM ms12)] W) (fun W => Sep w [] [.own ocM 5 1 (.slice m1.a m1.l.length m1.c) (ys), .own mlc 27 2 (.slice pv9m ms9.length cv9m) (ms9), .own mlc 27 2 (.slice pv12m ms12.length cv12m) (ms12), .ows (zsM ms12)] W) hmx hM.drew ?_
          clear hM
          rintro Y26 hM
          have hS := hM.sub (.cons_cons _ (.cons_cons _ (.cons_cons _ (.cons_cons _ .slnil))))
          refine tD 5 [.val 0 (some 51) (.slice pv12m ms12.length cv12m), .val 1 (some 52) (.int .i64 (ms12.length : Int)), .alt 2 (some 53) (.bool ((ms12.length : Int) == 1)) (.bool true), .val 3 (some 54) (.bool true), .val 4 (some 55) (.slice pv12m ms12.length cv12m), .idx 5 (some 56) 22 (.slice pv12m ms12.length cv12m) (.int .i64 0) (pt bq oq), .val 6 (some 57) (pt bq (oq + 1)), .load 7 (some 58) 25 (pt bq (oq + 1)) (.slice m2.a m2.l.length m2.c), .val 9 (some 60) (.slice ab b.length cb)] ⟨congrArg Value.bool ((by rw [HB0.out]; rfl)), fun W h => HIq.out _, fun W h => ld_cell _ _ Try.underlying25 rfl (HCq.out _ (h.oka 2 rfl) 1 _ rfl), trivial⟩ hS ?_
          refine oT 8 10 4 ?_ ?_
          · refine cvD (.tmp 58) (some 59) (.slice m2.a m2.l.length m2.c) (.string (txB m2.l)) (cvT ((hM.oka 3 rfl).holdW.ml (show ms12[0]? = some m2 from by rw [HB0.out]; rfl))) hS ?_
            refine oD 10 3 (cvD (.tmp 60) (some 61) (.slice ab b.length cb) (.string (txB b)) (cvT ((HSB.out.below hM.b (Nat.le_refl _)).mono (Nat.le_refl _) hM.size)) hS ?_)
            refine tD 0 [.alt 11 (some 62) (.bool ((txB m2.l).toList == (txB b).toList)) (.bool true), .val 12 (some 63) (.bool true), .val 13 (some 4) (.bool true)] ⟨congrArg Value.bool ((by rw [HBL.out]; exact beq_self_eq_true _)), trivial⟩ hS ?_
            refine dD ?_
            try simp only [puts, Tk.put, Act.put, List.setIfInBounds_toArray, List.set_cons_zero, List.set_cons_succ]
            clear hS
            go_wp2_with fail
            go_ret
            exact ⟨rfl, hM.b⟩
          · refine cvD (.tmp 60) (some 61) (.slice ab b.length cb) (.string (txB b)) (cvT ((HSB.out.below hM.b (Nat.le_refl _)).mono (Nat.le_refl _) hM.size)) hS ?_
            refine oD 8 3 (cvD (.tmp 58) (some 59) (.slice m2.a m2.l.length m2.c) (.string (txB m2.l)) (cvT ((hM.oka 3 rfl).holdW.ml (show ms12[0]? = some m2 from by rw [HB0.out]; rfl))) hS ?_)
            refine tD 0 [.alt 11 (some 62) (.bool ((txB m2.l).toList == (txB b).toList)) (.bool true), .val 12 (some 63) (.bool true), .val 13 (some 4) (.bool true)] ⟨congrArg Value.bool ((by rw [HBL.out]; exact beq_self_eq_true _)), trivial⟩ hS ?_
            refine dD ?_
            try simp only [puts, Tk.put, Act.put, List.setIfInBounds_toArray, List.set_cons_zero, List.set_cons_succ]
            clear hS
            go_wp2_with fail
            go_ret
            exact ⟨rfl, hM.b⟩
end Go.Proofs.Ytedoogoelolbdaa
