/-
  The law: no more than so many are on their way.
-/
import Derived.Test.YtedoogoelolbdaaNetL
import Derived.Laws.OwnMore
namespace Go.Proofs.Ytedoogoelolbdaa
open Go.RowKit Go.Shelf
attribute [local irreducible] wpFrom wpAnyH StepH

theorem runAt_makeM {P : Program} {ops : Array Oper} {i : Nat} {a : Act} {w w' : World} {d : Option Tmp} {t : TypeId} {x y v : Value} (hr : (ops[i]?).map (fun o => (Region.wanted o (yielded ops a.tmps), o.dst, match o.op with | .makeSlice t' l c => some (t', a.eval l, a.eval c) | _ => none)) = some (true, d, some (t, x, y))) (h : (Instr.makeSlice t x y).run P w = .ok v w') : runAt P ops i a w = some (true, d, .ok (.value v) w') := by
  obtain ⟨o, ho⟩ := some_of hr
  rw [ho] at hr
  have h0 := Option.some.inj hr
  have h1 : Region.wanted o (yielded ops a.tmps) = true := congrArg Prod.fst h0
  have h2 : o.dst = d := congrArg (fun x => x.2.1) h0
  have h3 := congrArg (fun x => x.2.2) h0
  dsimp only at h3
  split at h3
  · rename_i t' l c hop
    obtain ⟨rfl, rfl, rfl⟩ := by simpa using h3
    unfold runAt
    rw [ho]
    simp only [Option.map_some]
    rw [h1, h2]
    unfold execOp
    simp only [hop, Sem.run_bind, h, Result.andThen_ok]
    rfl
  · cases h3
theorem made_ml (n : Nat) : (madeCells (Value.agg (mlc noMl).toArray).cells (n * 2)).toList = flatR mlc (List.replicate n noMl) := by
  apply List.ext_getElem?
  intro j
  by_cases hj : j < n * 2
  · have hk : j / 2 < n := by omega
    have hc := flat_cell (f := mlc) mlc_len (l := List.replicate n noMl) (k := j / 2) (x := noMl) (by rw [List.getElem?_replicate, if_pos hk]) (j := j % 2) (by omega)
    rw [show j / 2 * 2 + j % 2 = j by omega] at hc
    rw [hc]
    simp only [madeCells, Value.cells]
    rcases (show j % 2 = 0 ∨ j % 2 = 1 by omega) with h2 | h2 <;> simp [hj, h2, mlc, noMl]
  · rw [List.getElem?_eq_none (by simp [madeCells]; omega), List.getElem?_eq_none (by rw [flat_len mlc_len, List.length_replicate]; omega)]
theorem makeM (W : World) (n : Nat) (hn : n ≤ 1000) : ∃ W', (Instr.makeSlice 22 (.int .i64 (n : Int)) (.int .i64 (n : Int))).run Try.prog W = .ok (.slice (some ⟨W.heap.size, 0, none⟩) n n) W' ∧ W'.ownsRow W.heap.size 27 2 (.slice (some ⟨W.heap.size, 0, none⟩) n n) (List.replicate n noMl).length (flatR mlc (List.replicate n noMl)) ∧ Below W.heap.size W W' := by
  obtain ⟨i0, hi, hz0, hz1, hz2⟩ := info_parts infoMl
  obtain ⟨W', hrun, hO, hg⟩ := run_make_full W W.heap.size 22 27 i0 _ 2 Try.underlying22 hi hz0 hz1 .i64 .i64 n (by rw [hz2]; omega) (by unfold maxLen; omega) (Nat.le_refl _)
  rw [made_ml] at hO
  exact ⟨W', hrun, by rw [List.length_replicate]; exact hO, ⟨hg.os, hg.tape, hg.output, hg.size, fun k hk => hg.block k hk (by simp)⟩⟩
theorem Sep.ows_none {w W : World} {F : List Nat} {l : List Res} (h : Sep w F l W) (n : Nat) : Sep w F (.ows (zsM (List.replicate n noMl)) :: l) W := by
  have key : ∀ z ∈ zsM (List.replicate n noMl), z = noMl.z := fun z hz => by
    obtain ⟨y, hy, rfl⟩ := List.mem_map.1 hz
    rw [(List.mem_replicate.1 hy).2]
  refine h.add (Below.refl _ W) ⟨fun z hz => ?_, fun k hk => ?_⟩ (fun k hk => ?_)
  · rw [key z hz]
    exact World.ownsRow_nil _ _ _ _
  · obtain ⟨z, hz, hq⟩ := List.mem_flatMap.1 hk
    rw [key z hz] at hq
    exact (List.not_mem_nil hq).elim
  · obtain ⟨z, hz, hq⟩ := List.mem_flatMap.1 hk
    rw [key z hz] at hq
    exact (List.not_mem_nil hq).elim
theorem post_len (q : List (Int × List UInt8)) (tz : Int) (d : List UInt8) : (postL q tz [d]).length = min 512 (q.length + 1) := by
  unfold postL
  rw [List.length_take, List.length_append]
  rfl
theorem post_bp {q : List (Int × List UInt8)} {tz : Int} {d : List UInt8} (h : BP q) (hd : d.length ≤ 140737488351232) : BP (postL q tz [d]) :=
  (h.app (BP.one (x := (tz, d)) hd)).of fun _ hx => List.mem_of_mem_take hx
theorem none_bp (n : Nat) : BP ((List.replicate n noMl).map plM) := fun x hx => by
  obtain ⟨y, hy, rfl⟩ := List.mem_map.1 hx
  rw [(List.mem_replicate.1 hy).2]
  exact Nat.zero_le _
theorem full_step {ms ms2 : List Ml} {tz : Int} {z : Zs} (h : ms2.map plM = postL (ms.map plM) tz (textsZ [z])) : ms2.length = min 512 (ms.length + 1) := by
  have h1 := congrArg List.length h
  rw [List.length_map, show textsZ [z] = [z.l] from rfl, post_len, List.length_map] at h1
  exact h1
/-- How many are on their way. -/
def fullN (j : Nat) : Nat := min 512 (508 + j)
set_option maxRecDepth 100000 in
set_option maxHeartbeats 4000000 in
theorem netFull_any {b : List UInt8} {vb : Value} (y : Nat) (hy : y ≤ 255) (w : World) (hsb : BSl 0 w.heap.size w vb b) (hrb : b.length ≤ 140737488351232) : Calls Try.prog 4 #[vb, .int .u8 (y : Int)] w fun e W' => e = .returned (.bool true) ∧ Below w.heap.size w W' := by
  have hmx : Try.prog.follows .mixedOrders = true := by kernel_rfl
  obtain ⟨ab, cb, rfl, _⟩ := hsb.slice
  have HSB := Lib.hid hsb
  have HRB := Lib.hid hrb
  clear hsb hrb
  obtain ⟨q, hq, hq9⟩ : ∃ q : Nat, Int.tmod (y : Int) 9 = (q : Int) ∧ q < 9 := ⟨y % 9, by rw [Int.tmod_eq_emod_of_nonneg (by omega)]; omega, by omega⟩
  have HQ := Lib.hid hq
  have HQ9 := Lib.hid hq9
  have HW := Lib.hid (show IntKind.i64.wrap (y : Int) = (y : Int) from IntWalk.i64_in _ (by omega))
  clear hq hq9 hy
  obtain ⟨nn, hnn⟩ : ∃ nn, nn = fullN q := ⟨_, rfl⟩
  have HNN := Lib.hid hnn
  clear hnn
  obtain ⟨n2, hn2⟩ : ∃ n2, n2 = min 512 (nn + 1) := ⟨_, rfl⟩
  have HN2 := Lib.hid hn2
  clear hn2
  have hM := Sep.start w
  go_enter Try.func4, Try.ntmps4
  go_upto_region 0 with fail
  refine wp_region_fromM (fun W => Sep w [] [] W) hM ?_
  clear hM
  rintro Y1 hM
  refine tF 1 [.val 0 (some 4) (.bool false)] trivial ?_
  refine dF ?_
  try simp only [puts, Tk.put, Act.put, List.setIfInBounds_toArray, List.set_cons_zero, List.set_cons_succ]
  go_upto_region 1 with fail
  refine wp_region_fromM (fun W => Sep w [] [] W) hM ?_
  clear hM
  rintro Y2 hM
  refine cF (some 9) 7 #[] ((alive23_any _).mono ?_)
  rintro e Y3 ⟨rfl, hb⟩
  replace hM := hM.below hb
  clear hb
  refine tF 2 [.val 1 (some 10) (.bool false)] trivial ?_
  refine dF ?_
  try simp only [puts, Tk.put, Act.put, List.setIfInBounds_toArray, List.set_cons_zero, List.set_cons_succ]
  go_upto_region 3 with fail
  refine wp_region_fromM (fun W => Sep w [] [] W) hM ?_
  clear hM
  rintro Y4 hM
  obtain ⟨Y5, hrun, hO, hb⟩ := makeM Y4 508 (by decide)
  replace hM := hM.row (f := mlc) hO hb
  refine rF (some 11) (.slice (some ⟨Y4.heap.size, 0, none⟩) 508 508) Y5 ?_ (runAt_makeM (by kernel_rfl) hrun)
  clear hrun hO hb
  replace hM := (hM.ows_none 508).pick [1, 0] (l' := [.own mlc 27 2 (.slice (some ⟨Y4.heap.size, 0, none⟩) 508 508) (List.replicate 508 noMl), .ows (zsM (List.replicate 508 noMl))]) (by decide) rfl
  refine tF 2 [.val 1 (some 5) (.slice (some ⟨Y4.heap.size, 0, none⟩) 508 508)] trivial ?_
  refine dF ?_
  try simp only [puts, Tk.put, Act.put, List.setIfInBounds_toArray, List.set_cons_zero, List.set_cons_succ]
  go_upto_region 4 with fail
  refine wp_region_fromM (fun W => Sep w [] [.own mlc 27 2 (.slice (some ⟨Y4.heap.size, 0, none⟩) 508 508) (List.replicate 508 noMl), .ows (zsM (List.replicate 508 noMl))] W) hM ?_
  clear hM
  rintro Y6 hM
  refine tF 2 [.val 0 (some 12) (.int .u8 (y : Int)), .alt 1 (some 13) (.int .i64 (IntKind.i64.wrap (y : Int))) (.int .i64 (y : Int))] ⟨congrArg (Value.int .i64) (HW.out), trivial⟩ ?_
  refine remF (.tmp 13) (.const (.int .i64 9)) 3 3 (some 14) (y : Int) 9 (q : Int) (by decide) HQ.out ?_
  refine tF 4 [.val 3 (some 6) (.int .i64 (q : Int))] trivial ?_
  refine dF ?_
  try simp only [puts, Tk.put, Act.put, List.setIfInBounds_toArray, List.set_cons_zero, List.set_cons_succ]
  go_upto_region 5 with fail
  refine wp_region_fromM (fun W => Sep w [] [.own mlc 27 2 (.slice (some ⟨Y4.heap.size, 0, none⟩) 508 508) (List.replicate 508 noMl), .ows (zsM (List.replicate 508 noMl))] W) hM ?_
  clear hM
  rintro Y7 hM
  refine tF 1 [.val 0 (some 7) (.int .i64 0)] trivial ?_
  refine dF ?_
  try simp only [puts, Tk.put, Act.put, List.setIfInBounds_toArray, List.set_cons_zero, List.set_cons_succ]
  go_wp2_with fail
  go_loopw [7, 5] (fun i u5 wr => ∃ (j : Nat) (ms : List Ml), j ≤ q ∧ i = .int .i64 (j : Int) ∧ ms.length = fullN j ∧ BP (ms.map plM) ∧ Sep w [] [.own mlc 27 2 (u5) (ms), .ows (zsM ms)] wr) (fun i u5 _ => q - (intOf i).toNat)
  case atStart => exact ⟨0, _, Nat.zero_le _, rfl, List.length_replicate .., none_bp 508, hM⟩
  clear hM
  case round =>
    obtain ⟨j, ms, hj, rfl, he, hbe, hM⟩ := hrel
    have HE := Lib.hid he
    have HBE := Lib.hid hbe
    clear he hbe
    obtain ⟨pu5, cu5, rfl⟩ := (hM.oka 0 rfl).slice mlc_len
    by_cases hlt : j < q
    case pos =>
      have HJ := Lib.hid hlt
      have hlt' : (j : Int) < (q : Int) := by omega
      have HLT := Lib.hid hlt'
      clear hlt' hlt
      go_upto_region 6 with fail
      refine wp_region_fromM (fun W => Sep w [] [.own mlc 27 2 (.slice pu5 ms.length cu5) (ms), .ows (zsM ms)] W) hM ?_
      clear hM
      rintro Y8 hM
      refine tF 3 [.val 0 (some 15) (.int .i64 (j : Int)), .val 1 (some 16) (.int .i64 (q : Int)), .alt 2 (some 17) (.bool (decide ((j : Int) < (q : Int)))) (.bool true)] ⟨congrArg Value.bool (decide_eq_true HLT.out), trivial⟩ ?_
      refine dF ?_
      try simp only [puts, Tk.put, Act.put, List.setIfInBounds_toArray, List.set_cons_zero, List.set_cons_succ]
      go_upto_region 8 with fail
      refine wp_region_fromM (fun W => Sep w [] [.own mlc 27 2 (.slice pu5 ms.length cu5) (ms), .ows (zsM ms)] W) hM ?_
      clear hM
      rintro Y9 hM
      refine tF 3 [.val 0 (some 20) (.slice pu5 ms.length cu5), .val 1 (some 21) (.int .i64 (j : Int)), .val 2 (some 22) (.slice ab b.length cb)] trivial ?_
      refine rF (some 23) (.slice (some ⟨Y9.heap.size, 0, none⟩) 1 1) (Y9.alloc (.cells ([.slice ab b.length cb]).toArray 25)) ?_
      replace hM := hM.alloc 25 ([.slice ab b.length cb])
      generalize World.alloc _ _ = Y10 at *
      generalize hNe : Y9.heap.size = N10 at *
      clear hNe
      refine cF (some 24) 10 #[.slice pu5 ms.length cu5, .int .i64 (j : Int), .slice (some ⟨N10, 0, none⟩) 1 1] ((post_any ms ([(⟨ab, cb, b⟩ : Zs)]) (j : Int) _ ((hM.oka 1 rfl).rsl mlc_len) (Nat.le_refl _) (rsl_blk (f := zsc) (x := (⟨ab, cb, b⟩ : Zs)) (hM.at 0 rfl)) (Nat.le_refl _) (by have h := HE.out; unfold fullN at h; have h2 := HQ9.out; simp; omega) (hM.oka 2 rfl).holdW HBE.out (Holds.one (z := (⟨ab, cb, b⟩ : Zs)) (((HSB.out.below hM.b (Nat.le_refl _)).mono (Nat.le_refl _) hM.size))) (bz_one (z := (⟨ab, cb, b⟩ : Zs)) (HRB.out))).mono ?_)
      rintro e Y11 ⟨v11m, ms11, rfl, he11, hR⟩
      have HE11 := Lib.hid he11
      replace hM := hM.gain2 hR
      clear hR he11
      obtain ⟨pv11m, cv11m, rfl⟩ := (hM.oka 0 rfl).slice mlc_len
      refine tF 6 [.val 5 (some 5) (.slice pv11m ms11.length cv11m)] trivial ?_
      refine dF ?_
      try simp only [puts, Tk.put, Act.put, List.setIfInBounds_toArray, List.set_cons_zero, List.set_cons_succ]
      go_upto_region 7 with fail
      refine wp_region_fromM (fun W => Sep w [] [.own mlc 27 2 (.slice pv11m ms11.length cv11m) (ms11), .ows (zsM ms11), .blk N10 25 ([.slice ab b.length cb]), .own mlc 27 2 (.slice pu5 ms.length cu5) (ms), .ows (zsM ms)] W) hM ?_
      clear hM
      rintro Y13 hM
      refine tF 3 [.val 0 (some 18) (.int .i64 (j : Int)), .alt 1 (some 19) (.int .i64 (IntKind.i64.wrap ((j : Int) + 1))) (.int .i64 ((j + 1 : Nat) : Int)), .val 2 (some 7) (.int .i64 ((j + 1 : Nat) : Int))] ⟨congrArg (Value.int .i64) ((IntWalk.i64_in _ (by have := HQ9.out; have := HJ.out; omega)).trans (by omega)), trivial⟩ ?_
      refine dF ?_
      try simp only [puts, Tk.put, Act.put, List.setIfInBounds_toArray, List.set_cons_zero, List.set_cons_succ]
      have HM1 : Hid (Sep w [] [.own mlc 27 2 (.slice pv11m ms11.length cv11m) (ms11), .ows (zsM ms11)] Y13) := Lib.hid (hM.pick [0, 1] (by decide) rfl)
      clear hM
      go_wp2_with fail
      go_roundw
      case rel => exact ⟨j + 1, _, HJ.out, rfl, by have h := full_step HE11.out; rw [HE.out] at h; rw [h]; unfold fullN; omega, by rw [HE11.out]; exact post_bp HBE.out HRB.out, HM1.out⟩
      case measure => have := HJ.out; simp [intOf]; omega
    case neg =>
      obtain rfl : j = q := by omega
      clear hlt
      go_upto_region 6 with fail
      refine wp_region_fromM (fun W => Sep w [] [.own mlc 27 2 (.slice pu5 ms.length cu5) (ms), .ows (zsM ms)] W) hM ?_
      clear hM
      rintro Y14 hM
      refine tF 3 [.val 0 (some 15) (.int .i64 (j : Int)), .val 1 (some 16) (.int .i64 (j : Int)), .alt 2 (some 17) (.bool (decide ((j : Int) < (j : Int)))) (.bool false)] ⟨congrArg Value.bool (decide_eq_false (by omega)), trivial⟩ ?_
      refine dF ?_
      try simp only [puts, Tk.put, Act.put, List.setIfInBounds_toArray, List.set_cons_zero, List.set_cons_succ]
      go_upto_region 9 with fail
      refine wp_region_fromM (fun W => Sep w [] [.own mlc 27 2 (.slice pu5 ms.length cu5) (ms), .ows (zsM ms)] W) hM ?_
      clear hM
      rintro Y15 hM
      refine tF 4 [.val 0 (some 25) (.int .i64 (j : Int)), .alt 1 (some 26) (.int .i64 (IntKind.i64.wrap (508 + (j : Int)))) (.int .i64 ((508 + j : Nat) : Int)), .alt 2 (some 27) (.int .i64 (min2I ((508 + j : Nat) : Int) 512)) (.int .i64 (nn : Int)), .val 3 (some 8) (.int .i64 (nn : Int))] ⟨congrArg (Value.int .i64) ((IntWalk.i64_in _ (by have := HQ9.out; omega)).trans (by omega)), congrArg (Value.int .i64) ((by rw [min2I_eq, HNN.out]; unfold fullN; omega)), trivial⟩ ?_
      refine dF ?_
      try simp only [puts, Tk.put, Act.put, List.setIfInBounds_toArray, List.set_cons_zero, List.set_cons_succ]
      go_upto_region 10 with fail
      refine wp_region_fromM (fun W => Sep w [] [.own mlc 27 2 (.slice pu5 ms.length cu5) (ms), .ows (zsM ms)] W) hM ?_
      clear hM
      rintro Y16 hM
      refine tF 6 [.val 0 (some 28) (.slice pu5 ms.length cu5), .val 1 (some 29) (.int .i64 (ms.length : Int)), .val 2 (some 30) (.int .i64 (nn : Int)), .alt 3 (some 31) (.bool ((ms.length : Int) == (nn : Int))) (.bool true), .val 4 (some 32) (.bool true), .val 5 (some 33) (.slice pu5 ms.length cu5)] ⟨congrArg Value.bool ((by rw [HE.out, HNN.out]; exact beq_self_eq_true _)), trivial⟩ ?_
      obtain ⟨x, hx⟩ : ∃ x, ms[plcN 1 ms.length]? = some x := ⟨_, List.getElem?_eq_getElem (plc_lt 1 (by have h := HE.out; unfold fullN at h; omega))⟩
      have HXX := Lib.hid hx
      clear hx
      refine cF (some 34) 13 #[.slice pu5 ms.length cu5, .int .i64 1] ((twin_any ms 1 x _ ((hM.oka 0 rfl).rsl mlc_len) (Nat.le_refl _) (by have h := HE.out; unfold fullN at h; omega) (hM.oka 1 rfl).holdW HBE.out HXX.out).mono ?_)
      rintro e Y17 ⟨v17m, ms17, rfl, he17, hR⟩
      have HE17 := Lib.hid he17
      replace hM := hM.gain2 hR
      clear hR he17
      obtain ⟨pv17m, cv17m, rfl⟩ := (hM.oka 0 rfl).slice mlc_len
      refine tF 14 [.val 7 (some 35) (.int .i64 (ms17.length : Int)), .val 8 (some 36) (.int .i64 (nn : Int)), .alt 9 (some 37) (.int .i64 (IntKind.i64.wrap ((nn : Int) + 1))) (.int .i64 ((nn + 1 : Nat) : Int)), .alt 10 (some 38) (.int .i64 (min2I ((nn + 1 : Nat) : Int) 512)) (.int .i64 (n2 : Int)), .alt 11 (some 39) (.bool ((ms17.length : Int) == (n2 : Int))) (.bool true), .val 12 (some 40) (.bool true), .val 13 (some 4) (.bool true)] ⟨congrArg (Value.int .i64) ((IntWalk.i64_in _ (by have h := HNN.out; unfold fullN at h; omega)).trans (by omega)), congrArg (Value.int .i64) ((by rw [min2I_eq, HN2.out]; omega)), congrArg Value.bool ((by have h := congrArg List.length HE17.out; rw [List.length_map, post_len, List.length_map, HE.out, ← HNN.out, ← HN2.out] at h; rw [h]; exact beq_self_eq_true _)), trivial⟩ ?_
      refine dF ?_
      try simp only [puts, Tk.put, Act.put, List.setIfInBounds_toArray, List.set_cons_zero, List.set_cons_succ]
      go_wp2_with fail
      go_ret
      exact ⟨rfl, hM.b⟩
end Go.Proofs.Ytedoogoelolbdaa
