/-
  Mail on its way: Post, Take, Twin, For.
-/
import Derived.Test.YtedoogoelolbdaaNetF
namespace Go.Proofs.Ytedoogoelolbdaa
open Go.RowKit Go.Shelf
attribute [local irreducible] wpFrom wpAnyH StepH

theorem bz_one {z : Zs} (h : z.l.length ≤ 140737488351232) : BZ [z] := fun y hy => by obtain rfl := List.mem_singleton.1 hy; exact h
theorem sel_one {q : List (Int × List UInt8)} {n : Nat} {x : Int × List UInt8} (h : q[n]? = some x) : selG (fun j _ => ((j : Int) == (n : Int))) 0 q = [x] := by
  have := sel_at (k := 0) h
  rwa [Nat.zero_add] at this
theorem sel_rest (q : List (Int × List UInt8)) (n : Nat) : selG (fun j _ => ((j : Int) != (n : Int))) 0 q = q.take n ++ q.drop (n + 1) := by
  have := sel_but q 0 n
  rwa [Nat.zero_add] at this
theorem mone_of {ms : List Ml} {y : Int × List UInt8} (h : ms.map plM = [y]) : ∃ m, ms = [m] ∧ plM m = y := by
  match ms, h with
  | [m], h => exact ⟨m, rfl, (List.cons.inj h).1⟩
set_option maxRecDepth 100000 in
set_option maxHeartbeats 4000000 in
theorem place_any (z : Int) (n : Nat) (h0 : 0 < n ∧ n ≤ 1048576) (w : World) : Calls Try.prog 14 #[.int .i64 z, .int .i64 (n : Int)] w fun e W' => e = .returned (.int .i64 ((plcN z n : Nat) : Int)) ∧ Below w.heap.size w W' := by
  have hmx : Try.prog.follows .mixedOrders = true := by kernel_rfl
  have HN0 := Lib.hid (show (n : Int) ≠ 0 by omega)
  have HS := Lib.hid (plc_sum z h0.1 h0.2)
  have HP := Lib.hid (plc_eq z h0.1)
  clear h0
  have hM := Sep.start w
  go_enter Try.func14, Try.ntmps14
  go_upto_region 0 with fail
  refine wp_region_fromM (fun W => Sep w [] [] W) hM ?_
  clear hM
  rintro Y1 hM
  refine tF 1 [.val 0 (some 4) (.int .i64 0)] trivial ?_
  refine dF ?_
  try simp only [puts, Tk.put, Act.put, List.setIfInBounds_toArray, List.set_cons_zero, List.set_cons_succ]
  go_upto_region 1 with fail
  refine wp_region_fromM (fun W => Sep w [] [] W) hM ?_
  clear hM
  rintro Y2 hM
  refine tF 2 [.val 0 (some 5) (.int .i64 z), .val 1 (some 6) (.int .i64 (n : Int))] trivial ?_
  refine remF (.tmp 5) (.tmp 6) 3 3 (some 7) z (n : Int) (Int.tmod z (n : Int)) HN0.out rfl ?_
  refine tF 6 [.val 3 (some 8) (.int .i64 (n : Int)), .alt 4 (some 9) (.int .i64 (IntKind.i64.wrap ((Int.tmod z (n : Int)) + (n : Int)))) (.int .i64 (Int.tmod z (n : Int) + (n : Int))), .val 5 (some 10) (.int .i64 (n : Int))] ⟨congrArg (Value.int .i64) (HS.out), trivial⟩ ?_
  refine remF (.tmp 9) (.tmp 10) 3 3 (some 11) (Int.tmod z (n : Int) + (n : Int)) (n : Int) ((plcN z n : Nat) : Int) HN0.out HP.out ?_
  refine tF 8 [.val 7 (some 4) (.int .i64 ((plcN z n : Nat) : Int))] trivial ?_
  refine dF ?_
  try simp only [puts, Tk.put, Act.put, List.setIfInBounds_toArray, List.set_cons_zero, List.set_cons_succ]
  go_wp2_with fail
  go_ret
  exact ⟨rfl, hM.b⟩
theorem clipMl_any {lo hi : Nat} {a : Option Addr} {cap : Nat} {l : List Ml} (w : World) (hl : RSl mlc lo hi w (.slice a l.length cap) l) : Calls Try.prog 18 #[.slice a l.length cap] w fun e W' => e = .returned (.slice a l.length l.length) ∧ W' = w := by
  have hcap : l.length ≤ cap := by obtain ⟨_, _, e, h, _⟩ := hl; cases e; exact h
  have hmax := hl.len
  unfold maxLen at hmax
  clear hl
  generalize l.length = n at *
  go_enter Try.func18, Try.ntmps18
  go_wp2
  go_ret
  exact ⟨rfl, rfl⟩
set_option maxRecDepth 100000 in
set_option maxHeartbeats 4000000 in
theorem post_any (ls : List Ml) (zs : List Zs) (tz : Int) (w : World) {lo hi : Nat} {v : Value} (hl : RSl mlc lo hi w v ls) (hhi : hi ≤ w.heap.size) {lo2 hi2 : Nat} {d : Value} (hz : RSl zsc lo2 hi2 w d zs) (hhz : hi2 ≤ w.heap.size) (hr : ls.length + zs.length ≤ 1000) (hkk : Holds w.heap.size w (zsM ls)) (hbp : BP (ls.map plM)) (hkz : Holds w.heap.size w zs) (hbz : BZ zs) : Calls Try.prog 10 #[v, .int .i64 tz, d] w (MlR (postL (ls.map plM) tz (textsZ zs)) w) := by
  have hmx : Try.prog.follows .mixedOrders = true := by kernel_rfl
  have HEl := Lib.hid (fun k x (hx : ls[k]? = some x) => hl.elem mlc_len hx Try.underlying22 (fun W => by kernel_rfl))
  obtain ⟨pl, cl, rfl⟩ := hl.slice
  have HLl := Lib.hid hl
  have HHl := Lib.hid hhi
  have HLENl := Lib.hid (show ls.length ≤ 9223372036854775807 from by have h := hl.len; unfold maxLen at h; omega)
  clear hl hhi
  have HEz := Lib.hid (fun k x (hx : zs[k]? = some x) => hz.elem zsc_len hx Try.underlying23 (fun W => by kernel_rfl))
  obtain ⟨pz, cz, rfl⟩ := hz.slice
  have HLz := Lib.hid hz
  have HHz := Lib.hid hhz
  have HLENz := Lib.hid (show zs.length ≤ 9223372036854775807 from by have h := hz.len; unfold maxLen at h; omega)
  clear hz hhz 
  have HR := Lib.hid hr
  have HKK := Lib.hid hkk
  have HBP := Lib.hid hbp
  have HKZ := Lib.hid hkz
  have HBZ := Lib.hid hbz
  clear hr hkk hbp hkz hbz
  have hM := Sep.start w
  go_enter Try.func10, Try.ntmps10
  go_upto_region 0 with fail
  refine wp_region_fromM (fun W => Sep w [] [] W) hM ?_
  clear hM
  rintro Y1 hM
  refine tF 1 [.val 0 (some 6) (.slice none 0 0)] trivial ?_
  refine dF ?_
  try simp only [puts, Tk.put, Act.put, List.setIfInBounds_toArray, List.set_cons_zero, List.set_cons_succ]
  go_upto_region 1 with fail
  refine wp_region_fromM (fun W => Sep w [] [] W) hM ?_
  clear hM
  rintro Y2 hM
  refine tF 1 [.val 0 (some 10) (.slice pl ls.length cl)] trivial ?_
  refine cF (some 11) 18 #[.slice pl ls.length cl] ((clipMl_any _ (HLl.out.below hM.b HHl.out)).mono ?_)
  rintro e Y3 ⟨rfl, rfl⟩
  refine tF 3 [.val 2 (some 7) (.slice pl ls.length ls.length)] trivial ?_
  refine dF ?_
  try simp only [puts, Tk.put, Act.put, List.setIfInBounds_toArray, List.set_cons_zero, List.set_cons_succ]
  go_upto_region 2 with fail
  refine wp_region_fromM (fun W => Sep w [] [] W) hM ?_
  clear hM
  rintro Y4 hM
  refine tF 3 [.val 0 (some 12) (.slice pz zs.length cz), .val 1 (some 13) (.int .i64 (zs.length : Int)), .val 2 (some 14) (.int .i64 0)] trivial ?_
  refine dF ?_
  try simp only [puts, Tk.put, Act.put, List.setIfInBounds_toArray, List.set_cons_zero, List.set_cons_succ]
  go_wp2_with fail
  go_loopw [14, 7] (fun i u7 wr => ∃ j : Nat, j ≤ zs.length ∧ i = .int .i64 (j : Int) ∧ ((j = 0 ∧ u7 = .slice pl ls.length ls.length ∧ Sep w [] [] wr) ∨ (0 < j ∧ Sep w [] [.own mlc 27 2 u7 (ls ++ (zs.take j).map (mkM tz))] wr))) (fun i u7 _ => zs.length - (intOf i).toNat)
  case atStart => exact ⟨0, Nat.zero_le _, rfl, .inl ⟨rfl, rfl, hM⟩⟩
  clear hM
  case round =>
    obtain ⟨j, hj, rfl, hway⟩ := hrel
    by_cases hlt : j < zs.length
    case pos =>
      have HJ := Lib.hid hlt
      have hlt' : (j : Int) < (zs.length : Int) := by omega
      have HLT := Lib.hid hlt'
      clear hlt'
      obtain ⟨z, hx⟩ : ∃ z, zs[j]? = some z := ⟨_, List.getElem?_eq_getElem hlt⟩
      obtain ⟨bz, oz, _, _, hit, hct⟩ := HEz.out j z hx
      have HXz := Lib.hid hx
      have HIz := Lib.hid hit
      have HCz := Lib.hid hct
      clear hx hit hct
      clear hlt
      rcases hway with ⟨hj0, rfl, hM⟩ | ⟨hj0, hM⟩
      case inl =>
        have HJ0 := Lib.hid hj0
        clear hj0
        go_upto_region 3 with fail
        refine wp_region_fromM (fun W => Sep w [] [] W) hM ?_
        clear hM
        rintro Y5 hM
        refine tF 1 [.alt 0 (some 15) (.bool (decide ((j : Int) < (zs.length : Int)))) (.bool true)] ⟨congrArg Value.bool (decide_eq_true HLT.out), trivial⟩ ?_
        refine dF ?_
        try simp only [puts, Tk.put, Act.put, List.setIfInBounds_toArray, List.set_cons_zero, List.set_cons_succ]
        go_upto_region 4 with fail
        refine wp_region_fromM (fun W => Sep w [] [] W) hM ?_
        clear hM
        rintro Y6 hM
        refine tF 3 [.idx 0 (some 16) 23 (.slice pz zs.length cz) (.int .i64 (j : Int)) (pt bz oz), .load 1 (some 17) 25 (pt bz oz) (.slice z.a z.l.length z.c), .val 2 (some 9) (.slice z.a z.l.length z.c)] ⟨HIz.out _, ld_cell _ _ Try.underlying25 rfl (HCz.out _ (HLz.out.below hM.b HHz.out) 0 _ rfl), trivial⟩ ?_
        refine dF ?_
        try simp only [puts, Tk.put, Act.put, List.setIfInBounds_toArray, List.set_cons_zero, List.set_cons_succ]
        go_upto_region 5 with fail
        refine wp_region_fromM (fun W => Sep w [] [] W) hM ?_
        clear hM
        rintro Y7 hM
        refine tF 4 [.val 0 (some 18) (.slice pl ls.length ls.length), .val 1 (some 19) (.int .i64 tz), .val 2 (some 20) (.slice z.a z.l.length z.c), .val 3 (some 21) (mlv (Ml.mk tz z.a z.c z.l))] trivial ?_
        refine rF (some 22) (.slice (some ⟨Y7.heap.size, 0, none⟩) 1 1) (Y7.alloc (.cells (mlc (Ml.mk tz z.a z.c z.l)).toArray 27)) ?_
        replace hM := hM.alloc 27 (mlc (Ml.mk tz z.a z.c z.l))
        generalize World.alloc _ _ = Y8 at *
        generalize hNe : Y7.heap.size = N8 at *
        clear hNe
        obtain ⟨v8, Y9, hrun, hO, hb⟩ := arg_clip1 infoMl rfl (by decide) Try.underlying22 mlc_len mlc_one (HLl.out.below hM.b HHl.out) (Ml.mk tz z.a z.c z.l) (hM.at 0 rfl) (by decide) (by have h := HR.out; have h2 := HJ.out; omega) 22
        replace hM := hM.row (f := mlc) (x := ls ++ [Ml.mk tz z.a z.c z.l]) hO hb
        refine wpFrom_append (d := some 23) (t := 22) (t' := 22) (ty := 22) (v := .slice pl ls.length ls.length) (x := .slice (some ⟨N8, 0, none⟩) 1 1) (by kernel_rfl) hrun ?_
        clear hrun hO hb
        refine tF 7 [.val 6 (some 7) (v8)] trivial ?_
        refine dF ?_
        try simp only [puts, Tk.put, Act.put, List.setIfInBounds_toArray, List.set_cons_zero, List.set_cons_succ]
        go_upto_region 6 with fail
        refine wp_region_fromM (fun W => Sep w [] [.own mlc 27 2 (v8) (ls ++ [Ml.mk tz z.a z.c z.l]), .blk N8 27 (mlc (Ml.mk tz z.a z.c z.l))] W) hM ?_
        clear hM
        rintro Y10 hM
        refine tF 2 [.alt 0 (some 24) (.int .i64 (IntKind.i64.wrap ((j : Int) + 1))) (.int .i64 ((j + 1 : Nat) : Int)), .val 1 (some 14) (.int .i64 ((j + 1 : Nat) : Int))] ⟨congrArg (Value.int .i64) ((IntWalk.i64_in _ (by have := HLENz.out; have := HJ.out; omega)).trans (by omega)), trivial⟩ ?_
        refine dF ?_
        try simp only [puts, Tk.put, Act.put, List.setIfInBounds_toArray, List.set_cons_zero, List.set_cons_succ]
        have HM1 : Hid (Sep w [] [.own mlc 27 2 (v8) (ls ++ [Ml.mk tz z.a z.c z.l])] Y10) := Lib.hid (hM.pick [0] (by decide) rfl)
        clear hM
        go_wp2_with fail
        go_roundw
        case rel => exact ⟨j + 1, HJ.out, rfl, .inr ⟨Nat.succ_pos _, by rw [← mk_first HXz.out HJ0.out]; exact HM1.out⟩⟩
        case measure => have := HJ.out; simp [intOf]; omega
      case inr =>
        have HJ0 := Lib.hid hj0
        clear hj0
        go_upto_region 3 with fail
        refine wp_region_fromM (fun W => Sep w [] [.own mlc 27 2 (u7) (ls ++ (zs.take j).map (mkM tz))] W) hM ?_
        clear hM
        rintro Y11 hM
        refine tF 1 [.alt 0 (some 15) (.bool (decide ((j : Int) < (zs.length : Int)))) (.bool true)] ⟨congrArg Value.bool (decide_eq_true HLT.out), trivial⟩ ?_
        refine dF ?_
        try simp only [puts, Tk.put, Act.put, List.setIfInBounds_toArray, List.set_cons_zero, List.set_cons_succ]
        go_upto_region 4 with fail
        refine wp_region_fromM (fun W => Sep w [] [.own mlc 27 2 (u7) (ls ++ (zs.take j).map (mkM tz))] W) hM ?_
        clear hM
        rintro Y12 hM
        refine tF 3 [.idx 0 (some 16) 23 (.slice pz zs.length cz) (.int .i64 (j : Int)) (pt bz oz), .load 1 (some 17) 25 (pt bz oz) (.slice z.a z.l.length z.c), .val 2 (some 9) (.slice z.a z.l.length z.c)] ⟨HIz.out _, ld_cell _ _ Try.underlying25 rfl (HCz.out _ (HLz.out.below hM.b HHz.out) 0 _ rfl), trivial⟩ ?_
        refine dF ?_
        try simp only [puts, Tk.put, Act.put, List.setIfInBounds_toArray, List.set_cons_zero, List.set_cons_succ]
        go_upto_region 5 with fail
        refine wp_region_fromM (fun W => Sep w [] [.own mlc 27 2 (u7) (ls ++ (zs.take j).map (mkM tz))] W) hM ?_
        clear hM
        rintro Y13 hM
        refine tF 4 [.val 0 (some 18) (u7), .val 1 (some 19) (.int .i64 tz), .val 2 (some 20) (.slice z.a z.l.length z.c), .val 3 (some 21) (mlv (Ml.mk tz z.a z.c z.l))] trivial ?_
        refine rF (some 22) (.slice (some ⟨Y13.heap.size, 0, none⟩) 1 1) (Y13.alloc (.cells (mlc (Ml.mk tz z.a z.c z.l)).toArray 27)) ?_
        replace hM := hM.alloc 27 (mlc (Ml.mk tz z.a z.c z.l))
        generalize World.alloc _ _ = Y14 at *
        generalize hNe : Y13.heap.size = N14 at *
        clear hNe
        obtain ⟨v15, Y15, hrun, ht⟩ := own_app1 infoMl rfl (by decide) Try.underlying22 mlc_len mlc_one (hM.oka 1 rfl) (Ml.mk tz z.a z.c z.l) (hM.at 0 rfl) (by decide) (by rw [List.length_append, List.length_map, List.length_take]; have h := HR.out; have h2 := HJ.out; omega) 22
        replace hM := hM.turn 1 rfl ht rfl
        clear ht
        refine wpFrom_append (d := some 23) (t := 22) (t' := 22) (ty := 22) (v := u7) (x := .slice (some ⟨N14, 0, none⟩) 1 1) (by kernel_rfl) hrun ?_
        clear hrun
        refine tF 7 [.val 6 (some 7) (v15)] trivial ?_
        refine dF ?_
        try simp only [puts, Tk.put, Act.put, List.setIfInBounds_toArray, List.set_cons_zero, List.set_cons_succ]
        go_upto_region 6 with fail
        refine wp_region_fromM (fun W => Sep w [] [.blk N14 27 (mlc (Ml.mk tz z.a z.c z.l)), .own mlc 27 2 (v15) ((ls ++ (zs.take j).map (mkM tz)) ++ [Ml.mk tz z.a z.c z.l])] W) hM ?_
        clear hM
        rintro Y16 hM
        refine tF 2 [.alt 0 (some 24) (.int .i64 (IntKind.i64.wrap ((j : Int) + 1))) (.int .i64 ((j + 1 : Nat) : Int)), .val 1 (some 14) (.int .i64 ((j + 1 : Nat) : Int))] ⟨congrArg (Value.int .i64) ((IntWalk.i64_in _ (by have := HLENz.out; have := HJ.out; omega)).trans (by omega)), trivial⟩ ?_
        refine dF ?_
        try simp only [puts, Tk.put, Act.put, List.setIfInBounds_toArray, List.set_cons_zero, List.set_cons_succ]
        have HM1 : Hid (Sep w [] [.own mlc 27 2 (v15) ((ls ++ (zs.take j).map (mkM tz)) ++ [Ml.mk tz z.a z.c z.l])] Y16) := Lib.hid (hM.pick [1] (by decide) rfl)
        clear hM
        go_wp2_with fail
        go_roundw
        case rel => exact ⟨j + 1, HJ.out, rfl, .inr ⟨Nat.succ_pos _, by rw [← mk_step HXz.out]; exact HM1.out⟩⟩
        case measure => have := HJ.out; simp [intOf]; omega
    case neg =>
      obtain rfl : j = zs.length := by omega
      rcases hway with ⟨hj0, rfl, hM⟩ | ⟨hj0, hM⟩
      case inl =>
        have HJ0 := Lib.hid hj0
        clear hj0
        have HA := Lib.hid (show RSl mlc lo hi w (.slice pl ls.length ls.length) (ls ++ zs.map (mkM tz)) from by rw [show zs = [] from List.length_eq_zero_iff.1 HJ0.out, List.map_nil, List.append_nil]; exact HLl.out.clip)
        go_upto_region 3 with fail
        refine wp_region_fromM (fun W => Sep w [] [] W) hM ?_
        clear hM
        rintro Y17 hM
        refine tF 1 [.alt 0 (some 15) (.bool (decide ((zs.length : Int) < (zs.length : Int)))) (.bool false)] ⟨congrArg Value.bool (decide_eq_false (by omega)), trivial⟩ ?_
        refine dF ?_
        try simp only [puts, Tk.put, Act.put, List.setIfInBounds_toArray, List.set_cons_zero, List.set_cons_succ]
        go_upto_region 7 with fail
        refine wp_region_fromM (fun W => Sep w [] [] W) hM ?_
        clear hM
        rintro Y18 hM
        refine tF 1 [.val 0 (some 25) (.slice pl ls.length ls.length)] trivial ?_
        refine cF (some 26) 15 #[.func (.func 19) #[] #[], .slice pl ls.length ls.length] ((whUpto_any (ls ++ zs.map (mkM tz)) _ _ (HA.out.below hM.b HHl.out) (Nat.le_trans HHl.out hM.size) (by rw [List.length_append, List.length_map]; exact HR.out) (hold_mk tz (HKK.out.up hM.b) (HKZ.out.up hM.b)) (bp_mk tz HBP.out HBZ.out)).mono ?_)
        rintro e Y19 ⟨v19m, ms19, rfl, he19, hR⟩
        have HE19 := Lib.hid he19
        replace hM := hM.gain2 hR
        clear hR he19
        obtain ⟨pv19m, cv19m, rfl⟩ := (hM.oka 0 rfl).slice mlc_len
        refine tF 3 [.val 2 (some 6) (.slice pv19m ms19.length cv19m)] trivial ?_
        refine dF ?_
        try simp only [puts, Tk.put, Act.put, List.setIfInBounds_toArray, List.set_cons_zero, List.set_cons_succ]
        have he := HE19.out
        rw [post_eq] at he
        go_wp2_with fail
        go_ret
        exact ⟨_, _, rfl, he, hM.sub (l' := [.own mlc 27 2 (.slice pv19m ms19.length cv19m) (ms19), .ows (zsM ms19)]) (List.Sublist.cons_cons _ (List.Sublist.cons_cons _ (List.nil_sublist _)))⟩
      case inr =>
        have HJ0 := Lib.hid hj0
        clear hj0
        rw [List.take_length] at hM
        go_upto_region 3 with fail
        refine wp_region_fromM (fun W => Sep w [] [.own mlc 27 2 (u7) (ls ++ zs.map (mkM tz))] W) hM ?_
        clear hM
        rintro Y21 hM
        refine tF 1 [.alt 0 (some 15) (.bool (decide ((zs.length : Int) < (zs.length : Int)))) (.bool false)] ⟨congrArg Value.bool (decide_eq_false (by omega)), trivial⟩ ?_
        refine dF ?_
        try simp only [puts, Tk.put, Act.put, List.setIfInBounds_toArray, List.set_cons_zero, List.set_cons_succ]
        go_upto_region 7 with fail
        refine wp_region_fromM (fun W => Sep w [] [.own mlc 27 2 (u7) (ls ++ zs.map (mkM tz))] W) hM ?_
        clear hM
        rintro Y22 hM
        refine tF 1 [.val 0 (some 25) (u7)] trivial ?_
        refine cF (some 26) 15 #[.func (.func 19) #[] #[], u7] ((whUpto_any (ls ++ zs.map (mkM tz)) _ _ ((hM.oka 0 rfl).rsl mlc_len) (Nat.le_refl _) (by rw [List.length_append, List.length_map]; exact HR.out) (hold_mk tz (HKK.out.up hM.b) (HKZ.out.up hM.b)) (bp_mk tz HBP.out HBZ.out)).mono ?_)
        rintro e Y23 ⟨v23m, ms23, rfl, he23, hR⟩
        have HE23 := Lib.hid he23
        replace hM := hM.gain2 hR
        clear hR he23
        obtain ⟨pv23m, cv23m, rfl⟩ := (hM.oka 0 rfl).slice mlc_len
        refine tF 3 [.val 2 (some 6) (.slice pv23m ms23.length cv23m)] trivial ?_
        refine dF ?_
        try simp only [puts, Tk.put, Act.put, List.setIfInBounds_toArray, List.set_cons_zero, List.set_cons_succ]
        have he := HE23.out
        rw [post_eq] at he
        go_wp2_with fail
        go_ret
        exact ⟨_, _, rfl, he, hM.sub (l' := [.own mlc 27 2 (.slice pv23m ms23.length cv23m) (ms23), .ows (zsM ms23)]) (List.Sublist.cons_cons _ (List.Sublist.cons_cons _ (List.nil_sublist _)))⟩
set_option maxRecDepth 100000 in
set_option maxHeartbeats 4000000 in
theorem for_any (ls : List Ml) (z : Int) (w : World) {lo hi : Nat} {v : Value} (hl : RSl mlc lo hi w v ls) (hhi : hi ≤ w.heap.size) (hr : ls.length ≤ 1000) (hkk : Holds w.heap.size w (zsM ls)) (hbp : BP (ls.map plM)) : Calls Try.prog 11 #[v, .int .i64 z] w (MlR (selG (fun _ m => (m.1 == z)) 0 (ls.map plM)) w) := by
  have hmx : Try.prog.follows .mixedOrders = true := by kernel_rfl
  have HEl := Lib.hid (fun k x (hx : ls[k]? = some x) => hl.elem mlc_len hx Try.underlying22 (fun W => by kernel_rfl))
  obtain ⟨pl, cl, rfl⟩ := hl.slice
  have HLl := Lib.hid hl
  have HHl := Lib.hid hhi
  have HLENl := Lib.hid (show ls.length ≤ 9223372036854775807 from by have h := hl.len; unfold maxLen at h; omega)
  clear hl hhi
  have HR := Lib.hid hr
  have HKK := Lib.hid hkk
  have HBP := Lib.hid hbp
  clear hr hkk hbp
  have hM := Sep.start w
  go_enter Try.func11, Try.ntmps11
  go_upto_region 0 with fail
  refine wp_region_fromM (fun W => Sep w [] [] W) hM ?_
  clear hM
  rintro Y1 hM
  refine rF (some 3) (pt Y1.heap.size 0) (Y1.alloc (.cells ([.int .i64 z]).toArray 3)) ?_
  replace hM := hM.alloc 3 ([.int .i64 z])
  generalize World.alloc _ _ = Y2 at *
  generalize hNe : Y1.heap.size = N2 at *
  clear hNe
  refine tF 2 [.val 1 (some 4) (.slice none 0 0)] trivial ?_
  refine dF ?_
  try simp only [puts, Tk.put, Act.put, List.setIfInBounds_toArray, List.set_cons_zero, List.set_cons_succ]
  go_upto_region 1 with fail
  refine wp_region_fromM (fun W => Sep w [] [.blk N2 3 ([.int .i64 z])] W) hM ?_
  clear hM
  rintro Y3 hM
  refine tF 2 [.val 0 (some 5) (.func (.func 20) #[] #[pt N2 0]), .val 1 (some 6) (.slice pl ls.length cl)] trivial ?_
  refine cF (some 7) 15 #[.func (.func 20) #[] #[pt N2 0], .slice pl ls.length cl] ((whFor_any ls _ _ (HLl.out.below hM.b HHl.out) (Nat.le_trans HHl.out hM.size) HR.out (HKK.out.up hM.b) HBP.out (hM.at 0 rfl)).mono ?_)
  rintro e Y4 ⟨v4m, ms4, rfl, he4, hR⟩
  have HE4 := Lib.hid he4
  replace hM := hM.gain2 hR
  clear hR he4
  obtain ⟨pv4m, cv4m, rfl⟩ := (hM.oka 0 rfl).slice mlc_len
  refine tF 4 [.val 3 (some 4) (.slice pv4m ms4.length cv4m)] trivial ?_
  refine dF ?_
  try simp only [puts, Tk.put, Act.put, List.setIfInBounds_toArray, List.set_cons_zero, List.set_cons_succ]
  go_wp2_with fail
  go_ret
  exact ⟨_, _, rfl, HE4.out, hM.sub (l' := [.own mlc 27 2 (.slice pv4m ms4.length cv4m) (ms4), .ows (zsM ms4)]) (List.Sublist.cons_cons _ (List.Sublist.cons_cons _ (List.nil_sublist _)))⟩
/-- What is taken, and the others. -/
def TkR (q : List (Int × List UInt8)) (y : Int × List UInt8) (n : Nat) (w : World) (e : Ending) (W' : World) : Prop := ∃ m v ms, e = .returned (.tuple #[mlv m, v, .bool true]) ∧ plM m = y ∧ ms.map plM = q.take n ++ q.drop (n + 1) ∧ Sep w [] [.own mlc 27 2 v ms, .ows (zsM ms), .ows (zsM [m])] W'
set_option maxRecDepth 100000 in
set_option maxHeartbeats 4000000 in
theorem take_any (ls : List Ml) (z : Int) (x : Ml) (w : World) {lo hi : Nat} {v : Value} (hl : RSl mlc lo hi w v ls) (hhi : hi ≤ w.heap.size) (hr : ls.length ≤ 1000) (hkk : Holds w.heap.size w (zsM ls)) (hbp : BP (ls.map plM)) (hx : ls[plcN z ls.length]? = some x) : Calls Try.prog 8 #[v, .int .i64 z] w (TkR (ls.map plM) (plM x) (plcN z ls.length) w) := by
  have hmx : Try.prog.follows .mixedOrders = true := by kernel_rfl
  have HEl := Lib.hid (fun k x (hx : ls[k]? = some x) => hl.elem mlc_len hx Try.underlying22 (fun W => by kernel_rfl))
  obtain ⟨pl, cl, rfl⟩ := hl.slice
  have HLl := Lib.hid hl
  have HHl := Lib.hid hhi
  have HLENl := Lib.hid (show ls.length ≤ 9223372036854775807 from by have h := hl.len; unfold maxLen at h; omega)
  clear hl hhi
  have HR := Lib.hid hr
  have HKK := Lib.hid hkk
  have HBP := Lib.hid hbp
  clear hr hkk hbp
  have HPOS := Lib.hid (show 0 < ls.length ∧ ls.length ≤ 1048576 from ⟨by have h := (List.getElem?_eq_some_iff.1 hx).1; omega, by have h := HR.out; omega⟩)
  have HXX := Lib.hid hx
  clear hx
  have hM := Sep.start w
  go_enter Try.func8, Try.ntmps8
  go_upto_region 0 with fail
  refine wp_region_fromM (fun W => Sep w [] [] W) hM ?_
  clear hM
  rintro Y1 hM
  refine rF (some 4) (pt Y1.heap.size 0) (Y1.alloc (.cells (mlc noMl).toArray 27)) ?_
  replace hM := hM.alloc 27 (mlc noMl)
  generalize World.alloc _ _ = Y2 at *
  generalize hNe : Y1.heap.size = N2 at *
  clear hNe
  refine tF 3 [.val 1 (some 5) (.slice none 0 0), .val 2 (some 6) (.bool false)] trivial ?_
  refine dF ?_
  try simp only [puts, Tk.put, Act.put, List.setIfInBounds_toArray, List.set_cons_zero, List.set_cons_succ]
  go_upto_region 1 with fail
  refine wp_region_fromM (fun W => Sep w [] [.blk N2 27 (mlc noMl)] W) hM ?_
  clear hM
  rintro Y3 hM
  refine tF 3 [.val 0 (some 10) (.slice pl ls.length cl), .val 1 (some 11) (.int .i64 (ls.length : Int)), .alt 2 (some 12) (.bool ((ls.length : Int) == 0)) (.bool false)] ⟨congrArg Value.bool (beq_eq_false_iff_ne.2 (by have h := HPOS.out; omega)), trivial⟩ ?_
  refine dF ?_
  try simp only [puts, Tk.put, Act.put, List.setIfInBounds_toArray, List.set_cons_zero, List.set_cons_succ]
  go_upto_region 3 with fail
  refine wp_region_fromM (fun W => Sep w [] [.blk N2 27 (mlc noMl)] W) hM ?_
  clear hM
  rintro Y4 hM
  refine tF 3 [.val 0 (some 14) (.int .i64 z), .val 1 (some 15) (.slice pl ls.length cl), .val 2 (some 16) (.int .i64 (ls.length : Int))] trivial ?_
  refine cF (some 17) 14 #[.int .i64 z, .int .i64 (ls.length : Int)] ((place_any z ls.length (HPOS.out) _).mono ?_)
  rintro e Y5 ⟨rfl, hb⟩
  replace hM := hM.below hb
  clear hb
  refine rF (some 7) (pt Y5.heap.size 0) (Y5.alloc (.cells ([.int .i64 0]).toArray 3)) ?_
  replace hM := hM.alloc 3 ([.int .i64 0])
  generalize World.alloc _ _ = Y6 at *
  generalize hNe : Y5.heap.size = N6 at *
  clear hNe
  have hst := sto_part ([.int .i64 (plcN z ls.length : Int)]) (hM.at 0 rfl) 0 3 (.int .i64 (plcN z ls.length : Int)) ([.int .i64 (plcN z ls.length : Int)]) rfl (by kernel_rfl) (Nat.le_of_ble_eq_true rfl) rfl rfl
  refine sF 3 (pt N6 0) (.int .i64 (plcN z ls.length : Int)) (hst) ?_
  clear hst
  replace hM := hM.set 0 (cs' := [.int .i64 (plcN z ls.length : Int)]) rfl rfl
  generalize World.setRow _ _ _ = Y7 at *
  refine dF ?_
  try simp only [puts, Tk.put, Act.put, List.setIfInBounds_toArray, List.set_cons_zero, List.set_cons_succ]
  go_upto_region 4 with fail
  refine wp_region_fromM (fun W => Sep w [] [.blk N6 3 ([.int .i64 (plcN z ls.length : Int)]), .blk N2 27 (mlc noMl)] W) hM ?_
  clear hM
  rintro Y8 hM
  refine tF 2 [.val 0 (some 18) (.func (.func 16) #[] #[pt N6 0]), .val 1 (some 19) (.slice pl ls.length cl)] trivial ?_
  refine cF (some 20) 15 #[.func (.func 16) #[] #[pt N6 0], .slice pl ls.length cl] ((whAt_any ls _ _ (HLl.out.below hM.b HHl.out) (Nat.le_trans HHl.out hM.size) HR.out (HKK.out.up hM.b) HBP.out (hM.at 0 rfl)).mono ?_)
  rintro e Y9 ⟨v9m, ms9, rfl, he9, hR⟩
  have HE9 := Lib.hid he9
  replace hM := hM.gain2 hR
  clear hR he9
  obtain ⟨pv9m, cv9m, rfl⟩ := (hM.oka 0 rfl).slice mlc_len
  refine tF 4 [.val 3 (some 8) (.slice pv9m ms9.length cv9m)] trivial ?_
  refine dF ?_
  try simp only [puts, Tk.put, Act.put, List.setIfInBounds_toArray, List.set_cons_zero, List.set_cons_succ]
  obtain ⟨m, hm1, hm2⟩ := mone_of (HE9.out.trans (sel_one (show (ls.map plM)[plcN z ls.length]? = some (plM x) from by rw [List.getElem?_map, HXX.out]; rfl)))
  have HM0 := Lib.hid hm1
  have HM2 := Lib.hid hm2
  clear hm1 hm2
  go_upto_region 5 with fail
  refine wp_region_fromM (fun W => Sep w [] [.own mlc 27 2 (.slice pv9m ms9.length cv9m) (ms9), .ows (zsM ms9), .blk N6 3 ([.int .i64 (plcN z ls.length : Int)]), .blk N2 27 (mlc noMl)] W) hM ?_
  clear hM
  rintro Y11 hM
  refine tF 2 [.val 0 (some 21) (.func (.func 17) #[] #[pt N6 0]), .val 1 (some 22) (.slice pl ls.length cl)] trivial ?_
  refine cF (some 23) 15 #[.func (.func 17) #[] #[pt N6 0], .slice pl ls.length cl] ((whBut_any ls _ _ (HLl.out.below hM.b HHl.out) (Nat.le_trans HHl.out hM.size) HR.out (HKK.out.up hM.b) HBP.out (hM.at 2 rfl)).mono ?_)
  rintro e Y12 ⟨v12m, ms12, rfl, he12, hR⟩
  have HE12 := Lib.hid he12
  replace hM := hM.gain2 hR
  clear hR he12
  obtain ⟨pv12m, cv12m, rfl⟩ := (hM.oka 0 rfl).slice mlc_len
  refine tF 4 [.val 3 (some 9) (.slice pv12m ms12.length cv12m)] trivial ?_
  refine dF ?_
  try simp only [puts, Tk.put, Act.put, List.setIfInBounds_toArray, List.set_cons_zero, List.set_cons_succ]
  go_upto_region 6 with fail
  obtain ⟨bt, ot, hit, hct⟩ := (hM.oka 2 rfl).elem mlc_len (show ms9[0]? = some m from by rw [HM0.out]; rfl) Try.underlying22 (fun W => by kernel_rfl)
  have HIt := Lib.hid hit
  have HCt := Lib.hid hct
  clear hit hct
  refine wp_region_fromM (fun W => Sep w [] [.own mlc 27 2 (.slice pv12m ms12.length cv12m) (ms12), .ows (zsM ms12), .own mlc 27 2 (.slice pv9m ms9.length cv9m) (ms9), .ows (zsM ms9), .blk N6 3 ([.int .i64 (plcN z ls.length : Int)]), .blk N2 27 (mlc noMl)] W) hM ?_
  clear hM
  rintro Y14 hM
  refine tF 4 [.val 0 (some 24) (.slice pv9m ms9.length cv9m), .idx 1 (some 25) 22 (.slice pv9m ms9.length cv9m) (.int .i64 0) (pt bt ot), .load 2 (some 26) 27 (pt bt ot) (mlv m), .val 3 (some 27) (.slice pv12m ms12.length cv12m)] ⟨HIt.out _, ld_cells (mlc m) _ _ Try.underlying27 rfl (by kernel_rfl) (HCt.out _ (hM.oka 2 rfl)), trivial⟩ ?_
  have hst := sto_part (mlc m) (hM.at 5 rfl) 0 27 (mlv m) (mlc m) rfl (by kernel_rfl) (Nat.le_of_ble_eq_true rfl) rfl rfl
  refine sF 27 (pt N2 0) (mlv m) (hst) ?_
  clear hst
  replace hM := hM.set 5 (cs' := mlc m) rfl rfl
  generalize World.setRow _ _ _ = Y15 at *
  refine tF 7 [.val 5 (some 5) (.slice pv12m ms12.length cv12m), .val 6 (some 6) (.bool true)] trivial ?_
  refine dF ?_
  try simp only [puts, Tk.put, Act.put, List.setIfInBounds_toArray, List.set_cons_zero, List.set_cons_succ]
  have hF : Sep w [] [.own mlc 27 2 (.slice pv12m ms12.length cv12m) (ms12), .ows (zsM ms12), .ows (zsM ms9)] _ := hM.pick [0, 1, 3] (by decide) rfl
  rw [HM0.out] at hF
  go_wp2_with fail
  exact bodyPost_ret (v := .tuple #[mlv m, .slice pv12m ms12.length cv12m, .bool true]) (res_three rfl _ rfl rfl rfl (lv_ml (hM.at 5 rfl))) rfl ⟨m, _, ms12, rfl, HM2.out, HE12.out.trans (sel_rest _ _), hF⟩
set_option maxRecDepth 100000 in
set_option maxHeartbeats 4000000 in
theorem twin_any (ls : List Ml) (z : Int) (x : Ml) (w : World) {lo hi : Nat} {v : Value} (hl : RSl mlc lo hi w v ls) (hhi : hi ≤ w.heap.size) (hr : ls.length ≤ 999) (hkk : Holds w.heap.size w (zsM ls)) (hbp : BP (ls.map plM)) (hx : ls[plcN z ls.length]? = some x) : Calls Try.prog 13 #[v, .int .i64 z] w (MlR (postL (ls.map plM) x.fo [x.l]) w) := by
  have hmx : Try.prog.follows .mixedOrders = true := by kernel_rfl
  have HEl := Lib.hid (fun k x (hx : ls[k]? = some x) => hl.elem mlc_len hx Try.underlying22 (fun W => by kernel_rfl))
  obtain ⟨pl, cl, rfl⟩ := hl.slice
  have HLl := Lib.hid hl
  have HHl := Lib.hid hhi
  have HLENl := Lib.hid (show ls.length ≤ 9223372036854775807 from by have h := hl.len; unfold maxLen at h; omega)
  clear hl hhi
  have HR := Lib.hid hr
  have HKK := Lib.hid hkk
  have HBP := Lib.hid hbp
  clear hr hkk hbp
  have HPOS := Lib.hid (show 0 < ls.length ∧ ls.length ≤ 1048576 from ⟨by have h := (List.getElem?_eq_some_iff.1 hx).1; omega, by have h := HR.out; omega⟩)
  have HXX := Lib.hid hx
  clear hx
  have hM := Sep.start w
  have hlt : plcN z ls.length < ls.length := plc_lt z HPOS.out.1
  obtain ⟨y, hx⟩ : ∃ x, ls[(plcN z ls.length)]? = some x := ⟨_, List.getElem?_eq_getElem hlt⟩
  obtain ⟨bl, ol, _, _, hit, hct⟩ := HEl.out (plcN z ls.length) y hx
  have HXl := Lib.hid hx
  have HIl := Lib.hid hit
  have HCl := Lib.hid hct
  clear hx hit hct
  clear hlt
  obtain rfl : x = y := Option.some.inj (HXX.out.symm.trans HXl.out)
  go_enter Try.func13, Try.ntmps13
  go_upto_region 0 with fail
  refine wp_region_fromM (fun W => Sep w [] [] W) hM ?_
  clear hM
  rintro Y1 hM
  refine tF 1 [.val 0 (some 4) (.slice none 0 0)] trivial ?_
  refine dF ?_
  try simp only [puts, Tk.put, Act.put, List.setIfInBounds_toArray, List.set_cons_zero, List.set_cons_succ]
  go_upto_region 1 with fail
  refine wp_region_fromM (fun W => Sep w [] [] W) hM ?_
  clear hM
  rintro Y2 hM
  refine tF 3 [.val 0 (some 6) (.slice pl ls.length cl), .val 1 (some 7) (.int .i64 (ls.length : Int)), .alt 2 (some 8) (.bool ((ls.length : Int) == 0)) (.bool false)] ⟨congrArg Value.bool (beq_eq_false_iff_ne.2 (by have h := HPOS.out; omega)), trivial⟩ ?_
  refine dF ?_
  try simp only [puts, Tk.put, Act.put, List.setIfInBounds_toArray, List.set_cons_zero, List.set_cons_succ]
  go_upto_region 3 with fail
  refine wp_region_fromM (fun W => Sep w [] [] W) hM ?_
  clear hM
  rintro Y3 hM
  refine tF 4 [.val 0 (some 9) (.slice pl ls.length cl), .val 1 (some 10) (.int .i64 z), .val 2 (some 11) (.slice pl ls.length cl), .val 3 (some 12) (.int .i64 (ls.length : Int))] trivial ?_
  refine cF (some 13) 14 #[.int .i64 z, .int .i64 (ls.length : Int)] ((place_any z ls.length (HPOS.out) _).mono ?_)
  rintro e Y4 ⟨rfl, hb⟩
  replace hM := hM.below hb
  clear hb
  refine tF 7 [.idx 5 (some 14) 22 (.slice pl ls.length cl) (.int .i64 (plcN z ls.length : Int)) (pt bl ol), .load 6 (some 15) 27 (pt bl ol) (mlv x)] ⟨HIl.out _, ld_cells (mlc x) _ _ Try.underlying27 rfl (by kernel_rfl) (HCl.out _ (HLl.out.below hM.b HHl.out)), trivial⟩ ?_
  refine rF (some 5) (pt Y4.heap.size 0) (Y4.alloc (.cells (mlc noMl).toArray 27)) ?_
  replace hM := hM.alloc 27 (mlc noMl)
  generalize World.alloc _ _ = Y5 at *
  generalize hNe : Y4.heap.size = N5 at *
  clear hNe
  have hst := sto_part (mlc x) (hM.at 0 rfl) 0 27 (mlv x) (mlc x) rfl (by kernel_rfl) (Nat.le_of_ble_eq_true rfl) rfl rfl
  refine sF 27 (pt N5 0) (mlv x) (hst) ?_
  clear hst
  replace hM := hM.set 0 (cs' := mlc x) rfl rfl
  generalize World.setRow _ _ _ = Y6 at *
  refine dF ?_
  try simp only [puts, Tk.put, Act.put, List.setIfInBounds_toArray, List.set_cons_zero, List.set_cons_succ]
  go_upto_region 4 with fail
  refine wp_region_fromM (fun W => Sep w [] [.blk N5 27 (mlc x)] W) hM ?_
  clear hM
  rintro Y7 hM
  refine tF 5 [.val 0 (some 16) (.slice pl ls.length cl), .val 1 (some 17) (pt N5 0), .load 2 (some 18) 3 (pt N5 0) (.int .i64 x.fo), .val 3 (some 19) (pt N5 1), .load 4 (some 20) 25 (pt N5 1) (.slice x.a x.l.length x.c)] ⟨ld_any _ _ Try.underlying3 rfl (hM.at 0 rfl) 0 rfl, ld_any _ _ Try.underlying25 rfl (hM.at 0 rfl) 1 rfl, trivial⟩ ?_
  refine rF (some 21) (.slice (some ⟨Y7.heap.size, 0, none⟩) 1 1) (Y7.alloc (.cells ([.slice x.a x.l.length x.c]).toArray 25)) ?_
  replace hM := hM.alloc 25 ([.slice x.a x.l.length x.c])
  generalize World.alloc _ _ = Y8 at *
  generalize hNe : Y7.heap.size = N8 at *
  clear hNe
  refine cF (some 22) 10 #[.slice pl ls.length cl, .int .i64 x.fo, .slice (some ⟨N8, 0, none⟩) 1 1] ((post_any ls ([(⟨x.a, x.c, x.l⟩ : Zs)]) x.fo _ (HLl.out.below hM.b HHl.out) (Nat.le_trans HHl.out hM.size) (rsl_blk (f := zsc) (x := (⟨x.a, x.c, x.l⟩ : Zs)) (hM.at 0 rfl)) (Nat.le_refl _) (by have h := HR.out; simp; omega) (HKK.out.up hM.b) HBP.out (Holds.one (z := (⟨x.a, x.c, x.l⟩ : Zs)) (((HKK.out.ml HXX.out).below hM.b (Nat.le_refl _)).mono (Nat.le_refl _) hM.size)) (bz_one (z := (⟨x.a, x.c, x.l⟩ : Zs)) (HBP.out.ml HXX.out))).mono ?_)
  rintro e Y9 ⟨v9m, ms9, rfl, he9, hR⟩
  have HE9 := Lib.hid he9
  replace hM := hM.gain2 hR
  clear hR he9
  obtain ⟨pv9m, cv9m, rfl⟩ := (hM.oka 0 rfl).slice mlc_len
  refine tF 8 [.val 7 (some 4) (.slice pv9m ms9.length cv9m)] trivial ?_
  refine dF ?_
  try simp only [puts, Tk.put, Act.put, List.setIfInBounds_toArray, List.set_cons_zero, List.set_cons_succ]
  go_wp2_with fail
  go_ret
  exact ⟨_, _, rfl, HE9.out, hM.sub (l' := [.own mlc 27 2 (.slice pv9m ms9.length cv9m) (ms9), .ows (zsM ms9)]) (List.Sublist.cons_cons _ (List.Sublist.cons_cons _ (List.nil_sublist _)))⟩
set_option maxRecDepth 100000 in
set_option maxHeartbeats 4000000 in
theorem take_no (p : Option Addr) (c : Nat) (z : Int) (w : World) : Calls Try.prog 8 #[.slice p 0 c, .int .i64 z] w fun e W' => e = .returned (.tuple #[mlv noMl, .slice none 0 0, .bool false]) ∧ Below w.heap.size w W' := by
  have hmx : Try.prog.follows .mixedOrders = true := by kernel_rfl
  have hM := Sep.start w
  go_enter Try.func8, Try.ntmps8
  go_upto_region 0 with fail
  refine wp_region_fromM (fun W => Sep w [] [] W) hM ?_
  clear hM
  rintro Y1 hM
  refine rF (some 4) (pt Y1.heap.size 0) (Y1.alloc (.cells (mlc noMl).toArray 27)) ?_
  replace hM := hM.alloc 27 (mlc noMl)
  generalize World.alloc _ _ = Y2 at *
  generalize hNe : Y1.heap.size = N2 at *
  clear hNe
  refine tF 3 [.val 1 (some 5) (.slice none 0 0), .val 2 (some 6) (.bool false)] trivial ?_
  refine dF ?_
  try simp only [puts, Tk.put, Act.put, List.setIfInBounds_toArray, List.set_cons_zero, List.set_cons_succ]
  go_upto_region 1 with fail
  refine wp_region_fromM (fun W => Sep w [] [.blk N2 27 (mlc noMl)] W) hM ?_
  clear hM
  rintro Y3 hM
  refine tF 3 [.val 0 (some 10) (.slice p 0 c), .val 1 (some 11) (.int .i64 0), .val 2 (some 12) (.bool true)] trivial ?_
  refine dF ?_
  try simp only [puts, Tk.put, Act.put, List.setIfInBounds_toArray, List.set_cons_zero, List.set_cons_succ]
  go_upto_region 2 with fail
  refine wp_region_fromM (fun W => Sep w [] [.blk N2 27 (mlc noMl)] W) hM ?_
  clear hM
  rintro Y4 hM
  refine tF 1 [.val 0 (some 13) (mlv noMl)] trivial ?_
  have hst := sto_part (mlc noMl) (hM.at 0 rfl) 0 27 (mlv noMl) (mlc noMl) rfl (by kernel_rfl) (Nat.le_of_ble_eq_true rfl) rfl rfl
  refine sF 27 (pt N2 0) (mlv noMl) (hst) ?_
  clear hst
  replace hM := hM.set 0 (cs' := mlc noMl) rfl rfl
  generalize World.setRow _ _ _ = Y5 at *
  refine tF 4 [.val 2 (some 5) (.slice none 0 0), .val 3 (some 6) (.bool false)] trivial ?_
  refine dF ?_
  try simp only [puts, Tk.put, Act.put, List.setIfInBounds_toArray, List.set_cons_zero, List.set_cons_succ]
  go_wp2_with fail
  exact bodyPost_ret (v := .tuple #[mlv noMl, .slice none 0 0, .bool false]) (res_three rfl _ rfl rfl rfl (lv_ml (hM.at 0 rfl))) rfl ⟨rfl, hM.b⟩
set_option maxRecDepth 100000 in
set_option maxHeartbeats 4000000 in
theorem twin_no (p : Option Addr) (c : Nat) (z : Int) (w : World) : Calls Try.prog 13 #[.slice p 0 c, .int .i64 z] w fun e W' => e = .returned (.slice none 0 0) ∧ Below w.heap.size w W' := by
  have hmx : Try.prog.follows .mixedOrders = true := by kernel_rfl
  have hM := Sep.start w
  go_enter Try.func13, Try.ntmps13
  go_upto_region 0 with fail
  refine wp_region_fromM (fun W => Sep w [] [] W) hM ?_
  clear hM
  rintro Y1 hM
  refine tF 1 [.val 0 (some 4) (.slice none 0 0)] trivial ?_
  refine dF ?_
  try simp only [puts, Tk.put, Act.put, List.setIfInBounds_toArray, List.set_cons_zero, List.set_cons_succ]
  go_upto_region 1 with fail
  refine wp_region_fromM (fun W => Sep w [] [] W) hM ?_
  clear hM
  rintro Y2 hM
  refine tF 3 [.val 0 (some 6) (.slice p 0 c), .val 1 (some 7) (.int .i64 0), .val 2 (some 8) (.bool true)] trivial ?_
  refine dF ?_
  try simp only [puts, Tk.put, Act.put, List.setIfInBounds_toArray, List.set_cons_zero, List.set_cons_succ]
  go_upto_region 2 with fail
  refine wp_region_fromM (fun W => Sep w [] [] W) hM ?_
  clear hM
  rintro Y3 hM
  refine tF 1 [.val 0 (some 4) (.slice none 0 0)] trivial ?_
  refine dF ?_
  try simp only [puts, Tk.put, Act.put, List.setIfInBounds_toArray, List.set_cons_zero, List.set_cons_succ]
  go_wp2_with fail
  go_ret
  exact ⟨rfl, hM.b⟩
end Go.Proofs.Ytedoogoelolbdaa
