/-
  Scripts: a step's octets; Put
-/
import Derived.Test.YtemknjnljciioaaGreatK07
namespace Go.Proofs.YtemknjnljciioaaGreat
open Go.RowKit Go.Shelf
attribute [local irreducible] wpFrom wpAnyH StepH
theorem num1_any (n : Int) (w : World) : Calls Tryz.prog 18 #[.int .i64 n, .int .i64 1] w (ByO (octs (two n) 1) w) := numO_any n 1 (by decide) (by decide) w
theorem num2_any (n : Int) (w : World) : Calls Tryz.prog 18 #[.int .i64 n, .int .i64 2] w (ByO (octs (two n) 2) w) := numO_any n 2 (by decide) (by decide) w
theorem sum_fit {z : Int} (h : -32768 ≤ z ∧ z < 32768) : IntKind.i64.wrap (z + 32768) = z + 32768 := IntWalk.i64_in _ (by omega)
theorem sum_fit0 {z : Int} (h : 0 ≤ z ∧ z < 256) : IntKind.i64.wrap (z + 0) = z + 0 := IntWalk.i64_in _ (by omega)
theorem hd_le (s : Stp) : ∀ j, (hdP s j).length ≤ 2 * j
  | 0 => by simp [hdP]
  | 1 => by simp [hdP, octs_length, szP]
  | j + 2 => by
    have := hd_le s (j + 1)
    simp only [hdP, List.length_append, octs_length, szP] at this ⊢
    omega
theorem two_len (n : Nat) (h : n ≤ 1024) : two (n : Int) = n := two_natP rfl (by omega)
set_option maxRecDepth 100000 in
set_option maxHeartbeats 4000000 in
theorem octetsP_any (x : Sp) (w : World) (hok : OkP (plP x)) (hs : BSl 0 w.heap.size w (.slice x.ad x.l.length x.cp) x.l) : Calls Tryz.prog 9 #[spv x] w (ByW (octP (plP x)) w) := by
  have hmx : Tryz.prog.follows .mixedOrders = true := by kernel_rfl
  have HFB := Lib.hid (fit_bnd hok.1)
  have HLE := Lib.hid (show x.l.length ≤ 1024 from hok.2)
  have HS := Lib.hid hs
  clear hok hs
  have hM := Sep.start w
  go_enter Tryz.func9, Tryz.ntmps9
  go_upto_region 0 with fail
  refine wp_region_fromM (fun W => Sep w [] [] W) hM ?_
  clear hM
  rintro Y1 hM
  refine rF (some 1) (pt Y1.heap.size 0) (Y1.alloc (.cells (spc x).toArray 24)) ?_
  replace hM := hM.alloc 24 (spc x)
  generalize World.alloc _ _ = Y2 at *
  generalize hNe : Y1.heap.size = N2 at *
  clear hNe
  refine tF 2 [.val 1 (some 2) (.slice none 0 0)] trivial ?_
  refine dF ?_
  try simp only [puts, Tk.put, Act.put, List.setIfInBounds_toArray, List.set_cons_zero, List.set_cons_succ]
  go_upto_region 1 with fail
  refine wp_region_fromM (fun W => Sep w [] [.blk N2 24 (spc x)] W) hM ?_
  clear hM
  rintro Y3 hM
  refine tF 1 [.val 0 (some 3) (.slice none 0 0)] trivial ?_
  refine dF ?_
  try simp only [puts, Tk.put, Act.put, List.setIfInBounds_toArray, List.set_cons_zero, List.set_cons_succ]
  go_upto_region 2 with fail
  refine wp_region_fromM (fun W => Sep w [] [.blk N2 24 (spc x)] W) hM ?_
  clear hM
  rintro Y4 hM
  refine cF (some 6) 17 #[pt N2 0] ((numbers_any N2 _).mono ?_)
  rintro e Y5 ⟨rfl, hb⟩
  replace hM := hM.below hb
  clear hb
  refine tF 2 [.val 1 (some 7) (.int .i64 0)] trivial ?_
  refine dF ?_
  try simp only [puts, Tk.put, Act.put, List.setIfInBounds_toArray, List.set_cons_zero, List.set_cons_succ]
  replace hM := hM.nil ocM 5 1
  go_wp2_with fail
  go_loopw [7, 3] (fun i u3 wr => ∃ j : Nat, (j = 0 ∨ j = 1 ∨ j = 2 ∨ j = 3 ∨ j = 4) ∧ i = .int .i64 (j : Int) ∧ Sep w [] [.own ocM 5 1 (u3) (hdP (plP x) j), .blk N2 24 (spc x)] wr) (fun i u3 _ => 4 - (intOf i).toNat)
  case atStart => exact ⟨0, .inl rfl, rfl, hM⟩
  clear hM
  case round =>
    obtain ⟨j, hq, hi, hM⟩ := hrel
    rcases hq with rfl | rfl | rfl | rfl | rfl
    case inl =>
      replace hi : _ = Value.int .i64 0 := hi
      subst hi
      go_upto_region 3 with fail
      refine wp_region_fromM (fun W => Sep w [] [.own ocM 5 1 (u3) (hdP (plP x) 0), .blk N2 24 (spc x)] W) hM ?_
      clear hM
      rintro Y6 hM
      refine tF 1 [.val 0 (some 8) (.bool true)] trivial ?_
      refine dF ?_
      try simp only [puts, Tk.put, Act.put, List.setIfInBounds_toArray, List.set_cons_zero, List.set_cons_succ]
      go_upto_region 4 with fail
      refine wp_region_fromM (fun W => Sep w [] [.own ocM 5 1 (u3) (hdP (plP x) 0), .blk N2 24 (spc x)] W) hM ?_
      clear hM
      rintro Y7 hM
      refine tF 1 [.val 0 (some 9) (nbv (nb N2 0 1 0))] trivial ?_
      refine rF (some 5) (pt Y7.heap.size 0) (Y7.alloc (.cells (nbc noNb).toArray 49)) ?_
      replace hM := hM.alloc 49 (nbc noNb)
      generalize World.alloc _ _ = Y8 at *
      generalize hNe : Y7.heap.size = N8 at *
      clear hNe
      have hst := sto_part (nbc (nb N2 0 1 0)) (hM.at 0 rfl) 0 49 (nbv (nb N2 0 1 0)) (nbc (nb N2 0 1 0)) rfl (by kernel_rfl) (Nat.le_of_ble_eq_true rfl) rfl rfl
      refine sF 49 (pt N8 0) (nbv (nb N2 0 1 0)) (hst) ?_
      clear hst
      replace hM := hM.set 0 (cs' := nbc (nb N2 0 1 0)) rfl rfl
      generalize World.setRow _ _ _ = Y9 at *
      refine dF ?_
      try simp only [puts, Tk.put, Act.put, List.setIfInBounds_toArray, List.set_cons_zero, List.set_cons_succ]
      go_upto_region 5 with fail
      refine wp_region_M (fun W => Sep w [] [.blk N8 49 (nbc (nb N2 0 1 0)), .blk N2 24 (spc x)] W) (fun W => Sep w [] [.blk N8 49 (nbc (nb N2 0 1 0)), .own ocM 5 1 (u3) (hdP (plP x) 0), .blk N2 24 (spc x)] W) hmx hM.drew ?_
      clear hM
      rintro Y10 hM
      have hS := hM.sub (.cons_cons _ (.cons _ (.cons_cons _ .slnil)))
      refine tD 3 [.val 0 (some 10) (u3), .val 1 (some 11) (pt N8 0), .load 2 (some 12) 47 (pt N8 0) (pt N2 0), .val 3 (some 13) (pt N2 0), .load 4 (some 14) 3 (pt N2 0) (.int .i64 x.ki), .val 5 (some 15) (pt N8 2), .load 6 (some 16) 3 (pt N8 2) (.int .i64 0), .alt 7 (some 17) (.int .i64 (IntKind.i64.wrap (x.ki + 0))) (.int .i64 (x.ki + 0)), .val 8 (some 18) (pt N8 1), .load 9 (some 19) 3 (pt N8 1) (.int .i64 1)] ⟨fun W h => ld_any _ _ Tryz.underlying47 rfl (h.at 0 rfl) 0 rfl, fun W h => ld_any _ _ Tryz.underlying3 rfl (h.at 1 rfl) 0 rfl, fun W h => ld_any _ _ Tryz.underlying3 rfl (h.at 0 rfl) 2 rfl, congrArg (Value.int .i64) (sum_fit0 HFB.out.1), fun W h => ld_any _ _ Tryz.underlying3 rfl (h.at 0 rfl) 1 rfl, trivial⟩ hS ?_
      refine oD 10 2 (cD (some 20) 18 #[.int .i64 (x.ki + 0), .int .i64 1] ((num1_any (x.ki + 0) _).mono ?_))
      rintro e Y11 ⟨v11o, rfl, hO, hb⟩
      refine And.intro (hS.below hb) ?_
      replace hS := hS.below hb
      rw [← flat_oc] at hO
      replace hM := hM.row (f := ocM) hO hb
      clear hO hb
      obtain ⟨a11o, c11o, rfl⟩ := (hM.oka 0 rfl).slice ocM_len
      obtain ⟨v13, Y13, hrun, ht⟩ := own_appR infoOct1 rfl (by decide) Tryz.underlying22 ocM_len ocM_one (hM.oka 2 rfl) ((hM.oka 0 rfl).rsl ocM_len) (by decide) (by have h := hd_le (plP x) 0; rw [octs_length]; omega) 22
      have hM1 := hM.turn 2 rfl ht rfl
      clear ht
      refine oD 11 1 (stepH_append (d := some 21) (t := 22) (t' := 22) (ty := 22) (v := u3) (x := .slice a11o (octs (two (x.ki + 0)) 1).length c11o) (by kernel_rfl) hrun (hM1.sub (.cons _ (.cons_cons _ (.cons _ (.cons_cons _ .slnil))))) ?_)
      replace hS := hM1.sub (.cons _ (.cons_cons _ (.cons _ (.cons_cons _ .slnil))))
      replace hM := hM1
      clear hM1 hrun
      refine tD 0 [.val 12 (some 3) (v13)] trivial hS ?_
      refine dD ?_
      try simp only [puts, Tk.put, Act.put, List.setIfInBounds_toArray, List.set_cons_zero, List.set_cons_succ]
      clear hS
      go_upto_region 6 with fail
      refine wp_region_fromM (fun W => Sep w [] [.own ocM 5 1 (.slice a11o (octs (two (x.ki + 0)) 1).length c11o) (octs (two (x.ki + 0)) 1), .blk N8 49 (nbc (nb N2 0 1 0)), .own ocM 5 1 (v13) ((hdP (plP x) 0) ++ (octs (two (x.ki + 0)) 1)), .blk N2 24 (spc x)] W) hM ?_
      clear hM
      rintro Y14 hM
      refine tF 2 [.val 0 (some 22) (.int .i64 1), .val 1 (some 7) (.int .i64 1)] trivial ?_
      refine dF ?_
      try simp only [puts, Tk.put, Act.put, List.setIfInBounds_toArray, List.set_cons_zero, List.set_cons_succ]
      have hM1 : Sep w [] [.own ocM 5 1 v13 (hdP (plP x) 1), .blk N2 24 (spc x)] Y14 := hM.pick [2, 3] (by decide) rfl
      clear hM
      go_wp2_with fail
      go_roundw
      case rel => exact ⟨1, .inr (.inl rfl), rfl, hM1⟩
      case measure => simp [intOf]
    case inr.inl =>
      replace hi : _ = Value.int .i64 1 := hi
      subst hi
      go_upto_region 3 with fail
      refine wp_region_fromM (fun W => Sep w [] [.own ocM 5 1 (u3) (hdP (plP x) 1), .blk N2 24 (spc x)] W) hM ?_
      clear hM
      rintro Y15 hM
      refine tF 1 [.val 0 (some 8) (.bool true)] trivial ?_
      refine dF ?_
      try simp only [puts, Tk.put, Act.put, List.setIfInBounds_toArray, List.set_cons_zero, List.set_cons_succ]
      go_upto_region 4 with fail
      refine wp_region_fromM (fun W => Sep w [] [.own ocM 5 1 (u3) (hdP (plP x) 1), .blk N2 24 (spc x)] W) hM ?_
      clear hM
      rintro Y16 hM
      refine tF 1 [.val 0 (some 9) (nbv (nb N2 1 2 32768))] trivial ?_
      refine rF (some 5) (pt Y16.heap.size 0) (Y16.alloc (.cells (nbc noNb).toArray 49)) ?_
      replace hM := hM.alloc 49 (nbc noNb)
      generalize World.alloc _ _ = Y17 at *
      generalize hNe : Y16.heap.size = N17 at *
      clear hNe
      have hst := sto_part (nbc (nb N2 1 2 32768)) (hM.at 0 rfl) 0 49 (nbv (nb N2 1 2 32768)) (nbc (nb N2 1 2 32768)) rfl (by kernel_rfl) (Nat.le_of_ble_eq_true rfl) rfl rfl
      refine sF 49 (pt N17 0) (nbv (nb N2 1 2 32768)) (hst) ?_
      clear hst
      replace hM := hM.set 0 (cs' := nbc (nb N2 1 2 32768)) rfl rfl
      generalize World.setRow _ _ _ = Y18 at *
      refine dF ?_
      try simp only [puts, Tk.put, Act.put, List.setIfInBounds_toArray, List.set_cons_zero, List.set_cons_succ]
      go_upto_region 5 with fail
      refine wp_region_M (fun W => Sep w [] [.blk N17 49 (nbc (nb N2 1 2 32768)), .blk N2 24 (spc x)] W) (fun W => Sep w [] [.blk N17 49 (nbc (nb N2 1 2 32768)), .own ocM 5 1 (u3) (hdP (plP x) 1), .blk N2 24 (spc x)] W) hmx hM.drew ?_
      clear hM
      rintro Y19 hM
      have hS := hM.sub (.cons_cons _ (.cons _ (.cons_cons _ .slnil)))
      refine tD 3 [.val 0 (some 10) (u3), .val 1 (some 11) (pt N17 0), .load 2 (some 12) 47 (pt N17 0) (pt N2 1), .val 3 (some 13) (pt N2 1), .load 4 (some 14) 3 (pt N2 1) (.int .i64 x.xa), .val 5 (some 15) (pt N17 2), .load 6 (some 16) 3 (pt N17 2) (.int .i64 32768), .alt 7 (some 17) (.int .i64 (IntKind.i64.wrap (x.xa + 32768))) (.int .i64 (x.xa + 32768)), .val 8 (some 18) (pt N17 1), .load 9 (some 19) 3 (pt N17 1) (.int .i64 2)] ⟨fun W h => ld_any _ _ Tryz.underlying47 rfl (h.at 0 rfl) 0 rfl, fun W h => ld_any _ _ Tryz.underlying3 rfl (h.at 1 rfl) 1 rfl, fun W h => ld_any _ _ Tryz.underlying3 rfl (h.at 0 rfl) 2 rfl, congrArg (Value.int .i64) (sum_fit HFB.out.2.1), fun W h => ld_any _ _ Tryz.underlying3 rfl (h.at 0 rfl) 1 rfl, trivial⟩ hS ?_
      refine oD 10 2 (cD (some 20) 18 #[.int .i64 (x.xa + 32768), .int .i64 2] ((num2_any (x.xa + 32768) _).mono ?_))
      rintro e Y20 ⟨v20o, rfl, hO, hb⟩
      refine And.intro (hS.below hb) ?_
      replace hS := hS.below hb
      rw [← flat_oc] at hO
      replace hM := hM.row (f := ocM) hO hb
      clear hO hb
      obtain ⟨a20o, c20o, rfl⟩ := (hM.oka 0 rfl).slice ocM_len
      obtain ⟨v22, Y22, hrun, ht⟩ := own_appR infoOct1 rfl (by decide) Tryz.underlying22 ocM_len ocM_one (hM.oka 2 rfl) ((hM.oka 0 rfl).rsl ocM_len) (by decide) (by have h := hd_le (plP x) 1; rw [octs_length]; omega) 22
      have hM1 := hM.turn 2 rfl ht rfl
      clear ht
      refine oD 11 1 (stepH_append (d := some 21) (t := 22) (t' := 22) (ty := 22) (v := u3) (x := .slice a20o (octs (two (x.xa + 32768)) 2).length c20o) (by kernel_rfl) hrun (hM1.sub (.cons _ (.cons_cons _ (.cons _ (.cons_cons _ .slnil))))) ?_)
      replace hS := hM1.sub (.cons _ (.cons_cons _ (.cons _ (.cons_cons _ .slnil))))
      replace hM := hM1
      clear hM1 hrun
      refine tD 0 [.val 12 (some 3) (v22)] trivial hS ?_
      refine dD ?_
      try simp only [puts, Tk.put, Act.put, List.setIfInBounds_toArray, List.set_cons_zero, List.set_cons_succ]
      clear hS
      go_upto_region 6 with fail
      refine wp_region_fromM (fun W => Sep w [] [.own ocM 5 1 (.slice a20o (octs (two (x.xa + 32768)) 2).length c20o) (octs (two (x.xa + 32768)) 2), .blk N17 49 (nbc (nb N2 1 2 32768)), .own ocM 5 1 (v22) ((hdP (plP x) 1) ++ (octs (two (x.xa + 32768)) 2)), .blk N2 24 (spc x)] W) hM ?_
      clear hM
      rintro Y23 hM
      refine tF 2 [.val 0 (some 22) (.int .i64 2), .val 1 (some 7) (.int .i64 2)] trivial ?_
      refine dF ?_
      try simp only [puts, Tk.put, Act.put, List.setIfInBounds_toArray, List.set_cons_zero, List.set_cons_succ]
      have hM1 : Sep w [] [.own ocM 5 1 v22 (hdP (plP x) 2), .blk N2 24 (spc x)] Y23 := hM.pick [2, 3] (by decide) rfl
      clear hM
      go_wp2_with fail
      go_roundw
      case rel => exact ⟨2, .inr (.inr (.inl rfl)), rfl, hM1⟩
      case measure => simp [intOf]
    case inr.inr.inl =>
      replace hi : _ = Value.int .i64 2 := hi
      subst hi
      go_upto_region 3 with fail
      refine wp_region_fromM (fun W => Sep w [] [.own ocM 5 1 (u3) (hdP (plP x) 2), .blk N2 24 (spc x)] W) hM ?_
      clear hM
      rintro Y24 hM
      refine tF 1 [.val 0 (some 8) (.bool true)] trivial ?_
      refine dF ?_
      try simp only [puts, Tk.put, Act.put, List.setIfInBounds_toArray, List.set_cons_zero, List.set_cons_succ]
      go_upto_region 4 with fail
      refine wp_region_fromM (fun W => Sep w [] [.own ocM 5 1 (u3) (hdP (plP x) 2), .blk N2 24 (spc x)] W) hM ?_
      clear hM
      rintro Y25 hM
      refine tF 1 [.val 0 (some 9) (nbv (nb N2 2 2 32768))] trivial ?_
      refine rF (some 5) (pt Y25.heap.size 0) (Y25.alloc (.cells (nbc noNb).toArray 49)) ?_
      replace hM := hM.alloc 49 (nbc noNb)
      generalize World.alloc _ _ = Y26 at *
      generalize hNe : Y25.heap.size = N26 at *
      clear hNe
      have hst := sto_part (nbc (nb N2 2 2 32768)) (hM.at 0 rfl) 0 49 (nbv (nb N2 2 2 32768)) (nbc (nb N2 2 2 32768)) rfl (by kernel_rfl) (Nat.le_of_ble_eq_true rfl) rfl rfl
      refine sF 49 (pt N26 0) (nbv (nb N2 2 2 32768)) (hst) ?_
      clear hst
      replace hM := hM.set 0 (cs' := nbc (nb N2 2 2 32768)) rfl rfl
      generalize World.setRow _ _ _ = Y27 at *
      refine dF ?_
      try simp only [puts, Tk.put, Act.put, List.setIfInBounds_toArray, List.set_cons_zero, List.set_cons_succ]
      go_upto_region 5 with fail
      refine wp_region_M (fun W => Sep w [] [.blk N26 49 (nbc (nb N2 2 2 32768)), .blk N2 24 (spc x)] W) (fun W => Sep w [] [.blk N26 49 (nbc (nb N2 2 2 32768)), .own ocM 5 1 (u3) (hdP (plP x) 2), .blk N2 24 (spc x)] W) hmx hM.drew ?_
      clear hM
      rintro Y28 hM
      have hS := hM.sub (.cons_cons _ (.cons _ (.cons_cons _ .slnil)))
      refine tD 3 [.val 0 (some 10) (u3), .val 1 (some 11) (pt N26 0), .load 2 (some 12) 47 (pt N26 0) (pt N2 2), .val 3 (some 13) (pt N2 2), .load 4 (some 14) 3 (pt N2 2) (.int .i64 x.xb), .val 5 (some 15) (pt N26 2), .load 6 (some 16) 3 (pt N26 2) (.int .i64 32768), .alt 7 (some 17) (.int .i64 (IntKind.i64.wrap (x.xb + 32768))) (.int .i64 (x.xb + 32768)), .val 8 (some 18) (pt N26 1), .load 9 (some 19) 3 (pt N26 1) (.int .i64 2)] ⟨fun W h => ld_any _ _ Tryz.underlying47 rfl (h.at 0 rfl) 0 rfl, fun W h => ld_any _ _ Tryz.underlying3 rfl (h.at 1 rfl) 2 rfl, fun W h => ld_any _ _ Tryz.underlying3 rfl (h.at 0 rfl) 2 rfl, congrArg (Value.int .i64) (sum_fit HFB.out.2.2.1), fun W h => ld_any _ _ Tryz.underlying3 rfl (h.at 0 rfl) 1 rfl, trivial⟩ hS ?_
      refine oD 10 2 (cD (some 20) 18 #[.int .i64 (x.xb + 32768), .int .i64 2] ((num2_any (x.xb + 32768) _).mono ?_))
      rintro e Y29 ⟨v29o, rfl, hO, hb⟩
      refine And.intro (hS.below hb) ?_
      replace hS := hS.below hb
      rw [← flat_oc] at hO
      replace hM := hM.row (f := ocM) hO hb
      clear hO hb
      obtain ⟨a29o, c29o, rfl⟩ := (hM.oka 0 rfl).slice ocM_len
      obtain ⟨v31, Y31, hrun, ht⟩ := own_appR infoOct1 rfl (by decide) Tryz.underlying22 ocM_len ocM_one (hM.oka 2 rfl) ((hM.oka 0 rfl).rsl ocM_len) (by decide) (by have h := hd_le (plP x) 2; rw [octs_length]; omega) 22
      have hM1 := hM.turn 2 rfl ht rfl
      clear ht
      refine oD 11 1 (stepH_append (d := some 21) (t := 22) (t' := 22) (ty := 22) (v := u3) (x := .slice a29o (octs (two (x.xb + 32768)) 2).length c29o) (by kernel_rfl) hrun (hM1.sub (.cons _ (.cons_cons _ (.cons _ (.cons_cons _ .slnil))))) ?_)
      replace hS := hM1.sub (.cons _ (.cons_cons _ (.cons _ (.cons_cons _ .slnil))))
      replace hM := hM1
      clear hM1 hrun
      refine tD 0 [.val 12 (some 3) (v31)] trivial hS ?_
      refine dD ?_
      try simp only [puts, Tk.put, Act.put, List.setIfInBounds_toArray, List.set_cons_zero, List.set_cons_succ]
      clear hS
      go_upto_region 6 with fail
      refine wp_region_fromM (fun W => Sep w [] [.own ocM 5 1 (.slice a29o (octs (two (x.xb + 32768)) 2).length c29o) (octs (two (x.xb + 32768)) 2), .blk N26 49 (nbc (nb N2 2 2 32768)), .own ocM 5 1 (v31) ((hdP (plP x) 2) ++ (octs (two (x.xb + 32768)) 2)), .blk N2 24 (spc x)] W) hM ?_
      clear hM
      rintro Y32 hM
      refine tF 2 [.val 0 (some 22) (.int .i64 3), .val 1 (some 7) (.int .i64 3)] trivial ?_
      refine dF ?_
      try simp only [puts, Tk.put, Act.put, List.setIfInBounds_toArray, List.set_cons_zero, List.set_cons_succ]
      have hM1 : Sep w [] [.own ocM 5 1 v31 (hdP (plP x) 3), .blk N2 24 (spc x)] Y32 := hM.pick [2, 3] (by decide) rfl
      clear hM
      go_wp2_with fail
      go_roundw
      case rel => exact ⟨3, .inr (.inr (.inr (.inl rfl))), rfl, hM1⟩
      case measure => simp [intOf]
    case inr.inr.inr.inl =>
      replace hi : _ = Value.int .i64 3 := hi
      subst hi
      go_upto_region 3 with fail
      refine wp_region_fromM (fun W => Sep w [] [.own ocM 5 1 (u3) (hdP (plP x) 3), .blk N2 24 (spc x)] W) hM ?_
      clear hM
      rintro Y33 hM
      refine tF 1 [.val 0 (some 8) (.bool true)] trivial ?_
      refine dF ?_
      try simp only [puts, Tk.put, Act.put, List.setIfInBounds_toArray, List.set_cons_zero, List.set_cons_succ]
      go_upto_region 4 with fail
      refine wp_region_fromM (fun W => Sep w [] [.own ocM 5 1 (u3) (hdP (plP x) 3), .blk N2 24 (spc x)] W) hM ?_
      clear hM
      rintro Y34 hM
      refine tF 1 [.val 0 (some 9) (nbv (nb N2 3 2 32768))] trivial ?_
      refine rF (some 5) (pt Y34.heap.size 0) (Y34.alloc (.cells (nbc noNb).toArray 49)) ?_
      replace hM := hM.alloc 49 (nbc noNb)
      generalize World.alloc _ _ = Y35 at *
      generalize hNe : Y34.heap.size = N35 at *
      clear hNe
      have hst := sto_part (nbc (nb N2 3 2 32768)) (hM.at 0 rfl) 0 49 (nbv (nb N2 3 2 32768)) (nbc (nb N2 3 2 32768)) rfl (by kernel_rfl) (Nat.le_of_ble_eq_true rfl) rfl rfl
      refine sF 49 (pt N35 0) (nbv (nb N2 3 2 32768)) (hst) ?_
      clear hst
      replace hM := hM.set 0 (cs' := nbc (nb N2 3 2 32768)) rfl rfl
      generalize World.setRow _ _ _ = Y36 at *
      refine dF ?_
      try simp only [puts, Tk.put, Act.put, List.setIfInBounds_toArray, List.set_cons_zero, List.set_cons_succ]
      go_upto_region 5 with fail
      refine wp_region_M (fun W => Sep w [] [.blk N35 49 (nbc (nb N2 3 2 32768)), .blk N2 24 (spc x)] W) (fun W => Sep w [] [.blk N35 49 (nbc (nb N2 3 2 32768)), .own ocM 5 1 (u3) (hdP (plP x) 3), .blk N2 24 (spc x)] W) hmx hM.drew ?_
      clear hM
      rintro Y37 hM
      have hS := hM.sub (.cons_cons _ (.cons _ (.cons_cons _ .slnil)))
      refine tD 3 [.val 0 (some 10) (u3), .val 1 (some 11) (pt N35 0), .load 2 (some 12) 47 (pt N35 0) (pt N2 3), .val 3 (some 13) (pt N2 3), .load 4 (some 14) 3 (pt N2 3) (.int .i64 x.xc), .val 5 (some 15) (pt N35 2), .load 6 (some 16) 3 (pt N35 2) (.int .i64 32768), .alt 7 (some 17) (.int .i64 (IntKind.i64.wrap (x.xc + 32768))) (.int .i64 (x.xc + 32768)), .val 8 (some 18) (pt N35 1), .load 9 (some 19) 3 (pt N35 1) (.int .i64 2)] ⟨fun W h => ld_any _ _ Tryz.underlying47 rfl (h.at 0 rfl) 0 rfl, fun W h => ld_any _ _ Tryz.underlying3 rfl (h.at 1 rfl) 3 rfl, fun W h => ld_any _ _ Tryz.underlying3 rfl (h.at 0 rfl) 2 rfl, congrArg (Value.int .i64) (sum_fit HFB.out.2.2.2), fun W h => ld_any _ _ Tryz.underlying3 rfl (h.at 0 rfl) 1 rfl, trivial⟩ hS ?_
      refine oD 10 2 (cD (some 20) 18 #[.int .i64 (x.xc + 32768), .int .i64 2] ((num2_any (x.xc + 32768) _).mono ?_))
      rintro e Y38 ⟨v38o, rfl, hO, hb⟩
      refine And.intro (hS.below hb) ?_
      replace hS := hS.below hb
      rw [← flat_oc] at hO
      replace hM := hM.row (f := ocM) hO hb
      clear hO hb
      obtain ⟨a38o, c38o, rfl⟩ := (hM.oka 0 rfl).slice ocM_len
      obtain ⟨v40, Y40, hrun, ht⟩ := own_appR infoOct1 rfl (by decide) Tryz.underlying22 ocM_len ocM_one (hM.oka 2 rfl) ((hM.oka 0 rfl).rsl ocM_len) (by decide) (by have h := hd_le (plP x) 3; rw [octs_length]; omega) 22
      have hM1 := hM.turn 2 rfl ht rfl
      clear ht
      refine oD 11 1 (stepH_append (d := some 21) (t := 22) (t' := 22) (ty := 22) (v := u3) (x := .slice a38o (octs (two (x.xc + 32768)) 2).length c38o) (by kernel_rfl) hrun (hM1.sub (.cons _ (.cons_cons _ (.cons _ (.cons_cons _ .slnil))))) ?_)
      replace hS := hM1.sub (.cons _ (.cons_cons _ (.cons _ (.cons_cons _ .slnil))))
      replace hM := hM1
      clear hM1 hrun
      refine tD 0 [.val 12 (some 3) (v40)] trivial hS ?_
      refine dD ?_
      try simp only [puts, Tk.put, Act.put, List.setIfInBounds_toArray, List.set_cons_zero, List.set_cons_succ]
      clear hS
      go_upto_region 6 with fail
      refine wp_region_fromM (fun W => Sep w [] [.own ocM 5 1 (.slice a38o (octs (two (x.xc + 32768)) 2).length c38o) (octs (two (x.xc + 32768)) 2), .blk N35 49 (nbc (nb N2 3 2 32768)), .own ocM 5 1 (v40) ((hdP (plP x) 3) ++ (octs (two (x.xc + 32768)) 2)), .blk N2 24 (spc x)] W) hM ?_
      clear hM
      rintro Y41 hM
      refine tF 2 [.val 0 (some 22) (.int .i64 4), .val 1 (some 7) (.int .i64 4)] trivial ?_
      refine dF ?_
      try simp only [puts, Tk.put, Act.put, List.setIfInBounds_toArray, List.set_cons_zero, List.set_cons_succ]
      have hM1 : Sep w [] [.own ocM 5 1 v40 (hdP (plP x) 4), .blk N2 24 (spc x)] Y41 := hM.pick [2, 3] (by decide) rfl
      clear hM
      go_wp2_with fail
      go_roundw
      case rel => exact ⟨4, .inr (.inr (.inr (.inr (rfl)))), rfl, hM1⟩
      case measure => simp [intOf]
    case inr.inr.inr.inr =>
      replace hi : _ = Value.int .i64 4 := hi
      subst hi
      obtain ⟨pu3, cu3, rfl⟩ := (hM.oka 0 rfl).slice ocM_len
      go_upto_region 3 with fail
      refine wp_region_fromM (fun W => Sep w [] [.own ocM 5 1 (.slice pu3 (hdP (plP x) 4).length cu3) (hdP (plP x) 4), .blk N2 24 (spc x)] W) hM ?_
      clear hM
      rintro Y42 hM
      refine tF 1 [.val 0 (some 8) (.bool false)] trivial ?_
      refine dF ?_
      try simp only [puts, Tk.put, Act.put, List.setIfInBounds_toArray, List.set_cons_zero, List.set_cons_succ]
      go_upto_region 7 with fail
      refine wp_region_M (fun W => Sep w [] [.own ocM 5 1 (.slice pu3 (hdP (plP x) 4).length cu3) (hdP (plP x) 4), .blk N2 24 (spc x)] W) (fun W => Sep w [] [.own ocM 5 1 (.slice pu3 (hdP (plP x) 4).length cu3) (hdP (plP x) 4), .blk N2 24 (spc x)] W) hmx hM.drew ?_
      clear hM
      rintro Y43 hM
      have hS := hM.sub (.cons_cons _ (.cons_cons _ .slnil))
      refine tD 4 [.val 0 (some 23) (.slice pu3 (hdP (plP x) 4).length cu3), .val 1 (some 24) (pt N2 4), .load 2 (some 25) 22 (pt N2 4) (.slice x.ad x.l.length x.cp), .val 3 (some 26) (.int .i64 (x.l.length : Int)), .val 5 (some 28) (pt N2 4), .load 6 (some 29) 22 (pt N2 4) (.slice x.ad x.l.length x.cp)] ⟨fun W h => ld_any _ _ Tryz.underlying22 rfl (h.at 1 rfl) 4 rfl, fun W h => ld_any _ _ Tryz.underlying22 rfl (h.at 1 rfl) 4 rfl, trivial⟩ hS ?_
      refine oD 4 3 (cD (some 27) 18 #[.int .i64 (x.l.length : Int), .int .i64 2] ((num2_any (x.l.length : Int) _).mono ?_))
      rintro e Y44 ⟨v44o, rfl, hO, hb⟩
      refine And.intro (hS.below hb) ?_
      replace hS := hS.below hb
      rw [← flat_oc] at hO
      replace hM := hM.row (f := ocM) hO hb
      clear hO hb
      obtain ⟨a44o, c44o, rfl⟩ := (hM.oka 0 rfl).slice ocM_len
      refine oD 7 2 (rD (some 30) (.slice (some ⟨Y44.heap.size, 0, none⟩) 3 3) (Y44.alloc (.cells ([.slice pu3 (hdP (plP x) 4).length cu3, .slice a44o (octs (two (x.l.length : Int)) 2).length c44o, .slice x.ad x.l.length x.cp]).toArray 22)) (hS.other _) ?_)
      replace hS := hS.other (.cells ([.slice pu3 (hdP (plP x) 4).length cu3, .slice a44o (octs (two (x.l.length : Int)) 2).length c44o, .slice x.ad x.l.length x.cp]).toArray 22)
      replace hM := hM.alloc 22 ([.slice pu3 (hdP (plP x) 4).length cu3, .slice a44o (octs (two (x.l.length : Int)) 2).length c44o, .slice x.ad x.l.length x.cp])
      generalize World.alloc _ _ = Y46 at *
      generalize hNe : Y44.heap.size = N46 at *
      clear hNe
      refine oD 8 1 (cD (some 31) 19 #[.slice (some ⟨N46, 0, none⟩) 3 3] ((cat3_any (hdP (plP x) 4) (octs (two (x.l.length : Int)) 2) x.l _ _ _ _ (by have h := hd_le (plP x) 4; have h2 := HLE.out; rw [octs_length]; omega) ((hM.oka 2 rfl).own_bsl) ((hM.oka 1 rfl).own_bsl) (((HS.out.below hM.b (Nat.le_refl _)).mono (Nat.le_refl _) hM.size)) (hM.at 0 rfl)).mono ?_))
      rintro e Y47 ⟨v47o, rfl, hO, hb⟩
      refine And.intro (hS.below hb) ?_
      replace hS := hS.below hb
      replace hM := hM.octN hO hb
      clear hO hb
      obtain ⟨a47o, c47o, rfl, _⟩ := (hM.oka 0 rfl).octs.slice
      refine tD 0 [.val 9 (some 2) (.slice a47o (hdP (plP x) 4 ++ (octs (two (x.l.length : Int)) 2 ++ x.l)).length c47o)] trivial hS ?_
      refine dD ?_
      try simp only [puts, Tk.put, Act.put, List.setIfInBounds_toArray, List.set_cons_zero, List.set_cons_succ]
      clear hS
      have hb := oct_own hM 0 rfl
      rw [two_len _ HLE.out] at hb
      go_wp2_with fail
      go_ret
      exact ⟨_, rfl, hb, hM.b⟩
def PutR (l : List Stp) (w : World) (e : Ending) (W' : World) : Prop := ∃ v, e = .returned (.tuple #[v, .int .i64 (errP l)]) ∧ Sep w [] [.own ocM 5 1 v (putP l)] W'
theorem put_a {l : List Stp} (h : chkP l ≠ 0) : errP l = chkP l ∧ putP l = [] := by
  have h1 : errP l = chkP l := if_pos h
  exact ⟨h1, if_pos (by rw [h1]; exact h)⟩
theorem put_b {l : List Stp} (h : chkP l = 0) (h2 : 8192 < (joinP l).length) : errP l = 5 ∧ putP l = [] := by
  have h1 : errP l = 5 := by unfold errP; rw [if_neg (fun x => x h), if_pos h2]
  exact ⟨h1, if_pos (by rw [h1]; decide)⟩
theorem put_c {l : List Stp} (h : chkP l = 0) (h2 : (joinP l).length ≤ 8192) : errP l = 0 ∧ putP l = joinP l := by
  have h1 : errP l = 0 := by unfold errP; rw [if_neg (fun x => x h), if_neg (by omega)]
  exact ⟨h1, if_neg (fun x => x h1)⟩
theorem join_step {l : List Sp} {j : Nat} {x : Sp} (h : l[j]? = some x) : joinP ((l.take j).map plP) ++ octP (plP x) = joinP ((l.take (j + 1)).map plP) := by
  rw [List.take_add_one, h, Option.toList_some, List.map_append, joinP_app, List.map_singleton, joinP_one]
theorem join_few {l : List Sp} (h : l.length ≤ 512 ∧ ∀ s ∈ l.map plP, OkP s) (j : Nat) : (joinP ((l.take j).map plP)).length ≤ 528896 := by
  have h1 := joinP_len (l := (l.take j).map plP) (fun s hs => h.2 s (by
    obtain ⟨y, hy, rfl⟩ := List.mem_map.1 hs
    exact List.mem_map_of_mem (List.mem_of_mem_take hy)))
  have h2 := h.1
  rw [List.length_map, List.length_take] at h1
  omega
set_option maxRecDepth 100000 in
set_option maxHeartbeats 4000000 in
theorem putP_any (l : List Sp) (v : Value) (w : World) {lo hi : Nat} (hl : RSl spc lo hi w v l) (hhi : hi ≤ w.heap.size) (hkk : Holds w.heap.size w (zsP l)) : Calls Tryz.prog 5 #[v] w (PutR (l.map plP) w) := by
  have hmx : Tryz.prog.follows .mixedOrders = true := by kernel_rfl
  have HEl := Lib.hid (fun k x (hx : l[k]? = some x) => hl.elem spc_len hx Tryz.underlying30 (fun W => by kernel_rfl))
  obtain ⟨pl, cl, rfl⟩ := hl.slice
  have HLl := Lib.hid hl
  have HHl := Lib.hid hhi
  have HLENl := Lib.hid (show l.length ≤ 9223372036854775807 from by have h := hl.len; unfold maxLen at h; omega)
  clear hl hhi
  have HKK := Lib.hid hkk
  clear hkk
  have hM := Sep.start w
  go_enter Tryz.func5, Tryz.ntmps5
  go_upto_region 0 with fail
  refine wp_region_fromM (fun W => Sep w [] [] W) hM ?_
  clear hM
  rintro Y1 hM
  refine tF 2 [.val 0 (some 2) (.slice none 0 0), .val 1 (some 3) (.int .i64 0)] trivial ?_
  refine dF ?_
  try simp only [puts, Tk.put, Act.put, List.setIfInBounds_toArray, List.set_cons_zero, List.set_cons_succ]
  go_upto_region 1 with fail
  refine wp_region_fromM (fun W => Sep w [] [] W) hM ?_
  clear hM
  rintro Y2 hM
  refine tF 1 [.val 0 (some 8) (.slice pl l.length cl)] trivial ?_
  refine cF (some 9) 8 #[.slice pl l.length cl] ((checkP_any l _ _ (HLl.out.below hM.b HHl.out) (Nat.le_trans HHl.out hM.size)).mono ?_)
  rintro e Y3 ⟨rfl, hb⟩
  replace hM := hM.below hb
  clear hb
  refine tF 3 [.val 2 (some 4) (.int .i64 (chkP (l.map plP)))] trivial ?_
  refine dF ?_
  try simp only [puts, Tk.put, Act.put, List.setIfInBounds_toArray, List.set_cons_zero, List.set_cons_succ]
  go_upto_region 2 with fail
  refine wp_region_fromM (fun W => Sep w [] [] W) hM ?_
  clear hM
  rintro Y4 hM
  refine tF 2 [.val 0 (some 10) (.int .i64 (chkP (l.map plP))), .val 1 (some 11) (.bool ((chkP (l.map plP)) != 0))] trivial ?_
  refine dF ?_
  try simp only [puts, Tk.put, Act.put, List.setIfInBounds_toArray, List.set_cons_zero, List.set_cons_succ]
  cases hb1 : (chkP (l.map plP)) != 0 with
  | false =>
    have Hhb1 := Lib.hid hb1
    clear hb1
    have HC : Hid (chkP (l.map plP) = 0) := Lib.hid (by simpa using Hhb1.out)
    have HOK := Lib.hid (chk_ok HC.out)
    have HOL : Hid (l.length ≤ 512 ∧ ∀ s ∈ l.map plP, OkP s) := Lib.hid (by have h := HOK.out; rw [List.length_map] at h; exact h)
    go_upto_region 4 with fail
    refine wp_region_fromM (fun W => Sep w [] [] W) hM ?_
    clear hM
    rintro Y5 hM
    refine tF 1 [.val 0 (some 5) (.slice none 0 0)] trivial ?_
    refine dF ?_
    try simp only [puts, Tk.put, Act.put, List.setIfInBounds_toArray, List.set_cons_zero, List.set_cons_succ]
    go_upto_region 5 with fail
    refine wp_region_fromM (fun W => Sep w [] [] W) hM ?_
    clear hM
    rintro Y6 hM
    refine tF 3 [.val 0 (some 13) (.slice pl l.length cl), .val 1 (some 14) (.int .i64 (l.length : Int)), .val 2 (some 15) (.int .i64 0)] trivial ?_
    refine dF ?_
    try simp only [puts, Tk.put, Act.put, List.setIfInBounds_toArray, List.set_cons_zero, List.set_cons_succ]
    replace hM := (hM.sub (l' := []) (List.nil_sublist _)).nil ocM 5 1
    go_wp2_with fail
    go_loopw [15, 5] (fun u15 u5 wr => ∃ j : Nat, j ≤ l.length ∧ u15 = .int .i64 (j : Int) ∧ Sep w [] [.own ocM 5 1 (u5) (joinP ((l.take j).map plP))] wr) (fun u15 u5 _ => l.length - (intOf u15).toNat)
    case atStart => exact ⟨0, Nat.zero_le _, rfl, hM⟩
    clear hM
    case round =>
      obtain ⟨j, hj, rfl, hM⟩ := hrel
      by_cases hlt : j < l.length
      case pos =>
        have HJ := Lib.hid hlt
        have hlt' : (j : Int) < (l.length : Int) := by omega
        have HLT := Lib.hid hlt'
        obtain ⟨x, hx⟩ : ∃ x, l[j]? = some x := ⟨_, List.getElem?_eq_getElem hlt⟩
        obtain ⟨bl, ol, _, _, hit, hct⟩ := HEl.out j x hx
        have HXl := Lib.hid hx
        have HIl := Lib.hid hit
        have HCl := Lib.hid hct
        clear hx hit hct
        have HOX := Lib.hid (HOL.out.2 (plP x) (List.mem_map_of_mem (List.mem_of_getElem? HXl.out)))
        clear hlt hlt'
        go_upto_region 6 with fail
        refine wp_region_fromM (fun W => Sep w [] [.own ocM 5 1 (u5) (joinP ((l.take j).map plP))] W) hM ?_
        clear hM
        rintro Y7 hM
        refine tF 1 [.alt 0 (some 16) (.bool (decide ((j : Int) < (l.length : Int)))) (.bool true)] ⟨congrArg Value.bool (decide_eq_true HLT.out), trivial⟩ ?_
        refine dF ?_
        try simp only [puts, Tk.put, Act.put, List.setIfInBounds_toArray, List.set_cons_zero, List.set_cons_succ]
        go_upto_region 7 with fail
        refine wp_region_fromM (fun W => Sep w [] [.own ocM 5 1 (u5) (joinP ((l.take j).map plP))] W) hM ?_
        clear hM
        rintro Y8 hM
        refine tF 2 [.idx 0 (some 17) 30 (.slice pl l.length cl) (.int .i64 (j : Int)) (pt bl ol), .load 1 (some 18) 24 (pt bl ol) (spv x)] ⟨HIl.out _, ld_cells (spc x) _ _ Tryz.underlying24 rfl (by kernel_rfl) (HCl.out _ (HLl.out.below hM.b HHl.out)), trivial⟩ ?_
        refine rF (some 7) (pt Y8.heap.size 0) (Y8.alloc (.cells (spc noSp).toArray 24)) ?_
        replace hM := hM.alloc 24 (spc noSp)
        generalize World.alloc _ _ = Y9 at *
        generalize hNe : Y8.heap.size = N9 at *
        clear hNe
        have hst := sto_part (spc x) (hM.at 0 rfl) 0 24 (spv x) (spc x) rfl (by kernel_rfl) (Nat.le_of_ble_eq_true rfl) rfl rfl
        refine sF 24 (pt N9 0) (spv x) (hst) ?_
        clear hst
        replace hM := hM.set 0 (cs' := spc x) rfl rfl
        generalize World.setRow _ _ _ = Y10 at *
        refine dF ?_
        try simp only [puts, Tk.put, Act.put, List.setIfInBounds_toArray, List.set_cons_zero, List.set_cons_succ]
        go_upto_region 8 with fail
        refine wp_region_fromM (fun W => Sep w [] [.blk N9 24 (spc x), .own ocM 5 1 (u5) (joinP ((l.take j).map plP))] W) hM ?_
        clear hM
        rintro Y11 hM
        refine tF 2 [.val 0 (some 19) (u5), .load 1 (some 20) 24 (pt N9 0) (spv x)] ⟨load_part (hM.at 0 rfl) 0 (spc x) rfl _ _ Tryz.underlying24 rfl (by kernel_rfl), trivial⟩ ?_
        refine cF (some 21) 9 #[spv x] ((octetsP_any x _ HOX.out (((HKK.out.sp HXl.out).below hM.b (Nat.le_refl _)).mono (Nat.le_refl _) hM.size)).mono ?_)
        rintro e Y12 ⟨v12o, rfl, hO, hb⟩
        replace hM := hM.octN hO hb
        clear hO hb
        obtain ⟨a12o, c12o, rfl, _⟩ := (hM.oka 0 rfl).octs.slice
        obtain ⟨v14, Y14, hrun, ht⟩ := own_appB (hM.oka 2 rfl) (hM.oka 0 rfl).octs (by have h := join_few HOL.out j; have h1 := HOX.out.2; rw [octP_len]; omega) 22
        replace hM := hM.turn 2 rfl ht rfl
        clear ht
        refine wpFrom_append (d := some 22) (t := 22) (t' := 22) (ty := 22) (v := u5) (x := .slice a12o (octP (plP x)).length c12o) (by kernel_rfl) hrun ?_
        clear hrun
        refine tF 5 [.val 4 (some 5) (v14)] trivial ?_
        refine dF ?_
        try simp only [puts, Tk.put, Act.put, List.setIfInBounds_toArray, List.set_cons_zero, List.set_cons_succ]
        go_upto_region 9 with fail
        refine wp_region_fromM (fun W => Sep w [] [.oct (.slice a12o (octP (plP x)).length c12o) (octP (plP x)), .blk N9 24 (spc x), .own ocM 5 1 (v14) ((joinP ((l.take j).map plP)) ++ (octP (plP x)))] W) hM ?_
        clear hM
        rintro Y15 hM
        refine tF 2 [.alt 0 (some 23) (.int .i64 (IntKind.i64.wrap ((j : Int) + 1))) (.int .i64 ((j + 1 : Nat) : Int)), .val 1 (some 15) (.int .i64 ((j + 1 : Nat) : Int))] ⟨congrArg (Value.int .i64) ((IntWalk.i64_in _ (by have := HLENl.out; have := HJ.out; omega)).trans (by omega)), trivial⟩ ?_
        refine dF ?_
        try simp only [puts, Tk.put, Act.put, List.setIfInBounds_toArray, List.set_cons_zero, List.set_cons_succ]
        have hM1 : Sep w [] [.own ocM 5 1 (v14) ((joinP ((l.take j).map plP)) ++ (octP (plP x)))] Y15 := hM.pick [2] (by decide) rfl
        rw [join_step HXl.out] at hM1
        have HM1 := Lib.hid hM1
        clear hM hM1
        go_wp2_with fail
        go_roundw
        case rel => exact ⟨j + 1, HJ.out, rfl, HM1.out⟩
        case measure => have := HJ.out; simp [intOf]; omega
      case neg =>
        obtain rfl : j = l.length := by omega
        rw [List.take_length] at hM
        obtain ⟨pu5, cu5, rfl⟩ := (hM.oka 0 rfl).slice ocM_len
        go_upto_region 6 with fail
        refine wp_region_fromM (fun W => Sep w [] [.own ocM 5 1 (.slice pu5 (joinP (l.map plP)).length cu5) (joinP (l.map plP))] W) hM ?_
        clear hM
        rintro Y16 hM
        refine tF 1 [.alt 0 (some 16) (.bool (decide ((l.length : Int) < (l.length : Int)))) (.bool false)] ⟨congrArg Value.bool (decide_eq_false (by omega)), trivial⟩ ?_
        refine dF ?_
        try simp only [puts, Tk.put, Act.put, List.setIfInBounds_toArray, List.set_cons_zero, List.set_cons_succ]
        go_upto_region 10 with fail
        refine wp_region_fromM (fun W => Sep w [] [.own ocM 5 1 (.slice pu5 (joinP (l.map plP)).length cu5) (joinP (l.map plP))] W) hM ?_
        clear hM
        rintro Y17 hM
        refine tF 3 [.val 0 (some 24) (.slice pu5 (joinP (l.map plP)).length cu5), .val 1 (some 25) (.int .i64 ((joinP (l.map plP)).length : Int)), .val 2 (some 26) (.bool (decide (8192 < ((joinP (l.map plP)).length : Int))))] trivial ?_
        refine dF ?_
        try simp only [puts, Tk.put, Act.put, List.setIfInBounds_toArray, List.set_cons_zero, List.set_cons_succ]
        cases hb2 : decide (8192 < ((joinP (l.map plP)).length : Int)) with
        | false =>
          have Hhb2 := Lib.hid hb2
          clear hb2
          have HP := Lib.hid (put_c HC.out (by have h := of_decide_eq_false Hhb2.out; omega))
          go_upto_region 12 with fail
          refine wp_region_fromM (fun W => Sep w [] [.own ocM 5 1 (.slice pu5 (joinP (l.map plP)).length cu5) (joinP (l.map plP))] W) hM ?_
          clear hM
          rintro Y18 hM
          refine tF 3 [.val 0 (some 27) (.slice pu5 (joinP (l.map plP)).length cu5), .val 1 (some 2) (.slice pu5 (joinP (l.map plP)).length cu5), .val 2 (some 3) (.int .i64 0)] trivial ?_
          refine dF ?_
          try simp only [puts, Tk.put, Act.put, List.setIfInBounds_toArray, List.set_cons_zero, List.set_cons_succ]
          have hN : Sep w [] [.own ocM 5 1 (.slice pu5 (joinP (l.map plP)).length cu5) (joinP (l.map plP))] Y18 := hM.pick [0] (by decide) rfl
          go_wp2_with fail
          go_ret2
          exact ⟨_, by rw [HP.out.1]; rfl, by rw [HP.out.2]; exact hN⟩
        | true =>
          have Hhb2 := Lib.hid hb2
          clear hb2
          have HP := Lib.hid (put_b HC.out (by have h := of_decide_eq_true Hhb2.out; omega))
          go_upto_region 11 with fail
          refine wp_region_fromM (fun W => Sep w [] [.own ocM 5 1 (.slice pu5 (joinP (l.map plP)).length cu5) (joinP (l.map plP))] W) hM ?_
          clear hM
          rintro Y19 hM
          refine tF 2 [.val 0 (some 2) (.slice none 0 0), .val 1 (some 3) (.int .i64 5)] trivial ?_
          refine dF ?_
          try simp only [puts, Tk.put, Act.put, List.setIfInBounds_toArray, List.set_cons_zero, List.set_cons_succ]
          have hN := (hM.sub (l' := []) (List.nil_sublist _)).nil ocM 5 1
          go_wp2_with fail
          go_ret2
          exact ⟨_, by rw [HP.out.1]; rfl, by rw [HP.out.2]; exact hN⟩
  | true =>
    have Hhb1 := Lib.hid hb1
    clear hb1
    have HP := Lib.hid (put_a (by simpa using Hhb1.out))
    go_upto_region 3 with fail
    refine wp_region_fromM (fun W => Sep w [] [] W) hM ?_
    clear hM
    rintro Y20 hM
    refine tF 3 [.val 0 (some 12) (.int .i64 (chkP (l.map plP))), .val 1 (some 2) (.slice none 0 0), .val 2 (some 3) (.int .i64 (chkP (l.map plP)))] trivial ?_
    refine dF ?_
    try simp only [puts, Tk.put, Act.put, List.setIfInBounds_toArray, List.set_cons_zero, List.set_cons_succ]
    have hN := (hM.sub (l' := []) (List.nil_sublist _)).nil ocM 5 1
    go_wp2_with fail
    go_ret2
    exact ⟨_, by rw [HP.out.1]; rfl, by rw [HP.out.2]; exact hN⟩
end Go.Proofs.YtemknjnljciioaaGreat
