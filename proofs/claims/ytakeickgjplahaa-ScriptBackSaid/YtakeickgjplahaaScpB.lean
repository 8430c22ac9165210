/-
  The law: scripts come back from their octets, and octets from their scripts.
-/
import Derived.Test.YtakeickgjplahaaScpL
namespace Go.Proofs.Ytakeickgjplahaa
open Go.RowKit Go.Shelf
attribute [local irreducible] wpFrom wpAnyH StepH

set_option maxRecDepth 100000 in
set_option maxHeartbeats 4000000 in
theorem scriptBack_any {l : List Sp} {v : Value} {b : List UInt8} {vb : Value} {lo hi : Nat} (w : World) (hl : RSl spc lo hi w v l) (hhi : hi ≤ w.heap.size) (hkk : Holds w.heap.size w (zsP l)) (hsb : BSl 0 w.heap.size w vb b) (hrb : b.length ≤ 140737488351232) : Calls Try.prog 3 #[v, vb] w fun e W' => e = .returned (.bool true) ∧ Below w.heap.size w W' := by
  have hmx : Try.prog.follows .mixedOrders = true := by kernel_rfl
  have HEl := Lib.hid (fun k x (hx : l[k]? = some x) => hl.elem spc_len hx Try.underlying22 (fun W => by kernel_rfl))
  obtain ⟨pl, cl, rfl⟩ := hl.slice
  have HLl := Lib.hid hl
  have HHl := Lib.hid hhi
  have HLENl := Lib.hid (show l.length ≤ 9223372036854775807 from by have h := hl.len; unfold maxLen at h; omega)
  clear hl hhi
  have HKK := Lib.hid hkk
  clear hkk
  obtain ⟨ab, cb, rfl, _⟩ := hsb.slice
  have HSB := Lib.hid hsb
  have HRB := Lib.hid hrb
  clear hsb hrb
  have hM := Sep.start w
  go_enter Try.func3, Try.ntmps3
  go_upto_region 0 with fail
  refine wp_region_fromM (fun W => Sep w [] [] W) hM ?_
  clear hM
  rintro Y1 hM
  refine tF 1 [.val 0 (some 4) (.bool false)] trivial ?_
  refine dF ?_
  try simp only [puts, Tk.put, Act.put, List.setIfInBounds_toArray, List.set_cons_zero, List.set_cons_succ]
  go_upto_region 1 with fail
  refine wp_region_fromM (fun W => Sep w [] [] W) hM ?_
  clear hM
  rintro Y2 hM
  refine cF (some 13) 4 #[] ((alive25_any _).mono ?_)
  rintro e Y3 ⟨rfl, hb⟩
  replace hM := hM.below hb
  clear hb
  refine tF 2 [.val 1 (some 14) (.bool false)] trivial ?_
  refine dF ?_
  try simp only [puts, Tk.put, Act.put, List.setIfInBounds_toArray, List.set_cons_zero, List.set_cons_succ]
  go_upto_region 3 with fail
  refine wp_region_fromM (fun W => Sep w [] [] W) hM ?_
  clear hM
  rintro Y4 hM
  refine tF 1 [.val 0 (some 16) (.slice pl l.length cl)] trivial ?_
  refine cF (some 17) 5 #[.slice pl l.length cl] ((putP_any l _ _ (HLl.out.below hM.b HHl.out) (Nat.le_trans HHl.out hM.size) (HKK.out.up hM.b)).mono ?_)
  rintro e Y5 ⟨v5p, rfl, hR⟩
  replace hM := hM.gain hR
  clear hR
  obtain ⟨pv5p, cv5p, rfl⟩ := (hM.oka 0 rfl).slice ocM_len
  refine tF 7 [.val 2 (some 15) (.tuple #[.slice pv5p (putP (l.map plP)).length cv5p, .int .i64 (errP (l.map plP))]), .val 3 (some 18) (.slice pv5p (putP (l.map plP)).length cv5p), .val 4 (some 19) (.int .i64 (errP (l.map plP))), .val 5 (some 5) (.slice pv5p (putP (l.map plP)).length cv5p), .val 6 (some 6) (.int .i64 (errP (l.map plP)))] trivial ?_
  refine dF ?_
  try simp only [puts, Tk.put, Act.put, List.setIfInBounds_toArray, List.set_cons_zero, List.set_cons_succ]
  go_upto_region 4 with fail
  refine wp_region_fromM (fun W => Sep w [] [.own ocM 5 1 (.slice pv5p (putP (l.map plP)).length cv5p) (putP (l.map plP))] W) hM ?_
  clear hM
  rintro Y6 hM
  refine tF 2 [.val 0 (some 20) (.int .i64 (errP (l.map plP))), .val 1 (some 21) (.bool ((errP (l.map plP)) == 0))] trivial ?_
  refine dF ?_
  try simp only [puts, Tk.put, Act.put, List.setIfInBounds_toArray, List.set_cons_zero, List.set_cons_succ]
  cases hb1 : (errP (l.map plP)) == 0 with
  | false =>
    have Hhb1 := Lib.hid hb1
    clear hb1
    have HP : Hid (putP (l.map plP) = []) := Lib.hid (put_no (ne_of_beq_false Hhb1.out))
    go_upto_region 8 with fail
    refine wp_region_fromM (fun W => Sep w [] [.own ocM 5 1 (.slice pv5p (putP (l.map plP)).length cv5p) (putP (l.map plP))] W) hM ?_
    clear hM
    rintro Y7 hM
    refine tF 3 [.val 0 (some 35) (.slice pv5p (putP (l.map plP)).length cv5p), .val 1 (some 36) (.int .i64 ((putP (l.map plP)).length : Int)), .alt 2 (some 37) (.bool (((putP (l.map plP)).length : Int) != 0)) (.bool false)] ⟨congrArg Value.bool ((by rw [HP.out]; rfl)), trivial⟩ ?_
    refine dF ?_
    try simp only [puts, Tk.put, Act.put, List.setIfInBounds_toArray, List.set_cons_zero, List.set_cons_succ]
    go_upto_region 10 with fail
    refine wp_region_fromM (fun W => Sep w [] [.own ocM 5 1 (.slice pv5p (putP (l.map plP)).length cv5p) (putP (l.map plP))] W) hM ?_
    clear hM
    rintro Y8 hM
    refine tF 1 [.val 0 (some 39) (.slice ab b.length cb)] trivial ?_
    refine cF (some 40) 6 #[.slice ab b.length cb] ((readP_any b _ (HRB.out) (((HSB.out.below hM.b (Nat.le_refl _)).mono (Nat.le_refl _) hM.size))).mono ?_)
    rintro e Y9 ⟨v9r, xs9, er9, rfl, hd, hR⟩
    have HD9 := Lib.hid hd
    replace hM := hM.gain2 hR
    clear hR hd
    obtain ⟨pv9r, cv9r, rfl⟩ := (hM.oka 0 rfl).slice spc_len
    refine tF 7 [.val 2 (some 38) (.tuple #[.slice pv9r xs9.length cv9r, .int .i64 er9]), .val 3 (some 41) (.slice pv9r xs9.length cv9r), .val 4 (some 42) (.int .i64 er9), .val 5 (some 9) (.slice pv9r xs9.length cv9r), .val 6 (some 10) (.int .i64 er9)] trivial ?_
    refine dF ?_
    try simp only [puts, Tk.put, Act.put, List.setIfInBounds_toArray, List.set_cons_zero, List.set_cons_succ]
    go_upto_region 11 with fail
    refine wp_region_fromM (fun W => Sep w [] [.own spc 33 5 (.slice pv9r xs9.length cv9r) (xs9), .octs (zsP xs9), .own ocM 5 1 (.slice pv5p (putP (l.map plP)).length cv5p) (putP (l.map plP))] W) hM ?_
    clear hM
    rintro Y10 hM
    refine tF 2 [.val 0 (some 43) (.int .i64 er9), .val 1 (some 44) (.bool (er9 != 0))] trivial ?_
    refine dF ?_
    try simp only [puts, Tk.put, Act.put, List.setIfInBounds_toArray, List.set_cons_zero, List.set_cons_succ]
    cases hb2 : er9 != 0 with
    | false =>
      have Hhb2 := Lib.hid hb2
      clear hb2
      have HPB := Lib.hid (rd_put HD9.out (by simpa using Hhb2.out))
      go_upto_region 13 with fail
      refine wp_region_fromM (fun W => Sep w [] [.own spc 33 5 (.slice pv9r xs9.length cv9r) (xs9), .octs (zsP xs9), .own ocM 5 1 (.slice pv5p (putP (l.map plP)).length cv5p) (putP (l.map plP))] W) hM ?_
      clear hM
      rintro Y11 hM
      refine tF 1 [.val 0 (some 49) (.slice pv9r xs9.length cv9r)] trivial ?_
      refine cF (some 50) 5 #[.slice pv9r xs9.length cv9r] ((putP_any xs9 _ _ ((hM.oka 0 rfl).rsl spc_len) (Nat.le_refl _) (hM.oka 1 rfl).hold).mono ?_)
      rintro e Y12 ⟨v12p, rfl, hR⟩
      replace hM := hM.gain hR
      clear hR
      obtain ⟨pv12p, cv12p, rfl⟩ := (hM.oka 0 rfl).slice ocM_len
      refine tF 7 [.val 2 (some 48) (.tuple #[.slice pv12p (putP (xs9.map plP)).length cv12p, .int .i64 (errP (xs9.map plP))]), .val 3 (some 51) (.slice pv12p (putP (xs9.map plP)).length cv12p), .val 4 (some 52) (.int .i64 (errP (xs9.map plP))), .val 5 (some 11) (.slice pv12p (putP (xs9.map plP)).length cv12p), .val 6 (some 12) (.int .i64 (errP (xs9.map plP)))] trivial ?_
      refine dF ?_
      try simp only [puts, Tk.put, Act.put, List.setIfInBounds_toArray, List.set_cons_zero, List.set_cons_succ]
      go_upto_region 14 with fail
      refine wp_region_fromM (fun W => Sep w [] [.own ocM 5 1 (.slice pv12p (putP (xs9.map plP)).length cv12p) (putP (xs9.map plP)), .own spc 33 5 (.slice pv9r xs9.length cv9r) (xs9), .octs (zsP xs9), .own ocM 5 1 (.slice pv5p (putP (l.map plP)).length cv5p) (putP (l.map plP))] W) hM ?_
      clear hM
      rintro Y13 hM
      refine tF 4 [.val 0 (some 53) (.int .i64 (errP (xs9.map plP))), .alt 1 (some 54) (.bool ((errP (xs9.map plP)) == 0)) (.bool true), .val 2 (some 55) (.bool true), .val 3 (some 56) (.slice pv12p (putP (xs9.map plP)).length cv12p)] ⟨congrArg Value.bool ((by rw [HPB.out.1]; rfl)), trivial⟩ ?_
      refine cvF (.tmp 56) (some 57) (.slice pv12p (putP (xs9.map plP)).length cv12p) (.string (txB (putP (xs9.map plP)))) (cvT (hM.oka 0 rfl).own_bsl) ?_
      refine tF 6 [.val 5 (some 58) (.slice ab b.length cb)] trivial ?_
      refine cvF (.tmp 58) (some 59) (.slice ab b.length cb) (.string (txB b)) (cvT ((HSB.out.below hM.b (Nat.le_refl _)).mono (Nat.le_refl _) hM.size)) ?_
      refine tF 10 [.alt 7 (some 60) (.bool ((txB (putP (xs9.map plP))).toList == (txB b).toList)) (.bool true), .val 8 (some 61) (.bool true), .val 9 (some 4) (.bool true)] ⟨congrArg Value.bool ((by rw [HPB.out.2]; exact beq_self_eq_true _)), trivial⟩ ?_
      refine dF ?_
      try simp only [puts, Tk.put, Act.put, List.setIfInBounds_toArray, List.set_cons_zero, List.set_cons_succ]
      go_wp2_with fail
      go_ret
      exact ⟨rfl, hM.b⟩
    | true =>
      have Hhb2 := Lib.hid hb2
      clear hb2
      have HX : Hid (xs9.length = 0) := Lib.hid (rd_none HD9.out (by simpa using Hhb2.out))
      go_upto_region 12 with fail
      refine wp_region_fromM (fun W => Sep w [] [.own spc 33 5 (.slice pv9r xs9.length cv9r) (xs9), .octs (zsP xs9), .own ocM 5 1 (.slice pv5p (putP (l.map plP)).length cv5p) (putP (l.map plP))] W) hM ?_
      clear hM
      rintro Y14 hM
      refine tF 4 [.val 0 (some 45) (.slice pv9r xs9.length cv9r), .val 1 (some 46) (.int .i64 (xs9.length : Int)), .alt 2 (some 47) (.bool ((xs9.length : Int) == 0)) (.bool true), .val 3 (some 4) (.bool true)] ⟨congrArg Value.bool ((by rw [HX.out]; rfl)), trivial⟩ ?_
      refine dF ?_
      try simp only [puts, Tk.put, Act.put, List.setIfInBounds_toArray, List.set_cons_zero, List.set_cons_succ]
      go_wp2_with fail
      go_ret
      exact ⟨rfl, hM.b⟩
  | true =>
    have Hhb1 := Lib.hid hb1
    clear hb1
    have HE : Hid (errP (l.map plP) = 0) := Lib.hid (eq_of_beq Hhb1.out)
    go_upto_region 5 with fail
    refine wp_region_fromM (fun W => Sep w [] [.own ocM 5 1 (.slice pv5p (putP (l.map plP)).length cv5p) (putP (l.map plP))] W) hM ?_
    clear hM
    rintro Y15 hM
    refine tF 1 [.val 0 (some 23) (.slice pv5p (putP (l.map plP)).length cv5p)] trivial ?_
    refine cF (some 24) 6 #[.slice pv5p (putP (l.map plP)).length cv5p] ((readP_any (putP (l.map plP)) _ (Nat.le_trans (putP_len _) (by decide)) ((hM.oka 0 rfl).own_bsl)).mono ?_)
    rintro e Y16 ⟨v16r, xs16, er16, rfl, hd, hR⟩
    have HD16 := Lib.hid hd
    replace hM := hM.gain2 hR
    clear hR hd
    obtain ⟨pv16r, cv16r, rfl⟩ := (hM.oka 0 rfl).slice spc_len
    have HBer16 := Lib.hid (rd_back HE.out HD16.out)
    refine tF 7 [.val 2 (some 22) (.tuple #[.slice pv16r xs16.length cv16r, .int .i64 er16]), .val 3 (some 25) (.slice pv16r xs16.length cv16r), .val 4 (some 26) (.int .i64 er16), .val 5 (some 7) (.slice pv16r xs16.length cv16r), .val 6 (some 8) (.int .i64 er16)] trivial ?_
    refine dF ?_
    try simp only [puts, Tk.put, Act.put, List.setIfInBounds_toArray, List.set_cons_zero, List.set_cons_succ]
    go_upto_region 6 with fail
    refine wp_region_fromM (fun W => Sep w [] [.own spc 33 5 (.slice pv16r xs16.length cv16r) (xs16), .octs (zsP xs16), .own ocM 5 1 (.slice pv5p (putP (l.map plP)).length cv5p) (putP (l.map plP))] W) hM ?_
    clear hM
    rintro Y17 hM
    refine tF 5 [.val 0 (some 27) (.int .i64 er16), .alt 1 (some 28) (.bool (er16 != 0)) (.bool false), .val 2 (some 29) (.bool false), .val 3 (some 30) (.slice pl l.length cl), .val 4 (some 31) (.slice pv16r xs16.length cv16r)] ⟨congrArg Value.bool ((by rw [HBer16.out.1]; rfl)), trivial⟩ ?_
    refine cF (some 32) 7 #[.slice pl l.length cl, .slice pv16r xs16.length cv16r] ((same25_any (la := l) (lb := xs16) _ (HLl.out.below hM.b HHl.out) (Nat.le_trans HHl.out hM.size) ((hM.oka 0 rfl).rsl spc_len) (Nat.le_refl _) (HKK.out.up hM.b) (hM.oka 1 rfl).hold (HBer16.out.2.symm)).mono ?_)
    rintro e Y18 ⟨rfl, hb⟩
    replace hM := hM.below hb
    clear hb
    refine tF 8 [.val 6 (some 33) (.bool false), .val 7 (some 34) (.bool false)] trivial ?_
    refine dF ?_
    try simp only [puts, Tk.put, Act.put, List.setIfInBounds_toArray, List.set_cons_zero, List.set_cons_succ]
    go_upto_region 10 with fail
    refine wp_region_fromM (fun W => Sep w [] [.own spc 33 5 (.slice pv16r xs16.length cv16r) (xs16), .octs (zsP xs16), .own ocM 5 1 (.slice pv5p (putP (l.map plP)).length cv5p) (putP (l.map plP))] W) hM ?_
    clear hM
    rintro Y19 hM
    refine tF 1 [.val 0 (some 39) (.slice ab b.length cb)] trivial ?_
    refine cF (some 40) 6 #[.slice ab b.length cb] ((readP_any b _ (HRB.out) (((HSB.out.below hM.b (Nat.le_refl _)).mono (Nat.le_refl _) hM.size))).mono ?_)
    rintro e Y20 ⟨v20r, xs20, er20, rfl, hd, hR⟩
    have HD20 := Lib.hid hd
    replace hM := hM.gain2 hR
    clear hR hd
    obtain ⟨pv20r, cv20r, rfl⟩ := (hM.oka 0 rfl).slice spc_len
    refine tF 7 [.val 2 (some 38) (.tuple #[.slice pv20r xs20.length cv20r, .int .i64 er20]), .val 3 (some 41) (.slice pv20r xs20.length cv20r), .val 4 (some 42) (.int .i64 er20), .val 5 (some 9) (.slice pv20r xs20.length cv20r), .val 6 (some 10) (.int .i64 er20)] trivial ?_
    refine dF ?_
    try simp only [puts, Tk.put, Act.put, List.setIfInBounds_toArray, List.set_cons_zero, List.set_cons_succ]
    go_upto_region 11 with fail
    refine wp_region_fromM (fun W => Sep w [] [.own spc 33 5 (.slice pv20r xs20.length cv20r) (xs20), .octs (zsP xs20), .own spc 33 5 (.slice pv16r xs16.length cv16r) (xs16), .octs (zsP xs16), .own ocM 5 1 (.slice pv5p (putP (l.map plP)).length cv5p) (putP (l.map plP))] W) hM ?_
    clear hM
    rintro Y21 hM
    refine tF 2 [.val 0 (some 43) (.int .i64 er20), .val 1 (some 44) (.bool (er20 != 0))] trivial ?_
    refine dF ?_
    try simp only [puts, Tk.put, Act.put, List.setIfInBounds_toArray, List.set_cons_zero, List.set_cons_succ]
    cases hb3 : er20 != 0 with
    | false =>
      have Hhb3 := Lib.hid hb3
      clear hb3
      have HPB := Lib.hid (rd_put HD20.out (by simpa using Hhb3.out))
      go_upto_region 13 with fail
      refine wp_region_fromM (fun W => Sep w [] [.own spc 33 5 (.slice pv20r xs20.length cv20r) (xs20), .octs (zsP xs20), .own spc 33 5 (.slice pv16r xs16.length cv16r) (xs16), .octs (zsP xs16), .own ocM 5 1 (.slice pv5p (putP (l.map plP)).length cv5p) (putP (l.map plP))] W) hM ?_
      clear hM
      rintro Y22 hM
      refine tF 1 [.val 0 (some 49) (.slice pv20r xs20.length cv20r)] trivial ?_
      refine cF (some 50) 5 #[.slice pv20r xs20.length cv20r] ((putP_any xs20 _ _ ((hM.oka 0 rfl).rsl spc_len) (Nat.le_refl _) (hM.oka 1 rfl).hold).mono ?_)
      rintro e Y23 ⟨v23p, rfl, hR⟩
      replace hM := hM.gain hR
      clear hR
      obtain ⟨pv23p, cv23p, rfl⟩ := (hM.oka 0 rfl).slice ocM_len
      refine tF 7 [.val 2 (some 48) (.tuple #[.slice pv23p (putP (xs20.map plP)).length cv23p, .int .i64 (errP (xs20.map plP))]), .val 3 (some 51) (.slice pv23p (putP (xs20.map plP)).length cv23p), .val 4 (some 52) (.int .i64 (errP (xs20.map plP))), .val 5 (some 11) (.slice pv23p (putP (xs20.map plP)).length cv23p), .val 6 (some 12) (.int .i64 (errP (xs20.map plP)))] trivial ?_
      refine dF ?_
      try simp only [puts, Tk.put, Act.put, List.setIfInBounds_toArray, List.set_cons_zero, List.set_cons_succ]
      go_upto_region 14 with fail
      refine wp_region_fromM (fun W => Sep w [] [.own ocM 5 1 (.slice pv23p (putP (xs20.map plP)).length cv23p) (putP (xs20.map plP)), .own spc 33 5 (.slice pv20r xs20.length cv20r) (xs20), .octs (zsP xs20), .own spc 33 5 (.slice pv16r xs16.length cv16r) (xs16), .octs (zsP xs16), .own ocM 5 1 (.slice pv5p (putP (l.map plP)).length cv5p) (putP (l.map plP))] W) hM ?_
      clear hM
      rintro Y24 hM
      refine tF 4 [.val 0 (some 53) (.int .i64 (errP (xs20.map plP))), .alt 1 (some 54) (.bool ((errP (xs20.map plP)) == 0)) (.bool true), .val 2 (some 55) (.bool true), .val 3 (some 56) (.slice pv23p (putP (xs20.map plP)).length cv23p)] ⟨congrArg Value.bool ((by rw [HPB.out.1]; rfl)), trivial⟩ ?_
      refine cvF (.tmp 56) (some 57) (.slice pv23p (putP (xs20.map plP)).length cv23p) (.string (txB (putP (xs20.map plP)))) (cvT (hM.oka 0 rfl).own_bsl) ?_
      refine tF 6 [.val 5 (some 58) (.slice ab b.length cb)] trivial ?_
      refine cvF (.tmp 58) (some 59) (.slice ab b.length cb) (.string (txB b)) (cvT ((HSB.out.below hM.b (Nat.le_refl _)).mono (Nat.le_refl _) hM.size)) ?_
      refine tF 10 [.alt 7 (some 60) (.bool ((txB (putP (xs20.map plP))).toList == (txB b).toList)) (.bool true), .val 8 (some 61) (.bool true), .val 9 (some 4) (.bool true)] ⟨congrArg Value.bool ((by rw [HPB.out.2]; exact beq_self_eq_true _)), trivial⟩ ?_
      refine dF ?_
      try simp only [puts, Tk.put, Act.put, List.setIfInBounds_toArray, List.set_cons_zero, List.set_cons_succ]
      go_wp2_with fail
      go_ret
      exact ⟨rfl, hM.b⟩
    | true =>
      have Hhb3 := Lib.hid hb3
      clear hb3
      have HX : Hid (xs20.length = 0) := Lib.hid (rd_none HD20.out (by simpa using Hhb3.out))
      go_upto_region 12 with fail
      refine wp_region_fromM (fun W => Sep w [] [.own spc 33 5 (.slice pv20r xs20.length cv20r) (xs20), .octs (zsP xs20), .own spc 33 5 (.slice pv16r xs16.length cv16r) (xs16), .octs (zsP xs16), .own ocM 5 1 (.slice pv5p (putP (l.map plP)).length cv5p) (putP (l.map plP))] W) hM ?_
      clear hM
      rintro Y25 hM
      refine tF 4 [.val 0 (some 45) (.slice pv20r xs20.length cv20r), .val 1 (some 46) (.int .i64 (xs20.length : Int)), .alt 2 (some 47) (.bool ((xs20.length : Int) == 0)) (.bool true), .val 3 (some 4) (.bool true)] ⟨congrArg Value.bool ((by rw [HX.out]; rfl)), trivial⟩ ?_
      refine dF ?_
      try simp only [puts, Tk.put, Act.put, List.setIfInBounds_toArray, List.set_cons_zero, List.set_cons_succ]
      go_wp2_with fail
      go_ret
      exact ⟨rfl, hM.b⟩
end Go.Proofs.Ytakeickgjplahaa
