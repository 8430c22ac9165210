/-
  The laws of scripts: the page's example; steps against steps.
-/
import Derived.Test.YtakeickgjplahaaScpI
namespace Go.Proofs.Ytakeickgjplahaa
open Go.RowKit Go.Shelf
attribute [local irreducible] wpFrom wpAnyH StepH

theorem rd_back {l : List Stp} {xs : List Sp} {er : Int} (h : errP l = 0) (hd : (er ≠ 0 ∧ xs = [] ∧ NoScr (putP l)) ∨ (er = 0 ∧ putP l = joinP (xs.map plP) ∧ (∀ s ∈ xs.map plP, OkS s) ∧ xs.length ≤ 512 ∧ (putP l).length ≤ 8192)) : er = 0 ∧ xs.map plP = l := by
  obtain ⟨h1, h2, h3, h4⟩ := err_ok h
  rw [h4] at hd
  rcases hd with ⟨_, _, hn⟩ | ⟨h5, h6, h7, _⟩
  · exact (noScr h2 h1 h3 hn).elim
  · exact ⟨h5, (join_one _ _ [] h7 h2 (by rw [List.append_nil]; exact h6.symm) szF_nil).1⟩
theorem rd_put {b : List UInt8} {xs : List Sp} {er : Int} (hd : (er ≠ 0 ∧ xs = [] ∧ NoScr b) ∨ (er = 0 ∧ b = joinP (xs.map plP) ∧ (∀ s ∈ xs.map plP, OkS s) ∧ xs.length ≤ 512 ∧ b.length ≤ 8192)) (h : er = 0) : errP (xs.map plP) = 0 ∧ putP (xs.map plP) = b := by
  rcases hd with ⟨h1, _⟩ | ⟨_, h2, h3, h4, h5⟩
  · exact (h1 h).elim
  · subst h2
    exact ok_err (by rw [List.length_map]; exact h4) h3 h5
theorem rd_none {b : List UInt8} {xs : List Sp} {er : Int} (hd : (er ≠ 0 ∧ xs = [] ∧ NoScr b) ∨ (er = 0 ∧ b = joinP (xs.map plP) ∧ (∀ s ∈ xs.map plP, OkS s) ∧ xs.length ≤ 512 ∧ b.length ≤ 8192)) (h : er ≠ 0) : xs.length = 0 := by
  rcases hd with ⟨_, h1, _⟩ | ⟨h1, _⟩
  · rw [h1]
    rfl
  · exact (h h1).elim
theorem put_no {l : List Stp} (h : errP l ≠ 0) : putP l = [] := if_pos h
theorem putP_len (l : List Stp) : (putP l).length ≤ 8192 := by
  by_cases h : errP l = 0
  · obtain ⟨_, _, h3, h4⟩ := err_ok h
    rw [h4]
    exact h3
  · rw [put_no h]
    simp
theorem sone_of {ms : List Sp} {y : Stp} (h : ms.map plP = [y]) : ∃ m, ms = [m] ∧ plP m = y := by
  match ms, h with
  | [m], h => exact ⟨m, rfl, (List.cons.inj h).1⟩
theorem ps_at {la lb : List Sp} {j : Nat} {a b : Sp} (h : la.map plP = lb.map plP) (ha : la[j]? = some a) (hb : lb[j]? = some b) : plP a = plP b := by
  have h1 : (la.map plP)[j]? = (lb.map plP)[j]? := by rw [h]
  rw [List.getElem?_map, List.getElem?_map, ha, hb] at h1
  exact Option.some.inj h1
theorem al_err : errP ([Sp.mk 3 (-1) 0 0 none 0 []].map plP) = 0 ∧ putP ([Sp.mk 3 (-1) 0 0 none 0 []].map plP) = joinP ([Sp.mk 3 (-1) 0 0 none 0 []].map plP) :=
  ok_err (by simp) (fun s hs => by obtain rfl := List.mem_singleton.1 hs; exact ⟨bnd_fit (by simp [plP]), by simp [plP]⟩) (by simp [joinP, octP_len, plP])
theorem al_len : (putP ([Sp.mk 3 (-1) 0 0 none 0 []].map plP)).length = 9 := by
  rw [al_err.2]
  simp [joinP, octP_len, plP]
set_option maxRecDepth 100000 in
set_option maxHeartbeats 4000000 in
theorem alive25_any (w : World) : Calls Try.prog 4 #[] w fun e W' => e = .returned (.bool true) ∧ Below w.heap.size w W' := by
  have hmx : Try.prog.follows .mixedOrders = true := by kernel_rfl
  have hM := Sep.start w
  go_enter Try.func4, Try.ntmps4
  go_upto_region 0 with fail
  refine wp_region_fromM (fun W => Sep w [] [] W) hM ?_
  clear hM
  rintro Y1 hM
  refine tF 1 [.val 0 (some 0) (.bool false)] trivial ?_
  refine dF ?_
  try simp only [puts, Tk.put, Act.put, List.setIfInBounds_toArray, List.set_cons_zero]
  go_upto_region 1 with fail
  refine wp_region_fromM (fun W => Sep w [] [] W) hM ?_
  clear hM
  rintro Y2 hM
  refine tF 1 [.val 0 (some 6) (spv (Sp.mk 3 (-1) 0 0 none 0 ([])))] trivial ?_
  refine rF (some 7) (.slice (some ⟨Y2.heap.size, 0, none⟩) 1 1) (Y2.alloc (.cells (spc (Sp.mk 3 (-1) 0 0 none 0 ([]))).toArray 33)) ?_
  replace hM := hM.alloc 33 (spc (Sp.mk 3 (-1) 0 0 none 0 ([])))
  generalize World.alloc _ _ = Y3 at *
  generalize hNe : Y2.heap.size = N3 at *
  clear hNe
  refine cF (some 8) 5 #[.slice (some ⟨N3, 0, none⟩) 1 1] ((putP_any ([Sp.mk 3 (-1) 0 0 none 0 ([])]) _ _ (rsl_blk (f := spc) (x := Sp.mk 3 (-1) 0 0 none 0 ([])) (hM.at 0 rfl)) (Nat.le_refl _) (Holds.one (z := Sp.z (Sp.mk 3 (-1) 0 0 none 0 ([]))) ((BSl.nil 0 _ _)))).mono ?_)
  rintro e Y4 ⟨v4p, rfl, hR⟩
  replace hM := hM.gain hR
  clear hR
  obtain ⟨pv4p, cv4p, rfl⟩ := (hM.oka 0 rfl).slice ocM_len
  refine tF 8 [.val 3 (some 5) (.tuple #[.slice pv4p (putP (([Sp.mk 3 (-1) 0 0 none 0 ([])]).map plP)).length cv4p, .int .i64 (errP (([Sp.mk 3 (-1) 0 0 none 0 ([])]).map plP))]), .val 4 (some 9) (.slice pv4p (putP (([Sp.mk 3 (-1) 0 0 none 0 ([])]).map plP)).length cv4p), .val 5 (some 10) (.int .i64 (errP (([Sp.mk 3 (-1) 0 0 none 0 ([])]).map plP))), .val 6 (some 1) (.slice pv4p (putP (([Sp.mk 3 (-1) 0 0 none 0 ([])]).map plP)).length cv4p), .val 7 (some 2) (.int .i64 (errP (([Sp.mk 3 (-1) 0 0 none 0 ([])]).map plP)))] trivial ?_
  refine dF ?_
  try simp only [puts, Tk.put, Act.put, List.setIfInBounds_toArray, List.set_cons_zero, List.set_cons_succ]
  go_upto_region 2 with fail
  refine wp_region_fromM (fun W => Sep w [] [.own ocM 5 1 (.slice pv4p (putP (([Sp.mk 3 (-1) 0 0 none 0 ([])]).map plP)).length cv4p) (putP (([Sp.mk 3 (-1) 0 0 none 0 ([])]).map plP)), .blk N3 33 (spc (Sp.mk 3 (-1) 0 0 none 0 ([])))] W) hM ?_
  clear hM
  rintro Y5 hM
  refine tF 1 [.val 0 (some 12) (.slice pv4p (putP (([Sp.mk 3 (-1) 0 0 none 0 ([])]).map plP)).length cv4p)] trivial ?_
  refine cF (some 13) 6 #[.slice pv4p (putP (([Sp.mk 3 (-1) 0 0 none 0 ([])]).map plP)).length cv4p] ((readP_any (putP (([Sp.mk 3 (-1) 0 0 none 0 ([])]).map plP)) _ (by rw [al_len]; decide) ((hM.oka 0 rfl).own_bsl)).mono ?_)
  rintro e Y6 ⟨v6r, xs6, er6, rfl, hd, hR⟩
  have HD6 := Lib.hid hd
  replace hM := hM.gain2 hR
  clear hR hd
  obtain ⟨pv6r, cv6r, rfl⟩ := (hM.oka 0 rfl).slice spc_len
  obtain ⟨hz, hx⟩ := rd_back al_err.1 HD6.out
  obtain ⟨m, hm, hp⟩ := sone_of (show xs6.map plP = [plP (Sp.mk 3 (-1) 0 0 none 0 [])] from hx)
  have HZ := Lib.hid hz
  have HM0 := Lib.hid hm
  have HXA := Lib.hid (show m.xa = -1 from congrArg Stp.xa hp)
  clear hz hx hm hp
  refine tF 7 [.val 2 (some 11) (.tuple #[.slice pv6r xs6.length cv6r, .int .i64 er6]), .val 3 (some 14) (.slice pv6r xs6.length cv6r), .val 4 (some 15) (.int .i64 er6), .val 5 (some 3) (.slice pv6r xs6.length cv6r), .val 6 (some 4) (.int .i64 er6)] trivial ?_
  refine dF ?_
  try simp only [puts, Tk.put, Act.put, List.setIfInBounds_toArray, List.set_cons_zero, List.set_cons_succ]
  go_upto_region 3 with fail
  obtain ⟨bt, ot, hit, hct⟩ := (hM.oka 0 rfl).elem spc_len (show xs6[0]? = some m from by rw [HM0.out]; rfl) Try.underlying22 (fun W => by kernel_rfl)
  have HIt := Lib.hid hit
  have HCt := Lib.hid hct
  clear hit hct
  refine wp_region_fromM (fun W => Sep w [] [.own spc 33 5 (.slice pv6r xs6.length cv6r) (xs6), .octs (zsP xs6), .own ocM 5 1 (.slice pv4p (putP (([Sp.mk 3 (-1) 0 0 none 0 ([])]).map plP)).length cv4p) (putP (([Sp.mk 3 (-1) 0 0 none 0 ([])]).map plP)), .blk N3 33 (spc (Sp.mk 3 (-1) 0 0 none 0 ([])))] W) hM ?_
  clear hM
  rintro Y7 hM
  refine tF 24 [.val 0 (some 16) (.int .i64 (errP (([Sp.mk 3 (-1) 0 0 none 0 ([])]).map plP))), .alt 1 (some 17) (.bool ((errP (([Sp.mk 3 (-1) 0 0 none 0 ([])]).map plP)) == 0)) (.bool true), .val 2 (some 18) (.bool true), .val 3 (some 19) (.int .i64 er6), .alt 4 (some 20) (.bool (er6 == 0)) (.bool true), .val 5 (some 21) (.bool true), .val 6 (some 22) (.bool true), .val 7 (some 23) (.slice pv4p (putP (([Sp.mk 3 (-1) 0 0 none 0 ([])]).map plP)).length cv4p), .val 8 (some 24) (.int .i64 ((putP (([Sp.mk 3 (-1) 0 0 none 0 ([])]).map plP)).length : Int)), .alt 9 (some 25) (.bool (((putP (([Sp.mk 3 (-1) 0 0 none 0 ([])]).map plP)).length : Int) == 9)) (.bool true), .val 10 (some 26) (.bool true), .val 11 (some 27) (.bool true), .val 12 (some 28) (.slice pv6r xs6.length cv6r), .val 13 (some 29) (.int .i64 (xs6.length : Int)), .alt 14 (some 30) (.bool ((xs6.length : Int) == 1)) (.bool true), .val 15 (some 31) (.bool true), .val 16 (some 32) (.bool true), .val 17 (some 33) (.slice pv6r xs6.length cv6r), .idx 18 (some 34) 22 (.slice pv6r xs6.length cv6r) (.int .i64 0) (pt bt ot), .val 19 (some 35) (pt bt (ot + 1)), .load 20 (some 36) 3 (pt bt (ot + 1)) (.int .i64 m.xa), .alt 21 (some 37) (.bool (m.xa == (-1))) (.bool true), .val 22 (some 38) (.bool true), .val 23 (some 0) (.bool true)] ⟨congrArg Value.bool ((by rw [al_err.1]; rfl)), congrArg Value.bool ((by rw [HZ.out]; rfl)), congrArg Value.bool ((by rw [al_len]; rfl)), congrArg Value.bool ((by rw [HM0.out]; rfl)), HIt.out _, ld_cell _ _ Try.underlying3 rfl (HCt.out _ (hM.oka 0 rfl) 1 _ rfl), congrArg Value.bool ((by rw [HXA.out]; rfl)), trivial⟩ ?_
  refine dF ?_
  try simp only [puts, Tk.put, Act.put, List.setIfInBounds_toArray, List.set_cons_zero, List.set_cons_succ]
  go_wp2_with fail
  go_ret
  exact ⟨rfl, hM.b⟩
set_option maxRecDepth 100000 in
set_option maxHeartbeats 4000000 in
theorem same25_any {la lb : List Sp} {v1 v2 : Value} {lo1 hi1 lo2 hi2 : Nat} (w : World) (h1 : RSl spc lo1 hi1 w v1 la) (hh1 : hi1 ≤ w.heap.size) (h2 : RSl spc lo2 hi2 w v2 lb) (hh2 : hi2 ≤ w.heap.size) (k1 : Holds w.heap.size w (zsP la)) (k2 : Holds w.heap.size w (zsP lb)) (he : la.map plP = lb.map plP) : Calls Try.prog 7 #[v1, v2] w fun e W' => e = .returned (.bool true) ∧ Below w.heap.size w W' := by
  have hmx : Try.prog.follows .mixedOrders = true := by kernel_rfl
  have HEa := Lib.hid (fun k x (hx : la[k]? = some x) => h1.elem spc_len hx Try.underlying22 (fun W => by kernel_rfl))
  obtain ⟨pa, ca, rfl⟩ := h1.slice
  have HLa := Lib.hid h1
  have HHa := Lib.hid hh1
  have HLENa := Lib.hid (show la.length ≤ 9223372036854775807 from by have h := h1.len; unfold maxLen at h; omega)
  clear h1 hh1
  have HEb := Lib.hid (fun k x (hx : lb[k]? = some x) => h2.elem spc_len hx Try.underlying22 (fun W => by kernel_rfl))
  obtain ⟨pb, cb, rfl⟩ := h2.slice
  have HLb := Lib.hid h2
  have HHb := Lib.hid hh2
  have HLENb := Lib.hid (show lb.length ≤ 9223372036854775807 from by have h := h2.len; unfold maxLen at h; omega)
  clear h2 hh2
  have KA := Lib.hid k1
  have KB := Lib.hid k2
  have HEQ := Lib.hid he
  have HLQ := Lib.hid (show la.length = lb.length from by have h := congrArg List.length he; rwa [List.length_map, List.length_map] at h)
  clear k1 k2 he
  have hM := Sep.start w
  go_enter Try.func7, Try.ntmps7
  go_upto_region 0 with fail
  refine wp_region_fromM (fun W => Sep w [] [] W) hM ?_
  clear hM
  rintro Y1 hM
  refine tF 1 [.val 0 (some 4) (.bool false)] trivial ?_
  refine dF ?_
  try simp only [puts, Tk.put, Act.put, List.setIfInBounds_toArray, List.set_cons_zero, List.set_cons_succ]
  go_upto_region 1 with fail
  refine wp_region_fromM (fun W => Sep w [] [] W) hM ?_
  clear hM
  rintro Y2 hM
  refine tF 5 [.val 0 (some 6) (.slice pa la.length ca), .val 1 (some 7) (.int .i64 (la.length : Int)), .val 2 (some 8) (.slice pb lb.length cb), .val 3 (some 9) (.int .i64 (lb.length : Int)), .alt 4 (some 10) (.bool ((la.length : Int) != (lb.length : Int))) (.bool false)] ⟨congrArg Value.bool ((by rw [HLQ.out]; exact bne_self_eq_false _)), trivial⟩ ?_
  refine dF ?_
  try simp only [puts, Tk.put, Act.put, List.setIfInBounds_toArray, List.set_cons_zero, List.set_cons_succ]
  go_upto_region 3 with fail
  refine wp_region_fromM (fun W => Sep w [] [] W) hM ?_
  clear hM
  rintro Y3 hM
  refine tF 1 [.val 0 (some 5) (.int .i64 0)] trivial ?_
  refine dF ?_
  try simp only [puts, Tk.put, Act.put, List.setIfInBounds_toArray, List.set_cons_zero, List.set_cons_succ]
  go_wp2_with fail
  go_loopw [5] (fun u5 wr => ∃ j : Nat, j ≤ la.length ∧ u5 = .int .i64 (j : Int) ∧ Sep w [] [] wr) (fun u5 _ => la.length - (intOf u5).toNat)
  case atStart => exact ⟨0, Nat.zero_le _, rfl, hM⟩
  clear hM
  case round =>
    obtain ⟨j, hj, rfl, hM⟩ := hrel
    by_cases hlt : j < la.length
    case pos =>
      have HJ := Lib.hid hlt
      have hlt' : (j : Int) < (la.length : Int) := by omega
      have HLT := Lib.hid hlt'
      obtain ⟨a, hx⟩ : ∃ x, la[j]? = some x := ⟨_, List.getElem?_eq_getElem hlt⟩
      obtain ⟨ba, oa, _, _, hit, hct⟩ := HEa.out j a hx
      have HXa := Lib.hid hx
      have HIa := Lib.hid hit
      have HCa := Lib.hid hct
      clear hx hit hct
      obtain ⟨b, hx⟩ : ∃ x, lb[j]? = some x := ⟨_, List.getElem?_eq_getElem (by have h := HLQ.out; have h2 := HJ.out; omega)⟩
      obtain ⟨bb, ob, _, _, hit, hct⟩ := HEb.out j b hx
      have HXb := Lib.hid hx
      have HIb := Lib.hid hit
      have HCb := Lib.hid hct
      clear hx hit hct
      have HAB := Lib.hid (ps_at HEQ.out HXa.out HXb.out)
      clear hlt hlt'
      go_upto_region 4 with fail
      refine wp_region_fromM (fun W => Sep w [] [] W) hM ?_
      clear hM
      rintro Y4 hM
      refine tF 4 [.val 0 (some 11) (.int .i64 (j : Int)), .val 1 (some 12) (.slice pa la.length ca), .val 2 (some 13) (.int .i64 (la.length : Int)), .alt 3 (some 14) (.bool (decide ((j : Int) < (la.length : Int)))) (.bool true)] ⟨congrArg Value.bool (decide_eq_true HLT.out), trivial⟩ ?_
      refine dF ?_
      try simp only [puts, Tk.put, Act.put, List.setIfInBounds_toArray, List.set_cons_zero, List.set_cons_succ]
      go_upto_region 6 with fail
      refine wp_region_M (fun W => Sep w [] [] W) (fun W => Sep w [] [] W) hmx hM.drew ?_
      clear hM
      rintro Y5 hM
      have hS := hM.sub .slnil
      refine tD 35 [.val 0 (some 17) (.slice pa la.length ca), .val 1 (some 18) (.int .i64 (j : Int)), .idx 2 (some 19) 22 (.slice pa la.length ca) (.int .i64 (j : Int)) (pt ba oa), .val 3 (some 20) (pt ba oa), .load 4 (some 21) 3 (pt ba oa) (.int .i64 a.ki), .val 5 (some 22) (.slice pb lb.length cb), .val 6 (some 23) (.int .i64 (j : Int)), .idx 7 (some 24) 22 (.slice pb lb.length cb) (.int .i64 (j : Int)) (pt bb ob), .val 8 (some 25) (pt bb ob), .load 9 (some 26) 3 (pt bb ob) (.int .i64 b.ki), .alt 10 (some 27) (.bool (a.ki != b.ki)) (.bool false), .val 11 (some 28) (.bool false), .val 12 (some 29) (.slice pa la.length ca), .val 13 (some 30) (.int .i64 (j : Int)), .idx 14 (some 31) 22 (.slice pa la.length ca) (.int .i64 (j : Int)) (pt ba oa), .val 15 (some 32) (pt ba (oa + 1)), .load 16 (some 33) 3 (pt ba (oa + 1)) (.int .i64 a.xa), .val 17 (some 34) (.slice pb lb.length cb), .val 18 (some 35) (.int .i64 (j : Int)), .idx 19 (some 36) 22 (.slice pb lb.length cb) (.int .i64 (j : Int)) (pt bb ob), .val 20 (some 37) (pt bb (ob + 1)), .load 21 (some 38) 3 (pt bb (ob + 1)) (.int .i64 b.xa), .alt 22 (some 39) (.bool (a.xa != b.xa)) (.bool false), .val 23 (some 40) (.bool false), .val 24 (some 41) (.bool false), .val 25 (some 42) (.slice pa la.length ca), .val 26 (some 43) (.int .i64 (j : Int)), .idx 27 (some 44) 22 (.slice pa la.length ca) (.int .i64 (j : Int)) (pt ba oa), .val 28 (some 45) (pt ba (oa + 2)), .load 29 (some 46) 3 (pt ba (oa + 2)) (.int .i64 a.xb)] ⟨fun W h => HIa.out _, fun W h => ld_cell _ _ Try.underlying3 rfl (HCa.out _ (HLa.out.below h.b HHa.out) 0 _ rfl), fun W h => HIb.out _, fun W h => ld_cell _ _ Try.underlying3 rfl (HCb.out _ (HLb.out.below h.b HHb.out) 0 _ rfl), congrArg Value.bool ((by rw [show a.ki = b.ki from congrArg Stp.ki HAB.out]; exact bne_self_eq_false _)), fun W h => HIa.out _, fun W h => ld_cell _ _ Try.underlying3 rfl (HCa.out _ (HLa.out.below h.b HHa.out) 1 _ rfl), fun W h => HIb.out _, fun W h => ld_cell _ _ Try.underlying3 rfl (HCb.out _ (HLb.out.below h.b HHb.out) 1 _ rfl), congrArg Value.bool ((by rw [show a.xa = b.xa from congrArg Stp.xa HAB.out]; exact bne_self_eq_false _)), fun W h => HIa.out _, fun W h => ld_cell _ _ Try.underlying3 rfl (HCa.out _ (HLa.out.below h.b HHa.out) 2 _ rfl), trivial⟩ hS ?_
      refine tD 5 [.val 30 (some 47) (.slice pb lb.length cb), .val 31 (some 48) (.int .i64 (j : Int)), .idx 32 (some 49) 22 (.slice pb lb.length cb) (.int .i64 (j : Int)) (pt bb ob), .val 33 (some 50) (pt bb (ob + 2)), .load 34 (some 51) 3 (pt bb (ob + 2)) (.int .i64 b.xb), .alt 35 (some 52) (.bool (a.xb != b.xb)) (.bool false), .val 36 (some 53) (.bool false), .val 37 (some 54) (.bool false), .val 38 (some 55) (.slice pa la.length ca), .val 39 (some 56) (.int .i64 (j : Int)), .idx 40 (some 57) 22 (.slice pa la.length ca) (.int .i64 (j : Int)) (pt ba oa), .val 41 (some 58) (pt ba (oa + 3)), .load 42 (some 59) 3 (pt ba (oa + 3)) (.int .i64 a.xc), .val 43 (some 60) (.slice pb lb.length cb), .val 44 (some 61) (.int .i64 (j : Int)), .idx 45 (some 62) 22 (.slice pb lb.length cb) (.int .i64 (j : Int)) (pt bb ob), .val 46 (some 63) (pt bb (ob + 3)), .load 47 (some 64) 3 (pt bb (ob + 3)) (.int .i64 b.xc), .alt 48 (some 65) (.bool (a.xc != b.xc)) (.bool false), .val 49 (some 66) (.bool false), .val 50 (some 67) (.bool false), .val 51 (some 68) (.slice pa la.length ca), .val 52 (some 69) (.int .i64 (j : Int)), .idx 53 (some 70) 22 (.slice pa la.length ca) (.int .i64 (j : Int)) (pt ba oa), .val 54 (some 71) (pt ba (oa + 4)), .load 55 (some 72) 23 (pt ba (oa + 4)) (.slice a.ad a.l.length a.cp), .val 57 (some 74) (.slice pb lb.length cb), .val 58 (some 75) (.int .i64 (j : Int)), .idx 59 (some 76) 22 (.slice pb lb.length cb) (.int .i64 (j : Int)) (pt bb ob), .val 60 (some 77) (pt bb (ob + 4))] ⟨fun W h => HIb.out _, fun W h => ld_cell _ _ Try.underlying3 rfl (HCb.out _ (HLb.out.below h.b HHb.out) 2 _ rfl), congrArg Value.bool ((by rw [show a.xb = b.xb from congrArg Stp.xb HAB.out]; exact bne_self_eq_false _)), fun W h => HIa.out _, fun W h => ld_cell _ _ Try.underlying3 rfl (HCa.out _ (HLa.out.below h.b HHa.out) 3 _ rfl), fun W h => HIb.out _, fun W h => ld_cell _ _ Try.underlying3 rfl (HCb.out _ (HLb.out.below h.b HHb.out) 3 _ rfl), congrArg Value.bool ((by rw [show a.xc = b.xc from congrArg Stp.xc HAB.out]; exact bne_self_eq_false _)), fun W h => HIa.out _, fun W h => ld_cell _ _ Try.underlying23 rfl (HCa.out _ (HLa.out.below h.b HHa.out) 4 _ rfl), fun W h => HIb.out _, trivial⟩ hS ?_
      refine tD 4 [.load 61 (some 78) 23 (pt bb (ob + 4)) (.slice b.ad b.l.length b.cp)] ⟨fun W h => ld_cell _ _ Try.underlying23 rfl (HCb.out _ (HLb.out.below h.b HHb.out) 4 _ rfl), trivial⟩ hS ?_
      refine oT 56 62 3 ?_ ?_
      · refine cvD (.tmp 72) (some 73) (.slice a.ad a.l.length a.cp) (.string (txB a.l)) (cvT (((KA.out.sp HXa.out).below hM.b (Nat.le_refl _)).mono (Nat.le_refl _) hM.size)) hS ?_
        refine oD 62 2 (cvD (.tmp 78) (some 79) (.slice b.ad b.l.length b.cp) (.string (txB b.l)) (cvT (((KB.out.sp HXb.out).below hM.b (Nat.le_refl _)).mono (Nat.le_refl _) hM.size)) hS ?_)
        refine tD 0 [.alt 63 (some 80) (.bool (!((txB a.l).toList == (txB b.l).toList))) (.bool false), .val 64 (some 81) (.bool false)] ⟨congrArg Value.bool ((by rw [show a.l = b.l from congrArg Stp.l HAB.out, show ((txB b.l).toList == (txB b.l).toList) = true from beq_self_eq_true _]; rfl)), trivial⟩ hS ?_
        refine dD ?_
        try simp only [puts, Tk.put, Act.put, List.setIfInBounds_toArray, List.set_cons_zero, List.set_cons_succ]
        clear hS
        go_upto_region 5 with fail
        refine wp_region_fromM (fun W => Sep w [] [] W) hM ?_
        clear hM
        rintro Y6 hM
        refine tF 3 [.val 0 (some 15) (.int .i64 (j : Int)), .alt 1 (some 16) (.int .i64 (IntKind.i64.wrap ((j : Int) + 1))) (.int .i64 ((j + 1 : Nat) : Int)), .val 2 (some 5) (.int .i64 ((j + 1 : Nat) : Int))] ⟨congrArg (Value.int .i64) ((IntWalk.i64_in _ (by have := HLENa.out; have := HJ.out; omega)).trans (by omega)), trivial⟩ ?_
        refine dF ?_
        try simp only [puts, Tk.put, Act.put, List.setIfInBounds_toArray, List.set_cons_zero, List.set_cons_succ]
        have hM1 := hM.sub (l' := []) (List.nil_sublist _)
        have HM1 := Lib.hid hM1
        clear hM hM1
        go_wp2_with fail
        go_roundw
        case rel => exact ⟨j + 1, HJ.out, rfl, HM1.out⟩
        case measure => have := HJ.out; simp [intOf]; omega
      · refine cvD (.tmp 78) (some 79) (.slice b.ad b.l.length b.cp) (.string (txB b.l)) (cvT (((KB.out.sp HXb.out).below hM.b (Nat.le_refl _)).mono (Nat.le_refl _) hM.size)) hS ?_
        refine oD 56 2 (cvD (.tmp 72) (some 73) (.slice a.ad a.l.length a.cp) (.string (txB a.l)) (cvT (((KA.out.sp HXa.out).below hM.b (Nat.le_refl _)).mono (Nat.le_refl _) hM.size)) hS ?_)
        refine tD 0 [.alt 63 (some 80) (.bool (!((txB a.l).toList == (txB b.l).toList))) (.bool false), .val 64 (some 81) (.bool false)] ⟨congrArg Value.bool ((by rw [show a.l = b.l from congrArg Stp.l HAB.out, show ((txB b.l).toList == (txB b.l).toList) = true from beq_self_eq_true _]; rfl)), trivial⟩ hS ?_
        refine dD ?_
        try simp only [puts, Tk.put, Act.put, List.setIfInBounds_toArray, List.set_cons_zero, List.set_cons_succ]
        clear hS
        go_upto_region 5 with fail
        refine wp_region_fromM (fun W => Sep w [] [] W) hM ?_
        clear hM
        rintro Y7 hM
        refine tF 3 [.val 0 (some 15) (.int .i64 (j : Int)), .alt 1 (some 16) (.int .i64 (IntKind.i64.wrap ((j : Int) + 1))) (.int .i64 ((j + 1 : Nat) : Int)), .val 2 (some 5) (.int .i64 ((j + 1 : Nat) : Int))] ⟨congrArg (Value.int .i64) ((IntWalk.i64_in _ (by have := HLENa.out; have := HJ.out; omega)).trans (by omega)), trivial⟩ ?_
        refine dF ?_
        try simp only [puts, Tk.put, Act.put, List.setIfInBounds_toArray, List.set_cons_zero, List.set_cons_succ]
        have hM1 := hM.sub (l' := []) (List.nil_sublist _)
        have HM1 := Lib.hid hM1
        clear hM hM1
        go_wp2_with fail
        go_roundw
        case rel => exact ⟨j + 1, HJ.out, rfl, HM1.out⟩
        case measure => have := HJ.out; simp [intOf]; omega
    case neg =>
      obtain rfl : j = la.length := by omega
      go_upto_region 4 with fail
      refine wp_region_fromM (fun W => Sep w [] [] W) hM ?_
      clear hM
      rintro Y8 hM
      refine tF 4 [.val 0 (some 11) (.int .i64 (la.length : Int)), .val 1 (some 12) (.slice pa la.length ca), .val 2 (some 13) (.int .i64 (la.length : Int)), .alt 3 (some 14) (.bool (decide ((la.length : Int) < (la.length : Int)))) (.bool false)] ⟨congrArg Value.bool (decide_eq_false (by omega)), trivial⟩ ?_
      refine dF ?_
      try simp only [puts, Tk.put, Act.put, List.setIfInBounds_toArray, List.set_cons_zero, List.set_cons_succ]
      go_upto_region 8 with fail
      refine wp_region_fromM (fun W => Sep w [] [] W) hM ?_
      clear hM
      rintro Y9 hM
      refine tF 1 [.val 0 (some 4) (.bool true)] trivial ?_
      refine dF ?_
      try simp only [puts, Tk.put, Act.put, List.setIfInBounds_toArray, List.set_cons_zero, List.set_cons_succ]
      go_wp2_with fail
      go_ret
      exact ⟨rfl, hM.b⟩
end Go.Proofs.Ytakeickgjplahaa
