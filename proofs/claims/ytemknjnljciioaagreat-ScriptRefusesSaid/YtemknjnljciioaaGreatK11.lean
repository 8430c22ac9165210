/-
  The laws of scripts: the page's example; steps against steps
-/
import Derived.Test.YtemknjnljciioaaGreatK10
namespace Go.Proofs.YtemknjnljciioaaGreat
open Go.RowKit Go.Shelf
attribute [local irreducible] wpFrom wpAnyH StepH
theorem rd_back {l : List Stp} {xs : List Sp} {er : Int} (h : errP l = 0) (hd : (er ≠ 0 ∧ xs = [] ∧ NoScr (putP l)) ∨ (er = 0 ∧ putP l = joinP (xs.map plP) ∧ (∀ s ∈ xs.map plP, OkP s) ∧ xs.length ≤ 512 ∧ (putP l).length ≤ 8192)) : er = 0 ∧ xs.map plP = l := by
  obtain ⟨h1, h2, h3, h4⟩ := err_ok h
  rw [h4] at hd
  rcases hd with ⟨_, _, hn⟩ | ⟨h5, h6, h7, _⟩
  · exact (noScr h2 h1 h3 hn).elim
  · exact ⟨h5, (join_one _ _ [] h7 h2 (by rw [List.append_nil]; exact h6.symm) szF_nil).1⟩
theorem sone_of {ms : List Sp} {y : Stp} (h : ms.map plP = [y]) : ∃ m, ms = [m] ∧ plP m = y := by
  match ms, h with
  | [m], h => exact ⟨m, rfl, (List.cons.inj h).1⟩
theorem al_err : errP ([Sp.mk 3 (-1) 0 0 none 0 []].map plP) = 0 ∧ putP ([Sp.mk 3 (-1) 0 0 none 0 []].map plP) = joinP ([Sp.mk 3 (-1) 0 0 none 0 []].map plP) :=
  ok_err (by simp) (fun s hs => by obtain rfl := List.mem_singleton.1 hs; exact ⟨bnd_fit (by simp [plP]), by simp [plP]⟩) (by simp [joinP, octP_len, plP])
theorem al_len : (putP ([Sp.mk 3 (-1) 0 0 none 0 []].map plP)).length = 9 := by
  rw [al_err.2]
  simp [joinP, octP_len, plP]
set_option maxRecDepth 100000 in
set_option maxHeartbeats 4000000 in
theorem alive25_any (w : World) : Calls Tryz.prog 4 #[] w fun e W' => e = .returned (.bool true) ∧ Below w.heap.size w W' := by
  have hmx : Tryz.prog.follows .mixedOrders = true := by kernel_rfl
  have hM := Sep.start w
  go_enter Tryz.func4, Tryz.ntmps4
  go_upto_region 0 with fail
  refine wp_region_fromM (fun W => Sep w [] [] W) hM ?_
  clear hM
  rintro Y1 hM
  refine tF 1 [.val 0 (some 0) (.bool false)] trivial ?_
  refine dF ?_
  try simp only [puts, Tk.put, Act.put, List.setIfInBounds_toArray, List.set_cons_zero]
  go_upto_region 1 with fail
  refine wp_region_fromM (fun W => Sep w [] [] W) hM ?_
  clear hM
  rintro Y2 hM
  refine tF 1 [.val 0 (some 6) (spv (Sp.mk 3 (-1) 0 0 none 0 ([])))] trivial ?_
  refine rF (some 7) (.slice (some ⟨Y2.heap.size, 0, none⟩) 1 1) (Y2.alloc (.cells (spc (Sp.mk 3 (-1) 0 0 none 0 ([]))).toArray 24)) ?_
  replace hM := hM.alloc 24 (spc (Sp.mk 3 (-1) 0 0 none 0 ([])))
  generalize World.alloc _ _ = Y3 at *
  generalize hNe : Y2.heap.size = N3 at *
  clear hNe
  refine cF (some 8) 5 #[.slice (some ⟨N3, 0, none⟩) 1 1] ((putP_any ([Sp.mk 3 (-1) 0 0 none 0 ([])]) _ _ (rsl_blk (f := spc) (x := Sp.mk 3 (-1) 0 0 none 0 ([])) (hM.at 0 rfl)) (Nat.le_refl _) (Holds.one (z := Sp.z (Sp.mk 3 (-1) 0 0 none 0 ([]))) ((BSl.nil 0 _ _)))).mono ?_)
  rintro e Y4 ⟨v4p, rfl, hR⟩
  replace hM := hM.gain hR
  clear hR
  obtain ⟨pv4p, cv4p, rfl⟩ := (hM.oka 0 rfl).slice ocM_len
  refine tF 8 [.val 3 (some 5) (.tuple #[.slice pv4p (putP (([Sp.mk 3 (-1) 0 0 none 0 ([])]).map plP)).length cv4p, .int .i64 (errP (([Sp.mk 3 (-1) 0 0 none 0 ([])]).map plP))]), .val 4 (some 9) (.slice pv4p (putP (([Sp.mk 3 (-1) 0 0 none 0 ([])]).map plP)).length cv4p), .val 5 (some 10) (.int .i64 (errP (([Sp.mk 3 (-1) 0 0 none 0 ([])]).map plP))), .val 6 (some 1) (.slice pv4p (putP (([Sp.mk 3 (-1) 0 0 none 0 ([])]).map plP)).length cv4p), .val 7 (some 2) (.int .i64 (errP (([Sp.mk 3 (-1) 0 0 none 0 ([])]).map plP)))] trivial ?_
  refine dF ?_
  try simp only [puts, Tk.put, Act.put, List.setIfInBounds_toArray, List.set_cons_zero, List.set_cons_succ]
  go_upto_region 2 with fail
  refine wp_region_fromM (fun W => Sep w [] [.own ocM 5 1 (.slice pv4p (putP (([Sp.mk 3 (-1) 0 0 none 0 ([])]).map plP)).length cv4p) (putP (([Sp.mk 3 (-1) 0 0 none 0 ([])]).map plP)), .blk N3 24 (spc (Sp.mk 3 (-1) 0 0 none 0 ([])))] W) hM ?_
  clear hM
  rintro Y5 hM
  refine tF 1 [.val 0 (some 12) (.slice pv4p (putP (([Sp.mk 3 (-1) 0 0 none 0 ([])]).map plP)).length cv4p)] trivial ?_
  refine cF (some 13) 7 #[.slice pv4p (putP (([Sp.mk 3 (-1) 0 0 none 0 ([])]).map plP)).length cv4p] ((readP_any (putP (([Sp.mk 3 (-1) 0 0 none 0 ([])]).map plP)) _ (by rw [al_len]; decide) ((hM.oka 0 rfl).own_bsl)).mono ?_)
  rintro e Y6 ⟨v6r, xs6, er6, rfl, hd, hR⟩
  have HD6 := Lib.hid hd
  replace hM := hM.gain2 hR
  clear hR hd
  obtain ⟨pv6r, cv6r, rfl⟩ := (hM.oka 0 rfl).slice spc_len
  obtain ⟨hz, hx⟩ := rd_back al_err.1 HD6.out
  obtain ⟨m, hm, hp⟩ := sone_of (show xs6.map plP = [plP (Sp.mk 3 (-1) 0 0 none 0 [])] from hx)
  have HZ := Lib.hid hz
  have HM0 := Lib.hid hm
  have HXA := Lib.hid (show m.xa = -1 from congrArg Stp.xa hp)
  clear hz hx hm hp
  refine tF 7 [.val 2 (some 11) (.tuple #[.slice pv6r xs6.length cv6r, .int .i64 er6]), .val 3 (some 14) (.slice pv6r xs6.length cv6r), .val 4 (some 15) (.int .i64 er6), .val 5 (some 3) (.slice pv6r xs6.length cv6r), .val 6 (some 4) (.int .i64 er6)] trivial ?_
  refine dF ?_
  try simp only [puts, Tk.put, Act.put, List.setIfInBounds_toArray, List.set_cons_zero, List.set_cons_succ]
  go_upto_region 3 with fail
  obtain ⟨bt, ot, hit, hct⟩ := (hM.oka 0 rfl).elem spc_len (show xs6[0]? = some m from by rw [HM0.out]; rfl) Tryz.underlying30 (fun W => by kernel_rfl)
  have HIt := Lib.hid hit
  have HCt := Lib.hid hct
  clear hit hct
  refine wp_region_fromM (fun W => Sep w [] [.own spc 24 5 (.slice pv6r xs6.length cv6r) (xs6), .octs (zsP xs6), .own ocM 5 1 (.slice pv4p (putP (([Sp.mk 3 (-1) 0 0 none 0 ([])]).map plP)).length cv4p) (putP (([Sp.mk 3 (-1) 0 0 none 0 ([])]).map plP)), .blk N3 24 (spc (Sp.mk 3 (-1) 0 0 none 0 ([])))] W) hM ?_
  clear hM
  rintro Y7 hM
  refine tF 24 [.val 0 (some 16) (.int .i64 (errP (([Sp.mk 3 (-1) 0 0 none 0 ([])]).map plP))), .alt 1 (some 17) (.bool ((errP (([Sp.mk 3 (-1) 0 0 none 0 ([])]).map plP)) == 0)) (.bool true), .val 2 (some 18) (.bool true), .val 3 (some 19) (.int .i64 er6), .alt 4 (some 20) (.bool (er6 == 0)) (.bool true), .val 5 (some 21) (.bool true), .val 6 (some 22) (.bool true), .val 7 (some 23) (.slice pv4p (putP (([Sp.mk 3 (-1) 0 0 none 0 ([])]).map plP)).length cv4p), .val 8 (some 24) (.int .i64 ((putP (([Sp.mk 3 (-1) 0 0 none 0 ([])]).map plP)).length : Int)), .alt 9 (some 25) (.bool (((putP (([Sp.mk 3 (-1) 0 0 none 0 ([])]).map plP)).length : Int) == 9)) (.bool true), .val 10 (some 26) (.bool true), .val 11 (some 27) (.bool true), .val 12 (some 28) (.slice pv6r xs6.length cv6r), .val 13 (some 29) (.int .i64 (xs6.length : Int)), .alt 14 (some 30) (.bool ((xs6.length : Int) == 1)) (.bool true), .val 15 (some 31) (.bool true), .val 16 (some 32) (.bool true), .val 17 (some 33) (.slice pv6r xs6.length cv6r), .idx 18 (some 34) 30 (.slice pv6r xs6.length cv6r) (.int .i64 0) (pt bt ot), .val 19 (some 35) (pt bt (ot + 1)), .load 20 (some 36) 3 (pt bt (ot + 1)) (.int .i64 m.xa), .alt 21 (some 37) (.bool (m.xa == (-1))) (.bool true), .val 22 (some 38) (.bool true), .val 23 (some 0) (.bool true)] ⟨congrArg Value.bool ((by rw [al_err.1]; rfl)), congrArg Value.bool ((by rw [HZ.out]; rfl)), congrArg Value.bool ((by rw [al_len]; rfl)), congrArg Value.bool ((by rw [HM0.out]; rfl)), HIt.out _, ld_cell _ _ Tryz.underlying3 rfl (HCt.out _ (hM.oka 0 rfl) 1 _ rfl), congrArg Value.bool ((by rw [HXA.out]; rfl)), trivial⟩ ?_
  refine dF ?_
  try simp only [puts, Tk.put, Act.put, List.setIfInBounds_toArray, List.set_cons_zero, List.set_cons_succ]
  go_wp2_with fail
  go_ret
  exact ⟨rfl, hM.b⟩
end Go.Proofs.YtemknjnljciioaaGreat
