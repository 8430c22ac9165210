/-
  AuctionOrder answers true at every input, and leaves its arguments as they are.
-/
import Derived.Deep.Slices
import Derived.SizedLaws
import Derived.Carry
import Derived.ChangeMaps5
import Derived.Test.YtbhfajnejibaoaaGreatK14
namespace Go.Proofs.YtbhfajnejibaoaaGreat
open Go.RowKit Go.Shelf
attribute [local irreducible] wpFrom wpAnyH StepH
set_option maxRecDepth 100000 in
set_option maxHeartbeats 4000000 in
theorem auctionOrder_any (a b : Bd) (now : Int) (w : World) (ha : OkB a) (hb : OkB b) : Calls Tryz.prog 4 #[bdv a, bdv b, .int .i64 now] w fun e W' => e = .returned (.bool true) ∧ Below w.heap.size w W' := by
  have hmx : Tryz.prog.follows .mixedOrders = true := by kernel_rfl
  have HA := Lib.hid ha
  have HB := Lib.hid hb
  have HAB : Hid (OkB (b.ask a.k)) := Lib.hid ⟨ha.k, hb.b⟩
  clear ha hb
  have hM := Sep.start w
  go_enter Tryz.func4, Tryz.ntmps4
  go_upto_region 0 with fail
  refine wp_region_fromM (fun W => Sep w [] [] W) hM ?_
  clear hM
  rintro Y1 hM
  refine rF (some 3) (pt Y1.heap.size 0) (Y1.alloc (.cells (bdc a).toArray 36)) ?_
  replace hM := hM.alloc 36 (bdc a)
  generalize World.alloc _ _ = Y2 at *
  generalize hNe : Y1.heap.size = N2 at *
  clear hNe
  refine rF (some 4) (pt Y2.heap.size 0) (Y2.alloc (.cells (bdc b).toArray 36)) ?_
  replace hM := hM.alloc 36 (bdc b)
  generalize World.alloc _ _ = Y3 at *
  generalize hNe : Y2.heap.size = N3 at *
  clear hNe
  refine tF 3 [.val 2 (some 6) (.bool false)] trivial ?_
  refine dF ?_
  try simp only [puts, Tk.put, Act.put, List.setIfInBounds_toArray, List.set_cons_zero, List.set_cons_succ]
  go_upto_region 1 with fail
  refine wp_region_fromM (fun W => Sep w [] [.blk N3 36 (bdc b), .blk N2 36 (bdc a)] W) hM ?_
  clear hM
  rintro Y4 hM
  refine cF (some 14) 5 #[] ((alive19_any _).mono ?_)
  rintro e Y5 ⟨rfl, hb⟩
  replace hM := hM.below hb
  clear hb
  refine tF 2 [.val 1 (some 15) (.bool false)] trivial ?_
  refine dF ?_
  try simp only [puts, Tk.put, Act.put, List.setIfInBounds_toArray, List.set_cons_zero, List.set_cons_succ]
  go_upto_region 3 with fail
  refine wp_region_fromM (fun W => Sep w [] [.blk N3 36 (bdc b), .blk N2 36 (bdc a)] W) hM ?_
  clear hM
  rintro Y6 hM
  refine cF (some 16) 7 #[.int .i64 2] ((seed8_any 2 _).mono ?_)
  rintro e Y7 ⟨rfl, hb⟩
  replace hM := hM.below hb
  clear hb
  refine cF (some 17) 6 #[.string (seedB 2)] ((root_any (seedB 2) (seed_small _) _).mono ?_)
  rintro e Y8 ⟨rfl, hb⟩
  replace hM := hM.below hb
  clear hb
  refine cF (some 18) 7 #[.int .i64 3] ((seed8_any 3 _).mono ?_)
  rintro e Y9 ⟨rfl, hb⟩
  replace hM := hM.below hb
  clear hb
  refine cF (some 19) 6 #[.string (seedB 3)] ((root_any (seedB 3) (seed_small _) _).mono ?_)
  rintro e Y10 ⟨rfl, hb⟩
  replace hM := hM.below hb
  clear hb
  refine rF (some 20) (.slice (some ⟨Y10.heap.size, 0, none⟩) 2 2) (Y10.alloc (.cells ([.string (rootB (seedB 2)), .string (rootB (seedB 3))]).toArray 9)) ?_
  replace hM := hM.alloc 9 ([.string (rootB (seedB 2)), .string (rootB (seedB 3))])
  generalize World.alloc _ _ = Y11 at *
  generalize hNe : Y10.heap.size = N11 at *
  clear hNe
  refine tF 6 [.val 5 (some 7) (.slice (some ⟨N11, 0, none⟩) 2 2)] trivial ?_
  refine dF ?_
  try simp only [puts, Tk.put, Act.put, List.setIfInBounds_toArray, List.set_cons_zero, List.set_cons_succ]
  go_upto_region 4 with fail
  refine wp_region_fromM (fun W => Sep w [] [.blk N11 9 ([.string (rootB (seedB 2)), .string (rootB (seedB 3))]), .blk N3 36 (bdc b), .blk N2 36 (bdc a)] W) hM ?_
  clear hM
  rintro Y12 hM
  refine tF 1 [.val 0 (some 21) (.slice (some ⟨N11, 0, none⟩) 2 2)] trivial ?_
  refine cF (some 22) 8 #[.slice (some ⟨N11, 0, none⟩) 2 2] ((rmNew_two (rootB (seedB 2)) (rootB (seedB 3)) _ (hM.at 0 rfl)).mono ?_)
  rintro e Y13 ⟨B13, va13, vb13, rfl, hR⟩
  replace hM := hM.gain (Sep.close (ps := RMR B13 (Rm.mk (rootB (seedB 2)) (rootB (seedB 3)) [] []) va13 vb13) (l := []) hR)
  clear hR
  refine tF 3 [.val 2 (some 23) (.slice (some ⟨N11, 0, none⟩) 2 2)] trivial ?_
  refine cF (some 24) 8 #[.slice (some ⟨N11, 0, none⟩) 2 2] ((rmNew_two (rootB (seedB 2)) (rootB (seedB 3)) _ (hM.at 1 rfl)).mono ?_)
  rintro e Y14 ⟨B14, va14, vb14, rfl, hR⟩
  replace hM := hM.gain (Sep.close (ps := RMR B14 (Rm.mk (rootB (seedB 2)) (rootB (seedB 3)) [] []) va14 vb14) (l := []) hR)
  clear hR
  refine tF 6 [.val 4 (some 8) (pt B13 0), .val 5 (some 9) (pt B14 0)] trivial ?_
  refine dF ?_
  try simp only [puts, Tk.put, Act.put, List.setIfInBounds_toArray, List.set_cons_zero, List.set_cons_succ]
  go_upto_region 5 with fail
  refine wp_region_fromM (fun W => Sep w [] [.join (RMR B14 (Rm.mk (rootB (seedB 2)) (rootB (seedB 3)) [] []) va14 vb14), .join (RMR B13 (Rm.mk (rootB (seedB 2)) (rootB (seedB 3)) [] []) va13 vb13), .blk N11 9 ([.string (rootB (seedB 2)), .string (rootB (seedB 3))]), .blk N3 36 (bdc b), .blk N2 36 (bdc a)] W) hM ?_
  clear hM
  rintro Y15 hM
  refine tF 3 [.val 0 (some 25) (pt B13 0), .val 1 (some 26) (pt N2 1), .load 2 (some 27) 34 (pt N2 1) (akv a.k)] ⟨load_part (hM.at 4 rfl) 1 (akc a.k) rfl _ _ Tryz.underlying34 rfl (by kernel_rfl), trivial⟩ ?_
  cases hb1 : (errA a.k) != 0 with
  | false =>
    have Hhb1 := Lib.hid hb1
    clear hb1
    have hq := rmOpen_any a.k 1 _ (hM.oka 1 rfl)
    rw [open_new Hhb1.out] at hq
    refine cF (some 28) 10 #[pt B13 0, akv a.k, .int .i64 1] ((hq).mono ?_)
    rintro e Y16 ⟨rfl, va16, vb16, hT⟩
    clear hq
    replace hM := hM.turn 1 rfl hT rfl
    clear hT
    refine tF 9 [.val 4 (some 29) (.bool false), .val 5 (some 30) (.bool false), .val 6 (some 31) (pt B14 0), .val 7 (some 32) (pt N2 1), .load 8 (some 33) 34 (pt N2 1) (akv a.k)] ⟨load_part (hM.at 4 rfl) 1 (akc a.k) rfl _ _ Tryz.underlying34 rfl (by kernel_rfl), trivial⟩ ?_
    have hq := rmOpen_any a.k 1 _ (hM.oka 0 rfl)
    rw [open_new Hhb1.out] at hq
    refine cF (some 34) 10 #[pt B14 0, akv a.k, .int .i64 1] ((hq).mono ?_)
    rintro e Y17 ⟨rfl, va17, vb17, hT⟩
    clear hq
    replace hM := hM.turn 0 rfl hT rfl
    clear hT
    refine tF 12 [.val 10 (some 35) (.bool false), .val 11 (some 36) (.bool false)] trivial ?_
    refine dF ?_
    try simp only [puts, Tk.put, Act.put, List.setIfInBounds_toArray, List.set_cons_zero, List.set_cons_succ]
    go_upto_region 7 with fail
    refine wp_region_fromM (fun W => Sep w [] [.join (RMR B14 (Rm.mk rho2 rho3 [⟨a.k, 1⟩] []) va17 vb17), .join (RMR B13 (Rm.mk rho2 rho3 [⟨a.k, 1⟩] []) va16 vb16), .blk N11 9 ([.string (rootB (seedB 2)), .string (rootB (seedB 3))]), .blk N3 36 (bdc b), .blk N2 36 (bdc a)] W) hM ?_
    clear hM
    rintro Y18 hM
    refine tF 3 [.val 0 (some 41) (pt N2 1), .load 1 (some 42) 34 (pt N2 1) (akv a.k), .val 2 (some 43) (pt N3 1)] ⟨load_part (hM.at 4 rfl) 1 (akc a.k) rfl _ _ Tryz.underlying34 rfl (by kernel_rfl), trivial⟩ ?_
    have hst := sto_part (bdc (Bd.ask b a.k)) (hM.at 3 rfl) 1 34 (akv a.k) (akc a.k) rfl (by kernel_rfl) (Nat.le_of_ble_eq_true rfl) rfl rfl
    refine sF 34 (pt N3 1) (akv a.k) (hst) ?_
    clear hst
    replace hM := hM.set 3 (cs' := bdc (Bd.ask b a.k)) rfl rfl
    generalize World.setRow _ _ _ = Y19 at *
    refine dF ?_
    try simp only [puts, Tk.put, Act.put, List.setIfInBounds_toArray, List.set_cons_zero, List.set_cons_succ]
    go_upto_region 8 with fail
    refine wp_region_fromM (fun W => Sep w [] [.join (RMR B14 (Rm.mk rho2 rho3 [⟨a.k, 1⟩] []) va17 vb17), .join (RMR B13 (Rm.mk rho2 rho3 [⟨a.k, 1⟩] []) va16 vb16), .blk N11 9 ([.string (rootB (seedB 2)), .string (rootB (seedB 3))]), .blk N3 36 (bdc (Bd.ask b a.k)), .blk N2 36 (bdc a)] W) hM ?_
    clear hM
    rintro Y20 hM
    refine tF 5 [.val 0 (some 44) (pt N2 0), .load 1 (some 45) 3 (pt N2 0) (.int .i64 a.ro), .val 2 (some 46) (pt N3 0), .load 3 (some 47) 3 (pt N3 0) (.int .i64 b.ro), .val 4 (some 48) (.bool (a.ro == b.ro))] ⟨ld_any _ _ Tryz.underlying3 rfl (hM.at 4 rfl) 0 rfl, ld_any _ _ Tryz.underlying3 rfl (hM.at 3 rfl) 0 rfl, trivial⟩ ?_
    refine dF ?_
    try simp only [puts, Tk.put, Act.put, List.setIfInBounds_toArray, List.set_cons_zero, List.set_cons_succ]
    cases hb2 : a.ro == b.ro with
    | false =>
      have Hhb2 := Lib.hid hb2
      clear hb2
      have HNE : Hid (¬ a.ro = b.ro) := Lib.hid (of_decide_eq_false Hhb2.out)
      go_upto_region 10 with fail
      refine wp_region_fromM (fun W => Sep w [] [.join (RMR B14 (Rm.mk rho2 rho3 [⟨a.k, 1⟩] []) va17 vb17), .join (RMR B13 (Rm.mk rho2 rho3 [⟨a.k, 1⟩] []) va16 vb16), .blk N11 9 ([.string (rootB (seedB 2)), .string (rootB (seedB 3))]), .blk N3 36 (bdc (Bd.ask b a.k)), .blk N2 36 (bdc a)] W) hM ?_
      clear hM
      rintro Y21 hM
      refine tF 3 [.val 0 (some 49) (pt B13 0), .load 1 (some 50) 36 (pt N2 0) (bdv a), .val 2 (some 51) (.int .i64 now)] ⟨load_part (hM.at 4 rfl) 0 (bdc a) rfl _ _ Tryz.underlying36 rfl (by kernel_rfl), trivial⟩ ?_
      have hq := rmBid_any a now _ (hM.oka 1 rfl) HA.out (Nat.zero_le _)
      rw [bid_two (b := a) rfl rfl] at hq
      refine cF (some 52) 13 #[pt B13 0, bdv a, .int .i64 now] ((hq).mono ?_)
      rintro e Y22 ⟨rfl, va22, vb22, hT⟩
      clear hq
      replace hM := hM.turn 1 rfl hT rfl
      clear hT
      refine dF ?_
      try simp only [puts, Tk.put, Act.put, List.setIfInBounds_toArray, List.set_cons_zero, List.set_cons_succ]
      go_upto_region 11 with fail
      refine wp_region_fromM (fun W => Sep w [] [.join (RMR B14 (Rm.mk rho2 rho3 [⟨a.k, 1⟩] []) va17 vb17), .join (RMR B13 (Rm.mk rho2 rho3 [⟨a.k, 1⟩] ([] ++ gotL (accB rho2 rho3 now a) a)) va22 vb22), .blk N11 9 ([.string (rootB (seedB 2)), .string (rootB (seedB 3))]), .blk N3 36 (bdc (Bd.ask b a.k)), .blk N2 36 (bdc a)] W) hM ?_
      clear hM
      rintro Y23 hM
      refine tF 3 [.val 0 (some 53) (pt B13 0), .load 1 (some 54) 36 (pt N3 0) (bdv (Bd.ask b a.k)), .val 2 (some 55) (.int .i64 now)] ⟨load_part (hM.at 3 rfl) 0 (bdc (Bd.ask b a.k)) rfl _ _ Tryz.underlying36 rfl (by kernel_rfl), trivial⟩ ?_
      have hq := rmBid_any (Bd.ask b a.k) now _ (hM.oka 1 rfl) HAB.out (Nat.le_trans (by have := got_len (accB rho2 rho3 now a) a; simpa using this) (show 1 ≤ 1000 by decide))
      rw [bid_two (b := Bd.ask b a.k) rfl (got_by (a := a) (b := Bd.ask b a.k) HNE.out)] at hq
      refine cF (some 56) 13 #[pt B13 0, bdv (Bd.ask b a.k), .int .i64 now] ((hq).mono ?_)
      rintro e Y24 ⟨rfl, va24, vb24, hT⟩
      clear hq
      replace hM := hM.turn 1 rfl hT rfl
      clear hT
      refine dF ?_
      try simp only [puts, Tk.put, Act.put, List.setIfInBounds_toArray, List.set_cons_zero, List.set_cons_succ]
      go_upto_region 12 with fail
      refine wp_region_fromM (fun W => Sep w [] [.join (RMR B14 (Rm.mk rho2 rho3 [⟨a.k, 1⟩] []) va17 vb17), .join (RMR B13 (Rm.mk rho2 rho3 [⟨a.k, 1⟩] (([] ++ gotL (accB rho2 rho3 now a) a) ++ gotL (accB rho2 rho3 now (Bd.ask b a.k)) (Bd.ask b a.k))) va24 vb24), .blk N11 9 ([.string (rootB (seedB 2)), .string (rootB (seedB 3))]), .blk N3 36 (bdc (Bd.ask b a.k)), .blk N2 36 (bdc a)] W) hM ?_
      clear hM
      rintro Y25 hM
      refine tF 3 [.val 0 (some 57) (pt B14 0), .load 1 (some 58) 36 (pt N3 0) (bdv (Bd.ask b a.k)), .val 2 (some 59) (.int .i64 now)] ⟨load_part (hM.at 3 rfl) 0 (bdc (Bd.ask b a.k)) rfl _ _ Tryz.underlying36 rfl (by kernel_rfl), trivial⟩ ?_
      have hq := rmBid_any (Bd.ask b a.k) now _ (hM.oka 0 rfl) HAB.out (Nat.zero_le _)
      rw [bid_two (b := Bd.ask b a.k) rfl rfl] at hq
      refine cF (some 60) 13 #[pt B14 0, bdv (Bd.ask b a.k), .int .i64 now] ((hq).mono ?_)
      rintro e Y26 ⟨rfl, va26, vb26, hT⟩
      clear hq
      replace hM := hM.turn 0 rfl hT rfl
      clear hT
      refine dF ?_
      try simp only [puts, Tk.put, Act.put, List.setIfInBounds_toArray, List.set_cons_zero, List.set_cons_succ]
      go_upto_region 13 with fail
      refine wp_region_fromM (fun W => Sep w [] [.join (RMR B14 (Rm.mk rho2 rho3 [⟨a.k, 1⟩] ([] ++ gotL (accB rho2 rho3 now (Bd.ask b a.k)) (Bd.ask b a.k))) va26 vb26), .join (RMR B13 (Rm.mk rho2 rho3 [⟨a.k, 1⟩] (([] ++ gotL (accB rho2 rho3 now a) a) ++ gotL (accB rho2 rho3 now (Bd.ask b a.k)) (Bd.ask b a.k))) va24 vb24), .blk N11 9 ([.string (rootB (seedB 2)), .string (rootB (seedB 3))]), .blk N3 36 (bdc (Bd.ask b a.k)), .blk N2 36 (bdc a)] W) hM ?_
      clear hM
      rintro Y27 hM
      refine tF 3 [.val 0 (some 61) (pt B14 0), .load 1 (some 62) 36 (pt N2 0) (bdv a), .val 2 (some 63) (.int .i64 now)] ⟨load_part (hM.at 4 rfl) 0 (bdc a) rfl _ _ Tryz.underlying36 rfl (by kernel_rfl), trivial⟩ ?_
      have hq := rmBid_any a now _ (hM.oka 0 rfl) HA.out (Nat.le_trans (by have := got_len (accB rho2 rho3 now (Bd.ask b a.k)) (Bd.ask b a.k); simpa using this) (show 1 ≤ 1000 by decide))
      rw [bid_two (b := a) rfl (got_by (a := Bd.ask b a.k) fun e => HNE.out e.symm)] at hq
      refine cF (some 64) 13 #[pt B14 0, bdv a, .int .i64 now] ((hq).mono ?_)
      rintro e Y28 ⟨rfl, va28, vb28, hT⟩
      clear hq
      replace hM := hM.turn 0 rfl hT rfl
      clear hT
      refine dF ?_
      try simp only [puts, Tk.put, Act.put, List.setIfInBounds_toArray, List.set_cons_zero, List.set_cons_succ]
      go_upto_region 14 with fail
      refine wp_region_fromM (fun W => Sep w [] [.join (RMR B14 (Rm.mk rho2 rho3 [⟨a.k, 1⟩] (([] ++ gotL (accB rho2 rho3 now (Bd.ask b a.k)) (Bd.ask b a.k)) ++ gotL (accB rho2 rho3 now a) a)) va28 vb28), .join (RMR B13 (Rm.mk rho2 rho3 [⟨a.k, 1⟩] (([] ++ gotL (accB rho2 rho3 now a) a) ++ gotL (accB rho2 rho3 now (Bd.ask b a.k)) (Bd.ask b a.k))) va24 vb24), .blk N11 9 ([.string (rootB (seedB 2)), .string (rootB (seedB 3))]), .blk N3 36 (bdc (Bd.ask b a.k)), .blk N2 36 (bdc a)] W) hM ?_
      clear hM
      rintro Y29 hM
      refine tF 4 [.val 0 (some 66) (pt B13 0), .val 1 (some 67) (pt N2 1), .load 2 (some 68) 34 (pt N2 1) (akv a.k), .val 3 (some 69) (.int .i64 now)] ⟨load_part (hM.at 4 rfl) 1 (akc a.k) rfl _ _ Tryz.underlying34 rfl (by kernel_rfl), trivial⟩ ?_
      have hq := rmBest_any a.k now 1 _ (RmV.of (hM.oka 1 rfl)) (two_len _ _ _ _) one_si (two_ok HA.out HAB.out)
      refine cF (some 70) 14 #[pt B13 0, akv a.k, .int .i64 now, .int .i64 1] ((hq).mono ?_)
      rintro e Y30 ⟨rfl, hb⟩
      clear hq
      replace hM := hM.below hb
      clear hb
      refine tF 8 [.val 5 (some 65) (.tuple #[bdv ((bestR (Rm.mk rho2 rho3 [⟨a.k, 1⟩] (([] ++ gotL (accB rho2 rho3 now a) a) ++ gotL (accB rho2 rho3 now (Bd.ask b a.k)) (Bd.ask b a.k))) a.k now).getD noB), .bool (bestR (Rm.mk rho2 rho3 [⟨a.k, 1⟩] (([] ++ gotL (accB rho2 rho3 now a) a) ++ gotL (accB rho2 rho3 now (Bd.ask b a.k)) (Bd.ask b a.k))) a.k now).isSome]), .val 6 (some 71) (bdv ((bestR (Rm.mk rho2 rho3 [⟨a.k, 1⟩] (([] ++ gotL (accB rho2 rho3 now a) a) ++ gotL (accB rho2 rho3 now (Bd.ask b a.k)) (Bd.ask b a.k))) a.k now).getD noB)), .val 7 (some 72) (.bool (bestR (Rm.mk rho2 rho3 [⟨a.k, 1⟩] (([] ++ gotL (accB rho2 rho3 now a) a) ++ gotL (accB rho2 rho3 now (Bd.ask b a.k)) (Bd.ask b a.k))) a.k now).isSome)] trivial ?_
      refine rF (some 10) (pt Y30.heap.size 0) (Y30.alloc (.cells (bdc noB).toArray 36)) ?_
      replace hM := hM.alloc 36 (bdc noB)
      generalize World.alloc _ _ = Y31 at *
      generalize hNe : Y30.heap.size = N31 at *
      clear hNe
      have hst := sto_part (bdc ((bestR (Rm.mk rho2 rho3 [⟨a.k, 1⟩] (([] ++ gotL (accB rho2 rho3 now a) a) ++ gotL (accB rho2 rho3 now (Bd.ask b a.k)) (Bd.ask b a.k))) a.k now).getD noB)) (hM.at 0 rfl) 0 36 (bdv ((bestR (Rm.mk rho2 rho3 [⟨a.k, 1⟩] (([] ++ gotL (accB rho2 rho3 now a) a) ++ gotL (accB rho2 rho3 now (Bd.ask b a.k)) (Bd.ask b a.k))) a.k now).getD noB)) (bdc ((bestR (Rm.mk rho2 rho3 [⟨a.k, 1⟩] (([] ++ gotL (accB rho2 rho3 now a) a) ++ gotL (accB rho2 rho3 now (Bd.ask b a.k)) (Bd.ask b a.k))) a.k now).getD noB)) rfl (by kernel_rfl) (Nat.le_of_ble_eq_true rfl) rfl rfl
      refine sF 36 (pt N31 0) (bdv ((bestR (Rm.mk rho2 rho3 [⟨a.k, 1⟩] (([] ++ gotL (accB rho2 rho3 now a) a) ++ gotL (accB rho2 rho3 now (Bd.ask b a.k)) (Bd.ask b a.k))) a.k now).getD noB)) (hst) ?_
      clear hst
      replace hM := hM.set 0 (cs' := bdc ((bestR (Rm.mk rho2 rho3 [⟨a.k, 1⟩] (([] ++ gotL (accB rho2 rho3 now a) a) ++ gotL (accB rho2 rho3 now (Bd.ask b a.k)) (Bd.ask b a.k))) a.k now).getD noB)) rfl rfl
      generalize World.setRow _ _ _ = Y32 at *
      refine tF 11 [.val 10 (some 11) (.bool (bestR (Rm.mk rho2 rho3 [⟨a.k, 1⟩] (([] ++ gotL (accB rho2 rho3 now a) a) ++ gotL (accB rho2 rho3 now (Bd.ask b a.k)) (Bd.ask b a.k))) a.k now).isSome)] trivial ?_
      refine dF ?_
      try simp only [puts, Tk.put, Act.put, List.setIfInBounds_toArray, List.set_cons_zero, List.set_cons_succ]
      go_upto_region 15 with fail
      refine wp_region_fromM (fun W => Sep w [] [.blk N31 36 (bdc ((bestR (Rm.mk rho2 rho3 [⟨a.k, 1⟩] (([] ++ gotL (accB rho2 rho3 now a) a) ++ gotL (accB rho2 rho3 now (Bd.ask b a.k)) (Bd.ask b a.k))) a.k now).getD noB)), .join (RMR B14 (Rm.mk rho2 rho3 [⟨a.k, 1⟩] (([] ++ gotL (accB rho2 rho3 now (Bd.ask b a.k)) (Bd.ask b a.k)) ++ gotL (accB rho2 rho3 now a) a)) va28 vb28), .join (RMR B13 (Rm.mk rho2 rho3 [⟨a.k, 1⟩] (([] ++ gotL (accB rho2 rho3 now a) a) ++ gotL (accB rho2 rho3 now (Bd.ask b a.k)) (Bd.ask b a.k))) va24 vb24), .blk N11 9 ([.string (rootB (seedB 2)), .string (rootB (seedB 3))]), .blk N3 36 (bdc (Bd.ask b a.k)), .blk N2 36 (bdc a)] W) hM ?_
      clear hM
      rintro Y33 hM
      refine tF 4 [.val 0 (some 74) (pt B14 0), .val 1 (some 75) (pt N2 1), .load 2 (some 76) 34 (pt N2 1) (akv a.k), .val 3 (some 77) (.int .i64 now)] ⟨load_part (hM.at 5 rfl) 1 (akc a.k) rfl _ _ Tryz.underlying34 rfl (by kernel_rfl), trivial⟩ ?_
      have hq := rmBest_any a.k now 1 _ (RmV.of (hM.oka 1 rfl)) (two_len _ _ _ _) one_si (two_ok HAB.out HA.out)
      rw [best_two (a := a) (b := b.ask a.k) rfl HNE.out] at hq
      refine cF (some 78) 14 #[pt B14 0, akv a.k, .int .i64 now, .int .i64 1] ((hq).mono ?_)
      rintro e Y34 ⟨rfl, hb⟩
      clear hq
      replace hM := hM.below hb
      clear hb
      refine tF 8 [.val 5 (some 73) (.tuple #[bdv ((bestR (Rm.mk rho2 rho3 [⟨a.k, 1⟩] (([] ++ gotL (accB rho2 rho3 now a) a) ++ gotL (accB rho2 rho3 now (Bd.ask b a.k)) (Bd.ask b a.k))) a.k now).getD noB), .bool (bestR (Rm.mk rho2 rho3 [⟨a.k, 1⟩] (([] ++ gotL (accB rho2 rho3 now a) a) ++ gotL (accB rho2 rho3 now (Bd.ask b a.k)) (Bd.ask b a.k))) a.k now).isSome]), .val 6 (some 79) (bdv ((bestR (Rm.mk rho2 rho3 [⟨a.k, 1⟩] (([] ++ gotL (accB rho2 rho3 now a) a) ++ gotL (accB rho2 rho3 now (Bd.ask b a.k)) (Bd.ask b a.k))) a.k now).getD noB)), .val 7 (some 80) (.bool (bestR (Rm.mk rho2 rho3 [⟨a.k, 1⟩] (([] ++ gotL (accB rho2 rho3 now a) a) ++ gotL (accB rho2 rho3 now (Bd.ask b a.k)) (Bd.ask b a.k))) a.k now).isSome)] trivial ?_
      refine rF (some 12) (pt Y34.heap.size 0) (Y34.alloc (.cells (bdc noB).toArray 36)) ?_
      replace hM := hM.alloc 36 (bdc noB)
      generalize World.alloc _ _ = Y35 at *
      generalize hNe : Y34.heap.size = N35 at *
      clear hNe
      have hst := sto_part (bdc ((bestR (Rm.mk rho2 rho3 [⟨a.k, 1⟩] (([] ++ gotL (accB rho2 rho3 now a) a) ++ gotL (accB rho2 rho3 now (Bd.ask b a.k)) (Bd.ask b a.k))) a.k now).getD noB)) (hM.at 0 rfl) 0 36 (bdv ((bestR (Rm.mk rho2 rho3 [⟨a.k, 1⟩] (([] ++ gotL (accB rho2 rho3 now a) a) ++ gotL (accB rho2 rho3 now (Bd.ask b a.k)) (Bd.ask b a.k))) a.k now).getD noB)) (bdc ((bestR (Rm.mk rho2 rho3 [⟨a.k, 1⟩] (([] ++ gotL (accB rho2 rho3 now a) a) ++ gotL (accB rho2 rho3 now (Bd.ask b a.k)) (Bd.ask b a.k))) a.k now).getD noB)) rfl (by kernel_rfl) (Nat.le_of_ble_eq_true rfl) rfl rfl
      refine sF 36 (pt N35 0) (bdv ((bestR (Rm.mk rho2 rho3 [⟨a.k, 1⟩] (([] ++ gotL (accB rho2 rho3 now a) a) ++ gotL (accB rho2 rho3 now (Bd.ask b a.k)) (Bd.ask b a.k))) a.k now).getD noB)) (hst) ?_
      clear hst
      replace hM := hM.set 0 (cs' := bdc ((bestR (Rm.mk rho2 rho3 [⟨a.k, 1⟩] (([] ++ gotL (accB rho2 rho3 now a) a) ++ gotL (accB rho2 rho3 now (Bd.ask b a.k)) (Bd.ask b a.k))) a.k now).getD noB)) rfl rfl
      generalize World.setRow _ _ _ = Y36 at *
      refine tF 11 [.val 10 (some 13) (.bool (bestR (Rm.mk rho2 rho3 [⟨a.k, 1⟩] (([] ++ gotL (accB rho2 rho3 now a) a) ++ gotL (accB rho2 rho3 now (Bd.ask b a.k)) (Bd.ask b a.k))) a.k now).isSome)] trivial ?_
      refine dF ?_
      try simp only [puts, Tk.put, Act.put, List.setIfInBounds_toArray, List.set_cons_zero, List.set_cons_succ]
      go_upto_region 16 with fail
      refine wp_region_fromM (fun W => Sep w [] [.blk N35 36 (bdc ((bestR (Rm.mk rho2 rho3 [⟨a.k, 1⟩] (([] ++ gotL (accB rho2 rho3 now a) a) ++ gotL (accB rho2 rho3 now (Bd.ask b a.k)) (Bd.ask b a.k))) a.k now).getD noB)), .blk N31 36 (bdc ((bestR (Rm.mk rho2 rho3 [⟨a.k, 1⟩] (([] ++ gotL (accB rho2 rho3 now a) a) ++ gotL (accB rho2 rho3 now (Bd.ask b a.k)) (Bd.ask b a.k))) a.k now).getD noB)), .join (RMR B14 (Rm.mk rho2 rho3 [⟨a.k, 1⟩] (([] ++ gotL (accB rho2 rho3 now (Bd.ask b a.k)) (Bd.ask b a.k)) ++ gotL (accB rho2 rho3 now a) a)) va28 vb28), .join (RMR B13 (Rm.mk rho2 rho3 [⟨a.k, 1⟩] (([] ++ gotL (accB rho2 rho3 now a) a) ++ gotL (accB rho2 rho3 now (Bd.ask b a.k)) (Bd.ask b a.k))) va24 vb24), .blk N11 9 ([.string (rootB (seedB 2)), .string (rootB (seedB 3))]), .blk N3 36 (bdc (Bd.ask b a.k)), .blk N2 36 (bdc a)] W) hM ?_
      clear hM
      rintro Y37 hM
      refine tF 2 [.load 0 (some 81) 36 (pt N31 0) (bdv ((bestR (Rm.mk rho2 rho3 [⟨a.k, 1⟩] (([] ++ gotL (accB rho2 rho3 now a) a) ++ gotL (accB rho2 rho3 now (Bd.ask b a.k)) (Bd.ask b a.k))) a.k now).getD noB)), .load 1 (some 82) 36 (pt N35 0) (bdv ((bestR (Rm.mk rho2 rho3 [⟨a.k, 1⟩] (([] ++ gotL (accB rho2 rho3 now a) a) ++ gotL (accB rho2 rho3 now (Bd.ask b a.k)) (Bd.ask b a.k))) a.k now).getD noB))] ⟨load_part (hM.at 1 rfl) 0 (bdc ((bestR (Rm.mk rho2 rho3 [⟨a.k, 1⟩] (([] ++ gotL (accB rho2 rho3 now a) a) ++ gotL (accB rho2 rho3 now (Bd.ask b a.k)) (Bd.ask b a.k))) a.k now).getD noB)) rfl _ _ Tryz.underlying36 rfl (by kernel_rfl), load_part (hM.at 0 rfl) 0 (bdc ((bestR (Rm.mk rho2 rho3 [⟨a.k, 1⟩] (([] ++ gotL (accB rho2 rho3 now a) a) ++ gotL (accB rho2 rho3 now (Bd.ask b a.k)) (Bd.ask b a.k))) a.k now).getD noB)) rfl _ _ Tryz.underlying36 rfl (by kernel_rfl), trivial⟩ ?_
      refine eqA (.tmp 81) (.tmp 82) 36 (some 83) (bdc ((bestR (Rm.mk rho2 rho3 [⟨a.k, 1⟩] (([] ++ gotL (accB rho2 rho3 now a) a) ++ gotL (accB rho2 rho3 now (Bd.ask b a.k)) (Bd.ask b a.k))) a.k now).getD noB)).toArray (bdc ((bestR (Rm.mk rho2 rho3 [⟨a.k, 1⟩] (([] ++ gotL (accB rho2 rho3 now a) a) ++ gotL (accB rho2 rho3 now (Bd.ask b a.k)) (Bd.ask b a.k))) a.k now).getD noB)).toArray true (Eq.trans (run_eqBd ((bestR (Rm.mk rho2 rho3 [⟨a.k, 1⟩] (([] ++ gotL (accB rho2 rho3 now a) a) ++ gotL (accB rho2 rho3 now (Bd.ask b a.k)) (Bd.ask b a.k))) a.k now).getD noB) ((bestR (Rm.mk rho2 rho3 [⟨a.k, 1⟩] (([] ++ gotL (accB rho2 rho3 now a) a) ++ gotL (accB rho2 rho3 now (Bd.ask b a.k)) (Bd.ask b a.k))) a.k now).getD noB) _) (congrArg (fun z => Result.ok z _) (decide_eq_true rfl))) ?_
      refine tF 9 [.val 3 (some 84) (.bool true), .val 4 (some 85) (.bool (bestR (Rm.mk rho2 rho3 [⟨a.k, 1⟩] (([] ++ gotL (accB rho2 rho3 now a) a) ++ gotL (accB rho2 rho3 now (Bd.ask b a.k)) (Bd.ask b a.k))) a.k now).isSome), .val 5 (some 86) (.bool (bestR (Rm.mk rho2 rho3 [⟨a.k, 1⟩] (([] ++ gotL (accB rho2 rho3 now a) a) ++ gotL (accB rho2 rho3 now (Bd.ask b a.k)) (Bd.ask b a.k))) a.k now).isSome), .alt 6 (some 87) (.bool ((bestR (Rm.mk rho2 rho3 [⟨a.k, 1⟩] (([] ++ gotL (accB rho2 rho3 now a) a) ++ gotL (accB rho2 rho3 now (Bd.ask b a.k)) (Bd.ask b a.k))) a.k now).isSome == (bestR (Rm.mk rho2 rho3 [⟨a.k, 1⟩] (([] ++ gotL (accB rho2 rho3 now a) a) ++ gotL (accB rho2 rho3 now (Bd.ask b a.k)) (Bd.ask b a.k))) a.k now).isSome)) (.bool true), .val 7 (some 88) (.bool true), .val 8 (some 6) (.bool true)] ⟨congrArg Value.bool (beq_self_eq_true _), trivial⟩ ?_
      refine dF ?_
      try simp only [puts, Tk.put, Act.put, List.setIfInBounds_toArray, List.set_cons_zero, List.set_cons_succ]
      go_wp2_with fail
      go_ret
      exact ⟨rfl, hM.b⟩
    | true =>
      have Hhb2 := Lib.hid hb2
      clear hb2
      go_upto_region 9 with fail
      refine wp_region_fromM (fun W => Sep w [] [.join (RMR B14 (Rm.mk rho2 rho3 [⟨a.k, 1⟩] []) va17 vb17), .join (RMR B13 (Rm.mk rho2 rho3 [⟨a.k, 1⟩] []) va16 vb16), .blk N11 9 ([.string (rootB (seedB 2)), .string (rootB (seedB 3))]), .blk N3 36 (bdc (Bd.ask b a.k)), .blk N2 36 (bdc a)] W) hM ?_
      clear hM
      rintro Y38 hM
      refine tF 1 [.val 0 (some 6) (.bool true)] trivial ?_
      refine dF ?_
      try simp only [puts, Tk.put, Act.put, List.setIfInBounds_toArray, List.set_cons_zero, List.set_cons_succ]
      go_wp2_with fail
      go_ret
      exact ⟨rfl, hM.b⟩
  | true =>
    have Hhb1 := Lib.hid hb1
    clear hb1
    have hq := rmOpen_any a.k 1 _ (hM.oka 1 rfl)
    rw [open_err Hhb1.out] at hq
    refine cF (some 28) 10 #[pt B13 0, akv a.k, .int .i64 1] ((hq).mono ?_)
    rintro e Y39 ⟨rfl, va39, vb39, hT⟩
    clear hq
    replace hM := hM.turn 1 rfl hT rfl
    clear hT
    refine tF 9 [.alt 4 (some 29) (.bool ((errA a.k) != 0)) (.bool true), .val 5 (some 30) (.bool true), .skip 6 (some 31), .skip 7 (some 32), .skip 8 (some 33)] ⟨congrArg Value.bool (Hhb1.out), trivial⟩ ?_
    refine wpFrom_not (d := some 34) (by kernel_rfl) ?_
    refine tF 12 [.skip 10 (some 35), .val 11 (some 36) (.bool true)] trivial ?_
    refine dF ?_
    try simp only [puts, Tk.put, Act.put, List.setIfInBounds_toArray, List.set_cons_zero, List.set_cons_succ]
    go_upto_region 6 with fail
    refine wp_region_fromM (fun W => Sep w [] [.join (RMR B14 (Rm.mk (rootB (seedB 2)) (rootB (seedB 3)) [] []) va14 vb14), .join (RMR B13 (Rm.mk (rootB (seedB 2)) (rootB (seedB 3)) [] []) va39 vb39), .blk N11 9 ([.string (rootB (seedB 2)), .string (rootB (seedB 3))]), .blk N3 36 (bdc b), .blk N2 36 (bdc a)] W) hM ?_
    clear hM
    rintro Y40 hM
    refine tF 2 [.val 0 (some 37) (pt N2 1), .load 1 (some 38) 34 (pt N2 1) (akv a.k)] ⟨load_part (hM.at 4 rfl) 1 (akc a.k) rfl _ _ Tryz.underlying34 rfl (by kernel_rfl), trivial⟩ ?_
    refine cF (some 39) 11 #[akv a.k] ((refAsk_any a.k _).mono ?_)
    rintro e Y41 ⟨rfl, hb⟩
    replace hM := hM.below hb
    clear hb
    refine tF 5 [.alt 3 (some 40) (.bool ((errA a.k) != 0)) (.bool true), .val 4 (some 6) (.bool true)] ⟨congrArg Value.bool (Hhb1.out), trivial⟩ ?_
    refine dF ?_
    try simp only [puts, Tk.put, Act.put, List.setIfInBounds_toArray, List.set_cons_zero, List.set_cons_succ]
    go_wp2_with fail
    go_ret
    exact ⟨rfl, hM.b⟩
end Go.Proofs.YtbhfajnejibaoaaGreat
namespace Go.Proofs.YtbhfajnejibaoaaGreat
open Go.ChangeShapes Go.WideShapes Go.ChangeAt Go.RowKit Go.Deep
open Go.ChangeMaps (open_string)
set_option maxRecDepth 100000 in
theorem auctionOrder_lifted (os : Os) (started : os.Started) (H : Type) (enc : TypeId × Value → H) :
    ReturnsInHanded {} Tryz.checked os 4 .any (Rows.auctionOrderSpec.pre6 enc Tryz.prog Tryz.f4 Rows.auctionOrderRow.domain false) (Rows.auctionOrderSpec.post enc Tryz.prog Tryz.f4 false true false false) := by
  refine returnsInHanded_of_change_sized (C := Tryz.checked) Tryz.own started (by kernel_rfl) Tryz.func4
    (ChangeSpec.witness6 (enc := enc) (C := Tryz.checked) false ⟨#[], #[.agg #[.int .i64 0, .int .i64 0, .int .i64 0, .int .i64 0, .int .i64 0, .int .u64 0, .int .u64 0, .int .u64 0, .int .u64 0, .string ⟨#[]⟩, .int .u64 0, .int .u64 0, .int .u64 0, .int .u64 0, .int .i64 0, .string ⟨#[]⟩], .agg #[.int .i64 0, .int .i64 0, .int .i64 0, .int .i64 0, .int .i64 0, .int .u64 0, .int .u64 0, .int .u64 0, .int .u64 0, .string ⟨#[]⟩, .int .u64 0, .int .u64 0, .int .u64 0, .int .u64 0, .int .i64 0, .string ⟨#[]⟩], .int .i64 0], []⟩ 8 (by kernel_rfl) (by kernel_rfl) (by kernel_rfl) (by kernel_rfl)) ?_
  intro W base args ds gs before hval0 hW hcnd hsz0 _
  have hval : ∀ (j : Nat) t v, Tryz.f4.params[j]? = some t → args[j]? = some v → Value.okWide Tryz.prog W .any base t v := hval0
  have hW' := hW
  obtain ⟨p, q, hA0, hV, rfl, hfz, hnd⟩ := hW
  have hA : DataW.TrodAll enc Tryz.prog W 0 (fun _ => true) true Tryz.f4.params.toList args.toList ds p := hA0
  have hsz : (DataW.weightsEach Tryz.prog (Tryz.f4.params.toList ++ Rows.auctionOrderSpec.plain.varTypes Tryz.prog) (ds ++ gs)).all (· ≤ reachBytes) = true := hsz0
  rw [Tryz.params4] at hA hval hsz
  obtain ⟨v0, v1, v2, d0, d1, d2, p0, p1, p2, rfl, rfl, rfl, h0, h1, h2⟩ := trodAll_three hA
  obtain ⟨rfl, rfl⟩ := trodVars_none hV
  have k0 := h0
  have k1 := h1
  have k2 := h2
  have lt0 : ∀ x ∈ p0, x.block < W.heap.size := by obtain ⟨m, hm⟩ := k0; exact DataW.trod_lt m _ _ _ hm
  have lt1 : ∀ x ∈ p1, x.block < W.heap.size := by obtain ⟨m, hm⟩ := k1; exact DataW.trod_lt m _ _ _ hm
  have lt2 : ∀ x ∈ p2, x.block < W.heap.size := by obtain ⟨m, hm⟩ := k2; exact DataW.trod_lt m _ _ _ hm
  obtain ⟨i0, rfl, hx0⟩ := open_bid (hval 0 36 v0 rfl rfl) h0
  obtain ⟨i1, rfl, hx1⟩ := open_bid (hval 1 36 v1 rfl rfl) h1
  obtain ⟨z2, rfl, _, _, wf2⟩ := open_int Tryz.underlying3 (hval 2 3 v2 rfl rfl) h2
  obtain ⟨zl2, zh2⟩ := wf_i64 wf2
  clear hA0 hval0
  refine (auctionOrder_any i0 i1 z2 W hx0 hx1).mono fun e W' ⟨he, bel⟩ => ?_
  subst he
  exact ⟨_, rfl, _, _, _, [], _, [], hW', trodAll_mk1 (shut_bool Tryz.underlying4 _), (trodAll_mk3 (Below.trod Tryz.laidOut (by kernel_rfl) (of_decide_eq_true (by kernel_rfl)) k0 bel lt0) (Below.trod Tryz.laidOut (by kernel_rfl) (of_decide_eq_true (by kernel_rfl)) k1 bel lt1) (Below.trod Tryz.laidOut (by kernel_rfl) (of_decide_eq_true (by kernel_rfl)) k2 bel lt2)), rfl, bel.frame _, fun h => by cases h⟩
theorem auctionOrder_over : Rows.auctionOrderRow.holds Tryz.pinned (OpenSpec.ofChange Rows.auctionOrderSpec) :=
  OpenClaim.holds_of_wide 4 Tryz.f4 rfl rfl rfl rfl rfl rfl rfl ⟨rfl, rfl, rfl, rfl, rfl⟩ rfl rfl rfl rfl rfl (by kernel_rfl) Tryz.func4 (by kernel_rfl)
    (of_decide_eq_true (by kernel_rfl)) (by unfold Func.isWrapper; first | (rw [if_pos (by decide +kernel)]; kernel_rfl) | (rw [if_neg (by decide +kernel)]; exact ⟨rfl, rfl⟩))
    (fun os started H enc _ => auctionOrder_lifted os started H enc)
theorem auctionOrder_proved : Rows.AuctionOrderSaid := auctionOrder_over
end Go.Proofs.YtbhfajnejibaoaaGreat
