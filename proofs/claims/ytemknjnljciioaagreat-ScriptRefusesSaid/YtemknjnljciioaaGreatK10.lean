/-
  Scripts: Read
-/
import Derived.Test.YtemknjnljciioaaGreatK09
namespace Go.Proofs.YtemknjnljciioaaGreat
open Go.RowKit Go.Shelf
attribute [local irreducible] wpFrom wpAnyH StepH
def RdR (b : List UInt8) (w : World) (e : Ending) (W' : World) : Prop := ∃ v xs er, e = .returned (.tuple #[v, .int .i64 er]) ∧ ((er ≠ 0 ∧ xs = [] ∧ NoScr b) ∨ (er = 0 ∧ b = joinP (xs.map plP) ∧ (∀ s ∈ xs.map plP, OkP s) ∧ xs.length ≤ 512 ∧ b.length ≤ 8192)) ∧ Sep w [] [.own spc 24 5 v xs, .octs (zsP xs)] W'
def RdI (b : List UInt8) (k : Nat) (xs : List Sp) : Prop := k ≤ b.length ∧ b.take k = joinP (xs.map plP) ∧ ∀ s ∈ xs.map plP, OkP s
theorem RdI.start (b : List UInt8) : RdI b 0 [] := ⟨Nat.zero_le _, rfl, fun _ h => (List.not_mem_nil h).elim⟩
theorem RdI.few {b : List UInt8} {k : Nat} {xs : List Sp} (h : RdI b k xs) (hb : b.length ≤ 8192) : xs.length ≤ 1000 := by
  have h1 := joinP_few (xs.map plP)
  rw [← h.2.1, List.length_map, List.length_take] at h1
  omega
theorem RdI.step {b : List UInt8} {k : Nat} {xs : List Sp} {x : Sp} (h : RdI b k xs) (h0 : szF (b.drop k) ≠ 0) (hx : plP x = gotP (b.drop k)) : RdI b (k + szF (b.drop k)) (xs ++ [x]) := by
  obtain ⟨h1, h2, h3⟩ := got_octs h0
  rw [List.length_drop] at h3
  have hk := h.1
  refine ⟨by omega, ?_, fun s hs => ?_⟩
  · rw [List.take_add, h.2.1, ← h1, List.map_append, joinP_app, List.map_singleton, joinP_one, hx]
  · rw [List.map_append, List.map_singleton] at hs
    rcases List.mem_append.1 hs with hs | hs
    · exact h.2.2 s hs
    · obtain rfl := List.mem_singleton.1 hs
      rw [hx]
      exact h2
theorem RdI.stop {b : List UInt8} {k : Nat} {xs : List Sp} (h : RdI b k xs) (hk : k < b.length) (h0 : szF (b.drop k) = 0) : NoScr b :=
  .inr (.inl ⟨xs.map plP, b.drop k, by rw [← h.2.1, List.take_append_drop], fun e => by have := congrArg List.length e; simp at this; omega, h0, h.2.2⟩)
theorem RdI.all {b : List UInt8} {k : Nat} {xs : List Sp} (h : RdI b k xs) (hk : ¬ k < b.length) : b = joinP (xs.map plP) := by
  have := h.1
  rw [← h.2.1, List.take_of_length_le (by omega)]
theorem RdI.many {b : List UInt8} {k : Nat} {xs : List Sp} (h : RdI b k xs) (hk : ¬ k < b.length) (hn : 512 < xs.length) : NoScr b :=
  .inr (.inr ⟨xs.map plP, h.all hk, by rw [List.length_map]; exact hn, h.2.2⟩)
theorem got_le {b : List UInt8} {k : Nat} (h0 : szF (b.drop k) ≠ 0) : szF (b.drop k) ≤ (b.drop k).length := (got_octs h0).2.2
set_option maxRecDepth 100000 in
set_option maxHeartbeats 4000000 in
theorem readP_any (b : List UInt8) {v : Value} (w : World) (hln : b.length ≤ 140737488351232) (hs : BSl 0 w.heap.size w v b) : Calls Tryz.prog 7 #[v] w (RdR b w) := by
  have hmx : Tryz.prog.follows .mixedOrders = true := by kernel_rfl
  obtain ⟨a0, c0, rfl, _⟩ := hs.slice
  have HB := Lib.hid hs
  have HLN := Lib.hid hln
  clear hs hln
  have hM := Sep.start w
  go_enter Tryz.func7, Tryz.ntmps7
  go_upto_region 0 with fail
  refine wp_region_fromM (fun W => Sep w [] [] W) hM ?_
  clear hM
  rintro Y1 hM
  refine tF 2 [.val 0 (some 2) (.slice none 0 0), .val 1 (some 3) (.int .i64 0)] trivial ?_
  refine dF ?_
  try simp only [puts, Tk.put, Act.put, List.setIfInBounds_toArray, List.set_cons_zero, List.set_cons_succ]
  go_upto_region 1 with fail
  refine wp_region_fromM (fun W => Sep w [] [] W) hM ?_
  clear hM
  rintro Y2 hM
  refine tF 3 [.val 0 (some 7) (.slice a0 b.length c0), .val 1 (some 8) (.int .i64 (b.length : Int)), .val 2 (some 9) (.bool (decide (8192 < (b.length : Int))))] trivial ?_
  refine dF ?_
  try simp only [puts, Tk.put, Act.put, List.setIfInBounds_toArray, List.set_cons_zero, List.set_cons_succ]
  cases hb1 : decide (8192 < (b.length : Int)) with
  | false =>
    have Hhb1 := Lib.hid hb1
    clear hb1
    have H8 : Hid (b.length ≤ 8192) := Lib.hid (by have h := of_decide_eq_false Hhb1.out; omega)
    go_upto_region 3 with fail
    refine wp_region_fromM (fun W => Sep w [] [] W) hM ?_
    clear hM
    rintro Y3 hM
    refine tF 1 [.val 0 (some 4) (.slice none 0 0)] trivial ?_
    refine dF ?_
    try simp only [puts, Tk.put, Act.put, List.setIfInBounds_toArray, List.set_cons_zero, List.set_cons_succ]
    replace hM := (hM.sub (l' := []) (List.nil_sublist _)).octs0.nil spc 24 5
    go_wp2_with fail
    go_loopw [0, 4] (fun u0 u4 wr => ∃ (k : Nat) (xs : List Sp) (a : Option Addr) (c : Nat), u0 = .slice a (b.drop k).length c ∧ BSl 0 w.heap.size w (.slice a (b.drop k).length c) (b.drop k) ∧ RdI b k xs ∧ Sep w [] [.own spc 24 5 (u4) (xs), .octs (zsP xs)] wr) (fun u0 u4 _ => lnV u0)
    case atStart => exact ⟨0, [], a0, c0, rfl, HB.out, RdI.start b, hM⟩
    clear hM
    case round =>
      obtain ⟨k, xs, a, c, rfl, ha, hi, hM⟩ := hrel
      have HA := Lib.hid ha
      have HI := Lib.hid hi
      clear ha hi
      go_upto_region 4 with fail
      refine wp_region_fromM (fun W => Sep w [] [.own spc 24 5 (u4) (xs), .octs (zsP xs)] W) hM ?_
      clear hM
      rintro Y4 hM
      refine tF 3 [.val 0 (some 10) (.slice a (b.drop k).length c), .val 1 (some 11) (.int .i64 ((b.drop k).length : Int)), .val 2 (some 12) (.bool (decide (0 < ((b.drop k).length : Int))))] trivial ?_
      refine dF ?_
      try simp only [puts, Tk.put, Act.put, List.setIfInBounds_toArray, List.set_cons_zero, List.set_cons_succ]
      cases hb2 : decide (0 < ((b.drop k).length : Int)) with
      | false =>
        have Hhb2 := Lib.hid hb2
        clear hb2
        have HK : Hid (¬ k < b.length) := Lib.hid (by have h := of_decide_eq_false Hhb2.out; rw [List.length_drop] at h; omega)
        go_upto_region 10 with fail
        obtain ⟨pu4, cu4, rfl⟩ := (hM.oka 0 rfl).slice spc_len
        refine wp_region_fromM (fun W => Sep w [] [.own spc 24 5 (.slice pu4 xs.length cu4) (xs), .octs (zsP xs)] W) hM ?_
        clear hM
        rintro Y5 hM
        refine tF 3 [.val 0 (some 27) (.slice pu4 xs.length cu4), .val 1 (some 28) (.int .i64 (xs.length : Int)), .val 2 (some 29) (.bool (decide (512 < (xs.length : Int))))] trivial ?_
        refine dF ?_
        try simp only [puts, Tk.put, Act.put, List.setIfInBounds_toArray, List.set_cons_zero, List.set_cons_succ]
        cases hb3 : decide (512 < (xs.length : Int)) with
        | false =>
          have Hhb3 := Lib.hid hb3
          clear hb3
          have H5 : Hid (xs.length ≤ 512) := Lib.hid (by have h := of_decide_eq_false Hhb3.out; omega)
          go_upto_region 12 with fail
          refine wp_region_fromM (fun W => Sep w [] [.own spc 24 5 (.slice pu4 xs.length cu4) (xs), .octs (zsP xs)] W) hM ?_
          clear hM
          rintro Y6 hM
          refine tF 3 [.val 0 (some 30) (.slice pu4 xs.length cu4), .val 1 (some 2) (.slice pu4 xs.length cu4), .val 2 (some 3) (.int .i64 0)] trivial ?_
          refine dF ?_
          try simp only [puts, Tk.put, Act.put, List.setIfInBounds_toArray, List.set_cons_zero, List.set_cons_succ]
          have hN : Sep w [] [.own spc 24 5 (.slice pu4 xs.length cu4) (xs), .octs (zsP xs)] Y6 := hM.pick [0, 1] (by decide) rfl
          go_wp2_with fail
          go_ret2
          exact ⟨_, xs, 0, rfl, .inr ⟨rfl, HI.out.all HK.out, HI.out.2.2, H5.out, H8.out⟩, hN⟩
        | true =>
          have Hhb3 := Lib.hid hb3
          clear hb3
          have HN := Lib.hid (RdI.many HI.out HK.out (by have h := of_decide_eq_true Hhb3.out; omega))
          go_upto_region 11 with fail
          refine wp_region_fromM (fun W => Sep w [] [.own spc 24 5 (.slice pu4 xs.length cu4) (xs), .octs (zsP xs)] W) hM ?_
          clear hM
          rintro Y7 hM
          refine tF 2 [.val 0 (some 2) (.slice none 0 0), .val 1 (some 3) (.int .i64 3)] trivial ?_
          refine dF ?_
          try simp only [puts, Tk.put, Act.put, List.setIfInBounds_toArray, List.set_cons_zero, List.set_cons_succ]
          have hN := (hM.sub (l' := []) (List.nil_sublist _)).octs0.nil spc 24 5
          go_wp2_with fail
          go_ret2
          exact ⟨_, [], 3, rfl, .inl ⟨by decide, rfl, HN.out⟩, hN⟩
      | true =>
        have Hhb2 := Lib.hid hb2
        clear hb2
        have HK : Hid (k < b.length) := Lib.hid (by have h := of_decide_eq_true Hhb2.out; rw [List.length_drop] at h; omega)
        go_upto_region 5 with fail
        refine wp_region_fromM (fun W => Sep w [] [.own spc 24 5 (u4) (xs), .octs (zsP xs)] W) hM ?_
        clear hM
        rintro Y8 hM
        refine tF 1 [.val 0 (some 14) (.slice a (b.drop k).length c)] trivial ?_
        refine cF (some 15) 12 #[.slice a (b.drop k).length c] ((firstP_any (b.drop k) _ (by have h := HLN.out; rw [List.length_drop]; omega) ((HA.out.below hM.b (Nat.le_refl _)).mono (Nat.le_refl _) hM.size)).mono ?_)
        rintro e Y9 ⟨y9, rfl, hy, hR⟩
        have HY := Lib.hid hy
        replace hM := hM.gain (Sep.close (ps := [.oct (.slice y9.ad y9.l.length y9.cp) y9.l]) (l := []) hR)
        replace hM := Sep.part (ps := [.oct (.slice y9.ad y9.l.length y9.cp) y9.l]) hM
        clear hy hR
        replace hM : Sep w [] [.oct (.slice y9.ad y9.l.length y9.cp) y9.l, .own spc 24 5 (u4) (xs), .octs (zsP xs)] Y9 := hM
        refine tF 5 [.val 2 (some 13) (.tuple #[spv y9, .int .i64 (szF (b.drop k) : Int)]), .val 3 (some 16) (spv y9), .val 4 (some 17) (.int .i64 (szF (b.drop k) : Int))] trivial ?_
        refine rF (some 5) (pt Y9.heap.size 0) (Y9.alloc (.cells (spc noSp).toArray 24)) ?_
        replace hM := hM.alloc 24 (spc noSp)
        generalize World.alloc _ _ = Y10 at *
        generalize hNe : Y9.heap.size = N10 at *
        clear hNe
        have hst := sto_part (spc y9) (hM.at 0 rfl) 0 24 (spv y9) (spc y9) rfl (by kernel_rfl) (Nat.le_of_ble_eq_true rfl) rfl rfl
        refine sF 24 (pt N10 0) (spv y9) (hst) ?_
        clear hst
        replace hM := hM.set 0 (cs' := spc y9) rfl rfl
        generalize World.setRow _ _ _ = Y11 at *
        refine tF 8 [.val 7 (some 6) (.int .i64 (szF (b.drop k) : Int))] trivial ?_
        refine dF ?_
        try simp only [puts, Tk.put, Act.put, List.setIfInBounds_toArray, List.set_cons_zero, List.set_cons_succ]
        go_upto_region 6 with fail
        refine wp_region_fromM (fun W => Sep w [] [.blk N10 24 (spc y9), .oct (.slice y9.ad y9.l.length y9.cp) y9.l, .own spc 24 5 (u4) (xs), .octs (zsP xs)] W) hM ?_
        clear hM
        rintro Y12 hM
        refine tF 2 [.val 0 (some 18) (.int .i64 (szF (b.drop k) : Int)), .val 1 (some 19) (.bool ((szF (b.drop k) : Int) == 0))] trivial ?_
        refine dF ?_
        try simp only [puts, Tk.put, Act.put, List.setIfInBounds_toArray, List.set_cons_zero, List.set_cons_succ]
        cases hb4 : (szF (b.drop k) : Int) == 0 with
        | false =>
          have Hhb4 := Lib.hid hb4
          clear hb4
          have HZ : Hid (szF (b.drop k) ≠ 0) := Lib.hid (by have h := ne_of_beq_false Hhb4.out; omega)
          go_upto_region 8 with fail
          refine wp_region_fromM (fun W => Sep w [] [.blk N10 24 (spc y9), .oct (.slice y9.ad y9.l.length y9.cp) y9.l, .own spc 24 5 (u4) (xs), .octs (zsP xs)] W) hM ?_
          clear hM
          rintro Y13 hM
          refine tF 2 [.val 0 (some 20) (u4), .load 1 (some 21) 24 (pt N10 0) (spv y9)] ⟨load_part (hM.at 0 rfl) 0 (spc y9) rfl _ _ Tryz.underlying24 rfl (by kernel_rfl), trivial⟩ ?_
          refine rF (some 22) (.slice (some ⟨Y13.heap.size, 0, none⟩) 1 1) (Y13.alloc (.cells (spc y9).toArray 24)) ?_
          replace hM := hM.alloc 24 (spc y9)
          generalize World.alloc _ _ = Y14 at *
          generalize hNe : Y13.heap.size = N14 at *
          clear hNe
          obtain ⟨v15, Y15, hrun, ht⟩ := own_app1 infoSp rfl (by decide) Tryz.underlying30 spc_len spc_one (hM.oka 3 rfl) y9 (hM.at 0 rfl) (by decide) (by have h := HI.out.few H8.out; omega) 30
          replace hM := hM.turn 3 rfl ht rfl
          clear ht
          refine wpFrom_append (d := some 23) (t := 30) (t' := 30) (ty := 30) (v := u4) (x := .slice (some ⟨N14, 0, none⟩) 1 1) (by kernel_rfl) hrun ?_
          clear hrun
          refine tF 5 [.val 4 (some 4) (v15)] trivial ?_
          refine dF ?_
          try simp only [puts, Tk.put, Act.put, List.setIfInBounds_toArray, List.set_cons_zero, List.set_cons_succ]
          go_upto_region 9 with fail
          obtain ⟨a15c, c15c, hrun15, hcb15, _⟩ := cutL HA.out (i := szF (b.drop k)) rfl (got_le HZ.out)
          have HR15 := Lib.hid hrun15
          have HC15 := Lib.hid (hcb15 _ _ _ HA.out)
          have HCB15 := Lib.hid hcb15
          clear hrun15 hcb15
          refine wp_region_fromM (fun W => Sep w [] [.blk N14 24 (spc y9), .blk N10 24 (spc y9), .oct (.slice y9.ad y9.l.length y9.cp) y9.l, .own spc 24 5 (v15) (xs ++ [y9]), .octs (zsP xs)] W) hM ?_
          clear hM
          rintro Y17 hM
          refine tF 4 [.val 0 (some 24) (.slice a (b.drop k).length c), .val 1 (some 25) (.int .i64 (szF (b.drop k) : Int)), .slc 2 (some 26) 22 (.slice a (b.drop k).length c) (some (.int .i64 (szF (b.drop k) : Int))) none none (.slice a15c ((b.drop k).drop (szF (b.drop k))).length c15c), .val 3 (some 0) (.slice a15c ((b.drop k).drop (szF (b.drop k))).length c15c)] ⟨HR15.out _, trivial⟩ ?_
          refine dF ?_
          try simp only [puts, Tk.put, Act.put, List.setIfInBounds_toArray, List.set_cons_zero, List.set_cons_succ]
          have hM1 := Sep.sps1 y9 rfl rfl (l := [.own spc 24 5 (v15) (xs ++ [y9])]) (hM.pick [2, 4, 3] (by decide) rfl)
          have HM1 : Hid (Sep w [] [.own spc 24 5 (v15) (xs ++ [y9]), .octs (zsP (xs ++ [y9]))] Y17) := Lib.hid (hM1.pick [1, 0] (by decide) rfl)
          clear hM hM1
          go_wp2_with fail
          go_roundw
          case rel => exact ⟨k + szF (b.drop k), xs ++ [y9], _, _, congrArg (fun q => Value.slice _ (List.length q) _) List.drop_drop, by rw [← List.drop_drop]; exact HC15.out, HI.out.step HZ.out (HY.out HZ.out), HM1.out⟩
          case measure => have h := got_le HZ.out; have h2 := HZ.out; have h3 := HK.out; rw [List.length_drop] at h; simp only [lnV, List.length_drop]; omega
        | true =>
          have Hhb4 := Lib.hid hb4
          clear hb4
          have HZ : Hid (szF (b.drop k) = 0) := Lib.hid (by have h := eq_of_beq Hhb4.out; omega)
          have HN := Lib.hid (RdI.stop HI.out HK.out HZ.out)
          go_upto_region 7 with fail
          refine wp_region_fromM (fun W => Sep w [] [.blk N10 24 (spc y9), .oct (.slice y9.ad y9.l.length y9.cp) y9.l, .own spc 24 5 (u4) (xs), .octs (zsP xs)] W) hM ?_
          clear hM
          rintro Y18 hM
          refine tF 2 [.val 0 (some 2) (.slice none 0 0), .val 1 (some 3) (.int .i64 16)] trivial ?_
          refine dF ?_
          try simp only [puts, Tk.put, Act.put, List.setIfInBounds_toArray, List.set_cons_zero, List.set_cons_succ]
          have hN := (hM.sub (l' := []) (List.nil_sublist _)).octs0.nil spc 24 5
          go_wp2_with fail
          go_ret2
          exact ⟨_, [], 16, rfl, .inl ⟨by decide, rfl, HN.out⟩, hN⟩
  | true =>
    have Hhb1 := Lib.hid hb1
    clear hb1
    have HN : Hid (NoScr b) := Lib.hid (.inl (by have h := of_decide_eq_true Hhb1.out; omega))
    go_upto_region 2 with fail
    refine wp_region_fromM (fun W => Sep w [] [] W) hM ?_
    clear hM
    rintro Y19 hM
    refine tF 2 [.val 0 (some 2) (.slice none 0 0), .val 1 (some 3) (.int .i64 5)] trivial ?_
    refine dF ?_
    try simp only [puts, Tk.put, Act.put, List.setIfInBounds_toArray, List.set_cons_zero, List.set_cons_succ]
    have hN := (hM.sub (l' := []) (List.nil_sublist _)).octs0.nil spc 24 5
    go_wp2_with fail
    go_ret2
    exact ⟨_, [], 5, rfl, .inl ⟨by decide, rfl, HN.out⟩, hN⟩
end Go.Proofs.YtemknjnljciioaaGreat
