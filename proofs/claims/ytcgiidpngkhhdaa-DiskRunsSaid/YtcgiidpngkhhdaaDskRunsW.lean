/-
  The law: whatever is called, a disk is a text of which a beginning is sure.
-/
import Derived.Test.YtcgiidpngkhhdaaDskOp
import Derived.Test.YtcgiidpngkhhdaaDskL
namespace Go.Proofs.Ytcgiidpngkhhdaa
open Go.RowKit Go.Shelf
attribute [local irreducible] wpFrom wpAnyH StepH

def rmZ (z : Int) : Int := ((atC z 50 : Nat) : Int) - 1
theorem rmZ_max (z : Int) : ((newD (rmZ z)).rm : Int) = max2I (rmZ z) 0 := by
  have h := atC_lt z (n := 50) (by decide)
  rw [max2I_eq]
  show ((roomN (rmZ z) : Nat) : Int) = _
  unfold roomN rmZ
  omega
theorem rmZ_wrap (z : Int) : IntKind.i64.wrap (((atC z 50 : Nat) : Int) - 1) = rmZ z := by
  have h := atC_lt z (n := 50) (by decide)
  exact IntWalk.i64_in _ (by omega)
theorem keep_eq2 {D : Dk} (h : OkD D) (n : Int) : IntKind.i64.wrap ((D.su : Int) + (min2I (max2I n 0) ((D.o.length : Int) - (D.su : Int)))) = ((keepN D n : Nat) : Int) := by
  have h1 := h.room
  have h2 := h.len
  have h3 := h.sure
  rw [max2I_eq, min2I_eq, IntWalk.i64_in _ (by omega)]
  unfold keepN
  omega
theorem slice_txI (l : List UInt8) {n : Int} (h0 : 0 ≤ n) (h1 : n ≤ (l.length : Int)) (W : World) : (Instr.sliceAt 9 (.string (txB l)) none (some (.int .i64 n)) none).run Try.prog W = .ok (.string (txB (l.take n.toNat))) W := by
  obtain ⟨k, rfl⟩ : ∃ k : Nat, n = (k : Int) := ⟨n.toNat, by omega⟩
  exact slice_tx l (by omega) W
theorem write_yes {D : Dk} {l : List UInt8} (h : OkD D) (hl : (l.length : Int) ≤ (D.rm : Int) - (D.o.length : Int)) : writeD D l = (putD D l, 0) := by
  have h1 := h.len
  unfold writeD
  rw [if_neg (by omega)]
theorem write_not {D : Dk} {l : List UInt8} (h : OkD D) (hl : ¬ (l.length : Int) ≤ (D.rm : Int) - (D.o.length : Int)) : writeD D l = (D, 10) := by
  have h1 := h.len
  unfold writeD
  rw [if_pos (by omega)]
theorem put_ok {D : Dk} {l : List UInt8} (h : OkD D) (hl : (l.length : Int) ≤ (D.rm : Int) - (D.o.length : Int)) : OkD (putD D l) := by
  have := write_ok h l
  rw [write_yes h hl] at this
  exact this
theorem trim_yes {D : Dk} {n : Int} (h0 : 0 ≤ n) (h1 : n ≤ (D.o.length : Int)) : trimD D n = (leaveD D n.toNat, 0) := by
  unfold trimD
  rw [if_neg (by omega)]
theorem trim_not {D : Dk} {n : Int} (h : ¬ (0 ≤ n ∧ n ≤ (D.o.length : Int))) : trimD D n = (D, 4) := by
  unfold trimD
  rw [if_pos (by omega)]
theorem neTx {a b : List UInt8} (h : a = b) : (!((txB a).toList == (txB b).toList)) = false := by rw [eqTx h]; rfl
set_option maxRecDepth 100000 in
set_option maxHeartbeats 4000000 in
theorem diskRuns_any (z : Int) (l : List Dop) (v : Value) (w : World) {lo hi : Nat} (hl : RSl opc lo hi w v l) (hhi : hi ≤ w.heap.size) (hok : ∀ x ∈ l, BSl 0 w.heap.size w x.da x.ld) : Calls Try.prog 3 #[.int .i64 z, v] w fun e W' => e = .returned (.bool true) ∧ Below w.heap.size w W' := by
  have hmx : Try.prog.follows .mixedOrders = true := by kernel_rfl
  have HEl := Lib.hid (fun k x (hx : l[k]? = some x) => hl.elem opc_len hx Try.underlying22 (fun W => by kernel_rfl))
  obtain ⟨pl, cl, rfl⟩ := hl.slice
  have HLl := Lib.hid hl
  have HHl := Lib.hid hhi
  have HLENl := Lib.hid (show l.length ≤ 9223372036854775807 from by have h := hl.len; unfold maxLen at h; omega)
  clear hl hhi
  have HOK := Lib.hid hok
  clear hok
  have hM := Sep.start w
  have HK50 := Lib.hid (show Int.tmod (Int.tmod z 50 + 50) 50 = ((atC z 50 : Nat) : Int) from atC_eq z (n := 50) (by decide))
  have HS50 := Lib.hid (show IntKind.i64.wrap (Int.tmod z 50 + 50) = Int.tmod z 50 + 50 from atC_sum z (n := 50) (by decide) (by decide))
  go_enter Try.func3, Try.ntmps3
  go_upto_region 0 with fail
  refine wp_region_fromM (fun W => Sep w [] [] W) hM ?_
  clear hM
  rintro Y1 hM
  refine tF 1 [.val 0 (some 4) (.bool false)] trivial ?_
  refine dF ?_
  try simp only [puts, Tk.put, Act.put, List.setIfInBounds_toArray, List.set_cons_zero, List.set_cons_succ]
  go_upto_region 1 with fail
  refine wp_region_fromM (fun W => Sep w [] [] W) hM ?_
  clear hM
  rintro Y2 hM
  refine cF (some 13) 6 #[] ((alive15_any _).mono ?_)
  rintro e Y3 ⟨rfl, hb⟩
  replace hM := hM.below hb
  clear hb
  refine tF 2 [.val 1 (some 14) (.bool false)] trivial ?_
  refine dF ?_
  try simp only [puts, Tk.put, Act.put, List.setIfInBounds_toArray, List.set_cons_zero, List.set_cons_succ]
  go_upto_region 3 with fail
  refine wp_region_fromM (fun W => Sep w [] [] W) hM ?_
  clear hM
  rintro Y4 hM
  refine tF 1 [.val 0 (some 15) (.int .i64 z)] trivial ?_
  refine remF (.tmp 15) (.const (.int .i64 50)) 3 3 (some 16) z 50 (Int.tmod z 50) (by decide) rfl ?_
  refine tF 3 [.alt 2 (some 17) (.int .i64 (IntKind.i64.wrap ((Int.tmod z 50) + 50))) (.int .i64 (Int.tmod z 50 + 50))] ⟨congrArg (Value.int .i64) (HS50.out), trivial⟩ ?_
  refine remF (.tmp 17) (.const (.int .i64 50)) 3 3 (some 18) (Int.tmod z 50 + 50) 50 ((atC z 50 : Nat) : Int) (by decide) HK50.out ?_
  refine tF 6 [.alt 4 (some 19) (.int .i64 (IntKind.i64.wrap (((atC z 50 : Nat) : Int) - 1))) (.int .i64 (rmZ z)), .val 5 (some 0) (.int .i64 (rmZ z))] ⟨congrArg (Value.int .i64) (rmZ_wrap z), trivial⟩ ?_
  refine dF ?_
  try simp only [puts, Tk.put, Act.put, List.setIfInBounds_toArray, List.set_cons_zero, List.set_cons_succ]
  go_upto_region 4 with fail
  refine wp_region_fromM (fun W => Sep w [] [] W) hM ?_
  clear hM
  rintro Y5 hM
  refine tF 1 [.val 0 (some 20) (.int .i64 (rmZ z))] trivial ?_
  refine cF (some 21) 7 #[.int .i64 (rmZ z)] ((dkNew_any (rmZ z) _).mono ?_)
  rintro e Y6 ⟨B6, v6, rfl, hR⟩
  replace hM := hM.gain (Sep.close (ps := DKR B6 (newD (rmZ z)) v6) (l := []) hR)
  clear hR
  refine tF 3 [.val 2 (some 5) (pt B6 0)] trivial ?_
  refine dF ?_
  try simp only [puts, Tk.put, Act.put, List.setIfInBounds_toArray, List.set_cons_zero, List.set_cons_succ]
  go_upto_region 5 with fail
  refine wp_region_fromM (fun W => Sep w [] [.join (DKR B6 (newD (rmZ z)) v6)] W) hM ?_
  clear hM
  rintro Y7 hM
  refine tF 2 [.val 0 (some 6) (.string ⟨#[]⟩), .val 1 (some 7) (.int .i64 0)] trivial ?_
  refine dF ?_
  try simp only [puts, Tk.put, Act.put, List.setIfInBounds_toArray, List.set_cons_zero, List.set_cons_succ]
  go_upto_region 6 with fail
  refine wp_region_fromM (fun W => Sep w [] [.join (DKR B6 (newD (rmZ z)) v6)] W) hM ?_
  clear hM
  rintro Y8 hM
  refine tF 1 [.val 0 (some 8) (.int .i64 0)] trivial ?_
  refine dF ?_
  try simp only [puts, Tk.put, Act.put, List.setIfInBounds_toArray, List.set_cons_zero, List.set_cons_succ]
  replace hM := hM.pick (l' := [.join (DKR B6 (newD (rmZ z)) v6)]) [0] (by decide) rfl
  go_wp2_with fail
  go_loopw [6, 7, 8] (fun u6 u7 u8 wr => ∃ (j : Nat) (D : Dk) (v : Value), j ≤ l.length ∧ OkD D ∧ (D.rm : Int) = max2I (rmZ z) 0 ∧ u8 = .int .i64 (j : Int) ∧ u6 = .string (txB D.o) ∧ u7 = .int .i64 (D.su : Int) ∧ Sep w [] [.join (DKR B6 D v)] wr) (fun u6 u7 u8 _ => l.length - (intOf u8).toNat)
  case atStart => exact ⟨0, newD (rmZ z), v6, Nat.zero_le _, new_ok _, rmZ_max z, rfl, rfl, rfl, hM⟩
  clear hM
  case round =>
    obtain ⟨j, D, v, hj, ho, hrm, rfl, rfl, rfl, hM⟩ := hrel
    have HOD := Lib.hid ho
    have HRM := Lib.hid hrm
    clear ho hrm
    go_upto_region 7 with fail
    refine wp_region_fromM (fun W => Sep w [] [.join (DKR B6 D v)] W) hM ?_
    clear hM
    rintro Y9 hM
    refine tF 5 [.val 0 (some 22) (.int .i64 (j : Int)), .val 1 (some 23) (.slice pl l.length cl), .val 2 (some 24) (.int .i64 (l.length : Int)), .val 3 (some 25) (.bool (decide ((j : Int) < (l.length : Int)))), .val 4 (some 26) (.bool (decide ((j : Int) < (l.length : Int))))] trivial ?_
    cases hb1 : decide ((j : Int) < (l.length : Int)) with
    | false =>
      have Hhb1 := Lib.hid hb1
      clear hb1
      refine tF 8 [.skip 5 (some 27), .skip 6 (some 28), .val 7 (some 29) (.bool false)] trivial ?_
      refine dF ?_
      try simp only [puts, Tk.put, Act.put, List.setIfInBounds_toArray, List.set_cons_zero, List.set_cons_succ]
      go_upto_region 33 with fail
      refine wp_region_fromM (fun W => Sep w [] [.join (DKR B6 D v)] W) hM ?_
      clear hM
      rintro Y10 hM
      refine tF 1 [.val 0 (some 4) (.bool true)] trivial ?_
      refine dF ?_
      try simp only [puts, Tk.put, Act.put, List.setIfInBounds_toArray, List.set_cons_zero, List.set_cons_succ]
      go_wp2_with fail
      go_ret
      exact ⟨rfl, hM.b⟩
    | true =>
      have Hhb1 := Lib.hid hb1
      clear hb1
      refine tF 8 [.val 5 (some 27) (.int .i64 (j : Int)), .val 6 (some 28) (.bool (decide ((j : Int) < 40))), .val 7 (some 29) (.bool (decide ((j : Int) < 40)))] trivial ?_
      refine dF ?_
      try simp only [puts, Tk.put, Act.put, List.setIfInBounds_toArray, List.set_cons_zero, List.set_cons_succ]
      cases hb2 : decide ((j : Int) < 40) with
      | false =>
        have Hhb2 := Lib.hid hb2
        clear hb2
        go_upto_region 33 with fail
        refine wp_region_fromM (fun W => Sep w [] [.join (DKR B6 D v)] W) hM ?_
        clear hM
        rintro Y11 hM
        refine tF 1 [.val 0 (some 4) (.bool true)] trivial ?_
        refine dF ?_
        try simp only [puts, Tk.put, Act.put, List.setIfInBounds_toArray, List.set_cons_zero, List.set_cons_succ]
        go_wp2_with fail
        go_ret
        exact ⟨rfl, hM.b⟩
      | true =>
        have Hhb2 := Lib.hid hb2
        clear hb2
        have hlt : j < l.length := by have h := of_decide_eq_true Hhb1.out; omega
        obtain ⟨⟨xk, xn, xd, xl⟩, hx⟩ : ∃ x, l[j]? = some x := ⟨_, List.getElem?_eq_getElem hlt⟩
        have hbx := HOK.out _ (List.mem_of_getElem? hx)
        dsimp only at hbx
        obtain ⟨ad, cd, rfl, hcd⟩ := hbx.slice
        obtain ⟨bl, ol, _, _, hit, hct⟩ := HEl.out j _ hx
        have HJ := Lib.hid hlt
        have HBX := Lib.hid hbx
        have HIl := Lib.hid hit
        have HCl := Lib.hid hct
        clear hx hit hct hbx hlt hcd
        have HK4 := Lib.hid (show Int.tmod (Int.tmod xk 4 + 4) 4 = ((atC xk 4 : Nat) : Int) from atC_eq xk (n := 4) (by decide))
        have HS4 := Lib.hid (show IntKind.i64.wrap (Int.tmod xk 4 + 4) = Int.tmod xk 4 + 4 from atC_sum xk (n := 4) (by decide) (by decide))
        go_upto_region 9 with fail
        refine wp_region_fromM (fun W => Sep w [] [.join (DKR B6 D v)] W) hM ?_
        clear hM
        rintro Y12 hM
        refine tF 4 [.val 0 (some 32) (.slice pl l.length cl), .val 1 (some 33) (.int .i64 (j : Int)), .idx 2 (some 34) 22 (.slice pl l.length cl) (.int .i64 (j : Int)) (pt bl ol), .load 3 (some 35) 28 (pt bl ol) (opv (Dop.mk xk xn (.slice ad xl.length cd) xl))] ⟨HIl.out _, ld_cells (opc (Dop.mk xk xn (.slice ad xl.length cd) xl)) _ _ Try.underlying28 rfl (by kernel_rfl) (HCl.out _ (HLl.out.below hM.b HHl.out)), trivial⟩ ?_
        refine rF (some 9) (pt Y12.heap.size 0) (Y12.alloc (.cells (opc noOp).toArray 28)) ?_
        replace hM := hM.alloc 28 (opc noOp)
        generalize World.alloc _ _ = Y13 at *
        generalize hNe : Y12.heap.size = N13 at *
        clear hNe
        have hst := sto_part (opc (Dop.mk xk xn (.slice ad xl.length cd) xl)) (hM.at 0 rfl) 0 28 (opv (Dop.mk xk xn (.slice ad xl.length cd) xl)) (opc (Dop.mk xk xn (.slice ad xl.length cd) xl)) rfl (by kernel_rfl) (Nat.le_of_ble_eq_true rfl) rfl rfl
        refine sF 28 (pt N13 0) (opv (Dop.mk xk xn (.slice ad xl.length cd) xl)) (hst) ?_
        clear hst
        replace hM := hM.set 0 (cs' := opc (Dop.mk xk xn (.slice ad xl.length cd) xl)) rfl rfl
        generalize World.setRow _ _ _ = Y14 at *
        refine dF ?_
        try simp only [puts, Tk.put, Act.put, List.setIfInBounds_toArray, List.set_cons_zero, List.set_cons_succ]
        go_upto_region 10 with fail
        refine wp_region_fromM (fun W => Sep w [] [.blk N13 28 (opc (Dop.mk xk xn (.slice ad xl.length cd) xl)), .join (DKR B6 D v)] W) hM ?_
        clear hM
        rintro Y15 hM
        refine tF 2 [.val 0 (some 36) (pt N13 0), .load 1 (some 37) 3 (pt N13 0) (.int .i64 xk)] ⟨ld_any _ _ Try.underlying3 rfl (hM.at 0 rfl) 0 rfl, trivial⟩ ?_
        refine remF (.tmp 37) (.const (.int .i64 4)) 3 3 (some 38) xk 4 (Int.tmod xk 4) (by decide) rfl ?_
        refine tF 4 [.alt 3 (some 39) (.int .i64 (IntKind.i64.wrap ((Int.tmod xk 4) + 4))) (.int .i64 (Int.tmod xk 4 + 4))] ⟨congrArg (Value.int .i64) (HS4.out), trivial⟩ ?_
        refine remF (.tmp 39) (.const (.int .i64 4)) 3 3 (some 40) (Int.tmod xk 4 + 4) 4 ((atC xk 4 : Nat) : Int) (by decide) HK4.out ?_
        refine dF ?_
        try simp only [puts, Tk.put, Act.put, List.setIfInBounds_toArray, List.set_cons_zero, List.set_cons_succ]
        go_upto_block 2 with fail
        go_cut [6, 7] (fun u6 u7 wc => ∃ (D2 : Dk) (v2 : Value), OkD D2 ∧ (D2.rm : Int) = (D.rm : Int) ∧ u6 = .string (txB D2.o) ∧ u7 = .int .i64 (D2.su : Int) ∧ Sep w [] [.join (DKR B6 D2 v2)] wc)
        case first =>
          go_upto_region 16 with fail
          refine wp_region_fromM (fun W => Sep w [] [.blk N13 28 (opc (Dop.mk xk xn (.slice ad xl.length cd) xl)), .join (DKR B6 D v)] W) hM ?_
          clear hM
          rintro Y16 hM
          refine tF 2 [.val 0 (some 66) (.bool (((atC xk 4 : Nat) : Int) == 0)), .val 1 (some 65) (.bool (((atC xk 4 : Nat) : Int) == 0))] trivial ?_
          refine dF ?_
          try simp only [puts, Tk.put, Act.put, List.setIfInBounds_toArray, List.set_cons_zero, List.set_cons_succ]
          cases hb3 : ((atC xk 4 : Nat) : Int) == 0 with
          | false =>
            have Hhb3 := Lib.hid hb3
            clear hb3
            go_upto_region 23 with fail
            refine wp_region_fromM (fun W => Sep w [] [.blk N13 28 (opc (Dop.mk xk xn (.slice ad xl.length cd) xl)), .join (DKR B6 D v)] W) hM ?_
            clear hM
            rintro Y17 hM
            refine tF 2 [.val 0 (some 99) (.bool (((atC xk 4 : Nat) : Int) == 1)), .val 1 (some 98) (.bool (((atC xk 4 : Nat) : Int) == 1))] trivial ?_
            refine dF ?_
            try simp only [puts, Tk.put, Act.put, List.setIfInBounds_toArray, List.set_cons_zero, List.set_cons_succ]
            cases hb4 : ((atC xk 4 : Nat) : Int) == 1 with
            | false =>
              have Hhb4 := Lib.hid hb4
              clear hb4
              go_upto_region 27 with fail
              refine wp_region_fromM (fun W => Sep w [] [.blk N13 28 (opc (Dop.mk xk xn (.slice ad xl.length cd) xl)), .join (DKR B6 D v)] W) hM ?_
              clear hM
              rintro Y18 hM
              refine tF 2 [.val 0 (some 110) (.bool (((atC xk 4 : Nat) : Int) == 2)), .val 1 (some 109) (.bool (((atC xk 4 : Nat) : Int) == 2))] trivial ?_
              refine dF ?_
              try simp only [puts, Tk.put, Act.put, List.setIfInBounds_toArray, List.set_cons_zero, List.set_cons_succ]
              cases hb5 : ((atC xk 4 : Nat) : Int) == 2 with
              | false =>
                have Hhb5 := Lib.hid hb5
                clear hb5
                go_upto_region 11 with fail
                refine wp_region_fromM (fun W => Sep w [] [.blk N13 28 (opc (Dop.mk xk xn (.slice ad xl.length cd) xl)), .join (DKR B6 D v)] W) hM ?_
                clear hM
                rintro Y19 hM
                refine tF 4 [.val 0 (some 41) (pt N13 1), .load 1 (some 42) 3 (pt N13 1) (.int .i64 xn), .val 2 (some 43) (.bool (decide (0 ≤ xn))), .val 3 (some 44) (.bool (decide (0 ≤ xn)))] ⟨ld_any _ _ Try.underlying3 rfl (hM.at 0 rfl) 1 rfl, trivial⟩ ?_
                cases hb6 : decide (0 ≤ xn) with
                | false =>
                  have Hhb6 := Lib.hid hb6
                  clear hb6
                  refine tF 7 [.skip 4 (some 45), .skip 5 (some 46), .skip 6 (some 47)] trivial ?_
                  refine wpFrom_not (d := some 48) (by kernel_rfl) ?_
                  refine tF 11 [.skip 8 (some 49), .val 9 (some 50) (.bool false), .val 10 (some 12) (.bool false)] trivial ?_
                  refine dF ?_
                  try simp only [puts, Tk.put, Act.put, List.setIfInBounds_toArray, List.set_cons_zero, List.set_cons_succ]
                  go_upto_region 12 with fail
                  refine wp_region_fromM (fun W => Sep w [] [.blk N13 28 (opc (Dop.mk xk xn (.slice ad xl.length cd) xl)), .join (DKR B6 D v)] W) hM ?_
                  clear hM
                  rintro Y20 hM
                  refine tF 3 [.val 0 (some 51) (pt B6 0), .val 1 (some 52) (pt N13 1), .load 2 (some 53) 3 (pt N13 1) (.int .i64 xn)] ⟨ld_any _ _ Try.underlying3 rfl (hM.at 0 rfl) 1 rfl, trivial⟩ ?_
                  have hq := dkTrim_any xn _ (hM.oka 1 rfl) HOD.out
                  rw [trim_not (fun hh => of_decide_eq_false Hhb6.out hh.1)] at hq
                  refine cF (some 54) 11 #[pt B6 0, .int .i64 xn] ((hq).mono ?_)
                  rintro e Y21 ⟨rfl, v21, hT⟩
                  clear hq
                  replace hM := hM.turn 1 rfl hT rfl
                  clear hT
                  refine tF 7 [.val 4 (some 55) (.bool false), .val 5 (some 56) (.bool false), .val 6 (some 57) (.bool false)] trivial ?_
                  refine dF ?_
                  try simp only [puts, Tk.put, Act.put, List.setIfInBounds_toArray, List.set_cons_zero, List.set_cons_succ]
                  go_upto_region 14 with fail
                  refine wp_region_fromM (fun W => Sep w [] [.blk N13 28 (opc (Dop.mk xk xn (.slice ad xl.length cd) xl)), .join (DKR B6 D v21)] W) hM ?_
                  clear hM
                  rintro Y22 hM
                  refine tF 1 [.val 0 (some 58) (.bool false)] trivial ?_
                  refine dF ?_
                  try simp only [puts, Tk.put, Act.put, List.setIfInBounds_toArray, List.set_cons_zero, List.set_cons_succ]
                  go_wp2_with fail
                  go_meet
                  exact ⟨_, _, HOD.out, rfl, rfl, rfl, hM.pick [1] (by decide) rfl⟩
                | true =>
                  have Hhb6 := Lib.hid hb6
                  clear hb6
                  refine tF 11 [.val 4 (some 45) (pt N13 1), .load 5 (some 46) 3 (pt N13 1) (.int .i64 xn), .val 6 (some 47) (.string (txB D.o)), .val 7 (some 48) (.int .i64 (D.o.length : Int)), .val 8 (some 49) (.bool (decide (xn ≤ (D.o.length : Int)))), .val 9 (some 50) (.bool (decide (xn ≤ (D.o.length : Int)))), .val 10 (some 12) (.bool (decide (xn ≤ (D.o.length : Int))))] ⟨ld_any _ _ Try.underlying3 rfl (hM.at 0 rfl) 1 rfl, trivial⟩ ?_
                  refine dF ?_
                  try simp only [puts, Tk.put, Act.put, List.setIfInBounds_toArray, List.set_cons_zero, List.set_cons_succ]
                  go_upto_region 12 with fail
                  refine wp_region_fromM (fun W => Sep w [] [.blk N13 28 (opc (Dop.mk xk xn (.slice ad xl.length cd) xl)), .join (DKR B6 D v)] W) hM ?_
                  clear hM
                  rintro Y23 hM
                  refine tF 3 [.val 0 (some 51) (pt B6 0), .val 1 (some 52) (pt N13 1), .load 2 (some 53) 3 (pt N13 1) (.int .i64 xn)] ⟨ld_any _ _ Try.underlying3 rfl (hM.at 0 rfl) 1 rfl, trivial⟩ ?_
                  cases hb7 : decide (xn ≤ (D.o.length : Int)) with
                  | false =>
                    have Hhb7 := Lib.hid hb7
                    clear hb7
                    have hq := dkTrim_any xn _ (hM.oka 1 rfl) HOD.out
                    rw [trim_not (fun hh => of_decide_eq_false Hhb7.out hh.2)] at hq
                    refine cF (some 54) 11 #[pt B6 0, .int .i64 xn] ((hq).mono ?_)
                    rintro e Y24 ⟨rfl, v24, hT⟩
                    clear hq
                    replace hM := hM.turn 1 rfl hT rfl
                    clear hT
                    refine tF 7 [.val 4 (some 55) (.bool false), .val 5 (some 56) (.bool false), .val 6 (some 57) (.bool false)] trivial ?_
                    refine dF ?_
                    try simp only [puts, Tk.put, Act.put, List.setIfInBounds_toArray, List.set_cons_zero, List.set_cons_succ]
                    go_upto_region 14 with fail
                    refine wp_region_fromM (fun W => Sep w [] [.blk N13 28 (opc (Dop.mk xk xn (.slice ad xl.length cd) xl)), .join (DKR B6 D v24)] W) hM ?_
                    clear hM
                    rintro Y25 hM
                    refine tF 1 [.val 0 (some 58) (.bool false)] trivial ?_
                    refine dF ?_
                    try simp only [puts, Tk.put, Act.put, List.setIfInBounds_toArray, List.set_cons_zero, List.set_cons_succ]
                    go_wp2_with fail
                    go_meet
                    exact ⟨_, _, HOD.out, rfl, rfl, rfl, hM.pick [1] (by decide) rfl⟩
                  | true =>
                    have Hhb7 := Lib.hid hb7
                    clear hb7
                    have hq := dkTrim_any xn _ (hM.oka 1 rfl) HOD.out
                    rw [trim_yes (of_decide_eq_true Hhb6.out) (of_decide_eq_true Hhb7.out)] at hq
                    refine cF (some 54) 11 #[pt B6 0, .int .i64 xn] ((hq).mono ?_)
                    rintro e Y26 ⟨rfl, v26, hT⟩
                    clear hq
                    replace hM := hM.turn 1 rfl hT rfl
                    clear hT
                    refine tF 7 [.val 4 (some 55) (.bool true), .val 5 (some 56) (.bool true), .val 6 (some 57) (.bool false)] trivial ?_
                    refine dF ?_
                    try simp only [puts, Tk.put, Act.put, List.setIfInBounds_toArray, List.set_cons_zero, List.set_cons_succ]
                    go_upto_region 14 with fail
                    refine wp_region_fromM (fun W => Sep w [] [.blk N13 28 (opc (Dop.mk xk xn (.slice ad xl.length cd) xl)), .join (DKR B6 (leaveD D xn.toNat) v26)] W) hM ?_
                    clear hM
                    rintro Y27 hM
                    refine tF 1 [.val 0 (some 58) (.bool true)] trivial ?_
                    refine dF ?_
                    try simp only [puts, Tk.put, Act.put, List.setIfInBounds_toArray, List.set_cons_zero, List.set_cons_succ]
                    go_upto_region 15 with fail
                    refine wp_region_M (fun W => Sep w [] [.blk N13 28 (opc (Dop.mk xk xn (.slice ad xl.length cd) xl)), .join (DKR B6 (leaveD D xn.toNat) v26)] W) (fun W => Sep w [] [.blk N13 28 (opc (Dop.mk xk xn (.slice ad xl.length cd) xl)), .join (DKR B6 (leaveD D xn.toNat) v26)] W) hmx hM.drew ?_
                    clear hM
                    rintro Y28 hM
                    have hS := hM.sub (.cons_cons _ (.cons_cons _ .slnil))
                    refine tD 0 [.val 0 (some 59) (.string (txB D.o)), .val 1 (some 60) (pt N13 1), .load 2 (some 61) 3 (pt N13 1) (.int .i64 xn), .slc 3 (some 62) 9 (.string (txB D.o)) none (some (.int .i64 xn)) none (.string (txB (D.o.take xn.toNat))), .val 4 (some 63) (pt N13 1), .load 5 (some 64) 3 (pt N13 1) (.int .i64 xn), .val 6 (some 6) (.string (txB (D.o.take xn.toNat))), .val 7 (some 7) (.int .i64 xn)] ⟨fun W h => ld_any _ _ Try.underlying3 rfl (h.at 0 rfl) 1 rfl, fun W h => slice_txI _ (of_decide_eq_true Hhb6.out) (of_decide_eq_true Hhb7.out) W, fun W h => ld_any _ _ Try.underlying3 rfl (h.at 0 rfl) 1 rfl, trivial⟩ hS ?_
                    refine dD ?_
                    try simp only [puts, Tk.put, Act.put, List.setIfInBounds_toArray, List.set_cons_zero, List.set_cons_succ]
                    clear hS
                    go_wp2_with fail
                    go_meet
                    exact ⟨_, _, leave_ok HOD.out (by have h1 := of_decide_eq_true Hhb7.out; omega), rfl, rfl, congrArg (Value.int .i64) (Int.toNat_of_nonneg (of_decide_eq_true Hhb6.out)).symm, hM.pick [1] (by decide) rfl⟩
              | true =>
                have Hhb5 := Lib.hid hb5
                clear hb5
                go_upto_region 28 with fail
                refine wp_region_fromM (fun W => Sep w [] [.blk N13 28 (opc (Dop.mk xk xn (.slice ad xl.length cd) xl)), .join (DKR B6 D v)] W) hM ?_
                clear hM
                rintro Y29 hM
                refine tF 3 [.val 0 (some 111) (pt B6 0), .val 1 (some 112) (pt N13 1), .load 2 (some 113) 3 (pt N13 1) (.int .i64 xn)] ⟨ld_any _ _ Try.underlying3 rfl (hM.at 0 rfl) 1 rfl, trivial⟩ ?_
                have hq := dkFall_any xn _ (hM.oka 1 rfl) (HOD.out)
                refine cF (some 114) 10 #[pt B6 0, .int .i64 xn] ((hq).mono ?_)
                rintro e Y30 ⟨rfl, v30, hT⟩
                clear hq
                replace hM := hM.turn 1 rfl hT rfl
                clear hT
                refine dF ?_
                try simp only [puts, Tk.put, Act.put, List.setIfInBounds_toArray, List.set_cons_zero, List.set_cons_succ]
                go_upto_region 29 with fail
                refine wp_region_fromM (fun W => Sep w [] [.blk N13 28 (opc (Dop.mk xk xn (.slice ad xl.length cd) xl)), .join (DKR B6 (leaveD D (keepN D xn)) v30)] W) hM ?_
                clear hM
                rintro Y31 hM
                refine tF 11 [.val 0 (some 115) (.int .i64 (D.su : Int)), .val 1 (some 116) (pt N13 1), .load 2 (some 117) 3 (pt N13 1) (.int .i64 xn), .val 3 (some 118) (.int .i64 (max2I xn 0)), .val 4 (some 119) (.string (txB D.o)), .val 5 (some 120) (.int .i64 (D.o.length : Int)), .val 6 (some 121) (.int .i64 (D.su : Int)), .alt 7 (some 122) (.int .i64 (IntKind.i64.wrap ((D.o.length : Int) - (D.su : Int)))) (.int .i64 ((D.o.length : Int) - (D.su : Int))), .val 8 (some 123) (.int .i64 (min2I (max2I xn 0) ((D.o.length : Int) - (D.su : Int)))), .alt 9 (some 124) (.int .i64 (IntKind.i64.wrap ((D.su : Int) + (min2I (max2I xn 0) ((D.o.length : Int) - (D.su : Int)))))) (.int .i64 ((keepN D xn : Nat) : Int)), .val 10 (some 7) (.int .i64 ((keepN D xn : Nat) : Int))] ⟨ld_any _ _ Try.underlying3 rfl (hM.at 0 rfl) 1 rfl, congrArg (Value.int .i64) (IntWalk.i64_in _ (by have h1 := HOD.out.room; have h2 := HOD.out.len; have h3 := HOD.out.sure; omega)), congrArg (Value.int .i64) (keep_eq2 HOD.out xn), trivial⟩ ?_
                refine dF ?_
                try simp only [puts, Tk.put, Act.put, List.setIfInBounds_toArray, List.set_cons_zero, List.set_cons_succ]
                go_upto_region 30 with fail
                refine wp_region_fromM (fun W => Sep w [] [.blk N13 28 (opc (Dop.mk xk xn (.slice ad xl.length cd) xl)), .join (DKR B6 (leaveD D (keepN D xn)) v30)] W) hM ?_
                clear hM
                rintro Y32 hM
                refine tF 4 [.val 0 (some 125) (.string (txB D.o)), .val 1 (some 126) (.int .i64 ((keepN D xn : Nat) : Int)), .slc 2 (some 127) 9 (.string (txB D.o)) none (some (.int .i64 ((keepN D xn : Nat) : Int))) none (.string (txB (D.o.take (keepN D xn)))), .val 3 (some 6) (.string (txB (D.o.take (keepN D xn))))] ⟨slice_tx _ (keep_le HOD.out xn) _, trivial⟩ ?_
                refine dF ?_
                try simp only [puts, Tk.put, Act.put, List.setIfInBounds_toArray, List.set_cons_zero, List.set_cons_succ]
                go_wp2_with fail
                go_meet
                exact ⟨_, _, leave_ok HOD.out (keep_le HOD.out xn), rfl, rfl, rfl, hM.pick [1] (by decide) rfl⟩
            | true =>
              have Hhb4 := Lib.hid hb4
              clear hb4
              go_upto_region 24 with fail
              refine wp_region_fromM (fun W => Sep w [] [.blk N13 28 (opc (Dop.mk xk xn (.slice ad xl.length cd) xl)), .join (DKR B6 D v)] W) hM ?_
              clear hM
              rintro Y33 hM
              refine tF 1 [.val 0 (some 100) (pt B6 0)] trivial ?_
              have hq := dkSync_any _ (hM.oka 1 rfl) (HOD.out)
              refine cF (some 101) 9 #[pt B6 0] ((hq).mono ?_)
              rintro e Y34 ⟨rfl, v34, hT⟩
              clear hq
              replace hM := hM.turn 1 rfl hT rfl
              clear hT
              refine tF 7 [.val 2 (some 102) (.string (txB D.o)), .val 3 (some 103) (.int .i64 (D.o.length : Int)), .val 4 (some 104) (.int .i64 (D.su : Int)), .alt 5 (some 105) (.int .i64 (IntKind.i64.wrap ((D.o.length : Int) - (D.su : Int)))) (.int .i64 ((D.o.length : Int) - (D.su : Int))), .alt 6 (some 106) (.bool (((D.o.length : Int) - (D.su : Int)) != ((D.o.length : Int) - (D.su : Int)))) (.bool false)] ⟨congrArg (Value.int .i64) (IntWalk.i64_in _ (by have h1 := HOD.out.room; have h2 := HOD.out.len; have h3 := HOD.out.sure; omega)), congrArg Value.bool (bne_self_eq_false _), trivial⟩ ?_
              refine dF ?_
              try simp only [puts, Tk.put, Act.put, List.setIfInBounds_toArray, List.set_cons_zero, List.set_cons_succ]
              go_upto_region 26 with fail
              refine wp_region_fromM (fun W => Sep w [] [.blk N13 28 (opc (Dop.mk xk xn (.slice ad xl.length cd) xl)), .join (DKR B6 (sureD D) v34)] W) hM ?_
              clear hM
              rintro Y35 hM
              refine tF 3 [.val 0 (some 107) (.string (txB D.o)), .val 1 (some 108) (.int .i64 (D.o.length : Int)), .val 2 (some 7) (.int .i64 (D.o.length : Int))] trivial ?_
              refine dF ?_
              try simp only [puts, Tk.put, Act.put, List.setIfInBounds_toArray, List.set_cons_zero, List.set_cons_succ]
              go_wp2_with fail
              go_meet
              exact ⟨_, _, sure_ok HOD.out, rfl, rfl, rfl, hM.pick [1] (by decide) rfl⟩
          | true =>
            have Hhb3 := Lib.hid hb3
            clear hb3
            go_upto_region 17 with fail
            refine wp_region_fromM (fun W => Sep w [] [.blk N13 28 (opc (Dop.mk xk xn (.slice ad xl.length cd) xl)), .join (DKR B6 D v)] W) hM ?_
            clear hM
            rintro Y36 hM
            refine tF 10 [.val 0 (some 67) (pt N13 2), .load 1 (some 68) 26 (pt N13 2) (.slice ad xl.length cd), .val 2 (some 69) (.int .i64 (xl.length : Int)), .val 3 (some 70) (.int .i64 (rmZ z)), .alt 4 (some 71) (.int .i64 (max2I (rmZ z) 0)) (.int .i64 (D.rm : Int)), .val 5 (some 72) (.string (txB D.o)), .val 6 (some 73) (.int .i64 (D.o.length : Int)), .alt 7 (some 74) (.int .i64 (IntKind.i64.wrap ((D.rm : Int) - (D.o.length : Int)))) (.int .i64 ((D.rm : Int) - (D.o.length : Int))), .val 8 (some 75) (.bool (decide ((xl.length : Int) ≤ ((D.rm : Int) - (D.o.length : Int))))), .val 9 (some 10) (.bool (decide ((xl.length : Int) ≤ ((D.rm : Int) - (D.o.length : Int)))))] ⟨ld_any _ _ Try.underlying26 rfl (hM.at 0 rfl) 2 rfl, congrArg (Value.int .i64) (HRM.out.symm), congrArg (Value.int .i64) (IntWalk.i64_in _ (by have h1 := HOD.out.room; have h2 := HOD.out.len; have h3 := HOD.out.sure; omega)), trivial⟩ ?_
            refine dF ?_
            try simp only [puts, Tk.put, Act.put, List.setIfInBounds_toArray, List.set_cons_zero, List.set_cons_succ]
            go_upto_region 18 with fail
            refine wp_region_fromM (fun W => Sep w [] [.blk N13 28 (opc (Dop.mk xk xn (.slice ad xl.length cd) xl)), .join (DKR B6 D v)] W) hM ?_
            clear hM
            rintro Y37 hM
            refine tF 3 [.val 0 (some 76) (pt B6 0), .val 1 (some 77) (pt N13 2), .load 2 (some 78) 26 (pt N13 2) (.slice ad xl.length cd)] ⟨ld_any _ _ Try.underlying26 rfl (hM.at 0 rfl) 2 rfl, trivial⟩ ?_
            cases hb8 : decide ((xl.length : Int) ≤ ((D.rm : Int) - (D.o.length : Int))) with
            | false =>
              have Hhb8 := Lib.hid hb8
              clear hb8
              have hq := dkWrite_any xl _ (hM.oka 1 rfl) HOD.out (BF.arg hM (List.mem_of_getElem? (i := 1) rfl) HBX.out (Nat.le_refl _))
              rw [write_not HOD.out (of_decide_eq_false Hhb8.out)] at hq
              refine cF (some 79) 8 #[pt B6 0, .slice ad xl.length cd] ((hq).mono ?_)
              rintro e Y38 ⟨rfl, v38, hT⟩
              clear hq
              replace hM := hM.turn 1 rfl hT rfl
              clear hT
              refine tF 5 [.val 4 (some 11) (.int .i64 10)] trivial ?_
              refine dF ?_
              try simp only [puts, Tk.put, Act.put, List.setIfInBounds_toArray, List.set_cons_zero, List.set_cons_succ]
              go_upto_region 19 with fail
              refine wp_region_fromM (fun W => Sep w [] [.blk N13 28 (opc (Dop.mk xk xn (.slice ad xl.length cd) xl)), .join (DKR B6 D v38)] W) hM ?_
              clear hM
              rintro Y39 hM
              refine tF 12 [.val 0 (some 80) (.bool false), .val 1 (some 81) (.int .i64 10), .val 2 (some 82) (.bool false), .val 3 (some 83) (.bool false), .val 4 (some 84) (.bool false), .val 5 (some 85) (.bool false), .val 6 (some 86) (.bool true), .val 7 (some 87) (.bool true), .val 8 (some 88) (.int .i64 10), .val 9 (some 89) (.bool false), .val 10 (some 90) (.bool false), .val 11 (some 91) (.bool false)] trivial ?_
              refine dF ?_
              try simp only [puts, Tk.put, Act.put, List.setIfInBounds_toArray, List.set_cons_zero, List.set_cons_succ]
              go_upto_region 21 with fail
              refine wp_region_fromM (fun W => Sep w [] [.blk N13 28 (opc (Dop.mk xk xn (.slice ad xl.length cd) xl)), .join (DKR B6 D v38)] W) hM ?_
              clear hM
              rintro Y40 hM
              refine tF 1 [.val 0 (some 92) (.bool false)] trivial ?_
              refine dF ?_
              try simp only [puts, Tk.put, Act.put, List.setIfInBounds_toArray, List.set_cons_zero, List.set_cons_succ]
              go_wp2_with fail
              go_meet
              exact ⟨_, _, HOD.out, rfl, rfl, rfl, hM.pick [1] (by decide) rfl⟩
            | true =>
              have Hhb8 := Lib.hid hb8
              clear hb8
              have HXL : Hid (xl.length ≤ 65536) := Lib.hid (by have h1 := of_decide_eq_true Hhb8.out; have h2 := HOD.out.room; omega)
              have hq := dkWrite_any xl _ (hM.oka 1 rfl) HOD.out (BF.arg hM (List.mem_of_getElem? (i := 1) rfl) HBX.out (Nat.le_refl _))
              rw [write_yes HOD.out (of_decide_eq_true Hhb8.out)] at hq
              refine cF (some 79) 8 #[pt B6 0, .slice ad xl.length cd] ((hq).mono ?_)
              rintro e Y41 ⟨rfl, v41, hT⟩
              clear hq
              replace hM := hM.turn 1 rfl hT rfl
              clear hT
              refine tF 5 [.val 4 (some 11) (.int .i64 0)] trivial ?_
              refine dF ?_
              try simp only [puts, Tk.put, Act.put, List.setIfInBounds_toArray, List.set_cons_zero, List.set_cons_succ]
              go_upto_region 19 with fail
              refine wp_region_fromM (fun W => Sep w [] [.blk N13 28 (opc (Dop.mk xk xn (.slice ad xl.length cd) xl)), .join (DKR B6 (putD D xl) v41)] W) hM ?_
              clear hM
              rintro Y42 hM
              refine tF 12 [.val 0 (some 80) (.bool true), .val 1 (some 81) (.int .i64 0), .val 2 (some 82) (.bool true), .val 3 (some 83) (.bool false), .val 4 (some 84) (.bool false), .val 5 (some 85) (.bool true), .val 6 (some 86) (.bool false), .val 7 (some 87) (.bool false), .skip 8 (some 88), .skip 9 (some 89), .val 10 (some 90) (.bool false), .val 11 (some 91) (.bool false)] trivial ?_
              refine dF ?_
              try simp only [puts, Tk.put, Act.put, List.setIfInBounds_toArray, List.set_cons_zero, List.set_cons_succ]
              go_upto_region 21 with fail
              refine wp_region_fromM (fun W => Sep w [] [.blk N13 28 (opc (Dop.mk xk xn (.slice ad xl.length cd) xl)), .join (DKR B6 (putD D xl) v41)] W) hM ?_
              clear hM
              rintro Y43 hM
              refine tF 1 [.val 0 (some 92) (.bool true)] trivial ?_
              refine dF ?_
              try simp only [puts, Tk.put, Act.put, List.setIfInBounds_toArray, List.set_cons_zero, List.set_cons_succ]
              go_upto_region 22 with fail
              refine wp_region_fromM (fun W => Sep w [] [.blk N13 28 (opc (Dop.mk xk xn (.slice ad xl.length cd) xl)), .join (DKR B6 (putD D xl) v41)] W) hM ?_
              clear hM
              rintro Y44 hM
              refine tF 3 [.val 0 (some 93) (.string (txB D.o)), .val 1 (some 94) (pt N13 2), .load 2 (some 95) 26 (pt N13 2) (.slice ad xl.length cd)] ⟨ld_any _ _ Try.underlying26 rfl (hM.at 0 rfl) 2 rfl, trivial⟩ ?_
              refine cvF (.tmp 95) (some 96) (.slice ad xl.length cd) (.string (txB xl)) (cvT (HBX.out.below hM.b (Nat.le_refl _))) ?_
              refine catF (.tmp 93) (.tmp 96) 9 9 (some 97) D.o xl (by have h1 := HOD.out.len; have h2 := HOD.out.room; have h4 := HXL.out; omega) ?_
              refine tF 6 [.val 5 (some 6) (.string (txB (D.o ++ xl)))] trivial ?_
              refine dF ?_
              try simp only [puts, Tk.put, Act.put, List.setIfInBounds_toArray, List.set_cons_zero, List.set_cons_succ]
              go_wp2_with fail
              go_meet
              exact ⟨_, _, put_ok HOD.out (of_decide_eq_true Hhb8.out), rfl, rfl, rfl, hM.pick [1] (by decide) rfl⟩
        case rest =>
          obtain ⟨D2, v2, ho2, hr2, rfl, rfl, hM⟩ := hcut
          have HO2 := Lib.hid ho2
          have HR2 := Lib.hid hr2
          clear ho2 hr2
          go_upto_region 31 with fail
          refine wp_region_fromM (fun W => Sep w [] [.join (DKR B6 D2 v2)] W) hM ?_
          clear hM
          rintro Y45 hM
          refine tF 1 [.val 0 (some 128) (pt B6 0)] trivial ?_
          refine cF (some 129) 12 #[pt B6 0] ((dkOctets_any _ (DkV.of (hM.oka 0 rfl)) HO2.out).mono ?_)
          rintro e Y46 ⟨v46, rfl, hR⟩
          replace hM := hM.gain hR
          clear hR
          refine cvF (.tmp 129) (some 130) (v46) (.string (txB D2.o)) (cvT (hM.oka 0 rfl).octs) ?_
          refine tF 7 [.val 3 (some 131) (.string (txB D2.o)), .alt 4 (some 132) (.bool (!((txB D2.o).toList == (txB D2.o).toList))) (.bool false), .val 5 (some 133) (.bool false), .val 6 (some 134) (pt B6 0)] ⟨congrArg Value.bool (neTx rfl), trivial⟩ ?_
          refine cF (some 135) 13 #[pt B6 0] ((dkFresh_any _ (DkV.of (hM.oka 1 rfl)) HO2.out).mono ?_)
          rintro e Y47 ⟨rfl, hb⟩
          replace hM := hM.below hb
          clear hb
          refine tF 14 [.val 8 (some 136) (.string (txB D2.o)), .val 9 (some 137) (.int .i64 (D2.o.length : Int)), .val 10 (some 138) (.int .i64 (D2.su : Int)), .alt 11 (some 139) (.int .i64 (IntKind.i64.wrap ((D2.o.length : Int) - (D2.su : Int)))) (.int .i64 ((D2.o.length : Int) - (D2.su : Int))), .alt 12 (some 140) (.bool (((D2.o.length : Int) - (D2.su : Int)) != ((D2.o.length : Int) - (D2.su : Int)))) (.bool false), .val 13 (some 141) (.bool false)] ⟨congrArg (Value.int .i64) (IntWalk.i64_in _ (by have h1 := HO2.out.room; have h2 := HO2.out.len; have h3 := HO2.out.sure; omega)), congrArg Value.bool (bne_self_eq_false _), trivial⟩ ?_
          refine dF ?_
          try simp only [puts, Tk.put, Act.put, List.setIfInBounds_toArray, List.set_cons_zero, List.set_cons_succ]
          go_upto_region 8 with fail
          refine wp_region_fromM (fun W => Sep w [] [.oct v46 D2.o, .join (DKR B6 D2 v2)] W) hM ?_
          clear hM
          rintro Y48 hM
          refine tF 3 [.val 0 (some 30) (.int .i64 (j : Int)), .alt 1 (some 31) (.int .i64 (IntKind.i64.wrap ((j : Int) + 1))) (.int .i64 ((j + 1 : Nat) : Int)), .val 2 (some 8) (.int .i64 ((j + 1 : Nat) : Int))] ⟨congrArg (Value.int .i64) ((IntWalk.i64_in _ (by have := HLENl.out; have := HJ.out; omega)).trans (by omega)), trivial⟩ ?_
          refine dF ?_
          try simp only [puts, Tk.put, Act.put, List.setIfInBounds_toArray, List.set_cons_zero, List.set_cons_succ]
          go_wp2_with fail
          go_roundw
          case rel => exact ⟨j + 1, D2, v2, HJ.out, HO2.out, HR2.out.trans HRM.out, rfl, rfl, rfl, hM.pick [1] (by decide) rfl⟩
          case measure => have := HJ.out; simp [intOf]; omega
end Go.Proofs.Ytcgiidpngkhhdaa
