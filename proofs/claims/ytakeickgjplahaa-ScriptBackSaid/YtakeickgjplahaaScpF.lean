/-
  Scripts: a step's numbers, its octets, what may be.
-/
import Derived.Test.YtakeickgjplahaaScpM
import Derived.Test.YtakeickgjplahaaNumO
import Derived.LoopTactic
namespace Go.Proofs.Ytakeickgjplahaa
open Go.RowKit Go.Shelf
attribute [local irreducible] wpFrom wpAnyH StepH

set_option maxRecDepth 100000 in
set_option maxHeartbeats 4000000 in
theorem numbers_any (B : Nat) (w : World) : Calls Try.prog 15 #[.pointer (some ⟨B, 0, none⟩)] w fun e W' => e = .returned (nsv (some B)) ∧ Below w.heap.size w W' := by
  have hmx : Try.prog.follows .mixedOrders = true := by kernel_rfl
  have hM := Sep.start w
  go_enter Try.func15, Try.ntmps15
  go_upto_region 0 with fail
  refine wp_region_fromM (fun W => Sep w [] [] W) hM ?_
  clear hM
  rintro Y1 hM
  refine rF (some 2) (pt Y1.heap.size 0) (Y1.alloc (.cells (nbs (none : Option Nat)).toArray 43)) ?_
  replace hM := hM.alloc 43 (nbs (none : Option Nat))
  generalize World.alloc _ _ = Y2 at *
  generalize hNe : Y1.heap.size = N2 at *
  clear hNe
  refine dF ?_
  try simp only [Act.put, List.setIfInBounds_toArray, List.set_cons_zero, List.set_cons_succ]
  go_upto_region 1 with fail
  refine wp_region_M (fun W => Sep w [] [] W) (fun W => Sep w [] [.blk N2 43 (nbs (none : Option Nat))] W) hmx hM.drew ?_
  clear hM
  rintro Y3 hM
  have hS := hM.sub (.cons _ .slnil)
  refine tD 1 [.val 0 (some 3) (pt B 0), .val 1 (some 4) (pt B 0), .val 2 (some 5) (pt B 0), .val 3 (some 6) (nbv (nb B 0 1 0)), .val 4 (some 7) (pt B 0), .val 5 (some 8) (pt B 0), .val 6 (some 9) (pt B 1), .val 7 (some 10) (nbv (nb B 1 2 32768)), .val 8 (some 11) (pt B 0), .val 9 (some 12) (pt B 0), .val 10 (some 13) (pt B 2), .val 11 (some 14) (nbv (nb B 2 2 32768)), .val 12 (some 15) (pt B 0), .val 13 (some 16) (pt B 0), .val 14 (some 17) (pt B 3), .val 15 (some 18) (nbv (nb B 3 2 32768)), .val 16 (some 19) (nsv (some B))] trivial hS ?_
  have hst := sto_part (nbs (some B)) (hM.at 0 rfl) 0 43 (nsv (some B)) (nbs (some B)) rfl (by kernel_rfl) (Nat.le_of_ble_eq_true rfl) rfl rfl
  have hM1 := hM.set 0 (cs' := nbs (some B)) rfl rfl
  refine oD 17 0 (sD 43 (pt N2 0) (nsv (some B)) (hst) (hM1.sub (.cons _ .slnil)) ?_)
  clear hst
  replace hS := hM1.sub (.cons _ .slnil)
  replace hM := hM1
  clear hM1
  generalize World.setRow _ _ _ = Y4 at *
  refine dD ?_
  try simp only [puts, Tk.put, Act.put, List.setIfInBounds_toArray, List.set_cons_zero, List.set_cons_succ]
  clear hS
  go_wp2_with fail
  exact bodyPost_ret (v := nsv (some B)) (res_cell1 rfl _ rfl (lv_ns (hM.at 0 rfl))) rfl ⟨rfl, hM.b⟩
set_option maxRecDepth 100000 in
set_option maxHeartbeats 4000000 in
theorem fits_0 {B : Nat} {T : TypeId} {cs : List Value} {z : Int} (w : World) (hB : Blk w B T cs) (hv : cs[0]? = some (.int .i64 z)) : Calls Try.prog 21 #[nbv (nb B 0 1 0)] w fun e W' => e = .returned (.bool (fitZ 0 z)) ∧ Below w.heap.size w W' := by
  have hmx : Try.prog.follows .mixedOrders = true := by kernel_rfl
  have HB := Lib.hid hB
  have HV := Lib.hid hv
  clear hB hv
  have hM := Sep.start w
  go_enter Try.func21, Try.ntmps21
  go_upto_region 0 with fail
  refine wp_region_fromM (fun W => Sep w [] [] W) hM ?_
  clear hM
  rintro Y1 hM
  refine rF (some 1) (pt Y1.heap.size 0) (Y1.alloc (.cells (nbc (nb B 0 1 0)).toArray 42)) ?_
  replace hM := hM.alloc 42 (nbc (nb B 0 1 0))
  generalize World.alloc _ _ = Y2 at *
  generalize hNe : Y1.heap.size = N2 at *
  clear hNe
  refine tF 2 [.val 1 (some 2) (.bool false)] trivial ?_
  refine dF ?_
  try simp only [puts, Tk.put, Act.put, List.setIfInBounds_toArray, List.set_cons_zero, List.set_cons_succ]
  go_upto_region 1 with fail
  refine wp_region_M (fun W => Sep w [] [.blk N2 42 (nbc (nb B 0 1 0))] W) (fun W => Sep w [] [.blk N2 42 (nbc (nb B 0 1 0))] W) hmx hM.drew ?_
  clear hM
  rintro Y3 hM
  have hS := hM.sub (.cons_cons _ .slnil)
  refine tD 14 [.val 0 (some 3) (pt N2 0), .load 1 (some 4) 40 (pt N2 0) (pt B 0), .val 2 (some 5) (pt B 0), .load 3 (some 6) 3 (pt B 0) (.int .i64 z), .val 4 (some 7) (pt N2 2), .load 5 (some 8) 3 (pt N2 2) (.int .i64 0), .val 6 (some 9) (.int .i64 0), .val 7 (some 10) (.bool (decide (0 ≤ z))), .val 8 (some 11) (.bool (decide (0 ≤ z)))] ⟨fun W h => ld_any _ _ Try.underlying40 rfl (h.at 0 rfl) 0 rfl, fun W h => ld_any _ _ Try.underlying3 rfl (HB.out.below h.b HB.out.lt) 0 HV.out, fun W h => ld_any _ _ Try.underlying3 rfl (h.at 0 rfl) 2 rfl, trivial⟩ hS ?_
  cases hb1 : decide (0 ≤ z) with
  | false =>
    have Hhb1 := Lib.hid hb1
    clear hb1
    refine tD 0 [.skip 9 (some 12), .skip 10 (some 13), .skip 11 (some 14), .skip 12 (some 15), .skip 13 (some 16), .skip 14 (some 17), .skip 15 (some 18), .skip 16 (some 19), .skip 17 (some 20), .skip 18 (some 21), .skip 19 (some 22), .skip 20 (some 23), .val 21 (some 24) (.bool false), .val 22 (some 2) (.bool false)] trivial hS ?_
    refine dD ?_
    try simp only [puts, Tk.put, Act.put, List.setIfInBounds_toArray, List.set_cons_zero, List.set_cons_succ]
    clear hS
    go_wp2_with fail
    go_ret
    exact ⟨by rw [show fitZ 0 z = (decide (0 ≤ z) && decide (z < 256)) from rfl, Hhb1.out]; rfl, hM.b⟩
  | true =>
    have Hhb1 := Lib.hid hb1
    clear hb1
    refine tD 0 [.val 9 (some 12) (pt N2 0), .load 10 (some 13) 40 (pt N2 0) (pt B 0), .val 11 (some 14) (pt B 0), .load 12 (some 15) 3 (pt B 0) (.int .i64 z), .val 13 (some 16) (pt N2 1), .load 14 (some 17) 3 (pt N2 1) (.int .i64 1), .val 15 (some 18) (.int .i64 8), .val 16 (some 19) (.int .i64 256), .val 17 (some 20) (pt N2 2), .load 18 (some 21) 3 (pt N2 2) (.int .i64 0), .val 19 (some 22) (.int .i64 256), .val 20 (some 23) (.bool (decide (z < 256))), .val 21 (some 24) (.bool (decide (z < 256))), .val 22 (some 2) (.bool (decide (z < 256)))] ⟨fun W h => ld_any _ _ Try.underlying40 rfl (h.at 0 rfl) 0 rfl, fun W h => ld_any _ _ Try.underlying3 rfl (HB.out.below h.b HB.out.lt) 0 HV.out, fun W h => ld_any _ _ Try.underlying3 rfl (h.at 0 rfl) 1 rfl, fun W h => ld_any _ _ Try.underlying3 rfl (h.at 0 rfl) 2 rfl, trivial⟩ hS ?_
    refine dD ?_
    try simp only [puts, Tk.put, Act.put, List.setIfInBounds_toArray, List.set_cons_zero, List.set_cons_succ]
    clear hS
    go_wp2_with fail
    go_ret
    exact ⟨by rw [show fitZ 0 z = (decide (0 ≤ z) && decide (z < 256)) from rfl, Hhb1.out]; rfl, hM.b⟩
set_option maxRecDepth 100000 in
set_option maxHeartbeats 4000000 in
theorem fits_1 {B : Nat} {T : TypeId} {cs : List Value} {z : Int} (w : World) (hB : Blk w B T cs) (hv : cs[1]? = some (.int .i64 z)) : Calls Try.prog 21 #[nbv (nb B 1 2 32768)] w fun e W' => e = .returned (.bool (fitZ 1 z)) ∧ Below w.heap.size w W' := by
  have hmx : Try.prog.follows .mixedOrders = true := by kernel_rfl
  have HB := Lib.hid hB
  have HV := Lib.hid hv
  clear hB hv
  have hM := Sep.start w
  go_enter Try.func21, Try.ntmps21
  go_upto_region 0 with fail
  refine wp_region_fromM (fun W => Sep w [] [] W) hM ?_
  clear hM
  rintro Y1 hM
  refine rF (some 1) (pt Y1.heap.size 0) (Y1.alloc (.cells (nbc (nb B 1 2 32768)).toArray 42)) ?_
  replace hM := hM.alloc 42 (nbc (nb B 1 2 32768))
  generalize World.alloc _ _ = Y2 at *
  generalize hNe : Y1.heap.size = N2 at *
  clear hNe
  refine tF 2 [.val 1 (some 2) (.bool false)] trivial ?_
  refine dF ?_
  try simp only [puts, Tk.put, Act.put, List.setIfInBounds_toArray, List.set_cons_zero, List.set_cons_succ]
  go_upto_region 1 with fail
  refine wp_region_M (fun W => Sep w [] [.blk N2 42 (nbc (nb B 1 2 32768))] W) (fun W => Sep w [] [.blk N2 42 (nbc (nb B 1 2 32768))] W) hmx hM.drew ?_
  clear hM
  rintro Y3 hM
  have hS := hM.sub (.cons_cons _ .slnil)
  refine tD 14 [.val 0 (some 3) (pt N2 0), .load 1 (some 4) 40 (pt N2 0) (pt B 1), .val 2 (some 5) (pt B 1), .load 3 (some 6) 3 (pt B 1) (.int .i64 z), .val 4 (some 7) (pt N2 2), .load 5 (some 8) 3 (pt N2 2) (.int .i64 32768), .val 6 (some 9) (.int .i64 (-32768)), .val 7 (some 10) (.bool (decide ((-32768) ≤ z))), .val 8 (some 11) (.bool (decide ((-32768) ≤ z)))] ⟨fun W h => ld_any _ _ Try.underlying40 rfl (h.at 0 rfl) 0 rfl, fun W h => ld_any _ _ Try.underlying3 rfl (HB.out.below h.b HB.out.lt) 1 HV.out, fun W h => ld_any _ _ Try.underlying3 rfl (h.at 0 rfl) 2 rfl, trivial⟩ hS ?_
  cases hb1 : decide ((-32768) ≤ z) with
  | false =>
    have Hhb1 := Lib.hid hb1
    clear hb1
    refine tD 0 [.skip 9 (some 12), .skip 10 (some 13), .skip 11 (some 14), .skip 12 (some 15), .skip 13 (some 16), .skip 14 (some 17), .skip 15 (some 18), .skip 16 (some 19), .skip 17 (some 20), .skip 18 (some 21), .skip 19 (some 22), .skip 20 (some 23), .val 21 (some 24) (.bool false), .val 22 (some 2) (.bool false)] trivial hS ?_
    refine dD ?_
    try simp only [puts, Tk.put, Act.put, List.setIfInBounds_toArray, List.set_cons_zero, List.set_cons_succ]
    clear hS
    go_wp2_with fail
    go_ret
    exact ⟨by rw [show fitZ 1 z = (decide (-32768 ≤ z) && decide (z < 32768)) from rfl, Hhb1.out]; rfl, hM.b⟩
  | true =>
    have Hhb1 := Lib.hid hb1
    clear hb1
    refine tD 0 [.val 9 (some 12) (pt N2 0), .load 10 (some 13) 40 (pt N2 0) (pt B 1), .val 11 (some 14) (pt B 1), .load 12 (some 15) 3 (pt B 1) (.int .i64 z), .val 13 (some 16) (pt N2 1), .load 14 (some 17) 3 (pt N2 1) (.int .i64 2), .val 15 (some 18) (.int .i64 16), .val 16 (some 19) (.int .i64 65536), .val 17 (some 20) (pt N2 2), .load 18 (some 21) 3 (pt N2 2) (.int .i64 32768), .val 19 (some 22) (.int .i64 32768), .val 20 (some 23) (.bool (decide (z < 32768))), .val 21 (some 24) (.bool (decide (z < 32768))), .val 22 (some 2) (.bool (decide (z < 32768)))] ⟨fun W h => ld_any _ _ Try.underlying40 rfl (h.at 0 rfl) 0 rfl, fun W h => ld_any _ _ Try.underlying3 rfl (HB.out.below h.b HB.out.lt) 1 HV.out, fun W h => ld_any _ _ Try.underlying3 rfl (h.at 0 rfl) 1 rfl, fun W h => ld_any _ _ Try.underlying3 rfl (h.at 0 rfl) 2 rfl, trivial⟩ hS ?_
    refine dD ?_
    try simp only [puts, Tk.put, Act.put, List.setIfInBounds_toArray, List.set_cons_zero, List.set_cons_succ]
    clear hS
    go_wp2_with fail
    go_ret
    exact ⟨by rw [show fitZ 1 z = (decide (-32768 ≤ z) && decide (z < 32768)) from rfl, Hhb1.out]; rfl, hM.b⟩
set_option maxRecDepth 100000 in
set_option maxHeartbeats 4000000 in
theorem fits_2 {B : Nat} {T : TypeId} {cs : List Value} {z : Int} (w : World) (hB : Blk w B T cs) (hv : cs[2]? = some (.int .i64 z)) : Calls Try.prog 21 #[nbv (nb B 2 2 32768)] w fun e W' => e = .returned (.bool (fitZ 2 z)) ∧ Below w.heap.size w W' := by
  have hmx : Try.prog.follows .mixedOrders = true := by kernel_rfl
  have HB := Lib.hid hB
  have HV := Lib.hid hv
  clear hB hv
  have hM := Sep.start w
  go_enter Try.func21, Try.ntmps21
  go_upto_region 0 with fail
  refine wp_region_fromM (fun W => Sep w [] [] W) hM ?_
  clear hM
  rintro Y1 hM
  refine rF (some 1) (pt Y1.heap.size 0) (Y1.alloc (.cells (nbc (nb B 2 2 32768)).toArray 42)) ?_
  replace hM := hM.alloc 42 (nbc (nb B 2 2 32768))
  generalize World.alloc _ _ = Y2 at *
  generalize hNe : Y1.heap.size = N2 at *
  clear hNe
  refine tF 2 [.val 1 (some 2) (.bool false)] trivial ?_
  refine dF ?_
  try simp only [puts, Tk.put, Act.put, List.setIfInBounds_toArray, List.set_cons_zero, List.set_cons_succ]
  go_upto_region 1 with fail
  refine wp_region_M (fun W => Sep w [] [.blk N2 42 (nbc (nb B 2 2 32768))] W) (fun W => Sep w [] [.blk N2 42 (nbc (nb B 2 2 32768))] W) hmx hM.drew ?_
  clear hM
  rintro Y3 hM
  have hS := hM.sub (.cons_cons _ .slnil)
  refine tD 14 [.val 0 (some 3) (pt N2 0), .load 1 (some 4) 40 (pt N2 0) (pt B 2), .val 2 (some 5) (pt B 2), .load 3 (some 6) 3 (pt B 2) (.int .i64 z), .val 4 (some 7) (pt N2 2), .load 5 (some 8) 3 (pt N2 2) (.int .i64 32768), .val 6 (some 9) (.int .i64 (-32768)), .val 7 (some 10) (.bool (decide ((-32768) ≤ z))), .val 8 (some 11) (.bool (decide ((-32768) ≤ z)))] ⟨fun W h => ld_any _ _ Try.underlying40 rfl (h.at 0 rfl) 0 rfl, fun W h => ld_any _ _ Try.underlying3 rfl (HB.out.below h.b HB.out.lt) 2 HV.out, fun W h => ld_any _ _ Try.underlying3 rfl (h.at 0 rfl) 2 rfl, trivial⟩ hS ?_
  cases hb1 : decide ((-32768) ≤ z) with
  | false =>
    have Hhb1 := Lib.hid hb1
    clear hb1
    refine tD 0 [.skip 9 (some 12), .skip 10 (some 13), .skip 11 (some 14), .skip 12 (some 15), .skip 13 (some 16), .skip 14 (some 17), .skip 15 (some 18), .skip 16 (some 19), .skip 17 (some 20), .skip 18 (some 21), .skip 19 (some 22), .skip 20 (some 23), .val 21 (some 24) (.bool false), .val 22 (some 2) (.bool false)] trivial hS ?_
    refine dD ?_
    try simp only [puts, Tk.put, Act.put, List.setIfInBounds_toArray, List.set_cons_zero, List.set_cons_succ]
    clear hS
    go_wp2_with fail
    go_ret
    exact ⟨by rw [show fitZ 2 z = (decide (-32768 ≤ z) && decide (z < 32768)) from rfl, Hhb1.out]; rfl, hM.b⟩
  | true =>
    have Hhb1 := Lib.hid hb1
    clear hb1
    refine tD 0 [.val 9 (some 12) (pt N2 0), .load 10 (some 13) 40 (pt N2 0) (pt B 2), .val 11 (some 14) (pt B 2), .load 12 (some 15) 3 (pt B 2) (.int .i64 z), .val 13 (some 16) (pt N2 1), .load 14 (some 17) 3 (pt N2 1) (.int .i64 2), .val 15 (some 18) (.int .i64 16), .val 16 (some 19) (.int .i64 65536), .val 17 (some 20) (pt N2 2), .load 18 (some 21) 3 (pt N2 2) (.int .i64 32768), .val 19 (some 22) (.int .i64 32768), .val 20 (some 23) (.bool (decide (z < 32768))), .val 21 (some 24) (.bool (decide (z < 32768))), .val 22 (some 2) (.bool (decide (z < 32768)))] ⟨fun W h => ld_any _ _ Try.underlying40 rfl (h.at 0 rfl) 0 rfl, fun W h => ld_any _ _ Try.underlying3 rfl (HB.out.below h.b HB.out.lt) 2 HV.out, fun W h => ld_any _ _ Try.underlying3 rfl (h.at 0 rfl) 1 rfl, fun W h => ld_any _ _ Try.underlying3 rfl (h.at 0 rfl) 2 rfl, trivial⟩ hS ?_
    refine dD ?_
    try simp only [puts, Tk.put, Act.put, List.setIfInBounds_toArray, List.set_cons_zero, List.set_cons_succ]
    clear hS
    go_wp2_with fail
    go_ret
    exact ⟨by rw [show fitZ 2 z = (decide (-32768 ≤ z) && decide (z < 32768)) from rfl, Hhb1.out]; rfl, hM.b⟩
set_option maxRecDepth 100000 in
set_option maxHeartbeats 4000000 in
theorem fits_3 {B : Nat} {T : TypeId} {cs : List Value} {z : Int} (w : World) (hB : Blk w B T cs) (hv : cs[3]? = some (.int .i64 z)) : Calls Try.prog 21 #[nbv (nb B 3 2 32768)] w fun e W' => e = .returned (.bool (fitZ 3 z)) ∧ Below w.heap.size w W' := by
  have hmx : Try.prog.follows .mixedOrders = true := by kernel_rfl
  have HB := Lib.hid hB
  have HV := Lib.hid hv
  clear hB hv
  have hM := Sep.start w
  go_enter Try.func21, Try.ntmps21
  go_upto_region 0 with fail
  refine wp_region_fromM (fun W => Sep w [] [] W) hM ?_
  clear hM
  rintro Y1 hM
  refine rF (some 1) (pt Y1.heap.size 0) (Y1.alloc (.cells (nbc (nb B 3 2 32768)).toArray 42)) ?_
  replace hM := hM.alloc 42 (nbc (nb B 3 2 32768))
  generalize World.alloc _ _ = Y2 at *
  generalize hNe : Y1.heap.size = N2 at *
  clear hNe
  refine tF 2 [.val 1 (some 2) (.bool false)] trivial ?_
  refine dF ?_
  try simp only [puts, Tk.put, Act.put, List.setIfInBounds_toArray, List.set_cons_zero, List.set_cons_succ]
  go_upto_region 1 with fail
  refine wp_region_M (fun W => Sep w [] [.blk N2 42 (nbc (nb B 3 2 32768))] W) (fun W => Sep w [] [.blk N2 42 (nbc (nb B 3 2 32768))] W) hmx hM.drew ?_
  clear hM
  rintro Y3 hM
  have hS := hM.sub (.cons_cons _ .slnil)
  refine tD 14 [.val 0 (some 3) (pt N2 0), .load 1 (some 4) 40 (pt N2 0) (pt B 3), .val 2 (some 5) (pt B 3), .load 3 (some 6) 3 (pt B 3) (.int .i64 z), .val 4 (some 7) (pt N2 2), .load 5 (some 8) 3 (pt N2 2) (.int .i64 32768), .val 6 (some 9) (.int .i64 (-32768)), .val 7 (some 10) (.bool (decide ((-32768) ≤ z))), .val 8 (some 11) (.bool (decide ((-32768) ≤ z)))] ⟨fun W h => ld_any _ _ Try.underlying40 rfl (h.at 0 rfl) 0 rfl, fun W h => ld_any _ _ Try.underlying3 rfl (HB.out.below h.b HB.out.lt) 3 HV.out, fun W h => ld_any _ _ Try.underlying3 rfl (h.at 0 rfl) 2 rfl, trivial⟩ hS ?_
  cases hb1 : decide ((-32768) ≤ z) with
  | false =>
    have Hhb1 := Lib.hid hb1
    clear hb1
    refine tD 0 [.skip 9 (some 12), .skip 10 (some 13), .skip 11 (some 14), .skip 12 (some 15), .skip 13 (some 16), .skip 14 (some 17), .skip 15 (some 18), .skip 16 (some 19), .skip 17 (some 20), .skip 18 (some 21), .skip 19 (some 22), .skip 20 (some 23), .val 21 (some 24) (.bool false), .val 22 (some 2) (.bool false)] trivial hS ?_
    refine dD ?_
    try simp only [puts, Tk.put, Act.put, List.setIfInBounds_toArray, List.set_cons_zero, List.set_cons_succ]
    clear hS
    go_wp2_with fail
    go_ret
    exact ⟨by rw [show fitZ 3 z = (decide (-32768 ≤ z) && decide (z < 32768)) from rfl, Hhb1.out]; rfl, hM.b⟩
  | true =>
    have Hhb1 := Lib.hid hb1
    clear hb1
    refine tD 0 [.val 9 (some 12) (pt N2 0), .load 10 (some 13) 40 (pt N2 0) (pt B 3), .val 11 (some 14) (pt B 3), .load 12 (some 15) 3 (pt B 3) (.int .i64 z), .val 13 (some 16) (pt N2 1), .load 14 (some 17) 3 (pt N2 1) (.int .i64 2), .val 15 (some 18) (.int .i64 16), .val 16 (some 19) (.int .i64 65536), .val 17 (some 20) (pt N2 2), .load 18 (some 21) 3 (pt N2 2) (.int .i64 32768), .val 19 (some 22) (.int .i64 32768), .val 20 (some 23) (.bool (decide (z < 32768))), .val 21 (some 24) (.bool (decide (z < 32768))), .val 22 (some 2) (.bool (decide (z < 32768)))] ⟨fun W h => ld_any _ _ Try.underlying40 rfl (h.at 0 rfl) 0 rfl, fun W h => ld_any _ _ Try.underlying3 rfl (HB.out.below h.b HB.out.lt) 3 HV.out, fun W h => ld_any _ _ Try.underlying3 rfl (h.at 0 rfl) 1 rfl, fun W h => ld_any _ _ Try.underlying3 rfl (h.at 0 rfl) 2 rfl, trivial⟩ hS ?_
    refine dD ?_
    try simp only [puts, Tk.put, Act.put, List.setIfInBounds_toArray, List.set_cons_zero, List.set_cons_succ]
    clear hS
    go_wp2_with fail
    go_ret
    exact ⟨by rw [show fitZ 3 z = (decide (-32768 ≤ z) && decide (z < 32768)) from rfl, Hhb1.out]; rfl, hM.b⟩
theorem fit_not {s : Stp} (j : Nat) (hj : j < 4) (h : fitZ j (numP s j) = false) : fitP s = false := by
  match j, hj with
  | 0, _ => simp [fitP, fitU, h]
  | 1, _ => simp [fitP, fitU, h]
  | 2, _ => simp [fitP, fitU, h]
  | 3, _ => simp [fitP, fitU, h]
set_option maxRecDepth 100000 in
set_option maxHeartbeats 4000000 in
theorem allFit_any (x : Sp) (w : World) : Calls Try.prog 13 #[spv x] w fun e W' => e = .returned (.bool (fitP (plP x))) ∧ Below w.heap.size w W' := by
  have hmx : Try.prog.follows .mixedOrders = true := by kernel_rfl
  have hM := Sep.start w
  go_enter Try.func13, Try.ntmps13
  go_upto_region 0 with fail
  refine wp_region_fromM (fun W => Sep w [] [] W) hM ?_
  clear hM
  rintro Y1 hM
  refine rF (some 1) (pt Y1.heap.size 0) (Y1.alloc (.cells (spc x).toArray 33)) ?_
  replace hM := hM.alloc 33 (spc x)
  generalize World.alloc _ _ = Y2 at *
  generalize hNe : Y1.heap.size = N2 at *
  clear hNe
  refine tF 2 [.val 1 (some 2) (.bool false)] trivial ?_
  refine dF ?_
  try simp only [puts, Tk.put, Act.put, List.setIfInBounds_toArray, List.set_cons_zero, List.set_cons_succ]
  go_upto_region 1 with fail
  refine wp_region_fromM (fun W => Sep w [] [.blk N2 33 (spc x)] W) hM ?_
  clear hM
  rintro Y3 hM
  refine cF (some 5) 15 #[pt N2 0] ((numbers_any N2 _).mono ?_)
  rintro e Y4 ⟨rfl, hb⟩
  replace hM := hM.below hb
  clear hb
  refine tF 2 [.val 1 (some 6) (.int .i64 0)] trivial ?_
  refine dF ?_
  try simp only [puts, Tk.put, Act.put, List.setIfInBounds_toArray, List.set_cons_zero, List.set_cons_succ]
  go_wp2_with fail
  go_loopw [6] (fun i wr => ∃ j : Nat, (j = 0 ∨ j = 1 ∨ j = 2 ∨ j = 3 ∨ j = 4) ∧ i = .int .i64 (j : Int) ∧ fitU (plP x) j = true ∧ Sep w [] [.blk N2 33 (spc x)] wr) (fun i _ => 4 - (intOf i).toNat)
  case atStart => exact ⟨0, .inl rfl, rfl, rfl, hM⟩
  clear hM
  case round =>
    obtain ⟨j, hq, hi, hf, hM⟩ := hrel
    rcases hq with rfl | rfl | rfl | rfl | rfl
    case inl =>
      replace hi : _ = Value.int .i64 0 := hi
      subst hi
      have HF := Lib.hid hf
      clear hf
      go_upto_region 2 with fail
      refine wp_region_fromM (fun W => Sep w [] [.blk N2 33 (spc x)] W) hM ?_
      clear hM
      rintro Y5 hM
      refine tF 1 [.val 0 (some 7) (.bool true)] trivial ?_
      refine dF ?_
      try simp only [puts, Tk.put, Act.put, List.setIfInBounds_toArray, List.set_cons_zero, List.set_cons_succ]
      go_upto_region 3 with fail
      refine wp_region_fromM (fun W => Sep w [] [.blk N2 33 (spc x)] W) hM ?_
      clear hM
      rintro Y6 hM
      refine tF 1 [.val 0 (some 8) (nbv (nb N2 0 1 0))] trivial ?_
      refine rF (some 4) (pt Y6.heap.size 0) (Y6.alloc (.cells (nbc noNb).toArray 42)) ?_
      replace hM := hM.alloc 42 (nbc noNb)
      generalize World.alloc _ _ = Y7 at *
      generalize hNe : Y6.heap.size = N7 at *
      clear hNe
      have hst := sto_part (nbc (nb N2 0 1 0)) (hM.at 0 rfl) 0 42 (nbv (nb N2 0 1 0)) (nbc (nb N2 0 1 0)) rfl (by kernel_rfl) (Nat.le_of_ble_eq_true rfl) rfl rfl
      refine sF 42 (pt N7 0) (nbv (nb N2 0 1 0)) (hst) ?_
      clear hst
      replace hM := hM.set 0 (cs' := nbc (nb N2 0 1 0)) rfl rfl
      generalize World.setRow _ _ _ = Y8 at *
      refine dF ?_
      try simp only [puts, Tk.put, Act.put, List.setIfInBounds_toArray, List.set_cons_zero, List.set_cons_succ]
      go_upto_region 4 with fail
      refine wp_region_fromM (fun W => Sep w [] [.blk N7 42 (nbc (nb N2 0 1 0)), .blk N2 33 (spc x)] W) hM ?_
      clear hM
      rintro Y9 hM
      refine tF 1 [.load 0 (some 9) 42 (pt N7 0) (nbv (nb N2 0 1 0))] ⟨load_part (hM.at 0 rfl) 0 (nbc (nb N2 0 1 0)) rfl _ _ Try.underlying42 rfl (by kernel_rfl), trivial⟩ ?_
      refine cF (some 10) 21 #[nbv (nb N2 0 1 0)] ((fits_0 _ (hM.at 1 rfl) rfl).mono ?_)
      rintro e Y10 ⟨rfl, hb⟩
      replace hM := hM.below hb
      clear hb
      cases hb1 : fitZ 0 x.ki with
      | false =>
        have Hhb1 := Lib.hid hb1
        clear hb1
        refine tF 3 [.val 2 (some 11) (.bool true)] trivial ?_
        refine dF ?_
        try simp only [puts, Tk.put, Act.put, List.setIfInBounds_toArray, List.set_cons_zero, List.set_cons_succ]
        go_upto_region 5 with fail
        refine wp_region_fromM (fun W => Sep w [] [.blk N7 42 (nbc (nb N2 0 1 0)), .blk N2 33 (spc x)] W) hM ?_
        clear hM
        rintro Y11 hM
        refine tF 1 [.val 0 (some 2) (.bool false)] trivial ?_
        refine dF ?_
        try simp only [puts, Tk.put, Act.put, List.setIfInBounds_toArray, List.set_cons_zero, List.set_cons_succ]
        go_wp2_with fail
        go_ret
        exact ⟨by rw [show fitP (plP x) = false from fit_not 0 (by decide) Hhb1.out]; rfl, hM.b⟩
      | true =>
        have Hhb1 := Lib.hid hb1
        clear hb1
        refine tF 3 [.val 2 (some 11) (.bool false)] trivial ?_
        refine dF ?_
        try simp only [puts, Tk.put, Act.put, List.setIfInBounds_toArray, List.set_cons_zero, List.set_cons_succ]
        go_upto_region 6 with fail
        refine wp_region_fromM (fun W => Sep w [] [.blk N7 42 (nbc (nb N2 0 1 0)), .blk N2 33 (spc x)] W) hM ?_
        clear hM
        rintro Y12 hM
        refine tF 2 [.val 0 (some 12) (.int .i64 1), .val 1 (some 6) (.int .i64 1)] trivial ?_
        refine dF ?_
        try simp only [puts, Tk.put, Act.put, List.setIfInBounds_toArray, List.set_cons_zero, List.set_cons_succ]
        have hM1 : Sep w [] [.blk N2 33 (spc x)] Y12 := hM.pick [1] (by decide) rfl
        clear hM
        go_wp2_with fail
        go_roundw
        case rel => exact ⟨1, .inr (.inl rfl), rfl, (show fitU (plP x) 1 = true from by unfold fitU; rw [HF.out]; exact Hhb1.out), hM1⟩
        case measure => simp [intOf]
    case inr.inl =>
      replace hi : _ = Value.int .i64 1 := hi
      subst hi
      have HF := Lib.hid hf
      clear hf
      go_upto_region 2 with fail
      refine wp_region_fromM (fun W => Sep w [] [.blk N2 33 (spc x)] W) hM ?_
      clear hM
      rintro Y13 hM
      refine tF 1 [.val 0 (some 7) (.bool true)] trivial ?_
      refine dF ?_
      try simp only [puts, Tk.put, Act.put, List.setIfInBounds_toArray, List.set_cons_zero, List.set_cons_succ]
      go_upto_region 3 with fail
      refine wp_region_fromM (fun W => Sep w [] [.blk N2 33 (spc x)] W) hM ?_
      clear hM
      rintro Y14 hM
      refine tF 1 [.val 0 (some 8) (nbv (nb N2 1 2 32768))] trivial ?_
      refine rF (some 4) (pt Y14.heap.size 0) (Y14.alloc (.cells (nbc noNb).toArray 42)) ?_
      replace hM := hM.alloc 42 (nbc noNb)
      generalize World.alloc _ _ = Y15 at *
      generalize hNe : Y14.heap.size = N15 at *
      clear hNe
      have hst := sto_part (nbc (nb N2 1 2 32768)) (hM.at 0 rfl) 0 42 (nbv (nb N2 1 2 32768)) (nbc (nb N2 1 2 32768)) rfl (by kernel_rfl) (Nat.le_of_ble_eq_true rfl) rfl rfl
      refine sF 42 (pt N15 0) (nbv (nb N2 1 2 32768)) (hst) ?_
      clear hst
      replace hM := hM.set 0 (cs' := nbc (nb N2 1 2 32768)) rfl rfl
      generalize World.setRow _ _ _ = Y16 at *
      refine dF ?_
      try simp only [puts, Tk.put, Act.put, List.setIfInBounds_toArray, List.set_cons_zero, List.set_cons_succ]
      go_upto_region 4 with fail
      refine wp_region_fromM (fun W => Sep w [] [.blk N15 42 (nbc (nb N2 1 2 32768)), .blk N2 33 (spc x)] W) hM ?_
      clear hM
      rintro Y17 hM
      refine tF 1 [.load 0 (some 9) 42 (pt N15 0) (nbv (nb N2 1 2 32768))] ⟨load_part (hM.at 0 rfl) 0 (nbc (nb N2 1 2 32768)) rfl _ _ Try.underlying42 rfl (by kernel_rfl), trivial⟩ ?_
      refine cF (some 10) 21 #[nbv (nb N2 1 2 32768)] ((fits_1 _ (hM.at 1 rfl) rfl).mono ?_)
      rintro e Y18 ⟨rfl, hb⟩
      replace hM := hM.below hb
      clear hb
      cases hb2 : fitZ 1 x.xa with
      | false =>
        have Hhb2 := Lib.hid hb2
        clear hb2
        refine tF 3 [.val 2 (some 11) (.bool true)] trivial ?_
        refine dF ?_
        try simp only [puts, Tk.put, Act.put, List.setIfInBounds_toArray, List.set_cons_zero, List.set_cons_succ]
        go_upto_region 5 with fail
        refine wp_region_fromM (fun W => Sep w [] [.blk N15 42 (nbc (nb N2 1 2 32768)), .blk N2 33 (spc x)] W) hM ?_
        clear hM
        rintro Y19 hM
        refine tF 1 [.val 0 (some 2) (.bool false)] trivial ?_
        refine dF ?_
        try simp only [puts, Tk.put, Act.put, List.setIfInBounds_toArray, List.set_cons_zero, List.set_cons_succ]
        go_wp2_with fail
        go_ret
        exact ⟨by rw [show fitP (plP x) = false from fit_not 1 (by decide) Hhb2.out]; rfl, hM.b⟩
      | true =>
        have Hhb2 := Lib.hid hb2
        clear hb2
        refine tF 3 [.val 2 (some 11) (.bool false)] trivial ?_
        refine dF ?_
        try simp only [puts, Tk.put, Act.put, List.setIfInBounds_toArray, List.set_cons_zero, List.set_cons_succ]
        go_upto_region 6 with fail
        refine wp_region_fromM (fun W => Sep w [] [.blk N15 42 (nbc (nb N2 1 2 32768)), .blk N2 33 (spc x)] W) hM ?_
        clear hM
        rintro Y20 hM
        refine tF 2 [.val 0 (some 12) (.int .i64 2), .val 1 (some 6) (.int .i64 2)] trivial ?_
        refine dF ?_
        try simp only [puts, Tk.put, Act.put, List.setIfInBounds_toArray, List.set_cons_zero, List.set_cons_succ]
        have hM1 : Sep w [] [.blk N2 33 (spc x)] Y20 := hM.pick [1] (by decide) rfl
        clear hM
        go_wp2_with fail
        go_roundw
        case rel => exact ⟨2, .inr (.inr (.inl rfl)), rfl, (show fitU (plP x) 2 = true from by unfold fitU; rw [HF.out]; exact Hhb2.out), hM1⟩
        case measure => simp [intOf]
    case inr.inr.inl =>
      replace hi : _ = Value.int .i64 2 := hi
      subst hi
      have HF := Lib.hid hf
      clear hf
      go_upto_region 2 with fail
      refine wp_region_fromM (fun W => Sep w [] [.blk N2 33 (spc x)] W) hM ?_
      clear hM
      rintro Y21 hM
      refine tF 1 [.val 0 (some 7) (.bool true)] trivial ?_
      refine dF ?_
      try simp only [puts, Tk.put, Act.put, List.setIfInBounds_toArray, List.set_cons_zero, List.set_cons_succ]
      go_upto_region 3 with fail
      refine wp_region_fromM (fun W => Sep w [] [.blk N2 33 (spc x)] W) hM ?_
      clear hM
      rintro Y22 hM
      refine tF 1 [.val 0 (some 8) (nbv (nb N2 2 2 32768))] trivial ?_
      refine rF (some 4) (pt Y22.heap.size 0) (Y22.alloc (.cells (nbc noNb).toArray 42)) ?_
      replace hM := hM.alloc 42 (nbc noNb)
      generalize World.alloc _ _ = Y23 at *
      generalize hNe : Y22.heap.size = N23 at *
      clear hNe
      have hst := sto_part (nbc (nb N2 2 2 32768)) (hM.at 0 rfl) 0 42 (nbv (nb N2 2 2 32768)) (nbc (nb N2 2 2 32768)) rfl (by kernel_rfl) (Nat.le_of_ble_eq_true rfl) rfl rfl
      refine sF 42 (pt N23 0) (nbv (nb N2 2 2 32768)) (hst) ?_
      clear hst
      replace hM := hM.set 0 (cs' := nbc (nb N2 2 2 32768)) rfl rfl
      generalize World.setRow _ _ _ = Y24 at *
      refine dF ?_
      try simp only [puts, Tk.put, Act.put, List.setIfInBounds_toArray, List.set_cons_zero, List.set_cons_succ]
      go_upto_region 4 with fail
      refine wp_region_fromM (fun W => Sep w [] [.blk N23 42 (nbc (nb N2 2 2 32768)), .blk N2 33 (spc x)] W) hM ?_
      clear hM
      rintro Y25 hM
      refine tF 1 [.load 0 (some 9) 42 (pt N23 0) (nbv (nb N2 2 2 32768))] ⟨load_part (hM.at 0 rfl) 0 (nbc (nb N2 2 2 32768)) rfl _ _ Try.underlying42 rfl (by kernel_rfl), trivial⟩ ?_
      refine cF (some 10) 21 #[nbv (nb N2 2 2 32768)] ((fits_2 _ (hM.at 1 rfl) rfl).mono ?_)
      rintro e Y26 ⟨rfl, hb⟩
      replace hM := hM.below hb
      clear hb
      cases hb3 : fitZ 2 x.xb with
      | false =>
        have Hhb3 := Lib.hid hb3
        clear hb3
        refine tF 3 [.val 2 (some 11) (.bool true)] trivial ?_
        refine dF ?_
        try simp only [puts, Tk.put, Act.put, List.setIfInBounds_toArray, List.set_cons_zero, List.set_cons_succ]
        go_upto_region 5 with fail
        refine wp_region_fromM (fun W => Sep w [] [.blk N23 42 (nbc (nb N2 2 2 32768)), .blk N2 33 (spc x)] W) hM ?_
        clear hM
        rintro Y27 hM
        refine tF 1 [.val 0 (some 2) (.bool false)] trivial ?_
        refine dF ?_
        try simp only [puts, Tk.put, Act.put, List.setIfInBounds_toArray, List.set_cons_zero, List.set_cons_succ]
        go_wp2_with fail
        go_ret
        exact ⟨by rw [show fitP (plP x) = false from fit_not 2 (by decide) Hhb3.out]; rfl, hM.b⟩
      | true =>
        have Hhb3 := Lib.hid hb3
        clear hb3
        refine tF 3 [.val 2 (some 11) (.bool false)] trivial ?_
        refine dF ?_
        try simp only [puts, Tk.put, Act.put, List.setIfInBounds_toArray, List.set_cons_zero, List.set_cons_succ]
        go_upto_region 6 with fail
        refine wp_region_fromM (fun W => Sep w [] [.blk N23 42 (nbc (nb N2 2 2 32768)), .blk N2 33 (spc x)] W) hM ?_
        clear hM
        rintro Y28 hM
        refine tF 2 [.val 0 (some 12) (.int .i64 3), .val 1 (some 6) (.int .i64 3)] trivial ?_
        refine dF ?_
        try simp only [puts, Tk.put, Act.put, List.setIfInBounds_toArray, List.set_cons_zero, List.set_cons_succ]
        have hM1 : Sep w [] [.blk N2 33 (spc x)] Y28 := hM.pick [1] (by decide) rfl
        clear hM
        go_wp2_with fail
        go_roundw
        case rel => exact ⟨3, .inr (.inr (.inr (.inl rfl))), rfl, (show fitU (plP x) 3 = true from by unfold fitU; rw [HF.out]; exact Hhb3.out), hM1⟩
        case measure => simp [intOf]
    case inr.inr.inr.inl =>
      replace hi : _ = Value.int .i64 3 := hi
      subst hi
      have HF := Lib.hid hf
      clear hf
      go_upto_region 2 with fail
      refine wp_region_fromM (fun W => Sep w [] [.blk N2 33 (spc x)] W) hM ?_
      clear hM
      rintro Y29 hM
      refine tF 1 [.val 0 (some 7) (.bool true)] trivial ?_
      refine dF ?_
      try simp only [puts, Tk.put, Act.put, List.setIfInBounds_toArray, List.set_cons_zero, List.set_cons_succ]
      go_upto_region 3 with fail
      refine wp_region_fromM (fun W => Sep w [] [.blk N2 33 (spc x)] W) hM ?_
      clear hM
      rintro Y30 hM
      refine tF 1 [.val 0 (some 8) (nbv (nb N2 3 2 32768))] trivial ?_
      refine rF (some 4) (pt Y30.heap.size 0) (Y30.alloc (.cells (nbc noNb).toArray 42)) ?_
      replace hM := hM.alloc 42 (nbc noNb)
      generalize World.alloc _ _ = Y31 at *
      generalize hNe : Y30.heap.size = N31 at *
      clear hNe
      have hst := sto_part (nbc (nb N2 3 2 32768)) (hM.at 0 rfl) 0 42 (nbv (nb N2 3 2 32768)) (nbc (nb N2 3 2 32768)) rfl (by kernel_rfl) (Nat.le_of_ble_eq_true rfl) rfl rfl
      refine sF 42 (pt N31 0) (nbv (nb N2 3 2 32768)) (hst) ?_
      clear hst
      replace hM := hM.set 0 (cs' := nbc (nb N2 3 2 32768)) rfl rfl
      generalize World.setRow _ _ _ = Y32 at *
      refine dF ?_
      try simp only [puts, Tk.put, Act.put, List.setIfInBounds_toArray, List.set_cons_zero, List.set_cons_succ]
      go_upto_region 4 with fail
      refine wp_region_fromM (fun W => Sep w [] [.blk N31 42 (nbc (nb N2 3 2 32768)), .blk N2 33 (spc x)] W) hM ?_
      clear hM
      rintro Y33 hM
      refine tF 1 [.load 0 (some 9) 42 (pt N31 0) (nbv (nb N2 3 2 32768))] ⟨load_part (hM.at 0 rfl) 0 (nbc (nb N2 3 2 32768)) rfl _ _ Try.underlying42 rfl (by kernel_rfl), trivial⟩ ?_
      refine cF (some 10) 21 #[nbv (nb N2 3 2 32768)] ((fits_3 _ (hM.at 1 rfl) rfl).mono ?_)
      rintro e Y34 ⟨rfl, hb⟩
      replace hM := hM.below hb
      clear hb
      cases hb4 : fitZ 3 x.xc with
      | false =>
        have Hhb4 := Lib.hid hb4
        clear hb4
        refine tF 3 [.val 2 (some 11) (.bool true)] trivial ?_
        refine dF ?_
        try simp only [puts, Tk.put, Act.put, List.setIfInBounds_toArray, List.set_cons_zero, List.set_cons_succ]
        go_upto_region 5 with fail
        refine wp_region_fromM (fun W => Sep w [] [.blk N31 42 (nbc (nb N2 3 2 32768)), .blk N2 33 (spc x)] W) hM ?_
        clear hM
        rintro Y35 hM
        refine tF 1 [.val 0 (some 2) (.bool false)] trivial ?_
        refine dF ?_
        try simp only [puts, Tk.put, Act.put, List.setIfInBounds_toArray, List.set_cons_zero, List.set_cons_succ]
        go_wp2_with fail
        go_ret
        exact ⟨by rw [show fitP (plP x) = false from fit_not 3 (by decide) Hhb4.out]; rfl, hM.b⟩
      | true =>
        have Hhb4 := Lib.hid hb4
        clear hb4
        refine tF 3 [.val 2 (some 11) (.bool false)] trivial ?_
        refine dF ?_
        try simp only [puts, Tk.put, Act.put, List.setIfInBounds_toArray, List.set_cons_zero, List.set_cons_succ]
        go_upto_region 6 with fail
        refine wp_region_fromM (fun W => Sep w [] [.blk N31 42 (nbc (nb N2 3 2 32768)), .blk N2 33 (spc x)] W) hM ?_
        clear hM
        rintro Y36 hM
        refine tF 2 [.val 0 (some 12) (.int .i64 4), .val 1 (some 6) (.int .i64 4)] trivial ?_
        refine dF ?_
        try simp only [puts, Tk.put, Act.put, List.setIfInBounds_toArray, List.set_cons_zero, List.set_cons_succ]
        have hM1 : Sep w [] [.blk N2 33 (spc x)] Y36 := hM.pick [1] (by decide) rfl
        clear hM
        go_wp2_with fail
        go_roundw
        case rel => exact ⟨4, .inr (.inr (.inr (.inr (rfl)))), rfl, (show fitU (plP x) 4 = true from by unfold fitU; rw [HF.out]; exact Hhb4.out), hM1⟩
        case measure => simp [intOf]
    case inr.inr.inr.inr =>
      replace hi : _ = Value.int .i64 4 := hi
      subst hi
      have HF := Lib.hid hf
      clear hf
      go_upto_region 2 with fail
      refine wp_region_fromM (fun W => Sep w [] [.blk N2 33 (spc x)] W) hM ?_
      clear hM
      rintro Y37 hM
      refine tF 1 [.val 0 (some 7) (.bool false)] trivial ?_
      refine dF ?_
      try simp only [puts, Tk.put, Act.put, List.setIfInBounds_toArray, List.set_cons_zero, List.set_cons_succ]
      go_upto_region 7 with fail
      refine wp_region_fromM (fun W => Sep w [] [.blk N2 33 (spc x)] W) hM ?_
      clear hM
      rintro Y38 hM
      refine tF 1 [.val 0 (some 2) (.bool true)] trivial ?_
      refine dF ?_
      try simp only [puts, Tk.put, Act.put, List.setIfInBounds_toArray, List.set_cons_zero, List.set_cons_succ]
      go_wp2_with fail
      go_ret
      exact ⟨by rw [show fitP (plP x) = true from HF.out]; rfl, hM.b⟩
set_option maxRecDepth 100000 in
set_option maxHeartbeats 4000000 in
theorem chk1_any (x : Sp) (w : World) : Calls Try.prog 12 #[spv x] w fun e W' => e = .returned (.bool (!fitP (plP x))) ∧ Below w.heap.size w W' := by
  have hmx : Try.prog.follows .mixedOrders = true := by kernel_rfl
  have hM := Sep.start w
  go_enter Try.func12, Try.ntmps12
  go_upto_region 0 with fail
  refine wp_region_fromM (fun W => Sep w [] [] W) hM ?_
  clear hM
  rintro Y1 hM
  refine rF (some 1) (pt Y1.heap.size 0) (Y1.alloc (.cells (spc x).toArray 33)) ?_
  replace hM := hM.alloc 33 (spc x)
  generalize World.alloc _ _ = Y2 at *
  generalize hNe : Y1.heap.size = N2 at *
  clear hNe
  refine tF 2 [.val 1 (some 2) (.bool false)] trivial ?_
  refine dF ?_
  try simp only [puts, Tk.put, Act.put, List.setIfInBounds_toArray, List.set_cons_zero, List.set_cons_succ]
  go_upto_region 1 with fail
  refine wp_region_fromM (fun W => Sep w [] [.blk N2 33 (spc x)] W) hM ?_
  clear hM
  rintro Y3 hM
  refine tF 1 [.load 0 (some 3) 33 (pt N2 0) (spv x)] ⟨load_part (hM.at 0 rfl) 0 (spc x) rfl _ _ Try.underlying33 rfl (by kernel_rfl), trivial⟩ ?_
  refine cF (some 4) 13 #[spv x] ((allFit_any x _).mono ?_)
  rintro e Y4 ⟨rfl, hb⟩
  replace hM := hM.below hb
  clear hb
  cases hb1 : fitP (plP x) with
  | false =>
    have Hhb1 := Lib.hid hb1
    clear hb1
    refine tF 4 [.val 2 (some 5) (.bool true), .val 3 (some 2) (.bool true)] trivial ?_
    refine dF ?_
    try simp only [puts, Tk.put, Act.put, List.setIfInBounds_toArray, List.set_cons_zero, List.set_cons_succ]
    go_wp2_with fail
    go_ret
    exact ⟨by rw [Hhb1.out]; rfl, hM.b⟩
  | true =>
    have Hhb1 := Lib.hid hb1
    clear hb1
    refine tF 4 [.val 2 (some 5) (.bool false), .val 3 (some 2) (.bool false)] trivial ?_
    refine dF ?_
    try simp only [puts, Tk.put, Act.put, List.setIfInBounds_toArray, List.set_cons_zero, List.set_cons_succ]
    go_wp2_with fail
    go_ret
    exact ⟨by rw [Hhb1.out]; rfl, hM.b⟩
theorem long_eq (x : Sp) : decide ((1024 : Int) < (x.l.length : Int)) = longP (plP x) := by
  unfold longP
  exact decide_eq_decide.2 (by simp only [plP]; omega)
set_option maxRecDepth 100000 in
set_option maxHeartbeats 4000000 in
theorem chk2_any (x : Sp) (w : World) : Calls Try.prog 14 #[spv x] w fun e W' => e = .returned (.bool (longP (plP x))) ∧ Below w.heap.size w W' := by
  have hmx : Try.prog.follows .mixedOrders = true := by kernel_rfl
  have hM := Sep.start w
  go_enter Try.func14, Try.ntmps14
  go_upto_region 0 with fail
  refine wp_region_fromM (fun W => Sep w [] [] W) hM ?_
  clear hM
  rintro Y1 hM
  refine rF (some 1) (pt Y1.heap.size 0) (Y1.alloc (.cells (spc x).toArray 33)) ?_
  replace hM := hM.alloc 33 (spc x)
  generalize World.alloc _ _ = Y2 at *
  generalize hNe : Y1.heap.size = N2 at *
  clear hNe
  refine tF 2 [.val 1 (some 2) (.bool false)] trivial ?_
  refine dF ?_
  try simp only [puts, Tk.put, Act.put, List.setIfInBounds_toArray, List.set_cons_zero, List.set_cons_succ]
  go_upto_region 1 with fail
  refine wp_region_fromM (fun W => Sep w [] [.blk N2 33 (spc x)] W) hM ?_
  clear hM
  rintro Y3 hM
  refine tF 5 [.val 0 (some 3) (pt N2 4), .load 1 (some 4) 23 (pt N2 4) (.slice x.ad x.l.length x.cp), .val 2 (some 5) (.int .i64 (x.l.length : Int)), .val 3 (some 6) (.bool (decide (1024 < (x.l.length : Int)))), .val 4 (some 2) (.bool (decide (1024 < (x.l.length : Int))))] ⟨ld_any _ _ Try.underlying23 rfl (hM.at 0 rfl) 4 rfl, trivial⟩ ?_
  refine dF ?_
  try simp only [puts, Tk.put, Act.put, List.setIfInBounds_toArray, List.set_cons_zero, List.set_cons_succ]
  go_wp2_with fail
  go_ret
  exact ⟨congrArg (fun z => Ending.returned (.bool z)) (long_eq x), hM.b⟩
theorem idxG_any {α : Type} (p : α → Bool) (l : List α) : decide ((0 : Int) ≤ idxG p l) = l.any p := by
  cases h : l.any p with
  | false =>
    rw [idxG_not (by rw [List.take_length]; exact h)]
    rfl
  | true =>
    refine decide_eq_true ?_
    unfold idxG
    cases hf : l.findIdx? p with
    | some i => exact Int.natCast_nonneg i
    | none =>
      obtain ⟨x, hx, hp⟩ := List.any_eq_true.1 h
      have := List.findIdx?_eq_none_iff.1 hf x hx
      rw [hp] at this
      cases this
theorem any_plP (p : Stp → Bool) (l : List Sp) : l.any (fun x => p (plP x)) = (l.map plP).any p := by
  rw [List.any_map]
  rfl
set_option maxRecDepth 100000 in
set_option maxHeartbeats 4000000 in
theorem chk1_idx (l : List Sp) (v : Value) (w : World) {lo hi : Nat} (hl : RSl spc lo hi w v l) (hhi : hi ≤ w.heap.size) : Calls Try.prog 20 #[v, .func (.func 12) #[] #[]] w fun e W' => e = .returned (.int .i64 (idxG (fun x => !fitP (plP x)) l)) ∧ Below w.heap.size w W' := by
  have hmx : Try.prog.follows .mixedOrders = true := by kernel_rfl
  have HEl := Lib.hid (fun k x (hx : l[k]? = some x) => hl.elem spc_len hx Try.underlying22 (fun W => by kernel_rfl))
  obtain ⟨pl, cl, rfl⟩ := hl.slice
  have HLl := Lib.hid hl
  have HHl := Lib.hid hhi
  have HLENl := Lib.hid (show l.length ≤ 9223372036854775807 from by have h := hl.len; unfold maxLen at h; omega)
  clear hl hhi
  have hM := Sep.start w
  go_enter Try.func20, Try.ntmps20
  go_upto_region 0 with fail
  refine wp_region_fromM (fun W => Sep w [] [] W) hM ?_
  clear hM
  rintro Y1 hM
  refine tF 1 [.val 0 (some 4) (.int .i64 0)] trivial ?_
  refine dF ?_
  try simp only [puts, Tk.put, Act.put, List.setIfInBounds_toArray, List.set_cons_zero, List.set_cons_succ]
  go_upto_region 1 with fail
  refine wp_region_fromM (fun W => Sep w [] [] W) hM ?_
  clear hM
  rintro Y2 hM
  refine tF 3 [.val 0 (some 6) (.slice pl l.length cl), .val 1 (some 7) (.int .i64 (l.length : Int)), .val 2 (some 8) (.int .i64 0)] trivial ?_
  refine dF ?_
  try simp only [puts, Tk.put, Act.put, List.setIfInBounds_toArray, List.set_cons_zero, List.set_cons_succ]
  go_wp2_with fail
  go_loopw [5, 8] (fun _ i wr => ∃ j : Nat, j ≤ l.length ∧ i = .int .i64 (j : Int) ∧ (l.take j).any (fun x => !fitP (plP x)) = false ∧ Sep w [] [] wr) (fun _ i _ => l.length - (intOf i).toNat)
  case atStart => exact ⟨0, Nat.zero_le _, rfl, rfl, hM⟩
  clear hM
  case round =>
    obtain ⟨j, hj, rfl, hno, hM⟩ := hrel
    have HN := Lib.hid hno
    clear hno
    by_cases hlt : j < l.length
    case pos =>
      obtain ⟨x, hx⟩ : ∃ x, l[j]? = some x := ⟨_, List.getElem?_eq_getElem hlt⟩
      obtain ⟨bl, ol, _, _, hit, hct⟩ := HEl.out j x hx
      have HXl := Lib.hid hx
      have HIl := Lib.hid hit
      have HCl := Lib.hid hct
      clear hx hit hct
      have HJ := Lib.hid hlt
      have hlt' : (j : Int) < (l.length : Int) := by omega
      clear hlt
      go_upto_region 2 with fail
      refine wp_region_fromM (fun W => Sep w [] [] W) hM ?_
      clear hM
      rintro Y3 hM
      refine tF 1 [.alt 0 (some 9) (.bool (decide ((j : Int) < (l.length : Int)))) (.bool true)] ⟨congrArg Value.bool (decide_eq_true hlt'), trivial⟩ ?_
      refine dF ?_
      try simp only [puts, Tk.put, Act.put, List.setIfInBounds_toArray, List.set_cons_zero, List.set_cons_succ]
      go_upto_region 3 with fail
      refine wp_region_fromM (fun W => Sep w [] [] W) hM ?_
      clear hM
      rintro Y4 hM
      refine tF 2 [.val 0 (some 10) (.int .i64 (j : Int)), .val 1 (some 5) (.int .i64 (j : Int))] trivial ?_
      refine dF ?_
      try simp only [puts, Tk.put, Act.put, List.setIfInBounds_toArray, List.set_cons_zero, List.set_cons_succ]
      go_upto_region 4 with fail
      refine wp_region_fromM (fun W => Sep w [] [] W) hM ?_
      clear hM
      rintro Y5 hM
      refine tF 5 [.val 0 (some 11) (.func (.func 12) #[] #[]), .val 1 (some 12) (.slice pl l.length cl), .val 2 (some 13) (.int .i64 (j : Int)), .idx 3 (some 14) 22 (.slice pl l.length cl) (.int .i64 (j : Int)) (pt bl ol), .load 4 (some 15) 33 (pt bl ol) (spv x)] ⟨HIl.out _, ld_cells (spc x) _ _ Try.underlying33 rfl (by kernel_rfl) (HCl.out _ (HLl.out.below hM.b HHl.out)), trivial⟩ ?_
      refine cF (some 16) 12 #[spv x] ((chk1_any x _).mono ?_)
      rintro e Y6 ⟨rfl, hb⟩
      replace hM := hM.below hb
      clear hb
      refine dF ?_
      try simp only [puts, Tk.put, Act.put, List.setIfInBounds_toArray, List.set_cons_zero, List.set_cons_succ]
      cases hb1 : !fitP (plP x) with
      | false =>
        have Hhb1 := Lib.hid hb1
        clear hb1
        go_upto_region 6 with fail
        refine wp_region_fromM (fun W => Sep w [] [] W) hM ?_
        clear hM
        rintro Y7 hM
        refine tF 2 [.alt 0 (some 18) (.int .i64 (IntKind.i64.wrap ((j : Int) + 1))) (.int .i64 ((j + 1 : Nat) : Int)), .val 1 (some 8) (.int .i64 ((j + 1 : Nat) : Int))] ⟨congrArg (Value.int .i64) ((IntWalk.i64_in _ (by have := HLENl.out; have := HJ.out; omega)).trans (by omega)), trivial⟩ ?_
        refine dF ?_
        try simp only [puts, Tk.put, Act.put, List.setIfInBounds_toArray, List.set_cons_zero, List.set_cons_succ]
        go_wp2_with fail
        go_roundw
        case rel => exact ⟨j + 1, HJ.out, rfl, by rw [take_anyG HXl.out, HN.out]; exact Hhb1.out, hM⟩
        case measure => have := HJ.out; simp [intOf]; omega
      | true =>
        have Hhb1 := Lib.hid hb1
        clear hb1
        go_upto_region 5 with fail
        refine wp_region_fromM (fun W => Sep w [] [] W) hM ?_
        clear hM
        rintro Y8 hM
        refine tF 2 [.val 0 (some 17) (.int .i64 (j : Int)), .val 1 (some 4) (.int .i64 (j : Int))] trivial ?_
        refine dF ?_
        try simp only [puts, Tk.put, Act.put, List.setIfInBounds_toArray, List.set_cons_zero, List.set_cons_succ]
        go_wp2_with fail
        go_ret
        exact ⟨by rw [idxG_at (p := (fun x => !fitP (plP x))) HXl.out Hhb1.out HN.out]; rfl, hM.b⟩
    case neg =>
      obtain rfl : j = l.length := by omega
      go_upto_region 2 with fail
      refine wp_region_fromM (fun W => Sep w [] [] W) hM ?_
      clear hM
      rintro Y9 hM
      refine tF 1 [.alt 0 (some 9) (.bool (decide ((l.length : Int) < (l.length : Int)))) (.bool false)] ⟨congrArg Value.bool (decide_eq_false (by omega)), trivial⟩ ?_
      refine dF ?_
      try simp only [puts, Tk.put, Act.put, List.setIfInBounds_toArray, List.set_cons_zero, List.set_cons_succ]
      go_upto_region 7 with fail
      refine wp_region_fromM (fun W => Sep w [] [] W) hM ?_
      clear hM
      rintro Y10 hM
      refine tF 1 [.val 0 (some 4) (.int .i64 (-1))] trivial ?_
      refine dF ?_
      try simp only [puts, Tk.put, Act.put, List.setIfInBounds_toArray, List.set_cons_zero, List.set_cons_succ]
      go_wp2_with fail
      go_ret
      exact ⟨by rw [idxG_not HN.out]; rfl, hM.b⟩
set_option maxRecDepth 100000 in
set_option maxHeartbeats 4000000 in
theorem chk1_con (l : List Sp) (v : Value) (w : World) {lo hi : Nat} (hl : RSl spc lo hi w v l) (hhi : hi ≤ w.heap.size) : Calls Try.prog 11 #[v, .func (.func 12) #[] #[]] w fun e W' => e = .returned (.bool (l.any (fun x => !fitP (plP x)))) ∧ Below w.heap.size w W' := by
  have hmx : Try.prog.follows .mixedOrders = true := by kernel_rfl
  have HEl := Lib.hid (fun k x (hx : l[k]? = some x) => hl.elem spc_len hx Try.underlying22 (fun W => by kernel_rfl))
  obtain ⟨pl, cl, rfl⟩ := hl.slice
  have HLl := Lib.hid hl
  have HHl := Lib.hid hhi
  have HLENl := Lib.hid (show l.length ≤ 9223372036854775807 from by have h := hl.len; unfold maxLen at h; omega)
  clear hl hhi
  have hM := Sep.start w
  go_enter Try.func11, Try.ntmps11
  go_upto_region 0 with fail
  refine wp_region_fromM (fun W => Sep w [] [] W) hM ?_
  clear hM
  rintro Y1 hM
  refine tF 1 [.val 0 (some 4) (.bool false)] trivial ?_
  refine dF ?_
  try simp only [puts, Tk.put, Act.put, List.setIfInBounds_toArray, List.set_cons_zero, List.set_cons_succ]
  go_upto_region 1 with fail
  refine wp_region_fromM (fun W => Sep w [] [] W) hM ?_
  clear hM
  rintro Y2 hM
  refine tF 2 [.val 0 (some 5) (.slice pl l.length cl), .val 1 (some 6) (.func (.func 12) #[] #[])] trivial ?_
  refine cF (some 7) 20 #[.slice pl l.length cl, .func (.func 12) #[] #[]] ((chk1_idx l _ _ (HLl.out.below hM.b HHl.out) (Nat.le_trans HHl.out hM.size)).mono ?_)
  rintro e Y3 ⟨rfl, hb⟩
  replace hM := hM.below hb
  clear hb
  refine tF 5 [.alt 3 (some 8) (.bool (decide (0 ≤ (idxG (fun x => !fitP (plP x)) l)))) (.bool (l.any (fun x => !fitP (plP x)))), .val 4 (some 4) (.bool (l.any (fun x => !fitP (plP x))))] ⟨congrArg Value.bool (idxG_any (fun x => !fitP (plP x)) l), trivial⟩ ?_
  refine dF ?_
  try simp only [puts, Tk.put, Act.put, List.setIfInBounds_toArray, List.set_cons_zero, List.set_cons_succ]
  go_wp2_with fail
  go_ret
  exact ⟨rfl, hM.b⟩
set_option maxRecDepth 100000 in
set_option maxHeartbeats 4000000 in
theorem chk2_idx (l : List Sp) (v : Value) (w : World) {lo hi : Nat} (hl : RSl spc lo hi w v l) (hhi : hi ≤ w.heap.size) : Calls Try.prog 20 #[v, .func (.func 14) #[] #[]] w fun e W' => e = .returned (.int .i64 (idxG (fun x => longP (plP x)) l)) ∧ Below w.heap.size w W' := by
  have hmx : Try.prog.follows .mixedOrders = true := by kernel_rfl
  have HEl := Lib.hid (fun k x (hx : l[k]? = some x) => hl.elem spc_len hx Try.underlying22 (fun W => by kernel_rfl))
  obtain ⟨pl, cl, rfl⟩ := hl.slice
  have HLl := Lib.hid hl
  have HHl := Lib.hid hhi
  have HLENl := Lib.hid (show l.length ≤ 9223372036854775807 from by have h := hl.len; unfold maxLen at h; omega)
  clear hl hhi
  have hM := Sep.start w
  go_enter Try.func20, Try.ntmps20
  go_upto_region 0 with fail
  refine wp_region_fromM (fun W => Sep w [] [] W) hM ?_
  clear hM
  rintro Y1 hM
  refine tF 1 [.val 0 (some 4) (.int .i64 0)] trivial ?_
  refine dF ?_
  try simp only [puts, Tk.put, Act.put, List.setIfInBounds_toArray, List.set_cons_zero, List.set_cons_succ]
  go_upto_region 1 with fail
  refine wp_region_fromM (fun W => Sep w [] [] W) hM ?_
  clear hM
  rintro Y2 hM
  refine tF 3 [.val 0 (some 6) (.slice pl l.length cl), .val 1 (some 7) (.int .i64 (l.length : Int)), .val 2 (some 8) (.int .i64 0)] trivial ?_
  refine dF ?_
  try simp only [puts, Tk.put, Act.put, List.setIfInBounds_toArray, List.set_cons_zero, List.set_cons_succ]
  go_wp2_with fail
  go_loopw [5, 8] (fun _ i wr => ∃ j : Nat, j ≤ l.length ∧ i = .int .i64 (j : Int) ∧ (l.take j).any (fun x => longP (plP x)) = false ∧ Sep w [] [] wr) (fun _ i _ => l.length - (intOf i).toNat)
  case atStart => exact ⟨0, Nat.zero_le _, rfl, rfl, hM⟩
  clear hM
  case round =>
    obtain ⟨j, hj, rfl, hno, hM⟩ := hrel
    have HN := Lib.hid hno
    clear hno
    by_cases hlt : j < l.length
    case pos =>
      obtain ⟨x, hx⟩ : ∃ x, l[j]? = some x := ⟨_, List.getElem?_eq_getElem hlt⟩
      obtain ⟨bl, ol, _, _, hit, hct⟩ := HEl.out j x hx
      have HXl := Lib.hid hx
      have HIl := Lib.hid hit
      have HCl := Lib.hid hct
      clear hx hit hct
      have HJ := Lib.hid hlt
      have hlt' : (j : Int) < (l.length : Int) := by omega
      clear hlt
      go_upto_region 2 with fail
      refine wp_region_fromM (fun W => Sep w [] [] W) hM ?_
      clear hM
      rintro Y3 hM
      refine tF 1 [.alt 0 (some 9) (.bool (decide ((j : Int) < (l.length : Int)))) (.bool true)] ⟨congrArg Value.bool (decide_eq_true hlt'), trivial⟩ ?_
      refine dF ?_
      try simp only [puts, Tk.put, Act.put, List.setIfInBounds_toArray, List.set_cons_zero, List.set_cons_succ]
      go_upto_region 3 with fail
      refine wp_region_fromM (fun W => Sep w [] [] W) hM ?_
      clear hM
      rintro Y4 hM
      refine tF 2 [.val 0 (some 10) (.int .i64 (j : Int)), .val 1 (some 5) (.int .i64 (j : Int))] trivial ?_
      refine dF ?_
      try simp only [puts, Tk.put, Act.put, List.setIfInBounds_toArray, List.set_cons_zero, List.set_cons_succ]
      go_upto_region 4 with fail
      refine wp_region_fromM (fun W => Sep w [] [] W) hM ?_
      clear hM
      rintro Y5 hM
      refine tF 5 [.val 0 (some 11) (.func (.func 14) #[] #[]), .val 1 (some 12) (.slice pl l.length cl), .val 2 (some 13) (.int .i64 (j : Int)), .idx 3 (some 14) 22 (.slice pl l.length cl) (.int .i64 (j : Int)) (pt bl ol), .load 4 (some 15) 33 (pt bl ol) (spv x)] ⟨HIl.out _, ld_cells (spc x) _ _ Try.underlying33 rfl (by kernel_rfl) (HCl.out _ (HLl.out.below hM.b HHl.out)), trivial⟩ ?_
      refine cF (some 16) 14 #[spv x] ((chk2_any x _).mono ?_)
      rintro e Y6 ⟨rfl, hb⟩
      replace hM := hM.below hb
      clear hb
      refine dF ?_
      try simp only [puts, Tk.put, Act.put, List.setIfInBounds_toArray, List.set_cons_zero, List.set_cons_succ]
      cases hb1 : longP (plP x) with
      | false =>
        have Hhb1 := Lib.hid hb1
        clear hb1
        go_upto_region 6 with fail
        refine wp_region_fromM (fun W => Sep w [] [] W) hM ?_
        clear hM
        rintro Y7 hM
        refine tF 2 [.alt 0 (some 18) (.int .i64 (IntKind.i64.wrap ((j : Int) + 1))) (.int .i64 ((j + 1 : Nat) : Int)), .val 1 (some 8) (.int .i64 ((j + 1 : Nat) : Int))] ⟨congrArg (Value.int .i64) ((IntWalk.i64_in _ (by have := HLENl.out; have := HJ.out; omega)).trans (by omega)), trivial⟩ ?_
        refine dF ?_
        try simp only [puts, Tk.put, Act.put, List.setIfInBounds_toArray, List.set_cons_zero, List.set_cons_succ]
        go_wp2_with fail
        go_roundw
        case rel => exact ⟨j + 1, HJ.out, rfl, by rw [take_anyG HXl.out, HN.out]; exact Hhb1.out, hM⟩
        case measure => have := HJ.out; simp [intOf]; omega
      | true =>
        have Hhb1 := Lib.hid hb1
        clear hb1
        go_upto_region 5 with fail
        refine wp_region_fromM (fun W => Sep w [] [] W) hM ?_
        clear hM
        rintro Y8 hM
        refine tF 2 [.val 0 (some 17) (.int .i64 (j : Int)), .val 1 (some 4) (.int .i64 (j : Int))] trivial ?_
        refine dF ?_
        try simp only [puts, Tk.put, Act.put, List.setIfInBounds_toArray, List.set_cons_zero, List.set_cons_succ]
        go_wp2_with fail
        go_ret
        exact ⟨by rw [idxG_at (p := (fun x => longP (plP x))) HXl.out Hhb1.out HN.out]; rfl, hM.b⟩
    case neg =>
      obtain rfl : j = l.length := by omega
      go_upto_region 2 with fail
      refine wp_region_fromM (fun W => Sep w [] [] W) hM ?_
      clear hM
      rintro Y9 hM
      refine tF 1 [.alt 0 (some 9) (.bool (decide ((l.length : Int) < (l.length : Int)))) (.bool false)] ⟨congrArg Value.bool (decide_eq_false (by omega)), trivial⟩ ?_
      refine dF ?_
      try simp only [puts, Tk.put, Act.put, List.setIfInBounds_toArray, List.set_cons_zero, List.set_cons_succ]
      go_upto_region 7 with fail
      refine wp_region_fromM (fun W => Sep w [] [] W) hM ?_
      clear hM
      rintro Y10 hM
      refine tF 1 [.val 0 (some 4) (.int .i64 (-1))] trivial ?_
      refine dF ?_
      try simp only [puts, Tk.put, Act.put, List.setIfInBounds_toArray, List.set_cons_zero, List.set_cons_succ]
      go_wp2_with fail
      go_ret
      exact ⟨by rw [idxG_not HN.out]; rfl, hM.b⟩
set_option maxRecDepth 100000 in
set_option maxHeartbeats 4000000 in
theorem chk2_con (l : List Sp) (v : Value) (w : World) {lo hi : Nat} (hl : RSl spc lo hi w v l) (hhi : hi ≤ w.heap.size) : Calls Try.prog 11 #[v, .func (.func 14) #[] #[]] w fun e W' => e = .returned (.bool (l.any (fun x => longP (plP x)))) ∧ Below w.heap.size w W' := by
  have hmx : Try.prog.follows .mixedOrders = true := by kernel_rfl
  have HEl := Lib.hid (fun k x (hx : l[k]? = some x) => hl.elem spc_len hx Try.underlying22 (fun W => by kernel_rfl))
  obtain ⟨pl, cl, rfl⟩ := hl.slice
  have HLl := Lib.hid hl
  have HHl := Lib.hid hhi
  have HLENl := Lib.hid (show l.length ≤ 9223372036854775807 from by have h := hl.len; unfold maxLen at h; omega)
  clear hl hhi
  have hM := Sep.start w
  go_enter Try.func11, Try.ntmps11
  go_upto_region 0 with fail
  refine wp_region_fromM (fun W => Sep w [] [] W) hM ?_
  clear hM
  rintro Y1 hM
  refine tF 1 [.val 0 (some 4) (.bool false)] trivial ?_
  refine dF ?_
  try simp only [puts, Tk.put, Act.put, List.setIfInBounds_toArray, List.set_cons_zero, List.set_cons_succ]
  go_upto_region 1 with fail
  refine wp_region_fromM (fun W => Sep w [] [] W) hM ?_
  clear hM
  rintro Y2 hM
  refine tF 2 [.val 0 (some 5) (.slice pl l.length cl), .val 1 (some 6) (.func (.func 14) #[] #[])] trivial ?_
  refine cF (some 7) 20 #[.slice pl l.length cl, .func (.func 14) #[] #[]] ((chk2_idx l _ _ (HLl.out.below hM.b HHl.out) (Nat.le_trans HHl.out hM.size)).mono ?_)
  rintro e Y3 ⟨rfl, hb⟩
  replace hM := hM.below hb
  clear hb
  refine tF 5 [.alt 3 (some 8) (.bool (decide (0 ≤ (idxG (fun x => longP (plP x)) l)))) (.bool (l.any (fun x => longP (plP x)))), .val 4 (some 4) (.bool (l.any (fun x => longP (plP x))))] ⟨congrArg Value.bool (idxG_any (fun x => longP (plP x)) l), trivial⟩ ?_
  refine dF ?_
  try simp only [puts, Tk.put, Act.put, List.setIfInBounds_toArray, List.set_cons_zero, List.set_cons_succ]
  go_wp2_with fail
  go_ret
  exact ⟨rfl, hM.b⟩
set_option maxRecDepth 100000 in
set_option maxHeartbeats 4000000 in
theorem check_any (l : List Sp) (v : Value) (w : World) {lo hi : Nat} (hl : RSl spc lo hi w v l) (hhi : hi ≤ w.heap.size) : Calls Try.prog 8 #[v] w fun e W' => e = .returned (.int .i64 (chkP (l.map plP))) ∧ Below w.heap.size w W' := by
  have hmx : Try.prog.follows .mixedOrders = true := by kernel_rfl
  have HEl := Lib.hid (fun k x (hx : l[k]? = some x) => hl.elem spc_len hx Try.underlying22 (fun W => by kernel_rfl))
  obtain ⟨pl, cl, rfl⟩ := hl.slice
  have HLl := Lib.hid hl
  have HHl := Lib.hid hhi
  have HLENl := Lib.hid (show l.length ≤ 9223372036854775807 from by have h := hl.len; unfold maxLen at h; omega)
  clear hl hhi
  have hM := Sep.start w
  go_enter Try.func8, Try.ntmps8
  go_upto_region 0 with fail
  refine wp_region_fromM (fun W => Sep w [] [] W) hM ?_
  clear hM
  rintro Y1 hM
  refine tF 1 [.val 0 (some 2) (.int .i64 0)] trivial ?_
  refine dF ?_
  try simp only [puts, Tk.put, Act.put, List.setIfInBounds_toArray, List.set_cons_zero, List.set_cons_succ]
  go_upto_region 1 with fail
  refine wp_region_fromM (fun W => Sep w [] [] W) hM ?_
  clear hM
  rintro Y2 hM
  refine tF 4 [.val 0 (some 4) (.slice pl l.length cl), .val 1 (some 5) (.int .i64 (l.length : Int)), .val 2 (some 6) (.bool (decide (512 < (l.length : Int)))), .val 3 (some 3) (.bool (decide (512 < (l.length : Int))))] trivial ?_
  refine dF ?_
  try simp only [puts, Tk.put, Act.put, List.setIfInBounds_toArray, List.set_cons_zero, List.set_cons_succ]
  cases hb1 : decide (512 < (l.length : Int)) with
  | false =>
    have Hhb1 := Lib.hid hb1
    clear hb1
    go_upto_region 3 with fail
    refine wp_region_fromM (fun W => Sep w [] [] W) hM ?_
    clear hM
    rintro Y3 hM
    refine tF 1 [.val 0 (some 8) (.slice pl l.length cl)] trivial ?_
    refine cF (some 9) 11 #[.slice pl l.length cl, .func (.func 12) #[] #[]] ((chk1_con l _ _ (HLl.out.below hM.b HHl.out) (Nat.le_trans HHl.out hM.size)).mono ?_)
    rintro e Y4 ⟨rfl, hb⟩
    replace hM := hM.below hb
    clear hb
    refine tF 3 [.val 2 (some 7) (.bool (l.any (fun x => !fitP (plP x))))] trivial ?_
    refine dF ?_
    try simp only [puts, Tk.put, Act.put, List.setIfInBounds_toArray, List.set_cons_zero, List.set_cons_succ]
    cases hb2 : l.any (fun x => !fitP (plP x)) with
    | false =>
      have Hhb2 := Lib.hid hb2
      clear hb2
      go_upto_region 5 with fail
      refine wp_region_fromM (fun W => Sep w [] [] W) hM ?_
      clear hM
      rintro Y5 hM
      refine tF 1 [.val 0 (some 11) (.slice pl l.length cl)] trivial ?_
      refine cF (some 12) 11 #[.slice pl l.length cl, .func (.func 14) #[] #[]] ((chk2_con l _ _ (HLl.out.below hM.b HHl.out) (Nat.le_trans HHl.out hM.size)).mono ?_)
      rintro e Y6 ⟨rfl, hb⟩
      replace hM := hM.below hb
      clear hb
      refine tF 3 [.val 2 (some 10) (.bool (l.any (fun x => longP (plP x))))] trivial ?_
      refine dF ?_
      try simp only [puts, Tk.put, Act.put, List.setIfInBounds_toArray, List.set_cons_zero, List.set_cons_succ]
      cases hb3 : l.any (fun x => longP (plP x)) with
      | false =>
        have Hhb3 := Lib.hid hb3
        clear hb3
        go_upto_region 7 with fail
        refine wp_region_fromM (fun W => Sep w [] [] W) hM ?_
        clear hM
        rintro Y7 hM
        refine tF 1 [.val 0 (some 2) (.int .i64 0)] trivial ?_
        refine dF ?_
        try simp only [puts, Tk.put, Act.put, List.setIfInBounds_toArray, List.set_cons_zero, List.set_cons_succ]
        have hq : chkP (l.map plP) = 0 := by unfold chkP; rw [if_neg (by rw [List.length_map]; have h := of_decide_eq_false Hhb1.out; omega), if_neg (by rw [show (l.map plP).any (fun s => !fitP s) = false from (any_plP (fun s => !fitP s) l).symm.trans Hhb2.out]; decide), if_neg (by rw [show (l.map plP).any longP = false from (any_plP longP l).symm.trans Hhb3.out]; decide)]
        go_wp2_with fail
        go_ret
        exact ⟨by rw [hq]; rfl, hM.b⟩
      | true =>
        have Hhb3 := Lib.hid hb3
        clear hb3
        go_upto_region 6 with fail
        refine wp_region_fromM (fun W => Sep w [] [] W) hM ?_
        clear hM
        rintro Y8 hM
        refine tF 1 [.val 0 (some 2) (.int .i64 5)] trivial ?_
        refine dF ?_
        try simp only [puts, Tk.put, Act.put, List.setIfInBounds_toArray, List.set_cons_zero, List.set_cons_succ]
        have hq : chkP (l.map plP) = 5 := by unfold chkP; rw [if_neg (by rw [List.length_map]; have h := of_decide_eq_false Hhb1.out; omega), if_neg (by rw [show (l.map plP).any (fun s => !fitP s) = false from (any_plP (fun s => !fitP s) l).symm.trans Hhb2.out]; decide), if_pos ((any_plP longP l).symm.trans Hhb3.out)]
        go_wp2_with fail
        go_ret
        exact ⟨by rw [hq]; rfl, hM.b⟩
    | true =>
      have Hhb2 := Lib.hid hb2
      clear hb2
      go_upto_region 4 with fail
      refine wp_region_fromM (fun W => Sep w [] [] W) hM ?_
      clear hM
      rintro Y9 hM
      refine tF 1 [.val 0 (some 2) (.int .i64 4)] trivial ?_
      refine dF ?_
      try simp only [puts, Tk.put, Act.put, List.setIfInBounds_toArray, List.set_cons_zero, List.set_cons_succ]
      have hq : chkP (l.map plP) = 4 := by unfold chkP; rw [if_neg (by rw [List.length_map]; have h := of_decide_eq_false Hhb1.out; omega), if_pos ((any_plP (fun s => !fitP s) l).symm.trans Hhb2.out)]
      go_wp2_with fail
      go_ret
      exact ⟨by rw [hq]; rfl, hM.b⟩
  | true =>
    have Hhb1 := Lib.hid hb1
    clear hb1
    go_upto_region 2 with fail
    refine wp_region_fromM (fun W => Sep w [] [] W) hM ?_
    clear hM
    rintro Y10 hM
    refine tF 1 [.val 0 (some 2) (.int .i64 3)] trivial ?_
    refine dF ?_
    try simp only [puts, Tk.put, Act.put, List.setIfInBounds_toArray, List.set_cons_zero, List.set_cons_succ]
    have hq : chkP (l.map plP) = 3 := by unfold chkP; rw [if_pos (by rw [List.length_map]; have h := of_decide_eq_true Hhb1.out; omega)]
    go_wp2_with fail
    go_ret
    exact ⟨by rw [hq]; rfl, hM.b⟩
end Go.Proofs.Ytakeickgjplahaa
