/-
  A world of which all parties are corrupted: it is made, it lets steps of no kind go by
-/
import Derived.Deep.Cut
import Derived.Deep.CutBlock
import Derived.LoopTactic
import Derived.Test.YtemknjnljciioaaGreatK11
namespace Go.Proofs.YtemknjnljciioaaGreat
open Go.RowKit Go.Shelf
attribute [local irreducible] wpFrom wpAnyH StepH
structure Su where
  de : Int
  sk : Int
  co : Int
  ro : Int
def suc (s : Su) : List Value := [.int .i64 s.de, .int .i64 s.sk, .int .i64 s.co, .int .i64 s.ro]
abbrev suv (s : Su) : Value := .agg (suc s).toArray
def pac (a b c : Nat) : List Value := [.int .i64 0, .int .i64 0, .int .i64 0, .int .i64 0, .bool false, .bool false, .bool false, .bool false, .map (some a), .map (some b), .map (some c), .bool false, .bool false]
def wdc (p q : Value) (a b c : Nat) : List Value := [.int .i64 1, .int .i64 0, .int .i64 31, .int .i64 0, .int .i64 0, p, .int .i64 0, q, .int .i64 0, .nilIface, .nilIface, .nilIface, .nilIface, .nilIface, .slice none 0 0, .int .i64 0, .int .i64 0] ++ pac a b c
def wtB (n a b : Int) : Bool := decide (a ≤ n) && decide (n ≤ b)
theorem lv_pa {W : World} {B : Nat} {T : TypeId} {a b c : Nat} (h : Blk W B T (pac a b c)) : (loadVar 62 ⟨B, 0, none⟩).run Tryz.prog W = .ok (.agg (pac a b c).toArray) W := run_loadVar_row W B T _ (pac a b c).toArray (0, 0) _ h Tryz.underlying62 rfl (by kernel_rfl)
def NoPs (w : World) (e : Ending) (W' : World) : Prop := ∃ a b c, e = .returned (.agg (pac a b c).toArray) ∧ Below w.heap.size w W'
structure Wo where
  X : Nat
  a : Nat
  b : Nat
  c : Nat
  P : Nat
  v : Value
  pv : Value
  q : Value
  bs : List Nat
  Q : Nat
  v2 : Value
  pv2 : Value
  q2 : Value
  bs2 : List Nat
def woR (o : Wo) : List Res := [.blk o.X 74 (wdc (.pointer (some ⟨o.P, 0, none⟩)) (.pointer (some ⟨o.Q, 0, none⟩)) o.a o.b o.c), .join (CHR o.P (newC 0 1000) o.v o.pv o.q o.bs), .join (CHR o.Q (newC 1 1000) o.v2 o.pv2 o.q2 o.bs2)]
def NewWo (w : World) (e : Ending) (W' : World) : Prop := ∃ o : Wo, e = .returned (.tuple #[.pointer (some ⟨o.X, 0, none⟩), .int .i64 0]) ∧ Sep w [] (woR o) W'
def StW (o : Wo) (a : Value) (w : World) (e : Ending) (W' : World) : Prop := e = .returned a ∧ RTurn (.join (woR o)) (.join (woR o)) w W'
def NwW (o : Wo) (w : World) (e : Ending) (W' : World) : Prop := ∃ p n, e = .returned (.slice p 0 n) ∧ RTurn (.join (woR o)) (.join (woR o)) w W'
set_option maxRecDepth 100000 in
set_option maxHeartbeats 4000000 in
theorem within_any (n a b : Int) (w : World) : Calls Tryz.prog 47 #[.int .i64 n, .int .i64 a, .int .i64 b] w fun e W' => e = .returned (.bool (wtB n a b)) ∧ Below w.heap.size w W' := by
  have hmx : Tryz.prog.follows .mixedOrders = true := by kernel_rfl
  have hM := Sep.start w
  go_enter Tryz.func47, Tryz.ntmps47
  go_upto_region 0 with fail
  refine wp_region_fromM (fun W => Sep w [] [] W) hM ?_
  clear hM
  rintro Y1 hM
  refine tF 1 [.val 0 (some 6) (.bool false)] trivial ?_
  refine dF ?_
  try simp only [puts, Tk.put, Act.put, List.setIfInBounds_toArray, List.set_cons_zero, List.set_cons_succ]
  go_upto_region 1 with fail
  refine wp_region_fromM (fun W => Sep w [] [] W) hM ?_
  clear hM
  rintro Y2 hM
  refine tF 4 [.val 0 (some 7) (.int .i64 n), .val 1 (some 8) (.int .i64 a), .val 2 (some 9) (.bool (decide (a ≤ n))), .val 3 (some 10) (.bool (decide (a ≤ n)))] trivial ?_
  cases hb1 : decide (a ≤ n) with
  | false =>
    have Hhb1 := Lib.hid hb1
    clear hb1
    refine tF 9 [.skip 4 (some 11), .skip 5 (some 12), .skip 6 (some 13), .val 7 (some 14) (.bool false), .val 8 (some 6) (.bool false)] trivial ?_
    refine dF ?_
    try simp only [puts, Tk.put, Act.put, List.setIfInBounds_toArray, List.set_cons_zero, List.set_cons_succ]
    go_wp2_with fail
    go_ret
    exact ⟨by rw [show wtB n a b = (decide (a ≤ n) && decide (n ≤ b)) from rfl, Hhb1.out]; rfl, hM.b⟩
  | true =>
    have Hhb1 := Lib.hid hb1
    clear hb1
    refine tF 9 [.val 4 (some 11) (.int .i64 n), .val 5 (some 12) (.int .i64 b), .val 6 (some 13) (.bool (decide (n ≤ b))), .val 7 (some 14) (.bool (decide (n ≤ b))), .val 8 (some 6) (.bool (decide (n ≤ b)))] trivial ?_
    refine dF ?_
    try simp only [puts, Tk.put, Act.put, List.setIfInBounds_toArray, List.set_cons_zero, List.set_cons_succ]
    go_wp2_with fail
    go_ret
    exact ⟨by rw [show wtB n a b = (decide (a ≤ n) && decide (n ≤ b)) from rfl, Hhb1.out]; rfl, hM.b⟩
set_option maxRecDepth 100000 in
set_option maxHeartbeats 4000000 in
theorem sound_31 (w : World) : Calls Tryz.prog 20 #[suv (Su.mk 1 0 31 0)] w fun e W' => e = .returned (.bool true) ∧ Below w.heap.size w W' := by
  have hmx : Tryz.prog.follows .mixedOrders = true := by kernel_rfl
  have hM := Sep.start w
  go_enter Tryz.func20, Tryz.ntmps20
  go_upto_region 0 with fail
  refine wp_region_fromM (fun W => Sep w [] [] W) hM ?_
  clear hM
  rintro Y1 hM
  refine rF (some 1) (pt Y1.heap.size 0) (Y1.alloc (.cells (suc (Su.mk 1 0 31 0)).toArray 35)) ?_
  replace hM := hM.alloc 35 (suc (Su.mk 1 0 31 0))
  generalize World.alloc _ _ = Y2 at *
  generalize hNe : Y1.heap.size = N2 at *
  clear hNe
  refine tF 2 [.val 1 (some 2) (.bool false)] trivial ?_
  refine dF ?_
  try simp only [puts, Tk.put, Act.put, List.setIfInBounds_toArray, List.set_cons_zero, List.set_cons_succ]
  go_upto_region 1 with fail
  refine wp_region_fromM (fun W => Sep w [] [.blk N2 35 (suc (Su.mk 1 0 31 0))] W) hM ?_
  clear hM
  rintro Y3 hM
  refine tF 2 [.val 0 (some 3) (pt N2 0), .load 1 (some 4) 3 (pt N2 0) (.int .i64 1)] ⟨ld_any _ _ Tryz.underlying3 rfl (hM.at 0 rfl) 0 rfl, trivial⟩ ?_
  refine cF (some 5) 47 #[.int .i64 1, .int .i64 1, .int .i64 4] ((within_any 1 1 4 _).mono ?_)
  rintro e Y4 ⟨rfl, hb⟩
  replace hM := hM.below hb
  clear hb
  refine tF 4 [.val 3 (some 6) (.bool (wtB 1 1 4))] trivial ?_
  rw [show (wtB 1 1 4) = true from by decide]
  refine tF 6 [.val 4 (some 7) (pt N2 1), .load 5 (some 8) 3 (pt N2 1) (.int .i64 0)] ⟨ld_any _ _ Tryz.underlying3 rfl (hM.at 0 rfl) 1 rfl, trivial⟩ ?_
  refine cF (some 9) 47 #[.int .i64 0, .int .i64 (-100), .int .i64 100] ((within_any 0 (-100) 100 _).mono ?_)
  rintro e Y5 ⟨rfl, hb⟩
  replace hM := hM.below hb
  clear hb
  refine tF 9 [.val 7 (some 10) (.bool (wtB 0 (-100) 100)), .val 8 (some 11) (.bool (wtB 0 (-100) 100))] trivial ?_
  rw [show (wtB 0 (-100) 100) = true from by decide]
  refine tF 11 [.val 9 (some 12) (pt N2 2), .load 10 (some 13) 3 (pt N2 2) (.int .i64 31)] ⟨ld_any _ _ Tryz.underlying3 rfl (hM.at 0 rfl) 2 rfl, trivial⟩ ?_
  refine cF (some 14) 47 #[.int .i64 31, .int .i64 0, .int .i64 31] ((within_any 31 0 31 _).mono ?_)
  rintro e Y6 ⟨rfl, hb⟩
  replace hM := hM.below hb
  clear hb
  refine tF 14 [.val 12 (some 15) (.bool (wtB 31 0 31)), .val 13 (some 16) (.bool (wtB 31 0 31))] trivial ?_
  rw [show (wtB 31 0 31) = true from by decide]
  refine tF 16 [.val 14 (some 17) (pt N2 3), .load 15 (some 18) 3 (pt N2 3) (.int .i64 0)] ⟨ld_any _ _ Tryz.underlying3 rfl (hM.at 0 rfl) 3 rfl, trivial⟩ ?_
  refine cF (some 19) 47 #[.int .i64 0, .int .i64 0, .int .i64 65536] ((within_any 0 0 65536 _).mono ?_)
  rintro e Y7 ⟨rfl, hb⟩
  replace hM := hM.below hb
  clear hb
  refine tF 19 [.val 17 (some 20) (.bool (wtB 0 0 65536)), .val 18 (some 2) (.bool (wtB 0 0 65536))] trivial ?_
  refine dF ?_
  try simp only [puts, Tk.put, Act.put, List.setIfInBounds_toArray, List.set_cons_zero, List.set_cons_succ]
  go_wp2_with fail
  go_ret
  exact ⟨rfl, hM.b⟩
set_option maxRecDepth 100000 in
set_option maxHeartbeats 4000000 in
theorem corr_0 (w : World) : Calls Tryz.prog 23 #[suv (Su.mk 1 0 31 0), .int .i64 0] w fun e W' => e = .returned (.bool true) ∧ Below w.heap.size w W' := by
  have hmx : Tryz.prog.follows .mixedOrders = true := by kernel_rfl
  have hM := Sep.start w
  go_enter Tryz.func23, Tryz.ntmps23
  go_upto_region 0 with fail
  refine wp_region_fromM (fun W => Sep w [] [] W) hM ?_
  clear hM
  rintro Y1 hM
  refine rF (some 2) (pt Y1.heap.size 0) (Y1.alloc (.cells (suc (Su.mk 1 0 31 0)).toArray 35)) ?_
  replace hM := hM.alloc 35 (suc (Su.mk 1 0 31 0))
  generalize World.alloc _ _ = Y2 at *
  generalize hNe : Y1.heap.size = N2 at *
  clear hNe
  refine tF 2 [.val 1 (some 4) (.bool false)] trivial ?_
  refine dF ?_
  try simp only [puts, Tk.put, Act.put, List.setIfInBounds_toArray, List.set_cons_zero, List.set_cons_succ]
  go_upto_region 1 with fail
  refine wp_region_fromM (fun W => Sep w [] [.blk N2 35 (suc (Su.mk 1 0 31 0))] W) hM ?_
  clear hM
  rintro Y3 hM
  refine tF 7 [.val 0 (some 5) (pt N2 2), .load 1 (some 6) 3 (pt N2 2) (.int .i64 31), .val 2 (some 7) (.int .i64 0), .val 3 (some 8) (.int .i64 31), .val 4 (some 9) (.int .i64 1), .val 5 (some 10) (.bool true), .val 6 (some 4) (.bool true)] ⟨ld_any _ _ Tryz.underlying3 rfl (hM.at 0 rfl) 2 rfl, trivial⟩ ?_
  refine dF ?_
  try simp only [puts, Tk.put, Act.put, List.setIfInBounds_toArray, List.set_cons_zero, List.set_cons_succ]
  go_wp2_with fail
  go_ret
  exact ⟨rfl, hM.b⟩
set_option maxRecDepth 100000 in
set_option maxHeartbeats 4000000 in
theorem corr_1 (w : World) : Calls Tryz.prog 23 #[suv (Su.mk 1 0 31 0), .int .i64 1] w fun e W' => e = .returned (.bool true) ∧ Below w.heap.size w W' := by
  have hmx : Tryz.prog.follows .mixedOrders = true := by kernel_rfl
  have hM := Sep.start w
  go_enter Tryz.func23, Tryz.ntmps23
  go_upto_region 0 with fail
  refine wp_region_fromM (fun W => Sep w [] [] W) hM ?_
  clear hM
  rintro Y1 hM
  refine rF (some 2) (pt Y1.heap.size 0) (Y1.alloc (.cells (suc (Su.mk 1 0 31 0)).toArray 35)) ?_
  replace hM := hM.alloc 35 (suc (Su.mk 1 0 31 0))
  generalize World.alloc _ _ = Y2 at *
  generalize hNe : Y1.heap.size = N2 at *
  clear hNe
  refine tF 2 [.val 1 (some 4) (.bool false)] trivial ?_
  refine dF ?_
  try simp only [puts, Tk.put, Act.put, List.setIfInBounds_toArray, List.set_cons_zero, List.set_cons_succ]
  go_upto_region 1 with fail
  refine wp_region_fromM (fun W => Sep w [] [.blk N2 35 (suc (Su.mk 1 0 31 0))] W) hM ?_
  clear hM
  rintro Y3 hM
  refine tF 7 [.val 0 (some 5) (pt N2 2), .load 1 (some 6) 3 (pt N2 2) (.int .i64 31), .val 2 (some 7) (.int .i64 1), .val 3 (some 8) (.int .i64 15), .val 4 (some 9) (.int .i64 1), .val 5 (some 10) (.bool true), .val 6 (some 4) (.bool true)] ⟨ld_any _ _ Tryz.underlying3 rfl (hM.at 0 rfl) 2 rfl, trivial⟩ ?_
  refine dF ?_
  try simp only [puts, Tk.put, Act.put, List.setIfInBounds_toArray, List.set_cons_zero, List.set_cons_succ]
  go_wp2_with fail
  go_ret
  exact ⟨rfl, hM.b⟩
set_option maxRecDepth 100000 in
set_option maxHeartbeats 4000000 in
theorem corr_2 (w : World) : Calls Tryz.prog 23 #[suv (Su.mk 1 0 31 0), .int .i64 2] w fun e W' => e = .returned (.bool true) ∧ Below w.heap.size w W' := by
  have hmx : Tryz.prog.follows .mixedOrders = true := by kernel_rfl
  have hM := Sep.start w
  go_enter Tryz.func23, Tryz.ntmps23
  go_upto_region 0 with fail
  refine wp_region_fromM (fun W => Sep w [] [] W) hM ?_
  clear hM
  rintro Y1 hM
  refine rF (some 2) (pt Y1.heap.size 0) (Y1.alloc (.cells (suc (Su.mk 1 0 31 0)).toArray 35)) ?_
  replace hM := hM.alloc 35 (suc (Su.mk 1 0 31 0))
  generalize World.alloc _ _ = Y2 at *
  generalize hNe : Y1.heap.size = N2 at *
  clear hNe
  refine tF 2 [.val 1 (some 4) (.bool false)] trivial ?_
  refine dF ?_
  try simp only [puts, Tk.put, Act.put, List.setIfInBounds_toArray, List.set_cons_zero, List.set_cons_succ]
  go_upto_region 1 with fail
  refine wp_region_fromM (fun W => Sep w [] [.blk N2 35 (suc (Su.mk 1 0 31 0))] W) hM ?_
  clear hM
  rintro Y3 hM
  refine tF 7 [.val 0 (some 5) (pt N2 2), .load 1 (some 6) 3 (pt N2 2) (.int .i64 31), .val 2 (some 7) (.int .i64 2), .val 3 (some 8) (.int .i64 7), .val 4 (some 9) (.int .i64 1), .val 5 (some 10) (.bool true), .val 6 (some 4) (.bool true)] ⟨ld_any _ _ Tryz.underlying3 rfl (hM.at 0 rfl) 2 rfl, trivial⟩ ?_
  refine dF ?_
  try simp only [puts, Tk.put, Act.put, List.setIfInBounds_toArray, List.set_cons_zero, List.set_cons_succ]
  go_wp2_with fail
  go_ret
  exact ⟨rfl, hM.b⟩
set_option maxRecDepth 100000 in
set_option maxHeartbeats 4000000 in
theorem corr_3 (w : World) : Calls Tryz.prog 23 #[suv (Su.mk 1 0 31 0), .int .i64 3] w fun e W' => e = .returned (.bool true) ∧ Below w.heap.size w W' := by
  have hmx : Tryz.prog.follows .mixedOrders = true := by kernel_rfl
  have hM := Sep.start w
  go_enter Tryz.func23, Tryz.ntmps23
  go_upto_region 0 with fail
  refine wp_region_fromM (fun W => Sep w [] [] W) hM ?_
  clear hM
  rintro Y1 hM
  refine rF (some 2) (pt Y1.heap.size 0) (Y1.alloc (.cells (suc (Su.mk 1 0 31 0)).toArray 35)) ?_
  replace hM := hM.alloc 35 (suc (Su.mk 1 0 31 0))
  generalize World.alloc _ _ = Y2 at *
  generalize hNe : Y1.heap.size = N2 at *
  clear hNe
  refine tF 2 [.val 1 (some 4) (.bool false)] trivial ?_
  refine dF ?_
  try simp only [puts, Tk.put, Act.put, List.setIfInBounds_toArray, List.set_cons_zero, List.set_cons_succ]
  go_upto_region 1 with fail
  refine wp_region_fromM (fun W => Sep w [] [.blk N2 35 (suc (Su.mk 1 0 31 0))] W) hM ?_
  clear hM
  rintro Y3 hM
  refine tF 7 [.val 0 (some 5) (pt N2 2), .load 1 (some 6) 3 (pt N2 2) (.int .i64 31), .val 2 (some 7) (.int .i64 3), .val 3 (some 8) (.int .i64 3), .val 4 (some 9) (.int .i64 1), .val 5 (some 10) (.bool true), .val 6 (some 4) (.bool true)] ⟨ld_any _ _ Tryz.underlying3 rfl (hM.at 0 rfl) 2 rfl, trivial⟩ ?_
  refine dF ?_
  try simp only [puts, Tk.put, Act.put, List.setIfInBounds_toArray, List.set_cons_zero, List.set_cons_succ]
  go_wp2_with fail
  go_ret
  exact ⟨rfl, hM.b⟩
set_option maxRecDepth 100000 in
set_option maxHeartbeats 4000000 in
theorem corr_4 (w : World) : Calls Tryz.prog 23 #[suv (Su.mk 1 0 31 0), .int .i64 4] w fun e W' => e = .returned (.bool true) ∧ Below w.heap.size w W' := by
  have hmx : Tryz.prog.follows .mixedOrders = true := by kernel_rfl
  have hM := Sep.start w
  go_enter Tryz.func23, Tryz.ntmps23
  go_upto_region 0 with fail
  refine wp_region_fromM (fun W => Sep w [] [] W) hM ?_
  clear hM
  rintro Y1 hM
  refine rF (some 2) (pt Y1.heap.size 0) (Y1.alloc (.cells (suc (Su.mk 1 0 31 0)).toArray 35)) ?_
  replace hM := hM.alloc 35 (suc (Su.mk 1 0 31 0))
  generalize World.alloc _ _ = Y2 at *
  generalize hNe : Y1.heap.size = N2 at *
  clear hNe
  refine tF 2 [.val 1 (some 4) (.bool false)] trivial ?_
  refine dF ?_
  try simp only [puts, Tk.put, Act.put, List.setIfInBounds_toArray, List.set_cons_zero, List.set_cons_succ]
  go_upto_region 1 with fail
  refine wp_region_fromM (fun W => Sep w [] [.blk N2 35 (suc (Su.mk 1 0 31 0))] W) hM ?_
  clear hM
  rintro Y3 hM
  refine tF 7 [.val 0 (some 5) (pt N2 2), .load 1 (some 6) 3 (pt N2 2) (.int .i64 31), .val 2 (some 7) (.int .i64 4), .val 3 (some 8) (.int .i64 1), .val 4 (some 9) (.int .i64 1), .val 5 (some 10) (.bool true), .val 6 (some 4) (.bool true)] ⟨ld_any _ _ Tryz.underlying3 rfl (hM.at 0 rfl) 2 rfl, trivial⟩ ?_
  refine dF ?_
  try simp only [puts, Tk.put, Act.put, List.setIfInBounds_toArray, List.set_cons_zero, List.set_cons_succ]
  go_wp2_with fail
  go_ret
  exact ⟨rfl, hM.b⟩
set_option maxRecDepth 100000 in
set_option maxHeartbeats 4000000 in
theorem noPast_any (w : World) : Calls Tryz.prog 21 #[] w (NoPs w) := by
  have hmx : Tryz.prog.follows .mixedOrders = true := by kernel_rfl
  have hM := Sep.start w
  go_enter Tryz.func21, Tryz.ntmps21
  go_upto_region 0 with fail
  refine wp_region_fromM (fun W => Sep w [] [] W) hM ?_
  clear hM
  rintro Y1 hM
  refine rF (some 0) (pt Y1.heap.size 0) (Y1.alloc (.cells ([.int .i64 0, .int .i64 0, .int .i64 0, .int .i64 0, .bool false, .bool false, .bool false, .bool false, .map none, .map none, .map none, .bool false, .bool false]).toArray 62)) ?_
  replace hM := hM.alloc 62 ([.int .i64 0, .int .i64 0, .int .i64 0, .int .i64 0, .bool false, .bool false, .bool false, .bool false, .map none, .map none, .map none, .bool false, .bool false])
  generalize World.alloc _ _ = Y2 at *
  generalize hNe : Y1.heap.size = N2 at *
  clear hNe
  refine dF ?_
  try simp only [Act.put, List.setIfInBounds_toArray, List.set_cons_zero]
  go_upto_region 1 with fail
  refine wp_region_fromM (fun W => Sep w [] [.blk N2 62 ([.int .i64 0, .int .i64 0, .int .i64 0, .int .i64 0, .bool false, .bool false, .bool false, .bool false, .map none, .map none, .map none, .bool false, .bool false])] W) hM ?_
  clear hM
  rintro Y3 hM
  refine rF (some 1) (.map (some Y3.heap.size)) (Y3.alloc (.map #[] 0)) ?_
  replace hM := hM.other (.map #[] 0)
  generalize World.alloc _ _ = Y4 at *
  generalize hNe : Y3.heap.size = N4 at *
  clear hNe
  refine rF (some 2) (.map (some Y4.heap.size)) (Y4.alloc (.map #[] 0)) ?_
  replace hM := hM.other (.map #[] 0)
  generalize World.alloc _ _ = Y5 at *
  generalize hNe : Y4.heap.size = N5 at *
  clear hNe
  refine rF (some 3) (.map (some Y5.heap.size)) (Y5.alloc (.map #[] 0)) ?_
  replace hM := hM.other (.map #[] 0)
  generalize World.alloc _ _ = Y6 at *
  generalize hNe : Y5.heap.size = N6 at *
  clear hNe
  refine tF 4 [.val 3 (some 4) (.agg (pac N4 N5 N6).toArray)] trivial ?_
  have hst := sto_part (pac N4 N5 N6) (hM.at 0 rfl) 0 62 (.agg (pac N4 N5 N6).toArray) (pac N4 N5 N6) rfl (by kernel_rfl) (Nat.le_of_ble_eq_true rfl) rfl rfl
  refine sF 62 (pt N2 0) (.agg (pac N4 N5 N6).toArray) (hst) ?_
  clear hst
  replace hM := hM.set 0 (cs' := pac N4 N5 N6) rfl rfl
  generalize World.setRow _ _ _ = Y7 at *
  refine dF ?_
  try simp only [puts, Tk.put, Act.put, List.setIfInBounds_toArray, List.set_cons_zero, List.set_cons_succ]
  go_wp2_with fail
  exact bodyPost_ret (v := .agg (pac N4 N5 N6).toArray) (res_cell1 rfl _ rfl (lv_pa (hM.at 0 rfl))) rfl ⟨_, _, _, rfl, hM.b⟩
set_option maxRecDepth 100000 in
set_option maxHeartbeats 4000000 in
theorem newW_any (w : World) : Calls Tryz.prog 10 #[suv (Su.mk 1 0 31 0)] w (NewWo w) := by
  have hmx : Tryz.prog.follows .mixedOrders = true := by kernel_rfl
  have hM := Sep.start w
  go_enter Tryz.func10, Tryz.ntmps10
  go_upto_region 0 with fail
  refine wp_region_fromM (fun W => Sep w [] [] W) hM ?_
  clear hM
  rintro Y1 hM
  refine rF (some 1) (pt Y1.heap.size 0) (Y1.alloc (.cells (suc (Su.mk 1 0 31 0)).toArray 35)) ?_
  replace hM := hM.alloc 35 (suc (Su.mk 1 0 31 0))
  generalize World.alloc _ _ = Y2 at *
  generalize hNe : Y1.heap.size = N2 at *
  clear hNe
  refine tF 3 [.val 1 (some 2) (.pointer none), .val 2 (some 3) (.int .i64 0)] trivial ?_
  refine dF ?_
  try simp only [puts, Tk.put, Act.put, List.setIfInBounds_toArray, List.set_cons_zero, List.set_cons_succ]
  go_upto_region 1 with fail
  refine wp_region_fromM (fun W => Sep w [] [.blk N2 35 (suc (Su.mk 1 0 31 0))] W) hM ?_
  clear hM
  rintro Y3 hM
  refine tF 1 [.load 0 (some 7) 35 (pt N2 0) (suv (Su.mk 1 0 31 0))] ⟨load_part (hM.at 0 rfl) 0 (suc (Su.mk 1 0 31 0)) rfl _ _ Tryz.underlying35 rfl (by kernel_rfl), trivial⟩ ?_
  refine cF (some 8) 20 #[suv (Su.mk 1 0 31 0)] ((sound_31 _).mono ?_)
  rintro e Y4 ⟨rfl, hb⟩
  replace hM := hM.below hb
  clear hb
  refine tF 3 [.val 2 (some 9) (.bool false)] trivial ?_
  refine dF ?_
  try simp only [puts, Tk.put, Act.put, List.setIfInBounds_toArray, List.set_cons_zero, List.set_cons_succ]
  go_upto_region 3 with fail
  refine wp_region_M (fun W => Sep w [] [.blk N2 35 (suc (Su.mk 1 0 31 0))] W) (fun W => Sep w [] [.blk N2 35 (suc (Su.mk 1 0 31 0))] W) hmx hM.drew ?_
  clear hM
  rintro Y5 hM
  have hS := hM.sub (.cons_cons _ .slnil)
  refine tD 4 [.load 0 (some 10) 35 (pt N2 0) (suv (Su.mk 1 0 31 0))] ⟨fun W h => load_part (h.at 0 rfl) 0 (suc (Su.mk 1 0 31 0)) rfl _ _ Tryz.underlying35 rfl (by kernel_rfl), trivial⟩ hS ?_
  refine oD 1 3 (cD (some 11) 21 #[] ((noPast_any _).mono ?_))
  rintro e Y6 ⟨pa6, pb6, pc6, rfl, hb⟩
  refine And.intro (hS.below hb) ?_
  replace hS := hS.below hb
  replace hM := hM.below hb
  clear hb
  refine tD 2 [.val 2 (some 12) (.agg (wdc (.pointer none) (.pointer none) pa6 pb6 pc6).toArray)] trivial hS ?_
  refine oD 3 1 (rD (some 13) (pt Y6.heap.size 0) (Y6.alloc (.cells (wdc (.pointer none) (.pointer none) pa6 pb6 pc6).toArray 74)) (hS.other _) ?_)
  replace hS := hS.other (.cells (wdc (.pointer none) (.pointer none) pa6 pb6 pc6).toArray 74)
  replace hM := hM.alloc 74 (wdc (.pointer none) (.pointer none) pa6 pb6 pc6)
  generalize World.alloc _ _ = Y7 at *
  generalize hNe : Y6.heap.size = N7 at *
  clear hNe
  refine tD 0 [.val 4 (some 4) (pt N7 0)] trivial hS ?_
  refine dD ?_
  try simp only [puts, Tk.put, Act.put, List.setIfInBounds_toArray, List.set_cons_zero, List.set_cons_succ]
  clear hS
  go_upto_region 4 with fail
  refine wp_region_M (fun W => Sep w [] [.blk N2 35 (suc (Su.mk 1 0 31 0))] W) (fun W => Sep w [] [.blk N7 74 (wdc (.pointer none) (.pointer none) pa6 pb6 pc6), .blk N2 35 (suc (Su.mk 1 0 31 0))] W) hmx hM.drew ?_
  clear hM
  rintro Y8 hM
  have hS := hM.sub (.cons _ (.cons_cons _ .slnil))
  refine tD 4 [.val 0 (some 14) (pt N7 0), .val 2 (some 16) (pt N7 0), .val 3 (some 17) (pt N7 5)] trivial hS ?_
  refine oD 1 3 (cD (some 15) 22 #[.int .i64 0, .int .i64 1000] ((chnNew_any 0 1000 _).mono ?_))
  rintro e Y9 ⟨B9, v9, pv9, q9, bs9, rfl, hR⟩
  refine And.intro (hS.below hR.b) ?_
  replace hS := hS.below hR.b
  replace hM := hM.gain (Sep.close (ps := CHR B9 (newC 0 1000) v9 pv9 q9 bs9) (l := []) hR)
  clear hR
  refine tD 1 [.idx 4 (some 18) 67 (pt N7 5) (.int .i64 0) (pt N7 5), .val 5 (some 19) (pt N7 5)] ⟨fun W h => idx_arr (k := 0) (c := 2) (o := 5) Tryz.underlying67 (by kernel_rfl) (by decide), trivial⟩ hS ?_
  have hst := sto_part (wdc (pt B9 0) (.pointer none) pa6 pb6 pc6) (hM.at 1 rfl) 5 64 (pt B9 0) ([pt B9 0]) rfl (by kernel_rfl) (Nat.le_of_ble_eq_true rfl) rfl rfl
  have hM1 := hM.set 1 (cs' := wdc (pt B9 0) (.pointer none) pa6 pb6 pc6) rfl rfl
  refine oD 6 0 (sD 64 (pt N7 5) (pt B9 0) (hst) (hM1.sub (.cons _ (.cons _ (.cons_cons _ .slnil)))) ?_)
  clear hst
  replace hS := hM1.sub (.cons _ (.cons _ (.cons_cons _ .slnil)))
  replace hM := hM1
  clear hM1
  generalize World.setRow _ _ _ = Y10 at *
  refine dD ?_
  try simp only [puts, Tk.put, Act.put, List.setIfInBounds_toArray, List.set_cons_zero, List.set_cons_succ]
  clear hS
  go_upto_region 5 with fail
  refine wp_region_M (fun W => Sep w [] [.join (CHR B9 (newC 0 1000) v9 pv9 q9 bs9), .blk N2 35 (suc (Su.mk 1 0 31 0))] W) (fun W => Sep w [] [.join (CHR B9 (newC 0 1000) v9 pv9 q9 bs9), .blk N7 74 (wdc (pt B9 0) (.pointer none) pa6 pb6 pc6), .blk N2 35 (suc (Su.mk 1 0 31 0))] W) hmx hM.drew ?_
  clear hM
  rintro Y11 hM
  have hS := hM.sub (.cons_cons _ (.cons _ (.cons_cons _ .slnil)))
  refine tD 4 [.val 0 (some 20) (pt N7 0), .val 1 (some 21) (pt N2 1), .load 2 (some 22) 3 (pt N2 1) (.int .i64 0), .val 3 (some 23) (.int .i64 1000), .val 5 (some 25) (pt N7 0), .val 6 (some 26) (pt N7 5)] ⟨fun W h => ld_any _ _ Tryz.underlying3 rfl (h.at 1 rfl) 1 rfl, trivial⟩ hS ?_
  refine oD 4 3 (cD (some 24) 22 #[.int .i64 1, .int .i64 1000] ((chnNew_any 1 1000 _).mono ?_))
  rintro e Y12 ⟨B12, v12, pv12, q12, bs12, rfl, hR⟩
  refine And.intro (hS.below hR.b) ?_
  replace hS := hS.below hR.b
  replace hM := hM.gain (Sep.close (ps := CHR B12 (newC 1 1000) v12 pv12 q12 bs12) (l := []) hR)
  clear hR
  refine tD 1 [.idx 7 (some 27) 67 (pt N7 5) (.int .i64 1) (pt N7 7), .val 8 (some 28) (pt N7 7)] ⟨fun W h => idx_arr (k := 1) (c := 2) (o := 5) Tryz.underlying67 (by kernel_rfl) (by decide), trivial⟩ hS ?_
  have hst := sto_part (wdc (pt B9 0) (pt B12 0) pa6 pb6 pc6) (hM.at 2 rfl) 7 64 (pt B12 0) ([pt B12 0]) rfl (by kernel_rfl) (Nat.le_of_ble_eq_true rfl) rfl rfl
  have hM1 := hM.set 2 (cs' := wdc (pt B9 0) (pt B12 0) pa6 pb6 pc6) rfl rfl
  refine oD 9 0 (sD 64 (pt N7 7) (pt B12 0) (hst) (hM1.sub (.cons _ (.cons_cons _ (.cons _ (.cons_cons _ .slnil))))) ?_)
  clear hst
  replace hS := hM1.sub (.cons _ (.cons_cons _ (.cons _ (.cons_cons _ .slnil))))
  replace hM := hM1
  clear hM1
  generalize World.setRow _ _ _ = Y13 at *
  refine dD ?_
  try simp only [puts, Tk.put, Act.put, List.setIfInBounds_toArray, List.set_cons_zero, List.set_cons_succ]
  clear hS
  go_upto_region 6 with fail
  refine wp_region_fromM (fun W => Sep w [] [.join (CHR B12 (newC 1 1000) v12 pv12 q12 bs12), .join (CHR B9 (newC 0 1000) v9 pv9 q9 bs9), .blk N7 74 (wdc (pt B9 0) (pt B12 0) pa6 pb6 pc6), .blk N2 35 (suc (Su.mk 1 0 31 0))] W) hM ?_
  clear hM
  rintro Y14 hM
  refine tF 1 [.val 0 (some 29) (.int .i64 0)] trivial ?_
  refine dF ?_
  try simp only [puts, Tk.put, Act.put, List.setIfInBounds_toArray, List.set_cons_zero, List.set_cons_succ]
  go_wp2_with fail
  go_loopw [29] (fun i wr => ∃ j : Nat, (j = 0 ∨ j = 1 ∨ j = 2 ∨ j = 3 ∨ j = 4 ∨ j = 5) ∧ i = .int .i64 (j : Int) ∧ Sep w [] [.join (CHR B12 (newC 1 1000) v12 pv12 q12 bs12), .join (CHR B9 (newC 0 1000) v9 pv9 q9 bs9), .blk N7 74 (wdc (pt B9 0) (pt B12 0) pa6 pb6 pc6), .blk N2 35 (suc (Su.mk 1 0 31 0))] wr) (fun i _ => 5 - (intOf i).toNat)
  case atStart => exact ⟨0, .inl rfl, rfl, hM⟩
  clear hM
  case round =>
    obtain ⟨j, hq, hi, hM⟩ := hrel
    rcases hq with rfl | rfl | rfl | rfl | rfl | rfl
    case inl =>
      replace hi : _ = Value.int .i64 0 := hi
      subst hi
      go_upto_region 7 with fail
      refine wp_region_fromM (fun W => Sep w [] [.join (CHR B12 (newC 1 1000) v12 pv12 q12 bs12), .join (CHR B9 (newC 0 1000) v9 pv9 q9 bs9), .blk N7 74 (wdc (pt B9 0) (pt B12 0) pa6 pb6 pc6), .blk N2 35 (suc (Su.mk 1 0 31 0))] W) hM ?_
      clear hM
      rintro Y15 hM
      refine tF 1 [.val 0 (some 30) (.bool true)] trivial ?_
      refine dF ?_
      try simp only [puts, Tk.put, Act.put, List.setIfInBounds_toArray, List.set_cons_zero, List.set_cons_succ]
      go_upto_region 8 with fail
      refine wp_region_fromM (fun W => Sep w [] [.join (CHR B12 (newC 1 1000) v12 pv12 q12 bs12), .join (CHR B9 (newC 0 1000) v9 pv9 q9 bs9), .blk N7 74 (wdc (pt B9 0) (pt B12 0) pa6 pb6 pc6), .blk N2 35 (suc (Su.mk 1 0 31 0))] W) hM ?_
      clear hM
      rintro Y16 hM
      refine tF 2 [.val 0 (some 31) (.int .i64 0), .val 1 (some 5) (.int .i64 0)] trivial ?_
      refine dF ?_
      try simp only [puts, Tk.put, Act.put, List.setIfInBounds_toArray, List.set_cons_zero, List.set_cons_succ]
      go_upto_region 9 with fail
      refine wp_region_fromM (fun W => Sep w [] [.join (CHR B12 (newC 1 1000) v12 pv12 q12 bs12), .join (CHR B9 (newC 0 1000) v9 pv9 q9 bs9), .blk N7 74 (wdc (pt B9 0) (pt B12 0) pa6 pb6 pc6), .blk N2 35 (suc (Su.mk 1 0 31 0))] W) hM ?_
      clear hM
      rintro Y17 hM
      refine tF 2 [.load 0 (some 32) 35 (pt N2 0) (suv (Su.mk 1 0 31 0)), .val 1 (some 33) (.int .i64 0)] ⟨load_part (hM.at 3 rfl) 0 (suc (Su.mk 1 0 31 0)) rfl _ _ Tryz.underlying35 rfl (by kernel_rfl), trivial⟩ ?_
      refine cF (some 34) 23 #[suv (Su.mk 1 0 31 0), .int .i64 0] ((corr_0 _).mono ?_)
      rintro e Y18 ⟨rfl, hb⟩
      replace hM := hM.below hb
      clear hb
      refine tF 4 [.val 3 (some 35) (.bool false)] trivial ?_
      refine dF ?_
      try simp only [puts, Tk.put, Act.put, List.setIfInBounds_toArray, List.set_cons_zero, List.set_cons_succ]
      go_upto_region 11 with fail
      refine wp_region_fromM (fun W => Sep w [] [.join (CHR B12 (newC 1 1000) v12 pv12 q12 bs12), .join (CHR B9 (newC 0 1000) v9 pv9 q9 bs9), .blk N7 74 (wdc (pt B9 0) (pt B12 0) pa6 pb6 pc6), .blk N2 35 (suc (Su.mk 1 0 31 0))] W) hM ?_
      clear hM
      rintro Y19 hM
      refine tF 2 [.val 0 (some 44) (.int .i64 1), .val 1 (some 29) (.int .i64 1)] trivial ?_
      refine dF ?_
      try simp only [puts, Tk.put, Act.put, List.setIfInBounds_toArray, List.set_cons_zero, List.set_cons_succ]
      have hM1 : Sep w [] [.join (CHR B12 (newC 1 1000) v12 pv12 q12 bs12), .join (CHR B9 (newC 0 1000) v9 pv9 q9 bs9), .blk N7 74 (wdc (pt B9 0) (pt B12 0) pa6 pb6 pc6), .blk N2 35 (suc (Su.mk 1 0 31 0))] Y19 := hM.pick [0, 1, 2, 3] (by decide) rfl
      clear hM
      go_wp2_with fail
      go_roundw
      case rel => exact ⟨1, .inr (.inl rfl), rfl, hM1⟩
      case measure => simp [intOf]
    case inr.inl =>
      replace hi : _ = Value.int .i64 1 := hi
      subst hi
      go_upto_region 7 with fail
      refine wp_region_fromM (fun W => Sep w [] [.join (CHR B12 (newC 1 1000) v12 pv12 q12 bs12), .join (CHR B9 (newC 0 1000) v9 pv9 q9 bs9), .blk N7 74 (wdc (pt B9 0) (pt B12 0) pa6 pb6 pc6), .blk N2 35 (suc (Su.mk 1 0 31 0))] W) hM ?_
      clear hM
      rintro Y20 hM
      refine tF 1 [.val 0 (some 30) (.bool true)] trivial ?_
      refine dF ?_
      try simp only [puts, Tk.put, Act.put, List.setIfInBounds_toArray, List.set_cons_zero, List.set_cons_succ]
      go_upto_region 8 with fail
      refine wp_region_fromM (fun W => Sep w [] [.join (CHR B12 (newC 1 1000) v12 pv12 q12 bs12), .join (CHR B9 (newC 0 1000) v9 pv9 q9 bs9), .blk N7 74 (wdc (pt B9 0) (pt B12 0) pa6 pb6 pc6), .blk N2 35 (suc (Su.mk 1 0 31 0))] W) hM ?_
      clear hM
      rintro Y21 hM
      refine tF 2 [.val 0 (some 31) (.int .i64 1), .val 1 (some 5) (.int .i64 1)] trivial ?_
      refine dF ?_
      try simp only [puts, Tk.put, Act.put, List.setIfInBounds_toArray, List.set_cons_zero, List.set_cons_succ]
      go_upto_region 9 with fail
      refine wp_region_fromM (fun W => Sep w [] [.join (CHR B12 (newC 1 1000) v12 pv12 q12 bs12), .join (CHR B9 (newC 0 1000) v9 pv9 q9 bs9), .blk N7 74 (wdc (pt B9 0) (pt B12 0) pa6 pb6 pc6), .blk N2 35 (suc (Su.mk 1 0 31 0))] W) hM ?_
      clear hM
      rintro Y22 hM
      refine tF 2 [.load 0 (some 32) 35 (pt N2 0) (suv (Su.mk 1 0 31 0)), .val 1 (some 33) (.int .i64 1)] ⟨load_part (hM.at 3 rfl) 0 (suc (Su.mk 1 0 31 0)) rfl _ _ Tryz.underlying35 rfl (by kernel_rfl), trivial⟩ ?_
      refine cF (some 34) 23 #[suv (Su.mk 1 0 31 0), .int .i64 1] ((corr_1 _).mono ?_)
      rintro e Y23 ⟨rfl, hb⟩
      replace hM := hM.below hb
      clear hb
      refine tF 4 [.val 3 (some 35) (.bool false)] trivial ?_
      refine dF ?_
      try simp only [puts, Tk.put, Act.put, List.setIfInBounds_toArray, List.set_cons_zero, List.set_cons_succ]
      go_upto_region 11 with fail
      refine wp_region_fromM (fun W => Sep w [] [.join (CHR B12 (newC 1 1000) v12 pv12 q12 bs12), .join (CHR B9 (newC 0 1000) v9 pv9 q9 bs9), .blk N7 74 (wdc (pt B9 0) (pt B12 0) pa6 pb6 pc6), .blk N2 35 (suc (Su.mk 1 0 31 0))] W) hM ?_
      clear hM
      rintro Y24 hM
      refine tF 2 [.val 0 (some 44) (.int .i64 2), .val 1 (some 29) (.int .i64 2)] trivial ?_
      refine dF ?_
      try simp only [puts, Tk.put, Act.put, List.setIfInBounds_toArray, List.set_cons_zero, List.set_cons_succ]
      have hM1 : Sep w [] [.join (CHR B12 (newC 1 1000) v12 pv12 q12 bs12), .join (CHR B9 (newC 0 1000) v9 pv9 q9 bs9), .blk N7 74 (wdc (pt B9 0) (pt B12 0) pa6 pb6 pc6), .blk N2 35 (suc (Su.mk 1 0 31 0))] Y24 := hM.pick [0, 1, 2, 3] (by decide) rfl
      clear hM
      go_wp2_with fail
      go_roundw
      case rel => exact ⟨2, .inr (.inr (.inl rfl)), rfl, hM1⟩
      case measure => simp [intOf]
    case inr.inr.inl =>
      replace hi : _ = Value.int .i64 2 := hi
      subst hi
      go_upto_region 7 with fail
      refine wp_region_fromM (fun W => Sep w [] [.join (CHR B12 (newC 1 1000) v12 pv12 q12 bs12), .join (CHR B9 (newC 0 1000) v9 pv9 q9 bs9), .blk N7 74 (wdc (pt B9 0) (pt B12 0) pa6 pb6 pc6), .blk N2 35 (suc (Su.mk 1 0 31 0))] W) hM ?_
      clear hM
      rintro Y25 hM
      refine tF 1 [.val 0 (some 30) (.bool true)] trivial ?_
      refine dF ?_
      try simp only [puts, Tk.put, Act.put, List.setIfInBounds_toArray, List.set_cons_zero, List.set_cons_succ]
      go_upto_region 8 with fail
      refine wp_region_fromM (fun W => Sep w [] [.join (CHR B12 (newC 1 1000) v12 pv12 q12 bs12), .join (CHR B9 (newC 0 1000) v9 pv9 q9 bs9), .blk N7 74 (wdc (pt B9 0) (pt B12 0) pa6 pb6 pc6), .blk N2 35 (suc (Su.mk 1 0 31 0))] W) hM ?_
      clear hM
      rintro Y26 hM
      refine tF 2 [.val 0 (some 31) (.int .i64 2), .val 1 (some 5) (.int .i64 2)] trivial ?_
      refine dF ?_
      try simp only [puts, Tk.put, Act.put, List.setIfInBounds_toArray, List.set_cons_zero, List.set_cons_succ]
      go_upto_region 9 with fail
      refine wp_region_fromM (fun W => Sep w [] [.join (CHR B12 (newC 1 1000) v12 pv12 q12 bs12), .join (CHR B9 (newC 0 1000) v9 pv9 q9 bs9), .blk N7 74 (wdc (pt B9 0) (pt B12 0) pa6 pb6 pc6), .blk N2 35 (suc (Su.mk 1 0 31 0))] W) hM ?_
      clear hM
      rintro Y27 hM
      refine tF 2 [.load 0 (some 32) 35 (pt N2 0) (suv (Su.mk 1 0 31 0)), .val 1 (some 33) (.int .i64 2)] ⟨load_part (hM.at 3 rfl) 0 (suc (Su.mk 1 0 31 0)) rfl _ _ Tryz.underlying35 rfl (by kernel_rfl), trivial⟩ ?_
      refine cF (some 34) 23 #[suv (Su.mk 1 0 31 0), .int .i64 2] ((corr_2 _).mono ?_)
      rintro e Y28 ⟨rfl, hb⟩
      replace hM := hM.below hb
      clear hb
      refine tF 4 [.val 3 (some 35) (.bool false)] trivial ?_
      refine dF ?_
      try simp only [puts, Tk.put, Act.put, List.setIfInBounds_toArray, List.set_cons_zero, List.set_cons_succ]
      go_upto_region 11 with fail
      refine wp_region_fromM (fun W => Sep w [] [.join (CHR B12 (newC 1 1000) v12 pv12 q12 bs12), .join (CHR B9 (newC 0 1000) v9 pv9 q9 bs9), .blk N7 74 (wdc (pt B9 0) (pt B12 0) pa6 pb6 pc6), .blk N2 35 (suc (Su.mk 1 0 31 0))] W) hM ?_
      clear hM
      rintro Y29 hM
      refine tF 2 [.val 0 (some 44) (.int .i64 3), .val 1 (some 29) (.int .i64 3)] trivial ?_
      refine dF ?_
      try simp only [puts, Tk.put, Act.put, List.setIfInBounds_toArray, List.set_cons_zero, List.set_cons_succ]
      have hM1 : Sep w [] [.join (CHR B12 (newC 1 1000) v12 pv12 q12 bs12), .join (CHR B9 (newC 0 1000) v9 pv9 q9 bs9), .blk N7 74 (wdc (pt B9 0) (pt B12 0) pa6 pb6 pc6), .blk N2 35 (suc (Su.mk 1 0 31 0))] Y29 := hM.pick [0, 1, 2, 3] (by decide) rfl
      clear hM
      go_wp2_with fail
      go_roundw
      case rel => exact ⟨3, .inr (.inr (.inr (.inl rfl))), rfl, hM1⟩
      case measure => simp [intOf]
    case inr.inr.inr.inl =>
      replace hi : _ = Value.int .i64 3 := hi
      subst hi
      go_upto_region 7 with fail
      refine wp_region_fromM (fun W => Sep w [] [.join (CHR B12 (newC 1 1000) v12 pv12 q12 bs12), .join (CHR B9 (newC 0 1000) v9 pv9 q9 bs9), .blk N7 74 (wdc (pt B9 0) (pt B12 0) pa6 pb6 pc6), .blk N2 35 (suc (Su.mk 1 0 31 0))] W) hM ?_
      clear hM
      rintro Y30 hM
      refine tF 1 [.val 0 (some 30) (.bool true)] trivial ?_
      refine dF ?_
      try simp only [puts, Tk.put, Act.put, List.setIfInBounds_toArray, List.set_cons_zero, List.set_cons_succ]
      go_upto_region 8 with fail
      refine wp_region_fromM (fun W => Sep w [] [.join (CHR B12 (newC 1 1000) v12 pv12 q12 bs12), .join (CHR B9 (newC 0 1000) v9 pv9 q9 bs9), .blk N7 74 (wdc (pt B9 0) (pt B12 0) pa6 pb6 pc6), .blk N2 35 (suc (Su.mk 1 0 31 0))] W) hM ?_
      clear hM
      rintro Y31 hM
      refine tF 2 [.val 0 (some 31) (.int .i64 3), .val 1 (some 5) (.int .i64 3)] trivial ?_
      refine dF ?_
      try simp only [puts, Tk.put, Act.put, List.setIfInBounds_toArray, List.set_cons_zero, List.set_cons_succ]
      go_upto_region 9 with fail
      refine wp_region_fromM (fun W => Sep w [] [.join (CHR B12 (newC 1 1000) v12 pv12 q12 bs12), .join (CHR B9 (newC 0 1000) v9 pv9 q9 bs9), .blk N7 74 (wdc (pt B9 0) (pt B12 0) pa6 pb6 pc6), .blk N2 35 (suc (Su.mk 1 0 31 0))] W) hM ?_
      clear hM
      rintro Y32 hM
      refine tF 2 [.load 0 (some 32) 35 (pt N2 0) (suv (Su.mk 1 0 31 0)), .val 1 (some 33) (.int .i64 3)] ⟨load_part (hM.at 3 rfl) 0 (suc (Su.mk 1 0 31 0)) rfl _ _ Tryz.underlying35 rfl (by kernel_rfl), trivial⟩ ?_
      refine cF (some 34) 23 #[suv (Su.mk 1 0 31 0), .int .i64 3] ((corr_3 _).mono ?_)
      rintro e Y33 ⟨rfl, hb⟩
      replace hM := hM.below hb
      clear hb
      refine tF 4 [.val 3 (some 35) (.bool false)] trivial ?_
      refine dF ?_
      try simp only [puts, Tk.put, Act.put, List.setIfInBounds_toArray, List.set_cons_zero, List.set_cons_succ]
      go_upto_region 11 with fail
      refine wp_region_fromM (fun W => Sep w [] [.join (CHR B12 (newC 1 1000) v12 pv12 q12 bs12), .join (CHR B9 (newC 0 1000) v9 pv9 q9 bs9), .blk N7 74 (wdc (pt B9 0) (pt B12 0) pa6 pb6 pc6), .blk N2 35 (suc (Su.mk 1 0 31 0))] W) hM ?_
      clear hM
      rintro Y34 hM
      refine tF 2 [.val 0 (some 44) (.int .i64 4), .val 1 (some 29) (.int .i64 4)] trivial ?_
      refine dF ?_
      try simp only [puts, Tk.put, Act.put, List.setIfInBounds_toArray, List.set_cons_zero, List.set_cons_succ]
      have hM1 : Sep w [] [.join (CHR B12 (newC 1 1000) v12 pv12 q12 bs12), .join (CHR B9 (newC 0 1000) v9 pv9 q9 bs9), .blk N7 74 (wdc (pt B9 0) (pt B12 0) pa6 pb6 pc6), .blk N2 35 (suc (Su.mk 1 0 31 0))] Y34 := hM.pick [0, 1, 2, 3] (by decide) rfl
      clear hM
      go_wp2_with fail
      go_roundw
      case rel => exact ⟨4, .inr (.inr (.inr (.inr (.inl rfl)))), rfl, hM1⟩
      case measure => simp [intOf]
    case inr.inr.inr.inr.inl =>
      replace hi : _ = Value.int .i64 4 := hi
      subst hi
      go_upto_region 7 with fail
      refine wp_region_fromM (fun W => Sep w [] [.join (CHR B12 (newC 1 1000) v12 pv12 q12 bs12), .join (CHR B9 (newC 0 1000) v9 pv9 q9 bs9), .blk N7 74 (wdc (pt B9 0) (pt B12 0) pa6 pb6 pc6), .blk N2 35 (suc (Su.mk 1 0 31 0))] W) hM ?_
      clear hM
      rintro Y35 hM
      refine tF 1 [.val 0 (some 30) (.bool true)] trivial ?_
      refine dF ?_
      try simp only [puts, Tk.put, Act.put, List.setIfInBounds_toArray, List.set_cons_zero, List.set_cons_succ]
      go_upto_region 8 with fail
      refine wp_region_fromM (fun W => Sep w [] [.join (CHR B12 (newC 1 1000) v12 pv12 q12 bs12), .join (CHR B9 (newC 0 1000) v9 pv9 q9 bs9), .blk N7 74 (wdc (pt B9 0) (pt B12 0) pa6 pb6 pc6), .blk N2 35 (suc (Su.mk 1 0 31 0))] W) hM ?_
      clear hM
      rintro Y36 hM
      refine tF 2 [.val 0 (some 31) (.int .i64 4), .val 1 (some 5) (.int .i64 4)] trivial ?_
      refine dF ?_
      try simp only [puts, Tk.put, Act.put, List.setIfInBounds_toArray, List.set_cons_zero, List.set_cons_succ]
      go_upto_region 9 with fail
      refine wp_region_fromM (fun W => Sep w [] [.join (CHR B12 (newC 1 1000) v12 pv12 q12 bs12), .join (CHR B9 (newC 0 1000) v9 pv9 q9 bs9), .blk N7 74 (wdc (pt B9 0) (pt B12 0) pa6 pb6 pc6), .blk N2 35 (suc (Su.mk 1 0 31 0))] W) hM ?_
      clear hM
      rintro Y37 hM
      refine tF 2 [.load 0 (some 32) 35 (pt N2 0) (suv (Su.mk 1 0 31 0)), .val 1 (some 33) (.int .i64 4)] ⟨load_part (hM.at 3 rfl) 0 (suc (Su.mk 1 0 31 0)) rfl _ _ Tryz.underlying35 rfl (by kernel_rfl), trivial⟩ ?_
      refine cF (some 34) 23 #[suv (Su.mk 1 0 31 0), .int .i64 4] ((corr_4 _).mono ?_)
      rintro e Y38 ⟨rfl, hb⟩
      replace hM := hM.below hb
      clear hb
      refine tF 4 [.val 3 (some 35) (.bool false)] trivial ?_
      refine dF ?_
      try simp only [puts, Tk.put, Act.put, List.setIfInBounds_toArray, List.set_cons_zero, List.set_cons_succ]
      go_upto_region 11 with fail
      refine wp_region_fromM (fun W => Sep w [] [.join (CHR B12 (newC 1 1000) v12 pv12 q12 bs12), .join (CHR B9 (newC 0 1000) v9 pv9 q9 bs9), .blk N7 74 (wdc (pt B9 0) (pt B12 0) pa6 pb6 pc6), .blk N2 35 (suc (Su.mk 1 0 31 0))] W) hM ?_
      clear hM
      rintro Y39 hM
      refine tF 2 [.val 0 (some 44) (.int .i64 5), .val 1 (some 29) (.int .i64 5)] trivial ?_
      refine dF ?_
      try simp only [puts, Tk.put, Act.put, List.setIfInBounds_toArray, List.set_cons_zero, List.set_cons_succ]
      have hM1 : Sep w [] [.join (CHR B12 (newC 1 1000) v12 pv12 q12 bs12), .join (CHR B9 (newC 0 1000) v9 pv9 q9 bs9), .blk N7 74 (wdc (pt B9 0) (pt B12 0) pa6 pb6 pc6), .blk N2 35 (suc (Su.mk 1 0 31 0))] Y39 := hM.pick [0, 1, 2, 3] (by decide) rfl
      clear hM
      go_wp2_with fail
      go_roundw
      case rel => exact ⟨5, .inr (.inr (.inr (.inr (.inr (rfl))))), rfl, hM1⟩
      case measure => simp [intOf]
    case inr.inr.inr.inr.inr =>
      replace hi : _ = Value.int .i64 5 := hi
      subst hi
      go_upto_region 7 with fail
      refine wp_region_fromM (fun W => Sep w [] [.join (CHR B12 (newC 1 1000) v12 pv12 q12 bs12), .join (CHR B9 (newC 0 1000) v9 pv9 q9 bs9), .blk N7 74 (wdc (pt B9 0) (pt B12 0) pa6 pb6 pc6), .blk N2 35 (suc (Su.mk 1 0 31 0))] W) hM ?_
      clear hM
      rintro Y40 hM
      refine tF 1 [.val 0 (some 30) (.bool false)] trivial ?_
      refine dF ?_
      try simp only [puts, Tk.put, Act.put, List.setIfInBounds_toArray, List.set_cons_zero, List.set_cons_succ]
      go_upto_region 12 with fail
      refine wp_region_fromM (fun W => Sep w [] [.join (CHR B12 (newC 1 1000) v12 pv12 q12 bs12), .join (CHR B9 (newC 0 1000) v9 pv9 q9 bs9), .blk N7 74 (wdc (pt B9 0) (pt B12 0) pa6 pb6 pc6), .blk N2 35 (suc (Su.mk 1 0 31 0))] W) hM ?_
      clear hM
      rintro Y41 hM
      refine tF 1 [.val 0 (some 6) (.int .i64 2)] trivial ?_
      refine dF ?_
      try simp only [puts, Tk.put, Act.put, List.setIfInBounds_toArray, List.set_cons_zero, List.set_cons_succ]
      go_wp2_with fail
      go_loopw [6] (fun i wr => ∃ j : Nat, (j = 2 ∨ j = 3 ∨ j = 4) ∧ i = .int .i64 (j : Int) ∧ Sep w [] [.join (CHR B12 (newC 1 1000) v12 pv12 q12 bs12), .join (CHR B9 (newC 0 1000) v9 pv9 q9 bs9), .blk N7 74 (wdc (pt B9 0) (pt B12 0) pa6 pb6 pc6), .blk N2 35 (suc (Su.mk 1 0 31 0))] wr) (fun i _ => 4 - (intOf i).toNat)
      case atStart => exact ⟨2, .inl rfl, rfl, hM⟩
      clear hM
      case round =>
        obtain ⟨j, hq, hi, hM⟩ := hrel
        rcases hq with rfl | rfl | rfl
        case inl =>
          replace hi : _ = Value.int .i64 2 := hi
          subst hi
          go_upto_region 13 with fail
          refine wp_region_fromM (fun W => Sep w [] [.join (CHR B12 (newC 1 1000) v12 pv12 q12 bs12), .join (CHR B9 (newC 0 1000) v9 pv9 q9 bs9), .blk N7 74 (wdc (pt B9 0) (pt B12 0) pa6 pb6 pc6), .blk N2 35 (suc (Su.mk 1 0 31 0))] W) hM ?_
          clear hM
          rintro Y42 hM
          refine tF 2 [.val 0 (some 45) (.int .i64 2), .val 1 (some 46) (.bool true)] trivial ?_
          refine dF ?_
          try simp only [puts, Tk.put, Act.put, List.setIfInBounds_toArray, List.set_cons_zero, List.set_cons_succ]
          go_upto_region 15 with fail
          refine wp_region_fromM (fun W => Sep w [] [.join (CHR B12 (newC 1 1000) v12 pv12 q12 bs12), .join (CHR B9 (newC 0 1000) v9 pv9 q9 bs9), .blk N7 74 (wdc (pt B9 0) (pt B12 0) pa6 pb6 pc6), .blk N2 35 (suc (Su.mk 1 0 31 0))] W) hM ?_
          clear hM
          rintro Y43 hM
          refine tF 7 [.val 0 (some 49) (pt N7 0), .val 1 (some 50) (.int .i64 2), .val 2 (some 51) (pt N7 0), .val 3 (some 52) (pt N7 9), .idx 4 (some 53) 70 (pt N7 9) (.int .i64 2) (pt N7 11), .load 5 (some 54) 69 (pt N7 11) (.nilIface), .val 6 (some 55) (.bool false)] ⟨idx_arr (k := 2) (c := 1) (o := 9) Tryz.underlying70 (by kernel_rfl) (by decide), ld_any _ _ Tryz.underlying69 rfl (hM.at 2 rfl) 11 rfl, trivial⟩ ?_
          refine dF ?_
          try simp only [puts, Tk.put, Act.put, List.setIfInBounds_toArray, List.set_cons_zero, List.set_cons_succ]
          go_upto_region 14 with fail
          refine wp_region_fromM (fun W => Sep w [] [.join (CHR B12 (newC 1 1000) v12 pv12 q12 bs12), .join (CHR B9 (newC 0 1000) v9 pv9 q9 bs9), .blk N7 74 (wdc (pt B9 0) (pt B12 0) pa6 pb6 pc6), .blk N2 35 (suc (Su.mk 1 0 31 0))] W) hM ?_
          clear hM
          rintro Y44 hM
          refine tF 3 [.val 0 (some 47) (.int .i64 2), .val 1 (some 48) (.int .i64 3), .val 2 (some 6) (.int .i64 3)] trivial ?_
          refine dF ?_
          try simp only [puts, Tk.put, Act.put, List.setIfInBounds_toArray, List.set_cons_zero, List.set_cons_succ]
          have hM1 : Sep w [] [.join (CHR B12 (newC 1 1000) v12 pv12 q12 bs12), .join (CHR B9 (newC 0 1000) v9 pv9 q9 bs9), .blk N7 74 (wdc (pt B9 0) (pt B12 0) pa6 pb6 pc6), .blk N2 35 (suc (Su.mk 1 0 31 0))] Y44 := hM.pick [0, 1, 2, 3] (by decide) rfl
          clear hM
          go_wp2_with fail
          go_roundw
          case rel => exact ⟨3, .inr (.inl rfl), rfl, hM1⟩
          case measure => simp [intOf]
        case inr.inl =>
          replace hi : _ = Value.int .i64 3 := hi
          subst hi
          go_upto_region 13 with fail
          refine wp_region_fromM (fun W => Sep w [] [.join (CHR B12 (newC 1 1000) v12 pv12 q12 bs12), .join (CHR B9 (newC 0 1000) v9 pv9 q9 bs9), .blk N7 74 (wdc (pt B9 0) (pt B12 0) pa6 pb6 pc6), .blk N2 35 (suc (Su.mk 1 0 31 0))] W) hM ?_
          clear hM
          rintro Y45 hM
          refine tF 2 [.val 0 (some 45) (.int .i64 3), .val 1 (some 46) (.bool true)] trivial ?_
          refine dF ?_
          try simp only [puts, Tk.put, Act.put, List.setIfInBounds_toArray, List.set_cons_zero, List.set_cons_succ]
          go_upto_region 15 with fail
          refine wp_region_fromM (fun W => Sep w [] [.join (CHR B12 (newC 1 1000) v12 pv12 q12 bs12), .join (CHR B9 (newC 0 1000) v9 pv9 q9 bs9), .blk N7 74 (wdc (pt B9 0) (pt B12 0) pa6 pb6 pc6), .blk N2 35 (suc (Su.mk 1 0 31 0))] W) hM ?_
          clear hM
          rintro Y46 hM
          refine tF 7 [.val 0 (some 49) (pt N7 0), .val 1 (some 50) (.int .i64 3), .val 2 (some 51) (pt N7 0), .val 3 (some 52) (pt N7 9), .idx 4 (some 53) 70 (pt N7 9) (.int .i64 3) (pt N7 12), .load 5 (some 54) 69 (pt N7 12) (.nilIface), .val 6 (some 55) (.bool false)] ⟨idx_arr (k := 3) (c := 1) (o := 9) Tryz.underlying70 (by kernel_rfl) (by decide), ld_any _ _ Tryz.underlying69 rfl (hM.at 2 rfl) 12 rfl, trivial⟩ ?_
          refine dF ?_
          try simp only [puts, Tk.put, Act.put, List.setIfInBounds_toArray, List.set_cons_zero, List.set_cons_succ]
          go_upto_region 14 with fail
          refine wp_region_fromM (fun W => Sep w [] [.join (CHR B12 (newC 1 1000) v12 pv12 q12 bs12), .join (CHR B9 (newC 0 1000) v9 pv9 q9 bs9), .blk N7 74 (wdc (pt B9 0) (pt B12 0) pa6 pb6 pc6), .blk N2 35 (suc (Su.mk 1 0 31 0))] W) hM ?_
          clear hM
          rintro Y47 hM
          refine tF 3 [.val 0 (some 47) (.int .i64 3), .val 1 (some 48) (.int .i64 4), .val 2 (some 6) (.int .i64 4)] trivial ?_
          refine dF ?_
          try simp only [puts, Tk.put, Act.put, List.setIfInBounds_toArray, List.set_cons_zero, List.set_cons_succ]
          have hM1 : Sep w [] [.join (CHR B12 (newC 1 1000) v12 pv12 q12 bs12), .join (CHR B9 (newC 0 1000) v9 pv9 q9 bs9), .blk N7 74 (wdc (pt B9 0) (pt B12 0) pa6 pb6 pc6), .blk N2 35 (suc (Su.mk 1 0 31 0))] Y47 := hM.pick [0, 1, 2, 3] (by decide) rfl
          clear hM
          go_wp2_with fail
          go_roundw
          case rel => exact ⟨4, .inr (.inr (rfl)), rfl, hM1⟩
          case measure => simp [intOf]
        case inr.inr =>
          replace hi : _ = Value.int .i64 4 := hi
          subst hi
          go_upto_region 13 with fail
          refine wp_region_fromM (fun W => Sep w [] [.join (CHR B12 (newC 1 1000) v12 pv12 q12 bs12), .join (CHR B9 (newC 0 1000) v9 pv9 q9 bs9), .blk N7 74 (wdc (pt B9 0) (pt B12 0) pa6 pb6 pc6), .blk N2 35 (suc (Su.mk 1 0 31 0))] W) hM ?_
          clear hM
          rintro Y48 hM
          refine tF 2 [.val 0 (some 45) (.int .i64 4), .val 1 (some 46) (.bool false)] trivial ?_
          refine dF ?_
          try simp only [puts, Tk.put, Act.put, List.setIfInBounds_toArray, List.set_cons_zero, List.set_cons_succ]
          go_upto_region 17 with fail
          refine wp_region_fromM (fun W => Sep w [] [.join (CHR B12 (newC 1 1000) v12 pv12 q12 bs12), .join (CHR B9 (newC 0 1000) v9 pv9 q9 bs9), .blk N7 74 (wdc (pt B9 0) (pt B12 0) pa6 pb6 pc6), .blk N2 35 (suc (Su.mk 1 0 31 0))] W) hM ?_
          clear hM
          rintro Y49 hM
          refine tF 3 [.val 0 (some 59) (pt N7 0), .val 1 (some 2) (pt N7 0), .val 2 (some 3) (.int .i64 0)] trivial ?_
          refine dF ?_
          try simp only [puts, Tk.put, Act.put, List.setIfInBounds_toArray, List.set_cons_zero, List.set_cons_succ]
          have hN : Sep w [] (woR ⟨N7, pa6, pb6, pc6, B9, v9, pv9, q9, bs9, B12, v12, pv12, q12, bs12⟩) Y49 := hM.pick [2, 1, 0] (by decide) rfl
          go_wp2_with fail
          go_ret2
          exact ⟨_, rfl, hN⟩
set_option maxRecDepth 100000 in
set_option maxHeartbeats 4000000 in
theorem thereW_any (o : Wo) (w : World) (h : ROk (.join (woR o)) w) : Calls Tryz.prog 26 #[.pointer (some ⟨o.X, 0, none⟩)] w (StW o (.bool true) w) := by
  have hmx : Tryz.prog.follows .mixedOrders = true := by kernel_rfl
  have hM : Sep w (Res.join (woR o)).foot [.blk o.X 74 (wdc (.pointer (some ⟨o.P, 0, none⟩)) (.pointer (some ⟨o.Q, 0, none⟩)) o.a o.b o.c), .join (CHR o.P (newC 0 1000) o.v o.pv o.q o.bs), .join (CHR o.Q (newC 1 1000) o.v2 o.pv2 o.q2 o.bs2)] w := Sep.begin h
  clear h
  go_enter Tryz.func26, Tryz.ntmps26
  go_upto_region 0 with fail
  refine wp_region_fromM (fun W => Sep w (Res.join (woR o)).foot [.blk o.X 74 (wdc (.pointer (some ⟨o.P, 0, none⟩)) (.pointer (some ⟨o.Q, 0, none⟩)) o.a o.b o.c), .join (CHR o.P (newC 0 1000) o.v o.pv o.q o.bs), .join (CHR o.Q (newC 1 1000) o.v2 o.pv2 o.q2 o.bs2)] W) hM ?_
  clear hM
  rintro Y1 hM
  refine tF 1 [.val 0 (some 2) (.bool false)] trivial ?_
  refine dF ?_
  try simp only [puts, Tk.put, Act.put, List.setIfInBounds_toArray, List.set_cons_zero, List.set_cons_succ]
  go_upto_region 1 with fail
  refine wp_region_fromM (fun W => Sep w (Res.join (woR o)).foot [.blk o.X 74 (wdc (.pointer (some ⟨o.P, 0, none⟩)) (.pointer (some ⟨o.Q, 0, none⟩)) o.a o.b o.c), .join (CHR o.P (newC 0 1000) o.v o.pv o.q o.bs), .join (CHR o.Q (newC 1 1000) o.v2 o.pv2 o.q2 o.bs2)] W) hM ?_
  clear hM
  rintro Y2 hM
  refine tF 12 [.val 0 (some 3) (pt o.X 0), .val 1 (some 4) (.bool true), .val 2 (some 5) (.bool true), .val 3 (some 6) (pt o.X 0), .val 4 (some 7) (pt o.X 0), .val 5 (some 8) (pt o.X 5), .idx 6 (some 9) 67 (pt o.X 5) (.int .i64 0) (pt o.X 5), .val 7 (some 10) (pt o.X 5), .load 8 (some 11) 64 (pt o.X 5) (pt o.P 0), .val 9 (some 12) (.bool true), .val 10 (some 13) (.bool true), .val 11 (some 2) (.bool true)] ⟨idx_arr (k := 0) (c := 2) (o := 5) Tryz.underlying67 (by kernel_rfl) (by decide), ld_any _ _ Tryz.underlying64 rfl (hM.at 0 rfl) 5 rfl, trivial⟩ ?_
  refine dF ?_
  try simp only [puts, Tk.put, Act.put, List.setIfInBounds_toArray, List.set_cons_zero, List.set_cons_succ]
  have hT : RTurn (.join (woR o)) (.join (woR o)) w Y2 := Sep.fin (qs := woR o) (l := woR o) (hM.pick [0, 1, 2] (by decide) rfl) (List.Sublist.refl _)
  go_wp2_with fail
  go_ret
  exact ⟨rfl, hT⟩
set_option maxRecDepth 100000 in
set_option maxHeartbeats 4000000 in
theorem news_0 (o : Wo) (w : World) (h : ROk (.join (woR o)) w) : Calls Tryz.prog 82 #[.pointer (some ⟨o.X, 5, none⟩)] w (NwW o w) := by
  have hmx : Tryz.prog.follows .mixedOrders = true := by kernel_rfl
  have hM : Sep w (Res.join (woR o)).foot [.blk o.X 74 (wdc (.pointer (some ⟨o.P, 0, none⟩)) (.pointer (some ⟨o.Q, 0, none⟩)) o.a o.b o.c), .join (CHR o.P (newC 0 1000) o.v o.pv o.q o.bs), .join (CHR o.Q (newC 1 1000) o.v2 o.pv2 o.q2 o.bs2)] w := Sep.begin h
  clear h
  go_enter Tryz.func82, Tryz.ntmps82
  go_upto_region 0 with fail
  refine wp_region_fromM (fun W => Sep w (Res.join (woR o)).foot [.blk o.X 74 (wdc (.pointer (some ⟨o.P, 0, none⟩)) (.pointer (some ⟨o.Q, 0, none⟩)) o.a o.b o.c), .join (CHR o.P (newC 0 1000) o.v o.pv o.q o.bs), .join (CHR o.Q (newC 1 1000) o.v2 o.pv2 o.q2 o.bs2)] W) hM ?_
  clear hM
  rintro Y1 hM
  refine tF 1 [.val 0 (some 2) (.slice none 0 0)] trivial ?_
  refine dF ?_
  try simp only [puts, Tk.put, Act.put, List.setIfInBounds_toArray, List.set_cons_zero, List.set_cons_succ]
  go_upto_region 1 with fail
  refine wp_region_M (fun W => Sep w (Res.join (woR o)).foot [.blk o.X 74 (wdc (.pointer (some ⟨o.P, 0, none⟩)) (.pointer (some ⟨o.Q, 0, none⟩)) o.a o.b o.c), .join (CHR o.P (newC 0 1000) o.v o.pv o.q o.bs), .join (CHR o.Q (newC 1 1000) o.v2 o.pv2 o.q2 o.bs2)] W) (fun W => Sep w (Res.join (woR o)).foot [.blk o.X 74 (wdc (.pointer (some ⟨o.P, 0, none⟩)) (.pointer (some ⟨o.Q, 0, none⟩)) o.a o.b o.c), .join (CHR o.P (newC 0 1000) o.v o.pv o.q o.bs), .join (CHR o.Q (newC 1 1000) o.v2 o.pv2 o.q2 o.bs2)] W) hmx hM.drew ?_
  clear hM
  rintro Y2 hM
  have hS := hM.sub (.cons_cons _ (.cons_cons _ (.cons_cons _ .slnil)))
  refine tD 2 [.val 0 (some 4) (pt o.X 5), .val 1 (some 5) (pt o.X 5), .val 2 (some 6) (pt o.X 5), .load 3 (some 7) 64 (pt o.X 5) (pt o.P 0), .val 4 (some 8) (pt o.X 5), .val 5 (some 9) (pt o.X 5), .val 6 (some 10) (pt o.X 6), .load 7 (some 11) 3 (pt o.X 6) (.int .i64 0)] ⟨fun W h => ld_any _ _ Tryz.underlying64 rfl (h.at 0 rfl) 5 rfl, fun W h => ld_any _ _ Tryz.underlying3 rfl (h.at 0 rfl) 6 rfl, trivial⟩ hS ?_
  refine oD 8 1 (cD (some 12) 134 #[pt o.P 0, .int .i64 0] ((chnEvents_any 0 _ (ChV.of (hM.oka 1 rfl)) (Nat.zero_le _)).mono ?_))
  rintro e Y3 ⟨v3, rfl, hR⟩
  refine And.intro (hS.below hR.b) ?_
  replace hS := hS.below hR.b
  replace hM := hM.gain hR
  clear hR
  replace hM : Sep w (Res.join (woR o)).foot [.own evc 160 27 (v3) ([]), .blk o.X 74 (wdc (.pointer (some ⟨o.P, 0, none⟩)) (.pointer (some ⟨o.Q, 0, none⟩)) o.a o.b o.c), .join (CHR o.P (newC 0 1000) o.v o.pv o.q o.bs), .join (CHR o.Q (newC 1 1000) o.v2 o.pv2 o.q2 o.bs2)] Y3 := hM
  obtain ⟨pe, ce, rfl⟩ := (hM.oka 0 rfl).slice evc_len
  replace hM : Sep w (Res.join (woR o)).foot [.own evc 160 27 (.slice pe 0 ce) ([]), .blk o.X 74 (wdc (.pointer (some ⟨o.P, 0, none⟩)) (.pointer (some ⟨o.Q, 0, none⟩)) o.a o.b o.c), .join (CHR o.P (newC 0 1000) o.v o.pv o.q o.bs), .join (CHR o.Q (newC 1 1000) o.v2 o.pv2 o.q2 o.bs2)] Y3 := hM
  refine tD 0 [.val 9 (some 3) (.slice pe 0 ce)] trivial hS ?_
  refine dD ?_
  try simp only [puts, Tk.put, Act.put, List.setIfInBounds_toArray, List.set_cons_zero, List.set_cons_succ]
  clear hS
  go_upto_region 2 with fail
  refine wp_region_fromM (fun W => Sep w (Res.join (woR o)).foot [.own evc 160 27 (.slice pe 0 ce) ([]), .blk o.X 74 (wdc (.pointer (some ⟨o.P, 0, none⟩)) (.pointer (some ⟨o.Q, 0, none⟩)) o.a o.b o.c), .join (CHR o.P (newC 0 1000) o.v o.pv o.q o.bs), .join (CHR o.Q (newC 1 1000) o.v2 o.pv2 o.q2 o.bs2)] W) hM ?_
  clear hM
  rintro Y4 hM
  refine tF 9 [.val 0 (some 13) (pt o.X 5), .val 1 (some 14) (pt o.X 5), .val 2 (some 15) (pt o.X 6), .load 3 (some 16) 3 (pt o.X 6) (.int .i64 0), .val 4 (some 17) (.slice pe 0 ce), .val 5 (some 18) (.int .i64 0), .val 6 (some 19) (.int .i64 0), .val 7 (some 20) (pt o.X 5), .val 8 (some 21) (pt o.X 6)] ⟨ld_any _ _ Tryz.underlying3 rfl (hM.at 1 rfl) 6 rfl, trivial⟩ ?_
  have hst := sto_part (wdc (.pointer (some ⟨o.P, 0, none⟩)) (.pointer (some ⟨o.Q, 0, none⟩)) o.a o.b o.c) (hM.at 1 rfl) 6 3 (.int .i64 0) ([.int .i64 0]) rfl (by kernel_rfl) (Nat.le_of_ble_eq_true rfl) rfl rfl
  refine sF 3 (pt o.X 6) (.int .i64 0) (hst) ?_
  clear hst
  replace hM := hM.set 1 (cs' := wdc (.pointer (some ⟨o.P, 0, none⟩)) (.pointer (some ⟨o.Q, 0, none⟩)) o.a o.b o.c) rfl rfl
  generalize World.setRow _ _ _ = Y5 at *
  refine dF ?_
  try simp only [puts, Tk.put, Act.put, List.setIfInBounds_toArray, List.set_cons_zero, List.set_cons_succ]
  go_upto_region 3 with fail
  refine wp_region_fromM (fun W => Sep w (Res.join (woR o)).foot [.own evc 160 27 (.slice pe 0 ce) ([]), .blk o.X 74 (wdc (.pointer (some ⟨o.P, 0, none⟩)) (.pointer (some ⟨o.Q, 0, none⟩)) o.a o.b o.c), .join (CHR o.P (newC 0 1000) o.v o.pv o.q o.bs), .join (CHR o.Q (newC 1 1000) o.v2 o.pv2 o.q2 o.bs2)] W) hM ?_
  clear hM
  rintro Y6 hM
  refine tF 2 [.val 0 (some 22) (.slice pe 0 ce), .val 1 (some 2) (.slice pe 0 ce)] trivial ?_
  refine dF ?_
  try simp only [puts, Tk.put, Act.put, List.setIfInBounds_toArray, List.set_cons_zero, List.set_cons_succ]
  have hT : RTurn (.join (woR o)) (.join (woR o)) w Y6 := Sep.fin (qs := woR o) (l := woR o) (hM.pick [1, 2, 3] (by decide) rfl) (List.Sublist.refl _)
  go_wp2_with fail
  go_ret
  exact ⟨_, _, rfl, hT⟩
set_option maxRecDepth 100000 in
set_option maxHeartbeats 4000000 in
theorem news_1 (o : Wo) (w : World) (h : ROk (.join (woR o)) w) : Calls Tryz.prog 82 #[.pointer (some ⟨o.X, 7, none⟩)] w (NwW o w) := by
  have hmx : Tryz.prog.follows .mixedOrders = true := by kernel_rfl
  have hM : Sep w (Res.join (woR o)).foot [.blk o.X 74 (wdc (.pointer (some ⟨o.P, 0, none⟩)) (.pointer (some ⟨o.Q, 0, none⟩)) o.a o.b o.c), .join (CHR o.P (newC 0 1000) o.v o.pv o.q o.bs), .join (CHR o.Q (newC 1 1000) o.v2 o.pv2 o.q2 o.bs2)] w := Sep.begin h
  clear h
  go_enter Tryz.func82, Tryz.ntmps82
  go_upto_region 0 with fail
  refine wp_region_fromM (fun W => Sep w (Res.join (woR o)).foot [.blk o.X 74 (wdc (.pointer (some ⟨o.P, 0, none⟩)) (.pointer (some ⟨o.Q, 0, none⟩)) o.a o.b o.c), .join (CHR o.P (newC 0 1000) o.v o.pv o.q o.bs), .join (CHR o.Q (newC 1 1000) o.v2 o.pv2 o.q2 o.bs2)] W) hM ?_
  clear hM
  rintro Y1 hM
  refine tF 1 [.val 0 (some 2) (.slice none 0 0)] trivial ?_
  refine dF ?_
  try simp only [puts, Tk.put, Act.put, List.setIfInBounds_toArray, List.set_cons_zero, List.set_cons_succ]
  go_upto_region 1 with fail
  refine wp_region_M (fun W => Sep w (Res.join (woR o)).foot [.blk o.X 74 (wdc (.pointer (some ⟨o.P, 0, none⟩)) (.pointer (some ⟨o.Q, 0, none⟩)) o.a o.b o.c), .join (CHR o.P (newC 0 1000) o.v o.pv o.q o.bs), .join (CHR o.Q (newC 1 1000) o.v2 o.pv2 o.q2 o.bs2)] W) (fun W => Sep w (Res.join (woR o)).foot [.blk o.X 74 (wdc (.pointer (some ⟨o.P, 0, none⟩)) (.pointer (some ⟨o.Q, 0, none⟩)) o.a o.b o.c), .join (CHR o.P (newC 0 1000) o.v o.pv o.q o.bs), .join (CHR o.Q (newC 1 1000) o.v2 o.pv2 o.q2 o.bs2)] W) hmx hM.drew ?_
  clear hM
  rintro Y2 hM
  have hS := hM.sub (.cons_cons _ (.cons_cons _ (.cons_cons _ .slnil)))
  refine tD 2 [.val 0 (some 4) (pt o.X 7), .val 1 (some 5) (pt o.X 7), .val 2 (some 6) (pt o.X 7), .load 3 (some 7) 64 (pt o.X 7) (pt o.Q 0), .val 4 (some 8) (pt o.X 7), .val 5 (some 9) (pt o.X 7), .val 6 (some 10) (pt o.X 8), .load 7 (some 11) 3 (pt o.X 8) (.int .i64 0)] ⟨fun W h => ld_any _ _ Tryz.underlying64 rfl (h.at 0 rfl) 7 rfl, fun W h => ld_any _ _ Tryz.underlying3 rfl (h.at 0 rfl) 8 rfl, trivial⟩ hS ?_
  refine oD 8 1 (cD (some 12) 134 #[pt o.Q 0, .int .i64 0] ((chnEvents_any 0 _ (ChV.of (hM.oka 2 rfl)) (Nat.zero_le _)).mono ?_))
  rintro e Y3 ⟨v3, rfl, hR⟩
  refine And.intro (hS.below hR.b) ?_
  replace hS := hS.below hR.b
  replace hM := hM.gain hR
  clear hR
  replace hM : Sep w (Res.join (woR o)).foot [.own evc 160 27 (v3) ([]), .blk o.X 74 (wdc (.pointer (some ⟨o.P, 0, none⟩)) (.pointer (some ⟨o.Q, 0, none⟩)) o.a o.b o.c), .join (CHR o.P (newC 0 1000) o.v o.pv o.q o.bs), .join (CHR o.Q (newC 1 1000) o.v2 o.pv2 o.q2 o.bs2)] Y3 := hM
  obtain ⟨pe, ce, rfl⟩ := (hM.oka 0 rfl).slice evc_len
  replace hM : Sep w (Res.join (woR o)).foot [.own evc 160 27 (.slice pe 0 ce) ([]), .blk o.X 74 (wdc (.pointer (some ⟨o.P, 0, none⟩)) (.pointer (some ⟨o.Q, 0, none⟩)) o.a o.b o.c), .join (CHR o.P (newC 0 1000) o.v o.pv o.q o.bs), .join (CHR o.Q (newC 1 1000) o.v2 o.pv2 o.q2 o.bs2)] Y3 := hM
  refine tD 0 [.val 9 (some 3) (.slice pe 0 ce)] trivial hS ?_
  refine dD ?_
  try simp only [puts, Tk.put, Act.put, List.setIfInBounds_toArray, List.set_cons_zero, List.set_cons_succ]
  clear hS
  go_upto_region 2 with fail
  refine wp_region_fromM (fun W => Sep w (Res.join (woR o)).foot [.own evc 160 27 (.slice pe 0 ce) ([]), .blk o.X 74 (wdc (.pointer (some ⟨o.P, 0, none⟩)) (.pointer (some ⟨o.Q, 0, none⟩)) o.a o.b o.c), .join (CHR o.P (newC 0 1000) o.v o.pv o.q o.bs), .join (CHR o.Q (newC 1 1000) o.v2 o.pv2 o.q2 o.bs2)] W) hM ?_
  clear hM
  rintro Y4 hM
  refine tF 9 [.val 0 (some 13) (pt o.X 7), .val 1 (some 14) (pt o.X 7), .val 2 (some 15) (pt o.X 8), .load 3 (some 16) 3 (pt o.X 8) (.int .i64 0), .val 4 (some 17) (.slice pe 0 ce), .val 5 (some 18) (.int .i64 0), .val 6 (some 19) (.int .i64 0), .val 7 (some 20) (pt o.X 7), .val 8 (some 21) (pt o.X 8)] ⟨ld_any _ _ Tryz.underlying3 rfl (hM.at 1 rfl) 8 rfl, trivial⟩ ?_
  have hst := sto_part (wdc (.pointer (some ⟨o.P, 0, none⟩)) (.pointer (some ⟨o.Q, 0, none⟩)) o.a o.b o.c) (hM.at 1 rfl) 8 3 (.int .i64 0) ([.int .i64 0]) rfl (by kernel_rfl) (Nat.le_of_ble_eq_true rfl) rfl rfl
  refine sF 3 (pt o.X 8) (.int .i64 0) (hst) ?_
  clear hst
  replace hM := hM.set 1 (cs' := wdc (.pointer (some ⟨o.P, 0, none⟩)) (.pointer (some ⟨o.Q, 0, none⟩)) o.a o.b o.c) rfl rfl
  generalize World.setRow _ _ _ = Y5 at *
  refine dF ?_
  try simp only [puts, Tk.put, Act.put, List.setIfInBounds_toArray, List.set_cons_zero, List.set_cons_succ]
  go_upto_region 3 with fail
  refine wp_region_fromM (fun W => Sep w (Res.join (woR o)).foot [.own evc 160 27 (.slice pe 0 ce) ([]), .blk o.X 74 (wdc (.pointer (some ⟨o.P, 0, none⟩)) (.pointer (some ⟨o.Q, 0, none⟩)) o.a o.b o.c), .join (CHR o.P (newC 0 1000) o.v o.pv o.q o.bs), .join (CHR o.Q (newC 1 1000) o.v2 o.pv2 o.q2 o.bs2)] W) hM ?_
  clear hM
  rintro Y6 hM
  refine tF 2 [.val 0 (some 22) (.slice pe 0 ce), .val 1 (some 2) (.slice pe 0 ce)] trivial ?_
  refine dF ?_
  try simp only [puts, Tk.put, Act.put, List.setIfInBounds_toArray, List.set_cons_zero, List.set_cons_succ]
  have hT : RTurn (.join (woR o)) (.join (woR o)) w Y6 := Sep.fin (qs := woR o) (l := woR o) (hM.pick [1, 2, 3] (by decide) rfl) (List.Sublist.refl _)
  go_wp2_with fail
  go_ret
  exact ⟨_, _, rfl, hT⟩
set_option maxRecDepth 100000 in
set_option maxHeartbeats 4000000 in
theorem settleW_any (o : Wo) (w : World) (h : ROk (.join (woR o)) w) : Calls Tryz.prog 40 #[.pointer (some ⟨o.X, 0, none⟩)] w (StW o (.tuple #[]) w) := by
  have hmx : Tryz.prog.follows .mixedOrders = true := by kernel_rfl
  have hM := Sep.begin1 h
  clear h
  go_enter Tryz.func40, Tryz.ntmps40
  go_upto_region 0 with fail
  refine wp_region_fromM (fun W => Sep w (Res.join (woR o)).foot [.join (woR o)] W) hM ?_
  clear hM
  rintro Y1 hM
  refine tF 1 [.val 0 (some 5) (.int .i64 0)] trivial ?_
  refine dF ?_
  try simp only [puts, Tk.put, Act.put, List.setIfInBounds_toArray, List.set_cons_zero, List.set_cons_succ]
  go_wp2_with fail
  go_loopw [5] (fun i wr => ∃ j : Nat, (j = 0 ∨ j = 1 ∨ j = 2) ∧ i = .int .i64 (j : Int) ∧ Sep w (Res.join (woR o)).foot [.join (woR o)] wr) (fun i _ => 2 - (intOf i).toNat)
  case atStart => exact ⟨0, .inl rfl, rfl, hM⟩
  clear hM
  case round =>
    obtain ⟨j, hq, hi, hM⟩ := hrel
    rcases hq with rfl | rfl | rfl
    case inl =>
      replace hi : _ = Value.int .i64 0 := hi
      subst hi
      go_upto_region 1 with fail
      refine wp_region_fromM (fun W => Sep w (Res.join (woR o)).foot [.join (woR o)] W) hM ?_
      clear hM
      rintro Y2 hM
      refine tF 1 [.val 0 (some 6) (.bool true)] trivial ?_
      refine dF ?_
      try simp only [puts, Tk.put, Act.put, List.setIfInBounds_toArray, List.set_cons_zero, List.set_cons_succ]
      go_upto_region 2 with fail
      refine wp_region_fromM (fun W => Sep w (Res.join (woR o)).foot [.join (woR o)] W) hM ?_
      clear hM
      rintro Y3 hM
      refine tF 2 [.val 0 (some 7) (.int .i64 0), .val 1 (some 2) (.int .i64 0)] trivial ?_
      refine dF ?_
      try simp only [puts, Tk.put, Act.put, List.setIfInBounds_toArray, List.set_cons_zero, List.set_cons_succ]
      go_upto_region 3 with fail
      refine wp_region_fromM (fun W => Sep w (Res.join (woR o)).foot [.join (woR o)] W) hM ?_
      clear hM
      rintro Y4 hM
      refine tF 5 [.val 0 (some 8) (pt o.X 0), .val 1 (some 9) (.int .i64 0), .val 2 (some 10) (pt o.X 0), .val 3 (some 11) (pt o.X 5), .idx 4 (some 12) 67 (pt o.X 5) (.int .i64 0) (pt o.X 5)] ⟨idx_arr (k := 0) (c := 2) (o := 5) Tryz.underlying67 (by kernel_rfl) (by decide), trivial⟩ ?_
      refine cF (some 13) 82 #[pt o.X 5] ((news_0 o _ (hM.oka 0 rfl)).mono ?_)
      rintro e Y5 ⟨pn5, cn5, rfl, hT⟩
      replace hM := hM.turn 0 rfl hT rfl
      clear hT
      replace hM : Sep w (Res.join (woR o)).foot [.join (woR o)] Y5 := hM
      refine tF 8 [.val 6 (some 14) (.int .i64 0), .val 7 (some 15) (.int .i64 0)] trivial ?_
      refine dF ?_
      try simp only [puts, Tk.put, Act.put, List.setIfInBounds_toArray, List.set_cons_zero, List.set_cons_succ]
      go_wp2_with fail
      go_loopw [15] (fun i wr => i = .int .i64 0 ∧ Sep w (Res.join (woR o)).foot [.join (woR o)] wr) (fun i _ => 0)
      case atStart => exact ⟨rfl, hM⟩
      clear hM
      case round =>
        obtain ⟨rfl, hM⟩ := hrel
        go_upto_region 4 with fail
        refine wp_region_fromM (fun W => Sep w (Res.join (woR o)).foot [.join (woR o)] W) hM ?_
        clear hM
        rintro Y6 hM
        refine tF 1 [.val 0 (some 16) (.bool false)] trivial ?_
        refine dF ?_
        try simp only [puts, Tk.put, Act.put, List.setIfInBounds_toArray, List.set_cons_zero, List.set_cons_succ]
        go_upto_region 9 with fail
        refine wp_region_fromM (fun W => Sep w (Res.join (woR o)).foot [.join (woR o)] W) hM ?_
        clear hM
        rintro Y7 hM
        refine tF 2 [.val 0 (some 44) (.int .i64 1), .val 1 (some 5) (.int .i64 1)] trivial ?_
        refine dF ?_
        try simp only [puts, Tk.put, Act.put, List.setIfInBounds_toArray, List.set_cons_zero, List.set_cons_succ]
        have hM1 : Sep w (Res.join (woR o)).foot [.join (woR o)] Y7 := hM.pick [0] (by decide) rfl
        clear hM
        go_wp2_with fail
        go_roundw
        case rel => exact ⟨1, .inr (.inl rfl), rfl, hM1⟩
        case measure => simp [intOf]
    case inr.inl =>
      replace hi : _ = Value.int .i64 1 := hi
      subst hi
      go_upto_region 1 with fail
      refine wp_region_fromM (fun W => Sep w (Res.join (woR o)).foot [.join (woR o)] W) hM ?_
      clear hM
      rintro Y8 hM
      refine tF 1 [.val 0 (some 6) (.bool true)] trivial ?_
      refine dF ?_
      try simp only [puts, Tk.put, Act.put, List.setIfInBounds_toArray, List.set_cons_zero, List.set_cons_succ]
      go_upto_region 2 with fail
      refine wp_region_fromM (fun W => Sep w (Res.join (woR o)).foot [.join (woR o)] W) hM ?_
      clear hM
      rintro Y9 hM
      refine tF 2 [.val 0 (some 7) (.int .i64 1), .val 1 (some 2) (.int .i64 1)] trivial ?_
      refine dF ?_
      try simp only [puts, Tk.put, Act.put, List.setIfInBounds_toArray, List.set_cons_zero, List.set_cons_succ]
      go_upto_region 3 with fail
      refine wp_region_fromM (fun W => Sep w (Res.join (woR o)).foot [.join (woR o)] W) hM ?_
      clear hM
      rintro Y10 hM
      refine tF 5 [.val 0 (some 8) (pt o.X 0), .val 1 (some 9) (.int .i64 1), .val 2 (some 10) (pt o.X 0), .val 3 (some 11) (pt o.X 5), .idx 4 (some 12) 67 (pt o.X 5) (.int .i64 1) (pt o.X 7)] ⟨idx_arr (k := 1) (c := 2) (o := 5) Tryz.underlying67 (by kernel_rfl) (by decide), trivial⟩ ?_
      refine cF (some 13) 82 #[pt o.X 7] ((news_1 o _ (hM.oka 0 rfl)).mono ?_)
      rintro e Y11 ⟨pn11, cn11, rfl, hT⟩
      replace hM := hM.turn 0 rfl hT rfl
      clear hT
      replace hM : Sep w (Res.join (woR o)).foot [.join (woR o)] Y11 := hM
      refine tF 8 [.val 6 (some 14) (.int .i64 0), .val 7 (some 15) (.int .i64 0)] trivial ?_
      refine dF ?_
      try simp only [puts, Tk.put, Act.put, List.setIfInBounds_toArray, List.set_cons_zero, List.set_cons_succ]
      go_wp2_with fail
      go_loopw [15] (fun i wr => i = .int .i64 0 ∧ Sep w (Res.join (woR o)).foot [.join (woR o)] wr) (fun i _ => 0)
      case atStart => exact ⟨rfl, hM⟩
      clear hM
      case round =>
        obtain ⟨rfl, hM⟩ := hrel
        go_upto_region 4 with fail
        refine wp_region_fromM (fun W => Sep w (Res.join (woR o)).foot [.join (woR o)] W) hM ?_
        clear hM
        rintro Y12 hM
        refine tF 1 [.val 0 (some 16) (.bool false)] trivial ?_
        refine dF ?_
        try simp only [puts, Tk.put, Act.put, List.setIfInBounds_toArray, List.set_cons_zero, List.set_cons_succ]
        go_upto_region 9 with fail
        refine wp_region_fromM (fun W => Sep w (Res.join (woR o)).foot [.join (woR o)] W) hM ?_
        clear hM
        rintro Y13 hM
        refine tF 2 [.val 0 (some 44) (.int .i64 2), .val 1 (some 5) (.int .i64 2)] trivial ?_
        refine dF ?_
        try simp only [puts, Tk.put, Act.put, List.setIfInBounds_toArray, List.set_cons_zero, List.set_cons_succ]
        have hM1 : Sep w (Res.join (woR o)).foot [.join (woR o)] Y13 := hM.pick [0] (by decide) rfl
        clear hM
        go_wp2_with fail
        go_roundw
        case rel => exact ⟨2, .inr (.inr (rfl)), rfl, hM1⟩
        case measure => simp [intOf]
    case inr.inr =>
      replace hi : _ = Value.int .i64 2 := hi
      subst hi
      go_upto_region 1 with fail
      refine wp_region_fromM (fun W => Sep w (Res.join (woR o)).foot [.join (woR o)] W) hM ?_
      clear hM
      rintro Y14 hM
      refine tF 1 [.val 0 (some 6) (.bool false)] trivial ?_
      refine dF ?_
      try simp only [puts, Tk.put, Act.put, List.setIfInBounds_toArray, List.set_cons_zero, List.set_cons_succ]
      go_wp2_with fail
      (try simp only [Exit.inBlock, Exit.then]); refine bodyPost_ret (results_none rfl _ _ _) rfl ?_
      exact ⟨rfl, hM.fin1⟩
set_option maxRecDepth 100000 in
set_option maxHeartbeats 4000000 in
theorem stepW_any (o : Wo) (w : World) (h : ROk (.join (woR o)) w) : Calls Tryz.prog 11 #[.pointer (some ⟨o.X, 0, none⟩), spv noSp] w (StW o (.tuple #[]) w) := by
  have hmx : Tryz.prog.follows .mixedOrders = true := by kernel_rfl
  have hM := Sep.begin1 h
  clear h
  go_enter Tryz.func11, Tryz.ntmps11
  go_upto_region 0 with fail
  refine wp_region_fromM (fun W => Sep w (Res.join (woR o)).foot [.join (woR o)] W) hM ?_
  clear hM
  rintro Y1 hM
  refine rF (some 3) (pt Y1.heap.size 0) (Y1.alloc (.cells (spc noSp).toArray 24)) ?_
  replace hM := hM.alloc 24 (spc noSp)
  generalize World.alloc _ _ = Y2 at *
  generalize hNe : Y1.heap.size = N2 at *
  clear hNe
  refine dF ?_
  try simp only [Act.put, List.setIfInBounds_toArray, List.set_cons_zero, List.set_cons_succ]
  go_upto_region 1 with fail
  refine wp_region_fromM (fun W => Sep w (Res.join (woR o)).foot [.blk N2 24 (spc noSp), .join (woR o)] W) hM ?_
  clear hM
  rintro Y3 hM
  refine tF 1 [.val 0 (some 4) (pt o.X 0)] trivial ?_
  refine cF (some 5) 26 #[pt o.X 0] ((thereW_any o _ (hM.oka 1 rfl)).mono ?_)
  rintro e Y4 ⟨rfl, hT⟩
  replace hM := hM.turn 1 rfl hT rfl
  clear hT
  replace hM : Sep w (Res.join (woR o)).foot [.blk N2 24 (spc noSp), .join (woR o)] Y4 := hM
  refine tF 3 [.val 2 (some 6) (.bool false)] trivial ?_
  refine dF ?_
  try simp only [puts, Tk.put, Act.put, List.setIfInBounds_toArray, List.set_cons_zero, List.set_cons_succ]
  go_upto_region 2 with fail
  refine wp_region_fromM (fun W => Sep w (Res.join (woR o)).foot [.blk N2 24 (spc noSp), .join (woR o)] W) hM ?_
  clear hM
  rintro Y5 hM
  refine tF 2 [.val 0 (some 7) (pt N2 0), .load 1 (some 8) 3 (pt N2 0) (.int .i64 0)] ⟨ld_any _ _ Tryz.underlying3 rfl (hM.at 0 rfl) 0 rfl, trivial⟩ ?_
  refine dF ?_
  try simp only [puts, Tk.put, Act.put, List.setIfInBounds_toArray, List.set_cons_zero, List.set_cons_succ]
  go_upto_region 3 with fail
  refine wp_region_fromM (fun W => Sep w (Res.join (woR o)).foot [.blk N2 24 (spc noSp), .join (woR o)] W) hM ?_
  clear hM
  rintro Y6 hM
  refine tF 2 [.val 0 (some 10) (.bool false), .val 1 (some 9) (.bool false)] trivial ?_
  refine dF ?_
  try simp only [puts, Tk.put, Act.put, List.setIfInBounds_toArray, List.set_cons_zero, List.set_cons_succ]
  go_upto_region 5 with fail
  refine wp_region_fromM (fun W => Sep w (Res.join (woR o)).foot [.blk N2 24 (spc noSp), .join (woR o)] W) hM ?_
  clear hM
  rintro Y7 hM
  refine tF 2 [.val 0 (some 14) (.bool false), .val 1 (some 13) (.bool false)] trivial ?_
  refine dF ?_
  try simp only [puts, Tk.put, Act.put, List.setIfInBounds_toArray, List.set_cons_zero, List.set_cons_succ]
  go_upto_region 7 with fail
  refine wp_region_fromM (fun W => Sep w (Res.join (woR o)).foot [.blk N2 24 (spc noSp), .join (woR o)] W) hM ?_
  clear hM
  rintro Y8 hM
  refine tF 2 [.val 0 (some 20) (.bool false), .val 1 (some 19) (.bool false)] trivial ?_
  refine dF ?_
  try simp only [puts, Tk.put, Act.put, List.setIfInBounds_toArray, List.set_cons_zero, List.set_cons_succ]
  go_upto_region 9 with fail
  refine wp_region_fromM (fun W => Sep w (Res.join (woR o)).foot [.blk N2 24 (spc noSp), .join (woR o)] W) hM ?_
  clear hM
  rintro Y9 hM
  refine tF 2 [.val 0 (some 26) (.bool false), .val 1 (some 25) (.bool false)] trivial ?_
  refine dF ?_
  try simp only [puts, Tk.put, Act.put, List.setIfInBounds_toArray, List.set_cons_zero, List.set_cons_succ]
  go_upto_region 11 with fail
  refine wp_region_fromM (fun W => Sep w (Res.join (woR o)).foot [.blk N2 24 (spc noSp), .join (woR o)] W) hM ?_
  clear hM
  rintro Y10 hM
  refine tF 2 [.val 0 (some 42) (.bool false), .val 1 (some 41) (.bool false)] trivial ?_
  refine dF ?_
  try simp only [puts, Tk.put, Act.put, List.setIfInBounds_toArray, List.set_cons_zero, List.set_cons_succ]
  go_upto_region 13 with fail
  refine wp_region_fromM (fun W => Sep w (Res.join (woR o)).foot [.blk N2 24 (spc noSp), .join (woR o)] W) hM ?_
  clear hM
  rintro Y11 hM
  refine tF 2 [.val 0 (some 54) (.bool false), .val 1 (some 53) (.bool false)] trivial ?_
  refine dF ?_
  try simp only [puts, Tk.put, Act.put, List.setIfInBounds_toArray, List.set_cons_zero, List.set_cons_succ]
  go_upto_region 15 with fail
  refine wp_region_fromM (fun W => Sep w (Res.join (woR o)).foot [.blk N2 24 (spc noSp), .join (woR o)] W) hM ?_
  clear hM
  rintro Y12 hM
  refine tF 2 [.val 0 (some 63) (.bool false), .val 1 (some 62) (.bool false)] trivial ?_
  refine dF ?_
  try simp only [puts, Tk.put, Act.put, List.setIfInBounds_toArray, List.set_cons_zero, List.set_cons_succ]
  go_upto_region 17 with fail
  refine wp_region_fromM (fun W => Sep w (Res.join (woR o)).foot [.blk N2 24 (spc noSp), .join (woR o)] W) hM ?_
  clear hM
  rintro Y13 hM
  refine tF 2 [.val 0 (some 71) (.bool false), .val 1 (some 70) (.bool false)] trivial ?_
  refine dF ?_
  try simp only [puts, Tk.put, Act.put, List.setIfInBounds_toArray, List.set_cons_zero, List.set_cons_succ]
  go_upto_region 19 with fail
  refine wp_region_fromM (fun W => Sep w (Res.join (woR o)).foot [.blk N2 24 (spc noSp), .join (woR o)] W) hM ?_
  clear hM
  rintro Y14 hM
  refine tF 2 [.val 0 (some 85) (.bool false), .val 1 (some 84) (.bool false)] trivial ?_
  refine dF ?_
  try simp only [puts, Tk.put, Act.put, List.setIfInBounds_toArray, List.set_cons_zero, List.set_cons_succ]
  go_upto_region 21 with fail
  refine wp_region_fromM (fun W => Sep w (Res.join (woR o)).foot [.blk N2 24 (spc noSp), .join (woR o)] W) hM ?_
  clear hM
  rintro Y15 hM
  refine tF 2 [.val 0 (some 96) (.bool false), .val 1 (some 95) (.bool false)] trivial ?_
  refine dF ?_
  try simp only [puts, Tk.put, Act.put, List.setIfInBounds_toArray, List.set_cons_zero, List.set_cons_succ]
  go_upto_region 22 with fail
  refine wp_region_fromM (fun W => Sep w (Res.join (woR o)).foot [.blk N2 24 (spc noSp), .join (woR o)] W) hM ?_
  clear hM
  rintro Y16 hM
  refine tF 2 [.val 0 (some 97) (.bool false), .val 1 (some 95) (.bool false)] trivial ?_
  refine dF ?_
  try simp only [puts, Tk.put, Act.put, List.setIfInBounds_toArray, List.set_cons_zero, List.set_cons_succ]
  go_upto_region 24 with fail
  refine wp_region_fromM (fun W => Sep w (Res.join (woR o)).foot [.blk N2 24 (spc noSp), .join (woR o)] W) hM ?_
  clear hM
  rintro Y17 hM
  refine tF 2 [.val 0 (some 102) (.bool false), .val 1 (some 101) (.bool false)] trivial ?_
  refine dF ?_
  try simp only [puts, Tk.put, Act.put, List.setIfInBounds_toArray, List.set_cons_zero, List.set_cons_succ]
  go_upto_region 26 with fail
  refine wp_region_fromM (fun W => Sep w (Res.join (woR o)).foot [.blk N2 24 (spc noSp), .join (woR o)] W) hM ?_
  clear hM
  rintro Y18 hM
  refine tF 2 [.val 0 (some 110) (.bool false), .val 1 (some 109) (.bool false)] trivial ?_
  refine dF ?_
  try simp only [puts, Tk.put, Act.put, List.setIfInBounds_toArray, List.set_cons_zero, List.set_cons_succ]
  go_upto_region 28 with fail
  refine wp_region_fromM (fun W => Sep w (Res.join (woR o)).foot [.blk N2 24 (spc noSp), .join (woR o)] W) hM ?_
  clear hM
  rintro Y19 hM
  refine tF 1 [.val 0 (some 113) (pt o.X 0)] trivial ?_
  refine cF (some 114) 40 #[pt o.X 0] ((settleW_any o _ (hM.oka 1 rfl)).mono ?_)
  rintro e Y20 ⟨rfl, hT⟩
  replace hM := hM.turn 1 rfl hT rfl
  clear hT
  replace hM : Sep w (Res.join (woR o)).foot [.blk N2 24 (spc noSp), .join (woR o)] Y20 := hM
  refine dF ?_
  try simp only [puts, Tk.put, Act.put, List.setIfInBounds_toArray, List.set_cons_zero, List.set_cons_succ]
  replace hM : Sep w (Res.join (woR o)).foot [.join (woR o)] Y20 := hM.pick [1] (by decide) rfl
  go_wp2_with fail
  (try simp only [Exit.inBlock, Exit.then]); refine bodyPost_ret (results_none rfl _ _ _) rfl ?_
  exact ⟨rfl, hM.fin1⟩
end Go.Proofs.YtemknjnljciioaaGreat
