/-
  A message as a plain thing; whether it may be; what is put of it, and read, as states of octets; what is left of it; A user: the place of a deal; an auction is opened; A user that nobody made does nothing; The reference's Root; A user is made, and is up; Frames with many slots: what is forgotten at a cut or a loop is ONE function of the slot's number (not a variable a slot): the kernel's work is l
-/
import Derived.Maps.Range
import Derived.Outline
import Derived.Deep.Cut
import Derived.Deep.CutBlock
import Derived.LoopTactic
import Derived.Test.YtbjpifcgnombaaaGreatRows
import Derived.ProofKit
import Derived.OpenShut
import Derived.Laws.IdiomArrays
import Derived.Lib.SmallJoins
import Derived.Below
import Derived.Deep.Slices
import Derived.SizedLaws
import Derived.Carry
import Derived.ChangeMaps5
import Derived.JoinedCond
import Derived.Deep.Fields
import Derived.Test.YtbjpifcgnombaaaGreatN13
namespace Go.Proofs.YtbjpifcgnombaaaGreat
open Go.RowKit Go.Shelf
structure Ms where
  kd : Int
  ak : Ak
  bd : Bd
  iv : Trf
  vr : Sid
  f0 : Nat
  f1 : Nat
  f2 : Nat
  f3 : Nat
  sg : ByteArray
abbrev msc (m : Ms) : List Value := [.int .i64 m.kd, .int .i64 m.ak.us, .int .i64 m.ak.se, .int .i64 m.ak.re, .int .i64 m.ak.to, .int .u64 (m.ak.a0 : Nat), .int .u64 (m.ak.a1 : Nat), .int .u64 (m.ak.a2 : Nat), .int .u64 (m.ak.a3 : Nat), .string m.ak.id, .int .i64 m.bd.ro, .int .i64 m.bd.k.us, .int .i64 m.bd.k.se, .int .i64 m.bd.k.re, .int .i64 m.bd.k.to, .int .u64 (m.bd.k.a0 : Nat), .int .u64 (m.bd.k.a1 : Nat), .int .u64 (m.bd.k.a2 : Nat), .int .u64 (m.bd.k.a3 : Nat), .string m.bd.k.id, .int .u64 (m.bd.b0 : Nat), .int .u64 (m.bd.b1 : Nat), .int .u64 (m.bd.b2 : Nat), .int .u64 (m.bd.b3 : Nat), .int .i64 m.bd.un, .string m.bd.sg, .int .i64 m.iv.us, .string m.iv.rt, .int .i64 m.iv.ro, .int .i64 m.iv.se, .int .i64 m.iv.re, .int .i64 m.iv.to, .string m.iv.id, .int .u64 (m.vr.a0 : Nat), .int .u64 (m.vr.a1 : Nat), .int .u64 (m.vr.a2 : Nat), .int .u64 (m.vr.a3 : Nat), .int .i64 m.vr.x, .int .u64 (m.f0 : Nat), .int .u64 (m.f1 : Nat), .int .u64 (m.f2 : Nat), .int .u64 (m.f3 : Nat), .string m.sg]
abbrev msv (m : Ms) : Value := .agg (msc m).toArray
def noM : Ms := ⟨0, noA, noB, noI, noV, 0, 0, 0, 0, emptyB⟩
end Go.Proofs.YtbjpifcgnombaaaGreat
namespace Go.Proofs.YtbjpifcgnombaaaGreat
open Go.RowKit Go.Shelf
attribute [local irreducible] wpFrom wpAnyH StepH
theorem lv_ms {W : World} {B : Nat} {T : TypeId} {x : Ms} (h : Blk W B T (msc x)) : (loadVar 66 ⟨B, 0, none⟩).run Tryz.prog W = .ok (msv x) W := run_loadVar_row W B T _ (msc x).toArray (0, 0) _ h Tryz.underlying66 rfl (by kernel_rfl)
section
variable {c : Cl} {a : Ak} {now : Int}
end
end Go.Proofs.YtbjpifcgnombaaaGreat
namespace Go.Proofs.YtbjpifcgnombaaaGreat
open Go.RowKit Go.Shelf
attribute [local irreducible] wpFrom wpAnyH StepH
theorem clThere_no {p : Value} (w : World) (h : NoU w p) : Calls Tryz.prog 36 #[p] w fun e W' => e = .returned (.bool false) ∧ W' = w := by
  rcases h with rfl | ⟨B, rfl, hB⟩
  · go_enter Tryz.func36, Tryz.ntmps36
    go_wp2
    go_ret
    exact ⟨rfl, rfl⟩
  · go_enter Tryz.func36, Tryz.ntmps36
    go_upto_region 1 with fail
    refine wp_region_from ?_
    refine tF 11 [.val 0 (some 3) (pt B 0), .val 1 (some 4) (.bool true), .val 2 (some 5) (.bool true), .val 3 (some 6) (pt B 0), .val 4 (some 7) (pt B 0), .val 5 (some 8) (pt B 0), .val 6 (some 9) (pt B 5), .load 7 (some 10) 84 (pt B 5) (.pointer none), .val 8 (some 11) (.bool false), .val 9 (some 12) (.bool false), .val 10 (some 2) (.bool false)] ⟨ld_any _ _ Tryz.underlying84 rfl hB 5 rfl, trivial⟩ ?_
    refine dF ?_
    try simp only [puts, Tk.put, Act.put, List.setIfInBounds_toArray, List.set_cons_zero, List.set_cons_succ]
    go_wp2_with fail
    go_ret
    exact ⟨rfl, rfl⟩
set_option maxRecDepth 100000 in
set_option maxHeartbeats 4000000 in
theorem clfault_no {p : Value}  (w : World) (hn : NoU w p) : Calls Tryz.prog 53 #[p] w fun e W' => e = .returned (.int .i64 9) ∧ Below w.heap.size w W' := by
  have hmx : Tryz.prog.follows .mixedOrders = true := by kernel_rfl
  have HN := Lib.hid hn
  clear hn
  have hM := Sep.start w
  go_enter Tryz.func53, Tryz.ntmps53
  go_upto_region 0 with fail
  refine wp_region_fromM (fun W => Sep w [] [] W) hM ?_
  clear hM
  rintro Y1 hM
  refine tF 1 [.val 0 (some 2) (.int .i64 0)] trivial ?_
  refine dF ?_
  try simp only [puts, Tk.put, Act.put, List.setIfInBounds_toArray, List.set_cons_zero, List.set_cons_succ]
  go_upto_region 1 with fail
  refine wp_region_fromM (fun W => Sep w [] [] W) hM ?_
  clear hM
  rintro Y2 hM
  refine tF 1 [.val 0 (some 3) (p)] trivial ?_
  refine cF (some 4) 36 #[p] ((clThere_no _ (HN.out.below hM.b)).mono ?_)
  rintro e Y3 ⟨rfl, rfl⟩
  refine tF 3 [.val 2 (some 5) (.bool true)] trivial ?_
  refine dF ?_
  try simp only [puts, Tk.put, Act.put, List.setIfInBounds_toArray, List.set_cons_zero, List.set_cons_succ]
  go_upto_region 2 with fail
  refine wp_region_fromM (fun W => Sep w [] [] W) hM ?_
  clear hM
  rintro Y4 hM
  refine tF 1 [.val 0 (some 2) (.int .i64 9)] trivial ?_
  refine dF ?_
  try simp only [puts, Tk.put, Act.put, List.setIfInBounds_toArray, List.set_cons_zero, List.set_cons_succ]
  go_wp2_with fail
  go_ret
  exact ⟨rfl, hM.b⟩
set_option maxRecDepth 100000 in
set_option maxHeartbeats 4000000 in
theorem clAsk_no {p : Value} (a : Ak) (now : Int) (w : World) (hn : NoU w p) : Calls Tryz.prog 26 #[p, akv a, .int .i64 now] w fun e W' => e = .returned (.tuple #[msv noM, .int .i64 9]) ∧ Below w.heap.size w W' := by
  have hmx : Tryz.prog.follows .mixedOrders = true := by kernel_rfl
  have HN := Lib.hid hn
  clear hn
  have hM := Sep.start w
  go_enter Tryz.func26, Tryz.ntmps26
  go_upto_region 0 with fail
  refine wp_region_fromM (fun W => Sep w [] [] W) hM ?_
  clear hM
  rintro Y1 hM
  refine rF (some 4) (pt Y1.heap.size 0) (Y1.alloc (.cells (akc a).toArray 36)) ?_
  replace hM := hM.alloc 36 (akc a)
  generalize World.alloc _ _ = Y2 at *
  generalize hNe : Y1.heap.size = N2 at *
  clear hNe
  refine rF (some 6) (pt Y2.heap.size 0) (Y2.alloc (.cells (msc noM).toArray 66)) ?_
  replace hM := hM.alloc 66 (msc noM)
  generalize World.alloc _ _ = Y3 at *
  generalize hNe : Y2.heap.size = N3 at *
  clear hNe
  refine tF 3 [.val 2 (some 7) (.int .i64 0)] trivial ?_
  refine dF ?_
  try simp only [puts, Tk.put, Act.put, List.setIfInBounds_toArray, List.set_cons_zero, List.set_cons_succ]
  go_upto_region 1 with fail
  refine wp_region_fromM (fun W => Sep w [] [.blk N3 66 (msc noM), .blk N2 36 (akc a)] W) hM ?_
  clear hM
  rintro Y4 hM
  refine tF 1 [.val 0 (some 10) (p)] trivial ?_
  refine cF (some 11) 53 #[p] ((clfault_no _ (HN.out.below hM.b)).mono ?_)
  rintro e Y5 ⟨rfl, hb⟩
  replace hM := hM.below hb
  clear hb
  refine tF 3 [.val 2 (some 8) (.int .i64 9)] trivial ?_
  refine dF ?_
  try simp only [puts, Tk.put, Act.put, List.setIfInBounds_toArray, List.set_cons_zero, List.set_cons_succ]
  go_upto_region 2 with fail
  refine wp_region_fromM (fun W => Sep w [] [.blk N3 66 (msc noM), .blk N2 36 (akc a)] W) hM ?_
  clear hM
  rintro Y6 hM
  refine tF 2 [.val 0 (some 12) (.int .i64 9), .val 1 (some 13) (.bool true)] trivial ?_
  refine dF ?_
  try simp only [puts, Tk.put, Act.put, List.setIfInBounds_toArray, List.set_cons_zero, List.set_cons_succ]
  go_upto_region 3 with fail
  refine wp_region_fromM (fun W => Sep w [] [.blk N3 66 (msc noM), .blk N2 36 (akc a)] W) hM ?_
  clear hM
  rintro Y7 hM
  refine tF 2 [.val 0 (some 14) (msv noM), .val 1 (some 15) (.int .i64 9)] trivial ?_
  have hst := sto_part (msc noM) (hM.at 0 rfl) 0 66 (msv noM) (msc noM) rfl (by kernel_rfl) (Nat.le_of_ble_eq_true rfl) rfl rfl
  refine sF 66 (pt N3 0) (msv noM) (hst) ?_
  clear hst
  replace hM := hM.set 0 (cs' := msc noM) rfl rfl
  generalize World.setRow _ _ _ = Y8 at *
  refine tF 4 [.val 3 (some 7) (.int .i64 9)] trivial ?_
  refine dF ?_
  try simp only [puts, Tk.put, Act.put, List.setIfInBounds_toArray, List.set_cons_zero, List.set_cons_succ]
  go_wp2_with fail
  exact bodyPost_ret (v := .tuple #[msv noM, .int .i64 9]) (res_two rfl _ rfl rfl (lv_ms (hM.at 0 rfl))) rfl ⟨rfl, hM.b⟩
set_option maxRecDepth 100000 in
set_option maxHeartbeats 4000000 in
theorem clHear_no {p : Value} (b : Value) (now : Int) (w : World) (hn : NoU w p) : Calls Tryz.prog 24 #[p, b, .int .i64 now] w fun e W' => e = .returned (.bool false) ∧ Below w.heap.size w W' := by
  have hmx : Tryz.prog.follows .mixedOrders = true := by kernel_rfl
  have HN := Lib.hid hn
  clear hn
  have hM := Sep.start w
  go_enter Tryz.func24, Tryz.ntmps24
  go_upto_region 0 with fail
  refine wp_region_fromM (fun W => Sep w [] [] W) hM ?_
  clear hM
  rintro Y1 hM
  refine tF 1 [.val 0 (some 6) (.bool false)] trivial ?_
  refine dF ?_
  try simp only [puts, Tk.put, Act.put, List.setIfInBounds_toArray, List.set_cons_zero, List.set_cons_succ]
  go_upto_region 1 with fail
  refine wp_region_fromM (fun W => Sep w [] [] W) hM ?_
  clear hM
  rintro Y2 hM
  refine tF 1 [.val 0 (some 9) (p)] trivial ?_
  refine cF (some 10) 53 #[p] ((clfault_no _ (HN.out.below hM.b)).mono ?_)
  rintro e Y3 ⟨rfl, hb⟩
  replace hM := hM.below hb
  clear hb
  refine tF 3 [.val 2 (some 11) (.bool true)] trivial ?_
  refine dF ?_
  try simp only [puts, Tk.put, Act.put, List.setIfInBounds_toArray, List.set_cons_zero, List.set_cons_succ]
  go_upto_region 2 with fail
  refine wp_region_fromM (fun W => Sep w [] [] W) hM ?_
  clear hM
  rintro Y4 hM
  refine tF 1 [.val 0 (some 6) (.bool false)] trivial ?_
  refine dF ?_
  try simp only [puts, Tk.put, Act.put, List.setIfInBounds_toArray, List.set_cons_zero, List.set_cons_succ]
  go_wp2_with fail
  go_ret
  exact ⟨rfl, hM.b⟩
set_option maxRecDepth 100000 in
set_option maxHeartbeats 4000000 in
theorem clLook_no {p : Value} (s r : Value) (w : World) (hn : NoU w p) : Calls Tryz.prog 18 #[p, s, r] w fun e W' => e = .returned (.tuple #[.slice none 0 0, .slice none 0 0]) ∧ Below w.heap.size w W' := by
  have hmx : Tryz.prog.follows .mixedOrders = true := by kernel_rfl
  have HN := Lib.hid hn
  clear hn
  have hM := Sep.start w
  go_enter Tryz.func18, Tryz.ntmps18
  go_upto_region 0 with fail
  refine wp_region_fromM (fun W => Sep w [] [] W) hM ?_
  clear hM
  rintro Y1 hM
  refine tF 2 [.val 0 (some 6) (.slice none 0 0), .val 1 (some 7) (.slice none 0 0)] trivial ?_
  refine dF ?_
  try simp only [puts, Tk.put, Act.put, List.setIfInBounds_toArray, List.set_cons_zero, List.set_cons_succ]
  go_upto_region 1 with fail
  refine wp_region_fromM (fun W => Sep w [] [] W) hM ?_
  clear hM
  rintro Y2 hM
  refine tF 1 [.val 0 (some 9) (p)] trivial ?_
  refine cF (some 10) 53 #[p] ((clfault_no _ (HN.out.below hM.b)).mono ?_)
  rintro e Y3 ⟨rfl, hb⟩
  replace hM := hM.below hb
  clear hb
  refine tF 3 [.val 2 (some 11) (.bool true)] trivial ?_
  refine dF ?_
  try simp only [puts, Tk.put, Act.put, List.setIfInBounds_toArray, List.set_cons_zero, List.set_cons_succ]
  go_upto_region 2 with fail
  refine wp_region_fromM (fun W => Sep w [] [] W) hM ?_
  clear hM
  rintro Y4 hM
  refine tF 2 [.val 0 (some 6) (.slice none 0 0), .val 1 (some 7) (.slice none 0 0)] trivial ?_
  refine dF ?_
  try simp only [puts, Tk.put, Act.put, List.setIfInBounds_toArray, List.set_cons_zero, List.set_cons_succ]
  go_wp2_with fail
  go_ret2
  exact ⟨rfl, hM.b⟩
set_option maxRecDepth 100000 in
set_option maxHeartbeats 4000000 in
theorem clFall_no {p : Value} (s r : Value) (n : Int) (w : World) (hn : NoU w p) : Calls Tryz.prog 22 #[p, s, r, .int .i64 n] w fun e W' => e = .returned (.tuple #[]) ∧ Below w.heap.size w W' := by
  have hmx : Tryz.prog.follows .mixedOrders = true := by kernel_rfl
  have HN := Lib.hid hn
  clear hn
  have hM := Sep.start w
  go_enter Tryz.func22, Tryz.ntmps22
  go_upto_region 0 with fail
  refine wp_region_fromM (fun W => Sep w [] [] W) hM ?_
  clear hM
  rintro Y1 hM
  refine tF 1 [.val 0 (some 8) (p)] trivial ?_
  refine cF (some 9) 53 #[p] ((clfault_no _ (HN.out.below hM.b)).mono ?_)
  rintro e Y2 ⟨rfl, hb⟩
  replace hM := hM.below hb
  clear hb
  refine tF 3 [.val 2 (some 10) (.bool true)] trivial ?_
  refine dF ?_
  try simp only [puts, Tk.put, Act.put, List.setIfInBounds_toArray, List.set_cons_zero, List.set_cons_succ]
  go_wp2_with fail
  (try simp only [Exit.inBlock, Exit.then]); refine bodyPost_ret (results_none rfl _ _ _) rfl ?_
  exact ⟨rfl, hM.b⟩
set_option maxRecDepth 100000 in
set_option maxHeartbeats 4000000 in
theorem clRecall_no {p : Value} (i : ByteArray) (w : World) (hn : NoU w p) : Calls Tryz.prog 21 #[p, .string i] w fun e W' => e = .returned (.int .i64 9) ∧ Below w.heap.size w W' := by
  have hmx : Tryz.prog.follows .mixedOrders = true := by kernel_rfl
  have HN := Lib.hid hn
  clear hn
  have hM := Sep.start w
  go_enter Tryz.func21, Tryz.ntmps21
  go_upto_region 0 with fail
  refine wp_region_fromM (fun W => Sep w [] [] W) hM ?_
  clear hM
  rintro Y1 hM
  refine tF 1 [.val 0 (some 4) (.int .i64 0)] trivial ?_
  refine dF ?_
  try simp only [puts, Tk.put, Act.put, List.setIfInBounds_toArray, List.set_cons_zero, List.set_cons_succ]
  go_upto_region 1 with fail
  refine wp_region_fromM (fun W => Sep w [] [] W) hM ?_
  clear hM
  rintro Y2 hM
  refine tF 1 [.val 0 (some 9) (p)] trivial ?_
  refine cF (some 10) 53 #[p] ((clfault_no _ (HN.out.below hM.b)).mono ?_)
  rintro e Y3 ⟨rfl, hb⟩
  replace hM := hM.below hb
  clear hb
  refine tF 3 [.val 2 (some 5) (.int .i64 9)] trivial ?_
  refine dF ?_
  try simp only [puts, Tk.put, Act.put, List.setIfInBounds_toArray, List.set_cons_zero, List.set_cons_succ]
  go_upto_region 2 with fail
  refine wp_region_fromM (fun W => Sep w [] [] W) hM ?_
  clear hM
  rintro Y4 hM
  refine tF 2 [.val 0 (some 11) (.int .i64 9), .val 1 (some 12) (.bool true)] trivial ?_
  refine dF ?_
  try simp only [puts, Tk.put, Act.put, List.setIfInBounds_toArray, List.set_cons_zero, List.set_cons_succ]
  go_upto_region 3 with fail
  refine wp_region_fromM (fun W => Sep w [] [] W) hM ?_
  clear hM
  rintro Y5 hM
  refine tF 2 [.val 0 (some 13) (.int .i64 9), .val 1 (some 4) (.int .i64 9)] trivial ?_
  refine dF ?_
  try simp only [puts, Tk.put, Act.put, List.setIfInBounds_toArray, List.set_cons_zero, List.set_cons_succ]
  go_wp2_with fail
  go_ret
  exact ⟨rfl, hM.b⟩
set_option maxRecDepth 100000 in
set_option maxHeartbeats 4000000 in
theorem clUp_no {p : Value}  (w : World) (hn : NoU w p) : Calls Tryz.prog 25 #[p] w fun e W' => e = .returned (.int .i64 9) ∧ Below w.heap.size w W' := by
  have hmx : Tryz.prog.follows .mixedOrders = true := by kernel_rfl
  have HN := Lib.hid hn
  clear hn
  have hM := Sep.start w
  go_enter Tryz.func25, Tryz.ntmps25
  go_upto_region 0 with fail
  refine wp_region_fromM (fun W => Sep w [] [] W) hM ?_
  clear hM
  rintro Y1 hM
  refine tF 1 [.val 0 (some 2) (.int .i64 0)] trivial ?_
  refine dF ?_
  try simp only [puts, Tk.put, Act.put, List.setIfInBounds_toArray, List.set_cons_zero, List.set_cons_succ]
  go_upto_region 1 with fail
  refine wp_region_fromM (fun W => Sep w [] [] W) hM ?_
  clear hM
  rintro Y2 hM
  refine tF 1 [.val 0 (some 3) (p)] trivial ?_
  refine cF (some 4) 53 #[p] ((clfault_no _ (HN.out.below hM.b)).mono ?_)
  rintro e Y3 ⟨rfl, hb⟩
  replace hM := hM.below hb
  clear hb
  refine tF 3 [.val 2 (some 5) (.bool true)] trivial ?_
  refine dF ?_
  try simp only [puts, Tk.put, Act.put, List.setIfInBounds_toArray, List.set_cons_zero, List.set_cons_succ]
  go_upto_region 2 with fail
  refine wp_region_fromM (fun W => Sep w [] [] W) hM ?_
  clear hM
  rintro Y4 hM
  refine tF 1 [.val 0 (some 2) (.int .i64 9)] trivial ?_
  refine dF ?_
  try simp only [puts, Tk.put, Act.put, List.setIfInBounds_toArray, List.set_cons_zero, List.set_cons_succ]
  go_wp2_with fail
  go_ret
  exact ⟨rfl, hM.b⟩
set_option maxRecDepth 100000 in
set_option maxHeartbeats 4000000 in
theorem clDown_no {p : Value}  (w : World) (hn : NoU w p) : Calls Tryz.prog 23 #[p] w fun e W' => e = .returned (.bool true) ∧ Below w.heap.size w W' := by
  have hmx : Tryz.prog.follows .mixedOrders = true := by kernel_rfl
  have HN := Lib.hid hn
  clear hn
  have hM := Sep.start w
  go_enter Tryz.func23, Tryz.ntmps23
  go_upto_region 0 with fail
  refine wp_region_fromM (fun W => Sep w [] [] W) hM ?_
  clear hM
  rintro Y1 hM
  refine tF 1 [.val 0 (some 2) (.bool false)] trivial ?_
  refine dF ?_
  try simp only [puts, Tk.put, Act.put, List.setIfInBounds_toArray, List.set_cons_zero, List.set_cons_succ]
  go_upto_region 1 with fail
  refine wp_region_fromM (fun W => Sep w [] [] W) hM ?_
  clear hM
  rintro Y2 hM
  refine tF 1 [.val 0 (some 3) (p)] trivial ?_
  refine cF (some 4) 53 #[p] ((clfault_no _ (HN.out.below hM.b)).mono ?_)
  rintro e Y3 ⟨rfl, hb⟩
  replace hM := hM.below hb
  clear hb
  refine tF 4 [.val 2 (some 5) (.bool true), .val 3 (some 2) (.bool true)] trivial ?_
  refine dF ?_
  try simp only [puts, Tk.put, Act.put, List.setIfInBounds_toArray, List.set_cons_zero, List.set_cons_succ]
  go_wp2_with fail
  go_ret
  exact ⟨rfl, hM.b⟩
set_option maxRecDepth 100000 in
set_option maxHeartbeats 4000000 in
theorem clDeals_no {p : Value}  (w : World) (hn : NoU w p) : Calls Tryz.prog 8 #[p] w fun e W' => e = .returned (.slice none 0 0) ∧ Below w.heap.size w W' := by
  have hmx : Tryz.prog.follows .mixedOrders = true := by kernel_rfl
  have HN := Lib.hid hn
  clear hn
  have hM := Sep.start w
  go_enter Tryz.func8, Tryz.ntmps8
  go_upto_region 0 with fail
  refine wp_region_fromM (fun W => Sep w [] [] W) hM ?_
  clear hM
  rintro Y1 hM
  refine tF 1 [.val 0 (some 2) (.slice none 0 0)] trivial ?_
  refine dF ?_
  try simp only [puts, Tk.put, Act.put, List.setIfInBounds_toArray, List.set_cons_zero, List.set_cons_succ]
  go_upto_region 1 with fail
  refine wp_region_fromM (fun W => Sep w [] [] W) hM ?_
  clear hM
  rintro Y2 hM
  refine tF 1 [.val 0 (some 6) (p)] trivial ?_
  refine cF (some 7) 36 #[p] ((clThere_no _ (HN.out.below hM.b)).mono ?_)
  rintro e Y3 ⟨rfl, rfl⟩
  refine tF 3 [.val 2 (some 8) (.bool true)] trivial ?_
  refine dF ?_
  try simp only [puts, Tk.put, Act.put, List.setIfInBounds_toArray, List.set_cons_zero, List.set_cons_succ]
  go_upto_region 2 with fail
  refine wp_region_fromM (fun W => Sep w [] [] W) hM ?_
  clear hM
  rintro Y4 hM
  refine tF 1 [.val 0 (some 2) (.slice none 0 0)] trivial ?_
  refine dF ?_
  try simp only [puts, Tk.put, Act.put, List.setIfInBounds_toArray, List.set_cons_zero, List.set_cons_succ]
  go_wp2_with fail
  go_ret
  exact ⟨rfl, hM.b⟩
set_option maxRecDepth 100000 in
set_option maxHeartbeats 4000000 in
theorem clSigned_no {p : Value}  (w : World) (hn : NoU w p) : Calls Tryz.prog 19 #[p] w fun e W' => e = .returned (.slice none 0 0) ∧ Below w.heap.size w W' := by
  have hmx : Tryz.prog.follows .mixedOrders = true := by kernel_rfl
  have HN := Lib.hid hn
  clear hn
  have hM := Sep.start w
  go_enter Tryz.func19, Tryz.ntmps19
  go_upto_region 0 with fail
  refine wp_region_fromM (fun W => Sep w [] [] W) hM ?_
  clear hM
  rintro Y1 hM
  refine tF 1 [.val 0 (some 2) (.slice none 0 0)] trivial ?_
  refine dF ?_
  try simp only [puts, Tk.put, Act.put, List.setIfInBounds_toArray, List.set_cons_zero, List.set_cons_succ]
  go_upto_region 1 with fail
  refine wp_region_fromM (fun W => Sep w [] [] W) hM ?_
  clear hM
  rintro Y2 hM
  refine tF 1 [.val 0 (some 7) (p)] trivial ?_
  refine cF (some 8) 36 #[p] ((clThere_no _ (HN.out.below hM.b)).mono ?_)
  rintro e Y3 ⟨rfl, rfl⟩
  refine tF 3 [.val 2 (some 9) (.bool true)] trivial ?_
  refine dF ?_
  try simp only [puts, Tk.put, Act.put, List.setIfInBounds_toArray, List.set_cons_zero, List.set_cons_succ]
  go_upto_region 2 with fail
  refine wp_region_fromM (fun W => Sep w [] [] W) hM ?_
  clear hM
  rintro Y4 hM
  refine tF 1 [.val 0 (some 2) (.slice none 0 0)] trivial ?_
  refine dF ?_
  try simp only [puts, Tk.put, Act.put, List.setIfInBounds_toArray, List.set_cons_zero, List.set_cons_succ]
  go_wp2_with fail
  go_ret
  exact ⟨rfl, hM.b⟩
set_option maxRecDepth 100000 in
set_option maxHeartbeats 4000000 in
theorem clRoot_no {p : Value}  (w : World) (hn : NoU w p) : Calls Tryz.prog 9 #[p] w fun e W' => e = .returned (.string ⟨#[]⟩) ∧ Below w.heap.size w W' := by
  have hmx : Tryz.prog.follows .mixedOrders = true := by kernel_rfl
  have HN := Lib.hid hn
  clear hn
  have hM := Sep.start w
  go_enter Tryz.func9, Tryz.ntmps9
  go_upto_region 0 with fail
  refine wp_region_fromM (fun W => Sep w [] [] W) hM ?_
  clear hM
  rintro Y1 hM
  refine tF 1 [.val 0 (some 2) (.string ⟨#[]⟩)] trivial ?_
  refine dF ?_
  try simp only [puts, Tk.put, Act.put, List.setIfInBounds_toArray, List.set_cons_zero, List.set_cons_succ]
  go_upto_region 1 with fail
  refine wp_region_fromM (fun W => Sep w [] [] W) hM ?_
  clear hM
  rintro Y2 hM
  refine tF 1 [.val 0 (some 3) (p)] trivial ?_
  refine cF (some 4) 36 #[p] ((clThere_no _ (HN.out.below hM.b)).mono ?_)
  rintro e Y3 ⟨rfl, rfl⟩
  refine tF 3 [.val 2 (some 5) (.bool true)] trivial ?_
  refine dF ?_
  try simp only [puts, Tk.put, Act.put, List.setIfInBounds_toArray, List.set_cons_zero, List.set_cons_succ]
  go_upto_region 2 with fail
  refine wp_region_fromM (fun W => Sep w [] [] W) hM ?_
  clear hM
  rintro Y4 hM
  refine tF 1 [.val 0 (some 2) (.string ⟨#[]⟩)] trivial ?_
  refine dF ?_
  try simp only [puts, Tk.put, Act.put, List.setIfInBounds_toArray, List.set_cons_zero, List.set_cons_succ]
  go_wp2_with fail
  go_ret
  exact ⟨rfl, hM.b⟩
end Go.Proofs.YtbjpifcgnombaaaGreat
namespace Go.Proofs.YtbjpifcgnombaaaGreat
open Go.RowKit Go.Shelf
set_option maxRecDepth 100000 in
theorem refRoot_any (s : ByteArray) (hs : s.size ≤ 140737488352000) (w : World) :
    Calls Tryz.prog 28 #[.string s] w fun e W' => e = .returned (.string (rootB s)) ∧ Below w.heap.size w W' := by
  have hp : Hid (rootB s = nodeB s 3 0) := Lib.hid rfl
  have HR := Lib.hid (refRow_any s hs 3 0 (by decide) (by decide))
  go_enter Tryz.func28, Tryz.ntmps28
  go_wp2_with fail
  refine (HR.out _).mono ?_
  rintro e w1 ⟨rfl, hb1⟩
  generalize nodeB s 3 0 = x at *
  go_wp2_with fail
  go_ret
  exact ⟨by rw [hp.out]; rfl, hb1⟩
end Go.Proofs.YtbjpifcgnombaaaGreat
namespace Go.Proofs.YtbjpifcgnombaaaGreat
open Go.RowKit Go.Shelf
attribute [local irreducible] wpFrom wpAnyH StepH
theorem clBlk {C D R : Nat} {c : Cl} {vo vp va vb : Value} {W : World} (h : ROk (.join (CLR C D R c vo vp va vb)) W) : Blk W C 90 (clc c.me (.pointer (some ⟨D, 0, none⟩)) vp (.pointer (some ⟨R, 0, none⟩)) c.dn) := (Sep.begin h).at 0 rfl
set_option maxRecDepth 100000 in
set_option maxHeartbeats 4000000 in
theorem alive20_any (w : World) : Calls Tryz.prog 6 #[] w fun e W' => e = .returned (.bool true) ∧ Below w.heap.size w W' := by
  have hmx : Tryz.prog.follows .mixedOrders = true := by kernel_rfl
  have hM := Sep.start w
  go_enter Tryz.func6, Tryz.ntmps6
  go_upto_region 0 with fail
  refine wp_region_fromM (fun W => Sep w [] [] W) hM ?_
  clear hM
  rintro Y1 hM
  refine tF 1 [.val 0 (some 0) (.bool false)] trivial ?_
  refine dF ?_
  try simp only [puts, Tk.put, Act.put, List.setIfInBounds_toArray, List.set_cons_zero]
  go_upto_region 1 with fail
  refine wp_region_fromM (fun W => Sep w [] [] W) hM ?_
  clear hM
  rintro Y2 hM
  refine cF (some 6) 27 #[.int .i64 9, .slice none 0 0, .int .i64 1, .int .i64 900] ((clNew_no 9 1 900 (.slice none 0 0) _ (by decide)).mono ?_)
  rintro e Y4 ⟨rfl, hb⟩
  replace hM := hM.below hb
  clear hb
  refine tF 6 [.val 1 (some 5) (.tuple #[.pointer none, .int .i64 4]), .val 2 (some 7) (.pointer none), .val 3 (some 8) (.int .i64 4), .val 4 (some 1) (.pointer none), .val 5 (some 2) (.int .i64 4)] trivial ?_
  refine dF ?_
  try simp only [puts, Tk.put, Act.put, List.setIfInBounds_toArray, List.set_cons_zero, List.set_cons_succ]
  go_upto_region 2 with fail
  refine wp_region_fromM (fun W => Sep w [] [] W) hM ?_
  clear hM
  rintro Y5 hM
  refine cF (some 10) 27 #[.int .i64 0, .slice none 0 0, .int .i64 1, .int .i64 900] ((clNew_nil 0 1 900 _ (by decide)).mono ?_)
  rintro e Y6 ⟨C6, D6, R6, vo6, vp6, va6, vb6, rfl, hR⟩
  replace hM := hM.gain (Sep.close (ps := CLR C6 D6 R6 (newU 0 ⟨#[]⟩ ⟨#[]⟩ 1 900) vo6 vp6 va6 vb6) (l := []) hR)
  clear hR
  refine tF 6 [.val 1 (some 9) (.tuple #[.pointer (some ⟨C6, 0, none⟩), .int .i64 0]), .val 2 (some 11) (pt C6 0), .val 3 (some 12) (.int .i64 0), .val 4 (some 3) (pt C6 0), .val 5 (some 4) (.int .i64 0)] trivial ?_
  refine dF ?_
  try simp only [puts, Tk.put, Act.put, List.setIfInBounds_toArray, List.set_cons_zero, List.set_cons_succ]
  go_upto_region 3 with fail
  refine wp_region_fromM (fun W => Sep w [] [.join (CLR C6 D6 R6 (newU 0 ⟨#[]⟩ ⟨#[]⟩ 1 900) vo6 vp6 va6 vb6)] W) hM ?_
  clear hM
  rintro Y7 hM
  refine tF 8 [.val 0 (some 13) (.int .i64 4), .val 1 (some 14) (.bool true), .val 2 (some 15) (.bool true), .val 3 (some 16) (.int .i64 0), .val 4 (some 17) (.bool true), .val 5 (some 18) (.bool true), .val 6 (some 19) (.bool true), .val 7 (some 20) (pt C6 0)] trivial ?_
  refine cF (some 21) 23 #[pt C6 0] ((clDown_any _ (clBlk (hM.oka 0 rfl))).mono ?_)
  rintro e Y8 ⟨rfl, hb⟩
  replace hM := hM.below hb
  clear hb
  refine tF 13 [.val 9 (some 22) (.bool true), .val 10 (some 23) (.bool true), .val 11 (some 24) (.bool true), .val 12 (some 25) (pt C6 0)] trivial ?_
  refine cF (some 26) 9 #[pt C6 0] ((clRoot_any _ (clBlk (hM.oka 0 rfl))).mono ?_)
  rintro e Y9 ⟨rfl, hb⟩
  replace hM := hM.below hb
  clear hb
  refine tF 19 [.val 14 (some 27) (.int .i64 ((rootB (seedB 0)).size : Int)), .alt 15 (some 28) (.bool (((rootB (seedB 0)).size : Int) == 8)) (.bool true), .val 16 (some 29) (.bool true), .val 17 (some 30) (.bool true), .val 18 (some 31) (pt C6 0)] ⟨congrArg Value.bool (by rw [rootB_size]; rfl), trivial⟩ ?_
  refine cF (some 32) 9 #[pt C6 0] ((clRoot_any _ (clBlk (hM.oka 0 rfl))).mono ?_)
  rintro e Y10 ⟨rfl, hb⟩
  replace hM := hM.below hb
  clear hb
  refine cF (some 33) 28 #[.string ⟨#[117, 115, 101, 114, 0]⟩] ((refRoot_any (⟨#[117, 115, 101, 114, 0]⟩) (by decide) _).mono ?_)
  rintro e Y11 ⟨rfl, hb⟩
  replace hM := hM.below hb
  clear hb
  refine tF 24 [.alt 21 (some 34) (.bool ((rootB (seedB 0)).toList == (rootB (⟨#[117, 115, 101, 114, 0]⟩)).toList)) (.bool true), .val 22 (some 35) (.bool true), .val 23 (some 36) (.bool true)] ⟨congrArg Value.bool (by rw [seed_0]; exact beq_self_eq_true _), trivial⟩ ?_
  refine cF (some 37) 29 #[.int .i64 1] ((seed_any 1 _).mono ?_)
  rintro e Y12 ⟨rfl, hb⟩
  replace hM := hM.below hb
  clear hb
  refine tF 28 [.alt 25 (some 38) (.bool ((seedB 1).toList == (⟨#[117, 115, 101, 114, 1]⟩ : ByteArray).toList)) (.bool true), .val 26 (some 39) (.bool true), .val 27 (some 0) (.bool true)] ⟨congrArg Value.bool (by rw [seed_1]; exact beq_self_eq_true _), trivial⟩ ?_
  refine dF ?_
  try simp only [puts, Tk.put, Act.put, List.setIfInBounds_toArray, List.set_cons_zero, List.set_cons_succ]
  go_wp2_with fail
  go_ret
  exact ⟨rfl, hM.b⟩
end Go.Proofs.YtbjpifcgnombaaaGreat
namespace Go.Proofs.YtbjpifcgnombaaaGreat
open Go.RowKit Go.Shelf
inductive Sl where
  | k (v : Value)
  | s (i : Nat)
def fillS : List Sl → (Nat → Value) → List Value
  | [], _ => []
  | .k v :: p, s => v :: fillS p s
  | .s i :: p, s => s i :: fillS p s
def fillZ : List Sl → List Value → List Value
  | [], _ => []
  | _ :: _, [] => [undef]
  | .k v :: p, _ :: l => v :: fillZ p l
  | .s _ :: p, u :: l => u :: fillZ p l
def numb : List Sl → Nat → Bool
  | [], _ => true
  | .k _ :: p, n => numb p (n + 1)
  | .s i :: p, n => Nat.beq i n && numb p (n + 1)
def nth (l : List Value) (i : Nat) : Value := (l[i]?).getD undef
theorem nth_at (pre : List Value) (u : Value) (l : List Value) : nth (pre ++ u :: l) pre.length = u := by
  unfold nth
  rw [List.getElem?_append_right (Nat.le_refl _), Nat.sub_self]
  rfl
theorem fill_nth : ∀ {p : List Sl} {n : Nat}, numb p n = true → ∀ {pre l : List Value}, pre.length = n → fillZ p l = l → fillS p (nth (pre ++ l)) = l
  | [], _, _, _, _, _, h => h
  | q :: p, _, _, _, [], _, h => by cases q <;> cases h
  | .k v :: p, n, hn, pre, u :: l, hp, h => by
    have h1 : v :: fillZ p l = u :: l := h
    obtain ⟨rfl, h2⟩ := List.cons.inj h1
    have := fill_nth (p := p) (n := n + 1) hn (pre := pre ++ [v]) (l := l) (by rw [List.length_append, hp]; rfl) h2
    rw [List.append_assoc] at this
    exact congrArg (v :: ·) this
  | .s i :: p, n, hn, pre, u :: l, hp, h => by
    have h1 : u :: fillZ p l = u :: l := h
    obtain ⟨_, h2⟩ := List.cons.inj h1
    have hn' : (Nat.beq i n && numb p (n + 1)) = true := hn
    rw [Bool.and_eq_true] at hn'
    obtain rfl : i = n := Nat.eq_of_beq_eq_true hn'.1
    have := fill_nth (p := p) (n := i + 1) hn'.2 (pre := pre ++ [u]) (l := l) (by rw [List.length_append, hp]; rfl) h2
    rw [List.append_assoc] at this
    show nth (pre ++ u :: l) i :: fillS p (nth (pre ++ u :: l)) = u :: l
    rw [← hp, nth_at]
    exact congrArg (u :: ·) this
theorem fill_all {p : List Sl} {l : List Value} (hn : numb p 0 = true) (h : fillZ p l = l) : fillS p (nth l) = l := fill_nth hn (pre := []) rfl h
section
variable {P : Program} {c : Code} {W : World} {l : List Value}
theorem wp_loop_fit {Q : Exit → Act → World → Prop} (p : List Sl) (R : (Nat → Value) → World → Prop) (mu : (Nat → Value) → World → Nat) (hn : numb p 0 = true) (hl : fillZ p l = l) (h0 : R (nth l) W)
    (round : ∀ s w, R s w → ∀ (J K : Act → World → Prop), (∀ l' w', fillZ p l' = l' → R (nth l') w' → mu (nth l') w' < mu s w → J ⟨l'.toArray, []⟩ w') → (∀ a' w', Met J a' w' → K a' w') → c.wp P (Exit.then K Q) ⟨(fillS p s).toArray, []⟩ w) : (Code.loop c).wp P Q ⟨l.toArray, []⟩ W := by
  classical
  let g : Act → World → Nat := fun a w => if h : ∃ s, R s w ∧ a = ⟨(fillS p s).toArray, []⟩ then leastOf (fun n => ∃ s, R s w ∧ a = ⟨(fillS p s).toArray, []⟩ ∧ mu s w = n) else 0
  refine wp_loop (fun a w => ∃ s, R s w ∧ a = ⟨(fillS p s).toArray, []⟩) g ⟨nth l, h0, by rw [fill_all hn hl]⟩ ?_
  intro a w hI
  have hex : ∃ n, ∃ s, R s w ∧ a = ⟨(fillS p s).toArray, []⟩ ∧ mu s w = n := by
    obtain ⟨s, h1, h2⟩ := hI
    exact ⟨_, s, h1, h2, rfl⟩
  have hga : g a w = leastOf (fun n => ∃ s, R s w ∧ a = ⟨(fillS p s).toArray, []⟩ ∧ mu s w = n) := dif_pos hI
  obtain ⟨⟨s, h1, h2, h3⟩, _⟩ := leastOf_spec hex
  rw [hga, ← h3]
  subst h2
  refine round s w h1 _ _ (fun l' w' e1 e2 e3 => ?_) (fun _ _ h => h)
  have hI' : ∃ s, R s w' ∧ (⟨l'.toArray, []⟩ : Act) = ⟨(fillS p s).toArray, []⟩ := ⟨nth l', e2, by rw [fill_all hn e1]⟩
  refine ⟨hI', ?_⟩
  have hgb : g ⟨l'.toArray, []⟩ w' = leastOf (fun n => ∃ s, R s w' ∧ (⟨l'.toArray, []⟩ : Act) = ⟨(fillS p s).toArray, []⟩ ∧ mu s w' = n) := dif_pos hI'
  rw [hgb]
  exact Nat.lt_of_le_of_lt ((leastOf_spec ⟨mu (nth l') w', nth l', e2, by rw [fill_all hn e1], rfl⟩).2 _ ⟨nth l', e2, by rw [fill_all hn e1], rfl⟩) e3
end
end Go.Proofs.YtbjpifcgnombaaaGreat
namespace Go.Proofs.YtbjpifcgnombaaaGreat
open Go.ChangeShapes Go.WideShapes Go.ChangeAt Go.RowKit
theorem Tryz.own : ownKnob Tryz.prog.godebug = none := by kernel_rfl
theorem Tryz.laidOut : laidOutB Tryz.prog = true := by kernel_rfl
theorem wf_i64 {x : Int} (h : (Lit.int .i64 x).wf = true) : -9223372036854775808 ≤ x ∧ x ≤ 9223372036854775807 := by
  simp [Lit.wf, IntKind.min, IntKind.max, IntKind.bits, IntKind.signed] at h
  omega
theorem list_of {α : Type} {Q : Nat → α → Prop} : ∀ {n : Nat}, (∀ i, i < n → ∃ x, Q i x) → ∃ l : List α, l.length = n ∧ ∀ k x, l[k]? = some x → Q k x
  | 0, _ => ⟨[], rfl, fun k x h => by simp at h⟩
  | n + 1, h => by
    obtain ⟨l, hl, hq⟩ := list_of (n := n) (fun i hi => h i (by omega))
    obtain ⟨y, hy⟩ := h n (by omega)
    refine ⟨l ++ [y], by simp [hl], fun k x hx => ?_⟩
    by_cases hk : k < n
    · rw [List.getElem?_append_left (by omega)] at hx
      exact hq k x hx
    · rw [List.getElem?_append_right (by omega)] at hx
      have : k = n := by
        have := (List.getElem?_eq_some_iff.1 hx).1
        simp at this
        omega
      subst this
      simp [hl] at hx
      rw [← hx]; exact hy
theorem add_plain (b off q : Nat) : (⟨b, off, none⟩ : Addr).add q = ⟨b, off + q, none⟩ := by cases q <;> simp [Addr.add]
end Go.Proofs.YtbjpifcgnombaaaGreat
namespace Go.Proofs.YtbjpifcgnombaaaGreat
open Go.ChangeShapes Go.WideShapes Go.ChangeAt Go.RowKit Go.Deep
theorem Tryz.bytes8 : Tryz.prog.bytesOf 5 = 1 := by kernel_rfl
theorem Tryz.cells8 : Tryz.prog.cellsOf 5 = 1 := by kernel_rfl
theorem wf_u8 {x : Int} (h : (Lit.int .u8 x).wf = true) : ∃ b : UInt8, x = (b.toNat : Int) := by
  have h' : 0 ≤ x ∧ x < 256 := by
    simp [Lit.wf, IntKind.min, IntKind.max, IntKind.bits, IntKind.signed] at h
    omega
  refine ⟨UInt8.ofNat x.toNat, ?_⟩
  rw [UInt8.toNat_ofNat']
  omega
theorem open_bytes {H : Type} {enc : TypeId × Value → H} {W : World} {base : Nat} {spare : Nat → Bool} {held : Bool} {a : Option Addr} {len cap : Nat} {d : DataW H} {p : List MemPlace}
    (h : DataW.Trod enc Tryz.prog W base spare held 80 (.slice a len cap) d p) : ∃ zs : List UInt8, len = zs.length ∧ BSl 0 W.heap.size W (.slice a len cap) zs ∧ (zs = [] ∨ ∃ el sp, d = .slice el sp ∧ el.length = zs.length) := by
  obtain ⟨fuel, hf⟩ := h
  rcases open_slice1 Tryz.underlying80 Tryz.cells8 hf with h0 | ⟨ad, l, c, m, n, V, D, Pl, hcs, hb, hl, hm, hmm, hx, hi⟩
  · obtain ⟨hcs, _⟩ := h0
    simp [Value.cells] at hcs
    obtain ⟨rfl, rfl, rfl⟩ := hcs
    exact ⟨[], rfl, ⟨none, 0, rfl, Nat.le_refl _, .inl rfl⟩, .inl rfl⟩
  · simp [Value.cells] at hcs
    obtain ⟨rfl, rfl, rfl⟩ := hcs
    have hlm : len ≤ m := by rw [hmm]; split <;> omega
    have key : ∀ i, i < len → ∃ x : UInt8, W.cell? (ad.add i) = some (bv x) := fun i hil => by
      obtain ⟨hc, ht⟩ := hi i (by omega)
      obtain ⟨x, e, _, w0⟩ := DataW.trod_int Tryz.underlying5 ht
      simp at e
      obtain ⟨b, rfl⟩ := wf_u8 w0
      exact ⟨b, by rw [hc, e]⟩
    obtain ⟨zs, hz, hq⟩ := list_of key
    refine ⟨zs, hz.symm, ⟨some ad, cap, by rw [hz], by rw [hz]; exact hl, ?_⟩, .inr ⟨_, _, (Prod.mk.inj hx).1, by simp [hz]⟩⟩
    by_cases hlen : len = 0
    · exact .inl (List.length_eq_zero_iff.1 (by omega))
    · obtain ⟨x, h0⟩ := key 0 (by omega)
      obtain ⟨b, off, sp⟩ := ad
      have hsp : sp = none := by
        cases sp with
        | none => rfl
        | some _ => simp [Addr.add, World.cell?] at h0; split at h0 <;> simp at h0
      subst hsp
      refine .inr ⟨b, off, rfl, Nat.zero_le _, World.block_lt_of_cell? W _ h0, fun k x hx => ?_⟩
      have := hq k x hx
      rwa [add_plain] at this
end Go.Proofs.YtbjpifcgnombaaaGreat
namespace Go.Proofs.YtbjpifcgnombaaaGreat
open Go.ChangeShapes Go.WideShapes Go.ChangeAt Go.RowKit
theorem Tryz.cells24 : Tryz.prog.cellsOf 34 = 4 := by kernel_rfl
theorem Tryz.cells22 : Tryz.prog.cellsOf 24 = 1 := by kernel_rfl
theorem wf_u64 {x : Int} (h : (Lit.int .u64 x).wf = true) : ∃ n : Nat, x = (n : Int) ∧ n < M := by
  have h' : 0 ≤ x ∧ x < 18446744073709551616 := by
    simp [Lit.wf, IntKind.min, IntKind.max, IntKind.bits, IntKind.signed] at h
    omega
  obtain ⟨n, rfl⟩ := Int.eq_ofNat_of_zero_le h'.1
  exact ⟨n, rfl, by unfold M; omega⟩
end Go.Proofs.YtbjpifcgnombaaaGreat
namespace Go.Proofs.YtbjpifcgnombaaaGreat
theorem Tryz.cellsInt : Tryz.prog.cellsOf 3 = 1 := by kernel_rfl
theorem Tryz.cellsStr : Tryz.prog.cellsOf 9 = 1 := by kernel_rfl
end Go.Proofs.YtbjpifcgnombaaaGreat
namespace Go.Proofs.YtbjpifcgnombaaaGreat
open Go.ChangeShapes Go.WideShapes Go.ChangeAt Go.RowKit Go.Deep
theorem Tryz.cellsAsk : Tryz.prog.cellsOf 36 = 9 := by kernel_rfl
theorem trod_wide {H : Type} {enc : TypeId × Value → H} {w : World} {base : Nat} {spare : Nat → Bool} {held : Bool} {fuel : Nat} {c0 c1 c2 c3 : Value} {x : DataW H × List MemPlace}
    (h : DataW.trod enc Tryz.prog w base spare held fuel 34 [c0, c1, c2, c3] = some x) :
    ∃ a0 a1 a2 a3 : Nat, c0 = .int .u64 (a0 : Int) ∧ c1 = .int .u64 (a1 : Int) ∧ c2 = .int .u64 (a2 : Int) ∧ c3 = .int .u64 (a3 : Int) ∧ Ok4 a0 a1 a2 a3 := by
  obtain ⟨u0, u1, u2, u3, m, hx3, g0, g1, g2, g3⟩ := trod_array4 Tryz.underlying34 Tryz.cells22 h
  obtain ⟨v0, k0, _, wg0⟩ := DataW.trod_int Tryz.underlying24 g0
  obtain ⟨v1, k1, _, wg1⟩ := DataW.trod_int Tryz.underlying24 g1
  obtain ⟨v2, k2, _, wg2⟩ := DataW.trod_int Tryz.underlying24 g2
  obtain ⟨v3, k3, _, wg3⟩ := DataW.trod_int Tryz.underlying24 g3
  obtain ⟨a0, rfl, q0⟩ := wf_u64 wg0
  obtain ⟨a1, rfl, q1⟩ := wf_u64 wg1
  obtain ⟨a2, rfl, q2⟩ := wf_u64 wg2
  obtain ⟨a3, rfl, q3⟩ := wf_u64 wg3
  simp at k0 k1 k2 k3
  exact ⟨a0, a1, a2, a3, k0, k1, k2, k3, ⟨q0, q1, q2, q3⟩⟩
set_option maxRecDepth 100000 in
theorem trod_ask {H : Type} {enc : TypeId × Value → H} {w : World} {base : Nat} {spare : Nat → Bool} {held : Bool} {fuel : Nat} {cs : List Value} {x : DataW H × List MemPlace}
    (h : DataW.trod enc Tryz.prog w base spare held fuel 36 cs = some x) :
    ∃ a : Ak, cs = akc a ∧ OkA a := by
  obtain ⟨xs, n, _, hx, hcl, hlen, hg⟩ := DataW.trod_struct Tryz.underlying36 h
  rw [Tryz.cellsAsk] at hcl
  match cs, hcl with
  | [c0, c1, c2, c3, c4, c5, c6, c7, c8], _ =>
  match xs, hlen with
  | [y0, y1, y2, y3, y4, y5], _ =>
  have h0 := hg 0 ⟨ "User", 3, 0, false, "", "", 0⟩ rfl
  have h1 := hg 1 ⟨ "Send", 3, 1, false, "", "", 8⟩ rfl
  have h2 := hg 2 ⟨ "Recv", 3, 2, false, "", "", 16⟩ rfl
  have h3 := hg 3 ⟨ "To", 3, 3, false, "", "", 24⟩ rfl
  have h4 := hg 4 ⟨ "Amount", 34, 4, false, "", "", 32⟩ rfl
  have h5 := hg 5 ⟨ "Id", 9, 8, false, "", "", 64⟩ rfl
  dsimp only at h0 h1 h2 h3 h4 h5
  rw [Tryz.cellsInt] at h0 h1 h2 h3
  rw [Tryz.cells24] at h4
  rw [Tryz.cellsStr] at h5
  simp only [List.drop_succ_cons, List.drop_zero, List.take_succ_cons, List.take_zero, List.getElem?_cons_zero, List.getElem?_cons_succ] at h0 h1 h2 h3 h4 h5
  obtain ⟨z0, e0, _, _⟩ := DataW.trod_int Tryz.underlying3 h0
  obtain ⟨z1, e1, _, _⟩ := DataW.trod_int Tryz.underlying3 h1
  obtain ⟨z2, e2, _, _⟩ := DataW.trod_int Tryz.underlying3 h2
  obtain ⟨z3, e3, _, _⟩ := DataW.trod_int Tryz.underlying3 h3
  obtain ⟨a0, a1, a2, a3, f0, f1, f2, f3, hk⟩ := trod_wide h4
  obtain ⟨s5, e5, _, _⟩ := DataW.trod_string Tryz.underlying9 h5
  simp at e0 e1 e2 e3 e5
  subst e0 e1 e2 e3 f0 f1 f2 f3 e5
  exact ⟨⟨z0, z1, z2, z3, a0, a1, a2, a3, s5⟩, rfl, ⟨hk⟩⟩
set_option maxRecDepth 100000 in
theorem agg8_of {v : Value} {w : World} {r : Reach} {b0 t : Nat} {fs : Array Field} (hu : Tryz.prog.underlying t = some (.struct fs)) (hv : Value.okWide Tryz.prog w r b0 t v) : ∃ cs, v = .agg cs := by
  obtain ⟨cs, rfl, _⟩ : ∃ cs, v = .agg cs ∧ cs.size = Tryz.prog.cellsOf t ∧ Row.okWide Tryz.prog w r b0 t cs := by
    simpa [Value.okWide, hu] using hv
  exact ⟨cs, rfl⟩
set_option maxRecDepth 100000 in
theorem open_ask {H : Type} {enc : TypeId × Value → H} {r : Reach} {w : World} {b0 base : Nat} {spare : Nat → Bool} {held : Bool} {v : Value} {d : DataW H} {p : List MemPlace}
    (hv : Value.okWide Tryz.prog w r b0 36 v) (h : DataW.Trod enc Tryz.prog w base spare held 36 v d p) :
    ∃ a : Ak, v = akv a ∧ OkA a := by
  obtain ⟨cs, rfl⟩ := agg8_of Tryz.underlying36 hv
  obtain ⟨fuel, hf⟩ := h
  obtain ⟨a, hc, h1⟩ := trod_ask hf
  refine ⟨a, ?_, h1⟩
  have : cs.toList = akc a := hc
  rw [show cs = (akc a).toArray from by rw [← this]]
end Go.Proofs.YtbjpifcgnombaaaGreat
