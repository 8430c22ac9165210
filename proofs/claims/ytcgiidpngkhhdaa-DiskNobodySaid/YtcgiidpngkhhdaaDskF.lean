/-
  A disk: the program's functions.
-/
import Derived.Test.YtcgiidpngkhhdaaDskM
import Derived.Test.YtcgiidpngkhhdaaClone
namespace Go.Proofs.Ytcgiidpngkhhdaa
open Go.RowKit Go.Shelf
attribute [local irreducible] wpFrom wpAnyH StepH

set_option maxRecDepth 100000 in
set_option maxHeartbeats 4000000 in
theorem dkThere_yes {B : Nat} {r s : Int} {v : Value} (w : World) (hB : Blk w B 37 (dkc true r v s)) : Calls Try.prog 14 #[.pointer (some ⟨B, 0, none⟩)] w fun e W' => e = .returned (.bool true) ∧ Below w.heap.size w W' := by
  have hmx : Try.prog.follows .mixedOrders = true := by kernel_rfl
  have HB := Lib.hid hB
  clear hB
  have hM := Sep.start w
  go_enter Try.func14, Try.ntmps14
  go_upto_region 0 with fail
  refine wp_region_fromM (fun W => Sep w [] [] W) hM ?_
  clear hM
  rintro Y1 hM
  refine tF 1 [.val 0 (some 2) (.bool false)] trivial ?_
  refine dF ?_
  try simp only [puts, Tk.put, Act.put, List.setIfInBounds_toArray, List.set_cons_zero, List.set_cons_succ]
  go_upto_region 1 with fail
  refine wp_region_fromM (fun W => Sep w [] [] W) hM ?_
  clear hM
  rintro Y2 hM
  refine tF 9 [.val 0 (some 3) (pt B 0), .val 1 (some 4) (.bool true), .val 2 (some 5) (.bool true), .val 3 (some 6) (pt B 0), .val 4 (some 7) (pt B 0), .val 5 (some 8) (pt B 0), .load 6 (some 9) 4 (pt B 0) (.bool true), .val 7 (some 10) (.bool true), .val 8 (some 2) (.bool true)] ⟨ld_any _ _ Try.underlying4 rfl (HB.out.below hM.b HB.out.lt) 0 rfl, trivial⟩ ?_
  refine dF ?_
  try simp only [puts, Tk.put, Act.put, List.setIfInBounds_toArray, List.set_cons_zero, List.set_cons_succ]
  go_wp2_with fail
  go_ret
  exact ⟨rfl, hM.b⟩
theorem dkThere_no {p : Value} (w : World) (h : NoD w p) : Calls Try.prog 14 #[p] w fun e W' => e = .returned (.bool false) ∧ W' = w := by
  rcases h with rfl | ⟨B, rfl, hB⟩
  · go_enter Try.func14, Try.ntmps14
    go_wp2
    go_ret
    exact ⟨rfl, rfl⟩
  · go_enter Try.func14, Try.ntmps14
    go_upto_region 1 with fail
    refine wp_region_from ?_
    refine tF 9 [.val 0 (some 3) (pt B 0), .val 1 (some 4) (.bool true), .val 2 (some 5) (.bool true), .val 3 (some 6) (pt B 0), .val 4 (some 7) (pt B 0), .val 5 (some 8) (pt B 0), .load 6 (some 9) 4 (pt B 0) (.bool false), .val 7 (some 10) (.bool false), .val 8 (some 2) (.bool false)] ⟨ld_any _ _ Try.underlying4 rfl hB 0 rfl, trivial⟩ ?_
    refine dF ?_
    try simp only [puts, Tk.put, Act.put, List.setIfInBounds_toArray, List.set_cons_zero, List.set_cons_succ]
    go_wp2_with fail
    go_ret
    exact ⟨rfl, rfl⟩
/-- The first k of a slice, and no room. -/
def LentE (v : Value) (n k : Nat) (e : Ending) : Prop := ∃ a c, v = .slice a n c ∧ e = .returned (.slice a k k)
set_option maxRecDepth 100000 in
set_option maxHeartbeats 4000000 in
theorem dkLend_any {B : Nat} {D : Dk} {v : Value} (k : Nat) (hk : k ≤ D.o.length) (w : World) (hv : DkV w B D v) : Calls Try.prog 15 #[.pointer (some ⟨B, 0, none⟩), .int .i64 (k : Int)] w fun e W' => LentE v D.o.length k e ∧ Below w.heap.size w W' := by
  have hmx : Try.prog.follows .mixedOrders = true := by kernel_rfl
  obtain ⟨a, c, rfl, hc⟩ := hv.o.slice
  have HV := Lib.hid hv
  have HK := Lib.hid hk
  clear hk
  clear hv hc
  have hM := Sep.start w
  go_enter Try.func15, Try.ntmps15
  go_upto_region 0 with fail
  refine wp_region_fromM (fun W => Sep w [] [] W) hM ?_
  clear hM
  rintro Y1 hM
  refine tF 1 [.val 0 (some 4) (.slice none 0 0)] trivial ?_
  refine dF ?_
  try simp only [puts, Tk.put, Act.put, List.setIfInBounds_toArray, List.set_cons_zero, List.set_cons_succ]
  go_upto_region 1 with fail
  refine wp_region_fromM (fun W => Sep w [] [] W) hM ?_
  clear hM
  rintro Y2 hM
  refine tF 8 [.val 0 (some 5) (pt B 0), .val 1 (some 6) (pt B 0), .val 2 (some 7) (pt B 2), .load 3 (some 8) 26 (pt B 2) (.slice a D.o.length c), .val 4 (some 9) (.int .i64 (k : Int)), .val 5 (some 10) (.int .i64 (k : Int)), .slc 6 (some 11) 26 (.slice a D.o.length c) none (some (.int .i64 (k : Int))) (some (.int .i64 (k : Int))) (.slice a k k), .val 7 (some 4) (.slice a k k)] ⟨ld_any _ _ Try.underlying26 rfl (HV.out.below hM.b).b 2 rfl, slice_hm HV.out.o HK.out _, trivial⟩ ?_
  refine dF ?_
  try simp only [puts, Tk.put, Act.put, List.setIfInBounds_toArray, List.set_cons_zero, List.set_cons_succ]
  go_wp2_with fail
  go_ret
  exact ⟨⟨a, c, rfl, rfl⟩, hM.b⟩
set_option maxRecDepth 100000 in
set_option maxHeartbeats 4000000 in
theorem dkFresh_any {B : Nat} {D : Dk} {v : Value} (w : World) (hv : DkV w B D v) (ho : OkD D) : Calls Try.prog 13 #[.pointer (some ⟨B, 0, none⟩)] w fun e W' => e = .returned (.int .i64 ((D.o.length : Int) - (D.su : Int))) ∧ Below w.heap.size w W' := by
  have hmx : Try.prog.follows .mixedOrders = true := by kernel_rfl
  obtain ⟨a, c, rfl, hc⟩ := hv.o.slice
  have HV := Lib.hid hv
  have HO := Lib.hid ho
  clear ho
  clear hv hc
  have hM := Sep.start w
  go_enter Try.func13, Try.ntmps13
  go_upto_region 0 with fail
  refine wp_region_fromM (fun W => Sep w [] [] W) hM ?_
  clear hM
  rintro Y1 hM
  refine tF 1 [.val 0 (some 2) (.int .i64 0)] trivial ?_
  refine dF ?_
  try simp only [puts, Tk.put, Act.put, List.setIfInBounds_toArray, List.set_cons_zero, List.set_cons_succ]
  go_upto_region 1 with fail
  refine wp_region_fromM (fun W => Sep w [] [] W) hM ?_
  clear hM
  rintro Y2 hM
  refine tF 1 [.val 0 (some 3) (pt B 0)] trivial ?_
  refine cF (some 4) 14 #[pt B 0] ((dkThere_yes _ ((HV.out.below hM.b).b)).mono ?_)
  rintro e Y3 ⟨rfl, hb⟩
  replace hM := hM.below hb
  clear hb
  refine tF 3 [.val 2 (some 5) (.bool false)] trivial ?_
  refine dF ?_
  try simp only [puts, Tk.put, Act.put, List.setIfInBounds_toArray, List.set_cons_zero, List.set_cons_succ]
  go_upto_region 3 with fail
  refine wp_region_M (fun W => Sep w [] [] W) (fun W => Sep w [] [] W) hmx hM.drew ?_
  clear hM
  rintro Y4 hM
  have hS := hM.sub .slnil
  refine tD 0 [.val 0 (some 6) (pt B 0), .val 1 (some 7) (pt B 0), .val 2 (some 8) (pt B 2), .load 3 (some 9) 26 (pt B 2) (.slice a D.o.length c), .val 4 (some 10) (.int .i64 (D.o.length : Int)), .val 5 (some 11) (pt B 0), .val 6 (some 12) (pt B 0), .val 7 (some 13) (pt B 3), .load 8 (some 14) 3 (pt B 3) (.int .i64 (D.su : Int)), .alt 9 (some 15) (.int .i64 (IntKind.i64.wrap ((D.o.length : Int) - (D.su : Int)))) (.int .i64 ((D.o.length : Int) - (D.su : Int))), .val 10 (some 2) (.int .i64 ((D.o.length : Int) - (D.su : Int)))] ⟨fun W h => ld_any _ _ Try.underlying26 rfl (HV.out.below h.b).b 2 rfl, fun W h => ld_any _ _ Try.underlying3 rfl (HV.out.below h.b).b 3 rfl, congrArg (Value.int .i64) (IntWalk.i64_in _ (by have h1 := HO.out.room; have h2 := HO.out.len; have h3 := HO.out.sure; omega)), trivial⟩ hS ?_
  refine dD ?_
  try simp only [puts, Tk.put, Act.put, List.setIfInBounds_toArray, List.set_cons_zero, List.set_cons_succ]
  clear hS
  go_wp2_with fail
  go_ret
  exact ⟨rfl, hM.b⟩
/-- Octets of one's own come back. -/
def OctO (l : List UInt8) (w : World) (e : Ending) (W' : World) : Prop := ∃ v, e = .returned v ∧ Sep w [] [.oct v l] W'
set_option maxRecDepth 100000 in
set_option maxHeartbeats 4000000 in
theorem dkOctets_any {B : Nat} {D : Dk} {v : Value} (w : World) (hv : DkV w B D v) (ho : OkD D) : Calls Try.prog 12 #[.pointer (some ⟨B, 0, none⟩)] w (OctO D.o w) := by
  have hmx : Try.prog.follows .mixedOrders = true := by kernel_rfl
  obtain ⟨a, c, rfl, hc⟩ := hv.o.slice
  have HV := Lib.hid hv
  have HO := Lib.hid ho
  clear ho
  clear hv hc
  have hM := Sep.start w
  go_enter Try.func12, Try.ntmps12
  go_upto_region 0 with fail
  refine wp_region_fromM (fun W => Sep w [] [] W) hM ?_
  clear hM
  rintro Y1 hM
  refine tF 1 [.val 0 (some 2) (.slice none 0 0)] trivial ?_
  refine dF ?_
  try simp only [puts, Tk.put, Act.put, List.setIfInBounds_toArray, List.set_cons_zero, List.set_cons_succ]
  go_upto_region 1 with fail
  refine wp_region_fromM (fun W => Sep w [] [] W) hM ?_
  clear hM
  rintro Y2 hM
  refine tF 1 [.val 0 (some 3) (pt B 0)] trivial ?_
  refine cF (some 4) 14 #[pt B 0] ((dkThere_yes _ ((HV.out.below hM.b).b)).mono ?_)
  rintro e Y3 ⟨rfl, hb⟩
  replace hM := hM.below hb
  clear hb
  refine tF 3 [.val 2 (some 5) (.bool false)] trivial ?_
  refine dF ?_
  try simp only [puts, Tk.put, Act.put, List.setIfInBounds_toArray, List.set_cons_zero, List.set_cons_succ]
  go_upto_region 3 with fail
  refine wp_region_fromM (fun W => Sep w [] [] W) hM ?_
  clear hM
  rintro Y4 hM
  refine tF 6 [.val 0 (some 6) (pt B 0), .val 1 (some 7) (pt B 0), .val 2 (some 8) (pt B 0), .val 3 (some 9) (pt B 2), .load 4 (some 10) 26 (pt B 2) (.slice a D.o.length c), .val 5 (some 11) (.int .i64 (D.o.length : Int))] ⟨ld_any _ _ Try.underlying26 rfl (HV.out.below hM.b).b 2 rfl, trivial⟩ ?_
  refine cF (some 12) 15 #[pt B 0, .int .i64 (D.o.length : Int)] ((dkLend_any D.o.length (Nat.le_refl _) _ (HV.out.below hM.b)).mono ?_)
  rintro e Y5 ⟨⟨_, _, hva, rfl⟩, hb⟩
  cases hva
  replace hM := hM.below hb
  clear hb
  refine cF (some 13) 17 #[.slice a D.o.length D.o.length] ((clone_any D.o _ _ (by have h1 := HO.out.room; have h2 := HO.out.len; have h3 := HO.out.sure; omega) (HV.out.below hM.b).o.cap (Nat.le_refl _)).mono ?_)
  rintro e Y6 ⟨v', rfl, hO, hb⟩
  replace hM := hM.octN (BSl.of_own hO) hb
  clear hO hb
  refine tF 9 [.val 8 (some 2) (v')] trivial ?_
  refine dF ?_
  try simp only [puts, Tk.put, Act.put, List.setIfInBounds_toArray, List.set_cons_zero, List.set_cons_succ]
  go_wp2_with fail
  go_ret
  exact ⟨_, rfl, hM⟩
set_option maxRecDepth 100000 in
set_option maxHeartbeats 4000000 in
theorem dkLeave_any {B : Nat} {D : Dk} {v : Value} (k : Nat) (hk : k ≤ D.o.length) (w : World) (h : ROk (.join (DKR B D v)) w) (ho : OkD D) : Calls Try.prog 16 #[.pointer (some ⟨B, 0, none⟩), .int .i64 (k : Int)] w (DkR B (.join (DKR B D v)) (leaveD D k) (.tuple #[]) w) := by
  have hmx : Try.prog.follows .mixedOrders = true := by kernel_rfl
  have hM := Sep.begin h
  obtain ⟨a, c, rfl, hc⟩ := (hM.oka 1 rfl).octs.slice
  have HO := Lib.hid ho
  clear h ho hc
  have HK := Lib.hid hk
  clear hk
  replace hM : Sep w (Res.join (DKR B D (.slice a D.o.length c))).foot [.blk B 37 (dkc true (D.rm : Int) (.slice a D.o.length c) (D.su : Int)), .oct (.slice a D.o.length c) D.o] w := hM
  go_enter Try.func16, Try.ntmps16
  go_upto_region 0 with fail
  refine wp_region_fromM (fun W => Sep w (Res.join (DKR B D (.slice a D.o.length c))).foot [.blk B 37 (dkc true (D.rm : Int) (.slice a D.o.length c) (D.su : Int)), .oct (.slice a D.o.length c) D.o] W) hM ?_
  clear hM
  rintro Y1 hM
  refine tF 4 [.val 0 (some 4) (pt B 0), .val 1 (some 5) (pt B 0), .val 2 (some 6) (pt B 0), .val 3 (some 7) (.int .i64 (k : Int))] trivial ?_
  refine cF (some 8) 15 #[pt B 0, .int .i64 (k : Int)] ((dkLend_any k (HK.out) _ (⟨hM.at 0 rfl, (hM.oka 1 rfl).octs⟩)).mono ?_)
  rintro e Y2 ⟨⟨_, _, hva, rfl⟩, hb⟩
  cases hva
  replace hM := hM.below hb
  clear hb
  refine cF (some 9) 17 #[.slice a k k] ((clone_any (D.o.take k) _ _ (by have h1 := HO.out.room; have h2 := HO.out.len; have h3 := HO.out.sure; rw [List.length_take]; omega) ((hM.oka 1 rfl).octs.lend HK.out) (Nat.le_refl _)).mono ?_)
  rintro e Y3 ⟨v', rfl, hO, hb⟩
  replace hM := hM.turn 1 rfl (turn_oct hb (BSl.of_own hO)) rfl
  clear hO hb
  obtain ⟨a', c', rfl, _⟩ := (hM.oka 1 rfl).octs.slice
  refine tF 9 [.val 6 (some 10) (.int .i64 (k : Int)), .val 7 (some 11) (pt B 0), .val 8 (some 12) (pt B 2)] trivial ?_
  have hst := sto_part (dkc true (D.rm : Int) (.slice a' (D.o.take k).length c') (D.su : Int)) (hM.at 0 rfl) 2 26 (.slice a' (D.o.take k).length c') ([.slice a' (D.o.take k).length c']) rfl (by kernel_rfl) (Nat.le_of_ble_eq_true rfl) rfl rfl
  refine sF 26 (pt B 2) (.slice a' (D.o.take k).length c') (hst) ?_
  clear hst
  replace hM := hM.set 0 (cs' := dkc true (D.rm : Int) (.slice a' (D.o.take k).length c') (D.su : Int)) rfl rfl
  generalize World.setRow _ _ _ = Y4 at *
  refine tF 12 [.val 10 (some 13) (pt B 0), .val 11 (some 14) (pt B 3)] trivial ?_
  have hst := sto_part (dkc true (D.rm : Int) (.slice a' (D.o.take k).length c') (k : Int)) (hM.at 0 rfl) 3 3 (.int .i64 (k : Int)) ([.int .i64 (k : Int)]) rfl (by kernel_rfl) (Nat.le_of_ble_eq_true rfl) rfl rfl
  refine sF 3 (pt B 3) (.int .i64 (k : Int)) (hst) ?_
  clear hst
  replace hM := hM.set 0 (cs' := dkc true (D.rm : Int) (.slice a' (D.o.take k).length c') (k : Int)) rfl rfl
  generalize World.setRow _ _ _ = Y5 at *
  refine dF ?_
  try simp only [puts, Tk.put, Act.put, List.setIfInBounds_toArray, List.set_cons_zero, List.set_cons_succ]
  have hT : RTurn (.join (DKR B D (.slice a D.o.length c))) (.join (DKR B (leaveD D k) (.slice a' (D.o.take k).length c'))) _ _ := Sep.fin hM (List.Sublist.refl _)
  go_wp2_with fail
  go_end0
  exact ⟨rfl, _, hT⟩
set_option maxRecDepth 100000 in
set_option maxHeartbeats 4000000 in
theorem dkWrite_any {B : Nat} {D : Dk} {v : Value} {sv : Value} (l : List UInt8) (w : World) (h : ROk (.join (DKR B D v)) w) (ho : OkD D) (hs : BF (Res.join (DKR B D v)).foot w sv l) : Calls Try.prog 8 #[.pointer (some ⟨B, 0, none⟩), sv] w (DkR B (.join (DKR B D v)) (writeD D l).1 (.int .i64 (writeD D l).2) w) := by
  have hmx : Try.prog.follows .mixedOrders = true := by kernel_rfl
  have hM := Sep.begin h
  obtain ⟨a, c, rfl, hc⟩ := (hM.oka 1 rfl).octs.slice
  have HO := Lib.hid ho
  clear h ho hc
  obtain ⟨sa, sc, rfl, hsc⟩ := hs.bsl.slice
  have HS := Lib.hid hs
  clear hs hsc
  replace hM : Sep w (Res.join (DKR B D (.slice a D.o.length c))).foot [.blk B 37 (dkc true (D.rm : Int) (.slice a D.o.length c) (D.su : Int)), .oct (.slice a D.o.length c) D.o] w := hM
  go_enter Try.func8, Try.ntmps8
  go_upto_region 0 with fail
  refine wp_region_fromM (fun W => Sep w (Res.join (DKR B D (.slice a D.o.length c))).foot [.blk B 37 (dkc true (D.rm : Int) (.slice a D.o.length c) (D.su : Int)), .oct (.slice a D.o.length c) D.o] W) hM ?_
  clear hM
  rintro Y1 hM
  refine tF 1 [.val 0 (some 4) (.int .i64 0)] trivial ?_
  refine dF ?_
  try simp only [puts, Tk.put, Act.put, List.setIfInBounds_toArray, List.set_cons_zero, List.set_cons_succ]
  go_upto_region 1 with fail
  refine wp_region_fromM (fun W => Sep w (Res.join (DKR B D (.slice a D.o.length c))).foot [.blk B 37 (dkc true (D.rm : Int) (.slice a D.o.length c) (D.su : Int)), .oct (.slice a D.o.length c) D.o] W) hM ?_
  clear hM
  rintro Y2 hM
  refine tF 1 [.val 0 (some 5) (pt B 0)] trivial ?_
  refine cF (some 6) 14 #[pt B 0] ((dkThere_yes _ (hM.at 0 rfl)).mono ?_)
  rintro e Y3 ⟨rfl, hb⟩
  replace hM := hM.below hb
  clear hb
  refine tF 3 [.val 2 (some 7) (.bool false)] trivial ?_
  refine dF ?_
  try simp only [puts, Tk.put, Act.put, List.setIfInBounds_toArray, List.set_cons_zero, List.set_cons_succ]
  go_upto_region 3 with fail
  refine wp_region_M (fun W => Sep w (Res.join (DKR B D (.slice a D.o.length c))).foot [.blk B 37 (dkc true (D.rm : Int) (.slice a D.o.length c) (D.su : Int)), .oct (.slice a D.o.length c) D.o] W) (fun W => Sep w (Res.join (DKR B D (.slice a D.o.length c))).foot [.blk B 37 (dkc true (D.rm : Int) (.slice a D.o.length c) (D.su : Int)), .oct (.slice a D.o.length c) D.o] W) hmx hM.drew ?_
  clear hM
  rintro Y4 hM
  have hS := hM.sub (.cons_cons _ (.cons_cons _ .slnil))
  refine tD 0 [.val 0 (some 8) (.slice sa l.length sc), .val 1 (some 9) (.int .i64 (l.length : Int)), .val 2 (some 10) (pt B 0), .val 3 (some 11) (pt B 0), .val 4 (some 12) (pt B 1), .load 5 (some 13) 3 (pt B 1) (.int .i64 (D.rm : Int)), .val 6 (some 14) (pt B 0), .val 7 (some 15) (pt B 0), .val 8 (some 16) (pt B 2), .load 9 (some 17) 26 (pt B 2) (.slice a D.o.length c), .val 10 (some 18) (.int .i64 (D.o.length : Int)), .alt 11 (some 19) (.int .i64 (IntKind.i64.wrap ((D.rm : Int) - (D.o.length : Int)))) (.int .i64 ((D.rm : Int) - (D.o.length : Int))), .val 12 (some 20) (.bool (decide (((D.rm : Int) - (D.o.length : Int)) < (l.length : Int))))] ⟨fun W h => ld_any _ _ Try.underlying3 rfl (h.at 0 rfl) 1 rfl, fun W h => ld_any _ _ Try.underlying26 rfl (h.at 0 rfl) 2 rfl, congrArg (Value.int .i64) (IntWalk.i64_in _ (by have h1 := HO.out.room; have h2 := HO.out.len; have h3 := HO.out.sure; omega)), trivial⟩ hS ?_
  refine dD ?_
  try simp only [puts, Tk.put, Act.put, List.setIfInBounds_toArray, List.set_cons_zero, List.set_cons_succ]
  clear hS
  cases hb1 : decide (((D.rm : Int) - (D.o.length : Int)) < (l.length : Int)) with
  | false =>
    have Hhb1 := Lib.hid hb1
    clear hb1
    have hw : writeD D l = (putD D l, 0) := by unfold writeD; rw [if_neg (by have h1 := of_decide_eq_false Hhb1.out; have h3 := HO.out.len; omega)]
    have HL : Hid (D.o.length + l.length ≤ 65536) := Lib.hid (by have h1 := of_decide_eq_false Hhb1.out; have h2 := HO.out.room; have h3 := HO.out.len; omega)
    have HW := Lib.hid hw
    clear hw
    go_upto_region 5 with fail
    refine wp_region_fromM (fun W => Sep w (Res.join (DKR B D (.slice a D.o.length c))).foot [.blk B 37 (dkc true (D.rm : Int) (.slice a D.o.length c) (D.su : Int)), .oct (.slice a D.o.length c) D.o] W) hM ?_
    clear hM
    rintro Y5 hM
    refine tF 7 [.val 0 (some 21) (pt B 0), .val 1 (some 22) (pt B 0), .val 2 (some 23) (pt B 0), .val 3 (some 24) (pt B 0), .val 4 (some 25) (pt B 2), .load 5 (some 26) 26 (pt B 2) (.slice a D.o.length c), .val 6 (some 27) (.int .i64 (D.o.length : Int))] ⟨ld_any _ _ Try.underlying26 rfl (hM.at 0 rfl) 2 rfl, trivial⟩ ?_
    refine cF (some 28) 15 #[pt B 0, .int .i64 (D.o.length : Int)] ((dkLend_any D.o.length (Nat.le_refl _) _ (⟨hM.at 0 rfl, (hM.oka 1 rfl).octs⟩)).mono ?_)
    rintro e Y6 ⟨⟨_, _, hva, rfl⟩, hb⟩
    cases hva
    replace hM := hM.below hb
    clear hb
    refine tF 9 [.val 8 (some 29) (.slice sa l.length sc)] trivial ?_
    obtain ⟨v', Y7, hrun, ht⟩ := app_cap (hM.oka 1 rfl).octs ((HS.out.out hM.out).bsl) (Nat.le_refl _) (by have h1 := HO.out.room; have h2 := HO.out.len; have h3 := HL.out; omega) 26
    replace hM := hM.turn 1 rfl ht rfl
    clear ht
    obtain ⟨a', c', rfl, _⟩ := (hM.oka 1 rfl).octs.slice
    refine wpFrom_append (d := some 30) (t := 26) (t' := 26) (ty := 26) (v := .slice a D.o.length D.o.length) (x := .slice sa l.length sc) (by kernel_rfl) hrun ?_
    clear hrun
    refine tF 12 [.val 10 (some 31) (pt B 0), .val 11 (some 32) (pt B 2)] trivial ?_
    have hst := sto_part (dkc true (D.rm : Int) (.slice a' (D.o ++ l).length c') (D.su : Int)) (hM.at 0 rfl) 2 26 (.slice a' (D.o ++ l).length c') ([.slice a' (D.o ++ l).length c']) rfl (by kernel_rfl) (Nat.le_of_ble_eq_true rfl) rfl rfl
    refine sF 26 (pt B 2) (.slice a' (D.o ++ l).length c') (hst) ?_
    clear hst
    replace hM := hM.set 0 (cs' := dkc true (D.rm : Int) (.slice a' (D.o ++ l).length c') (D.su : Int)) rfl rfl
    generalize World.setRow _ _ _ = Y8 at *
    refine dF ?_
    try simp only [puts, Tk.put, Act.put, List.setIfInBounds_toArray, List.set_cons_zero, List.set_cons_succ]
    go_upto_region 6 with fail
    refine wp_region_fromM (fun W => Sep w (Res.join (DKR B D (.slice a D.o.length c))).foot [.blk B 37 (dkc true (D.rm : Int) (.slice a' (D.o ++ l).length c') (D.su : Int)), .oct (.slice a' (D.o ++ l).length c') (D.o ++ l)] W) hM ?_
    clear hM
    rintro Y9 hM
    refine tF 1 [.val 0 (some 4) (.int .i64 0)] trivial ?_
    refine dF ?_
    try simp only [puts, Tk.put, Act.put, List.setIfInBounds_toArray, List.set_cons_zero, List.set_cons_succ]
    go_wp2_with fail
    go_ret
    rw [HW.out]
    exact ⟨rfl, _, Sep.fin hM (List.Sublist.refl _)⟩
  | true =>
    have Hhb1 := Lib.hid hb1
    clear hb1
    have hw : writeD D l = (D, 10) := by unfold writeD; rw [if_pos (by have h1 := of_decide_eq_true Hhb1.out; have h3 := HO.out.len; omega)]
    have HW := Lib.hid hw
    clear hw
    go_upto_region 4 with fail
    refine wp_region_fromM (fun W => Sep w (Res.join (DKR B D (.slice a D.o.length c))).foot [.blk B 37 (dkc true (D.rm : Int) (.slice a D.o.length c) (D.su : Int)), .oct (.slice a D.o.length c) D.o] W) hM ?_
    clear hM
    rintro Y10 hM
    refine tF 1 [.val 0 (some 4) (.int .i64 10)] trivial ?_
    refine dF ?_
    try simp only [puts, Tk.put, Act.put, List.setIfInBounds_toArray, List.set_cons_zero, List.set_cons_succ]
    go_wp2_with fail
    go_ret
    rw [HW.out]
    exact ⟨rfl, _, Sep.fin hM (List.Sublist.refl _)⟩
set_option maxRecDepth 100000 in
set_option maxHeartbeats 4000000 in
theorem dkSync_any {B : Nat} {D : Dk} {v : Value} (w : World) (h : ROk (.join (DKR B D v)) w) (ho : OkD D) : Calls Try.prog 9 #[.pointer (some ⟨B, 0, none⟩)] w (DkR B (.join (DKR B D v)) (sureD D) (.int .i64 ((D.o.length : Int) - (D.su : Int))) w) := by
  have hmx : Try.prog.follows .mixedOrders = true := by kernel_rfl
  have hM := Sep.begin h
  obtain ⟨a, c, rfl, hc⟩ := (hM.oka 1 rfl).octs.slice
  have HO := Lib.hid ho
  clear h ho hc
  replace hM : Sep w (Res.join (DKR B D (.slice a D.o.length c))).foot [.blk B 37 (dkc true (D.rm : Int) (.slice a D.o.length c) (D.su : Int)), .oct (.slice a D.o.length c) D.o] w := hM
  go_enter Try.func9, Try.ntmps9
  go_upto_region 0 with fail
  refine wp_region_fromM (fun W => Sep w (Res.join (DKR B D (.slice a D.o.length c))).foot [.blk B 37 (dkc true (D.rm : Int) (.slice a D.o.length c) (D.su : Int)), .oct (.slice a D.o.length c) D.o] W) hM ?_
  clear hM
  rintro Y1 hM
  refine tF 1 [.val 0 (some 2) (.int .i64 0)] trivial ?_
  refine dF ?_
  try simp only [puts, Tk.put, Act.put, List.setIfInBounds_toArray, List.set_cons_zero, List.set_cons_succ]
  go_upto_region 1 with fail
  refine wp_region_fromM (fun W => Sep w (Res.join (DKR B D (.slice a D.o.length c))).foot [.blk B 37 (dkc true (D.rm : Int) (.slice a D.o.length c) (D.su : Int)), .oct (.slice a D.o.length c) D.o] W) hM ?_
  clear hM
  rintro Y2 hM
  refine tF 1 [.val 0 (some 4) (pt B 0)] trivial ?_
  refine cF (some 5) 13 #[pt B 0] ((dkFresh_any _ (⟨hM.at 0 rfl, (hM.oka 1 rfl).octs⟩) HO.out).mono ?_)
  rintro e Y3 ⟨rfl, hb⟩
  replace hM := hM.below hb
  clear hb
  refine tF 3 [.val 2 (some 3) (.int .i64 ((D.o.length : Int) - (D.su : Int)))] trivial ?_
  refine dF ?_
  try simp only [puts, Tk.put, Act.put, List.setIfInBounds_toArray, List.set_cons_zero, List.set_cons_succ]
  go_upto_region 2 with fail
  refine wp_region_fromM (fun W => Sep w (Res.join (DKR B D (.slice a D.o.length c))).foot [.blk B 37 (dkc true (D.rm : Int) (.slice a D.o.length c) (D.su : Int)), .oct (.slice a D.o.length c) D.o] W) hM ?_
  clear hM
  rintro Y4 hM
  refine tF 1 [.val 0 (some 6) (pt B 0)] trivial ?_
  refine cF (some 7) 14 #[pt B 0] ((dkThere_yes _ (hM.at 0 rfl)).mono ?_)
  rintro e Y5 ⟨rfl, hb⟩
  replace hM := hM.below hb
  clear hb
  refine dF ?_
  try simp only [puts, Tk.put, Act.put, List.setIfInBounds_toArray, List.set_cons_zero, List.set_cons_succ]
  go_upto_region 3 with fail
  refine wp_region_fromM (fun W => Sep w (Res.join (DKR B D (.slice a D.o.length c))).foot [.blk B 37 (dkc true (D.rm : Int) (.slice a D.o.length c) (D.su : Int)), .oct (.slice a D.o.length c) D.o] W) hM ?_
  clear hM
  rintro Y6 hM
  refine tF 8 [.val 0 (some 8) (pt B 0), .val 1 (some 9) (pt B 0), .val 2 (some 10) (pt B 0), .val 3 (some 11) (pt B 2), .load 4 (some 12) 26 (pt B 2) (.slice a D.o.length c), .val 5 (some 13) (.int .i64 (D.o.length : Int)), .val 6 (some 14) (pt B 0), .val 7 (some 15) (pt B 3)] ⟨ld_any _ _ Try.underlying26 rfl (hM.at 0 rfl) 2 rfl, trivial⟩ ?_
  have hst := sto_part (dkc true (D.rm : Int) (.slice a D.o.length c) (D.o.length : Int)) (hM.at 0 rfl) 3 3 (.int .i64 (D.o.length : Int)) ([.int .i64 (D.o.length : Int)]) rfl (by kernel_rfl) (Nat.le_of_ble_eq_true rfl) rfl rfl
  refine sF 3 (pt B 3) (.int .i64 (D.o.length : Int)) (hst) ?_
  clear hst
  replace hM := hM.set 0 (cs' := dkc true (D.rm : Int) (.slice a D.o.length c) (D.o.length : Int)) rfl rfl
  generalize World.setRow _ _ _ = Y7 at *
  refine dF ?_
  try simp only [puts, Tk.put, Act.put, List.setIfInBounds_toArray, List.set_cons_zero, List.set_cons_succ]
  go_upto_region 4 with fail
  refine wp_region_fromM (fun W => Sep w (Res.join (DKR B D (.slice a D.o.length c))).foot [.blk B 37 (dkc true (D.rm : Int) (.slice a D.o.length c) (D.o.length : Int)), .oct (.slice a D.o.length c) D.o] W) hM ?_
  clear hM
  rintro Y8 hM
  refine tF 2 [.val 0 (some 16) (.int .i64 ((D.o.length : Int) - (D.su : Int))), .val 1 (some 2) (.int .i64 ((D.o.length : Int) - (D.su : Int)))] trivial ?_
  refine dF ?_
  try simp only [puts, Tk.put, Act.put, List.setIfInBounds_toArray, List.set_cons_zero, List.set_cons_succ]
  go_wp2_with fail
  go_ret
  exact ⟨rfl, _, Sep.fin hM (List.Sublist.refl _)⟩
theorem keep_eq {D : Dk} (h : OkD D) (n : Int) : IntKind.i64.wrap ((D.su : Int) + max2I 0 (min2I n ((D.o.length : Int) - (D.su : Int)))) = ((keepN D n : Nat) : Int) := by
  have h1 := h.room
  have h2 := h.len
  have h3 := h.sure
  rw [max2I_eq, min2I_eq, IntWalk.i64_in _ (by omega)]
  unfold keepN
  omega
set_option maxRecDepth 100000 in
set_option maxHeartbeats 4000000 in
theorem dkFall_any {B : Nat} {D : Dk} {v : Value} (n : Int) (w : World) (h : ROk (.join (DKR B D v)) w) (ho : OkD D) : Calls Try.prog 10 #[.pointer (some ⟨B, 0, none⟩), .int .i64 n] w (DkR B (.join (DKR B D v)) (leaveD D (keepN D n)) (.tuple #[]) w) := by
  have hmx : Try.prog.follows .mixedOrders = true := by kernel_rfl
  have hM := Sep.begin h
  obtain ⟨a, c, rfl, hc⟩ := (hM.oka 1 rfl).octs.slice
  have HO := Lib.hid ho
  clear h ho hc
  replace hM : Sep w (Res.join (DKR B D (.slice a D.o.length c))).foot [.blk B 37 (dkc true (D.rm : Int) (.slice a D.o.length c) (D.su : Int)), .oct (.slice a D.o.length c) D.o] w := hM
  go_enter Try.func10, Try.ntmps10
  go_upto_region 0 with fail
  refine wp_region_fromM (fun W => Sep w (Res.join (DKR B D (.slice a D.o.length c))).foot [.blk B 37 (dkc true (D.rm : Int) (.slice a D.o.length c) (D.su : Int)), .oct (.slice a D.o.length c) D.o] W) hM ?_
  clear hM
  rintro Y1 hM
  refine tF 1 [.val 0 (some 4) (pt B 0)] trivial ?_
  refine cF (some 5) 14 #[pt B 0] ((dkThere_yes _ (hM.at 0 rfl)).mono ?_)
  rintro e Y2 ⟨rfl, hb⟩
  replace hM := hM.below hb
  clear hb
  refine dF ?_
  try simp only [puts, Tk.put, Act.put, List.setIfInBounds_toArray, List.set_cons_zero, List.set_cons_succ]
  go_upto_region 1 with fail
  refine wp_region_M (fun W => Sep w (Res.join (DKR B D (.slice a D.o.length c))).foot [] W) (fun W => Sep w (Res.join (DKR B D (.slice a D.o.length c))).foot [.blk B 37 (dkc true (D.rm : Int) (.slice a D.o.length c) (D.su : Int)), .oct (.slice a D.o.length c) D.o] W) hmx hM.drew ?_
  clear hM
  rintro Y3 hM
  have hS := hM.sub (.cons _ (.cons _ .slnil))
  refine tD 6 [.val 0 (some 6) (pt B 0), .val 1 (some 7) (pt B 0), .val 2 (some 8) (pt B 0), .val 3 (some 9) (pt B 3), .val 5 (some 11) (.int .i64 n), .val 6 (some 12) (pt B 0)] trivial hS ?_
  refine oT 4 7 5 ?_ ?_
  · refine lD (some 10) 3 (pt B 3) (.int .i64 (D.su : Int)) (ld_any _ _ Try.underlying3 rfl (hM.at 0 rfl) 3 rfl) (hS) ?_
    refine oD 7 4 (cD (some 13) 13 #[pt B 0] ((dkFresh_any _ (⟨hM.at 0 rfl, (hM.oka 1 rfl).octs⟩) HO.out).mono ?_))
    rintro e Y4 ⟨rfl, hb⟩
    refine And.intro (hS.below hb) ?_
    replace hS := hS.below hb
    replace hM := hM.below hb
    clear hb
    refine tD 1 [.val 8 (some 14) (.int .i64 (min2I n ((D.o.length : Int) - (D.su : Int)))), .val 9 (some 15) (.int .i64 (max2I 0 (min2I n ((D.o.length : Int) - (D.su : Int))))), .alt 10 (some 16) (.int .i64 (IntKind.i64.wrap ((D.su : Int) + (max2I 0 (min2I n ((D.o.length : Int) - (D.su : Int))))))) (.int .i64 ((keepN D n : Nat) : Int))] ⟨congrArg (Value.int .i64) (keep_eq HO.out n), trivial⟩ hS ?_
    have hJ : ROk (.join (DKR B D (.slice a D.o.length c))) _ := (hM.close (ps := DKR B D (.slice a D.o.length c)) (l := [])).oka 0 rfl
    refine oD 11 0 (cD (some 17) 16 #[pt B 0, .int .i64 ((keepN D n : Nat) : Int)] ((dkLeave_any (keepN D n) (keep_le HO.out n) _ hJ HO.out).mono ?_))
    rintro e Y5 ⟨rfl, v', hT⟩
    clear hJ hS
    replace hM := (hM.close (ps := DKR B D (.slice a D.o.length c)) (l := [])).turn 0 rfl hT rfl
    clear hT
    refine And.intro (hM.sub (List.nil_sublist _)) ?_
    have hS := hM.sub (List.nil_sublist _)
    refine dD ?_
    try simp only [puts, Tk.put, Act.put, List.setIfInBounds_toArray, List.set_cons_zero, List.set_cons_succ]
    clear hS
    go_wp2_with fail
    go_end0
    exact ⟨rfl, v', Sep.fin hM.part (List.Sublist.refl _)⟩
  · refine cD (some 13) 13 #[pt B 0] ((dkFresh_any _ (⟨hM.at 0 rfl, (hM.oka 1 rfl).octs⟩) HO.out).mono ?_)
    rintro e Y6 ⟨rfl, hb⟩
    refine And.intro (hS.below hb) ?_
    replace hS := hS.below hb
    replace hM := hM.below hb
    clear hb
    refine tD 3 [.val 8 (some 14) (.int .i64 (min2I n ((D.o.length : Int) - (D.su : Int)))), .val 9 (some 15) (.int .i64 (max2I 0 (min2I n ((D.o.length : Int) - (D.su : Int)))))] trivial hS ?_
    refine oD 4 2 (lD (some 10) 3 (pt B 3) (.int .i64 (D.su : Int)) (ld_any _ _ Try.underlying3 rfl (hM.at 0 rfl) 3 rfl) (hS) ?_)
    refine tD 1 [.alt 10 (some 16) (.int .i64 (IntKind.i64.wrap ((D.su : Int) + (max2I 0 (min2I n ((D.o.length : Int) - (D.su : Int))))))) (.int .i64 ((keepN D n : Nat) : Int))] ⟨congrArg (Value.int .i64) (keep_eq HO.out n), trivial⟩ hS ?_
    have hJ : ROk (.join (DKR B D (.slice a D.o.length c))) _ := (hM.close (ps := DKR B D (.slice a D.o.length c)) (l := [])).oka 0 rfl
    refine oD 11 0 (cD (some 17) 16 #[pt B 0, .int .i64 ((keepN D n : Nat) : Int)] ((dkLeave_any (keepN D n) (keep_le HO.out n) _ hJ HO.out).mono ?_))
    rintro e Y7 ⟨rfl, v', hT⟩
    clear hJ hS
    replace hM := (hM.close (ps := DKR B D (.slice a D.o.length c)) (l := [])).turn 0 rfl hT rfl
    clear hT
    refine And.intro (hM.sub (List.nil_sublist _)) ?_
    have hS := hM.sub (List.nil_sublist _)
    refine dD ?_
    try simp only [puts, Tk.put, Act.put, List.setIfInBounds_toArray, List.set_cons_zero, List.set_cons_succ]
    clear hS
    go_wp2_with fail
    go_end0
    exact ⟨rfl, v', Sep.fin hM.part (List.Sublist.refl _)⟩
set_option maxRecDepth 100000 in
set_option maxHeartbeats 4000000 in
theorem dkTrim_any {B : Nat} {D : Dk} {v : Value} (n : Int) (w : World) (h : ROk (.join (DKR B D v)) w) (ho : OkD D) : Calls Try.prog 11 #[.pointer (some ⟨B, 0, none⟩), .int .i64 n] w (DkR B (.join (DKR B D v)) (trimD D n).1 (.int .i64 (trimD D n).2) w) := by
  have hmx : Try.prog.follows .mixedOrders = true := by kernel_rfl
  have hM := Sep.begin h
  obtain ⟨a, c, rfl, hc⟩ := (hM.oka 1 rfl).octs.slice
  have HO := Lib.hid ho
  clear h ho hc
  replace hM : Sep w (Res.join (DKR B D (.slice a D.o.length c))).foot [.blk B 37 (dkc true (D.rm : Int) (.slice a D.o.length c) (D.su : Int)), .oct (.slice a D.o.length c) D.o] w := hM
  go_enter Try.func11, Try.ntmps11
  go_upto_region 0 with fail
  refine wp_region_fromM (fun W => Sep w (Res.join (DKR B D (.slice a D.o.length c))).foot [.blk B 37 (dkc true (D.rm : Int) (.slice a D.o.length c) (D.su : Int)), .oct (.slice a D.o.length c) D.o] W) hM ?_
  clear hM
  rintro Y1 hM
  refine tF 1 [.val 0 (some 4) (.int .i64 0)] trivial ?_
  refine dF ?_
  try simp only [puts, Tk.put, Act.put, List.setIfInBounds_toArray, List.set_cons_zero, List.set_cons_succ]
  go_upto_region 1 with fail
  refine wp_region_fromM (fun W => Sep w (Res.join (DKR B D (.slice a D.o.length c))).foot [.blk B 37 (dkc true (D.rm : Int) (.slice a D.o.length c) (D.su : Int)), .oct (.slice a D.o.length c) D.o] W) hM ?_
  clear hM
  rintro Y2 hM
  refine tF 1 [.val 0 (some 5) (pt B 0)] trivial ?_
  refine cF (some 6) 14 #[pt B 0] ((dkThere_yes _ (hM.at 0 rfl)).mono ?_)
  rintro e Y3 ⟨rfl, hb⟩
  replace hM := hM.below hb
  clear hb
  refine tF 3 [.val 2 (some 7) (.bool false)] trivial ?_
  refine dF ?_
  try simp only [puts, Tk.put, Act.put, List.setIfInBounds_toArray, List.set_cons_zero, List.set_cons_succ]
  go_upto_region 3 with fail
  refine wp_region_fromM (fun W => Sep w (Res.join (DKR B D (.slice a D.o.length c))).foot [.blk B 37 (dkc true (D.rm : Int) (.slice a D.o.length c) (D.su : Int)), .oct (.slice a D.o.length c) D.o] W) hM ?_
  clear hM
  rintro Y4 hM
  refine tF 3 [.val 0 (some 8) (.int .i64 n), .val 1 (some 9) (.bool (decide (n < 0))), .val 2 (some 10) (.bool (decide (n < 0)))] trivial ?_
  cases hb1 : decide (n < 0) with
  | false =>
    have Hhb1 := Lib.hid hb1
    clear hb1
    refine tF 11 [.val 3 (some 11) (.int .i64 n), .val 4 (some 12) (pt B 0), .val 5 (some 13) (pt B 0), .val 6 (some 14) (pt B 2), .load 7 (some 15) 26 (pt B 2) (.slice a D.o.length c), .val 8 (some 16) (.int .i64 (D.o.length : Int)), .val 9 (some 17) (.bool (decide ((D.o.length : Int) < n))), .val 10 (some 18) (.bool (decide ((D.o.length : Int) < n)))] ⟨ld_any _ _ Try.underlying26 rfl (hM.at 0 rfl) 2 rfl, trivial⟩ ?_
    refine dF ?_
    try simp only [puts, Tk.put, Act.put, List.setIfInBounds_toArray, List.set_cons_zero, List.set_cons_succ]
    cases hb2 : decide ((D.o.length : Int) < n) with
    | false =>
      have Hhb2 := Lib.hid hb2
      clear hb2
      go_upto_region 5 with fail
      refine wp_region_fromM (fun W => Sep w (Res.join (DKR B D (.slice a D.o.length c))).foot [.blk B 37 (dkc true (D.rm : Int) (.slice a D.o.length c) (D.su : Int)), .oct (.slice a D.o.length c) D.o] W) hM ?_
      clear hM
      rintro Y5 hM
      refine tF 2 [.val 0 (some 19) (pt B 0), .val 1 (some 20) (.int .i64 n)] trivial ?_
      obtain ⟨k, rfl⟩ : ∃ k : Nat, n = (k : Int) := ⟨n.toNat, by have h1 := of_decide_eq_false Hhb1.out; omega⟩
      have HK : Hid (k ≤ D.o.length) := Lib.hid (by have h1 := of_decide_eq_false Hhb2.out; omega)
      have hJ : ROk (.join (DKR B D (.slice a D.o.length c))) _ := (hM.close (ps := DKR B D (.slice a D.o.length c)) (l := [])).oka 0 rfl
      refine cF (some 21) 16 #[pt B 0, .int .i64 (k : Int)] ((dkLeave_any k (HK.out) _ hJ HO.out).mono ?_)
      rintro e Y6 ⟨rfl, v', hT⟩
      clear hJ
      replace hM := (hM.close (ps := DKR B D (.slice a D.o.length c)) (l := [])).turn 0 rfl hT rfl
      clear hT
      refine dF ?_
      try simp only [puts, Tk.put, Act.put, List.setIfInBounds_toArray, List.set_cons_zero, List.set_cons_succ]
      go_upto_region 6 with fail
      refine wp_region_fromM (fun W => Sep w (Res.join (DKR B D (.slice a D.o.length c))).foot [.join (DKR B (leaveD D k) v')] W) hM ?_
      clear hM
      rintro Y7 hM
      refine tF 1 [.val 0 (some 4) (.int .i64 0)] trivial ?_
      refine dF ?_
      try simp only [puts, Tk.put, Act.put, List.setIfInBounds_toArray, List.set_cons_zero, List.set_cons_succ]
      go_wp2_with fail
      go_ret
      unfold trimD
      rw [if_neg (fun hh => hh.elim (of_decide_eq_false Hhb1.out) (of_decide_eq_false Hhb2.out))]
      exact ⟨rfl, v', Sep.fin hM.part (List.Sublist.refl _)⟩
    | true =>
      have Hhb2 := Lib.hid hb2
      clear hb2
      go_upto_region 4 with fail
      refine wp_region_fromM (fun W => Sep w (Res.join (DKR B D (.slice a D.o.length c))).foot [.blk B 37 (dkc true (D.rm : Int) (.slice a D.o.length c) (D.su : Int)), .oct (.slice a D.o.length c) D.o] W) hM ?_
      clear hM
      rintro Y8 hM
      refine tF 1 [.val 0 (some 4) (.int .i64 4)] trivial ?_
      refine dF ?_
      try simp only [puts, Tk.put, Act.put, List.setIfInBounds_toArray, List.set_cons_zero, List.set_cons_succ]
      go_wp2_with fail
      go_ret
      unfold trimD
      rw [if_pos (.inr (of_decide_eq_true Hhb2.out))]
      exact ⟨rfl, _, Sep.fin hM (List.Sublist.refl _)⟩
  | true =>
    have Hhb1 := Lib.hid hb1
    clear hb1
    refine tF 8 [.skip 3 (some 11), .skip 4 (some 12), .skip 5 (some 13), .skip 6 (some 14), .skip 7 (some 15)] trivial ?_
    refine wpFrom_not (d := some 16) (by kernel_rfl) ?_
    refine tF 11 [.skip 9 (some 17), .val 10 (some 18) (.bool true)] trivial ?_
    refine dF ?_
    try simp only [puts, Tk.put, Act.put, List.setIfInBounds_toArray, List.set_cons_zero, List.set_cons_succ]
    go_upto_region 4 with fail
    refine wp_region_fromM (fun W => Sep w (Res.join (DKR B D (.slice a D.o.length c))).foot [.blk B 37 (dkc true (D.rm : Int) (.slice a D.o.length c) (D.su : Int)), .oct (.slice a D.o.length c) D.o] W) hM ?_
    clear hM
    rintro Y9 hM
    refine tF 1 [.val 0 (some 4) (.int .i64 4)] trivial ?_
    refine dF ?_
    try simp only [puts, Tk.put, Act.put, List.setIfInBounds_toArray, List.set_cons_zero, List.set_cons_succ]
    go_wp2_with fail
    go_ret
    unfold trimD
    rw [if_pos (.inl (of_decide_eq_true Hhb1.out))]
    exact ⟨rfl, _, Sep.fin hM (List.Sublist.refl _)⟩
theorem room_eq (n : Int) : max2I 0 (min2I n 65536) = ((newD n).rm : Int) := by
  rw [max2I_eq, min2I_eq]
  show _ = ((roomN n : Nat) : Int)
  unfold roomN
  omega
/-- A disk has been made. -/
def DkN (D : Dk) (w : World) (e : Ending) (W' : World) : Prop := ∃ B v, e = .returned (.pointer (some ⟨B, 0, none⟩)) ∧ Sep w [] (DKR B D v) W'
set_option maxRecDepth 100000 in
set_option maxHeartbeats 4000000 in
theorem dkNew_any (n : Int) (w : World) : Calls Try.prog 7 #[.int .i64 n] w (DkN (newD n) w) := by
  have hmx : Try.prog.follows .mixedOrders = true := by kernel_rfl
  have hM := Sep.start w
  go_enter Try.func7, Try.ntmps7
  go_upto_region 0 with fail
  refine wp_region_fromM (fun W => Sep w [] [] W) hM ?_
  clear hM
  rintro Y1 hM
  refine tF 1 [.val 0 (some 2) (.pointer none)] trivial ?_
  refine dF ?_
  try simp only [puts, Tk.put, Act.put, List.setIfInBounds_toArray, List.set_cons_zero, List.set_cons_succ]
  go_upto_region 1 with fail
  refine wp_region_fromM (fun W => Sep w [] [] W) hM ?_
  clear hM
  rintro Y2 hM
  refine tF 4 [.val 0 (some 3) (.int .i64 n), .val 1 (some 4) (.int .i64 (min2I n 65536)), .val 2 (some 5) (.int .i64 (max2I 0 (min2I n 65536))), .val 3 (some 6) (.agg (dkc true (max2I 0 (min2I n 65536)) (.slice none 0 0) 0).toArray)] trivial ?_
  refine rF (some 7) (pt Y2.heap.size 0) (Y2.alloc (.cells (dkc true (max2I 0 (min2I n 65536)) (.slice none 0 0) 0).toArray 37)) ?_
  replace hM := hM.alloc 37 (dkc true (max2I 0 (min2I n 65536)) (.slice none 0 0) 0)
  generalize World.alloc _ _ = Y3 at *
  generalize hNe : Y2.heap.size = B at *
  clear hNe
  refine tF 6 [.val 5 (some 2) (pt B 0)] trivial ?_
  refine dF ?_
  try simp only [puts, Tk.put, Act.put, List.setIfInBounds_toArray, List.set_cons_zero, List.set_cons_succ]
  rw [room_eq] at hM
  have hM2 : Sep w [] (DKR B (newD n) (.slice none 0 0)) _ := (hM.octN (BSl.nil _ _ _) (Below.refl _ _)).pick [1, 0] (by decide) rfl
  go_wp2_with fail
  go_ret
  exact ⟨B, _, rfl, hM2⟩
set_option maxRecDepth 100000 in
set_option maxHeartbeats 4000000 in
theorem dkFresh_no {p : Value} (w : World) (h : NoD w p) : Calls Try.prog 13 #[p] w fun e W' => e = .returned (.int .i64 0) ∧ W' = w := by
  have HN := Lib.hid h
  clear h
  go_enter Try.func13, Try.ntmps13
  go_wp2_with (go_at_call 14; refine (dkThere_no _ HN.out).mono ?_; rintro e w' ⟨rfl, rfl⟩)
  go_ret
  exact ⟨rfl, rfl⟩
set_option maxRecDepth 100000 in
set_option maxHeartbeats 4000000 in
theorem dkOctets_no {p : Value} (w : World) (h : NoD w p) : Calls Try.prog 12 #[p] w fun e W' => e = .returned (.slice none 0 0) ∧ W' = w := by
  have HN := Lib.hid h
  clear h
  go_enter Try.func12, Try.ntmps12
  go_wp2_with (go_at_call 14; refine (dkThere_no _ HN.out).mono ?_; rintro e w' ⟨rfl, rfl⟩)
  go_ret
  exact ⟨rfl, rfl⟩
set_option maxRecDepth 100000 in
set_option maxHeartbeats 4000000 in
theorem dkWrite_no {p : Value} (sv : Value) (w : World) (h : NoD w p) : Calls Try.prog 8 #[p, sv] w fun e W' => e = .returned (.int .i64 9) ∧ W' = w := by
  have HN := Lib.hid h
  clear h
  go_enter Try.func8, Try.ntmps8
  go_wp2_with (go_at_call 14; refine (dkThere_no _ HN.out).mono ?_; rintro e w' ⟨rfl, rfl⟩)
  go_ret
  exact ⟨rfl, rfl⟩
set_option maxRecDepth 100000 in
set_option maxHeartbeats 4000000 in
theorem dkTrim_no {p : Value} (n : Int) (w : World) (h : NoD w p) : Calls Try.prog 11 #[p, .int .i64 n] w fun e W' => e = .returned (.int .i64 9) ∧ W' = w := by
  have HN := Lib.hid h
  clear h
  go_enter Try.func11, Try.ntmps11
  go_wp2_with (go_at_call 14; refine (dkThere_no _ HN.out).mono ?_; rintro e w' ⟨rfl, rfl⟩)
  go_ret
  exact ⟨rfl, rfl⟩
set_option maxRecDepth 100000 in
set_option maxHeartbeats 4000000 in
theorem dkFall_no {p : Value} (n : Int) (w : World) (h : NoD w p) : Calls Try.prog 10 #[p, .int .i64 n] w fun e W' => e = .returned (.tuple #[]) ∧ W' = w := by
  have HN := Lib.hid h
  clear h
  go_enter Try.func10, Try.ntmps10
  go_wp2_with (go_at_call 14; refine (dkThere_no _ HN.out).mono ?_; rintro e w' ⟨rfl, rfl⟩)
  go_end0
  exact ⟨rfl, rfl⟩
set_option maxRecDepth 100000 in
set_option maxHeartbeats 4000000 in
theorem dkSync_no {p : Value} (w : World) (h : NoD w p) : Calls Try.prog 9 #[p] w fun e W' => e = .returned (.int .i64 0) ∧ W' = w := by
  have HN := Lib.hid h
  clear h
  go_enter Try.func9, Try.ntmps9
  go_wp2_with (first | (go_at_call 14; refine (dkThere_no _ HN.out).mono ?_; rintro e w' ⟨rfl, rfl⟩) | (go_at_call 13; refine (dkFresh_no _ HN.out).mono ?_; rintro e w' ⟨rfl, rfl⟩))
  go_ret
  exact ⟨rfl, rfl⟩
end Go.Proofs.Ytcgiidpngkhhdaa
