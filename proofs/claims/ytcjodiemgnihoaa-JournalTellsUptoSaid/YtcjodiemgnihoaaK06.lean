/-
  slices.Clone of octets; A disk: the program's functions; Octets as parts of memory: rows of the call's own, rows that are only read; what is appended to them, cut off them; A journal: Frame, the first record, bytes.Equal
-/
import Derived.Laws.OwnMore
import Derived.WalkSpells
import Derived.Test.YtcjodiemgnihoaaK05
namespace Go.Proofs.Ytcjodiemgnihoaa
open Go.RowKit Go.Shelf
set_option maxRecDepth 100000 in
set_option maxHeartbeats 1000000 in
theorem clone_any (l : List UInt8) (sv : Value) (w : World) {lo hi' : Nat} (hreach : l.length ≤ 140737488355328) (hsv : BSl lo hi' w sv l) (hhi : hi' ≤ w.heap.size) :
    Calls Try.prog 33 #[sv] w (ByO l w) := by
  obtain ⟨i0, hi, hz0, hz1, hz2⟩ := info_parts Try.infoByte
  have hsv0 := hsv
  obtain ⟨a, cap, rfl, hcap, h0⟩ := hsv
  rcases a with _ | ad
  · have hl : l = [] := by
      rcases h0 with h0 | ⟨_, _, h, _⟩
      · exact h0
      · cases h
    subst hl
    have hnil := fun w => Lib.run_eql_slice_nil (P := Try.prog) w 22 5 none 0 cap 0 0 Try.underlying22
    change Calls _ _ #[.slice none 0 cap] _ _
    go_enter Try.func33, Try.ntmps33
    go_wp2
    go_ret
    exact ⟨_, rfl, World.ownsRow_nil _ _ _ _, Below.refl _ _⟩
  · clear h0
    have hnil := fun w => Lib.run_eql_slice_nil (P := Try.prog) w 22 5 (some ad) l.length cap 0 0 Try.underlying22
    generalize hL : l.length = len at *
    have HL := Lib.hid hL
    clear hL
    go_enter Try.func33, Try.ntmps33
    go_wp2_with (at_builtin; refine wpList_append_b _ rfl _ _ 22 rfl w.heap.size 5 i0 (.int .u8 0) Try.underlying22 hi hz0 hz1 hz2 rfl _ 0 [] rfl (World.ownsRow_lit w #[] 0 (Nat.le_refl _) (by unfold maxLen; omega) rfl) _ l rfl (hsv0.below ((Below.refl hi' w).alloc hhi _) (Nat.le_refl _)) (by rw [HL.out]; omega) (by simp) ?_; intro v' w1 hown' hgrow)
    go_ret
    refine ⟨_, rfl, by simpa using hown', ((chain0 w _).grown hgrow (by simp) (fun k e => ?_))⟩
    have : w.heap.size = k := Option.some.inj e
    omega
end Go.Proofs.Ytcjodiemgnihoaa
namespace Go.Proofs.Ytcjodiemgnihoaa
open Go.RowKit Go.Shelf
attribute [local irreducible] wpFrom wpAnyH StepH
set_option maxRecDepth 100000 in
set_option maxHeartbeats 4000000 in
theorem dkThere_yes {B : Nat} {r s : Int} {v : Value} (w : World) (hB : Blk w B 57 (dkc true r v s)) : Calls Try.prog 30 #[.pointer (some ⟨B, 0, none⟩)] w fun e W' => e = .returned (.bool true) ∧ Below w.heap.size w W' := by
  have hmx : Try.prog.follows .mixedOrders = true := by kernel_rfl
  have HB := Lib.hid hB
  clear hB
  have hM := Sep.start w
  go_enter Try.func30, Try.ntmps30
  go_upto_region 0 with fail
  refine wp_region_fromM (fun W => Sep w [] [] W) hM ?_
  clear hM
  rintro Y1 hM
  refine tF 1 [.val 0 (some 2) (.bool false)] trivial ?_
  refine dF ?_
  try simp only [puts, Tk.put, Act.put, List.setIfInBounds_toArray, List.set_cons_zero, List.set_cons_succ]
  go_upto_region 1 with fail
  refine wp_region_fromM (fun W => Sep w [] [] W) hM ?_
  clear hM
  rintro Y2 hM
  refine tF 9 [.val 0 (some 3) (pt B 0), .val 1 (some 4) (.bool true), .val 2 (some 5) (.bool true), .val 3 (some 6) (pt B 0), .val 4 (some 7) (pt B 0), .val 5 (some 8) (pt B 0), .load 6 (some 9) 4 (pt B 0) (.bool true), .val 7 (some 10) (.bool true), .val 8 (some 2) (.bool true)] ⟨ld_any _ _ Try.underlying4 rfl (HB.out.below hM.b HB.out.lt) 0 rfl, trivial⟩ ?_
  refine dF ?_
  try simp only [puts, Tk.put, Act.put, List.setIfInBounds_toArray, List.set_cons_zero, List.set_cons_succ]
  go_wp2_with fail
  go_ret
  exact ⟨rfl, hM.b⟩
theorem dkThere_no {p : Value} (w : World) (h : NoD w p) : Calls Try.prog 30 #[p] w fun e W' => e = .returned (.bool false) ∧ W' = w := by
  rcases h with rfl | ⟨B, rfl, hB⟩
  · go_enter Try.func30, Try.ntmps30
    go_wp2
    go_ret
    exact ⟨rfl, rfl⟩
  · go_enter Try.func30, Try.ntmps30
    go_upto_region 1 with fail
    refine wp_region_from ?_
    refine tF 9 [.val 0 (some 3) (pt B 0), .val 1 (some 4) (.bool true), .val 2 (some 5) (.bool true), .val 3 (some 6) (pt B 0), .val 4 (some 7) (pt B 0), .val 5 (some 8) (pt B 0), .load 6 (some 9) 4 (pt B 0) (.bool false), .val 7 (some 10) (.bool false), .val 8 (some 2) (.bool false)] ⟨ld_any _ _ Try.underlying4 rfl hB 0 rfl, trivial⟩ ?_
    refine dF ?_
    try simp only [puts, Tk.put, Act.put, List.setIfInBounds_toArray, List.set_cons_zero, List.set_cons_succ]
    go_wp2_with fail
    go_ret
    exact ⟨rfl, rfl⟩
def LentE (v : Value) (n k : Nat) (e : Ending) : Prop := ∃ a c, v = .slice a n c ∧ e = .returned (.slice a k k)
set_option maxRecDepth 100000 in
set_option maxHeartbeats 4000000 in
theorem dkLend_any {B : Nat} {D : Dk} {v : Value} (k : Nat) (hk : k ≤ D.o.length) (w : World) (hv : DkV w B D v) : Calls Try.prog 34 #[.pointer (some ⟨B, 0, none⟩), .int .i64 (k : Int)] w fun e W' => LentE v D.o.length k e ∧ Below w.heap.size w W' := by
  have hmx : Try.prog.follows .mixedOrders = true := by kernel_rfl
  obtain ⟨a, c, rfl, hc⟩ := hv.o.slice
  have HV := Lib.hid hv
  have HK := Lib.hid hk
  clear hk
  clear hv hc
  have hM := Sep.start w
  go_enter Try.func34, Try.ntmps34
  go_upto_region 0 with fail
  refine wp_region_fromM (fun W => Sep w [] [] W) hM ?_
  clear hM
  rintro Y1 hM
  refine tF 1 [.val 0 (some 4) (.slice none 0 0)] trivial ?_
  refine dF ?_
  try simp only [puts, Tk.put, Act.put, List.setIfInBounds_toArray, List.set_cons_zero, List.set_cons_succ]
  go_upto_region 1 with fail
  refine wp_region_fromM (fun W => Sep w [] [] W) hM ?_
  clear hM
  rintro Y2 hM
  refine tF 8 [.val 0 (some 5) (pt B 0), .val 1 (some 6) (pt B 0), .val 2 (some 7) (pt B 2), .load 3 (some 8) 22 (pt B 2) (.slice a D.o.length c), .val 4 (some 9) (.int .i64 (k : Int)), .val 5 (some 10) (.int .i64 (k : Int)), .slc 6 (some 11) 22 (.slice a D.o.length c) none (some (.int .i64 (k : Int))) (some (.int .i64 (k : Int))) (.slice a k k), .val 7 (some 4) (.slice a k k)] ⟨ld_any _ _ Try.underlying22 rfl (HV.out.below hM.b).b 2 rfl, slice_hm HV.out.o HK.out _, trivial⟩ ?_
  refine dF ?_
  try simp only [puts, Tk.put, Act.put, List.setIfInBounds_toArray, List.set_cons_zero, List.set_cons_succ]
  go_wp2_with fail
  go_ret
  exact ⟨⟨a, c, rfl, rfl⟩, hM.b⟩
set_option maxRecDepth 100000 in
set_option maxHeartbeats 4000000 in
theorem dkFresh_any {B : Nat} {D : Dk} {v : Value} (w : World) (hv : DkV w B D v) (ho : OkD D) : Calls Try.prog 17 #[.pointer (some ⟨B, 0, none⟩)] w fun e W' => e = .returned (.int .i64 ((D.o.length : Int) - (D.su : Int))) ∧ Below w.heap.size w W' := by
  have hmx : Try.prog.follows .mixedOrders = true := by kernel_rfl
  obtain ⟨a, c, rfl, hc⟩ := hv.o.slice
  have HV := Lib.hid hv
  have HO := Lib.hid ho
  clear ho
  clear hv hc
  have hM := Sep.start w
  go_enter Try.func17, Try.ntmps17
  go_upto_region 0 with fail
  refine wp_region_fromM (fun W => Sep w [] [] W) hM ?_
  clear hM
  rintro Y1 hM
  refine tF 1 [.val 0 (some 2) (.int .i64 0)] trivial ?_
  refine dF ?_
  try simp only [puts, Tk.put, Act.put, List.setIfInBounds_toArray, List.set_cons_zero, List.set_cons_succ]
  go_upto_region 1 with fail
  refine wp_region_fromM (fun W => Sep w [] [] W) hM ?_
  clear hM
  rintro Y2 hM
  refine tF 1 [.val 0 (some 3) (pt B 0)] trivial ?_
  refine cF (some 4) 30 #[pt B 0] ((dkThere_yes _ ((HV.out.below hM.b).b)).mono ?_)
  rintro e Y3 ⟨rfl, hb⟩
  replace hM := hM.below hb
  clear hb
  refine tF 3 [.val 2 (some 5) (.bool false)] trivial ?_
  refine dF ?_
  try simp only [puts, Tk.put, Act.put, List.setIfInBounds_toArray, List.set_cons_zero, List.set_cons_succ]
  go_upto_region 3 with fail
  refine wp_region_M (fun W => Sep w [] [] W) (fun W => Sep w [] [] W) hmx hM.drew ?_
  clear hM
  rintro Y4 hM
  have hS := hM.sub .slnil
  refine tD 0 [.val 0 (some 6) (pt B 0), .val 1 (some 7) (pt B 0), .val 2 (some 8) (pt B 2), .load 3 (some 9) 22 (pt B 2) (.slice a D.o.length c), .val 4 (some 10) (.int .i64 (D.o.length : Int)), .val 5 (some 11) (pt B 0), .val 6 (some 12) (pt B 0), .val 7 (some 13) (pt B 3), .load 8 (some 14) 3 (pt B 3) (.int .i64 (D.su : Int)), .alt 9 (some 15) (.int .i64 (IntKind.i64.wrap ((D.o.length : Int) - (D.su : Int)))) (.int .i64 ((D.o.length : Int) - (D.su : Int))), .val 10 (some 2) (.int .i64 ((D.o.length : Int) - (D.su : Int)))] ⟨fun W h => ld_any _ _ Try.underlying22 rfl (HV.out.below h.b).b 2 rfl, fun W h => ld_any _ _ Try.underlying3 rfl (HV.out.below h.b).b 3 rfl, congrArg (Value.int .i64) (IntWalk.i64_in _ (by have h1 := HO.out.room; have h2 := HO.out.len; have h3 := HO.out.sure; omega)), trivial⟩ hS ?_
  refine dD ?_
  try simp only [puts, Tk.put, Act.put, List.setIfInBounds_toArray, List.set_cons_zero, List.set_cons_succ]
  clear hS
  go_wp2_with fail
  go_ret
  exact ⟨rfl, hM.b⟩
def OctO (l : List UInt8) (w : World) (e : Ending) (W' : World) : Prop := ∃ v, e = .returned v ∧ Sep w [] [.oct v l] W'
set_option maxRecDepth 100000 in
set_option maxHeartbeats 4000000 in
theorem dkOctets_any {B : Nat} {D : Dk} {v : Value} (w : World) (hv : DkV w B D v) (ho : OkD D) : Calls Try.prog 21 #[.pointer (some ⟨B, 0, none⟩)] w (OctO D.o w) := by
  have hmx : Try.prog.follows .mixedOrders = true := by kernel_rfl
  obtain ⟨a, c, rfl, hc⟩ := hv.o.slice
  have HV := Lib.hid hv
  have HO := Lib.hid ho
  clear ho
  clear hv hc
  have hM := Sep.start w
  go_enter Try.func21, Try.ntmps21
  go_upto_region 0 with fail
  refine wp_region_fromM (fun W => Sep w [] [] W) hM ?_
  clear hM
  rintro Y1 hM
  refine tF 1 [.val 0 (some 2) (.slice none 0 0)] trivial ?_
  refine dF ?_
  try simp only [puts, Tk.put, Act.put, List.setIfInBounds_toArray, List.set_cons_zero, List.set_cons_succ]
  go_upto_region 1 with fail
  refine wp_region_fromM (fun W => Sep w [] [] W) hM ?_
  clear hM
  rintro Y2 hM
  refine tF 1 [.val 0 (some 3) (pt B 0)] trivial ?_
  refine cF (some 4) 30 #[pt B 0] ((dkThere_yes _ ((HV.out.below hM.b).b)).mono ?_)
  rintro e Y3 ⟨rfl, hb⟩
  replace hM := hM.below hb
  clear hb
  refine tF 3 [.val 2 (some 5) (.bool false)] trivial ?_
  refine dF ?_
  try simp only [puts, Tk.put, Act.put, List.setIfInBounds_toArray, List.set_cons_zero, List.set_cons_succ]
  go_upto_region 3 with fail
  refine wp_region_fromM (fun W => Sep w [] [] W) hM ?_
  clear hM
  rintro Y4 hM
  refine tF 6 [.val 0 (some 6) (pt B 0), .val 1 (some 7) (pt B 0), .val 2 (some 8) (pt B 0), .val 3 (some 9) (pt B 2), .load 4 (some 10) 22 (pt B 2) (.slice a D.o.length c), .val 5 (some 11) (.int .i64 (D.o.length : Int))] ⟨ld_any _ _ Try.underlying22 rfl (HV.out.below hM.b).b 2 rfl, trivial⟩ ?_
  refine cF (some 12) 34 #[pt B 0, .int .i64 (D.o.length : Int)] ((dkLend_any D.o.length (Nat.le_refl _) _ (HV.out.below hM.b)).mono ?_)
  rintro e Y5 ⟨⟨_, _, hva, rfl⟩, hb⟩
  cases hva
  replace hM := hM.below hb
  clear hb
  refine cF (some 13) 33 #[.slice a D.o.length D.o.length] ((clone_any D.o _ _ (by have h1 := HO.out.room; have h2 := HO.out.len; have h3 := HO.out.sure; omega) (HV.out.below hM.b).o.cap (Nat.le_refl _)).mono ?_)
  rintro e Y6 ⟨v', rfl, hO, hb⟩
  replace hM := hM.octN (BSl.of_own hO) hb
  clear hO hb
  refine tF 9 [.val 8 (some 2) (v')] trivial ?_
  refine dF ?_
  try simp only [puts, Tk.put, Act.put, List.setIfInBounds_toArray, List.set_cons_zero, List.set_cons_succ]
  go_wp2_with fail
  go_ret
  exact ⟨_, rfl, hM⟩
set_option maxRecDepth 100000 in
set_option maxHeartbeats 4000000 in
theorem dkLeave_any {B : Nat} {D : Dk} {v : Value} (k : Nat) (hk : k ≤ D.o.length) (w : World) (h : ROk (.join (DKR B D v)) w) (ho : OkD D) : Calls Try.prog 31 #[.pointer (some ⟨B, 0, none⟩), .int .i64 (k : Int)] w (DkR B (.join (DKR B D v)) (leaveD D k) (.tuple #[]) w) := by
  have hmx : Try.prog.follows .mixedOrders = true := by kernel_rfl
  have hM := Sep.begin h
  obtain ⟨a, c, rfl, hc⟩ := (hM.oka 1 rfl).octs.slice
  have HO := Lib.hid ho
  clear h ho hc
  have HK := Lib.hid hk
  clear hk
  replace hM : Sep w (Res.join (DKR B D (.slice a D.o.length c))).foot [.blk B 57 (dkc true (D.rm : Int) (.slice a D.o.length c) (D.su : Int)), .oct (.slice a D.o.length c) D.o] w := hM
  go_enter Try.func31, Try.ntmps31
  go_upto_region 0 with fail
  refine wp_region_fromM (fun W => Sep w (Res.join (DKR B D (.slice a D.o.length c))).foot [.blk B 57 (dkc true (D.rm : Int) (.slice a D.o.length c) (D.su : Int)), .oct (.slice a D.o.length c) D.o] W) hM ?_
  clear hM
  rintro Y1 hM
  refine tF 4 [.val 0 (some 4) (pt B 0), .val 1 (some 5) (pt B 0), .val 2 (some 6) (pt B 0), .val 3 (some 7) (.int .i64 (k : Int))] trivial ?_
  refine cF (some 8) 34 #[pt B 0, .int .i64 (k : Int)] ((dkLend_any k (HK.out) _ (⟨hM.at 0 rfl, (hM.oka 1 rfl).octs⟩)).mono ?_)
  rintro e Y2 ⟨⟨_, _, hva, rfl⟩, hb⟩
  cases hva
  replace hM := hM.below hb
  clear hb
  refine cF (some 9) 33 #[.slice a k k] ((clone_any (D.o.take k) _ _ (by have h1 := HO.out.room; have h2 := HO.out.len; have h3 := HO.out.sure; rw [List.length_take]; omega) ((hM.oka 1 rfl).octs.lend HK.out) (Nat.le_refl _)).mono ?_)
  rintro e Y3 ⟨v', rfl, hO, hb⟩
  replace hM := hM.turn 1 rfl (turn_oct hb (BSl.of_own hO)) rfl
  clear hO hb
  obtain ⟨a', c', rfl, _⟩ := (hM.oka 1 rfl).octs.slice
  refine tF 9 [.val 6 (some 10) (.int .i64 (k : Int)), .val 7 (some 11) (pt B 0), .val 8 (some 12) (pt B 2)] trivial ?_
  have hst := sto_part (dkc true (D.rm : Int) (.slice a' (D.o.take k).length c') (D.su : Int)) (hM.at 0 rfl) 2 22 (.slice a' (D.o.take k).length c') ([.slice a' (D.o.take k).length c']) rfl (by kernel_rfl) (Nat.le_of_ble_eq_true rfl) rfl rfl
  refine sF 22 (pt B 2) (.slice a' (D.o.take k).length c') (hst) ?_
  clear hst
  replace hM := hM.set 0 (cs' := dkc true (D.rm : Int) (.slice a' (D.o.take k).length c') (D.su : Int)) rfl rfl
  generalize World.setRow _ _ _ = Y4 at *
  refine tF 12 [.val 10 (some 13) (pt B 0), .val 11 (some 14) (pt B 3)] trivial ?_
  have hst := sto_part (dkc true (D.rm : Int) (.slice a' (D.o.take k).length c') (k : Int)) (hM.at 0 rfl) 3 3 (.int .i64 (k : Int)) ([.int .i64 (k : Int)]) rfl (by kernel_rfl) (Nat.le_of_ble_eq_true rfl) rfl rfl
  refine sF 3 (pt B 3) (.int .i64 (k : Int)) (hst) ?_
  clear hst
  replace hM := hM.set 0 (cs' := dkc true (D.rm : Int) (.slice a' (D.o.take k).length c') (k : Int)) rfl rfl
  generalize World.setRow _ _ _ = Y5 at *
  refine dF ?_
  try simp only [puts, Tk.put, Act.put, List.setIfInBounds_toArray, List.set_cons_zero, List.set_cons_succ]
  have hT : RTurn (.join (DKR B D (.slice a D.o.length c))) (.join (DKR B (leaveD D k) (.slice a' (D.o.take k).length c'))) _ _ := Sep.fin hM (List.Sublist.refl _)
  go_wp2_with fail
  go_end0
  exact ⟨rfl, _, hT⟩
set_option maxRecDepth 100000 in
set_option maxHeartbeats 4000000 in
theorem dkWrite_any {B : Nat} {D : Dk} {v : Value} {sv : Value} (l : List UInt8) (w : World) (h : ROk (.join (DKR B D v)) w) (ho : OkD D) (hs : BF (Res.join (DKR B D v)).foot w sv l) : Calls Try.prog 29 #[.pointer (some ⟨B, 0, none⟩), sv] w (DkR B (.join (DKR B D v)) (writeD D l).1 (.int .i64 (writeD D l).2) w) := by
  have hmx : Try.prog.follows .mixedOrders = true := by kernel_rfl
  have hM := Sep.begin h
  obtain ⟨a, c, rfl, hc⟩ := (hM.oka 1 rfl).octs.slice
  have HO := Lib.hid ho
  clear h ho hc
  obtain ⟨sa, sc, rfl, hsc⟩ := hs.bsl.slice
  have HS := Lib.hid hs
  clear hs hsc
  replace hM : Sep w (Res.join (DKR B D (.slice a D.o.length c))).foot [.blk B 57 (dkc true (D.rm : Int) (.slice a D.o.length c) (D.su : Int)), .oct (.slice a D.o.length c) D.o] w := hM
  go_enter Try.func29, Try.ntmps29
  go_upto_region 0 with fail
  refine wp_region_fromM (fun W => Sep w (Res.join (DKR B D (.slice a D.o.length c))).foot [.blk B 57 (dkc true (D.rm : Int) (.slice a D.o.length c) (D.su : Int)), .oct (.slice a D.o.length c) D.o] W) hM ?_
  clear hM
  rintro Y1 hM
  refine tF 1 [.val 0 (some 4) (.int .i64 0)] trivial ?_
  refine dF ?_
  try simp only [puts, Tk.put, Act.put, List.setIfInBounds_toArray, List.set_cons_zero, List.set_cons_succ]
  go_upto_region 1 with fail
  refine wp_region_fromM (fun W => Sep w (Res.join (DKR B D (.slice a D.o.length c))).foot [.blk B 57 (dkc true (D.rm : Int) (.slice a D.o.length c) (D.su : Int)), .oct (.slice a D.o.length c) D.o] W) hM ?_
  clear hM
  rintro Y2 hM
  refine tF 1 [.val 0 (some 5) (pt B 0)] trivial ?_
  refine cF (some 6) 30 #[pt B 0] ((dkThere_yes _ (hM.at 0 rfl)).mono ?_)
  rintro e Y3 ⟨rfl, hb⟩
  replace hM := hM.below hb
  clear hb
  refine tF 3 [.val 2 (some 7) (.bool false)] trivial ?_
  refine dF ?_
  try simp only [puts, Tk.put, Act.put, List.setIfInBounds_toArray, List.set_cons_zero, List.set_cons_succ]
  go_upto_region 3 with fail
  refine wp_region_M (fun W => Sep w (Res.join (DKR B D (.slice a D.o.length c))).foot [.blk B 57 (dkc true (D.rm : Int) (.slice a D.o.length c) (D.su : Int)), .oct (.slice a D.o.length c) D.o] W) (fun W => Sep w (Res.join (DKR B D (.slice a D.o.length c))).foot [.blk B 57 (dkc true (D.rm : Int) (.slice a D.o.length c) (D.su : Int)), .oct (.slice a D.o.length c) D.o] W) hmx hM.drew ?_
  clear hM
  rintro Y4 hM
  have hS := hM.sub (.cons_cons _ (.cons_cons _ .slnil))
  refine tD 0 [.val 0 (some 8) (.slice sa l.length sc), .val 1 (some 9) (.int .i64 (l.length : Int)), .val 2 (some 10) (pt B 0), .val 3 (some 11) (pt B 0), .val 4 (some 12) (pt B 1), .load 5 (some 13) 3 (pt B 1) (.int .i64 (D.rm : Int)), .val 6 (some 14) (pt B 0), .val 7 (some 15) (pt B 0), .val 8 (some 16) (pt B 2), .load 9 (some 17) 22 (pt B 2) (.slice a D.o.length c), .val 10 (some 18) (.int .i64 (D.o.length : Int)), .alt 11 (some 19) (.int .i64 (IntKind.i64.wrap ((D.rm : Int) - (D.o.length : Int)))) (.int .i64 ((D.rm : Int) - (D.o.length : Int))), .val 12 (some 20) (.bool (decide (((D.rm : Int) - (D.o.length : Int)) < (l.length : Int))))] ⟨fun W h => ld_any _ _ Try.underlying3 rfl (h.at 0 rfl) 1 rfl, fun W h => ld_any _ _ Try.underlying22 rfl (h.at 0 rfl) 2 rfl, congrArg (Value.int .i64) (IntWalk.i64_in _ (by have h1 := HO.out.room; have h2 := HO.out.len; have h3 := HO.out.sure; omega)), trivial⟩ hS ?_
  refine dD ?_
  try simp only [puts, Tk.put, Act.put, List.setIfInBounds_toArray, List.set_cons_zero, List.set_cons_succ]
  clear hS
  cases hb1 : decide (((D.rm : Int) - (D.o.length : Int)) < (l.length : Int)) with
  | false =>
    have Hhb1 := Lib.hid hb1
    clear hb1
    have hw : writeD D l = (putD D l, 0) := by unfold writeD; rw [if_neg (by have h1 := of_decide_eq_false Hhb1.out; have h3 := HO.out.len; omega)]
    have HL : Hid (D.o.length + l.length ≤ 65536) := Lib.hid (by have h1 := of_decide_eq_false Hhb1.out; have h2 := HO.out.room; have h3 := HO.out.len; omega)
    have HW := Lib.hid hw
    clear hw
    go_upto_region 5 with fail
    refine wp_region_fromM (fun W => Sep w (Res.join (DKR B D (.slice a D.o.length c))).foot [.blk B 57 (dkc true (D.rm : Int) (.slice a D.o.length c) (D.su : Int)), .oct (.slice a D.o.length c) D.o] W) hM ?_
    clear hM
    rintro Y5 hM
    refine tF 7 [.val 0 (some 21) (pt B 0), .val 1 (some 22) (pt B 0), .val 2 (some 23) (pt B 0), .val 3 (some 24) (pt B 0), .val 4 (some 25) (pt B 2), .load 5 (some 26) 22 (pt B 2) (.slice a D.o.length c), .val 6 (some 27) (.int .i64 (D.o.length : Int))] ⟨ld_any _ _ Try.underlying22 rfl (hM.at 0 rfl) 2 rfl, trivial⟩ ?_
    refine cF (some 28) 34 #[pt B 0, .int .i64 (D.o.length : Int)] ((dkLend_any D.o.length (Nat.le_refl _) _ (⟨hM.at 0 rfl, (hM.oka 1 rfl).octs⟩)).mono ?_)
    rintro e Y6 ⟨⟨_, _, hva, rfl⟩, hb⟩
    cases hva
    replace hM := hM.below hb
    clear hb
    refine tF 9 [.val 8 (some 29) (.slice sa l.length sc)] trivial ?_
    obtain ⟨v', Y7, hrun, ht⟩ := app_cap (hM.oka 1 rfl).octs ((HS.out.out hM.out).bsl) (Nat.le_refl _) (by have h1 := HO.out.room; have h2 := HO.out.len; have h3 := HL.out; omega) 22
    replace hM := hM.turn 1 rfl ht rfl
    clear ht
    obtain ⟨a', c', rfl, _⟩ := (hM.oka 1 rfl).octs.slice
    refine wpFrom_append (d := some 30) (t := 22) (t' := 22) (ty := 22) (v := .slice a D.o.length D.o.length) (x := .slice sa l.length sc) (by kernel_rfl) hrun ?_
    clear hrun
    refine tF 12 [.val 10 (some 31) (pt B 0), .val 11 (some 32) (pt B 2)] trivial ?_
    have hst := sto_part (dkc true (D.rm : Int) (.slice a' (D.o ++ l).length c') (D.su : Int)) (hM.at 0 rfl) 2 22 (.slice a' (D.o ++ l).length c') ([.slice a' (D.o ++ l).length c']) rfl (by kernel_rfl) (Nat.le_of_ble_eq_true rfl) rfl rfl
    refine sF 22 (pt B 2) (.slice a' (D.o ++ l).length c') (hst) ?_
    clear hst
    replace hM := hM.set 0 (cs' := dkc true (D.rm : Int) (.slice a' (D.o ++ l).length c') (D.su : Int)) rfl rfl
    generalize World.setRow _ _ _ = Y8 at *
    refine dF ?_
    try simp only [puts, Tk.put, Act.put, List.setIfInBounds_toArray, List.set_cons_zero, List.set_cons_succ]
    go_upto_region 6 with fail
    refine wp_region_fromM (fun W => Sep w (Res.join (DKR B D (.slice a D.o.length c))).foot [.blk B 57 (dkc true (D.rm : Int) (.slice a' (D.o ++ l).length c') (D.su : Int)), .oct (.slice a' (D.o ++ l).length c') (D.o ++ l)] W) hM ?_
    clear hM
    rintro Y9 hM
    refine tF 1 [.val 0 (some 4) (.int .i64 0)] trivial ?_
    refine dF ?_
    try simp only [puts, Tk.put, Act.put, List.setIfInBounds_toArray, List.set_cons_zero, List.set_cons_succ]
    go_wp2_with fail
    go_ret
    rw [HW.out]
    exact ⟨rfl, _, Sep.fin hM (List.Sublist.refl _)⟩
  | true =>
    have Hhb1 := Lib.hid hb1
    clear hb1
    have hw : writeD D l = (D, 10) := by unfold writeD; rw [if_pos (by have h1 := of_decide_eq_true Hhb1.out; have h3 := HO.out.len; omega)]
    have HW := Lib.hid hw
    clear hw
    go_upto_region 4 with fail
    refine wp_region_fromM (fun W => Sep w (Res.join (DKR B D (.slice a D.o.length c))).foot [.blk B 57 (dkc true (D.rm : Int) (.slice a D.o.length c) (D.su : Int)), .oct (.slice a D.o.length c) D.o] W) hM ?_
    clear hM
    rintro Y10 hM
    refine tF 1 [.val 0 (some 4) (.int .i64 10)] trivial ?_
    refine dF ?_
    try simp only [puts, Tk.put, Act.put, List.setIfInBounds_toArray, List.set_cons_zero, List.set_cons_succ]
    go_wp2_with fail
    go_ret
    rw [HW.out]
    exact ⟨rfl, _, Sep.fin hM (List.Sublist.refl _)⟩
set_option maxRecDepth 100000 in
set_option maxHeartbeats 4000000 in
theorem dkSync_any {B : Nat} {D : Dk} {v : Value} (w : World) (h : ROk (.join (DKR B D v)) w) (ho : OkD D) : Calls Try.prog 18 #[.pointer (some ⟨B, 0, none⟩)] w (DkR B (.join (DKR B D v)) (sureD D) (.int .i64 ((D.o.length : Int) - (D.su : Int))) w) := by
  have hmx : Try.prog.follows .mixedOrders = true := by kernel_rfl
  have hM := Sep.begin h
  obtain ⟨a, c, rfl, hc⟩ := (hM.oka 1 rfl).octs.slice
  have HO := Lib.hid ho
  clear h ho hc
  replace hM : Sep w (Res.join (DKR B D (.slice a D.o.length c))).foot [.blk B 57 (dkc true (D.rm : Int) (.slice a D.o.length c) (D.su : Int)), .oct (.slice a D.o.length c) D.o] w := hM
  go_enter Try.func18, Try.ntmps18
  go_upto_region 0 with fail
  refine wp_region_fromM (fun W => Sep w (Res.join (DKR B D (.slice a D.o.length c))).foot [.blk B 57 (dkc true (D.rm : Int) (.slice a D.o.length c) (D.su : Int)), .oct (.slice a D.o.length c) D.o] W) hM ?_
  clear hM
  rintro Y1 hM
  refine tF 1 [.val 0 (some 2) (.int .i64 0)] trivial ?_
  refine dF ?_
  try simp only [puts, Tk.put, Act.put, List.setIfInBounds_toArray, List.set_cons_zero, List.set_cons_succ]
  go_upto_region 1 with fail
  refine wp_region_fromM (fun W => Sep w (Res.join (DKR B D (.slice a D.o.length c))).foot [.blk B 57 (dkc true (D.rm : Int) (.slice a D.o.length c) (D.su : Int)), .oct (.slice a D.o.length c) D.o] W) hM ?_
  clear hM
  rintro Y2 hM
  refine tF 1 [.val 0 (some 4) (pt B 0)] trivial ?_
  refine cF (some 5) 17 #[pt B 0] ((dkFresh_any _ (⟨hM.at 0 rfl, (hM.oka 1 rfl).octs⟩) HO.out).mono ?_)
  rintro e Y3 ⟨rfl, hb⟩
  replace hM := hM.below hb
  clear hb
  refine tF 3 [.val 2 (some 3) (.int .i64 ((D.o.length : Int) - (D.su : Int)))] trivial ?_
  refine dF ?_
  try simp only [puts, Tk.put, Act.put, List.setIfInBounds_toArray, List.set_cons_zero, List.set_cons_succ]
  go_upto_region 2 with fail
  refine wp_region_fromM (fun W => Sep w (Res.join (DKR B D (.slice a D.o.length c))).foot [.blk B 57 (dkc true (D.rm : Int) (.slice a D.o.length c) (D.su : Int)), .oct (.slice a D.o.length c) D.o] W) hM ?_
  clear hM
  rintro Y4 hM
  refine tF 1 [.val 0 (some 6) (pt B 0)] trivial ?_
  refine cF (some 7) 30 #[pt B 0] ((dkThere_yes _ (hM.at 0 rfl)).mono ?_)
  rintro e Y5 ⟨rfl, hb⟩
  replace hM := hM.below hb
  clear hb
  refine dF ?_
  try simp only [puts, Tk.put, Act.put, List.setIfInBounds_toArray, List.set_cons_zero, List.set_cons_succ]
  go_upto_region 3 with fail
  refine wp_region_fromM (fun W => Sep w (Res.join (DKR B D (.slice a D.o.length c))).foot [.blk B 57 (dkc true (D.rm : Int) (.slice a D.o.length c) (D.su : Int)), .oct (.slice a D.o.length c) D.o] W) hM ?_
  clear hM
  rintro Y6 hM
  refine tF 8 [.val 0 (some 8) (pt B 0), .val 1 (some 9) (pt B 0), .val 2 (some 10) (pt B 0), .val 3 (some 11) (pt B 2), .load 4 (some 12) 22 (pt B 2) (.slice a D.o.length c), .val 5 (some 13) (.int .i64 (D.o.length : Int)), .val 6 (some 14) (pt B 0), .val 7 (some 15) (pt B 3)] ⟨ld_any _ _ Try.underlying22 rfl (hM.at 0 rfl) 2 rfl, trivial⟩ ?_
  have hst := sto_part (dkc true (D.rm : Int) (.slice a D.o.length c) (D.o.length : Int)) (hM.at 0 rfl) 3 3 (.int .i64 (D.o.length : Int)) ([.int .i64 (D.o.length : Int)]) rfl (by kernel_rfl) (Nat.le_of_ble_eq_true rfl) rfl rfl
  refine sF 3 (pt B 3) (.int .i64 (D.o.length : Int)) (hst) ?_
  clear hst
  replace hM := hM.set 0 (cs' := dkc true (D.rm : Int) (.slice a D.o.length c) (D.o.length : Int)) rfl rfl
  generalize World.setRow _ _ _ = Y7 at *
  refine dF ?_
  try simp only [puts, Tk.put, Act.put, List.setIfInBounds_toArray, List.set_cons_zero, List.set_cons_succ]
  go_upto_region 4 with fail
  refine wp_region_fromM (fun W => Sep w (Res.join (DKR B D (.slice a D.o.length c))).foot [.blk B 57 (dkc true (D.rm : Int) (.slice a D.o.length c) (D.o.length : Int)), .oct (.slice a D.o.length c) D.o] W) hM ?_
  clear hM
  rintro Y8 hM
  refine tF 2 [.val 0 (some 16) (.int .i64 ((D.o.length : Int) - (D.su : Int))), .val 1 (some 2) (.int .i64 ((D.o.length : Int) - (D.su : Int)))] trivial ?_
  refine dF ?_
  try simp only [puts, Tk.put, Act.put, List.setIfInBounds_toArray, List.set_cons_zero, List.set_cons_succ]
  go_wp2_with fail
  go_ret
  exact ⟨rfl, _, Sep.fin hM (List.Sublist.refl _)⟩
theorem keep_eq {D : Dk} (h : OkD D) (n : Int) : IntKind.i64.wrap ((D.su : Int) + max2I 0 (min2I n ((D.o.length : Int) - (D.su : Int)))) = ((keepN D n : Nat) : Int) := by
  have h1 := h.room
  have h2 := h.len
  have h3 := h.sure
  rw [max2I_eq, min2I_eq, IntWalk.i64_in _ (by omega)]
  unfold keepN
  omega
set_option maxRecDepth 100000 in
set_option maxHeartbeats 4000000 in
theorem dkFall_any {B : Nat} {D : Dk} {v : Value} (n : Int) (w : World) (h : ROk (.join (DKR B D v)) w) (ho : OkD D) : Calls Try.prog 19 #[.pointer (some ⟨B, 0, none⟩), .int .i64 n] w (DkR B (.join (DKR B D v)) (leaveD D (keepN D n)) (.tuple #[]) w) := by
  have hmx : Try.prog.follows .mixedOrders = true := by kernel_rfl
  have hM := Sep.begin h
  obtain ⟨a, c, rfl, hc⟩ := (hM.oka 1 rfl).octs.slice
  have HO := Lib.hid ho
  clear h ho hc
  replace hM : Sep w (Res.join (DKR B D (.slice a D.o.length c))).foot [.blk B 57 (dkc true (D.rm : Int) (.slice a D.o.length c) (D.su : Int)), .oct (.slice a D.o.length c) D.o] w := hM
  go_enter Try.func19, Try.ntmps19
  go_upto_region 0 with fail
  refine wp_region_fromM (fun W => Sep w (Res.join (DKR B D (.slice a D.o.length c))).foot [.blk B 57 (dkc true (D.rm : Int) (.slice a D.o.length c) (D.su : Int)), .oct (.slice a D.o.length c) D.o] W) hM ?_
  clear hM
  rintro Y1 hM
  refine tF 1 [.val 0 (some 4) (pt B 0)] trivial ?_
  refine cF (some 5) 30 #[pt B 0] ((dkThere_yes _ (hM.at 0 rfl)).mono ?_)
  rintro e Y2 ⟨rfl, hb⟩
  replace hM := hM.below hb
  clear hb
  refine dF ?_
  try simp only [puts, Tk.put, Act.put, List.setIfInBounds_toArray, List.set_cons_zero, List.set_cons_succ]
  go_upto_region 1 with fail
  refine wp_region_M (fun W => Sep w (Res.join (DKR B D (.slice a D.o.length c))).foot [] W) (fun W => Sep w (Res.join (DKR B D (.slice a D.o.length c))).foot [.blk B 57 (dkc true (D.rm : Int) (.slice a D.o.length c) (D.su : Int)), .oct (.slice a D.o.length c) D.o] W) hmx hM.drew ?_
  clear hM
  rintro Y3 hM
  have hS := hM.sub (.cons _ (.cons _ .slnil))
  refine tD 6 [.val 0 (some 6) (pt B 0), .val 1 (some 7) (pt B 0), .val 2 (some 8) (pt B 0), .val 3 (some 9) (pt B 3), .val 5 (some 11) (.int .i64 n), .val 6 (some 12) (pt B 0)] trivial hS ?_
  refine oT 4 7 5 ?_ ?_
  · refine lD (some 10) 3 (pt B 3) (.int .i64 (D.su : Int)) (ld_any _ _ Try.underlying3 rfl (hM.at 0 rfl) 3 rfl) (hS) ?_
    refine oD 7 4 (cD (some 13) 17 #[pt B 0] ((dkFresh_any _ (⟨hM.at 0 rfl, (hM.oka 1 rfl).octs⟩) HO.out).mono ?_))
    rintro e Y4 ⟨rfl, hb⟩
    refine And.intro (hS.below hb) ?_
    replace hS := hS.below hb
    replace hM := hM.below hb
    clear hb
    refine tD 1 [.val 8 (some 14) (.int .i64 (min2I n ((D.o.length : Int) - (D.su : Int)))), .val 9 (some 15) (.int .i64 (max2I 0 (min2I n ((D.o.length : Int) - (D.su : Int))))), .alt 10 (some 16) (.int .i64 (IntKind.i64.wrap ((D.su : Int) + (max2I 0 (min2I n ((D.o.length : Int) - (D.su : Int))))))) (.int .i64 ((keepN D n : Nat) : Int))] ⟨congrArg (Value.int .i64) (keep_eq HO.out n), trivial⟩ hS ?_
    have hJ : ROk (.join (DKR B D (.slice a D.o.length c))) _ := (hM.close (ps := DKR B D (.slice a D.o.length c)) (l := [])).oka 0 rfl
    refine oD 11 0 (cD (some 17) 31 #[pt B 0, .int .i64 ((keepN D n : Nat) : Int)] ((dkLeave_any (keepN D n) (keep_le HO.out n) _ hJ HO.out).mono ?_))
    rintro e Y5 ⟨rfl, v', hT⟩
    clear hJ hS
    replace hM := (hM.close (ps := DKR B D (.slice a D.o.length c)) (l := [])).turn 0 rfl hT rfl
    clear hT
    refine And.intro (hM.sub (List.nil_sublist _)) ?_
    have hS := hM.sub (List.nil_sublist _)
    refine dD ?_
    try simp only [puts, Tk.put, Act.put, List.setIfInBounds_toArray, List.set_cons_zero, List.set_cons_succ]
    clear hS
    go_wp2_with fail
    go_end0
    exact ⟨rfl, v', Sep.fin hM.part (List.Sublist.refl _)⟩
  · refine cD (some 13) 17 #[pt B 0] ((dkFresh_any _ (⟨hM.at 0 rfl, (hM.oka 1 rfl).octs⟩) HO.out).mono ?_)
    rintro e Y6 ⟨rfl, hb⟩
    refine And.intro (hS.below hb) ?_
    replace hS := hS.below hb
    replace hM := hM.below hb
    clear hb
    refine tD 3 [.val 8 (some 14) (.int .i64 (min2I n ((D.o.length : Int) - (D.su : Int)))), .val 9 (some 15) (.int .i64 (max2I 0 (min2I n ((D.o.length : Int) - (D.su : Int)))))] trivial hS ?_
    refine oD 4 2 (lD (some 10) 3 (pt B 3) (.int .i64 (D.su : Int)) (ld_any _ _ Try.underlying3 rfl (hM.at 0 rfl) 3 rfl) (hS) ?_)
    refine tD 1 [.alt 10 (some 16) (.int .i64 (IntKind.i64.wrap ((D.su : Int) + (max2I 0 (min2I n ((D.o.length : Int) - (D.su : Int))))))) (.int .i64 ((keepN D n : Nat) : Int))] ⟨congrArg (Value.int .i64) (keep_eq HO.out n), trivial⟩ hS ?_
    have hJ : ROk (.join (DKR B D (.slice a D.o.length c))) _ := (hM.close (ps := DKR B D (.slice a D.o.length c)) (l := [])).oka 0 rfl
    refine oD 11 0 (cD (some 17) 31 #[pt B 0, .int .i64 ((keepN D n : Nat) : Int)] ((dkLeave_any (keepN D n) (keep_le HO.out n) _ hJ HO.out).mono ?_))
    rintro e Y7 ⟨rfl, v', hT⟩
    clear hJ hS
    replace hM := (hM.close (ps := DKR B D (.slice a D.o.length c)) (l := [])).turn 0 rfl hT rfl
    clear hT
    refine And.intro (hM.sub (List.nil_sublist _)) ?_
    have hS := hM.sub (List.nil_sublist _)
    refine dD ?_
    try simp only [puts, Tk.put, Act.put, List.setIfInBounds_toArray, List.set_cons_zero, List.set_cons_succ]
    clear hS
    go_wp2_with fail
    go_end0
    exact ⟨rfl, v', Sep.fin hM.part (List.Sublist.refl _)⟩
set_option maxRecDepth 100000 in
set_option maxHeartbeats 4000000 in
theorem dkTrim_any {B : Nat} {D : Dk} {v : Value} (n : Int) (w : World) (h : ROk (.join (DKR B D v)) w) (ho : OkD D) : Calls Try.prog 32 #[.pointer (some ⟨B, 0, none⟩), .int .i64 n] w (DkR B (.join (DKR B D v)) (trimD D n).1 (.int .i64 (trimD D n).2) w) := by
  have hmx : Try.prog.follows .mixedOrders = true := by kernel_rfl
  have hM := Sep.begin h
  obtain ⟨a, c, rfl, hc⟩ := (hM.oka 1 rfl).octs.slice
  have HO := Lib.hid ho
  clear h ho hc
  replace hM : Sep w (Res.join (DKR B D (.slice a D.o.length c))).foot [.blk B 57 (dkc true (D.rm : Int) (.slice a D.o.length c) (D.su : Int)), .oct (.slice a D.o.length c) D.o] w := hM
  go_enter Try.func32, Try.ntmps32
  go_upto_region 0 with fail
  refine wp_region_fromM (fun W => Sep w (Res.join (DKR B D (.slice a D.o.length c))).foot [.blk B 57 (dkc true (D.rm : Int) (.slice a D.o.length c) (D.su : Int)), .oct (.slice a D.o.length c) D.o] W) hM ?_
  clear hM
  rintro Y1 hM
  refine tF 1 [.val 0 (some 4) (.int .i64 0)] trivial ?_
  refine dF ?_
  try simp only [puts, Tk.put, Act.put, List.setIfInBounds_toArray, List.set_cons_zero, List.set_cons_succ]
  go_upto_region 1 with fail
  refine wp_region_fromM (fun W => Sep w (Res.join (DKR B D (.slice a D.o.length c))).foot [.blk B 57 (dkc true (D.rm : Int) (.slice a D.o.length c) (D.su : Int)), .oct (.slice a D.o.length c) D.o] W) hM ?_
  clear hM
  rintro Y2 hM
  refine tF 1 [.val 0 (some 5) (pt B 0)] trivial ?_
  refine cF (some 6) 30 #[pt B 0] ((dkThere_yes _ (hM.at 0 rfl)).mono ?_)
  rintro e Y3 ⟨rfl, hb⟩
  replace hM := hM.below hb
  clear hb
  refine tF 3 [.val 2 (some 7) (.bool false)] trivial ?_
  refine dF ?_
  try simp only [puts, Tk.put, Act.put, List.setIfInBounds_toArray, List.set_cons_zero, List.set_cons_succ]
  go_upto_region 3 with fail
  refine wp_region_fromM (fun W => Sep w (Res.join (DKR B D (.slice a D.o.length c))).foot [.blk B 57 (dkc true (D.rm : Int) (.slice a D.o.length c) (D.su : Int)), .oct (.slice a D.o.length c) D.o] W) hM ?_
  clear hM
  rintro Y4 hM
  refine tF 3 [.val 0 (some 8) (.int .i64 n), .val 1 (some 9) (.bool (decide (n < 0))), .val 2 (some 10) (.bool (decide (n < 0)))] trivial ?_
  cases hb1 : decide (n < 0) with
  | false =>
    have Hhb1 := Lib.hid hb1
    clear hb1
    refine tF 11 [.val 3 (some 11) (.int .i64 n), .val 4 (some 12) (pt B 0), .val 5 (some 13) (pt B 0), .val 6 (some 14) (pt B 2), .load 7 (some 15) 22 (pt B 2) (.slice a D.o.length c), .val 8 (some 16) (.int .i64 (D.o.length : Int)), .val 9 (some 17) (.bool (decide ((D.o.length : Int) < n))), .val 10 (some 18) (.bool (decide ((D.o.length : Int) < n)))] ⟨ld_any _ _ Try.underlying22 rfl (hM.at 0 rfl) 2 rfl, trivial⟩ ?_
    refine dF ?_
    try simp only [puts, Tk.put, Act.put, List.setIfInBounds_toArray, List.set_cons_zero, List.set_cons_succ]
    cases hb2 : decide ((D.o.length : Int) < n) with
    | false =>
      have Hhb2 := Lib.hid hb2
      clear hb2
      go_upto_region 5 with fail
      refine wp_region_fromM (fun W => Sep w (Res.join (DKR B D (.slice a D.o.length c))).foot [.blk B 57 (dkc true (D.rm : Int) (.slice a D.o.length c) (D.su : Int)), .oct (.slice a D.o.length c) D.o] W) hM ?_
      clear hM
      rintro Y5 hM
      refine tF 2 [.val 0 (some 19) (pt B 0), .val 1 (some 20) (.int .i64 n)] trivial ?_
      obtain ⟨k, rfl⟩ : ∃ k : Nat, n = (k : Int) := ⟨n.toNat, by have h1 := of_decide_eq_false Hhb1.out; omega⟩
      have HK : Hid (k ≤ D.o.length) := Lib.hid (by have h1 := of_decide_eq_false Hhb2.out; omega)
      have hJ : ROk (.join (DKR B D (.slice a D.o.length c))) _ := (hM.close (ps := DKR B D (.slice a D.o.length c)) (l := [])).oka 0 rfl
      refine cF (some 21) 31 #[pt B 0, .int .i64 (k : Int)] ((dkLeave_any k (HK.out) _ hJ HO.out).mono ?_)
      rintro e Y6 ⟨rfl, v', hT⟩
      clear hJ
      replace hM := (hM.close (ps := DKR B D (.slice a D.o.length c)) (l := [])).turn 0 rfl hT rfl
      clear hT
      refine dF ?_
      try simp only [puts, Tk.put, Act.put, List.setIfInBounds_toArray, List.set_cons_zero, List.set_cons_succ]
      go_upto_region 6 with fail
      refine wp_region_fromM (fun W => Sep w (Res.join (DKR B D (.slice a D.o.length c))).foot [.join (DKR B (leaveD D k) v')] W) hM ?_
      clear hM
      rintro Y7 hM
      refine tF 1 [.val 0 (some 4) (.int .i64 0)] trivial ?_
      refine dF ?_
      try simp only [puts, Tk.put, Act.put, List.setIfInBounds_toArray, List.set_cons_zero, List.set_cons_succ]
      go_wp2_with fail
      go_ret
      unfold trimD
      rw [if_neg (fun hh => hh.elim (of_decide_eq_false Hhb1.out) (of_decide_eq_false Hhb2.out))]
      exact ⟨rfl, v', Sep.fin hM.part (List.Sublist.refl _)⟩
    | true =>
      have Hhb2 := Lib.hid hb2
      clear hb2
      go_upto_region 4 with fail
      refine wp_region_fromM (fun W => Sep w (Res.join (DKR B D (.slice a D.o.length c))).foot [.blk B 57 (dkc true (D.rm : Int) (.slice a D.o.length c) (D.su : Int)), .oct (.slice a D.o.length c) D.o] W) hM ?_
      clear hM
      rintro Y8 hM
      refine tF 1 [.val 0 (some 4) (.int .i64 4)] trivial ?_
      refine dF ?_
      try simp only [puts, Tk.put, Act.put, List.setIfInBounds_toArray, List.set_cons_zero, List.set_cons_succ]
      go_wp2_with fail
      go_ret
      unfold trimD
      rw [if_pos (.inr (of_decide_eq_true Hhb2.out))]
      exact ⟨rfl, _, Sep.fin hM (List.Sublist.refl _)⟩
  | true =>
    have Hhb1 := Lib.hid hb1
    clear hb1
    refine tF 8 [.skip 3 (some 11), .skip 4 (some 12), .skip 5 (some 13), .skip 6 (some 14), .skip 7 (some 15)] trivial ?_
    refine wpFrom_not (d := some 16) (by kernel_rfl) ?_
    refine tF 11 [.skip 9 (some 17), .val 10 (some 18) (.bool true)] trivial ?_
    refine dF ?_
    try simp only [puts, Tk.put, Act.put, List.setIfInBounds_toArray, List.set_cons_zero, List.set_cons_succ]
    go_upto_region 4 with fail
    refine wp_region_fromM (fun W => Sep w (Res.join (DKR B D (.slice a D.o.length c))).foot [.blk B 57 (dkc true (D.rm : Int) (.slice a D.o.length c) (D.su : Int)), .oct (.slice a D.o.length c) D.o] W) hM ?_
    clear hM
    rintro Y9 hM
    refine tF 1 [.val 0 (some 4) (.int .i64 4)] trivial ?_
    refine dF ?_
    try simp only [puts, Tk.put, Act.put, List.setIfInBounds_toArray, List.set_cons_zero, List.set_cons_succ]
    go_wp2_with fail
    go_ret
    unfold trimD
    rw [if_pos (.inl (of_decide_eq_true Hhb1.out))]
    exact ⟨rfl, _, Sep.fin hM (List.Sublist.refl _)⟩
theorem room_eq (n : Int) : max2I 0 (min2I n 65536) = ((newD n).rm : Int) := by
  rw [max2I_eq, min2I_eq]
  show _ = ((roomN n : Nat) : Int)
  unfold roomN
  omega
def DkN (D : Dk) (w : World) (e : Ending) (W' : World) : Prop := ∃ B v, e = .returned (.pointer (some ⟨B, 0, none⟩)) ∧ Sep w [] (DKR B D v) W'
set_option maxRecDepth 100000 in
set_option maxHeartbeats 4000000 in
theorem dkNew_any (n : Int) (w : World) : Calls Try.prog 15 #[.int .i64 n] w (DkN (newD n) w) := by
  have hmx : Try.prog.follows .mixedOrders = true := by kernel_rfl
  have hM := Sep.start w
  go_enter Try.func15, Try.ntmps15
  go_upto_region 0 with fail
  refine wp_region_fromM (fun W => Sep w [] [] W) hM ?_
  clear hM
  rintro Y1 hM
  refine tF 1 [.val 0 (some 2) (.pointer none)] trivial ?_
  refine dF ?_
  try simp only [puts, Tk.put, Act.put, List.setIfInBounds_toArray, List.set_cons_zero, List.set_cons_succ]
  go_upto_region 1 with fail
  refine wp_region_fromM (fun W => Sep w [] [] W) hM ?_
  clear hM
  rintro Y2 hM
  refine tF 4 [.val 0 (some 3) (.int .i64 n), .val 1 (some 4) (.int .i64 (min2I n 65536)), .val 2 (some 5) (.int .i64 (max2I 0 (min2I n 65536))), .val 3 (some 6) (.agg (dkc true (max2I 0 (min2I n 65536)) (.slice none 0 0) 0).toArray)] trivial ?_
  refine rF (some 7) (pt Y2.heap.size 0) (Y2.alloc (.cells (dkc true (max2I 0 (min2I n 65536)) (.slice none 0 0) 0).toArray 57)) ?_
  replace hM := hM.alloc 57 (dkc true (max2I 0 (min2I n 65536)) (.slice none 0 0) 0)
  generalize World.alloc _ _ = Y3 at *
  generalize hNe : Y2.heap.size = B at *
  clear hNe
  refine tF 6 [.val 5 (some 2) (pt B 0)] trivial ?_
  refine dF ?_
  try simp only [puts, Tk.put, Act.put, List.setIfInBounds_toArray, List.set_cons_zero, List.set_cons_succ]
  rw [room_eq] at hM
  have hM2 : Sep w [] (DKR B (newD n) (.slice none 0 0)) _ := (hM.octN (BSl.nil _ _ _) (Below.refl _ _)).pick [1, 0] (by decide) rfl
  go_wp2_with fail
  go_ret
  exact ⟨B, _, rfl, hM2⟩
set_option maxRecDepth 100000 in
set_option maxHeartbeats 4000000 in
theorem dkOctets_no {p : Value} (w : World) (h : NoD w p) : Calls Try.prog 21 #[p] w fun e W' => e = .returned (.slice none 0 0) ∧ W' = w := by
  have HN := Lib.hid h
  clear h
  go_enter Try.func21, Try.ntmps21
  go_wp2_with (go_at_call 30; refine (dkThere_no _ HN.out).mono ?_; rintro e w' ⟨rfl, rfl⟩)
  go_ret
  exact ⟨rfl, rfl⟩
set_option maxRecDepth 100000 in
set_option maxHeartbeats 4000000 in
theorem dkWrite_no {p : Value} (sv : Value) (w : World) (h : NoD w p) : Calls Try.prog 29 #[p, sv] w fun e W' => e = .returned (.int .i64 9) ∧ W' = w := by
  have HN := Lib.hid h
  clear h
  go_enter Try.func29, Try.ntmps29
  go_wp2_with (go_at_call 30; refine (dkThere_no _ HN.out).mono ?_; rintro e w' ⟨rfl, rfl⟩)
  go_ret
  exact ⟨rfl, rfl⟩
set_option maxRecDepth 100000 in
set_option maxHeartbeats 4000000 in
theorem dkTrim_no {p : Value} (n : Int) (w : World) (h : NoD w p) : Calls Try.prog 32 #[p, .int .i64 n] w fun e W' => e = .returned (.int .i64 9) ∧ W' = w := by
  have HN := Lib.hid h
  clear h
  go_enter Try.func32, Try.ntmps32
  go_wp2_with (go_at_call 30; refine (dkThere_no _ HN.out).mono ?_; rintro e w' ⟨rfl, rfl⟩)
  go_ret
  exact ⟨rfl, rfl⟩
end Go.Proofs.Ytcjodiemgnihoaa
namespace Go.Proofs.Ytcjodiemgnihoaa
open Go.RowKit Go.Shelf
def oc (x : UInt8) : List Value := [bv x]
theorem oc_len (x : UInt8) : (oc x).length = 1 := rfl
theorem oc_one (x : UInt8) : ∀ u ∈ oc x, u.oneCell' = true := fun u hu => by obtain rfl := List.mem_singleton.1 hu; rfl
theorem flat_oc (l : List UInt8) : flatR oc l = l.map bv := by
  induction l with
  | nil => rfl
  | cons x l ih => rw [flat_cons, ih]; rfl
theorem infoOct : (Try.prog.info? 5).map (fun i => (i.zero, i.size, i.bytes)) = some (some (.int .u8 0), 1, 1) := by kernel_rfl
theorem ROk.bsl {W : World} {e : TypeId} {v : Value} {l : List UInt8} (h : ROk (.own oc e 1 v l) W) : BSl 0 W.heap.size W v l := BSl.of_own (e := e) (by have h1 := h.h; rw [← flat_oc]; exact h1)
theorem RSl.bsl {W : World} {lo hi : Nat} {v : Value} {l : List UInt8} (h : RSl oc lo hi W v l) : BSl lo hi W v l := by
  obtain ⟨a, cap, e, hc, _, h0 | ⟨b, off, ha, hl, hh, ho⟩⟩ := h
  · exact ⟨a, cap, e, hc, .inl h0⟩
  · exact ⟨a, cap, e, hc, .inr ⟨b, off, ha, hl, hh, fun k x hx => ho k (bv x) (by rw [flat_oc, List.getElem?_map, hx]; rfl)⟩⟩
theorem own_appO {W : World} {v : Value} {l : List UInt8} (h : ROk (.own oc 5 1 v l) W) {x : Value} {ys : List UInt8} {lo hi : Nat} (hx : BSl lo hi W x ys) (hr : l.length + ys.length ≤ 140737488355328) (ty : TypeId) :
    ∃ v' W', (Builtin.append_ #[22, 22] ty #[v, x]).run Try.prog W = .ok v' W' ∧ RTurn (.own oc 5 1 v l) (.own oc 5 1 v' (l ++ ys)) W W' := by
  obtain ⟨a, c, rfl, _, h0⟩ := hx
  cases a with
  | some ad =>
    refine own_apps infoOct rfl (by decide) Try.underlying22 oc_len oc_one h ys ad c (fun j u hj => ?_) (by decide) (by omega) ty
    rw [flat_oc, List.getElem?_map] at hj
    obtain ⟨y, hy, rfl⟩ := Option.map_eq_some_iff.1 hj
    rcases h0 with rfl | ⟨b, off, ha, _, _, ho⟩
    · cases hy
    · cases ha
      rw [addr_add]
      exact ho j y hy
  | none =>
    obtain rfl : ys = [] := by
      rcases h0 with h0 | ⟨_, _, ha, _⟩
      · exact h0
      · cases ha
    obtain ⟨i0, hi, hz0, hz1, hz2⟩ := info_parts infoOct
    refine ⟨v, W, ?_, by rw [List.append_nil]; exact turn_refl h⟩
    rcases h.h.2 with ⟨rfl, hl0⟩ | ⟨g, cap, cur, rfl, _, hg, hnc, hcm, hcs, _⟩
    · simp [Builtin.append_, run_underlying Try.underlying22, sizeOf, typeInfo, hi, Builtin.lenOf, Builtin.firstCells]
    · simp [Builtin.append_, run_underlying Try.underlying22, sizeOf, typeInfo, hi, Builtin.lenOf, Builtin.firstCells, hnc, storeCells]
end Go.Proofs.Ytcjodiemgnihoaa
namespace Go.Proofs.Ytcjodiemgnihoaa
open Go.RowKit Go.Shelf
attribute [local irreducible] wpFrom wpAnyH StepH
theorem numL_any (n : Nat) (hn : n ≤ 140737488355328) (w : World) : Calls Try.prog 23 #[.int .i64 (n : Int), .int .i64 2] w (ByW (octs n 2) w) := by
  have h := num_any (n : Int) 2 (by decide) (by decide) w
  rw [show clamp 2 = 2 from rfl, show two (n : Int) = n by unfold two; omega] at h
  exact h
theorem sumW_any (l : List UInt8) (sv : Value) (w : World) (hreach : l.length ≤ 140737488353000) (hsv : BSl 0 w.heap.size w sv l) : Calls Try.prog 24 #[sv] w (ByW (sumL cb sq l) w) :=
  (sum_any l sv w hreach hsv).mono fun _ _ ⟨v, e, hO, hb⟩ => ⟨v, e, BSl.of_own hO, hb⟩
theorem intB_any (l : List UInt8) {q : Nat} (hq : be l = q) (sv : Value) (w : World) (hl : l.length ≤ 7) (hsv : BSl 0 w.heap.size w sv l) : Calls Try.prog 42 #[sv] w fun e W' => e = .returned (.int .i64 (q : Int)) ∧ Below w.heap.size w W' := by
  subst hq
  have h := blobInt_any l sv w (by omega) hsv
  rw [List.take_of_length_le hl] at h
  exact h
theorem cat3_any {N : Nat} {T : TypeId} (l1 l2 l3 : List UInt8) (s1 s2 s3 : Value) (W : World) (hl : l1.length + l2.length + l3.length ≤ 140737488355328) (h1 : BSl 0 W.heap.size W s1 l1) (h2 : BSl 0 W.heap.size W s2 l2) (h3 : BSl 0 W.heap.size W s3 l3) (k : Blk W N T [s1, s2, s3]) :
    Calls Try.prog 22 #[.slice (some ⟨N, 0, none⟩) 3 3] W (ByW (l1 ++ (l2 ++ l3)) W) := by
  let zs : List (SX 140737488355328 W.heap.size W) := [⟨(s1, l1), h1, by simp only; omega⟩, ⟨(s2, l2), h2, by simp only; omega⟩, ⟨(s3, l3), h3, by simp only; omega⟩]
  have hfl : flat zs = l1 ++ (l2 ++ l3) := by simp [flat, zs]
  have := cat_any (.slice (some ⟨N, 0, none⟩) 3 3) W zs (by simp [zs]) (by rw [hfl, List.length_append, List.length_append]; omega)
    ⟨_, _, rfl, .inr ⟨N, 0, rfl, k.lt, fun i x hx => by
      rw [Nat.zero_add, k.cell i]
      match i, hx with
      | 0, hx => simp only [zs, List.getElem?_cons_zero, Option.some.injEq] at hx; rw [← hx]; rfl
      | 1, hx => simp only [zs, List.getElem?_cons_zero, List.getElem?_cons_succ, Option.some.injEq] at hx; rw [← hx]; rfl
      | 2, hx => simp only [zs, List.getElem?_cons_zero, List.getElem?_cons_succ, Option.some.injEq] at hx; rw [← hx]; rfl
      | i + 3, hx => simp [zs] at hx⟩⟩
  rw [hfl] at this
  exact this
def errJ (l : List UInt8) : Int := if 1024 < l.length then 5 else 0
def frmO (l : List UInt8) : List UInt8 := if 1024 < l.length then [] else frameL l
theorem frm_no {l : List UInt8} (h : (1024 : Int) < (l.length : Int)) : errJ l = 5 ∧ frmO l = [] := ⟨if_pos (by omega), if_pos (by omega)⟩
theorem frm_ok {l : List UInt8} (h : ¬ (1024 : Int) < (l.length : Int)) : errJ l = 0 ∧ frmO l = frameL l := ⟨if_neg (by omega), if_neg (by omega)⟩
def FrmR (l : List UInt8) (w : World) (e : Ending) (W' : World) : Prop := ∃ v, e = .returned (.tuple #[v, .int .i64 (errJ l)]) ∧ BSl w.heap.size W'.heap.size W' v (frmO l) ∧ Below w.heap.size w W'
set_option maxRecDepth 100000 in
set_option maxHeartbeats 4000000 in
theorem equal_any (l1 l2 : List UInt8) (s1 s2 : Value) (w : World) (h1 : BSl 0 w.heap.size w s1 l1) (h2 : BSl 0 w.heap.size w s2 l2) : Calls Try.prog 43 #[s1, s2] w fun e W' => e = .returned (.bool (decide (l1 = l2))) ∧ Below w.heap.size w W' := by
  have hmx : Try.prog.follows .mixedOrders = true := by kernel_rfl
  obtain ⟨p1, c1, rfl, _⟩ := h1.slice
  obtain ⟨p2, c2, rfl, _⟩ := h2.slice
  have HA := Lib.hid h1
  have HB := Lib.hid h2
  clear h1 h2
  have hM := Sep.start w
  go_enter Try.func43, Try.ntmps43
  go_upto_region 0 with fail
  refine wp_region_fromM (fun W => Sep w [] [] W) hM ?_
  clear hM
  rintro Y1 hM
  refine tF 1 [.val 0 (some 4) (.bool false)] trivial ?_
  refine dF ?_
  try simp only [puts, Tk.put, Act.put, List.setIfInBounds_toArray, List.set_cons_zero, List.set_cons_succ]
  go_upto_region 1 with fail
  refine wp_region_fromM (fun W => Sep w [] [] W) hM ?_
  clear hM
  rintro Y2 hM
  refine tF 1 [.val 0 (some 5) (.slice p1 l1.length c1)] trivial ?_
  refine cvF (.tmp 5) (some 6) (.slice p1 l1.length c1) (.string (txB l1)) (cvT (HA.out.below hM.b (Nat.le_refl _))) ?_
  refine tF 3 [.val 2 (some 7) (.slice p2 l2.length c2)] trivial ?_
  refine cvF (.tmp 7) (some 8) (.slice p2 l2.length c2) (.string (txB l2)) (cvT (HB.out.below hM.b (Nat.le_refl _))) ?_
  refine tF 6 [.alt 4 (some 9) (.bool ((txB l1).toList == (txB l2).toList)) (.bool (decide (l1 = l2))), .val 5 (some 4) (.bool (decide (l1 = l2)))] ⟨congrArg Value.bool (txEq l1 l2), trivial⟩ ?_
  refine dF ?_
  try simp only [puts, Tk.put, Act.put, List.setIfInBounds_toArray, List.set_cons_zero, List.set_cons_succ]
  go_wp2_with fail
  go_ret
  exact ⟨rfl, hM.b⟩
theorem oct_own {w W : World} {L : List Res} (h : Sep w [] L W) (i : Nat) {v : Value} {l : List UInt8} (hi : L[i]? = some (.oct v l)) : BSl w.heap.size W.heap.size W v l := by
  have ho := h.oka i hi
  have hn := h.new _ (List.mem_of_getElem? hi)
  obtain ⟨hi', a, cap, e, hc, h0⟩ := ho.h
  subst e
  cases l with
  | nil => exact ⟨a, cap, rfl, hc, .inl rfl⟩
  | cons x l =>
    rcases h0 with h0 | ⟨b, off, ha, _, _, hx⟩
    · cases h0
    · subst ha
      have hb : b ∈ (Res.oct (.slice (some ⟨b, off, none⟩) (x :: l).length cap) (x :: l)).foot := by simp [Res.oct, Value.ownBlock]
      exact ⟨_, cap, rfl, hc, .inr ⟨b, off, rfl, (hn b hb).elim (fun e => (List.not_mem_nil e).elim) id, ho.lt b hb, hx⟩⟩
set_option maxRecDepth 100000 in
set_option maxHeartbeats 4000000 in
theorem frame_any (l : List UInt8) {v : Value} (w : World) (hs : BSl 0 w.heap.size w v l) : Calls Try.prog 8 #[v] w (FrmR l w) := by
  have hmx : Try.prog.follows .mixedOrders = true := by kernel_rfl
  obtain ⟨pl, cl, rfl, _⟩ := hs.slice
  have Hl := Lib.hid hs
  clear hs
  have hM := Sep.start w
  go_enter Try.func8, Try.ntmps8
  go_upto_region 0 with fail
  refine wp_region_fromM (fun W => Sep w [] [] W) hM ?_
  clear hM
  rintro Y1 hM
  refine tF 2 [.val 0 (some 2) (.slice none 0 0), .val 1 (some 3) (.int .i64 0)] trivial ?_
  refine dF ?_
  try simp only [puts, Tk.put, Act.put, List.setIfInBounds_toArray, List.set_cons_zero, List.set_cons_succ]
  go_upto_region 1 with fail
  refine wp_region_fromM (fun W => Sep w [] [] W) hM ?_
  clear hM
  rintro Y2 hM
  refine tF 3 [.val 0 (some 4) (.slice pl l.length cl), .val 1 (some 5) (.int .i64 (l.length : Int)), .val 2 (some 6) (.bool (decide (1024 < (l.length : Int))))] trivial ?_
  refine dF ?_
  try simp only [puts, Tk.put, Act.put, List.setIfInBounds_toArray, List.set_cons_zero, List.set_cons_succ]
  cases hb1 : decide (1024 < (l.length : Int)) with
  | false =>
    have Hhb1 := Lib.hid hb1
    clear hb1
    have hE := frm_ok (l := l) (of_decide_eq_false Hhb1.out)
    have HLE : Hid (l.length ≤ 1024) := Lib.hid (by have h := of_decide_eq_false Hhb1.out; omega)
    have HE := Lib.hid hE
    clear hE
    go_upto_region 3 with fail
    refine wp_region_fromM (fun W => Sep w [] [] W) hM ?_
    clear hM
    rintro Y3 hM
    refine tF 2 [.val 0 (some 7) (.slice pl l.length cl), .val 1 (some 8) (.int .i64 (l.length : Int))] trivial ?_
    refine cF (some 9) 23 #[.int .i64 (l.length : Int), .int .i64 2] ((numL_any l.length (by have h := HLE.out; omega) _).mono ?_)
    rintro e Y4 ⟨v4o, rfl, hO, hb⟩
    replace hM := hM.octN hO hb
    clear hO hb
    obtain ⟨a4o, c4o, rfl, _⟩ := (hM.oka 0 rfl).octs.slice
    refine tF 4 [.val 3 (some 10) (.slice pl l.length cl)] trivial ?_
    refine cF (some 11) 24 #[.slice pl l.length cl] ((sumW_any l _ _ (by have h := HLE.out; omega) ((Hl.out.below hM.b (Nat.le_refl _)).mono (Nat.le_refl _) hM.size)).mono ?_)
    rintro e Y6 ⟨v6o, rfl, hO, hb⟩
    replace hM := hM.octN hO hb
    clear hO hb
    obtain ⟨a6o, c6o, rfl, _⟩ := (hM.oka 0 rfl).octs.slice
    obtain ⟨a7c, c7c, hrun7, hcb7, hcf7⟩ := cutH ((hM.oka 0 rfl).octs) (j := 4) rfl (by rw [sumL_len]; decide)
    have HR7 := Lib.hid hrun7
    replace hM := hM.turn 0 rfl (turn_cut (hM.oka 0 rfl) (hcb7 _ _ _ (hM.oka 0 rfl).octs) hcf7) rfl
    clear hrun7 hcb7 hcf7
    refine tF 7 [.slc 5 (some 12) 22 (.slice a6o (sumL cb sq l).length c6o) none (some (.int .i64 4)) none (.slice a7c (hd4 l).length c7c), .val 6 (some 13) (.slice pl l.length cl)] ⟨HR7.out _, trivial⟩ ?_
    refine rF (some 14) (.slice (some ⟨Y6.heap.size, 0, none⟩) 3 3) (Y6.alloc (.cells ([.slice a4o (octs l.length 2).length c4o, .slice a7c (hd4 l).length c7c, .slice pl l.length cl]).toArray 22)) ?_
    replace hM := hM.alloc 22 ([.slice a4o (octs l.length 2).length c4o, .slice a7c (hd4 l).length c7c, .slice pl l.length cl])
    generalize World.alloc _ _ = Y9 at *
    generalize hNe : Y6.heap.size = N9 at *
    clear hNe
    refine cF (some 15) 22 #[.slice (some ⟨N9, 0, none⟩) 3 3] ((cat3_any (octs l.length 2) (hd4 l) l _ _ _ _ (by have h1 := HLE.out; have h2 := hd4_len l; have h3 := octs_length l.length 2; omega) (hM.oka 2 rfl).octs (hM.oka 1 rfl).octs ((Hl.out.below hM.b (Nat.le_refl _)).mono (Nat.le_refl _) hM.size) (hM.at 0 rfl)).mono ?_)
    rintro e Y10 ⟨v10o, rfl, hO, hb⟩
    replace hM := hM.octN hO hb
    clear hO hb
    obtain ⟨a10o, c10o, rfl, _⟩ := (hM.oka 0 rfl).octs.slice
    refine tF 11 [.val 9 (some 2) (.slice a10o (frameL l).length c10o), .val 10 (some 3) (.int .i64 0)] trivial ?_
    refine dF ?_
    try simp only [puts, Tk.put, Act.put, List.setIfInBounds_toArray, List.set_cons_zero, List.set_cons_succ]
    have hb := oct_own hM 0 rfl
    go_wp2_with fail
    go_ret2
    refine ⟨.slice a10o (frameL l).length c10o, by rw [HE.out.1]; rfl, ?_, hM.b⟩
    rw [HE.out.2]
    exact hb
  | true =>
    have Hhb1 := Lib.hid hb1
    clear hb1
    have hE := frm_no (l := l) (of_decide_eq_true Hhb1.out)
    have HE := Lib.hid hE
    clear hE
    go_upto_region 2 with fail
    refine wp_region_fromM (fun W => Sep w [] [] W) hM ?_
    clear hM
    rintro Y12 hM
    refine tF 2 [.val 0 (some 2) (.slice none 0 0), .val 1 (some 3) (.int .i64 5)] trivial ?_
    refine dF ?_
    try simp only [puts, Tk.put, Act.put, List.setIfInBounds_toArray, List.set_cons_zero, List.set_cons_succ]
    go_wp2_with fail
    go_ret2
    refine ⟨.slice none 0 0, by rw [HE.out.1]; rfl, ?_, hM.b⟩
    rw [HE.out.2]
    exact BSl.nil _ _ _
def recO (b : List UInt8) : List UInt8 := if firstN b = 0 then [] else (b.drop 6).take (firstN b - 6)
def FstR (b : List UInt8) (w : World) (e : Ending) (W' : World) : Prop := ∃ v, e = .returned (.tuple #[v, .int .i64 ((firstN b : Nat) : Int)]) ∧ Sep w [] [.oct v (recO b)] W'
theorem rec_no {b : List UInt8} (h : firstN b = 0) : recO b = [] := if_pos h
theorem first_big {b : List UInt8} {q : Nat} (hq : be (b.take 2) = q) (h : b.length < 6 + q) : firstN b = 0 := by
  unfold firstN
  rw [hq, if_neg (fun x => by omega)]
theorem part_len {b : List UInt8} {q : Nat} (h : 6 + q ≤ b.length) : ((b.drop 6).take (6 + q - 6)).length = q := by rw [List.length_take, List.length_drop]; omega
theorem first_long {b : List UInt8} {q : Nat} (hq : be (b.take 2) = q) (h : 6 + q ≤ b.length) (he : (errJ ((b.drop 6).take (6 + q - 6)) != 0) = true) : firstN b = 0 := by
  have hn : 1024 < q := by
    unfold errJ at he
    rw [part_len h] at he
    split at he
    · assumption
    · exact absurd he (by decide)
  unfold firstN
  rw [hq, if_neg (fun x => by omega)]
theorem first_not {b : List UInt8} {q : Nat} (hq : be (b.take 2) = q) (h6 : 6 ≤ b.length) (h : 6 + q ≤ b.length) (he : (errJ ((b.drop 6).take (6 + q - 6)) != 0) = false) (hd : decide (frmO ((b.drop 6).take (6 + q - 6)) = b.take (6 + q)) = false) : firstN b = 0 := by
  have hn : ¬ 1024 < q := fun hn => by
    unfold errJ at he
    rw [part_len h, if_pos hn] at he
    exact absurd he (by decide)
  have hf : frmO ((b.drop 6).take (6 + q - 6)) = frameL ((b.drop 6).take q) := by
    unfold frmO
    rw [part_len h, if_neg hn, Nat.add_sub_cancel_left]
  have h0 := of_decide_eq_false hd
  subst hq
  rw [hf, frame_at h6 h] at h0
  unfold firstN
  rw [if_neg (fun x => h0 x.2.2.2)]
theorem first_yes {b : List UInt8} {q : Nat} (hq : be (b.take 2) = q) (h6 : 6 ≤ b.length) (h : 6 + q ≤ b.length) (he : (errJ ((b.drop 6).take (6 + q - 6)) != 0) = false) (hd : decide (frmO ((b.drop 6).take (6 + q - 6)) = b.take (6 + q)) = true) : firstN b = 6 + q ∧ (frmO ((b.drop 6).take (6 + q - 6))).drop 6 = recO b ∧ 6 ≤ (frmO ((b.drop 6).take (6 + q - 6))).length := by
  have hn : ¬ 1024 < q := fun hn => by
    unfold errJ at he
    rw [part_len h, if_pos hn] at he
    exact absurd he (by decide)
  have hf : frmO ((b.drop 6).take (6 + q - 6)) = frameL ((b.drop 6).take q) := by
    unfold frmO
    rw [part_len h, if_neg hn, Nat.add_sub_cancel_left]
  have h0 := of_decide_eq_true hd
  subst hq
  have h1 := h0
  rw [hf, frame_at h6 h] at h1
  have hF : firstN b = 6 + be (b.take 2) := by
    unfold firstN
    rw [if_pos ⟨h6, h, by omega, h1⟩]
  refine ⟨hF, ?_, ?_⟩
  · rw [h0]
    unfold recO
    rw [hF, if_neg (by omega), List.drop_take]
  · rw [h0, List.length_take]
    omega
set_option maxRecDepth 100000 in
set_option maxHeartbeats 4000000 in
theorem first_any (b : List UInt8) {v : Value} (w : World) (hln : b.length ≤ 140737488351232) (hs : BSl 0 w.heap.size w v b) : Calls Try.prog 25 #[v] w (FstR b w) := by
  have hmx : Try.prog.follows .mixedOrders = true := by kernel_rfl
  obtain ⟨pb, cb, rfl, _⟩ := hs.slice
  have Hb := Lib.hid hs
  clear hs
  have HLN := Lib.hid hln
  clear hln
  obtain ⟨q, hq⟩ : ∃ q : Nat, be (b.take 2) = q := ⟨_, rfl⟩
  have HQ := Lib.hid hq
  clear hq
  have hM := Sep.start w
  go_enter Try.func25, Try.ntmps25
  go_upto_region 0 with fail
  refine wp_region_fromM (fun W => Sep w [] [] W) hM ?_
  clear hM
  rintro Y1 hM
  refine tF 2 [.val 0 (some 2) (.slice none 0 0), .val 1 (some 3) (.int .i64 0)] trivial ?_
  refine dF ?_
  try simp only [puts, Tk.put, Act.put, List.setIfInBounds_toArray, List.set_cons_zero, List.set_cons_succ]
  go_upto_region 1 with fail
  refine wp_region_fromM (fun W => Sep w [] [] W) hM ?_
  clear hM
  rintro Y2 hM
  refine tF 3 [.val 0 (some 7) (.slice pb b.length cb), .val 1 (some 8) (.int .i64 (b.length : Int)), .val 2 (some 9) (.bool (decide ((b.length : Int) < 6)))] trivial ?_
  refine dF ?_
  try simp only [puts, Tk.put, Act.put, List.setIfInBounds_toArray, List.set_cons_zero, List.set_cons_succ]
  cases hb1 : decide ((b.length : Int) < 6) with
  | false =>
    have Hhb1 := Lib.hid hb1
    clear hb1
    have H6 : Hid (6 ≤ b.length) := Lib.hid (by have h := of_decide_eq_false Hhb1.out; omega)
    have HQL : Hid (q < 65536) := Lib.hid (by have h := be_lt' (l := b.take 2) (k := 2) (by rw [List.length_take]; omega); rw [HQ.out] at h; exact h)
    go_upto_region 3 with fail
    refine wp_region_fromM (fun W => Sep w [] [] W) hM ?_
    clear hM
    rintro Y3 hM
    refine tF 1 [.val 0 (some 10) (.slice pb b.length cb)] trivial ?_
    obtain ⟨a3c, c3c, hrun3, hcb3, _⟩ := cutH Hb.out (j := 2) rfl (by have h := H6.out; omega)
    have HR3 := Lib.hid hrun3
    have HC3 := Lib.hid (hcb3 _ _ _ Hb.out)
    clear hrun3 hcb3
    refine tF 2 [.slc 1 (some 11) 22 (.slice pb b.length cb) none (some (.int .i64 2)) none (.slice a3c (b.take 2).length c3c)] ⟨HR3.out _, trivial⟩ ?_
    refine cF (some 12) 42 #[.slice a3c (b.take 2).length c3c] ((intB_any (b.take 2) HQ.out _ _ (by rw [List.length_take]; omega) ((HC3.out.below hM.b (Nat.le_refl _)).mono (Nat.le_refl _) hM.size)).mono ?_)
    rintro e Y5 ⟨rfl, hb⟩
    replace hM := hM.below hb
    clear hb
    refine tF 5 [.alt 3 (some 13) (.int .i64 (IntKind.i64.wrap (6 + (q : Int)))) (.int .i64 ((6 + q : Nat) : Int)), .val 4 (some 4) (.int .i64 ((6 + q : Nat) : Int))] ⟨congrArg (Value.int .i64) (((IntWalk.i64_in _ (by have h := HQL.out; omega)).trans (by omega))), trivial⟩ ?_
    refine dF ?_
    try simp only [puts, Tk.put, Act.put, List.setIfInBounds_toArray, List.set_cons_zero, List.set_cons_succ]
    go_upto_region 4 with fail
    refine wp_region_fromM (fun W => Sep w [] [] W) hM ?_
    clear hM
    rintro Y6 hM
    refine tF 4 [.val 0 (some 14) (.int .i64 ((6 + q : Nat) : Int)), .val 1 (some 15) (.slice pb b.length cb), .val 2 (some 16) (.int .i64 (b.length : Int)), .val 3 (some 17) (.bool (decide ((b.length : Int) < ((6 + q : Nat) : Int))))] trivial ?_
    refine dF ?_
    try simp only [puts, Tk.put, Act.put, List.setIfInBounds_toArray, List.set_cons_zero, List.set_cons_succ]
    cases hb2 : decide ((b.length : Int) < ((6 + q : Nat) : Int)) with
    | false =>
      have Hhb2 := Lib.hid hb2
      clear hb2
      have HEND : Hid (6 + q ≤ b.length) := Lib.hid (by have h := of_decide_eq_false Hhb2.out; omega)
      go_upto_region 6 with fail
      refine wp_region_fromM (fun W => Sep w [] [] W) hM ?_
      clear hM
      rintro Y7 hM
      refine tF 2 [.val 0 (some 19) (.slice pb b.length cb), .val 1 (some 20) (.int .i64 ((6 + q : Nat) : Int))] trivial ?_
      obtain ⟨a7c, c7c, hrun7, hcb7, _⟩ := cutLH Hb.out (i := 6) (j := 6 + q) rfl rfl (by omega) HEND.out
      have HR7 := Lib.hid hrun7
      have HC7 := Lib.hid (hcb7 _ _ _ Hb.out)
      clear hrun7 hcb7
      refine tF 3 [.slc 2 (some 21) 22 (.slice pb b.length cb) (some (.int .i64 6)) (some (.int .i64 ((6 + q : Nat) : Int))) none (.slice a7c ((b.drop 6).take (6 + q - 6)).length c7c)] ⟨HR7.out _, trivial⟩ ?_
      refine cF (some 22) 8 #[.slice a7c ((b.drop 6).take (6 + q - 6)).length c7c] ((frame_any ((b.drop 6).take (6 + q - 6)) _ ((HC7.out.below hM.b (Nat.le_refl _)).mono (Nat.le_refl _) hM.size)).mono ?_)
      rintro e Y10 ⟨v8o, rfl, hO, hb⟩
      replace hM := hM.octN hO hb
      clear hO hb
      obtain ⟨a8o, c8o, rfl, _⟩ := (hM.oka 0 rfl).octs.slice
      refine tF 9 [.val 4 (some 18) (.tuple #[.slice a8o (frmO ((b.drop 6).take (6 + q - 6))).length c8o, .int .i64 (errJ ((b.drop 6).take (6 + q - 6)))]), .val 5 (some 23) (.slice a8o (frmO ((b.drop 6).take (6 + q - 6))).length c8o), .val 6 (some 24) (.int .i64 (errJ ((b.drop 6).take (6 + q - 6)))), .val 7 (some 5) (.slice a8o (frmO ((b.drop 6).take (6 + q - 6))).length c8o), .val 8 (some 6) (.int .i64 (errJ ((b.drop 6).take (6 + q - 6))))] trivial ?_
      refine dF ?_
      try simp only [puts, Tk.put, Act.put, List.setIfInBounds_toArray, List.set_cons_zero, List.set_cons_succ]
      go_upto_region 7 with fail
      refine wp_region_fromM (fun W => Sep w [] [.oct (.slice a8o (frmO ((b.drop 6).take (6 + q - 6))).length c8o) (frmO ((b.drop 6).take (6 + q - 6)))] W) hM ?_
      clear hM
      rintro Y11 hM
      refine tF 3 [.val 0 (some 25) (.int .i64 (errJ ((b.drop 6).take (6 + q - 6)))), .val 1 (some 26) (.bool ((errJ ((b.drop 6).take (6 + q - 6))) != 0)), .val 2 (some 27) (.bool ((errJ ((b.drop 6).take (6 + q - 6))) != 0))] trivial ?_
      cases hb3 : (errJ ((b.drop 6).take (6 + q - 6))) != 0 with
      | false =>
        have Hhb3 := Lib.hid hb3
        clear hb3
        refine tF 6 [.val 3 (some 28) (.slice a8o (frmO ((b.drop 6).take (6 + q - 6))).length c8o), .val 4 (some 29) (.slice pb b.length cb), .val 5 (some 30) (.int .i64 ((6 + q : Nat) : Int))] trivial ?_
        obtain ⟨a11c, c11c, hrun11, hcb11, _⟩ := cutH Hb.out (j := 6 + q) rfl HEND.out
        have HR11 := Lib.hid hrun11
        have HC11 := Lib.hid (hcb11 _ _ _ Hb.out)
        clear hrun11 hcb11
        refine tF 7 [.slc 6 (some 31) 22 (.slice pb b.length cb) none (some (.int .i64 ((6 + q : Nat) : Int))) none (.slice a11c (b.take (6 + q)).length c11c)] ⟨HR11.out _, trivial⟩ ?_
        refine cF (some 32) 43 #[.slice a8o (frmO ((b.drop 6).take (6 + q - 6))).length c8o, .slice a11c (b.take (6 + q)).length c11c] ((equal_any _ _ _ _ _ ((hM.oka 0 rfl).octs) ((HC11.out.below hM.b (Nat.le_refl _)).mono (Nat.le_refl _) hM.size)).mono ?_)
        rintro e Y13 ⟨rfl, hb⟩
        replace hM := hM.below hb
        clear hb
        cases hb4 : decide (frmO ((b.drop 6).take (6 + q - 6)) = b.take (6 + q)) with
        | false =>
          have Hhb4 := Lib.hid hb4
          clear hb4
          have HZ : Hid (firstN b = 0) := Lib.hid (first_not HQ.out H6.out HEND.out Hhb3.out Hhb4.out)
          refine tF 10 [.val 8 (some 33) (.bool true), .val 9 (some 34) (.bool true)] trivial ?_
          refine dF ?_
          try simp only [puts, Tk.put, Act.put, List.setIfInBounds_toArray, List.set_cons_zero, List.set_cons_succ]
          go_upto_region 8 with fail
          refine wp_region_fromM (fun W => Sep w [] [.oct (.slice a8o (frmO ((b.drop 6).take (6 + q - 6))).length c8o) (frmO ((b.drop 6).take (6 + q - 6)))] W) hM ?_
          clear hM
          rintro Y14 hM
          refine tF 2 [.val 0 (some 2) (.slice none 0 0), .val 1 (some 3) (.int .i64 0)] trivial ?_
          refine dF ?_
          try simp only [puts, Tk.put, Act.put, List.setIfInBounds_toArray, List.set_cons_zero, List.set_cons_succ]
          have hN : Sep w [] [] Y14 := hM.sub (List.nil_sublist _)
          go_wp2_with fail
          go_ret2
          refine ⟨.slice none 0 0, by rw [HZ.out]; rfl, ?_⟩
          rw [rec_no HZ.out]
          exact hN.octN (BSl.nil _ _ _) (Below.refl _ _)
        | true =>
          have Hhb4 := Lib.hid hb4
          clear hb4
          have HY := Lib.hid (first_yes HQ.out H6.out HEND.out Hhb3.out Hhb4.out)
          refine tF 10 [.val 8 (some 33) (.bool false), .val 9 (some 34) (.bool false)] trivial ?_
          refine dF ?_
          try simp only [puts, Tk.put, Act.put, List.setIfInBounds_toArray, List.set_cons_zero, List.set_cons_succ]
          go_upto_region 9 with fail
          refine wp_region_fromM (fun W => Sep w [] [.oct (.slice a8o (frmO ((b.drop 6).take (6 + q - 6))).length c8o) (frmO ((b.drop 6).take (6 + q - 6)))] W) hM ?_
          clear hM
          rintro Y15 hM
          refine tF 1 [.val 0 (some 35) (.slice a8o (frmO ((b.drop 6).take (6 + q - 6))).length c8o)] trivial ?_
          obtain ⟨a15c, c15c, hrun15, hcb15, hcf15⟩ := cutL ((hM.oka 0 rfl).octs) (i := 6) rfl (by exact HY.out.2.2)
          have HR15 := Lib.hid hrun15
          replace hM := hM.turn 0 rfl (turn_cut (hM.oka 0 rfl) (hcb15 _ _ _ (hM.oka 0 rfl).octs) hcf15) rfl
          clear hrun15 hcb15 hcf15
          refine tF 5 [.slc 1 (some 36) 22 (.slice a8o (frmO ((b.drop 6).take (6 + q - 6))).length c8o) (some (.int .i64 6)) none none (.slice a15c ((frmO ((b.drop 6).take (6 + q - 6))).drop 6).length c15c), .val 2 (some 37) (.int .i64 ((6 + q : Nat) : Int)), .val 3 (some 2) (.slice a15c ((frmO ((b.drop 6).take (6 + q - 6))).drop 6).length c15c), .val 4 (some 3) (.int .i64 ((6 + q : Nat) : Int))] ⟨HR15.out _, trivial⟩ ?_
          refine dF ?_
          try simp only [puts, Tk.put, Act.put, List.setIfInBounds_toArray, List.set_cons_zero, List.set_cons_succ]
          have hN := hM.sub (.cons_cons _ .slnil)
          go_wp2_with fail
          go_ret2
          refine ⟨.slice a15c ((frmO ((b.drop 6).take (6 + q - 6))).drop 6).length c15c, by rw [HY.out.1]; rfl, ?_⟩
          rw [← HY.out.2.1]
          exact hN
      | true =>
        have Hhb3 := Lib.hid hb3
        clear hb3
        have HZ : Hid (firstN b = 0) := Lib.hid (first_long HQ.out HEND.out Hhb3.out)
        refine tF 7 [.skip 3 (some 28), .skip 4 (some 29), .skip 5 (some 30), .skip 6 (some 31)] trivial ?_
        refine wpFrom_not (d := some 32) (by kernel_rfl) ?_
        refine tF 10 [.skip 8 (some 33), .val 9 (some 34) (.bool true)] trivial ?_
        refine dF ?_
        try simp only [puts, Tk.put, Act.put, List.setIfInBounds_toArray, List.set_cons_zero, List.set_cons_succ]
        go_upto_region 8 with fail
        refine wp_region_fromM (fun W => Sep w [] [.oct (.slice a8o (frmO ((b.drop 6).take (6 + q - 6))).length c8o) (frmO ((b.drop 6).take (6 + q - 6)))] W) hM ?_
        clear hM
        rintro Y17 hM
        refine tF 2 [.val 0 (some 2) (.slice none 0 0), .val 1 (some 3) (.int .i64 0)] trivial ?_
        refine dF ?_
        try simp only [puts, Tk.put, Act.put, List.setIfInBounds_toArray, List.set_cons_zero, List.set_cons_succ]
        have hN : Sep w [] [] Y17 := hM.sub (List.nil_sublist _)
        go_wp2_with fail
        go_ret2
        refine ⟨.slice none 0 0, by rw [HZ.out]; rfl, ?_⟩
        rw [rec_no HZ.out]
        exact hN.octN (BSl.nil _ _ _) (Below.refl _ _)
    | true =>
      have Hhb2 := Lib.hid hb2
      clear hb2
      have HZ : Hid (firstN b = 0) := Lib.hid (first_big HQ.out (by have h := of_decide_eq_true Hhb2.out; omega))
      go_upto_region 5 with fail
      refine wp_region_fromM (fun W => Sep w [] [] W) hM ?_
      clear hM
      rintro Y18 hM
      refine tF 2 [.val 0 (some 2) (.slice none 0 0), .val 1 (some 3) (.int .i64 0)] trivial ?_
      refine dF ?_
      try simp only [puts, Tk.put, Act.put, List.setIfInBounds_toArray, List.set_cons_zero, List.set_cons_succ]
      have hN : Sep w [] [] Y18 := hM.sub (List.nil_sublist _)
      go_wp2_with fail
      go_ret2
      refine ⟨.slice none 0 0, by rw [HZ.out]; rfl, ?_⟩
      rw [rec_no HZ.out]
      exact hN.octN (BSl.nil _ _ _) (Below.refl _ _)
  | true =>
    have Hhb1 := Lib.hid hb1
    clear hb1
    have HZ : Hid (firstN b = 0) := Lib.hid (first_short (by have h := of_decide_eq_true Hhb1.out; omega))
    go_upto_region 2 with fail
    refine wp_region_fromM (fun W => Sep w [] [] W) hM ?_
    clear hM
    rintro Y19 hM
    refine tF 2 [.val 0 (some 2) (.slice none 0 0), .val 1 (some 3) (.int .i64 0)] trivial ?_
    refine dF ?_
    try simp only [puts, Tk.put, Act.put, List.setIfInBounds_toArray, List.set_cons_zero, List.set_cons_succ]
    have hN : Sep w [] [] Y19 := hM.sub (List.nil_sublist _)
    go_wp2_with fail
    go_ret2
    refine ⟨.slice none 0 0, by rw [HZ.out]; rfl, ?_⟩
    rw [rec_no HZ.out]
    exact hN.octN (BSl.nil _ _ _) (Below.refl _ _)
end Go.Proofs.Ytcjodiemgnihoaa
