/-
  A disk: the program's functions; A small number as a wide one; A user: its fee, its seed, whether it is up; a user is made; A message as a plain thing; whether it may be; what is put of it, and read, as states of octets; what is left of it; A user: the place of a deal; an auction is opened
-/
import Derived.Maps.Range
import Derived.Outline
import Derived.Test.YtbjpifcgnombaaaK12
namespace Go.Proofs.Ytbjpifcgnombaaa
open Go.RowKit Go.Shelf
attribute [local irreducible] wpFrom wpAnyH StepH
theorem room_eq (n : Int) : max2I 0 (min2I n 65536) = ((newD n).rm : Int) := by
  rw [max2I_eq, min2I_eq]
  show _ = ((roomN n : Nat) : Int)
  unfold roomN
  omega
def DkN (D : Dk) (w : World) (e : Ending) (W' : World) : Prop := ∃ B v, e = .returned (.pointer (some ⟨B, 0, none⟩)) ∧ Sep w [] (DKR B D v) W'
set_option maxRecDepth 100000 in
set_option maxHeartbeats 4000000 in
theorem dkNew_any (n : Int) (w : World) : Calls Try.prog 15 #[.int .i64 n] w (DkN (newD n) w) := by
  have hmx : Try.prog.follows .mixedOrders = true := by kernel_rfl
  have hM := Sep.start w
  go_enter Try.func15, Try.ntmps15
  go_upto_region 0 with fail
  refine wp_region_fromM (fun W => Sep w [] [] W) hM ?_
  clear hM
  rintro Y1 hM
  refine tF 1 [.val 0 (some 2) (.pointer none)] trivial ?_
  refine dF ?_
  try simp only [puts, Tk.put, Act.put, List.setIfInBounds_toArray, List.set_cons_zero, List.set_cons_succ]
  go_upto_region 1 with fail
  refine wp_region_fromM (fun W => Sep w [] [] W) hM ?_
  clear hM
  rintro Y2 hM
  refine tF 4 [.val 0 (some 3) (.int .i64 n), .val 1 (some 4) (.int .i64 (min2I n 65536)), .val 2 (some 5) (.int .i64 (max2I 0 (min2I n 65536))), .val 3 (some 6) (.agg (dkc true (max2I 0 (min2I n 65536)) (.slice none 0 0) 0).toArray)] trivial ?_
  refine rF (some 7) (pt Y2.heap.size 0) (Y2.alloc (.cells (dkc true (max2I 0 (min2I n 65536)) (.slice none 0 0) 0).toArray 73)) ?_
  replace hM := hM.alloc 73 (dkc true (max2I 0 (min2I n 65536)) (.slice none 0 0) 0)
  generalize World.alloc _ _ = Y3 at *
  generalize hNe : Y2.heap.size = B at *
  clear hNe
  refine tF 6 [.val 5 (some 2) (pt B 0)] trivial ?_
  refine dF ?_
  try simp only [puts, Tk.put, Act.put, List.setIfInBounds_toArray, List.set_cons_zero, List.set_cons_succ]
  rw [room_eq] at hM
  have hM2 : Sep w [] (DKR B (newD n) (.slice none 0 0)) _ := (hM.octN (BSl.nil _ _ _) (Below.refl _ _)).pick [1, 0] (by decide) rfl
  go_wp2_with fail
  go_ret
  exact ⟨B, _, rfl, hM2⟩
end Go.Proofs.Ytbjpifcgnombaaa
namespace Go.Proofs.Ytbjpifcgnombaaa
open Go.RowKit Go.Shelf
set_option maxHeartbeats 1000000 in
theorem of_any (z : Int) (n : Nat) (h : z = n) (w : World) : Calls Try.prog 35 #[.int .u64 z] w fun e W' => e = .returned (wv n 0 0 0) ∧ Below w.heap.size w W' := by
  subst h
  go_enter Try.func35, Try.ntmps35
  go_wp2
  exact bodyPost_ret (v := wv n 0 0 0) (by simp [results, Try.f35, go_sem]) rfl ⟨rfl, (Below.refl _ _).alloc (Nat.le_refl _) _⟩
-- HERE
end Go.Proofs.Ytbjpifcgnombaaa
namespace Go.Proofs.Ytbjpifcgnombaaa
open Go.RowKit Go.Shelf
attribute [local irreducible] wpFrom wpAnyH StepH
theorem res_one {fn : Func} {p : Tmp} {ty : TypeId} (h : fn.results = #[.cell p ty]) (tmps : Array Value) {w : World} {g : Nat} {c : Value} (hp : tmps.getD p undef = .pointer (some ⟨g, 0, none⟩)) (hl : (loadVar ty ⟨g, 0, none⟩).run Try.prog w = .ok c w) :
    (results fn tmps).run Try.prog w = .ok c w := by
  have hp' : tmps[p]?.getD undef = .pointer (some ⟨g, 0, none⟩) := by simpa using hp
  simp [results, h, hp', asAddr, hl]
theorem of1_any (w : World) : Calls Try.prog 35 #[.int .u64 1] w fun e W' => e = .returned (wn 1) ∧ Below w.heap.size w W' :=
  (of_any 1 1 rfl w).mono fun _ _ ⟨he, hb⟩ => ⟨he, hb⟩
theorem fe_yes {o : Nat} (h : decide (0 < cmpN o 1) = true) : feN o = 1 := by
  refine feN_yes ?_
  have h := of_decide_eq_true h
  unfold cmpN at h
  by_cases g : o < 1
  · rw [if_pos g] at h; omega
  · rw [if_neg g] at h
    by_cases k : 1 < o
    · exact k
    · rw [if_neg k] at h; omega
def fauI (dn : Bool) : Int := if dn = true then 17 else 0
theorem fe_no {o : Nat} (h : decide (0 < cmpN o 1) = false) : feN o = 0 := by
  refine feN_no fun k => ?_
  have h := of_decide_eq_false h
  unfold cmpN at h
  rw [if_neg (by omega), if_pos k] at h
  omega
set_option maxRecDepth 100000 in
set_option maxHeartbeats 4000000 in
theorem feeOf_any {o : Nat} (ho : o < M4) (w : World) : Calls Try.prog 22 #[wn o] w fun e W' => e = .returned (wn (feN o)) ∧ Below w.heap.size w W' := by
  have hmx : Try.prog.follows .mixedOrders = true := by kernel_rfl
  have HO := Lib.hid ho
  clear ho
  have hM := Sep.start w
  go_enter Try.func22, Try.ntmps22
  go_upto_region 0 with fail
  refine wp_region_fromM (fun W => Sep w [] [] W) hM ?_
  clear hM
  rintro Y1 hM
  refine rF (some 1) (pt Y1.heap.size 0) (Y1.alloc (.cells (wnc o).toArray 24)) ?_
  replace hM := hM.alloc 24 (wnc o)
  generalize World.alloc _ _ = Y2 at *
  generalize hNe : Y1.heap.size = N2 at *
  clear hNe
  refine rF (some 2) (pt Y2.heap.size 0) (Y2.alloc (.cells (wnc 0).toArray 24)) ?_
  replace hM := hM.alloc 24 (wnc 0)
  generalize World.alloc _ _ = Y3 at *
  generalize hNe : Y2.heap.size = N3 at *
  clear hNe
  refine dF ?_
  try simp only [Act.put, List.setIfInBounds_toArray, List.set_cons_zero, List.set_cons_succ]
  go_upto_region 1 with fail
  refine wp_region_M (fun W => Sep w [] [.blk N3 24 (wnc 0), .blk N2 24 (wnc o)] W) (fun W => Sep w [] [.blk N3 24 (wnc 0), .blk N2 24 (wnc o)] W) hmx hM.drew ?_
  clear hM
  rintro Y4 hM
  have hS := hM.sub (.cons_cons _ (.cons_cons _ .slnil))
  refine tD 3 [.load 0 (some 3) 24 (pt N2 0) (wn o)] ⟨fun W h => load_part (h.at 1 rfl) 0 (wnc o) rfl _ _ Try.underlying24 rfl (by kernel_rfl), trivial⟩ hS ?_
  refine oD 1 2 (cD (some 4) 35 #[.int .u64 1] ((of1_any _).mono ?_))
  rintro e Y5 ⟨rfl, hb⟩
  refine And.intro (hS.below hb) ?_
  replace hS := hS.below hb
  replace hM := hM.below hb
  clear hb
  refine oD 2 1 (cD (some 5) 34 #[wn o, wn 1] ((cmpWn_any HO.out (word_lt4 (by unfold M; decide)) _).mono ?_))
  rintro e Y6 ⟨rfl, hb⟩
  refine And.intro (hS.below hb) ?_
  replace hS := hS.below hb
  replace hM := hM.below hb
  clear hb
  refine tD 0 [.val 3 (some 6) (.bool (decide (0 < (cmpN o 1))))] trivial hS ?_
  refine dD ?_
  try simp only [puts, Tk.put, Act.put, List.setIfInBounds_toArray, List.set_cons_zero, List.set_cons_succ]
  clear hS
  cases hb1 : decide (0 < (cmpN o 1)) with
  | false =>
    have Hhb1 := Lib.hid hb1
    clear hb1
    go_upto_region 3 with fail
    refine wp_region_fromM (fun W => Sep w [] [.blk N3 24 (wnc 0), .blk N2 24 (wnc o)] W) hM ?_
    clear hM
    rintro Y7 hM
    refine tF 1 [.val 0 (some 8) (wn 0)] trivial ?_
    have hst := sto_part (wnc 0) (hM.at 0 rfl) 0 24 (wn 0) (wnc 0) rfl (by kernel_rfl) (Nat.le_of_ble_eq_true rfl) rfl rfl
    refine sF 24 (pt N3 0) (wn 0) (hst) ?_
    clear hst
    replace hM := hM.set 0 (cs' := wnc 0) rfl rfl
    generalize World.setRow _ _ _ = Y8 at *
    refine dF ?_
    try simp only [puts, Tk.put, Act.put, List.setIfInBounds_toArray, List.set_cons_zero, List.set_cons_succ]
    go_wp2_with fail
    exact bodyPost_ret (v := wn 0) (res_one rfl _ rfl (lv_wd (hM.at 0 rfl))) rfl ⟨by rw [fe_no Hhb1.out], hM.b⟩
  | true =>
    have Hhb1 := Lib.hid hb1
    clear hb1
    go_upto_region 2 with fail
    refine wp_region_fromM (fun W => Sep w [] [.blk N3 24 (wnc 0), .blk N2 24 (wnc o)] W) hM ?_
    clear hM
    rintro Y9 hM
    refine cF (some 7) 35 #[.int .u64 1] ((of1_any _).mono ?_)
    rintro e Y10 ⟨rfl, hb⟩
    replace hM := hM.below hb
    clear hb
    have hst := sto_part (wnc 1) (hM.at 0 rfl) 0 24 (wn 1) (wnc 1) rfl (by kernel_rfl) (Nat.le_of_ble_eq_true rfl) rfl rfl
    refine sF 24 (pt N3 0) (wn 1) (hst) ?_
    clear hst
    replace hM := hM.set 0 (cs' := wnc 1) rfl rfl
    generalize World.setRow _ _ _ = Y11 at *
    refine dF ?_
    try simp only [Act.put, List.setIfInBounds_toArray, List.set_cons_zero, List.set_cons_succ]
    go_wp2_with fail
    exact bodyPost_ret (v := wn 1) (res_one rfl _ rfl (lv_wd (hM.at 0 rfl))) rfl ⟨by rw [fe_yes Hhb1.out], hM.b⟩
set_option maxRecDepth 100000 in
set_option maxHeartbeats 4000000 in
theorem clFee_any {o : Nat} (p : Value) (ho : o < M4) (w : World) : Calls Try.prog 9 #[p, wn o] w fun e W' => e = .returned (wn (feN o)) ∧ Below w.heap.size w W' := by
  have hmx : Try.prog.follows .mixedOrders = true := by kernel_rfl
  have HO := Lib.hid ho
  clear ho
  have hM := Sep.start w
  go_enter Try.func9, Try.ntmps9
  go_upto_region 0 with fail
  refine wp_region_fromM (fun W => Sep w [] [] W) hM ?_
  clear hM
  rintro Y1 hM
  refine rF (some 3) (pt Y1.heap.size 0) (Y1.alloc (.cells (wnc o).toArray 24)) ?_
  replace hM := hM.alloc 24 (wnc o)
  generalize World.alloc _ _ = Y2 at *
  generalize hNe : Y1.heap.size = N2 at *
  clear hNe
  refine rF (some 4) (pt Y2.heap.size 0) (Y2.alloc (.cells (wnc 0).toArray 24)) ?_
  replace hM := hM.alloc 24 (wnc 0)
  generalize World.alloc _ _ = Y3 at *
  generalize hNe : Y2.heap.size = N3 at *
  clear hNe
  refine dF ?_
  try simp only [Act.put, List.setIfInBounds_toArray, List.set_cons_zero, List.set_cons_succ]
  go_upto_region 1 with fail
  refine wp_region_fromM (fun W => Sep w [] [.blk N3 24 (wnc 0), .blk N2 24 (wnc o)] W) hM ?_
  clear hM
  rintro Y4 hM
  refine tF 1 [.load 0 (some 5) 24 (pt N2 0) (wn o)] ⟨load_part (hM.at 1 rfl) 0 (wnc o) rfl _ _ Try.underlying24 rfl (by kernel_rfl), trivial⟩ ?_
  refine cF (some 6) 22 #[wn o] ((feeOf_any HO.out _).mono ?_)
  rintro e Y5 ⟨rfl, hb⟩
  replace hM := hM.below hb
  clear hb
  have hst := sto_part (wnc (feN o)) (hM.at 0 rfl) 0 24 (wn (feN o)) (wnc (feN o)) rfl (by kernel_rfl) (Nat.le_of_ble_eq_true rfl) rfl rfl
  refine sF 24 (pt N3 0) (wn (feN o)) (hst) ?_
  clear hst
  replace hM := hM.set 0 (cs' := wnc (feN o)) rfl rfl
  generalize World.setRow _ _ _ = Y6 at *
  refine dF ?_
  try simp only [puts, Tk.put, Act.put, List.setIfInBounds_toArray, List.set_cons_zero, List.set_cons_succ]
  go_wp2_with fail
  exact bodyPost_ret (v := wn (feN o)) (res_one rfl _ rfl (lv_wd (hM.at 0 rfl))) rfl ⟨rfl, hM.b⟩
set_option maxRecDepth 100000 in
set_option maxHeartbeats 4000000 in
theorem seed_any (u : Int) (w : World) : Calls Try.prog 13 #[.int .i64 u] w fun e W' => e = .returned (.string (seedB u)) ∧ Below w.heap.size w W' := by
  have hmx : Try.prog.follows .mixedOrders = true := by kernel_rfl
  have hM := Sep.start w
  go_enter Try.func13, Try.ntmps13
  go_upto_region 0 with fail
  refine wp_region_fromM (fun W => Sep w [] [] W) hM ?_
  clear hM
  rintro Y1 hM
  refine tF 1 [.val 0 (some 2) (.string ⟨#[]⟩)] trivial ?_
  refine dF ?_
  try simp only [puts, Tk.put, Act.put, List.setIfInBounds_toArray, List.set_cons_zero, List.set_cons_succ]
  go_upto_region 1 with fail
  refine wp_region_fromM (fun W => Sep w [] [] W) hM ?_
  clear hM
  rintro Y2 hM
  refine tF 1 [.val 0 (some 3) (.int .i64 u)] trivial ?_
  refine cF (some 4) 25 #[.int .i64 u, .int .i64 1] ((num_any u 1 (by decide) (by decide) _).mono ?_)
  rintro e Y3 ⟨v3o, rfl, hO, hb⟩
  replace hM := hM.octN hO hb
  clear hO hb
  obtain ⟨a3o, c3o, rfl, _⟩ := (hM.oka 0 rfl).octs.slice
  refine cvF (.tmp 4) (some 5) (.slice a3o (octs (two u) 1).length c3o) (.string (txB (octs (two u) 1))) (cvT (hM.oka 0 rfl).octs) ?_
  refine catF (.const (.string ⟨#[117, 115, 101, 114]⟩)) (.tmp 5) 9 9 (some 6) [117, 115, 101, 114] (octs (two u) 1) (Nat.le_of_ble_eq_true rfl) ?_
  refine tF 5 [.val 4 (some 2) (.string (seedB u))] trivial ?_
  refine dF ?_
  try simp only [puts, Tk.put, Act.put, List.setIfInBounds_toArray, List.set_cons_zero, List.set_cons_succ]
  go_wp2_with fail
  go_ret
  exact ⟨rfl, hM.b⟩
set_option maxRecDepth 100000 in
set_option maxHeartbeats 4000000 in
theorem clThere_any {C D : Nat} {m : Me} {v q : Value} {dn : Bool} (w : World) (hC : Blk w C 61 (clc m (.pointer (some ⟨D, 0, none⟩)) v q dn)) : Calls Try.prog 23 #[.pointer (some ⟨C, 0, none⟩)] w fun e W' => e = .returned (.bool true) ∧ Below w.heap.size w W' := by
  have hmx : Try.prog.follows .mixedOrders = true := by kernel_rfl
  have HC := Lib.hid hC
  clear hC
  have hM := Sep.start w
  go_enter Try.func23, Try.ntmps23
  go_upto_region 0 with fail
  refine wp_region_fromM (fun W => Sep w [] [] W) hM ?_
  clear hM
  rintro Y1 hM
  refine tF 1 [.val 0 (some 2) (.bool false)] trivial ?_
  refine dF ?_
  try simp only [puts, Tk.put, Act.put, List.setIfInBounds_toArray, List.set_cons_zero, List.set_cons_succ]
  go_upto_region 1 with fail
  refine wp_region_fromM (fun W => Sep w [] [] W) hM ?_
  clear hM
  rintro Y2 hM
  refine tF 11 [.val 0 (some 3) (pt C 0), .val 1 (some 4) (.bool true), .val 2 (some 5) (.bool true), .val 3 (some 6) (pt C 0), .val 4 (some 7) (pt C 0), .val 5 (some 8) (pt C 0), .val 6 (some 9) (pt C 5), .load 7 (some 10) 53 (pt C 5) (.pointer (some ⟨D, 0, none⟩)), .val 8 (some 11) (.bool true), .val 9 (some 12) (.bool true), .val 10 (some 2) (.bool true)] ⟨ld_any _ _ Try.underlying53 rfl (HC.out.below hM.b HC.out.lt) 5 rfl, trivial⟩ ?_
  refine dF ?_
  try simp only [puts, Tk.put, Act.put, List.setIfInBounds_toArray, List.set_cons_zero, List.set_cons_succ]
  go_wp2_with fail
  go_ret
  exact ⟨rfl, hM.b⟩
set_option maxRecDepth 100000 in
set_option maxHeartbeats 4000000 in
theorem clFault_any {C D : Nat} {m : Me} {v q : Value} {dn : Bool} (w : World) (hC : Blk w C 61 (clc m (.pointer (some ⟨D, 0, none⟩)) v q dn)) : Calls Try.prog 17 #[.pointer (some ⟨C, 0, none⟩)] w fun e W' => e = .returned (.int .i64 (fauI dn)) ∧ Below w.heap.size w W' := by
  have hmx : Try.prog.follows .mixedOrders = true := by kernel_rfl
  have HC := Lib.hid hC
  clear hC
  have hM := Sep.start w
  go_enter Try.func17, Try.ntmps17
  go_upto_region 0 with fail
  refine wp_region_fromM (fun W => Sep w [] [] W) hM ?_
  clear hM
  rintro Y1 hM
  refine tF 1 [.val 0 (some 2) (.int .i64 0)] trivial ?_
  refine dF ?_
  try simp only [puts, Tk.put, Act.put, List.setIfInBounds_toArray, List.set_cons_zero, List.set_cons_succ]
  go_upto_region 1 with fail
  refine wp_region_fromM (fun W => Sep w [] [] W) hM ?_
  clear hM
  rintro Y2 hM
  refine tF 1 [.val 0 (some 3) (pt C 0)] trivial ?_
  refine cF (some 4) 23 #[pt C 0] ((clThere_any _ (HC.out.below hM.b HC.out.lt)).mono ?_)
  rintro e Y3 ⟨rfl, hb⟩
  replace hM := hM.below hb
  clear hb
  refine tF 3 [.val 2 (some 5) (.bool false)] trivial ?_
  refine dF ?_
  try simp only [puts, Tk.put, Act.put, List.setIfInBounds_toArray, List.set_cons_zero, List.set_cons_succ]
  go_upto_region 3 with fail
  refine wp_region_fromM (fun W => Sep w [] [] W) hM ?_
  clear hM
  rintro Y4 hM
  refine tF 4 [.val 0 (some 6) (pt C 0), .val 1 (some 7) (pt C 0), .val 2 (some 8) (pt C 8), .load 3 (some 9) 4 (pt C 8) (.bool dn)] ⟨ld_any _ _ Try.underlying4 rfl (HC.out.below hM.b HC.out.lt) 8 rfl, trivial⟩ ?_
  refine dF ?_
  try simp only [puts, Tk.put, Act.put, List.setIfInBounds_toArray, List.set_cons_zero, List.set_cons_succ]
  cases hb1 : dn with
  | false =>
    have Hhb1 := Lib.hid hb1
    clear hb1
    go_upto_region 5 with fail
    refine wp_region_fromM (fun W => Sep w [] [] W) hM ?_
    clear hM
    rintro Y5 hM
    refine tF 1 [.val 0 (some 2) (.int .i64 0)] trivial ?_
    refine dF ?_
    try simp only [puts, Tk.put, Act.put, List.setIfInBounds_toArray, List.set_cons_zero, List.set_cons_succ]
    go_wp2_with fail
    go_ret
    exact ⟨by rw [Hhb1.out]; rfl, hM.b⟩
  | true =>
    have Hhb1 := Lib.hid hb1
    clear hb1
    go_upto_region 4 with fail
    refine wp_region_fromM (fun W => Sep w [] [] W) hM ?_
    clear hM
    rintro Y6 hM
    refine tF 1 [.val 0 (some 2) (.int .i64 17)] trivial ?_
    refine dF ?_
    try simp only [puts, Tk.put, Act.put, List.setIfInBounds_toArray, List.set_cons_zero, List.set_cons_succ]
    go_wp2_with fail
    go_ret
    exact ⟨by rw [Hhb1.out]; rfl, hM.b⟩
set_option maxRecDepth 100000 in
set_option maxHeartbeats 4000000 in
theorem clDown_any {C D : Nat} {m : Me} {v q : Value} {dn : Bool} (w : World) (hC : Blk w C 61 (clc m (.pointer (some ⟨D, 0, none⟩)) v q dn)) : Calls Try.prog 10 #[.pointer (some ⟨C, 0, none⟩)] w fun e W' => e = .returned (.bool dn) ∧ Below w.heap.size w W' := by
  have hmx : Try.prog.follows .mixedOrders = true := by kernel_rfl
  have HC := Lib.hid hC
  clear hC
  have hM := Sep.start w
  go_enter Try.func10, Try.ntmps10
  go_upto_region 0 with fail
  refine wp_region_fromM (fun W => Sep w [] [] W) hM ?_
  clear hM
  rintro Y1 hM
  refine tF 1 [.val 0 (some 2) (.bool false)] trivial ?_
  refine dF ?_
  try simp only [puts, Tk.put, Act.put, List.setIfInBounds_toArray, List.set_cons_zero, List.set_cons_succ]
  go_upto_region 1 with fail
  refine wp_region_fromM (fun W => Sep w [] [] W) hM ?_
  clear hM
  rintro Y2 hM
  refine tF 1 [.val 0 (some 3) (pt C 0)] trivial ?_
  refine cF (some 4) 17 #[pt C 0] ((clFault_any _ (HC.out.below hM.b HC.out.lt)).mono ?_)
  rintro e Y3 ⟨rfl, hb⟩
  replace hM := hM.below hb
  clear hb
  refine tF 4 [.val 2 (some 5) (.bool ((fauI dn) != 0)), .val 3 (some 2) (.bool ((fauI dn) != 0))] trivial ?_
  refine dF ?_
  try simp only [puts, Tk.put, Act.put, List.setIfInBounds_toArray, List.set_cons_zero, List.set_cons_succ]
  go_wp2_with fail
  go_ret
  exact ⟨by cases dn <;> rfl, hM.b⟩
set_option maxRecDepth 100000 in
set_option maxHeartbeats 4000000 in
theorem clRoot_any {C D : Nat} {m : Me} {v q : Value} {dn : Bool} (w : World) (hC : Blk w C 61 (clc m (.pointer (some ⟨D, 0, none⟩)) v q dn)) : Calls Try.prog 11 #[.pointer (some ⟨C, 0, none⟩)] w fun e W' => e = .returned (.string m.rt) ∧ Below w.heap.size w W' := by
  have hmx : Try.prog.follows .mixedOrders = true := by kernel_rfl
  have HC := Lib.hid hC
  clear hC
  have hM := Sep.start w
  go_enter Try.func11, Try.ntmps11
  go_upto_region 0 with fail
  refine wp_region_fromM (fun W => Sep w [] [] W) hM ?_
  clear hM
  rintro Y1 hM
  refine tF 1 [.val 0 (some 2) (.string ⟨#[]⟩)] trivial ?_
  refine dF ?_
  try simp only [puts, Tk.put, Act.put, List.setIfInBounds_toArray, List.set_cons_zero, List.set_cons_succ]
  go_upto_region 1 with fail
  refine wp_region_fromM (fun W => Sep w [] [] W) hM ?_
  clear hM
  rintro Y2 hM
  refine tF 1 [.val 0 (some 3) (pt C 0)] trivial ?_
  refine cF (some 4) 23 #[pt C 0] ((clThere_any _ (HC.out.below hM.b HC.out.lt)).mono ?_)
  rintro e Y3 ⟨rfl, hb⟩
  replace hM := hM.below hb
  clear hb
  refine tF 3 [.val 2 (some 5) (.bool false)] trivial ?_
  refine dF ?_
  try simp only [puts, Tk.put, Act.put, List.setIfInBounds_toArray, List.set_cons_zero, List.set_cons_succ]
  go_upto_region 3 with fail
  refine wp_region_fromM (fun W => Sep w [] [] W) hM ?_
  clear hM
  rintro Y4 hM
  refine tF 7 [.val 0 (some 6) (pt C 0), .val 1 (some 7) (pt C 0), .val 2 (some 8) (pt C 0), .val 3 (some 9) (pt C 0), .val 4 (some 10) (pt C 1), .load 5 (some 11) 9 (pt C 1) (.string m.rt), .val 6 (some 2) (.string m.rt)] ⟨ld_any _ _ Try.underlying9 rfl (HC.out.below hM.b HC.out.lt) 1 rfl, trivial⟩ ?_
  refine dF ?_
  try simp only [puts, Tk.put, Act.put, List.setIfInBounds_toArray, List.set_cons_zero, List.set_cons_succ]
  go_wp2_with fail
  go_ret
  exact ⟨rfl, hM.b⟩
theorem two_at {W : World} {N o : Nat} {T : TypeId} {cs : List Value} {s0 s1 : ByteArray} (h : Blk W N T cs) (h0 : cs[o]? = some (.string s0)) (h1 : cs[o + 1]? = some (.string s1)) : ∀ q u, [Value.string s0, Value.string s1][q]? = some u → W.cell? ((⟨N, o, none⟩ : Addr).add q) = some u := fun q u hu => by
  rw [addr_add, h.cell]
  match q, hu with
  | 0, hu => exact h0.trans hu
  | 1, hu => exact h1.trans hu
  | q + 2, hu => simp at hu
set_option maxRecDepth 100000 in
set_option maxHeartbeats 4000000 in
theorem rmNew_at {N : Nat} {T : TypeId} {cs : List Value} (o : Nat) (s0 s1 : ByteArray) (w : World) (hn : Blk w N T cs) (h0 : cs[o]? = some (.string s0)) (h1 : cs[o + 1]? = some (.string s1)) : Calls Try.prog 16 #[.slice (some ⟨N, o, none⟩) 2 2] w (NewRm ⟨s0, s1, [], []⟩ w) := by
  have hmx : Try.prog.follows .mixedOrders = true := by kernel_rfl
  have HN := Lib.hid hn
  clear hn
  have hM := Sep.start w
  go_enter Try.func16, Try.ntmps16
  go_upto_region 0 with fail
  refine wp_region_fromM (fun W => Sep w [] [] W) hM ?_
  clear hM
  rintro Y1 hM
  refine tF 1 [.val 0 (some 2) (.pointer none)] trivial ?_
  refine dF ?_
  try simp only [puts, Tk.put, Act.put, List.setIfInBounds_toArray, List.set_cons_zero, List.set_cons_succ]
  go_upto_region 1 with fail
  refine wp_region_fromM (fun W => Sep w [] [] W) hM ?_
  clear hM
  rintro Y2 hM
  refine tF 1 [.val 0 (some 4) (.agg (rmc true ⟨#[]⟩ ⟨#[]⟩ (.slice none 0 0) (.slice none 0 0)).toArray)] trivial ?_
  refine rF (some 5) (pt Y2.heap.size 0) (Y2.alloc (.cells (rmc true ⟨#[]⟩ ⟨#[]⟩ (.slice none 0 0) (.slice none 0 0)).toArray 77)) ?_
  replace hM := hM.alloc 77 (rmc true ⟨#[]⟩ ⟨#[]⟩ (.slice none 0 0) (.slice none 0 0))
  generalize World.alloc _ _ = Y3 at *
  generalize hNe : Y2.heap.size = N3 at *
  clear hNe
  refine tF 3 [.val 2 (some 3) (pt N3 0)] trivial ?_
  refine dF ?_
  try simp only [puts, Tk.put, Act.put, List.setIfInBounds_toArray, List.set_cons_zero, List.set_cons_succ]
  go_upto_region 2 with fail
  refine wp_region_fromM (fun W => Sep w [] [.blk N3 77 (rmc true ⟨#[]⟩ ⟨#[]⟩ (.slice none 0 0) (.slice none 0 0))] W) hM ?_
  clear hM
  rintro Y4 hM
  refine tF 5 [.val 0 (some 6) (pt N3 0), .val 1 (some 7) (pt N3 0), .val 2 (some 8) (pt N3 1), .slc 3 (some 9) 50 (pt N3 1) none none none (.slice (some ⟨N3, 1, none⟩) 2 2), .val 4 (some 10) (.slice (some ⟨N, o, none⟩) 2 2)] ⟨slice_arr2 (c := 1) Try.underlying50 (fun W => by kernel_rfl) _ _ _, trivial⟩ ?_
  have hrun : (Builtin.copy_ #[49, 49] 3 #[.slice (some ⟨N3, 1, none⟩) 2 2, .slice (some ⟨N, o, none⟩) 2 2]).run Try.prog Y4 = .ok (.int .i64 2) (Y4.setRow N3 (rmc true s0 s1 (.slice none 0 0) (.slice none 0 0)).toArray) := run_copy_row (P := Try.prog) Y4 49 49 3 9 N3 1 2 2 ⟨N, o, none⟩ 2 2 (rmc true ⟨#[]⟩ ⟨#[]⟩ (.slice none 0 0) (.slice none 0 0)).toArray 77 [.string s0, .string s1] Try.underlying49 (by kernel_rfl) (hM.at 0 rfl) rfl (two_at (HN.out.below hM.b HN.out.lt) h0 h1) (Nat.le_of_ble_eq_true rfl) (by simp [Value.oneCell'])
  refine cpF 49 49 3 (some 11) (.slice (some ⟨N3, 1, none⟩) 2 2) (.slice (some ⟨N, o, none⟩) 2 2) (.int .i64 2) hrun ?_
  clear hrun
  replace hM := hM.set 0 (cs' := rmc true s0 s1 (.slice none 0 0) (.slice none 0 0)) rfl rfl
  generalize World.setRow _ _ _ = Y5 at *
  refine dF ?_
  try simp only [puts, Tk.put, Act.put, List.setIfInBounds_toArray, List.set_cons_zero, List.set_cons_succ]
  go_upto_region 3 with fail
  refine wp_region_fromM (fun W => Sep w [] [.blk N3 77 (rmc true s0 s1 (.slice none 0 0) (.slice none 0 0))] W) hM ?_
  clear hM
  rintro Y6 hM
  refine tF 2 [.val 0 (some 12) (pt N3 0), .val 1 (some 2) (pt N3 0)] trivial ?_
  refine dF ?_
  try simp only [puts, Tk.put, Act.put, List.setIfInBounds_toArray, List.set_cons_zero, List.set_cons_succ]
  replace hM := (hM.nil ltc 87 10).nil bdc 33 16
  go_wp2_with fail
  go_ret
  exact ⟨_, _, _, rfl, hM.pick [2, 1, 0] (by decide) rfl⟩
def NewCl (c : Cl) (w : World) (e : Ending) (W' : World) : Prop := ∃ C D R vo vp va vb, e = .returned (.tuple #[.pointer (some ⟨C, 0, none⟩), .int .i64 0]) ∧ Sep w [] (CLR C D R c vo vp va vb) W'
def newU (u : Int) (r0 r1 : ByteArray) (d n : Int) : Cl := ⟨⟨u, rootB (seedB u), r0, r1, d⟩, newD n, [], ⟨r0, r1, [], []⟩, false⟩
set_option maxRecDepth 100000 in
set_option maxHeartbeats 4000000 in
theorem clNew_nil (u d n : Int) (w : World) (hu : 0 ≤ u ∧ u < 2) : Calls Try.prog 6 #[.int .i64 u, .slice none 0 0, .int .i64 d, .int .i64 n] w (NewCl (newU u (⟨#[]⟩) (⟨#[]⟩) d n) w) := by
  have hmx : Try.prog.follows .mixedOrders = true := by kernel_rfl
  have HU := Lib.hid hu
  clear hu
  have hM := Sep.start w
  go_enter Try.func6, Try.ntmps6
  go_upto_region 0 with fail
  refine wp_region_fromM (fun W => Sep w [] [] W) hM ?_
  clear hM
  rintro Y1 hM
  refine tF 2 [.val 0 (some 8) (.pointer none), .val 1 (some 9) (.int .i64 0)] trivial ?_
  refine dF ?_
  try simp only [puts, Tk.put, Act.put, List.setIfInBounds_toArray, List.set_cons_zero, List.set_cons_succ]
  go_upto_region 1 with fail
  refine wp_region_fromM (fun W => Sep w [] [] W) hM ?_
  clear hM
  rintro Y2 hM
  refine tF 6 [.val 0 (some 11) (.int .i64 u), .alt 1 (some 12) (.bool (decide (u < 0))) (.bool false), .val 2 (some 13) (.bool false), .val 3 (some 14) (.int .i64 u), .alt 4 (some 15) (.bool (decide (2 ≤ u))) (.bool false), .val 5 (some 16) (.bool false)] ⟨congrArg Value.bool (decide_eq_false (by have := HU.out; omega)), congrArg Value.bool (decide_eq_false (by have := HU.out; omega)), trivial⟩ ?_
  refine dF ?_
  try simp only [puts, Tk.put, Act.put, List.setIfInBounds_toArray, List.set_cons_zero, List.set_cons_succ]
  go_upto_region 3 with fail
  refine wp_region_fromM (fun W => Sep w [] [] W) hM ?_
  clear hM
  rintro Y3 hM
  refine tF 2 [.val 0 (some 17) (.int .i64 u), .val 1 (some 18) (.int .i64 u)] trivial ?_
  refine cF (some 19) 13 #[.int .i64 u] ((seed_any u _).mono ?_)
  rintro e Y4 ⟨rfl, hb⟩
  replace hM := hM.below hb
  clear hb
  refine cF (some 20) 14 #[.string (seedB u)] ((root_any (seedB u) (by rw [seedB_size]; decide) _).mono ?_)
  rintro e Y5 ⟨rfl, hb⟩
  replace hM := hM.below hb
  clear hb
  refine tF 6 [.val 4 (some 21) (.int .i64 d), .val 5 (some 22) (.agg (mec (Me.mk u (rootB (seedB u)) ⟨#[]⟩ ⟨#[]⟩ d)).toArray)] trivial ?_
  refine rF (some 10) (pt Y5.heap.size 0) (Y5.alloc (.cells (mec (Me.mk 0 ⟨#[]⟩ ⟨#[]⟩ ⟨#[]⟩ 0)).toArray 52)) ?_
  replace hM := hM.alloc 52 (mec (Me.mk 0 ⟨#[]⟩ ⟨#[]⟩ ⟨#[]⟩ 0))
  generalize World.alloc _ _ = Y6 at *
  generalize hNe : Y5.heap.size = N6 at *
  clear hNe
  have hst := sto_part (mec (Me.mk u (rootB (seedB u)) ⟨#[]⟩ ⟨#[]⟩ d)) (hM.at 0 rfl) 0 52 (.agg (mec (Me.mk u (rootB (seedB u)) ⟨#[]⟩ ⟨#[]⟩ d)).toArray) (mec (Me.mk u (rootB (seedB u)) ⟨#[]⟩ ⟨#[]⟩ d)) rfl (by kernel_rfl) (Nat.le_of_ble_eq_true rfl) rfl rfl
  refine sF 52 (pt N6 0) (.agg (mec (Me.mk u (rootB (seedB u)) ⟨#[]⟩ ⟨#[]⟩ d)).toArray) (hst) ?_
  clear hst
  replace hM := hM.set 0 (cs' := mec (Me.mk u (rootB (seedB u)) ⟨#[]⟩ ⟨#[]⟩ d)) rfl rfl
  generalize World.setRow _ _ _ = Y7 at *
  refine dF ?_
  try simp only [puts, Tk.put, Act.put, List.setIfInBounds_toArray, List.set_cons_zero, List.set_cons_succ]
  go_upto_region 4 with fail
  refine wp_region_fromM (fun W => Sep w [] [.blk N6 52 (mec (Me.mk u (rootB (seedB u)) ⟨#[]⟩ ⟨#[]⟩ d))] W) hM ?_
  clear hM
  rintro Y8 hM
  refine tF 3 [.val 0 (some 23) (pt N6 2), .slc 1 (some 24) 50 (pt N6 2) none none none (.slice (some ⟨N6, 2, none⟩) 2 2), .val 2 (some 25) (.slice none 0 0)] ⟨slice_arr2 (c := 1) Try.underlying50 (fun W => by kernel_rfl) _ _ _, trivial⟩ ?_
  refine cpF 49 49 3 (some 26) (.slice (some ⟨N6, 2, none⟩) 2 2) (.slice none 0 0) (.int .i64 0) (run_copy_nil (P := Try.prog) Y8 49 49 3 9 _ 2 2 Try.underlying49 (by kernel_rfl)) ?_
  refine dF ?_
  try simp only [puts, Tk.put, Act.put, List.setIfInBounds_toArray, List.set_cons_zero, List.set_cons_succ]
  go_upto_region 5 with fail
  refine wp_region_M (fun W => Sep w [] [.blk N6 52 (mec (Me.mk u (rootB (seedB u)) ⟨#[]⟩ ⟨#[]⟩ d))] W) (fun W => Sep w [] [.blk N6 52 (mec (Me.mk u (rootB (seedB u)) ⟨#[]⟩ ⟨#[]⟩ d))] W) hmx hM.drew ?_
  clear hM
  rintro Y9 hM
  have hS := hM.sub (.cons_cons _ .slnil)
  refine tD 7 [.load 0 (some 27) 52 (pt N6 0) (mev (Me.mk u (rootB (seedB u)) ⟨#[]⟩ ⟨#[]⟩ d)), .val 1 (some 28) (.int .i64 n), .val 4 (some 31) (pt N6 2), .slc 5 (some 32) 50 (pt N6 2) none none none (.slice (some ⟨N6, 2, none⟩) 2 2)] ⟨fun W h => load_part (h.at 0 rfl) 0 (mec (Me.mk u (rootB (seedB u)) ⟨#[]⟩ ⟨#[]⟩ d)) rfl _ _ Try.underlying52 rfl (by kernel_rfl), fun W h => slice_arr2 (c := 1) Try.underlying50 (fun W => by kernel_rfl) _ _ _, trivial⟩ hS ?_
  refine oD 2 6 (cD (some 29) 15 #[.int .i64 n] ((dkNew_any n _).mono ?_))
  rintro e Y10 ⟨B10, v10, rfl, hR⟩
  refine And.intro (hS.below hR.b) ?_
  replace hS := hS.below hR.b
  replace hM := hM.gain (Sep.close (ps := DKR B10 (newD n) v10) (l := []) hR)
  clear hR
  refine tD 5 [.val 3 (some 30) (.agg #[.int .i64 u, .string (rootB (seedB u)), .string (⟨#[]⟩), .string (⟨#[]⟩), .int .i64 d, pt B10 0, .slice none 0 0])] trivial hS ?_
  refine oD 6 4 (cD (some 33) 16 #[.slice (some ⟨N6, 2, none⟩) 2 2] ((rmNew_at 2 (⟨#[]⟩) (⟨#[]⟩) _ (hM.at 1 rfl) rfl rfl).mono ?_))
  rintro e Y11 ⟨B11, va11, vb11, rfl, hR⟩
  refine And.intro (hS.below hR.b) ?_
  replace hS := hS.below hR.b
  replace hM := hM.gain (Sep.close (ps := RMR B11 (Rm.mk (⟨#[]⟩) (⟨#[]⟩) [] []) va11 vb11) (l := []) hR)
  clear hR
  refine tD 3 [.val 7 (some 34) (.agg (clc (Me.mk u (rootB (seedB u)) ⟨#[]⟩ ⟨#[]⟩ d) (pt B10 0) (.slice none 0 0) (pt B11 0) false).toArray)] trivial hS ?_
  refine oD 8 2 (rD (some 35) (pt Y11.heap.size 0) (Y11.alloc (.cells (clc (Me.mk u (rootB (seedB u)) ⟨#[]⟩ ⟨#[]⟩ d) (pt B10 0) (.slice none 0 0) (pt B11 0) false).toArray 61)) (hS.other _) ?_)
  replace hS := hS.other (.cells (clc (Me.mk u (rootB (seedB u)) ⟨#[]⟩ ⟨#[]⟩ d) (pt B10 0) (.slice none 0 0) (pt B11 0) false).toArray 61)
  replace hM := hM.alloc 61 (clc (Me.mk u (rootB (seedB u)) ⟨#[]⟩ ⟨#[]⟩ d) (pt B10 0) (.slice none 0 0) (pt B11 0) false)
  generalize World.alloc _ _ = Y12 at *
  generalize hNe : Y11.heap.size = N12 at *
  clear hNe
  refine tD 0 [.val 9 (some 8) (pt N12 0), .val 10 (some 9) (.int .i64 0)] trivial hS ?_
  refine dD ?_
  try simp only [puts, Tk.put, Act.put, List.setIfInBounds_toArray, List.set_cons_zero, List.set_cons_succ]
  clear hS
  replace hM := hM.nil pgc 83 29
  go_wp2_with fail
  go_ret2
  exact ⟨_, _, _, _, _, _, _, rfl, hM.pick [1, 3, 0, 2] (by decide) rfl⟩
set_option maxRecDepth 100000 in
set_option maxHeartbeats 4000000 in
theorem clNew_no (u d n : Int) (v : Value) (w : World) (hu : ¬ (0 ≤ u ∧ u < 2)) : Calls Try.prog 6 #[.int .i64 u, v, .int .i64 d, .int .i64 n] w fun e W' => e = .returned (.tuple #[.pointer none, .int .i64 4]) ∧ Below w.heap.size w W' := by
  have hmx : Try.prog.follows .mixedOrders = true := by kernel_rfl
  have HU := Lib.hid hu
  clear hu
  have hM := Sep.start w
  go_enter Try.func6, Try.ntmps6
  go_upto_region 0 with fail
  refine wp_region_fromM (fun W => Sep w [] [] W) hM ?_
  clear hM
  rintro Y1 hM
  refine tF 2 [.val 0 (some 8) (.pointer none), .val 1 (some 9) (.int .i64 0)] trivial ?_
  refine dF ?_
  try simp only [puts, Tk.put, Act.put, List.setIfInBounds_toArray, List.set_cons_zero, List.set_cons_succ]
  go_upto_region 1 with fail
  refine wp_region_fromM (fun W => Sep w [] [] W) hM ?_
  clear hM
  rintro Y2 hM
  refine tF 3 [.val 0 (some 11) (.int .i64 u), .val 1 (some 12) (.bool (decide (u < 0))), .val 2 (some 13) (.bool (decide (u < 0)))] trivial ?_
  cases hb1 : decide (u < 0) with
  | false =>
    have Hhb1 := Lib.hid hb1
    clear hb1
    refine tF 6 [.val 3 (some 14) (.int .i64 u), .alt 4 (some 15) (.bool (decide (2 ≤ u))) (.bool true), .val 5 (some 16) (.bool true)] ⟨congrArg Value.bool (decide_eq_true (by have h1 := HU.out; have h2 := of_decide_eq_false Hhb1.out; omega)), trivial⟩ ?_
    refine dF ?_
    try simp only [puts, Tk.put, Act.put, List.setIfInBounds_toArray, List.set_cons_zero, List.set_cons_succ]
    go_upto_region 2 with fail
    refine wp_region_fromM (fun W => Sep w [] [] W) hM ?_
    clear hM
    rintro Y3 hM
    refine tF 2 [.val 0 (some 8) (.pointer none), .val 1 (some 9) (.int .i64 4)] trivial ?_
    refine dF ?_
    try simp only [puts, Tk.put, Act.put, List.setIfInBounds_toArray, List.set_cons_zero, List.set_cons_succ]
    go_wp2_with fail
    go_ret2
    exact ⟨rfl, hM.b⟩
  | true =>
    have Hhb1 := Lib.hid hb1
    clear hb1
    refine tF 6 [.skip 3 (some 14), .skip 4 (some 15), .val 5 (some 16) (.bool true)] trivial ?_
    refine dF ?_
    try simp only [puts, Tk.put, Act.put, List.setIfInBounds_toArray, List.set_cons_zero, List.set_cons_succ]
    go_upto_region 2 with fail
    refine wp_region_fromM (fun W => Sep w [] [] W) hM ?_
    clear hM
    rintro Y4 hM
    refine tF 2 [.val 0 (some 8) (.pointer none), .val 1 (some 9) (.int .i64 4)] trivial ?_
    refine dF ?_
    try simp only [puts, Tk.put, Act.put, List.setIfInBounds_toArray, List.set_cons_zero, List.set_cons_succ]
    go_wp2_with fail
    go_ret2
    exact ⟨rfl, hM.b⟩
end Go.Proofs.Ytbjpifcgnombaaa
namespace Go.Proofs.Ytbjpifcgnombaaa
open Go.RowKit Go.Shelf
structure Ms where
  kd : Int
  ak : Ak
  bd : Bd
  iv : Trf
  vr : Sid
  f0 : Nat
  f1 : Nat
  f2 : Nat
  f3 : Nat
  sg : ByteArray
abbrev msc (m : Ms) : List Value := [.int .i64 m.kd, .int .i64 m.ak.us, .int .i64 m.ak.se, .int .i64 m.ak.re, .int .i64 m.ak.to, .int .u64 (m.ak.a0 : Nat), .int .u64 (m.ak.a1 : Nat), .int .u64 (m.ak.a2 : Nat), .int .u64 (m.ak.a3 : Nat), .string m.ak.id, .int .i64 m.bd.ro, .int .i64 m.bd.k.us, .int .i64 m.bd.k.se, .int .i64 m.bd.k.re, .int .i64 m.bd.k.to, .int .u64 (m.bd.k.a0 : Nat), .int .u64 (m.bd.k.a1 : Nat), .int .u64 (m.bd.k.a2 : Nat), .int .u64 (m.bd.k.a3 : Nat), .string m.bd.k.id, .int .u64 (m.bd.b0 : Nat), .int .u64 (m.bd.b1 : Nat), .int .u64 (m.bd.b2 : Nat), .int .u64 (m.bd.b3 : Nat), .int .i64 m.bd.un, .string m.bd.sg, .int .i64 m.iv.us, .string m.iv.rt, .int .i64 m.iv.ro, .int .i64 m.iv.se, .int .i64 m.iv.re, .int .i64 m.iv.to, .string m.iv.id, .int .u64 (m.vr.a0 : Nat), .int .u64 (m.vr.a1 : Nat), .int .u64 (m.vr.a2 : Nat), .int .u64 (m.vr.a3 : Nat), .int .i64 m.vr.x, .int .u64 (m.f0 : Nat), .int .u64 (m.f1 : Nat), .int .u64 (m.f2 : Nat), .int .u64 (m.f3 : Nat), .string m.sg]
abbrev msv (m : Ms) : Value := .agg (msc m).toArray
def noM : Ms := ⟨0, noA, noB, noI, noV, 0, 0, 0, 0, emptyB⟩
end Go.Proofs.Ytbjpifcgnombaaa
namespace Go.Proofs.Ytbjpifcgnombaaa
open Go.RowKit Go.Shelf
attribute [local irreducible] wpFrom wpAnyH StepH
set_option maxRecDepth 100000 in
set_option maxHeartbeats 4000000 in
theorem find1_any {K : Nat} (i : ByteArray) (x : Pg) (w : World) (hk : Blk w K 9 [.string i]) : Calls Try.prog 29 #[pgv x, .pointer (some ⟨K, 0, none⟩)] w fun e W' => e = .returned (.bool (hasId i x)) ∧ Below w.heap.size w W' := by
  have hmx : Try.prog.follows .mixedOrders = true := by kernel_rfl
  have HK := Lib.hid hk
  clear hk
  have hM := Sep.start w
  go_enter Try.func29, Try.ntmps29
  go_upto_region 0 with fail
  refine wp_region_fromM (fun W => Sep w [] [] W) hM ?_
  clear hM
  rintro Y1 hM
  refine rF (some 2) (pt Y1.heap.size 0) (Y1.alloc (.cells (pgc x).toArray 83)) ?_
  replace hM := hM.alloc 83 (pgc x)
  generalize World.alloc _ _ = Y2 at *
  generalize hNe : Y1.heap.size = N2 at *
  clear hNe
  refine tF 2 [.val 1 (some 3) (.bool false)] trivial ?_
  refine dF ?_
  try simp only [puts, Tk.put, Act.put, List.setIfInBounds_toArray, List.set_cons_zero, List.set_cons_succ]
  go_upto_region 1 with fail
  refine wp_region_fromM (fun W => Sep w [] [.blk N2 83 (pgc x)] W) hM ?_
  clear hM
  rintro Y3 hM
  refine tF 7 [.val 0 (some 4) (pt N2 0), .val 1 (some 5) (pt N2 0), .val 2 (some 6) (pt N2 8), .load 3 (some 7) 9 (pt N2 8) (.string x.dl.k.id), .load 4 (some 8) 9 (pt K 0) (.string i), .val 5 (some 9) (.bool (x.dl.k.id.toList == i.toList)), .val 6 (some 3) (.bool (x.dl.k.id.toList == i.toList))] ⟨ld_any _ _ Try.underlying9 rfl (hM.at 0 rfl) 8 rfl, ld_any _ _ Try.underlying9 rfl (HK.out.below hM.b HK.out.lt) 0 rfl, trivial⟩ ?_
  refine dF ?_
  try simp only [puts, Tk.put, Act.put, List.setIfInBounds_toArray, List.set_cons_zero, List.set_cons_succ]
  go_wp2_with fail
  go_ret
  exact ⟨rfl, hM.b⟩
set_option maxRecDepth 100000 in
set_option maxHeartbeats 4000000 in
theorem find1_idx {K : Nat} (i : ByteArray) (l : List Pg) (v : Value) (w : World) {lo hi : Nat} (hl : RSl pgc lo hi w v l) (hhi : hi ≤ w.heap.size) (hk : Blk w K 9 [.string i]) : Calls Try.prog 28 #[v, .func (.func 29) #[] #[.pointer (some ⟨K, 0, none⟩)]] w fun e W' => e = .returned (.int .i64 (idxG (hasId i) l)) ∧ Below w.heap.size w W' := by
  have hmx : Try.prog.follows .mixedOrders = true := by kernel_rfl
  have HEl := Lib.hid (fun k x (hx : l[k]? = some x) => hl.elem pgc_len hx Try.underlying55 (fun W => by kernel_rfl))
  obtain ⟨pl, cl, rfl⟩ := hl.slice
  have HLl := Lib.hid hl
  have HHl := Lib.hid hhi
  have HLENl := Lib.hid (show l.length ≤ 9223372036854775807 from by have h := hl.len; unfold maxLen at h; omega)
  clear hl hhi
  have HK := Lib.hid hk
  clear hk
  have hM := Sep.start w
  go_enter Try.func28, Try.ntmps28
  go_upto_region 0 with fail
  refine wp_region_fromM (fun W => Sep w [] [] W) hM ?_
  clear hM
  rintro Y1 hM
  refine tF 1 [.val 0 (some 4) (.int .i64 0)] trivial ?_
  refine dF ?_
  try simp only [puts, Tk.put, Act.put, List.setIfInBounds_toArray, List.set_cons_zero, List.set_cons_succ]
  go_upto_region 1 with fail
  refine wp_region_fromM (fun W => Sep w [] [] W) hM ?_
  clear hM
  rintro Y2 hM
  refine tF 3 [.val 0 (some 6) (.slice pl l.length cl), .val 1 (some 7) (.int .i64 (l.length : Int)), .val 2 (some 8) (.int .i64 0)] trivial ?_
  refine dF ?_
  try simp only [puts, Tk.put, Act.put, List.setIfInBounds_toArray, List.set_cons_zero, List.set_cons_succ]
  go_wp2_with fail
  go_loopw [5, 8] (fun _ i' wr => ∃ j : Nat, j ≤ l.length ∧ i' = .int .i64 (j : Int) ∧ (l.take j).any (hasId i) = false ∧ Sep w [] [] wr) (fun _ i' _ => l.length - (intOf i').toNat)
  case atStart => exact ⟨0, Nat.zero_le _, rfl, rfl, hM⟩
  clear hM
  case round =>
    obtain ⟨j, hj, rfl, hno, hM⟩ := hrel
    have HN := Lib.hid hno
    clear hno
    by_cases hlt : j < l.length
    case pos =>
      obtain ⟨x, hx⟩ : ∃ x, l[j]? = some x := ⟨_, List.getElem?_eq_getElem hlt⟩
      obtain ⟨bl, ol, _, _, hit, hct⟩ := HEl.out j x hx
      have HXl := Lib.hid hx
      have HIl := Lib.hid hit
      have HCl := Lib.hid hct
      clear hx hit hct
      have HJ := Lib.hid hlt
      have hlt' : (j : Int) < (l.length : Int) := by omega
      clear hlt
      go_upto_region 2 with fail
      refine wp_region_fromM (fun W => Sep w [] [] W) hM ?_
      clear hM
      rintro Y3 hM
      refine tF 1 [.alt 0 (some 9) (.bool (decide ((j : Int) < (l.length : Int)))) (.bool true)] ⟨congrArg Value.bool (decide_eq_true hlt'), trivial⟩ ?_
      refine dF ?_
      try simp only [puts, Tk.put, Act.put, List.setIfInBounds_toArray, List.set_cons_zero, List.set_cons_succ]
      go_upto_region 3 with fail
      refine wp_region_fromM (fun W => Sep w [] [] W) hM ?_
      clear hM
      rintro Y4 hM
      refine tF 2 [.val 0 (some 10) (.int .i64 (j : Int)), .val 1 (some 5) (.int .i64 (j : Int))] trivial ?_
      refine dF ?_
      try simp only [puts, Tk.put, Act.put, List.setIfInBounds_toArray, List.set_cons_zero, List.set_cons_succ]
      go_upto_region 4 with fail
      refine wp_region_fromM (fun W => Sep w [] [] W) hM ?_
      clear hM
      rintro Y5 hM
      refine tF 5 [.val 0 (some 11) (.func (.func 29) #[] #[.pointer (some ⟨K, 0, none⟩)]), .val 1 (some 12) (.slice pl l.length cl), .val 2 (some 13) (.int .i64 (j : Int)), .idx 3 (some 14) 55 (.slice pl l.length cl) (.int .i64 (j : Int)) (pt bl ol), .load 4 (some 15) 83 (pt bl ol) (pgv x)] ⟨HIl.out _, ld_cells (pgc x) _ _ Try.underlying83 rfl (by kernel_rfl) (HCl.out _ (HLl.out.below hM.b HHl.out)), trivial⟩ ?_
      refine cF (some 16) 29 #[pgv x, .pointer (some ⟨K, 0, none⟩)] ((find1_any i x _ (HK.out.below hM.b HK.out.lt)).mono ?_)
      rintro e Y6 ⟨rfl, hb⟩
      replace hM := hM.below hb
      clear hb
      refine dF ?_
      try simp only [puts, Tk.put, Act.put, List.setIfInBounds_toArray, List.set_cons_zero, List.set_cons_succ]
      cases hb1 : hasId i x with
      | false =>
        have Hhb1 := Lib.hid hb1
        clear hb1
        go_upto_region 6 with fail
        refine wp_region_fromM (fun W => Sep w [] [] W) hM ?_
        clear hM
        rintro Y7 hM
        refine tF 2 [.alt 0 (some 18) (.int .i64 (IntKind.i64.wrap ((j : Int) + 1))) (.int .i64 ((j + 1 : Nat) : Int)), .val 1 (some 8) (.int .i64 ((j + 1 : Nat) : Int))] ⟨congrArg (Value.int .i64) ((IntWalk.i64_in _ (by have := HLENl.out; have := HJ.out; omega)).trans (by omega)), trivial⟩ ?_
        refine dF ?_
        try simp only [puts, Tk.put, Act.put, List.setIfInBounds_toArray, List.set_cons_zero, List.set_cons_succ]
        go_wp2_with fail
        go_roundw
        case rel => exact ⟨j + 1, HJ.out, rfl, by rw [take_anyG HXl.out, HN.out, Hhb1.out]; rfl, hM⟩
        case measure => have := HJ.out; simp [intOf]; omega
      | true =>
        have Hhb1 := Lib.hid hb1
        clear hb1
        go_upto_region 5 with fail
        refine wp_region_fromM (fun W => Sep w [] [] W) hM ?_
        clear hM
        rintro Y8 hM
        refine tF 2 [.val 0 (some 17) (.int .i64 (j : Int)), .val 1 (some 4) (.int .i64 (j : Int))] trivial ?_
        refine dF ?_
        try simp only [puts, Tk.put, Act.put, List.setIfInBounds_toArray, List.set_cons_zero, List.set_cons_succ]
        go_wp2_with fail
        go_ret
        exact ⟨by rw [idxG_at HXl.out Hhb1.out HN.out]; rfl, hM.b⟩
    case neg =>
      obtain rfl : j = l.length := by omega
      go_upto_region 2 with fail
      refine wp_region_fromM (fun W => Sep w [] [] W) hM ?_
      clear hM
      rintro Y9 hM
      refine tF 1 [.alt 0 (some 9) (.bool (decide ((l.length : Int) < (l.length : Int)))) (.bool false)] ⟨congrArg Value.bool (decide_eq_false (by omega)), trivial⟩ ?_
      refine dF ?_
      try simp only [puts, Tk.put, Act.put, List.setIfInBounds_toArray, List.set_cons_zero, List.set_cons_succ]
      go_upto_region 7 with fail
      refine wp_region_fromM (fun W => Sep w [] [] W) hM ?_
      clear hM
      rintro Y10 hM
      refine tF 1 [.val 0 (some 4) (.int .i64 (-1))] trivial ?_
      refine dF ?_
      try simp only [puts, Tk.put, Act.put, List.setIfInBounds_toArray, List.set_cons_zero, List.set_cons_succ]
      go_wp2_with fail
      go_ret
      exact ⟨by rw [idxG_not HN.out]; rfl, hM.b⟩
set_option maxRecDepth 100000 in
set_option maxHeartbeats 4000000 in
theorem clFind_any {C : Nat} {m : Me} {p v q : Value} {dn : Bool} (i : ByteArray) (l : List Pg) (w : World) (hC : Blk w C 61 (clc m p v q dn)) {lo hi : Nat} (hl : RSl pgc lo hi w v l) (hhi : hi ≤ w.heap.size) : Calls Try.prog 18 #[.pointer (some ⟨C, 0, none⟩), .string i] w fun e W' => e = .returned (.int .i64 (idxG (hasId i) l)) ∧ Below w.heap.size w W' := by
  have hmx : Try.prog.follows .mixedOrders = true := by kernel_rfl
  have HEl := Lib.hid (fun k x (hx : l[k]? = some x) => hl.elem pgc_len hx Try.underlying55 (fun W => by kernel_rfl))
  obtain ⟨pl, cl, rfl⟩ := hl.slice
  have HLl := Lib.hid hl
  have HHl := Lib.hid hhi
  have HLENl := Lib.hid (show l.length ≤ 9223372036854775807 from by have h := hl.len; unfold maxLen at h; omega)
  clear hl hhi
  have HC := Lib.hid hC
  clear hC
  have hM := Sep.start w
  go_enter Try.func18, Try.ntmps18
  go_upto_region 0 with fail
  refine wp_region_fromM (fun W => Sep w [] [] W) hM ?_
  clear hM
  rintro Y1 hM
  refine rF (some 3) (pt Y1.heap.size 0) (Y1.alloc (.cells ([.string i]).toArray 9)) ?_
  replace hM := hM.alloc 9 ([.string i])
  generalize World.alloc _ _ = Y2 at *
  generalize hNe : Y1.heap.size = N2 at *
  clear hNe
  refine tF 2 [.val 1 (some 4) (.int .i64 0)] trivial ?_
  refine dF ?_
  try simp only [puts, Tk.put, Act.put, List.setIfInBounds_toArray, List.set_cons_zero, List.set_cons_succ]
  go_upto_region 1 with fail
  refine wp_region_fromM (fun W => Sep w [] [.blk N2 9 ([.string i])] W) hM ?_
  clear hM
  rintro Y3 hM
  refine tF 5 [.val 0 (some 5) (pt C 0), .val 1 (some 6) (pt C 0), .val 2 (some 7) (pt C 6), .load 3 (some 8) 55 (pt C 6) (.slice pl l.length cl), .val 4 (some 9) (.func (.func 29) #[] #[pt N2 0])] ⟨ld_any _ _ Try.underlying55 rfl (HC.out.below hM.b HC.out.lt) 6 rfl, trivial⟩ ?_
  refine cF (some 10) 28 #[.slice pl l.length cl, .func (.func 29) #[] #[pt N2 0]] ((find1_idx i l _ _ (HLl.out.below hM.b HHl.out) (Nat.le_trans HHl.out hM.size) (hM.at 0 rfl)).mono ?_)
  rintro e Y4 ⟨rfl, hb⟩
  replace hM := hM.below hb
  clear hb
  refine tF 7 [.val 6 (some 4) (.int .i64 (idxG (hasId i) l))] trivial ?_
  refine dF ?_
  try simp only [puts, Tk.put, Act.put, List.setIfInBounds_toArray, List.set_cons_zero, List.set_cons_succ]
  go_wp2_with fail
  go_ret
  exact ⟨rfl, hM.b⟩
def msA (a : Ak) : Ms := { noM with kd := 1, ak := a }
def askU (c : Cl) (a : Ak) (now : Int) : Cl × Ms × Int :=
  if c.dn = true then (c, noM, 17) else if a.us ≠ c.me.us then (c, noM, 39) else if 0 ≤ idxG (hasId a.id) c.pg then (c, noM, 32)
  else if (openR c.rm a now).2 ≠ 0 then ({ c with rm := (openR c.rm a now).1 }, noM, (openR c.rm a now).2) else ({ c with rm := (openR c.rm a now).1 }, msA a, 0)
theorem fau_yes {b : Bool} (h : b = true) : (fauI b != 0) = true := by subst h; rfl
theorem fau_no {b : Bool} (h : b = false) : (fauI b != 0) = false := by subst h; rfl
theorem lv_ms {W : World} {B : Nat} {T : TypeId} {x : Ms} (h : Blk W B T (msc x)) : (loadVar 39 ⟨B, 0, none⟩).run Try.prog W = .ok (msv x) W := run_loadVar_row W B T _ (msc x).toArray (0, 0) _ h Try.underlying39 rfl (by kernel_rfl)
section
variable {c : Cl} {a : Ak} {now : Int}
theorem askU_dn (h : c.dn = true) : askU c a now = (c, noM, 17) := if_pos h
theorem askU_us (h : c.dn = false) (h1 : (a.us != c.me.us) = true) : askU c a now = (c, noM, 39) := by unfold askU; rw [h, if_neg Bool.false_ne_true, if_pos (bne_iff_ne.1 h1)]
theorem askU_is (h : c.dn = false) (h1 : (a.us != c.me.us) = false) (h2 : decide (0 ≤ idxG (hasId a.id) c.pg) = true) : askU c a now = (c, noM, 32) := by unfold askU; rw [h, if_neg Bool.false_ne_true, if_neg (by simpa using h1), if_pos (of_decide_eq_true h2)]
theorem askU_no (h : c.dn = false) (h1 : (a.us != c.me.us) = false) (h2 : decide (0 ≤ idxG (hasId a.id) c.pg) = false) (h3 : ((openR c.rm a now).2 != 0) = true) : askU c a now = ({ c with rm := (openR c.rm a now).1 }, noM, (openR c.rm a now).2) := by
  unfold askU; rw [h, if_neg Bool.false_ne_true, if_neg (by simpa using h1), if_neg (of_decide_eq_false h2), if_pos (bne_iff_ne.1 h3)]
theorem askU_ok (h : c.dn = false) (h1 : (a.us != c.me.us) = false) (h2 : decide (0 ≤ idxG (hasId a.id) c.pg) = false) (h3 : ((openR c.rm a now).2 != 0) = false) : askU c a now = ({ c with rm := (openR c.rm a now).1 }, msA a, 0) := by
  unfold askU; rw [h, if_neg Bool.false_ne_true, if_neg (by simpa using h1), if_neg (of_decide_eq_false h2), if_neg (by simpa using h3)]
end
set_option maxRecDepth 100000 in
set_option maxHeartbeats 4000000 in
theorem clAsk_any {C D R : Nat} {c : Cl} {vo vp va vb : Value} (a : Ak) (now : Int) (w : World) (h : ROk (.join (CLR C D R c vo vp va vb)) w) : Calls Try.prog 7 #[.pointer (some ⟨C, 0, none⟩), akv a, .int .i64 now] w (ClR C D R (.join (CLR C D R c vo vp va vb)) (askU c a now).1 (.tuple #[msv (askU c a now).2.1, .int .i64 (askU c a now).2.2]) w) := by
  have hmx : Try.prog.follows .mixedOrders = true := by kernel_rfl
  have hM := Sep.begin h
  obtain ⟨pp, cp, rfl⟩ := (hM.oka 2 rfl).slice pgc_len
  clear h
  replace hM : Sep w (Res.join (CLR C D R c vo (.slice pp c.pg.length cp) va vb)).foot [.blk C 61 (clc c.me (.pointer (some ⟨D, 0, none⟩)) (.slice pp c.pg.length cp) (.pointer (some ⟨R, 0, none⟩)) c.dn), .join (DKR D c.dk vo), .own pgc 83 29 (.slice pp c.pg.length cp) (c.pg), .join (RMR R c.rm va vb)] w := hM
  go_enter Try.func7, Try.ntmps7
  go_upto_region 0 with fail
  refine wp_region_fromM (fun W => Sep w (Res.join (CLR C D R c vo (.slice pp c.pg.length cp) va vb)).foot [.blk C 61 (clc c.me (.pointer (some ⟨D, 0, none⟩)) (.slice pp c.pg.length cp) (.pointer (some ⟨R, 0, none⟩)) c.dn), .join (DKR D c.dk vo), .own pgc 83 29 (.slice pp c.pg.length cp) (c.pg), .join (RMR R c.rm va vb)] W) hM ?_
  clear hM
  rintro Y1 hM
  refine rF (some 4) (pt Y1.heap.size 0) (Y1.alloc (.cells (akc a).toArray 26)) ?_
  replace hM := hM.alloc 26 (akc a)
  generalize World.alloc _ _ = Y2 at *
  generalize hNe : Y1.heap.size = N2 at *
  clear hNe
  refine rF (some 6) (pt Y2.heap.size 0) (Y2.alloc (.cells (msc noM).toArray 39)) ?_
  replace hM := hM.alloc 39 (msc noM)
  generalize World.alloc _ _ = Y3 at *
  generalize hNe : Y2.heap.size = N3 at *
  clear hNe
  refine tF 3 [.val 2 (some 7) (.int .i64 0)] trivial ?_
  refine dF ?_
  try simp only [puts, Tk.put, Act.put, List.setIfInBounds_toArray, List.set_cons_zero, List.set_cons_succ]
  go_upto_region 1 with fail
  refine wp_region_fromM (fun W => Sep w (Res.join (CLR C D R c vo (.slice pp c.pg.length cp) va vb)).foot [.blk N3 39 (msc noM), .blk N2 26 (akc a), .blk C 61 (clc c.me (.pointer (some ⟨D, 0, none⟩)) (.slice pp c.pg.length cp) (.pointer (some ⟨R, 0, none⟩)) c.dn), .join (DKR D c.dk vo), .own pgc 83 29 (.slice pp c.pg.length cp) (c.pg), .join (RMR R c.rm va vb)] W) hM ?_
  clear hM
  rintro Y4 hM
  refine tF 1 [.val 0 (some 10) (pt C 0)] trivial ?_
  cases hb1 : c.dn with
  | false =>
    have Hhb1 := Lib.hid hb1
    clear hb1
    refine cF (some 11) 17 #[pt C 0] ((clFault_any _ (hM.at 2 rfl)).mono ?_)
    rintro e Y5 ⟨rfl, hb⟩
    replace hM := hM.below hb
    clear hb
    refine tF 3 [.val 2 (some 8) (.int .i64 (fauI c.dn))] trivial ?_
    refine dF ?_
    try simp only [puts, Tk.put, Act.put, List.setIfInBounds_toArray, List.set_cons_zero, List.set_cons_succ]
    go_upto_region 2 with fail
    refine wp_region_fromM (fun W => Sep w (Res.join (CLR C D R c vo (.slice pp c.pg.length cp) va vb)).foot [.blk N3 39 (msc noM), .blk N2 26 (akc a), .blk C 61 (clc c.me (.pointer (some ⟨D, 0, none⟩)) (.slice pp c.pg.length cp) (.pointer (some ⟨R, 0, none⟩)) c.dn), .join (DKR D c.dk vo), .own pgc 83 29 (.slice pp c.pg.length cp) (c.pg), .join (RMR R c.rm va vb)] W) hM ?_
    clear hM
    rintro Y6 hM
    refine tF 2 [.val 0 (some 12) (.int .i64 (fauI c.dn)), .alt 1 (some 13) (.bool ((fauI c.dn) != 0)) (.bool false)] ⟨congrArg Value.bool (fau_no Hhb1.out), trivial⟩ ?_
    refine dF ?_
    try simp only [puts, Tk.put, Act.put, List.setIfInBounds_toArray, List.set_cons_zero, List.set_cons_succ]
    go_upto_region 4 with fail
    refine wp_region_M (fun W => Sep w (Res.join (CLR C D R c vo (.slice pp c.pg.length cp) va vb)).foot [.blk N3 39 (msc noM), .blk N2 26 (akc a), .blk C 61 (clc c.me (.pointer (some ⟨D, 0, none⟩)) (.slice pp c.pg.length cp) (.pointer (some ⟨R, 0, none⟩)) c.dn), .join (DKR D c.dk vo), .own pgc 83 29 (.slice pp c.pg.length cp) (c.pg), .join (RMR R c.rm va vb)] W) (fun W => Sep w (Res.join (CLR C D R c vo (.slice pp c.pg.length cp) va vb)).foot [.blk N3 39 (msc noM), .blk N2 26 (akc a), .blk C 61 (clc c.me (.pointer (some ⟨D, 0, none⟩)) (.slice pp c.pg.length cp) (.pointer (some ⟨R, 0, none⟩)) c.dn), .join (DKR D c.dk vo), .own pgc 83 29 (.slice pp c.pg.length cp) (c.pg), .join (RMR R c.rm va vb)] W) hmx hM.drew ?_
    clear hM
    rintro Y7 hM
    have hS := hM.sub (.cons_cons _ (.cons_cons _ (.cons_cons _ (.cons_cons _ (.cons_cons _ (.cons_cons _ .slnil))))))
    refine tD 0 [.val 0 (some 16) (pt N2 0), .load 1 (some 17) 3 (pt N2 0) (.int .i64 a.us), .val 2 (some 18) (pt C 0), .val 3 (some 19) (pt C 0), .val 4 (some 20) (pt C 0), .val 5 (some 21) (pt C 0), .val 6 (some 22) (pt C 0), .load 7 (some 23) 3 (pt C 0) (.int .i64 c.me.us), .val 8 (some 24) (.bool (a.us != c.me.us))] ⟨fun W h => ld_any _ _ Try.underlying3 rfl (h.at 1 rfl) 0 rfl, fun W h => ld_any _ _ Try.underlying3 rfl (h.at 2 rfl) 0 rfl, trivial⟩ hS ?_
    refine dD ?_
    try simp only [puts, Tk.put, Act.put, List.setIfInBounds_toArray, List.set_cons_zero, List.set_cons_succ]
    clear hS
    cases hb2 : a.us != c.me.us with
    | false =>
      have Hhb2 := Lib.hid hb2
      clear hb2
      go_upto_region 6 with fail
      refine wp_region_M (fun W => Sep w (Res.join (CLR C D R c vo (.slice pp c.pg.length cp) va vb)).foot [.blk N3 39 (msc noM), .blk N2 26 (akc a), .blk C 61 (clc c.me (.pointer (some ⟨D, 0, none⟩)) (.slice pp c.pg.length cp) (.pointer (some ⟨R, 0, none⟩)) c.dn), .join (DKR D c.dk vo), .own pgc 83 29 (.slice pp c.pg.length cp) (c.pg), .join (RMR R c.rm va vb)] W) (fun W => Sep w (Res.join (CLR C D R c vo (.slice pp c.pg.length cp) va vb)).foot [.blk N3 39 (msc noM), .blk N2 26 (akc a), .blk C 61 (clc c.me (.pointer (some ⟨D, 0, none⟩)) (.slice pp c.pg.length cp) (.pointer (some ⟨R, 0, none⟩)) c.dn), .join (DKR D c.dk vo), .own pgc 83 29 (.slice pp c.pg.length cp) (c.pg), .join (RMR R c.rm va vb)] W) hmx hM.drew ?_
      clear hM
      rintro Y8 hM
      have hS := hM.sub (.cons_cons _ (.cons_cons _ (.cons_cons _ (.cons_cons _ (.cons_cons _ (.cons_cons _ .slnil))))))
      refine tD 2 [.val 0 (some 26) (pt C 0), .val 1 (some 27) (pt C 0), .val 2 (some 28) (pt C 0), .val 3 (some 29) (pt N2 8), .load 4 (some 30) 9 (pt N2 8) (.string a.id)] ⟨fun W h => ld_any _ _ Try.underlying9 rfl (h.at 1 rfl) 8 rfl, trivial⟩ hS ?_
      refine oD 5 1 (cD (some 31) 18 #[pt C 0, .string a.id] ((clFind_any a.id c.pg _ (hM.at 2 rfl) ((hM.oka 4 rfl).rsl pgc_len) (Nat.le_refl _)).mono ?_))
      rintro e Y9 ⟨rfl, hb⟩
      refine And.intro (hS.below hb) ?_
      replace hS := hS.below hb
      replace hM := hM.below hb
      clear hb
      refine tD 0 [.val 6 (some 32) (.bool (decide (0 ≤ (idxG (hasId a.id) c.pg))))] trivial hS ?_
      refine dD ?_
      try simp only [puts, Tk.put, Act.put, List.setIfInBounds_toArray, List.set_cons_zero, List.set_cons_succ]
      clear hS
      cases hb3 : decide (0 ≤ (idxG (hasId a.id) c.pg)) with
      | false =>
        have Hhb3 := Lib.hid hb3
        clear hb3
        go_upto_region 8 with fail
        refine wp_region_M (fun W => Sep w (Res.join (CLR C D R c vo (.slice pp c.pg.length cp) va vb)).foot [.blk N3 39 (msc noM), .blk N2 26 (akc a), .blk C 61 (clc c.me (.pointer (some ⟨D, 0, none⟩)) (.slice pp c.pg.length cp) (.pointer (some ⟨R, 0, none⟩)) c.dn), .join (DKR D c.dk vo), .own pgc 83 29 (.slice pp c.pg.length cp) (c.pg)] W) (fun W => Sep w (Res.join (CLR C D R c vo (.slice pp c.pg.length cp) va vb)).foot [.blk N3 39 (msc noM), .blk N2 26 (akc a), .blk C 61 (clc c.me (.pointer (some ⟨D, 0, none⟩)) (.slice pp c.pg.length cp) (.pointer (some ⟨R, 0, none⟩)) c.dn), .join (DKR D c.dk vo), .own pgc 83 29 (.slice pp c.pg.length cp) (c.pg), .join (RMR R c.rm va vb)] W) hmx hM.drew ?_
        clear hM
        rintro Y10 hM
        have hS := hM.sub (.cons_cons _ (.cons_cons _ (.cons_cons _ (.cons_cons _ (.cons_cons _ (.cons _ .slnil))))))
        refine tD 2 [.val 0 (some 34) (pt C 0), .val 1 (some 35) (pt C 0), .val 2 (some 36) (pt C 7), .load 3 (some 37) 58 (pt C 7) (.pointer (some ⟨R, 0, none⟩)), .load 4 (some 38) 26 (pt N2 0) (akv a), .val 5 (some 39) (.int .i64 now)] ⟨fun W h => ld_any _ _ Try.underlying58 rfl (h.at 2 rfl) 7 rfl, fun W h => load_part (h.at 1 rfl) 0 (akc a) rfl _ _ Try.underlying26 rfl (by kernel_rfl), trivial⟩ hS ?_
        refine oD 6 1 (cD (some 40) 19 #[pt R 0, akv a, .int .i64 now] ((rmOpen_any a now _ (hM.oka 5 rfl)).mono ?_))
        rintro e Y11 ⟨rfl, va11, vb11, hT⟩
        have hM1 := hM.turn 5 rfl hT rfl
        clear hT
        refine And.intro (hM1.sub (.cons_cons _ (.cons_cons _ (.cons_cons _ (.cons_cons _ (.cons_cons _ (.cons _ .slnil))))))) ?_
        replace hS := hM1.sub (.cons_cons _ (.cons_cons _ (.cons_cons _ (.cons_cons _ (.cons_cons _ (.cons _ .slnil))))))
        replace hM := hM1
        clear hM1
        refine tD 0 [.val 7 (some 9) (.int .i64 (openR c.rm a now).2)] trivial hS ?_
        refine dD ?_
        try simp only [puts, Tk.put, Act.put, List.setIfInBounds_toArray, List.set_cons_zero, List.set_cons_succ]
        clear hS
        go_upto_region 9 with fail
        refine wp_region_fromM (fun W => Sep w (Res.join (CLR C D R c vo (.slice pp c.pg.length cp) va vb)).foot [.blk N3 39 (msc noM), .blk N2 26 (akc a), .blk C 61 (clc c.me (.pointer (some ⟨D, 0, none⟩)) (.slice pp c.pg.length cp) (.pointer (some ⟨R, 0, none⟩)) c.dn), .join (DKR D c.dk vo), .own pgc 83 29 (.slice pp c.pg.length cp) (c.pg), .join (RMR R (openR c.rm a now).1 va11 vb11)] W) hM ?_
        clear hM
        rintro Y12 hM
        refine tF 2 [.val 0 (some 41) (.int .i64 (openR c.rm a now).2), .val 1 (some 42) (.bool ((openR c.rm a now).2 != 0))] trivial ?_
        refine dF ?_
        try simp only [puts, Tk.put, Act.put, List.setIfInBounds_toArray, List.set_cons_zero, List.set_cons_succ]
        cases hb4 : (openR c.rm a now).2 != 0 with
        | false =>
          have Hhb4 := Lib.hid hb4
          clear hb4
          go_upto_region 11 with fail
          refine wp_region_fromM (fun W => Sep w (Res.join (CLR C D R c vo (.slice pp c.pg.length cp) va vb)).foot [.blk N3 39 (msc noM), .blk N2 26 (akc a), .blk C 61 (clc c.me (.pointer (some ⟨D, 0, none⟩)) (.slice pp c.pg.length cp) (.pointer (some ⟨R, 0, none⟩)) c.dn), .join (DKR D c.dk vo), .own pgc 83 29 (.slice pp c.pg.length cp) (c.pg), .join (RMR R (openR c.rm a now).1 va11 vb11)] W) hM ?_
          clear hM
          rintro Y13 hM
          refine tF 2 [.load 0 (some 45) 26 (pt N2 0) (akv a), .val 1 (some 46) (msv ({ noM with kd := 1, ak := a }))] ⟨load_part (hM.at 1 rfl) 0 (akc a) rfl _ _ Try.underlying26 rfl (by kernel_rfl), trivial⟩ ?_
          have hst := sto_part (msc ({ noM with kd := 1, ak := a })) (hM.at 0 rfl) 0 39 (msv ({ noM with kd := 1, ak := a })) (msc ({ noM with kd := 1, ak := a })) rfl (by kernel_rfl) (Nat.le_of_ble_eq_true rfl) rfl rfl
          refine sF 39 (pt N3 0) (msv ({ noM with kd := 1, ak := a })) (hst) ?_
          clear hst
          replace hM := hM.set 0 (cs' := msc ({ noM with kd := 1, ak := a })) rfl rfl
          generalize World.setRow _ _ _ = Y14 at *
          refine tF 4 [.val 3 (some 7) (.int .i64 0)] trivial ?_
          refine dF ?_
          try simp only [puts, Tk.put, Act.put, List.setIfInBounds_toArray, List.set_cons_zero, List.set_cons_succ]
          have hfin : Sep w (Res.join (CLR C D R c vo (.slice pp c.pg.length cp) va vb)).foot [.blk C 61 (clc c.me (.pointer (some ⟨D, 0, none⟩)) (.slice pp c.pg.length cp) (.pointer (some ⟨R, 0, none⟩)) c.dn), .join (DKR D c.dk vo), .own pgc 83 29 (.slice pp c.pg.length cp) (c.pg), .join (RMR R (openR c.rm a now).1 va11 vb11)] Y14 := hM.pick [2, 3, 4, 5] (by decide) rfl
          go_wp2_with fail
          exact bodyPost_ret (v := .tuple #[msv ({ noM with kd := 1, ak := a }), .int .i64 0]) (res_two rfl _ rfl rfl (lv_ms (hM.at 0 rfl))) rfl (by rw [askU_ok Hhb1.out Hhb2.out Hhb3.out Hhb4.out]; exact ⟨rfl, _, _, _, _, hfin.fin (List.Sublist.refl _)⟩)
        | true =>
          have Hhb4 := Lib.hid hb4
          clear hb4
          go_upto_region 10 with fail
          refine wp_region_fromM (fun W => Sep w (Res.join (CLR C D R c vo (.slice pp c.pg.length cp) va vb)).foot [.blk N3 39 (msc noM), .blk N2 26 (akc a), .blk C 61 (clc c.me (.pointer (some ⟨D, 0, none⟩)) (.slice pp c.pg.length cp) (.pointer (some ⟨R, 0, none⟩)) c.dn), .join (DKR D c.dk vo), .own pgc 83 29 (.slice pp c.pg.length cp) (c.pg), .join (RMR R (openR c.rm a now).1 va11 vb11)] W) hM ?_
          clear hM
          rintro Y15 hM
          refine tF 2 [.val 0 (some 43) (msv noM), .val 1 (some 44) (.int .i64 (openR c.rm a now).2)] trivial ?_
          have hst := sto_part (msc noM) (hM.at 0 rfl) 0 39 (msv noM) (msc noM) rfl (by kernel_rfl) (Nat.le_of_ble_eq_true rfl) rfl rfl
          refine sF 39 (pt N3 0) (msv noM) (hst) ?_
          clear hst
          replace hM := hM.set 0 (cs' := msc noM) rfl rfl
          generalize World.setRow _ _ _ = Y16 at *
          refine tF 4 [.val 3 (some 7) (.int .i64 (openR c.rm a now).2)] trivial ?_
          refine dF ?_
          try simp only [puts, Tk.put, Act.put, List.setIfInBounds_toArray, List.set_cons_zero, List.set_cons_succ]
          have hfin : Sep w (Res.join (CLR C D R c vo (.slice pp c.pg.length cp) va vb)).foot [.blk C 61 (clc c.me (.pointer (some ⟨D, 0, none⟩)) (.slice pp c.pg.length cp) (.pointer (some ⟨R, 0, none⟩)) c.dn), .join (DKR D c.dk vo), .own pgc 83 29 (.slice pp c.pg.length cp) (c.pg), .join (RMR R (openR c.rm a now).1 va11 vb11)] Y16 := hM.pick [2, 3, 4, 5] (by decide) rfl
          go_wp2_with fail
          exact bodyPost_ret (v := .tuple #[msv noM, .int .i64 (openR c.rm a now).2]) (res_two rfl _ rfl rfl (lv_ms (hM.at 0 rfl))) rfl (by rw [askU_no Hhb1.out Hhb2.out Hhb3.out Hhb4.out]; exact ⟨rfl, _, _, _, _, hfin.fin (List.Sublist.refl _)⟩)
      | true =>
        have Hhb3 := Lib.hid hb3
        clear hb3
        go_upto_region 7 with fail
        refine wp_region_fromM (fun W => Sep w (Res.join (CLR C D R c vo (.slice pp c.pg.length cp) va vb)).foot [.blk N3 39 (msc noM), .blk N2 26 (akc a), .blk C 61 (clc c.me (.pointer (some ⟨D, 0, none⟩)) (.slice pp c.pg.length cp) (.pointer (some ⟨R, 0, none⟩)) c.dn), .join (DKR D c.dk vo), .own pgc 83 29 (.slice pp c.pg.length cp) (c.pg), .join (RMR R c.rm va vb)] W) hM ?_
        clear hM
        rintro Y17 hM
        refine tF 1 [.val 0 (some 33) (msv noM)] trivial ?_
        have hst := sto_part (msc noM) (hM.at 0 rfl) 0 39 (msv noM) (msc noM) rfl (by kernel_rfl) (Nat.le_of_ble_eq_true rfl) rfl rfl
        refine sF 39 (pt N3 0) (msv noM) (hst) ?_
        clear hst
        replace hM := hM.set 0 (cs' := msc noM) rfl rfl
        generalize World.setRow _ _ _ = Y18 at *
        refine tF 3 [.val 2 (some 7) (.int .i64 32)] trivial ?_
        refine dF ?_
        try simp only [puts, Tk.put, Act.put, List.setIfInBounds_toArray, List.set_cons_zero, List.set_cons_succ]
        have hfin : Sep w (Res.join (CLR C D R c vo (.slice pp c.pg.length cp) va vb)).foot [.blk C 61 (clc c.me (.pointer (some ⟨D, 0, none⟩)) (.slice pp c.pg.length cp) (.pointer (some ⟨R, 0, none⟩)) c.dn), .join (DKR D c.dk vo), .own pgc 83 29 (.slice pp c.pg.length cp) (c.pg), .join (RMR R c.rm va vb)] Y18 := hM.pick [2, 3, 4, 5] (by decide) rfl
        go_wp2_with fail
        exact bodyPost_ret (v := .tuple #[msv noM, .int .i64 32]) (res_two rfl _ rfl rfl (lv_ms (hM.at 0 rfl))) rfl (by rw [askU_is Hhb1.out Hhb2.out Hhb3.out]; exact ⟨rfl, _, _, _, _, hfin.fin (List.Sublist.refl _)⟩)
    | true =>
      have Hhb2 := Lib.hid hb2
      clear hb2
      go_upto_region 5 with fail
      refine wp_region_fromM (fun W => Sep w (Res.join (CLR C D R c vo (.slice pp c.pg.length cp) va vb)).foot [.blk N3 39 (msc noM), .blk N2 26 (akc a), .blk C 61 (clc c.me (.pointer (some ⟨D, 0, none⟩)) (.slice pp c.pg.length cp) (.pointer (some ⟨R, 0, none⟩)) c.dn), .join (DKR D c.dk vo), .own pgc 83 29 (.slice pp c.pg.length cp) (c.pg), .join (RMR R c.rm va vb)] W) hM ?_
      clear hM
      rintro Y19 hM
      refine tF 1 [.val 0 (some 25) (msv noM)] trivial ?_
      have hst := sto_part (msc noM) (hM.at 0 rfl) 0 39 (msv noM) (msc noM) rfl (by kernel_rfl) (Nat.le_of_ble_eq_true rfl) rfl rfl
      refine sF 39 (pt N3 0) (msv noM) (hst) ?_
      clear hst
      replace hM := hM.set 0 (cs' := msc noM) rfl rfl
      generalize World.setRow _ _ _ = Y20 at *
      refine tF 3 [.val 2 (some 7) (.int .i64 39)] trivial ?_
      refine dF ?_
      try simp only [puts, Tk.put, Act.put, List.setIfInBounds_toArray, List.set_cons_zero, List.set_cons_succ]
      have hfin : Sep w (Res.join (CLR C D R c vo (.slice pp c.pg.length cp) va vb)).foot [.blk C 61 (clc c.me (.pointer (some ⟨D, 0, none⟩)) (.slice pp c.pg.length cp) (.pointer (some ⟨R, 0, none⟩)) c.dn), .join (DKR D c.dk vo), .own pgc 83 29 (.slice pp c.pg.length cp) (c.pg), .join (RMR R c.rm va vb)] Y20 := hM.pick [2, 3, 4, 5] (by decide) rfl
      go_wp2_with fail
      exact bodyPost_ret (v := .tuple #[msv noM, .int .i64 39]) (res_two rfl _ rfl rfl (lv_ms (hM.at 0 rfl))) rfl (by rw [askU_us Hhb1.out Hhb2.out]; exact ⟨rfl, _, _, _, _, hfin.fin (List.Sublist.refl _)⟩)
  | true =>
    have Hhb1 := Lib.hid hb1
    clear hb1
    refine cF (some 11) 17 #[pt C 0] ((clFault_any _ (hM.at 2 rfl)).mono ?_)
    rintro e Y21 ⟨rfl, hb⟩
    replace hM := hM.below hb
    clear hb
    refine tF 3 [.val 2 (some 8) (.int .i64 (fauI c.dn))] trivial ?_
    refine dF ?_
    try simp only [puts, Tk.put, Act.put, List.setIfInBounds_toArray, List.set_cons_zero, List.set_cons_succ]
    go_upto_region 2 with fail
    refine wp_region_fromM (fun W => Sep w (Res.join (CLR C D R c vo (.slice pp c.pg.length cp) va vb)).foot [.blk N3 39 (msc noM), .blk N2 26 (akc a), .blk C 61 (clc c.me (.pointer (some ⟨D, 0, none⟩)) (.slice pp c.pg.length cp) (.pointer (some ⟨R, 0, none⟩)) c.dn), .join (DKR D c.dk vo), .own pgc 83 29 (.slice pp c.pg.length cp) (c.pg), .join (RMR R c.rm va vb)] W) hM ?_
    clear hM
    rintro Y22 hM
    refine tF 2 [.val 0 (some 12) (.int .i64 (fauI c.dn)), .alt 1 (some 13) (.bool ((fauI c.dn) != 0)) (.bool true)] ⟨congrArg Value.bool (fau_yes Hhb1.out), trivial⟩ ?_
    refine dF ?_
    try simp only [puts, Tk.put, Act.put, List.setIfInBounds_toArray, List.set_cons_zero, List.set_cons_succ]
    go_upto_region 3 with fail
    refine wp_region_fromM (fun W => Sep w (Res.join (CLR C D R c vo (.slice pp c.pg.length cp) va vb)).foot [.blk N3 39 (msc noM), .blk N2 26 (akc a), .blk C 61 (clc c.me (.pointer (some ⟨D, 0, none⟩)) (.slice pp c.pg.length cp) (.pointer (some ⟨R, 0, none⟩)) c.dn), .join (DKR D c.dk vo), .own pgc 83 29 (.slice pp c.pg.length cp) (c.pg), .join (RMR R c.rm va vb)] W) hM ?_
    clear hM
    rintro Y23 hM
    refine tF 2 [.val 0 (some 14) (msv noM), .val 1 (some 15) (.int .i64 (fauI c.dn))] trivial ?_
    have hst := sto_part (msc noM) (hM.at 0 rfl) 0 39 (msv noM) (msc noM) rfl (by kernel_rfl) (Nat.le_of_ble_eq_true rfl) rfl rfl
    refine sF 39 (pt N3 0) (msv noM) (hst) ?_
    clear hst
    replace hM := hM.set 0 (cs' := msc noM) rfl rfl
    generalize World.setRow _ _ _ = Y24 at *
    refine tF 4 [.val 3 (some 7) (.int .i64 (fauI c.dn))] trivial ?_
    refine dF ?_
    try simp only [puts, Tk.put, Act.put, List.setIfInBounds_toArray, List.set_cons_zero, List.set_cons_succ]
    have hfin : Sep w (Res.join (CLR C D R c vo (.slice pp c.pg.length cp) va vb)).foot [.blk C 61 (clc c.me (.pointer (some ⟨D, 0, none⟩)) (.slice pp c.pg.length cp) (.pointer (some ⟨R, 0, none⟩)) c.dn), .join (DKR D c.dk vo), .own pgc 83 29 (.slice pp c.pg.length cp) (c.pg), .join (RMR R c.rm va vb)] Y24 := hM.pick [2, 3, 4, 5] (by decide) rfl
    go_wp2_with fail
    exact bodyPost_ret (v := .tuple #[msv noM, .int .i64 (fauI c.dn)]) (res_two rfl _ rfl rfl (lv_ms (hM.at 0 rfl))) rfl (by rw [askU_dn Hhb1.out]; exact ⟨(by rw [show fauI c.dn = 17 from if_pos (Hhb1.out)]), _, _, _, _, hfin.fin (List.Sublist.refl _)⟩)
end Go.Proofs.Ytbjpifcgnombaaa
