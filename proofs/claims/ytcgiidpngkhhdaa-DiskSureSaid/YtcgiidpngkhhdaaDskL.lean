/-
  The laws of disks: the page's example; what is sure lasts; of what nobody made nothing is told.
-/
import Derived.Test.YtcgiidpngkhhdaaDskF
namespace Go.Proofs.Ytcgiidpngkhhdaa
open Go.RowKit Go.Shelf
attribute [local irreducible] wpFrom wpAnyH StepH

theorem slice_tx (l : List UInt8) {k : Nat} (hk : k ≤ l.length) (W : World) : (Instr.sliceAt 9 (.string (txB l)) none (some (.int .i64 (k : Int))) none).run Try.prog W = .ok (.string (txB (l.take k))) W := by
  rw [run_sliceAt_string W _ _ _ _ _ Try.underlying9, run_slice_string_h W _ _ Try.underlying9 .i64 (k : Int) (by omega) (by rw [txB_size]; omega)]
  have e : (txB l).extract 0 ((k : Int)).toNat = txB (l.take k) := by
    rw [Int.toNat_natCast]
    apply ByteArray.ext
    simp [txB, ByteArray.data_extract]
  rw [e]
theorem eqTx {a b : List UInt8} (h : a = b) : ((txB a).toList == (txB b).toList) = true := by rw [h]; exact beq_self_eq_true _
set_option maxRecDepth 100000 in
set_option maxHeartbeats 4000000 in
theorem alive15_any (w : World) : Calls Try.prog 6 #[] w fun e W' => e = .returned (.bool true) ∧ Below w.heap.size w W' := by
  have hmx : Try.prog.follows .mixedOrders = true := by kernel_rfl
  have hM := Sep.start w
  go_enter Try.func6, Try.ntmps6
  go_upto_region 0 with fail
  refine wp_region_fromM (fun W => Sep w [] [] W) hM ?_
  clear hM
  rintro Y1 hM
  refine tF 1 [.val 0 (some 0) (.bool false)] trivial ?_
  refine dF ?_
  try simp only [puts, Tk.put, Act.put, List.setIfInBounds_toArray, List.set_cons_zero]
  go_upto_region 1 with fail
  refine wp_region_fromM (fun W => Sep w [] [] W) hM ?_
  clear hM
  rintro Y2 hM
  refine cF (some 4) 7 #[.int .i64 9] ((dkNew_any 9 _).mono ?_)
  rintro e Y3 ⟨B3, v3, rfl, hR⟩
  replace hM := hM.gain (Sep.close (ps := DKR B3 (newD 9) v3) (l := []) hR)
  clear hR
  refine tF 2 [.val 1 (some 1) (pt B3 0)] trivial ?_
  refine dF ?_
  try simp only [puts, Tk.put, Act.put, List.setIfInBounds_toArray, List.set_cons_zero, List.set_cons_succ]
  go_upto_region 2 with fail
  refine wp_region_fromM (fun W => Sep w [] [.join (DKR B3 (newD 9) v3)] W) hM ?_
  clear hM
  rintro Y4 hM
  refine tF 1 [.val 0 (some 5) (pt B3 0)] trivial ?_
  obtain ⟨Y5, hcv, hb, hL⟩ := cvL Y4 [97, 98]
  refine rF (some 6) (.slice (some ⟨Y4.heap.size, 0, none⟩) ([97, 98] : List UInt8).length ([97, 98] : List UInt8).length) (Y4.alloc (.cells (([97, 98] : List UInt8).map bv).toArray 5)) ?_
  refine cvF (.tmp 6) (some 7) (.slice (some ⟨Y4.heap.size, 0, none⟩) ([97, 98] : List UInt8).length ([97, 98] : List UInt8).length) (.slice (some ⟨Y4.heap.size, 0, none⟩) ([97, 98] : List UInt8).length ([97, 98] : List UInt8).length) hcv ?_
  have hBY5 := BF.new (hM.oka 0 rfl) hL
  replace hM := hM.below hb
  clear hcv hb hL
  have hq := dkWrite_any [97, 98] _ (hM.oka 0 rfl) (new_ok 9) (hBY5)
  refine cF (some 8) 8 #[pt B3 0, .slice (some ⟨Y4.heap.size, 0, none⟩) ([97, 98] : List UInt8).length ([97, 98] : List UInt8).length] ((hq).mono ?_)
  rintro e Y6 ⟨rfl, v6, hT⟩
  clear hq
  replace hM := hM.turn 0 rfl hT rfl
  clear hT
  refine tF 5 [.val 4 (some 2) (.int .i64 (writeD (newD 9) [97, 98]).2)] trivial ?_
  refine dF ?_
  try simp only [puts, Tk.put, Act.put, List.setIfInBounds_toArray, List.set_cons_zero, List.set_cons_succ]
  go_upto_region 3 with fail
  refine wp_region_fromM (fun W => Sep w [] [.join (DKR B3 (writeD (newD 9) [97, 98]).1 v6)] W) hM ?_
  clear hM
  rintro Y7 hM
  refine tF 1 [.val 0 (some 9) (pt B3 0)] trivial ?_
  have hq := dkSync_any _ (hM.oka 0 rfl) (write_ok (new_ok 9) [97, 98])
  refine cF (some 10) 9 #[pt B3 0] ((hq).mono ?_)
  rintro e Y8 ⟨rfl, v8, hT⟩
  clear hq
  replace hM := hM.turn 0 rfl hT rfl
  clear hT
  refine dF ?_
  try simp only [puts, Tk.put, Act.put, List.setIfInBounds_toArray, List.set_cons_zero, List.set_cons_succ]
  go_upto_region 4 with fail
  refine wp_region_fromM (fun W => Sep w [] [.join (DKR B3 (sureD (writeD (newD 9) [97, 98]).1) v8)] W) hM ?_
  clear hM
  rintro Y9 hM
  refine tF 1 [.val 0 (some 11) (pt B3 0)] trivial ?_
  obtain ⟨Y10, hcv, hb, hL⟩ := cvL Y9 [99, 100]
  refine rF (some 12) (.slice (some ⟨Y9.heap.size, 0, none⟩) ([99, 100] : List UInt8).length ([99, 100] : List UInt8).length) (Y9.alloc (.cells (([99, 100] : List UInt8).map bv).toArray 5)) ?_
  refine cvF (.tmp 12) (some 13) (.slice (some ⟨Y9.heap.size, 0, none⟩) ([99, 100] : List UInt8).length ([99, 100] : List UInt8).length) (.slice (some ⟨Y9.heap.size, 0, none⟩) ([99, 100] : List UInt8).length ([99, 100] : List UInt8).length) hcv ?_
  have hBY10 := BF.new (hM.oka 0 rfl) hL
  replace hM := hM.below hb
  clear hcv hb hL
  have hq := dkWrite_any [99, 100] _ (hM.oka 0 rfl) (sure_ok (write_ok (new_ok 9) [97, 98])) (hBY10)
  refine cF (some 14) 8 #[pt B3 0, .slice (some ⟨Y9.heap.size, 0, none⟩) ([99, 100] : List UInt8).length ([99, 100] : List UInt8).length] ((hq).mono ?_)
  rintro e Y11 ⟨rfl, v11, hT⟩
  clear hq
  replace hM := hM.turn 0 rfl hT rfl
  clear hT
  refine tF 5 [.val 4 (some 3) (.int .i64 (writeD (sureD (writeD (newD 9) [97, 98]).1) [99, 100]).2)] trivial ?_
  refine dF ?_
  try simp only [puts, Tk.put, Act.put, List.setIfInBounds_toArray, List.set_cons_zero, List.set_cons_succ]
  go_upto_region 5 with fail
  refine wp_region_fromM (fun W => Sep w [] [.join (DKR B3 (writeD (sureD (writeD (newD 9) [97, 98]).1) [99, 100]).1 v11)] W) hM ?_
  clear hM
  rintro Y12 hM
  refine tF 1 [.val 0 (some 15) (pt B3 0)] trivial ?_
  have hq := dkFall_any 1 _ (hM.oka 0 rfl) (write_ok (sure_ok (write_ok (new_ok 9) [97, 98])) [99, 100])
  refine cF (some 16) 10 #[pt B3 0, .int .i64 1] ((hq).mono ?_)
  rintro e Y13 ⟨rfl, v13, hT⟩
  clear hq
  replace hM := hM.turn 0 rfl hT rfl
  clear hT
  refine dF ?_
  try simp only [puts, Tk.put, Act.put, List.setIfInBounds_toArray, List.set_cons_zero, List.set_cons_succ]
  go_upto_region 6 with fail
  refine wp_region_fromM (fun W => Sep w [] [.join (DKR B3 (leaveD (writeD (sureD (writeD (newD 9) [97, 98]).1) [99, 100]).1 (keepN (writeD (sureD (writeD (newD 9) [97, 98]).1) [99, 100]).1 1)) v13)] W) hM ?_
  clear hM
  rintro Y14 hM
  refine tF 8 [.val 0 (some 17) (.int .i64 (writeD (newD 9) [97, 98]).2), .alt 1 (some 18) (.bool ((writeD (newD 9) [97, 98]).2 == 0)) (.bool true), .val 2 (some 19) (.bool true), .val 3 (some 20) (.int .i64 (writeD (sureD (writeD (newD 9) [97, 98]).1) [99, 100]).2), .alt 4 (some 21) (.bool ((writeD (sureD (writeD (newD 9) [97, 98]).1) [99, 100]).2 == 0)) (.bool true), .val 5 (some 22) (.bool true), .val 6 (some 23) (.bool true), .val 7 (some 24) (pt B3 0)] ⟨congrArg Value.bool (rfl), congrArg Value.bool (rfl), trivial⟩ ?_
  refine cF (some 25) 12 #[pt B3 0] ((dkOctets_any _ (DkV.of (hM.oka 0 rfl)) (leave_ok (write_ok (sure_ok (write_ok (new_ok 9) [97, 98])) [99, 100]) (keep_le (write_ok (sure_ok (write_ok (new_ok 9) [97, 98])) [99, 100]) 1))).mono ?_)
  rintro e Y15 ⟨v15, rfl, hR⟩
  replace hM := hM.gain hR
  clear hR
  refine cvF (.tmp 25) (some 26) (v15) (.string (txB (leaveD (writeD (sureD (writeD (newD 9) [97, 98]).1) [99, 100]).1 (keepN (writeD (sureD (writeD (newD 9) [97, 98]).1) [99, 100]).1 1)).o)) (cvT (hM.oka 0 rfl).octs) ?_
  refine tF 13 [.alt 10 (some 27) (.bool ((txB (leaveD (writeD (sureD (writeD (newD 9) [97, 98]).1) [99, 100]).1 (keepN (writeD (sureD (writeD (newD 9) [97, 98]).1) [99, 100]).1 1)).o).toList == (txB [97, 98, 99]).toList)) (.bool true), .val 11 (some 28) (.bool true), .val 12 (some 0) (.bool true)] ⟨congrArg Value.bool (eqTx rfl), trivial⟩ ?_
  refine dF ?_
  try simp only [puts, Tk.put, Act.put, List.setIfInBounds_toArray, List.set_cons_zero, List.set_cons_succ]
  go_wp2_with fail
  go_ret
  exact ⟨rfl, hM.b⟩
theorem sureE {a : List UInt8} (h : (writeD (newD 65536) a).2 = 0) : (writeD (newD 65536) a).1 = { (newD 65536) with o := a } := by
  unfold writeD at h ⊢
  split at h
  · exact absurd h (by decide)
  · next hh =>
    rw [if_neg hh]
    rfl
theorem fall_two {D : Dk} {k n : Int} (hD : OkD D) : (leaveD (leaveD D (keepN D k)) (keepN (leaveD D (keepN D k)) n)).o = (leaveD D (keepN D k)).o ∧ (leaveD (leaveD D (keepN D k)) (keepN (leaveD D (keepN D k)) n)).su = (leaveD D (keepN D k)).o.length := by
  have h1 := leave_ok hD (keep_le hD k)
  have h2 := keep_le h1 n
  have h3 := keep_ge (leaveD D (keepN D k)) n
  have h4 : (leaveD D (keepN D k)).o.length = keepN D k := by show (D.o.take _).length = _; rw [List.length_take]; have := keep_le hD k; omega
  have h5 : (leaveD D (keepN D k)).su = keepN D k := rfl
  have h6 : keepN (leaveD D (keepN D k)) n = keepN D k := by omega
  rw [h6]
  refine ⟨?_, ?_⟩
  · show ((leaveD D (keepN D k)).o.take _) = _
    rw [List.take_of_length_le (by omega)]
  · show keepN D k = _
    omega
theorem fall_take {D : Dk} {a b : List UInt8} (k : Int) (hD : OkD D) (hs : D.su = a.length) (ho : D.o = a ++ b) : a.length ≤ (leaveD D (keepN D k)).o.length ∧ (leaveD D (keepN D k)).o.take a.length = a := by
  have h1 := keep_ge D k
  have h2 := keep_le hD k
  rw [hs] at h1
  refine ⟨?_, ?_⟩
  · show _ ≤ (D.o.take _).length
    rw [List.length_take]
    omega
  · show (D.o.take _).take _ = _
    rw [List.take_take, Nat.min_eq_left h1, ho, List.take_append_of_le_length (Nat.le_refl _), List.take_length]
theorem sureF {a b : List UInt8} {k n : Int} (h : (writeD (newD 65536) a).2 = 0) : (leaveD (leaveD (writeD (sureD (writeD (newD 65536) a).1) b).1 (keepN (writeD (sureD (writeD (newD 65536) a).1) b).1 k)) (keepN (leaveD (writeD (sureD (writeD (newD 65536) a).1) b).1 (keepN (writeD (sureD (writeD (newD 65536) a).1) b).1 k)) n)).o = (leaveD (writeD (sureD (writeD (newD 65536) a).1) b).1 (keepN (writeD (sureD (writeD (newD 65536) a).1) b).1 k)).o ∧ (leaveD (leaveD (writeD (sureD (writeD (newD 65536) a).1) b).1 (keepN (writeD (sureD (writeD (newD 65536) a).1) b).1 k)) (keepN (leaveD (writeD (sureD (writeD (newD 65536) a).1) b).1 (keepN (writeD (sureD (writeD (newD 65536) a).1) b).1 k)) n)).su = (leaveD (writeD (sureD (writeD (newD 65536) a).1) b).1 (keepN (writeD (sureD (writeD (newD 65536) a).1) b).1 k)).o.length ∧ a.length ≤ (leaveD (writeD (sureD (writeD (newD 65536) a).1) b).1 (keepN (writeD (sureD (writeD (newD 65536) a).1) b).1 k)).o.length ∧ (leaveD (writeD (sureD (writeD (newD 65536) a).1) b).1 (keepN (writeD (sureD (writeD (newD 65536) a).1) b).1 k)).o.take a.length = a := by
  have e1 := sureE h
  have hD : OkD (writeD (sureD (writeD (newD 65536) a).1) b).1 := write_ok (sure_ok (write_ok (new_ok _) a)) b
  obtain ⟨q1, q2⟩ := fall_two (k := k) (n := n) hD
  obtain ⟨b', q3, q4⟩ : ∃ b', (writeD (sureD (writeD (newD 65536) a).1) b).1.su = a.length ∧ (writeD (sureD (writeD (newD 65536) a).1) b).1.o = a ++ b' := by
    rw [e1]
    unfold writeD
    split
    · exact ⟨[], rfl, (List.append_nil _).symm⟩
    · exact ⟨b, rfl, rfl⟩
  exact ⟨q1, q2, fall_take k hD q3 q4⟩
set_option maxRecDepth 100000 in
set_option maxHeartbeats 4000000 in
theorem diskSure_any (a b : List UInt8) (k n : Int) {va vb : Value} (w : World) (ha : BSl 0 w.heap.size w va a) (hb : BSl 0 w.heap.size w vb b) : Calls Try.prog 5 #[va, vb, .int .i64 k, .int .i64 n] w fun e W' => e = .returned (.bool true) ∧ Below w.heap.size w W' := by
  have hmx : Try.prog.follows .mixedOrders = true := by kernel_rfl
  obtain ⟨pa, ca, rfl, hca⟩ := ha.slice
  obtain ⟨pb, cb, rfl, hcb⟩ := hb.slice
  have HA := Lib.hid ha
  have HB := Lib.hid hb
  clear ha hb hca hcb
  have hM := Sep.start w
  go_enter Try.func5, Try.ntmps5
  go_upto_region 0 with fail
  refine wp_region_fromM (fun W => Sep w [] [] W) hM ?_
  clear hM
  rintro Y1 hM
  refine tF 1 [.val 0 (some 8) (.bool false)] trivial ?_
  refine dF ?_
  try simp only [puts, Tk.put, Act.put, List.setIfInBounds_toArray, List.set_cons_zero, List.set_cons_succ]
  go_upto_region 1 with fail
  refine wp_region_fromM (fun W => Sep w [] [] W) hM ?_
  clear hM
  rintro Y2 hM
  refine cF (some 11) 6 #[] ((alive15_any _).mono ?_)
  rintro e Y3 ⟨rfl, hb⟩
  replace hM := hM.below hb
  clear hb
  refine tF 2 [.val 1 (some 12) (.bool false)] trivial ?_
  refine dF ?_
  try simp only [puts, Tk.put, Act.put, List.setIfInBounds_toArray, List.set_cons_zero, List.set_cons_succ]
  go_upto_region 3 with fail
  refine wp_region_fromM (fun W => Sep w [] [] W) hM ?_
  clear hM
  rintro Y4 hM
  refine cF (some 13) 7 #[.int .i64 65536] ((dkNew_any 65536 _).mono ?_)
  rintro e Y5 ⟨B5, v5, rfl, hR⟩
  replace hM := hM.gain (Sep.close (ps := DKR B5 (newD 65536) v5) (l := []) hR)
  clear hR
  refine tF 2 [.val 1 (some 9) (pt B5 0)] trivial ?_
  refine dF ?_
  try simp only [puts, Tk.put, Act.put, List.setIfInBounds_toArray, List.set_cons_zero, List.set_cons_succ]
  go_upto_region 4 with fail
  refine wp_region_fromM (fun W => Sep w [] [.join (DKR B5 (newD 65536) v5)] W) hM ?_
  clear hM
  rintro Y6 hM
  refine tF 2 [.val 0 (some 14) (pt B5 0), .val 1 (some 15) (.slice pa a.length ca)] trivial ?_
  have hq := dkWrite_any a _ (hM.oka 0 rfl) (new_ok 65536) (BF.arg hM (List.mem_of_getElem? (i := 0) rfl) HA.out (Nat.le_refl _))
  refine cF (some 16) 8 #[pt B5 0, .slice pa a.length ca] ((hq).mono ?_)
  rintro e Y7 ⟨rfl, v7, hT⟩
  clear hq
  replace hM := hM.turn 0 rfl hT rfl
  clear hT
  refine tF 4 [.val 3 (some 17) (.bool ((writeD (newD 65536) a).2 != 0))] trivial ?_
  refine dF ?_
  try simp only [puts, Tk.put, Act.put, List.setIfInBounds_toArray, List.set_cons_zero, List.set_cons_succ]
  cases hb1 : (writeD (newD 65536) a).2 != 0 with
  | false =>
    have Hhb1 := Lib.hid hb1
    clear hb1
    have hF := sureF (b := b) (k := k) (n := n) (show (writeD (newD 65536) a).2 = 0 by have h := Hhb1.out; simpa using h)
    have HF := Lib.hid hF
    clear hF
    go_upto_region 6 with fail
    refine wp_region_fromM (fun W => Sep w [] [.join (DKR B5 (writeD (newD 65536) a).1 v7)] W) hM ?_
    clear hM
    rintro Y8 hM
    refine tF 1 [.val 0 (some 18) (pt B5 0)] trivial ?_
    have hq := dkSync_any _ (hM.oka 0 rfl) (write_ok (new_ok 65536) a)
    refine cF (some 19) 9 #[pt B5 0] ((hq).mono ?_)
    rintro e Y9 ⟨rfl, v9, hT⟩
    clear hq
    replace hM := hM.turn 0 rfl hT rfl
    clear hT
    refine dF ?_
    try simp only [puts, Tk.put, Act.put, List.setIfInBounds_toArray, List.set_cons_zero, List.set_cons_succ]
    go_upto_region 7 with fail
    refine wp_region_fromM (fun W => Sep w [] [.join (DKR B5 (sureD (writeD (newD 65536) a).1) v9)] W) hM ?_
    clear hM
    rintro Y10 hM
    refine tF 2 [.val 0 (some 20) (pt B5 0), .val 1 (some 21) (.slice pb b.length cb)] trivial ?_
    have hq := dkWrite_any b _ (hM.oka 0 rfl) (sure_ok (write_ok (new_ok 65536) a)) (BF.arg hM (List.mem_of_getElem? (i := 0) rfl) HB.out (Nat.le_refl _))
    refine cF (some 22) 8 #[pt B5 0, .slice pb b.length cb] ((hq).mono ?_)
    rintro e Y11 ⟨rfl, v11, hT⟩
    clear hq
    replace hM := hM.turn 0 rfl hT rfl
    clear hT
    refine dF ?_
    try simp only [puts, Tk.put, Act.put, List.setIfInBounds_toArray, List.set_cons_zero, List.set_cons_succ]
    go_upto_region 8 with fail
    refine wp_region_fromM (fun W => Sep w [] [.join (DKR B5 (writeD (sureD (writeD (newD 65536) a).1) b).1 v11)] W) hM ?_
    clear hM
    rintro Y12 hM
    refine tF 2 [.val 0 (some 23) (pt B5 0), .val 1 (some 24) (.int .i64 k)] trivial ?_
    have hq := dkFall_any k _ (hM.oka 0 rfl) (write_ok (sure_ok (write_ok (new_ok 65536) a)) b)
    refine cF (some 25) 10 #[pt B5 0, .int .i64 k] ((hq).mono ?_)
    rintro e Y13 ⟨rfl, v13, hT⟩
    clear hq
    replace hM := hM.turn 0 rfl hT rfl
    clear hT
    refine dF ?_
    try simp only [puts, Tk.put, Act.put, List.setIfInBounds_toArray, List.set_cons_zero, List.set_cons_succ]
    go_upto_region 9 with fail
    refine wp_region_fromM (fun W => Sep w [] [.join (DKR B5 (leaveD (writeD (sureD (writeD (newD 65536) a).1) b).1 (keepN (writeD (sureD (writeD (newD 65536) a).1) b).1 k)) v13)] W) hM ?_
    clear hM
    rintro Y14 hM
    refine tF 1 [.val 0 (some 26) (pt B5 0)] trivial ?_
    refine cF (some 27) 12 #[pt B5 0] ((dkOctets_any _ (DkV.of (hM.oka 0 rfl)) (leave_ok (write_ok (sure_ok (write_ok (new_ok 65536) a)) b) (keep_le (write_ok (sure_ok (write_ok (new_ok 65536) a)) b) k))).mono ?_)
    rintro e Y15 ⟨v15, rfl, hR⟩
    replace hM := hM.gain hR
    clear hR
    refine cvF (.tmp 27) (some 28) (v15) (.string (txB (leaveD (writeD (sureD (writeD (newD 65536) a).1) b).1 (keepN (writeD (sureD (writeD (newD 65536) a).1) b).1 k)).o)) (cvT (hM.oka 0 rfl).octs) ?_
    refine tF 4 [.val 3 (some 10) (.string (txB (leaveD (writeD (sureD (writeD (newD 65536) a).1) b).1 (keepN (writeD (sureD (writeD (newD 65536) a).1) b).1 k)).o))] trivial ?_
    refine dF ?_
    try simp only [puts, Tk.put, Act.put, List.setIfInBounds_toArray, List.set_cons_zero, List.set_cons_succ]
    go_upto_region 10 with fail
    refine wp_region_fromM (fun W => Sep w [] [.oct v15 (leaveD (writeD (sureD (writeD (newD 65536) a).1) b).1 (keepN (writeD (sureD (writeD (newD 65536) a).1) b).1 k)).o, .join (DKR B5 (leaveD (writeD (sureD (writeD (newD 65536) a).1) b).1 (keepN (writeD (sureD (writeD (newD 65536) a).1) b).1 k)) v13)] W) hM ?_
    clear hM
    rintro Y16 hM
    refine tF 2 [.val 0 (some 29) (pt B5 0), .val 1 (some 30) (.int .i64 n)] trivial ?_
    have hq := dkFall_any n _ (hM.oka 1 rfl) (leave_ok (write_ok (sure_ok (write_ok (new_ok 65536) a)) b) (keep_le (write_ok (sure_ok (write_ok (new_ok 65536) a)) b) k))
    refine cF (some 31) 10 #[pt B5 0, .int .i64 n] ((hq).mono ?_)
    rintro e Y17 ⟨rfl, v17, hT⟩
    clear hq
    replace hM := hM.turn 1 rfl hT rfl
    clear hT
    refine dF ?_
    try simp only [puts, Tk.put, Act.put, List.setIfInBounds_toArray, List.set_cons_zero, List.set_cons_succ]
    go_upto_region 11 with fail
    refine wp_region_M (fun W => Sep w [] [.oct v15 (leaveD (writeD (sureD (writeD (newD 65536) a).1) b).1 (keepN (writeD (sureD (writeD (newD 65536) a).1) b).1 k)).o, .join (DKR B5 (leaveD (leaveD (writeD (sureD (writeD (newD 65536) a).1) b).1 (keepN (writeD (sureD (writeD (newD 65536) a).1) b).1 k)) (keepN (leaveD (writeD (sureD (writeD (newD 65536) a).1) b).1 (keepN (writeD (sureD (writeD (newD 65536) a).1) b).1 k)) n)) v17)] W) (fun W => Sep w [] [.oct v15 (leaveD (writeD (sureD (writeD (newD 65536) a).1) b).1 (keepN (writeD (sureD (writeD (newD 65536) a).1) b).1 k)).o, .join (DKR B5 (leaveD (leaveD (writeD (sureD (writeD (newD 65536) a).1) b).1 (keepN (writeD (sureD (writeD (newD 65536) a).1) b).1 k)) (keepN (leaveD (writeD (sureD (writeD (newD 65536) a).1) b).1 (keepN (writeD (sureD (writeD (newD 65536) a).1) b).1 k)) n)) v17)] W) hmx hM.drew ?_
    clear hM
    rintro Y18 hM
    have hS := hM.sub (.cons_cons _ (.cons_cons _ .slnil))
    refine tD 25 [.val 0 (some 32) (pt B5 0), .val 3 (some 35) (.string (txB (leaveD (writeD (sureD (writeD (newD 65536) a).1) b).1 (keepN (writeD (sureD (writeD (newD 65536) a).1) b).1 k)).o))] trivial hS ?_
    refine oD 1 24 (cD (some 33) 12 #[pt B5 0] ((dkOctets_any _ (DkV.of (hM.oka 1 rfl)) (leave_ok (leave_ok (write_ok (sure_ok (write_ok (new_ok 65536) a)) b) (keep_le (write_ok (sure_ok (write_ok (new_ok 65536) a)) b) k)) (keep_le (leave_ok (write_ok (sure_ok (write_ok (new_ok 65536) a)) b) (keep_le (write_ok (sure_ok (write_ok (new_ok 65536) a)) b) k)) n))).mono ?_))
    rintro e Y19 ⟨v19, rfl, hR⟩
    refine And.intro (hS.below hR.b) ?_
    replace hS := hS.below hR.b
    replace hM := hM.gain hR
    clear hR
    refine oD 2 23 (cvD (.tmp 33) (some 34) (v19) (.string (txB (leaveD (leaveD (writeD (sureD (writeD (newD 65536) a).1) b).1 (keepN (writeD (sureD (writeD (newD 65536) a).1) b).1 k)) (keepN (leaveD (writeD (sureD (writeD (newD 65536) a).1) b).1 (keepN (writeD (sureD (writeD (newD 65536) a).1) b).1 k)) n)).o)) (cvT (hM.oka 0 rfl).octs) hS ?_)
    refine tD 9 [.alt 4 (some 36) (.bool ((txB (leaveD (leaveD (writeD (sureD (writeD (newD 65536) a).1) b).1 (keepN (writeD (sureD (writeD (newD 65536) a).1) b).1 k)) (keepN (leaveD (writeD (sureD (writeD (newD 65536) a).1) b).1 (keepN (writeD (sureD (writeD (newD 65536) a).1) b).1 k)) n)).o).toList == (txB (leaveD (writeD (sureD (writeD (newD 65536) a).1) b).1 (keepN (writeD (sureD (writeD (newD 65536) a).1) b).1 k)).o).toList)) (.bool true), .val 5 (some 37) (.bool true), .val 6 (some 38) (.string (txB (leaveD (writeD (sureD (writeD (newD 65536) a).1) b).1 (keepN (writeD (sureD (writeD (newD 65536) a).1) b).1 k)).o)), .val 7 (some 39) (.int .i64 ((leaveD (writeD (sureD (writeD (newD 65536) a).1) b).1 (keepN (writeD (sureD (writeD (newD 65536) a).1) b).1 k)).o.length : Int)), .val 8 (some 40) (.slice pa a.length ca), .val 9 (some 41) (.int .i64 (a.length : Int)), .alt 10 (some 42) (.bool (decide ((a.length : Int) ≤ ((leaveD (writeD (sureD (writeD (newD 65536) a).1) b).1 (keepN (writeD (sureD (writeD (newD 65536) a).1) b).1 k)).o.length : Int)))) (.bool true), .val 11 (some 43) (.bool true), .val 12 (some 44) (.bool true), .val 13 (some 45) (.string (txB (leaveD (writeD (sureD (writeD (newD 65536) a).1) b).1 (keepN (writeD (sureD (writeD (newD 65536) a).1) b).1 k)).o)), .val 14 (some 46) (.slice pa a.length ca), .val 15 (some 47) (.int .i64 (a.length : Int)), .slc 16 (some 48) 9 (.string (txB (leaveD (writeD (sureD (writeD (newD 65536) a).1) b).1 (keepN (writeD (sureD (writeD (newD 65536) a).1) b).1 k)).o)) none (some (.int .i64 (a.length : Int))) none (.string (txB ((leaveD (writeD (sureD (writeD (newD 65536) a).1) b).1 (keepN (writeD (sureD (writeD (newD 65536) a).1) b).1 k)).o.take a.length))), .val 17 (some 49) (.slice pa a.length ca)] ⟨congrArg Value.bool (eqTx HF.out.1), congrArg Value.bool (decide_eq_true (by have h := HF.out.2.2.1; omega)), fun W h => slice_tx _ HF.out.2.2.1 W, trivial⟩ hS ?_
    refine oD 18 8 (cvD (.tmp 49) (some 50) (.slice pa a.length ca) (.string (txB a)) (cvT (HA.out.below hM.b (Nat.le_refl _))) hS ?_)
    refine tD 4 [.alt 19 (some 51) (.bool ((txB ((leaveD (writeD (sureD (writeD (newD 65536) a).1) b).1 (keepN (writeD (sureD (writeD (newD 65536) a).1) b).1 k)).o.take a.length)).toList == (txB a).toList)) (.bool true), .val 20 (some 52) (.bool true), .val 21 (some 53) (.bool true), .val 22 (some 54) (pt B5 0)] ⟨congrArg Value.bool (eqTx HF.out.2.2.2), trivial⟩ hS ?_
    refine oD 23 3 (cD (some 55) 13 #[pt B5 0] ((dkFresh_any _ (DkV.of (hM.oka 2 rfl)) (leave_ok (leave_ok (write_ok (sure_ok (write_ok (new_ok 65536) a)) b) (keep_le (write_ok (sure_ok (write_ok (new_ok 65536) a)) b) k)) (keep_le (leave_ok (write_ok (sure_ok (write_ok (new_ok 65536) a)) b) (keep_le (write_ok (sure_ok (write_ok (new_ok 65536) a)) b) k)) n))).mono ?_))
    rintro e Y20 ⟨rfl, hb⟩
    refine And.intro (hS.below hb) ?_
    replace hS := hS.below hb
    replace hM := hM.below hb
    clear hb
    refine tD 0 [.alt 24 (some 56) (.bool ((((leaveD (leaveD (writeD (sureD (writeD (newD 65536) a).1) b).1 (keepN (writeD (sureD (writeD (newD 65536) a).1) b).1 k)) (keepN (leaveD (writeD (sureD (writeD (newD 65536) a).1) b).1 (keepN (writeD (sureD (writeD (newD 65536) a).1) b).1 k)) n)).o.length : Int) - ((leaveD (leaveD (writeD (sureD (writeD (newD 65536) a).1) b).1 (keepN (writeD (sureD (writeD (newD 65536) a).1) b).1 k)) (keepN (leaveD (writeD (sureD (writeD (newD 65536) a).1) b).1 (keepN (writeD (sureD (writeD (newD 65536) a).1) b).1 k)) n)).su : Int)) == 0)) (.bool true), .val 25 (some 57) (.bool true), .val 26 (some 8) (.bool true)] ⟨congrArg Value.bool ((by rw [HF.out.1, HF.out.2.1, Int.sub_self]; rfl)), trivial⟩ hS ?_
    refine dD ?_
    try simp only [puts, Tk.put, Act.put, List.setIfInBounds_toArray, List.set_cons_zero, List.set_cons_succ]
    clear hS
    go_wp2_with fail
    go_ret
    exact ⟨rfl, hM.b⟩
  | true =>
    have Hhb1 := Lib.hid hb1
    clear hb1
    go_upto_region 5 with fail
    refine wp_region_fromM (fun W => Sep w [] [.join (DKR B5 (writeD (newD 65536) a).1 v7)] W) hM ?_
    clear hM
    rintro Y21 hM
    refine tF 1 [.val 0 (some 8) (.bool true)] trivial ?_
    refine dF ?_
    try simp only [puts, Tk.put, Act.put, List.setIfInBounds_toArray, List.set_cons_zero, List.set_cons_succ]
    go_wp2_with fail
    go_ret
    exact ⟨rfl, hM.b⟩
end Go.Proofs.Ytcgiidpngkhhdaa
