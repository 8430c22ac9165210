/-
  Times: the program's functions.
-/
import Derived.Test.YtmdnpffoddpomaaKit
import Derived.Test.YtmdnpffoddpomaaSepK
namespace Go.Proofs.Ytmdnpffoddpomaa
open Go.RowKit Go.Shelf
attribute [local irreducible] wpFrom wpAnyH StepH

def tmB (t : Int) : Bool := decide (0 ≤ t ∧ t ≤ 1099511627776)
def timesB (a b : Int) : Bool := tmB a && tmB b
def dlyI (d : Int) : Int := min2I (max2I d 1) 4
def relB (a b d : Int) : Bool := timesB a b && decide (dlyI d + 1 < b - a)
def mirB (a b d : Int) : Bool := timesB a b && decide (11 * dlyI d + 6 ≤ b - a)
def dueB (a b d : Int) : Bool := timesB a b && decide (dlyI d < b - a)
theorem dly_in (d : Int) : 1 ≤ dlyI d ∧ dlyI d ≤ 4 := by
  unfold dlyI
  rw [max2I_eq, min2I_eq]
  omega
theorem tm_neg {t : Int} (h : decide (t < 0) = true) : tmB t = false := decide_eq_false (by have h := of_decide_eq_true h; omega)
theorem tm_big {t : Int} (h : decide (1099511627776 < t) = true) : tmB t = false := decide_eq_false (by have h := of_decide_eq_true h; omega)
theorem tm_yes {t : Int} (h : decide (t < 0) = false) (h' : decide (1099511627776 < t) = false) : tmB t = true := decide_eq_true (by have h := of_decide_eq_false h; have h' := of_decide_eq_false h'; omega)
theorem times_yes {a b : Int} (h : tmB a = true) (h' : tmB b = true) : timesB a b = true := by unfold timesB; rw [h, h']; rfl
theorem times_a {a b : Int} (h : tmB a = false) : timesB a b = false := by unfold timesB; rw [h]; rfl
theorem times_b {a b : Int} (h : tmB b = false) : timesB a b = false := by unfold timesB; rw [h, Bool.and_false]
theorem times_in {a b : Int} (h : timesB a b = true) : (0 ≤ a ∧ a ≤ 1099511627776) ∧ 0 ≤ b ∧ b ≤ 1099511627776 := by
  unfold timesB tmB at h
  rw [Bool.and_eq_true] at h
  exact ⟨of_decide_eq_true h.1, of_decide_eq_true h.2⟩
theorem idx_20 (B : Nat) (W : World) : (Instr.indexAt 27 (.slice (some ⟨B, 0, none⟩) 2 2) (.int .i64 0)).run Try.prog W = .ok (pt B 0) W := by
  have h := idx_sl (W := W) (b := B) (off := 0) (len := 2) (cap := 2) (k := 0) (c := 1) Try.underlying27 (by kernel_rfl) (by decide)
  exact h
theorem idx_21 (B : Nat) (W : World) : (Instr.indexAt 27 (.slice (some ⟨B, 0, none⟩) 2 2) (.int .i64 1)).run Try.prog W = .ok (pt B 1) W := by
  have h := idx_sl (W := W) (b := B) (off := 0) (len := 2) (cap := 2) (k := 1) (c := 1) Try.underlying27 (by kernel_rfl) (by decide)
  exact h
set_option maxRecDepth 100000 in
set_option maxHeartbeats 4000000 in
theorem times_any {B : Nat} (a b : Int) (w : World) (hB : Blk w B 3 [.int .i64 a, .int .i64 b]) : Calls Try.prog 14 #[.slice (some ⟨B, 0, none⟩) 2 2] w fun e W' => e = .returned (.bool (timesB a b)) ∧ Below w.heap.size w W' := by
  have hmx : Try.prog.follows .mixedOrders = true := by kernel_rfl
  have HB := Lib.hid hB
  clear hB
  have hM := Sep.start w
  go_enter Try.func14, Try.ntmps14
  go_upto_region 0 with fail
  refine wp_region_fromM (fun W => Sep w [] [] W) hM ?_
  clear hM
  rintro Y1 hM
  refine tF 1 [.val 0 (some 2) (.bool false)] trivial ?_
  refine dF ?_
  try simp only [puts, Tk.put, Act.put, List.setIfInBounds_toArray, List.set_cons_zero, List.set_cons_succ]
  go_upto_region 1 with fail
  refine wp_region_fromM (fun W => Sep w [] [] W) hM ?_
  clear hM
  rintro Y2 hM
  refine tF 3 [.val 0 (some 5) (.slice (some ⟨B, 0, none⟩) 2 2), .val 1 (some 6) (.int .i64 2), .val 2 (some 7) (.int .i64 0)] trivial ?_
  refine dF ?_
  try simp only [puts, Tk.put, Act.put, List.setIfInBounds_toArray, List.set_cons_zero, List.set_cons_succ]
  go_wp2_with fail
  go_loopw [7] (fun i wr => (i = .int .i64 0 ∨ (i = .int .i64 1 ∧ tmB a = true) ∨ (i = .int .i64 2 ∧ tmB a = true ∧ tmB b = true)) ∧ Sep w [] [] wr) (fun i _ => 2 - (intOf i).toNat)
  case atStart => exact ⟨.inl rfl, hM⟩
  clear hM
  case round =>
    obtain ⟨hi, hM⟩ := hrel
    rcases hi with rfl | ⟨rfl, ha⟩ | ⟨rfl, ha, hb⟩
    case inl =>
      go_upto_region 2 with fail
      refine wp_region_fromM (fun W => Sep w [] [] W) hM ?_
      clear hM
      rintro Y3 hM
      refine tF 1 [.val 0 (some 8) (.bool true)] trivial ?_
      refine dF ?_
      try simp only [puts, Tk.put, Act.put, List.setIfInBounds_toArray, List.set_cons_zero, List.set_cons_succ]
      go_upto_region 3 with fail
      refine wp_region_fromM (fun W => Sep w [] [] W) hM ?_
      clear hM
      rintro Y4 hM
      refine tF 3 [.idx 0 (some 9) 27 (.slice (some ⟨B, 0, none⟩) 2 2) (.int .i64 0) (pt B 0), .load 1 (some 10) 3 (pt B 0) (.int .i64 a), .val 2 (some 4) (.int .i64 a)] ⟨idx_20 _ _, ld_any _ _ Try.underlying3 rfl (HB.out.below hM.b HB.out.lt) 0 rfl, trivial⟩ ?_
      refine dF ?_
      try simp only [puts, Tk.put, Act.put, List.setIfInBounds_toArray, List.set_cons_zero, List.set_cons_succ]
      go_upto_region 4 with fail
      refine wp_region_fromM (fun W => Sep w [] [] W) hM ?_
      clear hM
      rintro Y5 hM
      refine tF 3 [.val 0 (some 11) (.int .i64 a), .val 1 (some 12) (.bool (decide (a < 0))), .val 2 (some 13) (.bool (decide (a < 0)))] trivial ?_
      cases hb1 : decide (a < 0) with
      | false =>
        have Hhb1 := Lib.hid hb1
        clear hb1
        refine tF 6 [.val 3 (some 14) (.int .i64 a), .val 4 (some 15) (.bool (decide (1099511627776 < a))), .val 5 (some 16) (.bool (decide (1099511627776 < a)))] trivial ?_
        refine dF ?_
        try simp only [puts, Tk.put, Act.put, List.setIfInBounds_toArray, List.set_cons_zero, List.set_cons_succ]
        cases hb2 : decide (1099511627776 < a) with
        | false =>
          have Hhb2 := Lib.hid hb2
          clear hb2
          go_upto_region 6 with fail
          refine wp_region_fromM (fun W => Sep w [] [] W) hM ?_
          clear hM
          rintro Y6 hM
          refine tF 2 [.alt 0 (some 17) (.int .i64 (IntKind.i64.wrap (0 + 1))) (.int .i64 1), .val 1 (some 7) (.int .i64 1)] ⟨congrArg (Value.int .i64) (by decide), trivial⟩ ?_
          refine dF ?_
          try simp only [puts, Tk.put, Act.put, List.setIfInBounds_toArray, List.set_cons_zero, List.set_cons_succ]
          go_wp2_with fail
          go_roundw
          case rel => exact ⟨.inr (.inl ⟨rfl, (tm_yes Hhb1.out Hhb2.out)⟩), hM⟩
          case measure => simp [intOf]
        | true =>
          have Hhb2 := Lib.hid hb2
          clear hb2
          go_upto_region 5 with fail
          refine wp_region_fromM (fun W => Sep w [] [] W) hM ?_
          clear hM
          rintro Y7 hM
          refine tF 1 [.val 0 (some 2) (.bool false)] trivial ?_
          refine dF ?_
          try simp only [puts, Tk.put, Act.put, List.setIfInBounds_toArray, List.set_cons_zero, List.set_cons_succ]
          go_wp2_with fail
          go_ret
          exact ⟨by rw [times_a (tm_big Hhb2.out)]; rfl, hM.b⟩
      | true =>
        have Hhb1 := Lib.hid hb1
        clear hb1
        refine tF 6 [.skip 3 (some 14), .skip 4 (some 15), .val 5 (some 16) (.bool true)] trivial ?_
        refine dF ?_
        try simp only [puts, Tk.put, Act.put, List.setIfInBounds_toArray, List.set_cons_zero, List.set_cons_succ]
        go_upto_region 5 with fail
        refine wp_region_fromM (fun W => Sep w [] [] W) hM ?_
        clear hM
        rintro Y8 hM
        refine tF 1 [.val 0 (some 2) (.bool false)] trivial ?_
        refine dF ?_
        try simp only [puts, Tk.put, Act.put, List.setIfInBounds_toArray, List.set_cons_zero, List.set_cons_succ]
        go_wp2_with fail
        go_ret
        exact ⟨by rw [times_a (tm_neg Hhb1.out)]; rfl, hM.b⟩
    case inr.inl =>
      have HA := Lib.hid ha
      clear ha
      go_upto_region 2 with fail
      refine wp_region_fromM (fun W => Sep w [] [] W) hM ?_
      clear hM
      rintro Y9 hM
      refine tF 1 [.val 0 (some 8) (.bool true)] trivial ?_
      refine dF ?_
      try simp only [puts, Tk.put, Act.put, List.setIfInBounds_toArray, List.set_cons_zero, List.set_cons_succ]
      go_upto_region 3 with fail
      refine wp_region_fromM (fun W => Sep w [] [] W) hM ?_
      clear hM
      rintro Y10 hM
      refine tF 3 [.idx 0 (some 9) 27 (.slice (some ⟨B, 0, none⟩) 2 2) (.int .i64 1) (pt B 1), .load 1 (some 10) 3 (pt B 1) (.int .i64 b), .val 2 (some 4) (.int .i64 b)] ⟨idx_21 _ _, ld_any _ _ Try.underlying3 rfl (HB.out.below hM.b HB.out.lt) 1 rfl, trivial⟩ ?_
      refine dF ?_
      try simp only [puts, Tk.put, Act.put, List.setIfInBounds_toArray, List.set_cons_zero, List.set_cons_succ]
      go_upto_region 4 with fail
      refine wp_region_fromM (fun W => Sep w [] [] W) hM ?_
      clear hM
      rintro Y11 hM
      refine tF 3 [.val 0 (some 11) (.int .i64 b), .val 1 (some 12) (.bool (decide (b < 0))), .val 2 (some 13) (.bool (decide (b < 0)))] trivial ?_
      cases hb3 : decide (b < 0) with
      | false =>
        have Hhb3 := Lib.hid hb3
        clear hb3
        refine tF 6 [.val 3 (some 14) (.int .i64 b), .val 4 (some 15) (.bool (decide (1099511627776 < b))), .val 5 (some 16) (.bool (decide (1099511627776 < b)))] trivial ?_
        refine dF ?_
        try simp only [puts, Tk.put, Act.put, List.setIfInBounds_toArray, List.set_cons_zero, List.set_cons_succ]
        cases hb4 : decide (1099511627776 < b) with
        | false =>
          have Hhb4 := Lib.hid hb4
          clear hb4
          go_upto_region 6 with fail
          refine wp_region_fromM (fun W => Sep w [] [] W) hM ?_
          clear hM
          rintro Y12 hM
          refine tF 2 [.alt 0 (some 17) (.int .i64 (IntKind.i64.wrap (1 + 1))) (.int .i64 2), .val 1 (some 7) (.int .i64 2)] ⟨congrArg (Value.int .i64) (by decide), trivial⟩ ?_
          refine dF ?_
          try simp only [puts, Tk.put, Act.put, List.setIfInBounds_toArray, List.set_cons_zero, List.set_cons_succ]
          go_wp2_with fail
          go_roundw
          case rel => exact ⟨.inr (.inr ⟨rfl, HA.out, (tm_yes Hhb3.out Hhb4.out)⟩), hM⟩
          case measure => simp [intOf]
        | true =>
          have Hhb4 := Lib.hid hb4
          clear hb4
          go_upto_region 5 with fail
          refine wp_region_fromM (fun W => Sep w [] [] W) hM ?_
          clear hM
          rintro Y13 hM
          refine tF 1 [.val 0 (some 2) (.bool false)] trivial ?_
          refine dF ?_
          try simp only [puts, Tk.put, Act.put, List.setIfInBounds_toArray, List.set_cons_zero, List.set_cons_succ]
          go_wp2_with fail
          go_ret
          exact ⟨by rw [times_b (tm_big Hhb4.out)]; rfl, hM.b⟩
      | true =>
        have Hhb3 := Lib.hid hb3
        clear hb3
        refine tF 6 [.skip 3 (some 14), .skip 4 (some 15), .val 5 (some 16) (.bool true)] trivial ?_
        refine dF ?_
        try simp only [puts, Tk.put, Act.put, List.setIfInBounds_toArray, List.set_cons_zero, List.set_cons_succ]
        go_upto_region 5 with fail
        refine wp_region_fromM (fun W => Sep w [] [] W) hM ?_
        clear hM
        rintro Y14 hM
        refine tF 1 [.val 0 (some 2) (.bool false)] trivial ?_
        refine dF ?_
        try simp only [puts, Tk.put, Act.put, List.setIfInBounds_toArray, List.set_cons_zero, List.set_cons_succ]
        go_wp2_with fail
        go_ret
        exact ⟨by rw [times_b (tm_neg Hhb3.out)]; rfl, hM.b⟩
    case inr.inr =>
      have HA := Lib.hid ha
      clear ha
      have HBB := Lib.hid hb
      clear hb
      go_upto_region 2 with fail
      refine wp_region_fromM (fun W => Sep w [] [] W) hM ?_
      clear hM
      rintro Y15 hM
      refine tF 1 [.val 0 (some 8) (.bool false)] trivial ?_
      refine dF ?_
      try simp only [puts, Tk.put, Act.put, List.setIfInBounds_toArray, List.set_cons_zero, List.set_cons_succ]
      go_upto_region 7 with fail
      refine wp_region_fromM (fun W => Sep w [] [] W) hM ?_
      clear hM
      rintro Y16 hM
      refine tF 1 [.val 0 (some 2) (.bool true)] trivial ?_
      refine dF ?_
      try simp only [puts, Tk.put, Act.put, List.setIfInBounds_toArray, List.set_cons_zero, List.set_cons_succ]
      go_wp2_with fail
      go_ret
      exact ⟨by rw [times_yes HA.out HBB.out]; rfl, hM.b⟩
set_option maxRecDepth 100000 in
set_option maxHeartbeats 4000000 in
theorem delay_any (d : Int) (w : World) : Calls Try.prog 6 #[.int .i64 d] w fun e W' => e = .returned (.int .i64 (dlyI d)) ∧ Below w.heap.size w W' := by
  have hmx : Try.prog.follows .mixedOrders = true := by kernel_rfl
  have hM := Sep.start w
  go_enter Try.func6, Try.ntmps6
  go_upto_region 0 with fail
  refine wp_region_fromM (fun W => Sep w [] [] W) hM ?_
  clear hM
  rintro Y1 hM
  refine tF 1 [.val 0 (some 2) (.int .i64 0)] trivial ?_
  refine dF ?_
  try simp only [puts, Tk.put, Act.put, List.setIfInBounds_toArray, List.set_cons_zero, List.set_cons_succ]
  go_upto_region 1 with fail
  refine wp_region_fromM (fun W => Sep w [] [] W) hM ?_
  clear hM
  rintro Y2 hM
  refine tF 4 [.val 0 (some 3) (.int .i64 d), .val 1 (some 4) (.int .i64 (max2I d 1)), .alt 2 (some 5) (.int .i64 (min2I (max2I d 1) 4)) (.int .i64 (dlyI d)), .val 3 (some 2) (.int .i64 (dlyI d))] ⟨congrArg (Value.int .i64) (rfl), trivial⟩ ?_
  refine dF ?_
  try simp only [puts, Tk.put, Act.put, List.setIfInBounds_toArray, List.set_cons_zero, List.set_cons_succ]
  go_wp2_with fail
  go_ret
  exact ⟨rfl, hM.b⟩
set_option maxRecDepth 100000 in
set_option maxHeartbeats 4000000 in
theorem window_any (d : Int) (w : World) : Calls Try.prog 9 #[.int .i64 d] w fun e W' => e = .returned (.int .i64 1) ∧ Below w.heap.size w W' := by
  have hmx : Try.prog.follows .mixedOrders = true := by kernel_rfl
  have hM := Sep.start w
  go_enter Try.func9, Try.ntmps9
  go_upto_region 0 with fail
  refine wp_region_fromM (fun W => Sep w [] [] W) hM ?_
  clear hM
  rintro Y1 hM
  refine tF 1 [.val 0 (some 2) (.int .i64 0)] trivial ?_
  refine dF ?_
  try simp only [puts, Tk.put, Act.put, List.setIfInBounds_toArray, List.set_cons_zero, List.set_cons_succ]
  go_upto_region 1 with fail
  refine wp_region_fromM (fun W => Sep w [] [] W) hM ?_
  clear hM
  rintro Y2 hM
  refine tF 1 [.val 0 (some 2) (.int .i64 1)] trivial ?_
  refine dF ?_
  try simp only [puts, Tk.put, Act.put, List.setIfInBounds_toArray, List.set_cons_zero, List.set_cons_succ]
  go_wp2_with fail
  go_ret
  exact ⟨rfl, hM.b⟩
set_option maxRecDepth 100000 in
set_option maxHeartbeats 4000000 in
theorem short_any (d : Int) (w : World) : Calls Try.prog 7 #[.int .i64 d] w fun e W' => e = .returned (.int .i64 (8 * dlyI d + 4)) ∧ Below w.heap.size w W' := by
  have hmx : Try.prog.follows .mixedOrders = true := by kernel_rfl
  have hM := Sep.start w
  go_enter Try.func7, Try.ntmps7
  go_upto_region 0 with fail
  refine wp_region_fromM (fun W => Sep w [] [] W) hM ?_
  clear hM
  rintro Y1 hM
  refine tF 1 [.val 0 (some 2) (.int .i64 0)] trivial ?_
  refine dF ?_
  try simp only [puts, Tk.put, Act.put, List.setIfInBounds_toArray, List.set_cons_zero, List.set_cons_succ]
  go_upto_region 1 with fail
  refine wp_region_fromM (fun W => Sep w [] [] W) hM ?_
  clear hM
  rintro Y2 hM
  refine tF 1 [.val 0 (some 3) (.int .i64 d)] trivial ?_
  refine cF (some 4) 6 #[.int .i64 d] ((delay_any d _).mono ?_)
  rintro e Y3 ⟨rfl, hb⟩
  replace hM := hM.below hb
  clear hb
  refine tF 5 [.alt 2 (some 5) (.int .i64 (IntKind.i64.wrap (8 * (dlyI d)))) (.int .i64 (8 * (dlyI d))), .alt 3 (some 6) (.int .i64 (IntKind.i64.wrap ((8 * (dlyI d)) + 4))) (.int .i64 ((8 * (dlyI d)) + 4)), .val 4 (some 2) (.int .i64 ((8 * (dlyI d)) + 4))] ⟨congrArg (Value.int .i64) (IntWalk.i64_in _ (by have := (dly_in d).1; have := (dly_in d).2; omega)), congrArg (Value.int .i64) (IntWalk.i64_in _ (by have := (dly_in d).1; have := (dly_in d).2; omega)), trivial⟩ ?_
  refine dF ?_
  try simp only [puts, Tk.put, Act.put, List.setIfInBounds_toArray, List.set_cons_zero, List.set_cons_succ]
  go_wp2_with fail
  go_ret
  exact ⟨rfl, hM.b⟩
set_option maxRecDepth 100000 in
set_option maxHeartbeats 4000000 in
theorem long_any (d : Int) (w : World) : Calls Try.prog 8 #[.int .i64 d] w fun e W' => e = .returned (.int .i64 (16 * dlyI d + 12)) ∧ Below w.heap.size w W' := by
  have hmx : Try.prog.follows .mixedOrders = true := by kernel_rfl
  have hM := Sep.start w
  go_enter Try.func8, Try.ntmps8
  go_upto_region 0 with fail
  refine wp_region_fromM (fun W => Sep w [] [] W) hM ?_
  clear hM
  rintro Y1 hM
  refine tF 1 [.val 0 (some 2) (.int .i64 0)] trivial ?_
  refine dF ?_
  try simp only [puts, Tk.put, Act.put, List.setIfInBounds_toArray, List.set_cons_zero, List.set_cons_succ]
  go_upto_region 1 with fail
  refine wp_region_fromM (fun W => Sep w [] [] W) hM ?_
  clear hM
  rintro Y2 hM
  refine tF 1 [.val 0 (some 3) (.int .i64 d)] trivial ?_
  refine cF (some 4) 6 #[.int .i64 d] ((delay_any d _).mono ?_)
  rintro e Y3 ⟨rfl, hb⟩
  replace hM := hM.below hb
  clear hb
  refine tF 5 [.alt 2 (some 5) (.int .i64 (IntKind.i64.wrap (16 * (dlyI d)))) (.int .i64 (16 * (dlyI d))), .alt 3 (some 6) (.int .i64 (IntKind.i64.wrap ((16 * (dlyI d)) + 12))) (.int .i64 ((16 * (dlyI d)) + 12)), .val 4 (some 2) (.int .i64 ((16 * (dlyI d)) + 12))] ⟨congrArg (Value.int .i64) (IntWalk.i64_in _ (by have := (dly_in d).1; have := (dly_in d).2; omega)), congrArg (Value.int .i64) (IntWalk.i64_in _ (by have := (dly_in d).1; have := (dly_in d).2; omega)), trivial⟩ ?_
  refine dF ?_
  try simp only [puts, Tk.put, Act.put, List.setIfInBounds_toArray, List.set_cons_zero, List.set_cons_succ]
  go_wp2_with fail
  go_ret
  exact ⟨rfl, hM.b⟩
set_option maxRecDepth 100000 in
set_option maxHeartbeats 4000000 in
theorem release_any (a b d : Int) (w : World) : Calls Try.prog 10 #[.int .i64 a, .int .i64 b, .int .i64 d] w fun e W' => e = .returned (.bool (relB a b d)) ∧ Below w.heap.size w W' := by
  have hmx : Try.prog.follows .mixedOrders = true := by kernel_rfl
  have hM := Sep.start w
  go_enter Try.func10, Try.ntmps10
  go_upto_region 0 with fail
  refine wp_region_fromM (fun W => Sep w [] [] W) hM ?_
  clear hM
  rintro Y1 hM
  refine tF 1 [.val 0 (some 6) (.bool false)] trivial ?_
  refine dF ?_
  try simp only [puts, Tk.put, Act.put, List.setIfInBounds_toArray, List.set_cons_zero, List.set_cons_succ]
  go_upto_region 1 with fail
  refine wp_region_fromM (fun W => Sep w [] [] W) hM ?_
  clear hM
  rintro Y2 hM
  refine tF 2 [.val 0 (some 7) (.int .i64 a), .val 1 (some 8) (.int .i64 b)] trivial ?_
  refine rF (some 9) (.slice (some ⟨Y2.heap.size, 0, none⟩) 2 2) (Y2.alloc (.cells ([.int .i64 a, .int .i64 b]).toArray 3)) ?_
  replace hM := hM.alloc 3 ([.int .i64 a, .int .i64 b])
  generalize World.alloc _ _ = Y3 at *
  generalize hNe : Y2.heap.size = N3 at *
  clear hNe
  refine cF (some 10) 14 #[.slice (some ⟨N3, 0, none⟩) 2 2] ((times_any a b _ (hM.at 0 rfl)).mono ?_)
  rintro e Y4 ⟨rfl, hb⟩
  replace hM := hM.below hb
  clear hb
  refine tF 5 [.val 4 (some 11) (.bool (timesB a b))] trivial ?_
  cases hb1 : timesB a b with
  | false =>
    have Hhb1 := Lib.hid hb1
    clear hb1
    refine tF 9 [.skip 5 (some 12), .skip 6 (some 13), .skip 7 (some 14), .skip 8 (some 15)] trivial ?_
    refine wpFrom_not (d := some 16) (by kernel_rfl) ?_
    refine tF 14 [.skip 10 (some 17), .skip 11 (some 18), .val 12 (some 19) (.bool false), .val 13 (some 6) (.bool false)] trivial ?_
    refine dF ?_
    try simp only [puts, Tk.put, Act.put, List.setIfInBounds_toArray, List.set_cons_zero, List.set_cons_succ]
    go_wp2_with fail
    go_ret
    exact ⟨by unfold relB; rw [Hhb1.out]; rfl, hM.b⟩
  | true =>
    have Hhb1 := Lib.hid hb1
    clear hb1
    have HT := Lib.hid (times_in Hhb1.out)
    refine tF 9 [.val 5 (some 12) (.int .i64 b), .val 6 (some 13) (.int .i64 a), .alt 7 (some 14) (.int .i64 (IntKind.i64.wrap (b - a))) (.int .i64 (b - a)), .val 8 (some 15) (.int .i64 d)] ⟨congrArg (Value.int .i64) (IntWalk.i64_in _ (by have := HT.out; omega)), trivial⟩ ?_
    refine cF (some 16) 6 #[.int .i64 d] ((delay_any d _).mono ?_)
    rintro e Y5 ⟨rfl, hb⟩
    replace hM := hM.below hb
    clear hb
    refine tF 14 [.alt 10 (some 17) (.int .i64 (IntKind.i64.wrap ((dlyI d) + 1))) (.int .i64 ((dlyI d) + 1)), .val 11 (some 18) (.bool (decide (((dlyI d) + 1) < (b - a)))), .val 12 (some 19) (.bool (decide (((dlyI d) + 1) < (b - a)))), .val 13 (some 6) (.bool (decide (((dlyI d) + 1) < (b - a))))] ⟨congrArg (Value.int .i64) (IntWalk.i64_in _ (by have := (dly_in d).1; have := (dly_in d).2; omega)), trivial⟩ ?_
    refine dF ?_
    try simp only [puts, Tk.put, Act.put, List.setIfInBounds_toArray, List.set_cons_zero, List.set_cons_succ]
    go_wp2_with fail
    go_ret
    exact ⟨by unfold relB; rw [Hhb1.out]; rfl, hM.b⟩
set_option maxRecDepth 100000 in
set_option maxHeartbeats 4000000 in
theorem due_any (a b d : Int) (w : World) : Calls Try.prog 12 #[.int .i64 a, .int .i64 b, .int .i64 d] w fun e W' => e = .returned (.bool (dueB a b d)) ∧ Below w.heap.size w W' := by
  have hmx : Try.prog.follows .mixedOrders = true := by kernel_rfl
  have hM := Sep.start w
  go_enter Try.func12, Try.ntmps12
  go_upto_region 0 with fail
  refine wp_region_fromM (fun W => Sep w [] [] W) hM ?_
  clear hM
  rintro Y1 hM
  refine tF 1 [.val 0 (some 6) (.bool false)] trivial ?_
  refine dF ?_
  try simp only [puts, Tk.put, Act.put, List.setIfInBounds_toArray, List.set_cons_zero, List.set_cons_succ]
  go_upto_region 1 with fail
  refine wp_region_fromM (fun W => Sep w [] [] W) hM ?_
  clear hM
  rintro Y2 hM
  refine tF 2 [.val 0 (some 7) (.int .i64 a), .val 1 (some 8) (.int .i64 b)] trivial ?_
  refine rF (some 9) (.slice (some ⟨Y2.heap.size, 0, none⟩) 2 2) (Y2.alloc (.cells ([.int .i64 a, .int .i64 b]).toArray 3)) ?_
  replace hM := hM.alloc 3 ([.int .i64 a, .int .i64 b])
  generalize World.alloc _ _ = Y3 at *
  generalize hNe : Y2.heap.size = N3 at *
  clear hNe
  refine cF (some 10) 14 #[.slice (some ⟨N3, 0, none⟩) 2 2] ((times_any a b _ (hM.at 0 rfl)).mono ?_)
  rintro e Y4 ⟨rfl, hb⟩
  replace hM := hM.below hb
  clear hb
  refine tF 5 [.val 4 (some 11) (.bool (timesB a b))] trivial ?_
  cases hb1 : timesB a b with
  | false =>
    have Hhb1 := Lib.hid hb1
    clear hb1
    refine tF 9 [.skip 5 (some 12), .skip 6 (some 13), .skip 7 (some 14), .skip 8 (some 15)] trivial ?_
    refine wpFrom_not (d := some 16) (by kernel_rfl) ?_
    refine tF 13 [.skip 10 (some 17), .val 11 (some 18) (.bool false), .val 12 (some 6) (.bool false)] trivial ?_
    refine dF ?_
    try simp only [puts, Tk.put, Act.put, List.setIfInBounds_toArray, List.set_cons_zero, List.set_cons_succ]
    go_wp2_with fail
    go_ret
    exact ⟨by unfold dueB; rw [Hhb1.out]; rfl, hM.b⟩
  | true =>
    have Hhb1 := Lib.hid hb1
    clear hb1
    have HT := Lib.hid (times_in Hhb1.out)
    refine tF 9 [.val 5 (some 12) (.int .i64 b), .val 6 (some 13) (.int .i64 a), .alt 7 (some 14) (.int .i64 (IntKind.i64.wrap (b - a))) (.int .i64 (b - a)), .val 8 (some 15) (.int .i64 d)] ⟨congrArg (Value.int .i64) (IntWalk.i64_in _ (by have := HT.out; omega)), trivial⟩ ?_
    refine cF (some 16) 6 #[.int .i64 d] ((delay_any d _).mono ?_)
    rintro e Y5 ⟨rfl, hb⟩
    replace hM := hM.below hb
    clear hb
    refine tF 13 [.val 10 (some 17) (.bool (decide ((dlyI d) < (b - a)))), .val 11 (some 18) (.bool (decide ((dlyI d) < (b - a)))), .val 12 (some 6) (.bool (decide ((dlyI d) < (b - a))))] trivial ?_
    refine dF ?_
    try simp only [puts, Tk.put, Act.put, List.setIfInBounds_toArray, List.set_cons_zero, List.set_cons_succ]
    go_wp2_with fail
    go_ret
    exact ⟨by unfold dueB; rw [Hhb1.out]; rfl, hM.b⟩
set_option maxRecDepth 100000 in
set_option maxHeartbeats 4000000 in
theorem mirror_any (a b d : Int) (w : World) : Calls Try.prog 11 #[.int .i64 a, .int .i64 b, .int .i64 d] w fun e W' => e = .returned (.bool (mirB a b d)) ∧ Below w.heap.size w W' := by
  have hmx : Try.prog.follows .mixedOrders = true := by kernel_rfl
  have hM := Sep.start w
  go_enter Try.func11, Try.ntmps11
  go_upto_region 0 with fail
  refine wp_region_fromM (fun W => Sep w [] [] W) hM ?_
  clear hM
  rintro Y1 hM
  refine tF 1 [.val 0 (some 6) (.bool false)] trivial ?_
  refine dF ?_
  try simp only [puts, Tk.put, Act.put, List.setIfInBounds_toArray, List.set_cons_zero, List.set_cons_succ]
  go_upto_region 1 with fail
  refine wp_region_fromM (fun W => Sep w [] [] W) hM ?_
  clear hM
  rintro Y2 hM
  refine tF 2 [.val 0 (some 7) (.int .i64 a), .val 1 (some 8) (.int .i64 b)] trivial ?_
  refine rF (some 9) (.slice (some ⟨Y2.heap.size, 0, none⟩) 2 2) (Y2.alloc (.cells ([.int .i64 a, .int .i64 b]).toArray 3)) ?_
  replace hM := hM.alloc 3 ([.int .i64 a, .int .i64 b])
  generalize World.alloc _ _ = Y3 at *
  generalize hNe : Y2.heap.size = N3 at *
  clear hNe
  refine cF (some 10) 14 #[.slice (some ⟨N3, 0, none⟩) 2 2] ((times_any a b _ (hM.at 0 rfl)).mono ?_)
  rintro e Y4 ⟨rfl, hb⟩
  replace hM := hM.below hb
  clear hb
  refine tF 5 [.val 4 (some 11) (.bool (timesB a b))] trivial ?_
  cases hb1 : timesB a b with
  | false =>
    have Hhb1 := Lib.hid hb1
    clear hb1
    refine tF 9 [.skip 5 (some 12), .skip 6 (some 13), .skip 7 (some 14), .skip 8 (some 15)] trivial ?_
    refine wpFrom_not (d := some 16) (by kernel_rfl) ?_
    refine tF 11 [.skip 10 (some 17)] trivial ?_
    refine wpFrom_not (d := some 18) (by kernel_rfl) ?_
    refine tF 18 [.skip 12 (some 19), .skip 13 (some 20), .skip 14 (some 21), .skip 15 (some 22), .val 16 (some 23) (.bool false), .val 17 (some 6) (.bool false)] trivial ?_
    refine dF ?_
    try simp only [puts, Tk.put, Act.put, List.setIfInBounds_toArray, List.set_cons_zero, List.set_cons_succ]
    go_wp2_with fail
    go_ret
    exact ⟨by unfold mirB; rw [Hhb1.out]; rfl, hM.b⟩
  | true =>
    have Hhb1 := Lib.hid hb1
    clear hb1
    have HT := Lib.hid (times_in Hhb1.out)
    refine tF 9 [.val 5 (some 12) (.int .i64 b), .val 6 (some 13) (.int .i64 a), .alt 7 (some 14) (.int .i64 (IntKind.i64.wrap (b - a))) (.int .i64 (b - a)), .val 8 (some 15) (.int .i64 d)] ⟨congrArg (Value.int .i64) (IntWalk.i64_in _ (by have := HT.out; omega)), trivial⟩ ?_
    refine cF (some 16) 7 #[.int .i64 d] ((short_any d _).mono ?_)
    rintro e Y5 ⟨rfl, hb⟩
    replace hM := hM.below hb
    clear hb
    refine tF 11 [.val 10 (some 17) (.int .i64 d)] trivial ?_
    refine cF (some 18) 6 #[.int .i64 d] ((delay_any d _).mono ?_)
    rintro e Y6 ⟨rfl, hb⟩
    replace hM := hM.below hb
    clear hb
    refine tF 18 [.alt 12 (some 19) (.int .i64 (IntKind.i64.wrap (3 * (dlyI d)))) (.int .i64 (3 * (dlyI d))), .alt 13 (some 20) (.int .i64 (IntKind.i64.wrap ((8 * dlyI d + 4) + (3 * (dlyI d))))) (.int .i64 ((8 * dlyI d + 4) + (3 * (dlyI d)))), .alt 14 (some 21) (.int .i64 (IntKind.i64.wrap (((8 * dlyI d + 4) + (3 * (dlyI d))) + 2))) (.int .i64 (11 * dlyI d + 6)), .val 15 (some 22) (.bool (decide ((11 * dlyI d + 6) ≤ (b - a)))), .val 16 (some 23) (.bool (decide ((11 * dlyI d + 6) ≤ (b - a)))), .val 17 (some 6) (.bool (decide ((11 * dlyI d + 6) ≤ (b - a))))] ⟨congrArg (Value.int .i64) (IntWalk.i64_in _ (by have := (dly_in d).1; have := (dly_in d).2; omega)), congrArg (Value.int .i64) (IntWalk.i64_in _ (by have := (dly_in d).1; have := (dly_in d).2; omega)), congrArg (Value.int .i64) ((IntWalk.i64_in _ (by have := (dly_in d).1; have := (dly_in d).2; omega)).trans (by omega)), trivial⟩ ?_
    refine dF ?_
    try simp only [puts, Tk.put, Act.put, List.setIfInBounds_toArray, List.set_cons_zero, List.set_cons_succ]
    go_wp2_with fail
    go_ret
    exact ⟨by unfold mirB; rw [Hhb1.out]; rfl, hM.b⟩
set_option maxRecDepth 100000 in
set_option maxHeartbeats 4000000 in
theorem alive17_any (w : World) : Calls Try.prog 13 #[] w fun e W' => e = .returned (.bool true) ∧ Below w.heap.size w W' := by
  have hmx : Try.prog.follows .mixedOrders = true := by kernel_rfl
  have hM := Sep.start w
  go_enter Try.func13, Try.ntmps13
  go_upto_region 0 with fail
  refine wp_region_fromM (fun W => Sep w [] [] W) hM ?_
  clear hM
  rintro Y1 hM
  refine tF 1 [.val 0 (some 0) (.bool false)] trivial ?_
  refine dF ?_
  try simp only [puts, Tk.put, Act.put, List.setIfInBounds_toArray, List.set_cons_zero]
  go_upto_region 1 with fail
  refine wp_region_fromM (fun W => Sep w [] [] W) hM ?_
  clear hM
  rintro Y2 hM
  refine cF (some 1) 8 #[.int .i64 1] ((long_any 1 _).mono ?_)
  rintro e Y3 ⟨rfl, hb⟩
  replace hM := hM.below hb
  clear hb
  refine tF 3 [.alt 1 (some 2) (.bool ((16 * dlyI 1 + 12) == 28)) (.bool true), .val 2 (some 3) (.bool true)] ⟨congrArg Value.bool (by decide), trivial⟩ ?_
  refine cF (some 4) 7 #[.int .i64 1] ((short_any 1 _).mono ?_)
  rintro e Y4 ⟨rfl, hb⟩
  replace hM := hM.below hb
  clear hb
  refine tF 7 [.alt 4 (some 5) (.bool ((8 * dlyI 1 + 4) == 12)) (.bool true), .val 5 (some 6) (.bool true), .val 6 (some 7) (.bool true)] ⟨congrArg Value.bool (by decide), trivial⟩ ?_
  refine cF (some 8) 9 #[.int .i64 1] ((window_any 1 _).mono ?_)
  rintro e Y5 ⟨rfl, hb⟩
  replace hM := hM.below hb
  clear hb
  refine tF 11 [.val 8 (some 9) (.bool true), .val 9 (some 10) (.bool true), .val 10 (some 0) (.bool true)] trivial ?_
  refine dF ?_
  try simp only [puts, Tk.put, Act.put, List.setIfInBounds_toArray, List.set_cons_zero, List.set_cons_succ]
  go_wp2_with fail
  go_ret
  exact ⟨rfl, hM.b⟩
end Go.Proofs.Ytmdnpffoddpomaa
