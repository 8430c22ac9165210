/-
  ClientFees answers true at every input, and leaves its arguments as they are.
-/
import Derived.Deep.Slices
import Derived.SizedLaws
import Derived.Carry
import Derived.ChangeMaps5
import Derived.Test.YtbjpifcgnombaaaK14
namespace Go.Proofs.Ytbjpifcgnombaaa
open Go.RowKit Go.Shelf
attribute [local irreducible] wpFrom wpAnyH StepH
theorem or_nat {a b : Nat} (ha : a < M) (hb : b < M) : bits .or .u64 (a : Int) (b : Int) = ((a ||| b : Nat) : Int) :=
  (Go.bits_nat .u64 64 (by decide) (fun n h0 h1 => wr_u64 n h0 h1) a b (by unfold M at ha; omega) (by unfold M at hb; omega)).2
theorem or_lt {a b : Nat} (ha : a < M) (hb : b < M) : a ||| b < M := by
  unfold M at *
  exact Nat.or_lt_two_pow (n := 64) ha hb
theorem or_zero {a b : Nat} : a ||| b = 0 ↔ a = 0 ∧ b = 0 := Nat.or_eq_zero_iff
theorem fee_words {o : Nat} (ho : o < M4) : 1 < o ↔ (1 < nw o 0 ∨ nw o 1 ||| nw o 2 ||| nw o 3 ≠ 0) := by
  have h := nw_val ho
  unfold val at h
  rw [Ne, or_zero, or_zero]
  have hM : 2 ≤ M := by unfold M; decide
  generalize nw o 0 = a at *
  generalize nw o 1 = b at *
  generalize nw o 2 = c at *
  generalize nw o 3 = d at *
  constructor
  · intro h1
    by_cases g : b = 0 ∧ c = 0 ∧ d = 0
    · obtain ⟨rfl, rfl, rfl⟩ := g
      left; simp at h; omega
    · right; omega
  · rintro (h1 | h1)
    · omega
    · have h2 : 0 < b + M * (c + M * d) := by
        by_cases gb : b = 0
        · by_cases gc : c = 0
          · have gd : 0 < d := by omega
            have := Nat.mul_pos (show 0 < M by omega) (show 0 < c + M * d from Nat.add_pos_right _ (Nat.mul_pos (by omega) gd))
            omega
          · have := Nat.mul_pos (show 0 < M by omega) (show 0 < c + M * d by omega)
            omega
        · omega
      have h3 : M * 1 ≤ M * (b + M * (c + M * d)) := Nat.mul_le_mul_left M h2
      omega
theorem fee_is {o : Nat} (h : 1 < o) : decide (feN o = 1) = true := decide_eq_true (feN_yes h)
theorem fee_none {o : Nat} (ho : o < M4) (h : decide (1 < ((nw o 0 : Nat) : Int)) = false) (h1 : (((nw o 1 ||| nw o 2 ||| nw o 3 : Nat) : Int) != 0) = false) : decide (feN o = 0) = true := decide_eq_true (feN_no fun g => ((fee_words ho).1 g).elim (fun g => by have h := of_decide_eq_false h; omega) (fun g => by
  have h2 : ((nw o 1 ||| nw o 2 ||| nw o 3 : Nat) : Int) = 0 := by simpa using h1
  omega))
set_option maxRecDepth 100000 in
set_option maxHeartbeats 4000000 in
theorem clientFees_any {o : Nat} (user : Int) (ho : o < M4) (w : World) : Calls Try.prog 4 #[.int .i64 user, wn o] w fun e W' => e = .returned (.bool true) ∧ Below w.heap.size w W' := by
  have hmx : Try.prog.follows .mixedOrders = true := by kernel_rfl
  have HO := Lib.hid ho
  clear ho
  have hM := Sep.start w
  have HK2 := Lib.hid (show Int.tmod (Int.tmod user 2 + 2) 2 = ((atC user 2 : Nat) : Int) from atC_eq user (n := 2) (by decide))
  have HS2 := Lib.hid (show IntKind.i64.wrap (Int.tmod user 2 + 2) = Int.tmod user 2 + 2 from atC_sum user (n := 2) (by decide) (by decide))
  have HL2 := Lib.hid (atC_lt user (n := 2) (by decide))
  have HW1 := Lib.hid (or_nat (nw_ok o).h1 (nw_ok o).h2)
  have HW2 := Lib.hid (or_nat (or_lt (nw_ok o).h1 (nw_ok o).h2) (nw_ok o).h3)
  go_enter Try.func4, Try.ntmps4
  go_upto_region 0 with fail
  refine wp_region_fromM (fun W => Sep w [] [] W) hM ?_
  clear hM
  rintro Y1 hM
  refine rF (some 3) (pt Y1.heap.size 0) (Y1.alloc (.cells (wnc o).toArray 24)) ?_
  replace hM := hM.alloc 24 (wnc o)
  generalize World.alloc _ _ = Y2 at *
  generalize hNe : Y1.heap.size = N2 at *
  clear hNe
  refine tF 2 [.val 1 (some 4) (.bool false)] trivial ?_
  refine dF ?_
  try simp only [puts, Tk.put, Act.put, List.setIfInBounds_toArray, List.set_cons_zero, List.set_cons_succ]
  go_upto_region 1 with fail
  refine wp_region_fromM (fun W => Sep w [] [.blk N2 24 (wnc o)] W) hM ?_
  clear hM
  rintro Y3 hM
  refine cF (some 9) 5 #[] ((alive20_any _).mono ?_)
  rintro e Y4 ⟨rfl, hb⟩
  replace hM := hM.below hb
  clear hb
  refine tF 2 [.val 1 (some 10) (.bool false)] trivial ?_
  refine dF ?_
  try simp only [puts, Tk.put, Act.put, List.setIfInBounds_toArray, List.set_cons_zero, List.set_cons_succ]
  go_upto_region 3 with fail
  refine wp_region_fromM (fun W => Sep w [] [.blk N2 24 (wnc o)] W) hM ?_
  clear hM
  rintro Y5 hM
  refine tF 1 [.val 0 (some 12) (.int .i64 user)] trivial ?_
  refine remF (.tmp 12) (.const (.int .i64 2)) 3 3 (some 13) user 2 (Int.tmod user 2) (by decide) rfl ?_
  refine tF 3 [.alt 2 (some 14) (.int .i64 (IntKind.i64.wrap ((Int.tmod user 2) + 2))) (.int .i64 (Int.tmod user 2 + 2))] ⟨congrArg (Value.int .i64) (HS2.out), trivial⟩ ?_
  refine remF (.tmp 14) (.const (.int .i64 2)) 3 3 (some 15) (Int.tmod user 2 + 2) 2 ((atC user 2 : Nat) : Int) (by decide) HK2.out ?_
  refine cF (some 16) 6 #[.int .i64 ((atC user 2 : Nat) : Int), .slice none 0 0, .int .i64 1, .int .i64 900] ((clNew_nil ((atC user 2 : Nat) : Int) 1 900 _ (by have := HL2.out; omega)).mono ?_)
  rintro e Y6 ⟨C6, D6, R6, vo6, vp6, va6, vb6, rfl, hR⟩
  replace hM := hM.gain (Sep.close (ps := CLR C6 D6 R6 (newU ((atC user 2 : Nat) : Int) ⟨#[]⟩ ⟨#[]⟩ 1 900) vo6 vp6 va6 vb6) (l := []) hR)
  clear hR
  refine tF 10 [.val 5 (some 11) (.tuple #[.pointer (some ⟨C6, 0, none⟩), .int .i64 0]), .val 6 (some 17) (pt C6 0), .val 7 (some 18) (.int .i64 0), .val 8 (some 5) (pt C6 0), .val 9 (some 6) (.int .i64 0)] trivial ?_
  refine dF ?_
  try simp only [puts, Tk.put, Act.put, List.setIfInBounds_toArray, List.set_cons_zero, List.set_cons_succ]
  go_upto_region 4 with fail
  refine wp_region_fromM (fun W => Sep w [] [.join (CLR C6 D6 R6 (newU ((atC user 2 : Nat) : Int) ⟨#[]⟩ ⟨#[]⟩ 1 900) vo6 vp6 va6 vb6), .blk N2 24 (wnc o)] W) hM ?_
  clear hM
  rintro Y7 hM
  refine tF 2 [.val 0 (some 19) (pt C6 0), .load 1 (some 20) 24 (pt N2 0) (wn o)] ⟨load_part (hM.at 1 rfl) 0 (wnc o) rfl _ _ Try.underlying24 rfl (by kernel_rfl), trivial⟩ ?_
  refine cF (some 21) 9 #[pt C6 0, wn o] ((clFee_any (pt C6 0) HO.out _).mono ?_)
  rintro e Y8 ⟨rfl, hb⟩
  replace hM := hM.below hb
  clear hb
  refine rF (some 7) (pt Y8.heap.size 0) (Y8.alloc (.cells (wnc 0).toArray 24)) ?_
  replace hM := hM.alloc 24 (wnc 0)
  generalize World.alloc _ _ = Y9 at *
  generalize hNe : Y8.heap.size = N9 at *
  clear hNe
  have hst := sto_part (wnc (feN o)) (hM.at 0 rfl) 0 24 (wn (feN o)) (wnc (feN o)) rfl (by kernel_rfl) (Nat.le_of_ble_eq_true rfl) rfl rfl
  refine sF 24 (pt N9 0) (wn (feN o)) (hst) ?_
  clear hst
  replace hM := hM.set 0 (cs' := wnc (feN o)) rfl rfl
  generalize World.setRow _ _ _ = Y10 at *
  refine dF ?_
  try simp only [puts, Tk.put, Act.put, List.setIfInBounds_toArray, List.set_cons_zero, List.set_cons_succ]
  go_upto_region 5 with fail
  refine wp_region_fromM (fun W => Sep w [] [.blk N9 24 (wnc (feN o)), .join (CLR C6 D6 R6 (newU ((atC user 2 : Nat) : Int) ⟨#[]⟩ ⟨#[]⟩ 1 900) vo6 vp6 va6 vb6), .blk N2 24 (wnc o)] W) hM ?_
  clear hM
  rintro Y11 hM
  refine tF 1 [.val 0 (some 22) (wn 0)] trivial ?_
  refine rF (some 8) (pt Y11.heap.size 0) (Y11.alloc (.cells (wnc 0).toArray 24)) ?_
  replace hM := hM.alloc 24 (wnc 0)
  generalize World.alloc _ _ = Y12 at *
  generalize hNe : Y11.heap.size = N12 at *
  clear hNe
  have hst := sto_part (wnc 0) (hM.at 0 rfl) 0 24 (wn 0) (wnc 0) rfl (by kernel_rfl) (Nat.le_of_ble_eq_true rfl) rfl rfl
  refine sF 24 (pt N12 0) (wn 0) (hst) ?_
  clear hst
  replace hM := hM.set 0 (cs' := wnc 0) rfl rfl
  generalize World.setRow _ _ _ = Y13 at *
  refine dF ?_
  try simp only [puts, Tk.put, Act.put, List.setIfInBounds_toArray, List.set_cons_zero, List.set_cons_succ]
  go_upto_region 6 with fail
  refine wp_region_fromM (fun W => Sep w [] [.blk N12 24 (wnc 0), .blk N9 24 (wnc (feN o)), .join (CLR C6 D6 R6 (newU ((atC user 2 : Nat) : Int) ⟨#[]⟩ ⟨#[]⟩ 1 900) vo6 vp6 va6 vb6), .blk N2 24 (wnc o)] W) hM ?_
  clear hM
  rintro Y14 hM
  refine tF 4 [.idx 0 (some 23) 24 (pt N2 0) (.int .i64 0) (pt N2 0), .load 1 (some 24) 22 (pt N2 0) (.int .u64 ((nw o 0 : Nat) : Int)), .val 2 (some 25) (.bool (decide (1 < ((nw o 0 : Nat) : Int)))), .val 3 (some 26) (.bool (decide (1 < ((nw o 0 : Nat) : Int))))] ⟨(idx_arr (k := 0) (c := 1) Try.underlying24 (by kernel_rfl) (by decide)), ld_any _ _ Try.underlying22 rfl (hM.at 3 rfl) 0 rfl, trivial⟩ ?_
  cases hb1 : decide (1 < ((nw o 0 : Nat) : Int)) with
  | false =>
    have Hhb1 := Lib.hid hb1
    clear hb1
    refine tF 14 [.idx 4 (some 27) 24 (pt N2 0) (.int .i64 1) (pt N2 1), .load 5 (some 28) 22 (pt N2 1) (.int .u64 ((nw o 1 : Nat) : Int)), .idx 6 (some 29) 24 (pt N2 0) (.int .i64 2) (pt N2 2), .load 7 (some 30) 22 (pt N2 2) (.int .u64 ((nw o 2 : Nat) : Int)), .alt 8 (some 31) (.int .u64 (bits .or .u64 ((nw o 1 : Nat) : Int) ((nw o 2 : Nat) : Int))) (.int .u64 ((nw o 1 ||| nw o 2 : Nat) : Int)), .idx 9 (some 32) 24 (pt N2 0) (.int .i64 3) (pt N2 3), .load 10 (some 33) 22 (pt N2 3) (.int .u64 ((nw o 3 : Nat) : Int)), .alt 11 (some 34) (.int .u64 (bits .or .u64 ((nw o 1 ||| nw o 2 : Nat) : Int) ((nw o 3 : Nat) : Int))) (.int .u64 ((nw o 1 ||| nw o 2 ||| nw o 3 : Nat) : Int)), .val 12 (some 35) (.bool (((nw o 1 ||| nw o 2 ||| nw o 3 : Nat) : Int) != 0)), .val 13 (some 36) (.bool (((nw o 1 ||| nw o 2 ||| nw o 3 : Nat) : Int) != 0))] ⟨(idx_arr (k := 1) (c := 1) Try.underlying24 (by kernel_rfl) (by decide)), ld_any _ _ Try.underlying22 rfl (hM.at 3 rfl) 1 rfl, (idx_arr (k := 2) (c := 1) Try.underlying24 (by kernel_rfl) (by decide)), ld_any _ _ Try.underlying22 rfl (hM.at 3 rfl) 2 rfl, congrArg (Value.int .u64) (HW1.out), (idx_arr (k := 3) (c := 1) Try.underlying24 (by kernel_rfl) (by decide)), ld_any _ _ Try.underlying22 rfl (hM.at 3 rfl) 3 rfl, congrArg (Value.int .u64) (HW2.out), trivial⟩ ?_
    refine dF ?_
    try simp only [puts, Tk.put, Act.put, List.setIfInBounds_toArray, List.set_cons_zero, List.set_cons_succ]
    cases hb2 : ((nw o 1 ||| nw o 2 ||| nw o 3 : Nat) : Int) != 0 with
    | false =>
      have Hhb2 := Lib.hid hb2
      clear hb2
      go_upto_region 8 with fail
      refine wp_region_fromM (fun W => Sep w [] [.blk N12 24 (wnc 0), .blk N9 24 (wnc (feN o)), .join (CLR C6 D6 R6 (newU ((atC user 2 : Nat) : Int) ⟨#[]⟩ ⟨#[]⟩ 1 900) vo6 vp6 va6 vb6), .blk N2 24 (wnc o)] W) hM ?_
      clear hM
      rintro Y15 hM
      refine tF 5 [.val 0 (some 38) (.int .i64 0), .val 1 (some 39) (.bool true), .val 2 (some 40) (.bool true), .load 3 (some 41) 24 (pt N9 0) (wn (feN o)), .load 4 (some 42) 24 (pt N12 0) (wn 0)] ⟨load_part (hM.at 1 rfl) 0 (wnc (feN o)) rfl _ _ Try.underlying24 rfl (by kernel_rfl), load_part (hM.at 0 rfl) 0 (wnc 0) rfl _ _ Try.underlying24 rfl (by kernel_rfl), trivial⟩ ?_
      refine eqA (.tmp 41) (.tmp 42) 24 (some 43) (wnc (feN o)).toArray (wnc 0).toArray true (Eq.trans (run_eqN (feN_lt _) (word_lt4 (by unfold M; decide)) _) (congrArg (fun z => Result.ok z _) (fee_none HO.out Hhb1.out Hhb2.out))) ?_
      refine tF 8 [.val 6 (some 44) (.bool true), .val 7 (some 4) (.bool true)] trivial ?_
      refine dF ?_
      try simp only [puts, Tk.put, Act.put, List.setIfInBounds_toArray, List.set_cons_zero, List.set_cons_succ]
      go_wp2_with fail
      go_ret
      exact ⟨rfl, hM.b⟩
    | true =>
      have Hhb2 := Lib.hid hb2
      clear hb2
      go_upto_region 7 with fail
      refine wp_region_fromM (fun W => Sep w [] [.blk N12 24 (wnc 0), .blk N9 24 (wnc (feN o)), .join (CLR C6 D6 R6 (newU ((atC user 2 : Nat) : Int) ⟨#[]⟩ ⟨#[]⟩ 1 900) vo6 vp6 va6 vb6), .blk N2 24 (wnc o)] W) hM ?_
      clear hM
      rintro Y16 hM
      refine tF 1 [.val 0 (some 37) (wn 1)] trivial ?_
      have hst := sto_part (wnc 1) (hM.at 0 rfl) 0 24 (wn 1) (wnc 1) rfl (by kernel_rfl) (Nat.le_of_ble_eq_true rfl) rfl rfl
      refine sF 24 (pt N12 0) (wn 1) (hst) ?_
      clear hst
      replace hM := hM.set 0 (cs' := wnc 1) rfl rfl
      generalize World.setRow _ _ _ = Y17 at *
      refine dF ?_
      try simp only [puts, Tk.put, Act.put, List.setIfInBounds_toArray, List.set_cons_zero, List.set_cons_succ]
      go_upto_region 8 with fail
      refine wp_region_fromM (fun W => Sep w [] [.blk N12 24 (wnc 1), .blk N9 24 (wnc (feN o)), .join (CLR C6 D6 R6 (newU ((atC user 2 : Nat) : Int) ⟨#[]⟩ ⟨#[]⟩ 1 900) vo6 vp6 va6 vb6), .blk N2 24 (wnc o)] W) hM ?_
      clear hM
      rintro Y18 hM
      refine tF 5 [.val 0 (some 38) (.int .i64 0), .val 1 (some 39) (.bool true), .val 2 (some 40) (.bool true), .load 3 (some 41) 24 (pt N9 0) (wn (feN o)), .load 4 (some 42) 24 (pt N12 0) (wn 1)] ⟨load_part (hM.at 1 rfl) 0 (wnc (feN o)) rfl _ _ Try.underlying24 rfl (by kernel_rfl), load_part (hM.at 0 rfl) 0 (wnc 1) rfl _ _ Try.underlying24 rfl (by kernel_rfl), trivial⟩ ?_
      refine eqA (.tmp 41) (.tmp 42) 24 (some 43) (wnc (feN o)).toArray (wnc 1).toArray true (Eq.trans (run_eqN (feN_lt _) (word_lt4 (by unfold M; decide)) _) (congrArg (fun z => Result.ok z _) (fee_is ((fee_words HO.out).2 (.inr (by have h := bne_iff_ne.1 Hhb2.out; omega)))))) ?_
      refine tF 8 [.val 6 (some 44) (.bool true), .val 7 (some 4) (.bool true)] trivial ?_
      refine dF ?_
      try simp only [puts, Tk.put, Act.put, List.setIfInBounds_toArray, List.set_cons_zero, List.set_cons_succ]
      go_wp2_with fail
      go_ret
      exact ⟨rfl, hM.b⟩
  | true =>
    have Hhb1 := Lib.hid hb1
    clear hb1
    refine tF 14 [.skip 4 (some 27), .skip 5 (some 28), .skip 6 (some 29), .skip 7 (some 30), .skip 8 (some 31), .skip 9 (some 32), .skip 10 (some 33), .skip 11 (some 34), .skip 12 (some 35), .val 13 (some 36) (.bool true)] trivial ?_
    refine dF ?_
    try simp only [puts, Tk.put, Act.put, List.setIfInBounds_toArray, List.set_cons_zero, List.set_cons_succ]
    go_upto_region 7 with fail
    refine wp_region_fromM (fun W => Sep w [] [.blk N12 24 (wnc 0), .blk N9 24 (wnc (feN o)), .join (CLR C6 D6 R6 (newU ((atC user 2 : Nat) : Int) ⟨#[]⟩ ⟨#[]⟩ 1 900) vo6 vp6 va6 vb6), .blk N2 24 (wnc o)] W) hM ?_
    clear hM
    rintro Y19 hM
    refine tF 1 [.val 0 (some 37) (wn 1)] trivial ?_
    have hst := sto_part (wnc 1) (hM.at 0 rfl) 0 24 (wn 1) (wnc 1) rfl (by kernel_rfl) (Nat.le_of_ble_eq_true rfl) rfl rfl
    refine sF 24 (pt N12 0) (wn 1) (hst) ?_
    clear hst
    replace hM := hM.set 0 (cs' := wnc 1) rfl rfl
    generalize World.setRow _ _ _ = Y20 at *
    refine dF ?_
    try simp only [puts, Tk.put, Act.put, List.setIfInBounds_toArray, List.set_cons_zero, List.set_cons_succ]
    go_upto_region 8 with fail
    refine wp_region_fromM (fun W => Sep w [] [.blk N12 24 (wnc 1), .blk N9 24 (wnc (feN o)), .join (CLR C6 D6 R6 (newU ((atC user 2 : Nat) : Int) ⟨#[]⟩ ⟨#[]⟩ 1 900) vo6 vp6 va6 vb6), .blk N2 24 (wnc o)] W) hM ?_
    clear hM
    rintro Y21 hM
    refine tF 5 [.val 0 (some 38) (.int .i64 0), .val 1 (some 39) (.bool true), .val 2 (some 40) (.bool true), .load 3 (some 41) 24 (pt N9 0) (wn (feN o)), .load 4 (some 42) 24 (pt N12 0) (wn 1)] ⟨load_part (hM.at 1 rfl) 0 (wnc (feN o)) rfl _ _ Try.underlying24 rfl (by kernel_rfl), load_part (hM.at 0 rfl) 0 (wnc 1) rfl _ _ Try.underlying24 rfl (by kernel_rfl), trivial⟩ ?_
    refine eqA (.tmp 41) (.tmp 42) 24 (some 43) (wnc (feN o)).toArray (wnc 1).toArray true (Eq.trans (run_eqN (feN_lt _) (word_lt4 (by unfold M; decide)) _) (congrArg (fun z => Result.ok z _) (fee_is ((fee_words HO.out).2 (.inl (by have h := of_decide_eq_true Hhb1.out; omega)))))) ?_
    refine tF 8 [.val 6 (some 44) (.bool true), .val 7 (some 4) (.bool true)] trivial ?_
    refine dF ?_
    try simp only [puts, Tk.put, Act.put, List.setIfInBounds_toArray, List.set_cons_zero, List.set_cons_succ]
    go_wp2_with fail
    go_ret
    exact ⟨rfl, hM.b⟩
end Go.Proofs.Ytbjpifcgnombaaa
namespace Go.Proofs.Ytbjpifcgnombaaa
open Go.ChangeShapes Go.WideShapes Go.ChangeAt Go.RowKit Go.Deep
open Go.ChangeMaps (open_string)
set_option maxRecDepth 100000 in
theorem clientFees_lifted (os : Os) (started : os.Started) (H : Type) (enc : TypeId × Value → H) :
    ReturnsInHanded {} Try.checked os 4 .any (Rows.clientFeesSpec.pre6 enc Try.prog Try.f4 Rows.clientFeesRow.domain false) (Rows.clientFeesSpec.post enc Try.prog Try.f4 false true false false) := by
  refine returnsInHanded_of_change_sized (C := Try.checked) Try.own started (by kernel_rfl) Try.func4
    (ChangeSpec.witness6 (enc := enc) (C := Try.checked) false ⟨#[], #[.int .i64 0, .agg #[.int .u64 0, .int .u64 0, .int .u64 0, .int .u64 0]], []⟩ 8 (by kernel_rfl) (by kernel_rfl) (by kernel_rfl) (by kernel_rfl)) ?_
  intro W base args ds gs before hval0 hW hcnd hsz0 _
  have hval : ∀ (j : Nat) t v, Try.f4.params[j]? = some t → args[j]? = some v → Value.okWide Try.prog W .any base t v := hval0
  have hW' := hW
  obtain ⟨p, q, hA0, hV, rfl, hfz, hnd⟩ := hW
  have hA : DataW.TrodAll enc Try.prog W 0 (fun _ => true) true Try.f4.params.toList args.toList ds p := hA0
  have hsz : (DataW.weightsEach Try.prog (Try.f4.params.toList ++ Rows.clientFeesSpec.plain.varTypes Try.prog) (ds ++ gs)).all (· ≤ reachBytes) = true := hsz0
  rw [Try.params4] at hA hval hsz
  obtain ⟨v0, v1, d0, d1, p0, p1, rfl, rfl, rfl, h0, h1⟩ := trodAll_two hA
  obtain ⟨rfl, rfl⟩ := trodVars_none hV
  have k0 := h0
  have k1 := h1
  have lt0 : ∀ x ∈ p0, x.block < W.heap.size := by obtain ⟨m, hm⟩ := k0; exact DataW.trod_lt m _ _ _ hm
  have lt1 : ∀ x ∈ p1, x.block < W.heap.size := by obtain ⟨m, hm⟩ := k1; exact DataW.trod_lt m _ _ _ hm
  obtain ⟨z0, rfl, _, _, wf0⟩ := open_int Try.underlying3 (hval 0 3 v0 rfl rfl) h0
  obtain ⟨zl0, zh0⟩ := wf_i64 wf0
  obtain ⟨n1, hn1, rfl⟩ := open_widen (hval 1 24 v1 rfl rfl) h1
  clear hA0 hval0
  refine (clientFees_any z0 hn1 W).mono fun e W' ⟨he, bel⟩ => ?_
  subst he
  exact ⟨_, rfl, _, _, _, [], _, [], hW', trodAll_mk1 (shut_bool Try.underlying4 _), (trodAll_mk2 (Below.trod Try.laidOut (by kernel_rfl) (of_decide_eq_true (by kernel_rfl)) k0 bel lt0) (Below.trod Try.laidOut (by kernel_rfl) (of_decide_eq_true (by kernel_rfl)) k1 bel lt1)), rfl, bel.frame _, fun h => by cases h⟩
theorem clientFees_over : Rows.clientFeesRow.holds Try.pinned (OpenSpec.ofChange Rows.clientFeesSpec) :=
  OpenClaim.holds_of_wide 4 Try.f4 rfl rfl rfl rfl rfl rfl rfl ⟨rfl, rfl, rfl, rfl, rfl⟩ rfl rfl rfl rfl rfl (by kernel_rfl) Try.func4 (by kernel_rfl)
    (of_decide_eq_true (by kernel_rfl)) (by unfold Func.isWrapper; first | (rw [if_pos (by decide +kernel)]; kernel_rfl) | (rw [if_neg (by decide +kernel)]; exact ⟨rfl, rfl⟩))
    (fun os started H enc _ => clientFees_lifted os started H enc)
theorem clientFees_proved : Rows.ClientFeesSaid := clientFees_over
end Go.Proofs.Ytbjpifcgnombaaa
