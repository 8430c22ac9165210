/-
  ClientAsks answers true at every input, and leaves its arguments as they are.
-/
import Derived.Deep.Slices
import Derived.SizedLaws
import Derived.Carry
import Derived.ChangeMaps5
import Derived.Test.YtbjpifcgnombaaaK14
namespace Go.Proofs.Ytbjpifcgnombaaa
open Go.RowKit Go.Shelf
attribute [local irreducible] wpFrom wpAnyH StepH
abbrev u0 (u : Int) : Cl := newU u ⟨#[]⟩ ⟨#[]⟩ 1 9000
def u1 (u : Int) (a : Ak) (now : Int) : Cl := { u0 u with rm := ⟨⟨#[]⟩, ⟨#[]⟩, [⟨a, sinceI now⟩], []⟩ }
section
variable {u : Int} {a b : Ak} {now : Int}
theorem u0_us (h : (a.us != u) = true) : askU (u0 u) a now = (u0 u, noM, 39) := askU_us rfl h
theorem u0_bad (h : (a.us != u) = false) (h1 : (errA a != 0) = true) : askU (u0 u) a now = (u0 u, noM, 39) := by
  have h2 : errA a = 39 := errA_bad fun g => by rw [errA_zero g] at h1; exact absurd h1 (by decide)
  have e : openR (u0 u).rm a now = ((u0 u).rm, 39) := by unfold openR; rw [if_pos (by rw [h2]; decide), h2]
  rw [askU_no rfl h rfl (by rw [e]; rfl), e]
theorem u0_ok (h : (a.us != u) = false) (h1 : (errA a != 0) = false) : askU (u0 u) a now = (u1 u a now, msA a, 0) := by
  have h2 : errA a = 0 := by simpa using h1
  have e : openR (u0 u).rm a now = (⟨⟨#[]⟩, ⟨#[]⟩, [⟨a, sinceI now⟩], []⟩, 0) := by
    unfold openR
    rw [if_neg (by rw [h2]; decide), if_neg (show ¬ (openL (u0 u).rm.ls a).isSome = true from fun e => Bool.false_ne_true e), if_neg (show ¬ 8 ≤ (u0 u).rm.ls.length from fun e => absurd (show 8 ≤ 0 from e) (by decide))]
    rfl
  rw [askU_ok rfl h rfl (by rw [e]; rfl), e]
  rfl
theorem u1_us (h : (b.us != u) = true) : askU (u1 u a now) b now = (u1 u a now, noM, 39) := askU_us rfl h
theorem u1_bad (h : (b.us != u) = false) (h1 : (errA b != 0) = true) : askU (u1 u a now) b now = (u1 u a now, noM, 39) := by
  have h2 : errA b = 39 := errA_bad fun g => by rw [errA_zero g] at h1; exact absurd h1 (by decide)
  have e : openR (u1 u a now).rm b now = ((u1 u a now).rm, 39) := by unfold openR; rw [if_pos (by rw [h2]; decide), h2]
  rw [askU_no rfl h rfl (by rw [e]; rfl), e]
theorem u1_is (h : (b.us != u) = false) (h1 : (errA b != 0) = false) (h3 : decide (b = a) = true) : askU (u1 u a now) b now = (u1 u a now, noM, 32) := by
  obtain rfl := of_decide_eq_true h3
  have h2 : errA b = 0 := by simpa using h1
  have e : openR (u1 u b now).rm b now = ((u1 u b now).rm, 32) := by unfold openR; rw [if_neg (by rw [h2]; decide), if_pos (by unfold openL isA u1; simp)]
  rw [askU_no rfl h rfl (by rw [e]; rfl), e]
theorem u1_ok (h : (b.us != u) = false) (h1 : (errA b != 0) = false) (h3 : decide (b = a) = false) : ∃ c, askU (u1 u a now) b now = (c, msA b, 0) := by
  have h2 : errA b = 0 := by simpa using h1
  have hn : (openL (u1 u a now).rm.ls b).isSome = false := by
    have : ¬ a = b := fun g => of_decide_eq_false h3 g.symm
    unfold openL isA u1; simp [this]
  have e : (openR (u1 u a now).rm b now).2 = 0 := by unfold openR; rw [if_neg (by rw [h2]; decide), if_neg (by rw [hn]; decide), if_neg (show ¬ 8 ≤ (u1 u a now).rm.ls.length from fun e => absurd (show 8 ≤ 1 from e) (by decide))]
  exact ⟨_, askU_ok rfl h rfl (by rw [e]; rfl)⟩
end
set_option maxRecDepth 100000 in
set_option maxHeartbeats 4000000 in
theorem clientAsks_any (user : Int) (a again : Ak) (now : Int) (w : World) : Calls Try.prog 3 #[.int .i64 user, akv a, akv again, .int .i64 now] w fun e W' => e = .returned (.bool true) ∧ Below w.heap.size w W' := by
  have hmx : Try.prog.follows .mixedOrders = true := by kernel_rfl
  have hM := Sep.start w
  go_enter Try.func3, Try.ntmps3
  go_upto_region 0 with fail
  refine wp_region_fromM (fun W => Sep w [] [] W) hM ?_
  clear hM
  rintro Y1 hM
  refine rF (some 5) (pt Y1.heap.size 0) (Y1.alloc (.cells (akc a).toArray 26)) ?_
  replace hM := hM.alloc 26 (akc a)
  generalize World.alloc _ _ = Y2 at *
  generalize hNe : Y1.heap.size = N2 at *
  clear hNe
  refine rF (some 6) (pt Y2.heap.size 0) (Y2.alloc (.cells (akc again).toArray 26)) ?_
  replace hM := hM.alloc 26 (akc again)
  generalize World.alloc _ _ = Y3 at *
  generalize hNe : Y2.heap.size = N3 at *
  clear hNe
  refine tF 3 [.val 2 (some 8) (.bool false)] trivial ?_
  refine dF ?_
  try simp only [puts, Tk.put, Act.put, List.setIfInBounds_toArray, List.set_cons_zero, List.set_cons_succ]
  go_upto_region 1 with fail
  refine wp_region_fromM (fun W => Sep w [] [.blk N3 26 (akc again), .blk N2 26 (akc a)] W) hM ?_
  clear hM
  rintro Y4 hM
  refine cF (some 17) 5 #[] ((alive20_any _).mono ?_)
  rintro e Y5 ⟨rfl, hb⟩
  replace hM := hM.below hb
  clear hb
  refine tF 2 [.val 1 (some 18) (.bool false)] trivial ?_
  refine dF ?_
  try simp only [puts, Tk.put, Act.put, List.setIfInBounds_toArray, List.set_cons_zero, List.set_cons_succ]
  go_upto_region 3 with fail
  refine wp_region_fromM (fun W => Sep w [] [.blk N3 26 (akc again), .blk N2 26 (akc a)] W) hM ?_
  clear hM
  rintro Y6 hM
  refine tF 1 [.val 0 (some 20) (.int .i64 user)] trivial ?_
  cases hb1 : decide (user < 0) with
  | false =>
    have Hhb1 := Lib.hid hb1
    clear hb1
    cases hb2 : decide (1 < user) with
    | false =>
      have Hhb2 := Lib.hid hb2
      clear hb2
      refine cF (some 21) 6 #[.int .i64 user, .slice none 0 0, .int .i64 1, .int .i64 9000] ((clNew_nil user 1 9000 _ (by have h := of_decide_eq_false Hhb1.out; have h2 := of_decide_eq_false Hhb2.out; omega)).mono ?_)
      rintro e Y7 ⟨C7, D7, R7, vo7, vp7, va7, vb7, rfl, hR⟩
      replace hM := hM.gain (Sep.close (ps := CLR C7 D7 R7 (newU user ⟨#[]⟩ ⟨#[]⟩ 1 9000) vo7 vp7 va7 vb7) (l := []) hR)
      clear hR
      refine tF 7 [.val 2 (some 19) (.tuple #[.pointer (some ⟨C7, 0, none⟩), .int .i64 0]), .val 3 (some 22) (pt C7 0), .val 4 (some 23) (.int .i64 0), .val 5 (some 9) (pt C7 0), .val 6 (some 10) (.int .i64 0)] trivial ?_
      refine dF ?_
      try simp only [puts, Tk.put, Act.put, List.setIfInBounds_toArray, List.set_cons_zero, List.set_cons_succ]
      go_upto_region 4 with fail
      refine wp_region_fromM (fun W => Sep w [] [.join (CLR C7 D7 R7 (newU user ⟨#[]⟩ ⟨#[]⟩ 1 9000) vo7 vp7 va7 vb7), .blk N3 26 (akc again), .blk N2 26 (akc a)] W) hM ?_
      clear hM
      rintro Y8 hM
      refine tF 6 [.val 0 (some 24) (.int .i64 user), .alt 1 (some 25) (.bool (decide (user < 0))) (.bool false), .val 2 (some 26) (.bool false), .val 3 (some 27) (.int .i64 user), .alt 4 (some 28) (.bool (decide (1 < user))) (.bool false), .val 5 (some 29) (.bool false)] ⟨congrArg Value.bool (Hhb1.out), congrArg Value.bool (Hhb2.out), trivial⟩ ?_
      refine dF ?_
      try simp only [puts, Tk.put, Act.put, List.setIfInBounds_toArray, List.set_cons_zero, List.set_cons_succ]
      go_upto_region 6 with fail
      refine wp_region_fromM (fun W => Sep w [] [.join (CLR C7 D7 R7 (newU user ⟨#[]⟩ ⟨#[]⟩ 1 9000) vo7 vp7 va7 vb7), .blk N3 26 (akc again), .blk N2 26 (akc a)] W) hM ?_
      clear hM
      rintro Y9 hM
      refine tF 3 [.val 0 (some 37) (pt C7 0), .load 1 (some 38) 26 (pt N2 0) (akv a), .val 2 (some 39) (.int .i64 now)] ⟨load_part (hM.at 2 rfl) 0 (akc a) rfl _ _ Try.underlying26 rfl (by kernel_rfl), trivial⟩ ?_
      cases hb3 : a.us != user with
      | false =>
        have Hhb3 := Lib.hid hb3
        clear hb3
        cases hb4 : errA a != 0 with
        | false =>
          have Hhb4 := Lib.hid hb4
          clear hb4
          have hq := clAsk_any a now _ (hM.oka 0 rfl)
          rw [u0_ok Hhb3.out Hhb4.out] at hq
          refine cF (some 40) 7 #[pt C7 0, akv a, .int .i64 now] ((hq).mono ?_)
          rintro e Y10 ⟨rfl, vo10, vp10, va10, vb10, hT⟩
          clear hq
          replace hM := hM.turn 0 rfl hT rfl
          clear hT
          refine tF 7 [.val 4 (some 36) (.tuple #[msv ({ noM with kd := 1, ak := a }), .int .i64 0]), .val 5 (some 41) (msv ({ noM with kd := 1, ak := a })), .val 6 (some 42) (.int .i64 0)] trivial ?_
          refine rF (some 11) (pt Y10.heap.size 0) (Y10.alloc (.cells (msc noM).toArray 39)) ?_
          replace hM := hM.alloc 39 (msc noM)
          generalize World.alloc _ _ = Y11 at *
          generalize hNe : Y10.heap.size = N11 at *
          clear hNe
          have hst := sto_part (msc ({ noM with kd := 1, ak := a })) (hM.at 0 rfl) 0 39 (msv ({ noM with kd := 1, ak := a })) (msc ({ noM with kd := 1, ak := a })) rfl (by kernel_rfl) (Nat.le_of_ble_eq_true rfl) rfl rfl
          refine sF 39 (pt N11 0) (msv ({ noM with kd := 1, ak := a })) (hst) ?_
          clear hst
          replace hM := hM.set 0 (cs' := msc ({ noM with kd := 1, ak := a })) rfl rfl
          generalize World.setRow _ _ _ = Y12 at *
          refine tF 10 [.val 9 (some 12) (.int .i64 0)] trivial ?_
          refine dF ?_
          try simp only [puts, Tk.put, Act.put, List.setIfInBounds_toArray, List.set_cons_zero, List.set_cons_succ]
          go_upto_region 12 with fail
          refine wp_region_fromM (fun W => Sep w [] [.blk N11 39 (msc ({ noM with kd := 1, ak := a })), .join (CLR C7 D7 R7 (u1 user a now) vo10 vp10 va10 vb10), .blk N3 26 (akc again), .blk N2 26 (akc a)] W) hM ?_
          clear hM
          rintro Y13 hM
          refine tF 6 [.val 0 (some 61) (pt N2 0), .load 1 (some 62) 3 (pt N2 0) (.int .i64 a.us), .val 2 (some 63) (.int .i64 user), .alt 3 (some 64) (.bool (a.us != user)) (.bool false), .val 4 (some 65) (.bool false), .load 5 (some 66) 26 (pt N2 0) (akv a)] ⟨ld_any _ _ Try.underlying3 rfl (hM.at 3 rfl) 0 rfl, congrArg Value.bool (Hhb3.out), load_part (hM.at 3 rfl) 0 (akc a) rfl _ _ Try.underlying26 rfl (by kernel_rfl), trivial⟩ ?_
          refine cF (some 67) 8 #[akv a] ((refAsk_any a _).mono ?_)
          rintro e Y14 ⟨rfl, hb⟩
          replace hM := hM.below hb
          clear hb
          refine tF 10 [.alt 7 (some 68) (.bool ((errA a) != 0)) (.bool false), .val 8 (some 69) (.bool false), .val 9 (some 60) (.bool false)] ⟨congrArg Value.bool (Hhb4.out), trivial⟩ ?_
          refine dF ?_
          try simp only [puts, Tk.put, Act.put, List.setIfInBounds_toArray, List.set_cons_zero, List.set_cons_succ]
          go_upto_region 7 with fail
          refine wp_region_fromM (fun W => Sep w [] [.blk N11 39 (msc ({ noM with kd := 1, ak := a })), .join (CLR C7 D7 R7 (u1 user a now) vo10 vp10 va10 vb10), .blk N3 26 (akc again), .blk N2 26 (akc a)] W) hM ?_
          clear hM
          rintro Y15 hM
          refine tF 6 [.val 0 (some 43) (.int .i64 0), .val 1 (some 44) (.bool false), .val 2 (some 45) (.bool false), .load 3 (some 46) 39 (pt N11 0) (msv ({ noM with kd := 1, ak := a })), .load 4 (some 47) 26 (pt N2 0) (akv a), .val 5 (some 48) (msv ({ noM with kd := 1, ak := a }))] ⟨load_part (hM.at 0 rfl) 0 (msc ({ noM with kd := 1, ak := a })) rfl _ _ Try.underlying39 rfl (by kernel_rfl), load_part (hM.at 3 rfl) 0 (akc a) rfl _ _ Try.underlying26 rfl (by kernel_rfl), trivial⟩ ?_
          refine neA (.tmp 46) (.tmp 48) 39 (some 49) (msc ({ noM with kd := 1, ak := a })).toArray (msc ({ noM with kd := 1, ak := a })).toArray true (Eq.trans (run_eqM ({ noM with kd := 1, ak := a }) ({ noM with kd := 1, ak := a }) _) (congrArg (fun z => Result.ok z _) (eqM_refl _))) ?_
          refine tF 8 [.val 7 (some 50) (.bool false)] trivial ?_
          refine dF ?_
          try simp only [puts, Tk.put, Act.put, List.setIfInBounds_toArray, List.set_cons_zero, List.set_cons_succ]
          go_upto_region 9 with fail
          refine wp_region_fromM (fun W => Sep w [] [.blk N11 39 (msc ({ noM with kd := 1, ak := a })), .join (CLR C7 D7 R7 (u1 user a now) vo10 vp10 va10 vb10), .blk N3 26 (akc again), .blk N2 26 (akc a)] W) hM ?_
          clear hM
          rintro Y16 hM
          refine tF 3 [.val 0 (some 52) (pt C7 0), .load 1 (some 53) 26 (pt N2 0) (akv a), .val 2 (some 54) (.int .i64 now)] ⟨load_part (hM.at 3 rfl) 0 (akc a) rfl _ _ Try.underlying26 rfl (by kernel_rfl), trivial⟩ ?_
          have hq := clAsk_any a now _ (hM.oka 1 rfl)
          rw [u1_is Hhb3.out Hhb4.out (decide_eq_true rfl)] at hq
          refine cF (some 55) 7 #[pt C7 0, akv a, .int .i64 now] ((hq).mono ?_)
          rintro e Y17 ⟨rfl, vo17, vp17, va17, vb17, hT⟩
          clear hq
          replace hM := hM.turn 1 rfl hT rfl
          clear hT
          refine tF 7 [.val 4 (some 51) (.tuple #[msv noM, .int .i64 32]), .val 5 (some 56) (msv noM), .val 6 (some 57) (.int .i64 32)] trivial ?_
          refine rF (some 13) (pt Y17.heap.size 0) (Y17.alloc (.cells (msc noM).toArray 39)) ?_
          replace hM := hM.alloc 39 (msc noM)
          generalize World.alloc _ _ = Y18 at *
          generalize hNe : Y17.heap.size = N18 at *
          clear hNe
          have hst := sto_part (msc noM) (hM.at 0 rfl) 0 39 (msv noM) (msc noM) rfl (by kernel_rfl) (Nat.le_of_ble_eq_true rfl) rfl rfl
          refine sF 39 (pt N18 0) (msv noM) (hst) ?_
          clear hst
          replace hM := hM.set 0 (cs' := msc noM) rfl rfl
          generalize World.setRow _ _ _ = Y19 at *
          refine tF 10 [.val 9 (some 14) (.int .i64 32)] trivial ?_
          refine dF ?_
          try simp only [puts, Tk.put, Act.put, List.setIfInBounds_toArray, List.set_cons_zero, List.set_cons_succ]
          go_upto_region 10 with fail
          refine wp_region_fromM (fun W => Sep w [] [.blk N18 39 (msc noM), .blk N11 39 (msc ({ noM with kd := 1, ak := a })), .join (CLR C7 D7 R7 (u1 user a now) vo17 vp17 va17 vb17), .blk N3 26 (akc again), .blk N2 26 (akc a)] W) hM ?_
          clear hM
          rintro Y20 hM
          refine tF 2 [.val 0 (some 58) (.int .i64 32), .val 1 (some 59) (.bool false)] trivial ?_
          refine dF ?_
          try simp only [puts, Tk.put, Act.put, List.setIfInBounds_toArray, List.set_cons_zero, List.set_cons_succ]
          go_upto_region 15 with fail
          refine wp_region_fromM (fun W => Sep w [] [.blk N18 39 (msc noM), .blk N11 39 (msc ({ noM with kd := 1, ak := a })), .join (CLR C7 D7 R7 (u1 user a now) vo17 vp17 va17 vb17), .blk N3 26 (akc again), .blk N2 26 (akc a)] W) hM ?_
          clear hM
          rintro Y21 hM
          refine tF 3 [.val 0 (some 78) (pt C7 0), .load 1 (some 79) 26 (pt N3 0) (akv again), .val 2 (some 80) (.int .i64 now)] ⟨load_part (hM.at 3 rfl) 0 (akc again) rfl _ _ Try.underlying26 rfl (by kernel_rfl), trivial⟩ ?_
          cases hb5 : again.us != user with
          | false =>
            have Hhb5 := Lib.hid hb5
            clear hb5
            cases hb6 : errA again != 0 with
            | false =>
              have Hhb6 := Lib.hid hb6
              clear hb6
              cases hb7 : decide (again = a) with
              | false =>
                have Hhb7 := Lib.hid hb7
                clear hb7
                have hq := clAsk_any again now _ (hM.oka 2 rfl)
                obtain ⟨c22, hc⟩ := u1_ok Hhb5.out Hhb6.out Hhb7.out (now := now)
                rw [hc] at hq
                refine cF (some 81) 7 #[pt C7 0, akv again, .int .i64 now] ((hq).mono ?_)
                rintro e Y22 ⟨rfl, vo22, vp22, va22, vb22, hT⟩
                clear hq
                replace hM := hM.turn 2 rfl hT rfl
                clear hT
                refine tF 7 [.val 4 (some 77) (.tuple #[msv ({ noM with kd := 1, ak := again }), .int .i64 0]), .val 5 (some 82) (msv ({ noM with kd := 1, ak := again })), .val 6 (some 83) (.int .i64 0)] trivial ?_
                refine rF (some 15) (pt Y22.heap.size 0) (Y22.alloc (.cells (msc noM).toArray 39)) ?_
                replace hM := hM.alloc 39 (msc noM)
                generalize World.alloc _ _ = Y23 at *
                generalize hNe : Y22.heap.size = N23 at *
                clear hNe
                have hst := sto_part (msc ({ noM with kd := 1, ak := again })) (hM.at 0 rfl) 0 39 (msv ({ noM with kd := 1, ak := again })) (msc ({ noM with kd := 1, ak := again })) rfl (by kernel_rfl) (Nat.le_of_ble_eq_true rfl) rfl rfl
                refine sF 39 (pt N23 0) (msv ({ noM with kd := 1, ak := again })) (hst) ?_
                clear hst
                replace hM := hM.set 0 (cs' := msc ({ noM with kd := 1, ak := again })) rfl rfl
                generalize World.setRow _ _ _ = Y24 at *
                refine tF 10 [.val 9 (some 16) (.int .i64 0)] trivial ?_
                refine dF ?_
                try simp only [puts, Tk.put, Act.put, List.setIfInBounds_toArray, List.set_cons_zero, List.set_cons_succ]
                go_upto_region 16 with fail
                refine wp_region_fromM (fun W => Sep w [] [.blk N23 39 (msc ({ noM with kd := 1, ak := again })), .blk N18 39 (msc noM), .blk N11 39 (msc ({ noM with kd := 1, ak := a })), .join (CLR C7 D7 R7 c22 vo22 vp22 va22 vb22), .blk N3 26 (akc again), .blk N2 26 (akc a)] W) hM ?_
                clear hM
                rintro Y25 hM
                refine tF 8 [.val 0 (some 84) (.int .i64 0), .val 1 (some 85) (.bool true), .val 2 (some 86) (pt N3 0), .load 3 (some 87) 3 (pt N3 0) (.int .i64 again.us), .val 4 (some 88) (.int .i64 user), .alt 5 (some 89) (.bool (again.us == user)) (.bool true), .val 6 (some 90) (.bool true), .load 7 (some 91) 26 (pt N3 0) (akv again)] ⟨ld_any _ _ Try.underlying3 rfl (hM.at 4 rfl) 0 rfl, congrArg Value.bool ((by have h := Hhb5.out; simpa using h)), load_part (hM.at 4 rfl) 0 (akc again) rfl _ _ Try.underlying26 rfl (by kernel_rfl), trivial⟩ ?_
                refine cF (some 92) 8 #[akv again] ((refAsk_any again _).mono ?_)
                rintro e Y26 ⟨rfl, hb⟩
                replace hM := hM.below hb
                clear hb
                refine tF 14 [.alt 9 (some 93) (.bool ((errA again) == 0)) (.bool true), .val 10 (some 94) (.bool true), .val 11 (some 95) (.bool true), .load 12 (some 96) 26 (pt N3 0) (akv again), .load 13 (some 97) 26 (pt N2 0) (akv a)] ⟨congrArg Value.bool ((by have h := Hhb6.out; simpa using h)), load_part (hM.at 4 rfl) 0 (akc again) rfl _ _ Try.underlying26 rfl (by kernel_rfl), load_part (hM.at 5 rfl) 0 (akc a) rfl _ _ Try.underlying26 rfl (by kernel_rfl), trivial⟩ ?_
                refine neA (.tmp 96) (.tmp 97) 26 (some 98) (akc again).toArray (akc a).toArray false (Eq.trans (run_eqAk again a _) (congrArg (fun z => Result.ok z _) (Hhb7.out))) ?_
                refine tF 31 [.val 15 (some 99) (.bool true), .skip 16 (some 100), .skip 17 (some 101), .val 18 (some 102) (.bool true), .val 19 (some 103) (.bool true), .val 20 (some 104) (.bool true), .val 21 (some 105) (.bool true), .val 22 (some 106) (.int .i64 0), .val 23 (some 107) (.bool true), .val 24 (some 108) (.bool true), .skip 25 (some 109), .skip 26 (some 110), .skip 27 (some 111), .val 28 (some 112) (.bool true), .val 29 (some 113) (.bool true), .val 30 (some 8) (.bool true)] trivial ?_
                refine dF ?_
                try simp only [puts, Tk.put, Act.put, List.setIfInBounds_toArray, List.set_cons_zero, List.set_cons_succ]
                go_wp2_with fail
                go_ret
                exact ⟨rfl, hM.b⟩
              | true =>
                have Hhb7 := Lib.hid hb7
                clear hb7
                have hq := clAsk_any again now _ (hM.oka 2 rfl)
                rw [u1_is Hhb5.out Hhb6.out Hhb7.out] at hq
                refine cF (some 81) 7 #[pt C7 0, akv again, .int .i64 now] ((hq).mono ?_)
                rintro e Y27 ⟨rfl, vo27, vp27, va27, vb27, hT⟩
                clear hq
                replace hM := hM.turn 2 rfl hT rfl
                clear hT
                refine tF 7 [.val 4 (some 77) (.tuple #[msv noM, .int .i64 32]), .val 5 (some 82) (msv noM), .val 6 (some 83) (.int .i64 32)] trivial ?_
                refine rF (some 15) (pt Y27.heap.size 0) (Y27.alloc (.cells (msc noM).toArray 39)) ?_
                replace hM := hM.alloc 39 (msc noM)
                generalize World.alloc _ _ = Y28 at *
                generalize hNe : Y27.heap.size = N28 at *
                clear hNe
                have hst := sto_part (msc noM) (hM.at 0 rfl) 0 39 (msv noM) (msc noM) rfl (by kernel_rfl) (Nat.le_of_ble_eq_true rfl) rfl rfl
                refine sF 39 (pt N28 0) (msv noM) (hst) ?_
                clear hst
                replace hM := hM.set 0 (cs' := msc noM) rfl rfl
                generalize World.setRow _ _ _ = Y29 at *
                refine tF 10 [.val 9 (some 16) (.int .i64 32)] trivial ?_
                refine dF ?_
                try simp only [puts, Tk.put, Act.put, List.setIfInBounds_toArray, List.set_cons_zero, List.set_cons_succ]
                go_upto_region 16 with fail
                refine wp_region_fromM (fun W => Sep w [] [.blk N28 39 (msc noM), .blk N18 39 (msc noM), .blk N11 39 (msc ({ noM with kd := 1, ak := a })), .join (CLR C7 D7 R7 (u1 user a now) vo27 vp27 va27 vb27), .blk N3 26 (akc again), .blk N2 26 (akc a)] W) hM ?_
                clear hM
                rintro Y30 hM
                refine tF 8 [.val 0 (some 84) (.int .i64 32), .val 1 (some 85) (.bool false), .val 2 (some 86) (pt N3 0), .load 3 (some 87) 3 (pt N3 0) (.int .i64 again.us), .val 4 (some 88) (.int .i64 user), .alt 5 (some 89) (.bool (again.us == user)) (.bool true), .val 6 (some 90) (.bool true), .load 7 (some 91) 26 (pt N3 0) (akv again)] ⟨ld_any _ _ Try.underlying3 rfl (hM.at 4 rfl) 0 rfl, congrArg Value.bool ((by have h := Hhb5.out; simpa using h)), load_part (hM.at 4 rfl) 0 (akc again) rfl _ _ Try.underlying26 rfl (by kernel_rfl), trivial⟩ ?_
                refine cF (some 92) 8 #[akv again] ((refAsk_any again _).mono ?_)
                rintro e Y31 ⟨rfl, hb⟩
                replace hM := hM.below hb
                clear hb
                refine tF 14 [.alt 9 (some 93) (.bool ((errA again) == 0)) (.bool true), .val 10 (some 94) (.bool true), .val 11 (some 95) (.bool true), .load 12 (some 96) 26 (pt N3 0) (akv again), .load 13 (some 97) 26 (pt N2 0) (akv a)] ⟨congrArg Value.bool ((by have h := Hhb6.out; simpa using h)), load_part (hM.at 4 rfl) 0 (akc again) rfl _ _ Try.underlying26 rfl (by kernel_rfl), load_part (hM.at 5 rfl) 0 (akc a) rfl _ _ Try.underlying26 rfl (by kernel_rfl), trivial⟩ ?_
                refine neA (.tmp 96) (.tmp 97) 26 (some 98) (akc again).toArray (akc a).toArray true (Eq.trans (run_eqAk again a _) (congrArg (fun z => Result.ok z _) (Hhb7.out))) ?_
                refine tF 27 [.val 15 (some 99) (.bool false), .val 16 (some 100) (.int .i64 0), .val 17 (some 101) (.bool false), .val 18 (some 102) (.bool false), .val 19 (some 103) (.bool false), .val 20 (some 104) (.bool true), .val 21 (some 105) (.bool true), .val 22 (some 106) (.int .i64 32), .val 23 (some 107) (.bool false), .val 24 (some 108) (.bool false), .load 25 (some 109) 39 (pt N28 0) (msv noM), .val 26 (some 110) (msv noM)] ⟨load_part (hM.at 0 rfl) 0 (msc noM) rfl _ _ Try.underlying39 rfl (by kernel_rfl), trivial⟩ ?_
                refine eqA (.tmp 109) (.tmp 110) 39 (some 111) (msc noM).toArray (msc noM).toArray true (Eq.trans (run_eqM noM noM _) (congrArg (fun z => Result.ok z _) (eqM_refl _))) ?_
                refine tF 31 [.val 28 (some 112) (.bool true), .val 29 (some 113) (.bool true), .val 30 (some 8) (.bool true)] trivial ?_
                refine dF ?_
                try simp only [puts, Tk.put, Act.put, List.setIfInBounds_toArray, List.set_cons_zero, List.set_cons_succ]
                go_wp2_with fail
                go_ret
                exact ⟨rfl, hM.b⟩
            | true =>
              have Hhb6 := Lib.hid hb6
              clear hb6
              have hq := clAsk_any again now _ (hM.oka 2 rfl)
              rw [u1_bad Hhb5.out Hhb6.out] at hq
              refine cF (some 81) 7 #[pt C7 0, akv again, .int .i64 now] ((hq).mono ?_)
              rintro e Y32 ⟨rfl, vo32, vp32, va32, vb32, hT⟩
              clear hq
              replace hM := hM.turn 2 rfl hT rfl
              clear hT
              refine tF 7 [.val 4 (some 77) (.tuple #[msv noM, .int .i64 39]), .val 5 (some 82) (msv noM), .val 6 (some 83) (.int .i64 39)] trivial ?_
              refine rF (some 15) (pt Y32.heap.size 0) (Y32.alloc (.cells (msc noM).toArray 39)) ?_
              replace hM := hM.alloc 39 (msc noM)
              generalize World.alloc _ _ = Y33 at *
              generalize hNe : Y32.heap.size = N33 at *
              clear hNe
              have hst := sto_part (msc noM) (hM.at 0 rfl) 0 39 (msv noM) (msc noM) rfl (by kernel_rfl) (Nat.le_of_ble_eq_true rfl) rfl rfl
              refine sF 39 (pt N33 0) (msv noM) (hst) ?_
              clear hst
              replace hM := hM.set 0 (cs' := msc noM) rfl rfl
              generalize World.setRow _ _ _ = Y34 at *
              refine tF 10 [.val 9 (some 16) (.int .i64 39)] trivial ?_
              refine dF ?_
              try simp only [puts, Tk.put, Act.put, List.setIfInBounds_toArray, List.set_cons_zero, List.set_cons_succ]
              go_upto_region 16 with fail
              refine wp_region_fromM (fun W => Sep w [] [.blk N33 39 (msc noM), .blk N18 39 (msc noM), .blk N11 39 (msc ({ noM with kd := 1, ak := a })), .join (CLR C7 D7 R7 (u1 user a now) vo32 vp32 va32 vb32), .blk N3 26 (akc again), .blk N2 26 (akc a)] W) hM ?_
              clear hM
              rintro Y35 hM
              refine tF 8 [.val 0 (some 84) (.int .i64 39), .val 1 (some 85) (.bool false), .val 2 (some 86) (pt N3 0), .load 3 (some 87) 3 (pt N3 0) (.int .i64 again.us), .val 4 (some 88) (.int .i64 user), .alt 5 (some 89) (.bool (again.us == user)) (.bool true), .val 6 (some 90) (.bool true), .load 7 (some 91) 26 (pt N3 0) (akv again)] ⟨ld_any _ _ Try.underlying3 rfl (hM.at 4 rfl) 0 rfl, congrArg Value.bool ((by have h := Hhb5.out; simpa using h)), load_part (hM.at 4 rfl) 0 (akc again) rfl _ _ Try.underlying26 rfl (by kernel_rfl), trivial⟩ ?_
              refine cF (some 92) 8 #[akv again] ((refAsk_any again _).mono ?_)
              rintro e Y36 ⟨rfl, hb⟩
              replace hM := hM.below hb
              clear hb
              refine tF 27 [.alt 9 (some 93) (.bool ((errA again) == 0)) (.bool false), .val 10 (some 94) (.bool false), .val 11 (some 95) (.bool false), .skip 12 (some 96), .skip 13 (some 97), .skip 14 (some 98), .skip 15 (some 99), .skip 16 (some 100), .skip 17 (some 101), .skip 18 (some 102), .val 19 (some 103) (.bool false), .val 20 (some 104) (.bool true), .val 21 (some 105) (.bool true), .val 22 (some 106) (.int .i64 39), .val 23 (some 107) (.bool false), .val 24 (some 108) (.bool false), .load 25 (some 109) 39 (pt N33 0) (msv noM), .val 26 (some 110) (msv noM)] ⟨congrArg Value.bool ((by have h := Hhb6.out; simpa using h)), load_part (hM.at 0 rfl) 0 (msc noM) rfl _ _ Try.underlying39 rfl (by kernel_rfl), trivial⟩ ?_
              refine eqA (.tmp 109) (.tmp 110) 39 (some 111) (msc noM).toArray (msc noM).toArray true (Eq.trans (run_eqM noM noM _) (congrArg (fun z => Result.ok z _) (eqM_refl _))) ?_
              refine tF 31 [.val 28 (some 112) (.bool true), .val 29 (some 113) (.bool true), .val 30 (some 8) (.bool true)] trivial ?_
              refine dF ?_
              try simp only [puts, Tk.put, Act.put, List.setIfInBounds_toArray, List.set_cons_zero, List.set_cons_succ]
              go_wp2_with fail
              go_ret
              exact ⟨rfl, hM.b⟩
          | true =>
            have Hhb5 := Lib.hid hb5
            clear hb5
            have hq := clAsk_any again now _ (hM.oka 2 rfl)
            rw [u1_us Hhb5.out] at hq
            refine cF (some 81) 7 #[pt C7 0, akv again, .int .i64 now] ((hq).mono ?_)
            rintro e Y37 ⟨rfl, vo37, vp37, va37, vb37, hT⟩
            clear hq
            replace hM := hM.turn 2 rfl hT rfl
            clear hT
            refine tF 7 [.val 4 (some 77) (.tuple #[msv noM, .int .i64 39]), .val 5 (some 82) (msv noM), .val 6 (some 83) (.int .i64 39)] trivial ?_
            refine rF (some 15) (pt Y37.heap.size 0) (Y37.alloc (.cells (msc noM).toArray 39)) ?_
            replace hM := hM.alloc 39 (msc noM)
            generalize World.alloc _ _ = Y38 at *
            generalize hNe : Y37.heap.size = N38 at *
            clear hNe
            have hst := sto_part (msc noM) (hM.at 0 rfl) 0 39 (msv noM) (msc noM) rfl (by kernel_rfl) (Nat.le_of_ble_eq_true rfl) rfl rfl
            refine sF 39 (pt N38 0) (msv noM) (hst) ?_
            clear hst
            replace hM := hM.set 0 (cs' := msc noM) rfl rfl
            generalize World.setRow _ _ _ = Y39 at *
            refine tF 10 [.val 9 (some 16) (.int .i64 39)] trivial ?_
            refine dF ?_
            try simp only [puts, Tk.put, Act.put, List.setIfInBounds_toArray, List.set_cons_zero, List.set_cons_succ]
            go_upto_region 16 with fail
            refine wp_region_fromM (fun W => Sep w [] [.blk N38 39 (msc noM), .blk N18 39 (msc noM), .blk N11 39 (msc ({ noM with kd := 1, ak := a })), .join (CLR C7 D7 R7 (u1 user a now) vo37 vp37 va37 vb37), .blk N3 26 (akc again), .blk N2 26 (akc a)] W) hM ?_
            clear hM
            rintro Y40 hM
            refine tF 8 [.val 0 (some 84) (.int .i64 39), .val 1 (some 85) (.bool false), .val 2 (some 86) (pt N3 0), .load 3 (some 87) 3 (pt N3 0) (.int .i64 again.us), .val 4 (some 88) (.int .i64 user), .alt 5 (some 89) (.bool (again.us == user)) (.bool false), .val 6 (some 90) (.bool false), .skip 7 (some 91)] ⟨ld_any _ _ Try.underlying3 rfl (hM.at 4 rfl) 0 rfl, congrArg Value.bool ((by have h := Hhb5.out; simpa using h)), trivial⟩ ?_
            refine wpFrom_not (d := some 92) (by kernel_rfl) ?_
            refine tF 27 [.skip 9 (some 93), .val 10 (some 94) (.bool false), .val 11 (some 95) (.bool false), .skip 12 (some 96), .skip 13 (some 97), .skip 14 (some 98), .skip 15 (some 99), .skip 16 (some 100), .skip 17 (some 101), .skip 18 (some 102), .val 19 (some 103) (.bool false), .val 20 (some 104) (.bool true), .val 21 (some 105) (.bool true), .val 22 (some 106) (.int .i64 39), .val 23 (some 107) (.bool false), .val 24 (some 108) (.bool false), .load 25 (some 109) 39 (pt N38 0) (msv noM), .val 26 (some 110) (msv noM)] ⟨load_part (hM.at 0 rfl) 0 (msc noM) rfl _ _ Try.underlying39 rfl (by kernel_rfl), trivial⟩ ?_
            refine eqA (.tmp 109) (.tmp 110) 39 (some 111) (msc noM).toArray (msc noM).toArray true (Eq.trans (run_eqM noM noM _) (congrArg (fun z => Result.ok z _) (eqM_refl _))) ?_
            refine tF 31 [.val 28 (some 112) (.bool true), .val 29 (some 113) (.bool true), .val 30 (some 8) (.bool true)] trivial ?_
            refine dF ?_
            try simp only [puts, Tk.put, Act.put, List.setIfInBounds_toArray, List.set_cons_zero, List.set_cons_succ]
            go_wp2_with fail
            go_ret
            exact ⟨rfl, hM.b⟩
        | true =>
          have Hhb4 := Lib.hid hb4
          clear hb4
          have hq := clAsk_any a now _ (hM.oka 0 rfl)
          rw [u0_bad Hhb3.out Hhb4.out] at hq
          refine cF (some 40) 7 #[pt C7 0, akv a, .int .i64 now] ((hq).mono ?_)
          rintro e Y41 ⟨rfl, vo41, vp41, va41, vb41, hT⟩
          clear hq
          replace hM := hM.turn 0 rfl hT rfl
          clear hT
          refine tF 7 [.val 4 (some 36) (.tuple #[msv noM, .int .i64 39]), .val 5 (some 41) (msv noM), .val 6 (some 42) (.int .i64 39)] trivial ?_
          refine rF (some 11) (pt Y41.heap.size 0) (Y41.alloc (.cells (msc noM).toArray 39)) ?_
          replace hM := hM.alloc 39 (msc noM)
          generalize World.alloc _ _ = Y42 at *
          generalize hNe : Y41.heap.size = N42 at *
          clear hNe
          have hst := sto_part (msc noM) (hM.at 0 rfl) 0 39 (msv noM) (msc noM) rfl (by kernel_rfl) (Nat.le_of_ble_eq_true rfl) rfl rfl
          refine sF 39 (pt N42 0) (msv noM) (hst) ?_
          clear hst
          replace hM := hM.set 0 (cs' := msc noM) rfl rfl
          generalize World.setRow _ _ _ = Y43 at *
          refine tF 10 [.val 9 (some 12) (.int .i64 39)] trivial ?_
          refine dF ?_
          try simp only [puts, Tk.put, Act.put, List.setIfInBounds_toArray, List.set_cons_zero, List.set_cons_succ]
          go_upto_region 12 with fail
          refine wp_region_fromM (fun W => Sep w [] [.blk N42 39 (msc noM), .join (CLR C7 D7 R7 (newU user ⟨#[]⟩ ⟨#[]⟩ 1 9000) vo41 vp41 va41 vb41), .blk N3 26 (akc again), .blk N2 26 (akc a)] W) hM ?_
          clear hM
          rintro Y44 hM
          refine tF 6 [.val 0 (some 61) (pt N2 0), .load 1 (some 62) 3 (pt N2 0) (.int .i64 a.us), .val 2 (some 63) (.int .i64 user), .alt 3 (some 64) (.bool (a.us != user)) (.bool false), .val 4 (some 65) (.bool false), .load 5 (some 66) 26 (pt N2 0) (akv a)] ⟨ld_any _ _ Try.underlying3 rfl (hM.at 3 rfl) 0 rfl, congrArg Value.bool (Hhb3.out), load_part (hM.at 3 rfl) 0 (akc a) rfl _ _ Try.underlying26 rfl (by kernel_rfl), trivial⟩ ?_
          refine cF (some 67) 8 #[akv a] ((refAsk_any a _).mono ?_)
          rintro e Y45 ⟨rfl, hb⟩
          replace hM := hM.below hb
          clear hb
          refine tF 10 [.alt 7 (some 68) (.bool ((errA a) != 0)) (.bool true), .val 8 (some 69) (.bool true), .val 9 (some 60) (.bool true)] ⟨congrArg Value.bool (Hhb4.out), trivial⟩ ?_
          refine dF ?_
          try simp only [puts, Tk.put, Act.put, List.setIfInBounds_toArray, List.set_cons_zero, List.set_cons_succ]
          go_upto_region 13 with fail
          refine wp_region_fromM (fun W => Sep w [] [.blk N42 39 (msc noM), .join (CLR C7 D7 R7 (newU user ⟨#[]⟩ ⟨#[]⟩ 1 9000) vo41 vp41 va41 vb41), .blk N3 26 (akc again), .blk N2 26 (akc a)] W) hM ?_
          clear hM
          rintro Y46 hM
          refine tF 5 [.val 0 (some 70) (.int .i64 39), .val 1 (some 71) (.bool false), .val 2 (some 72) (.bool false), .load 3 (some 73) 39 (pt N42 0) (msv noM), .val 4 (some 74) (msv noM)] ⟨load_part (hM.at 0 rfl) 0 (msc noM) rfl _ _ Try.underlying39 rfl (by kernel_rfl), trivial⟩ ?_
          refine neA (.tmp 73) (.tmp 74) 39 (some 75) (msc noM).toArray (msc noM).toArray true (Eq.trans (run_eqM noM noM _) (congrArg (fun z => Result.ok z _) (eqM_refl _))) ?_
          refine tF 7 [.val 6 (some 76) (.bool false)] trivial ?_
          refine dF ?_
          try simp only [puts, Tk.put, Act.put, List.setIfInBounds_toArray, List.set_cons_zero, List.set_cons_succ]
          go_upto_region 15 with fail
          refine wp_region_fromM (fun W => Sep w [] [.blk N42 39 (msc noM), .join (CLR C7 D7 R7 (newU user ⟨#[]⟩ ⟨#[]⟩ 1 9000) vo41 vp41 va41 vb41), .blk N3 26 (akc again), .blk N2 26 (akc a)] W) hM ?_
          clear hM
          rintro Y47 hM
          refine tF 3 [.val 0 (some 78) (pt C7 0), .load 1 (some 79) 26 (pt N3 0) (akv again), .val 2 (some 80) (.int .i64 now)] ⟨load_part (hM.at 2 rfl) 0 (akc again) rfl _ _ Try.underlying26 rfl (by kernel_rfl), trivial⟩ ?_
          cases hb8 : again.us != user with
          | false =>
            have Hhb8 := Lib.hid hb8
            clear hb8
            cases hb9 : errA again != 0 with
            | false =>
              have Hhb9 := Lib.hid hb9
              clear hb9
              have hq := clAsk_any again now _ (hM.oka 1 rfl)
              rw [u0_ok Hhb8.out Hhb9.out] at hq
              refine cF (some 81) 7 #[pt C7 0, akv again, .int .i64 now] ((hq).mono ?_)
              rintro e Y48 ⟨rfl, vo48, vp48, va48, vb48, hT⟩
              clear hq
              replace hM := hM.turn 1 rfl hT rfl
              clear hT
              refine tF 7 [.val 4 (some 77) (.tuple #[msv ({ noM with kd := 1, ak := again }), .int .i64 0]), .val 5 (some 82) (msv ({ noM with kd := 1, ak := again })), .val 6 (some 83) (.int .i64 0)] trivial ?_
              refine rF (some 15) (pt Y48.heap.size 0) (Y48.alloc (.cells (msc noM).toArray 39)) ?_
              replace hM := hM.alloc 39 (msc noM)
              generalize World.alloc _ _ = Y49 at *
              generalize hNe : Y48.heap.size = N49 at *
              clear hNe
              have hst := sto_part (msc ({ noM with kd := 1, ak := again })) (hM.at 0 rfl) 0 39 (msv ({ noM with kd := 1, ak := again })) (msc ({ noM with kd := 1, ak := again })) rfl (by kernel_rfl) (Nat.le_of_ble_eq_true rfl) rfl rfl
              refine sF 39 (pt N49 0) (msv ({ noM with kd := 1, ak := again })) (hst) ?_
              clear hst
              replace hM := hM.set 0 (cs' := msc ({ noM with kd := 1, ak := again })) rfl rfl
              generalize World.setRow _ _ _ = Y50 at *
              refine tF 10 [.val 9 (some 16) (.int .i64 0)] trivial ?_
              refine dF ?_
              try simp only [puts, Tk.put, Act.put, List.setIfInBounds_toArray, List.set_cons_zero, List.set_cons_succ]
              go_upto_region 16 with fail
              refine wp_region_fromM (fun W => Sep w [] [.blk N49 39 (msc ({ noM with kd := 1, ak := again })), .blk N42 39 (msc noM), .join (CLR C7 D7 R7 (u1 user again now) vo48 vp48 va48 vb48), .blk N3 26 (akc again), .blk N2 26 (akc a)] W) hM ?_
              clear hM
              rintro Y51 hM
              refine tF 8 [.val 0 (some 84) (.int .i64 0), .val 1 (some 85) (.bool true), .val 2 (some 86) (pt N3 0), .load 3 (some 87) 3 (pt N3 0) (.int .i64 again.us), .val 4 (some 88) (.int .i64 user), .alt 5 (some 89) (.bool (again.us == user)) (.bool true), .val 6 (some 90) (.bool true), .load 7 (some 91) 26 (pt N3 0) (akv again)] ⟨ld_any _ _ Try.underlying3 rfl (hM.at 3 rfl) 0 rfl, congrArg Value.bool ((by have h := Hhb8.out; simpa using h)), load_part (hM.at 3 rfl) 0 (akc again) rfl _ _ Try.underlying26 rfl (by kernel_rfl), trivial⟩ ?_
              refine cF (some 92) 8 #[akv again] ((refAsk_any again _).mono ?_)
              rintro e Y52 ⟨rfl, hb⟩
              replace hM := hM.below hb
              clear hb
              refine tF 14 [.alt 9 (some 93) (.bool ((errA again) == 0)) (.bool true), .val 10 (some 94) (.bool true), .val 11 (some 95) (.bool true), .load 12 (some 96) 26 (pt N3 0) (akv again), .load 13 (some 97) 26 (pt N2 0) (akv a)] ⟨congrArg Value.bool ((by have h := Hhb9.out; simpa using h)), load_part (hM.at 3 rfl) 0 (akc again) rfl _ _ Try.underlying26 rfl (by kernel_rfl), load_part (hM.at 4 rfl) 0 (akc a) rfl _ _ Try.underlying26 rfl (by kernel_rfl), trivial⟩ ?_
              refine neA (.tmp 96) (.tmp 97) 26 (some 98) (akc again).toArray (akc a).toArray (decide (again = a)) (run_eqAk again a _) ?_
              refine tF 16 [.val 15 (some 99) (.bool (!(decide (again = a))))] trivial ?_
              cases hb10 : !(decide (again = a)) with
              | false =>
                have Hhb10 := Lib.hid hb10
                clear hb10
                refine tF 31 [.val 16 (some 100) (.int .i64 39), .val 17 (some 101) (.bool true), .val 18 (some 102) (.bool true), .val 19 (some 103) (.bool true), .val 20 (some 104) (.bool true), .val 21 (some 105) (.bool true), .val 22 (some 106) (.int .i64 0), .val 23 (some 107) (.bool true), .val 24 (some 108) (.bool true), .skip 25 (some 109), .skip 26 (some 110), .skip 27 (some 111), .val 28 (some 112) (.bool true), .val 29 (some 113) (.bool true), .val 30 (some 8) (.bool true)] trivial ?_
                refine dF ?_
                try simp only [puts, Tk.put, Act.put, List.setIfInBounds_toArray, List.set_cons_zero, List.set_cons_succ]
                go_wp2_with fail
                go_ret
                exact ⟨rfl, hM.b⟩
              | true =>
                have Hhb10 := Lib.hid hb10
                clear hb10
                refine tF 31 [.skip 16 (some 100), .skip 17 (some 101), .val 18 (some 102) (.bool true), .val 19 (some 103) (.bool true), .val 20 (some 104) (.bool true), .val 21 (some 105) (.bool true), .val 22 (some 106) (.int .i64 0), .val 23 (some 107) (.bool true), .val 24 (some 108) (.bool true), .skip 25 (some 109), .skip 26 (some 110), .skip 27 (some 111), .val 28 (some 112) (.bool true), .val 29 (some 113) (.bool true), .val 30 (some 8) (.bool true)] trivial ?_
                refine dF ?_
                try simp only [puts, Tk.put, Act.put, List.setIfInBounds_toArray, List.set_cons_zero, List.set_cons_succ]
                go_wp2_with fail
                go_ret
                exact ⟨rfl, hM.b⟩
            | true =>
              have Hhb9 := Lib.hid hb9
              clear hb9
              have hq := clAsk_any again now _ (hM.oka 1 rfl)
              rw [u0_bad Hhb8.out Hhb9.out] at hq
              refine cF (some 81) 7 #[pt C7 0, akv again, .int .i64 now] ((hq).mono ?_)
              rintro e Y53 ⟨rfl, vo53, vp53, va53, vb53, hT⟩
              clear hq
              replace hM := hM.turn 1 rfl hT rfl
              clear hT
              refine tF 7 [.val 4 (some 77) (.tuple #[msv noM, .int .i64 39]), .val 5 (some 82) (msv noM), .val 6 (some 83) (.int .i64 39)] trivial ?_
              refine rF (some 15) (pt Y53.heap.size 0) (Y53.alloc (.cells (msc noM).toArray 39)) ?_
              replace hM := hM.alloc 39 (msc noM)
              generalize World.alloc _ _ = Y54 at *
              generalize hNe : Y53.heap.size = N54 at *
              clear hNe
              have hst := sto_part (msc noM) (hM.at 0 rfl) 0 39 (msv noM) (msc noM) rfl (by kernel_rfl) (Nat.le_of_ble_eq_true rfl) rfl rfl
              refine sF 39 (pt N54 0) (msv noM) (hst) ?_
              clear hst
              replace hM := hM.set 0 (cs' := msc noM) rfl rfl
              generalize World.setRow _ _ _ = Y55 at *
              refine tF 10 [.val 9 (some 16) (.int .i64 39)] trivial ?_
              refine dF ?_
              try simp only [puts, Tk.put, Act.put, List.setIfInBounds_toArray, List.set_cons_zero, List.set_cons_succ]
              go_upto_region 16 with fail
              refine wp_region_fromM (fun W => Sep w [] [.blk N54 39 (msc noM), .blk N42 39 (msc noM), .join (CLR C7 D7 R7 (newU user ⟨#[]⟩ ⟨#[]⟩ 1 9000) vo53 vp53 va53 vb53), .blk N3 26 (akc again), .blk N2 26 (akc a)] W) hM ?_
              clear hM
              rintro Y56 hM
              refine tF 8 [.val 0 (some 84) (.int .i64 39), .val 1 (some 85) (.bool false), .val 2 (some 86) (pt N3 0), .load 3 (some 87) 3 (pt N3 0) (.int .i64 again.us), .val 4 (some 88) (.int .i64 user), .alt 5 (some 89) (.bool (again.us == user)) (.bool true), .val 6 (some 90) (.bool true), .load 7 (some 91) 26 (pt N3 0) (akv again)] ⟨ld_any _ _ Try.underlying3 rfl (hM.at 3 rfl) 0 rfl, congrArg Value.bool ((by have h := Hhb8.out; simpa using h)), load_part (hM.at 3 rfl) 0 (akc again) rfl _ _ Try.underlying26 rfl (by kernel_rfl), trivial⟩ ?_
              refine cF (some 92) 8 #[akv again] ((refAsk_any again _).mono ?_)
              rintro e Y57 ⟨rfl, hb⟩
              replace hM := hM.below hb
              clear hb
              refine tF 27 [.alt 9 (some 93) (.bool ((errA again) == 0)) (.bool false), .val 10 (some 94) (.bool false), .val 11 (some 95) (.bool false), .skip 12 (some 96), .skip 13 (some 97), .skip 14 (some 98), .skip 15 (some 99), .skip 16 (some 100), .skip 17 (some 101), .skip 18 (some 102), .val 19 (some 103) (.bool false), .val 20 (some 104) (.bool true), .val 21 (some 105) (.bool true), .val 22 (some 106) (.int .i64 39), .val 23 (some 107) (.bool false), .val 24 (some 108) (.bool false), .load 25 (some 109) 39 (pt N54 0) (msv noM), .val 26 (some 110) (msv noM)] ⟨congrArg Value.bool ((by have h := Hhb9.out; simpa using h)), load_part (hM.at 0 rfl) 0 (msc noM) rfl _ _ Try.underlying39 rfl (by kernel_rfl), trivial⟩ ?_
              refine eqA (.tmp 109) (.tmp 110) 39 (some 111) (msc noM).toArray (msc noM).toArray true (Eq.trans (run_eqM noM noM _) (congrArg (fun z => Result.ok z _) (eqM_refl _))) ?_
              refine tF 31 [.val 28 (some 112) (.bool true), .val 29 (some 113) (.bool true), .val 30 (some 8) (.bool true)] trivial ?_
              refine dF ?_
              try simp only [puts, Tk.put, Act.put, List.setIfInBounds_toArray, List.set_cons_zero, List.set_cons_succ]
              go_wp2_with fail
              go_ret
              exact ⟨rfl, hM.b⟩
          | true =>
            have Hhb8 := Lib.hid hb8
            clear hb8
            have hq := clAsk_any again now _ (hM.oka 1 rfl)
            rw [u0_us Hhb8.out] at hq
            refine cF (some 81) 7 #[pt C7 0, akv again, .int .i64 now] ((hq).mono ?_)
            rintro e Y58 ⟨rfl, vo58, vp58, va58, vb58, hT⟩
            clear hq
            replace hM := hM.turn 1 rfl hT rfl
            clear hT
            refine tF 7 [.val 4 (some 77) (.tuple #[msv noM, .int .i64 39]), .val 5 (some 82) (msv noM), .val 6 (some 83) (.int .i64 39)] trivial ?_
            refine rF (some 15) (pt Y58.heap.size 0) (Y58.alloc (.cells (msc noM).toArray 39)) ?_
            replace hM := hM.alloc 39 (msc noM)
            generalize World.alloc _ _ = Y59 at *
            generalize hNe : Y58.heap.size = N59 at *
            clear hNe
            have hst := sto_part (msc noM) (hM.at 0 rfl) 0 39 (msv noM) (msc noM) rfl (by kernel_rfl) (Nat.le_of_ble_eq_true rfl) rfl rfl
            refine sF 39 (pt N59 0) (msv noM) (hst) ?_
            clear hst
            replace hM := hM.set 0 (cs' := msc noM) rfl rfl
            generalize World.setRow _ _ _ = Y60 at *
            refine tF 10 [.val 9 (some 16) (.int .i64 39)] trivial ?_
            refine dF ?_
            try simp only [puts, Tk.put, Act.put, List.setIfInBounds_toArray, List.set_cons_zero, List.set_cons_succ]
            go_upto_region 16 with fail
            refine wp_region_fromM (fun W => Sep w [] [.blk N59 39 (msc noM), .blk N42 39 (msc noM), .join (CLR C7 D7 R7 (newU user ⟨#[]⟩ ⟨#[]⟩ 1 9000) vo58 vp58 va58 vb58), .blk N3 26 (akc again), .blk N2 26 (akc a)] W) hM ?_
            clear hM
            rintro Y61 hM
            refine tF 8 [.val 0 (some 84) (.int .i64 39), .val 1 (some 85) (.bool false), .val 2 (some 86) (pt N3 0), .load 3 (some 87) 3 (pt N3 0) (.int .i64 again.us), .val 4 (some 88) (.int .i64 user), .alt 5 (some 89) (.bool (again.us == user)) (.bool false), .val 6 (some 90) (.bool false), .skip 7 (some 91)] ⟨ld_any _ _ Try.underlying3 rfl (hM.at 3 rfl) 0 rfl, congrArg Value.bool ((by have h := Hhb8.out; simpa using h)), trivial⟩ ?_
            refine wpFrom_not (d := some 92) (by kernel_rfl) ?_
            refine tF 27 [.skip 9 (some 93), .val 10 (some 94) (.bool false), .val 11 (some 95) (.bool false), .skip 12 (some 96), .skip 13 (some 97), .skip 14 (some 98), .skip 15 (some 99), .skip 16 (some 100), .skip 17 (some 101), .skip 18 (some 102), .val 19 (some 103) (.bool false), .val 20 (some 104) (.bool true), .val 21 (some 105) (.bool true), .val 22 (some 106) (.int .i64 39), .val 23 (some 107) (.bool false), .val 24 (some 108) (.bool false), .load 25 (some 109) 39 (pt N59 0) (msv noM), .val 26 (some 110) (msv noM)] ⟨load_part (hM.at 0 rfl) 0 (msc noM) rfl _ _ Try.underlying39 rfl (by kernel_rfl), trivial⟩ ?_
            refine eqA (.tmp 109) (.tmp 110) 39 (some 111) (msc noM).toArray (msc noM).toArray true (Eq.trans (run_eqM noM noM _) (congrArg (fun z => Result.ok z _) (eqM_refl _))) ?_
            refine tF 31 [.val 28 (some 112) (.bool true), .val 29 (some 113) (.bool true), .val 30 (some 8) (.bool true)] trivial ?_
            refine dF ?_
            try simp only [puts, Tk.put, Act.put, List.setIfInBounds_toArray, List.set_cons_zero, List.set_cons_succ]
            go_wp2_with fail
            go_ret
            exact ⟨rfl, hM.b⟩
      | true =>
        have Hhb3 := Lib.hid hb3
        clear hb3
        have hq := clAsk_any a now _ (hM.oka 0 rfl)
        rw [u0_us Hhb3.out] at hq
        refine cF (some 40) 7 #[pt C7 0, akv a, .int .i64 now] ((hq).mono ?_)
        rintro e Y62 ⟨rfl, vo62, vp62, va62, vb62, hT⟩
        clear hq
        replace hM := hM.turn 0 rfl hT rfl
        clear hT
        refine tF 7 [.val 4 (some 36) (.tuple #[msv noM, .int .i64 39]), .val 5 (some 41) (msv noM), .val 6 (some 42) (.int .i64 39)] trivial ?_
        refine rF (some 11) (pt Y62.heap.size 0) (Y62.alloc (.cells (msc noM).toArray 39)) ?_
        replace hM := hM.alloc 39 (msc noM)
        generalize World.alloc _ _ = Y63 at *
        generalize hNe : Y62.heap.size = N63 at *
        clear hNe
        have hst := sto_part (msc noM) (hM.at 0 rfl) 0 39 (msv noM) (msc noM) rfl (by kernel_rfl) (Nat.le_of_ble_eq_true rfl) rfl rfl
        refine sF 39 (pt N63 0) (msv noM) (hst) ?_
        clear hst
        replace hM := hM.set 0 (cs' := msc noM) rfl rfl
        generalize World.setRow _ _ _ = Y64 at *
        refine tF 10 [.val 9 (some 12) (.int .i64 39)] trivial ?_
        refine dF ?_
        try simp only [puts, Tk.put, Act.put, List.setIfInBounds_toArray, List.set_cons_zero, List.set_cons_succ]
        go_upto_region 12 with fail
        refine wp_region_fromM (fun W => Sep w [] [.blk N63 39 (msc noM), .join (CLR C7 D7 R7 (newU user ⟨#[]⟩ ⟨#[]⟩ 1 9000) vo62 vp62 va62 vb62), .blk N3 26 (akc again), .blk N2 26 (akc a)] W) hM ?_
        clear hM
        rintro Y65 hM
        refine tF 6 [.val 0 (some 61) (pt N2 0), .load 1 (some 62) 3 (pt N2 0) (.int .i64 a.us), .val 2 (some 63) (.int .i64 user), .alt 3 (some 64) (.bool (a.us != user)) (.bool true), .val 4 (some 65) (.bool true), .skip 5 (some 66)] ⟨ld_any _ _ Try.underlying3 rfl (hM.at 3 rfl) 0 rfl, congrArg Value.bool (Hhb3.out), trivial⟩ ?_
        refine wpFrom_not (d := some 67) (by kernel_rfl) ?_
        refine tF 10 [.skip 7 (some 68), .val 8 (some 69) (.bool true), .val 9 (some 60) (.bool true)] trivial ?_
        refine dF ?_
        try simp only [puts, Tk.put, Act.put, List.setIfInBounds_toArray, List.set_cons_zero, List.set_cons_succ]
        go_upto_region 13 with fail
        refine wp_region_fromM (fun W => Sep w [] [.blk N63 39 (msc noM), .join (CLR C7 D7 R7 (newU user ⟨#[]⟩ ⟨#[]⟩ 1 9000) vo62 vp62 va62 vb62), .blk N3 26 (akc again), .blk N2 26 (akc a)] W) hM ?_
        clear hM
        rintro Y66 hM
        refine tF 5 [.val 0 (some 70) (.int .i64 39), .val 1 (some 71) (.bool false), .val 2 (some 72) (.bool false), .load 3 (some 73) 39 (pt N63 0) (msv noM), .val 4 (some 74) (msv noM)] ⟨load_part (hM.at 0 rfl) 0 (msc noM) rfl _ _ Try.underlying39 rfl (by kernel_rfl), trivial⟩ ?_
        refine neA (.tmp 73) (.tmp 74) 39 (some 75) (msc noM).toArray (msc noM).toArray true (Eq.trans (run_eqM noM noM _) (congrArg (fun z => Result.ok z _) (eqM_refl _))) ?_
        refine tF 7 [.val 6 (some 76) (.bool false)] trivial ?_
        refine dF ?_
        try simp only [puts, Tk.put, Act.put, List.setIfInBounds_toArray, List.set_cons_zero, List.set_cons_succ]
        go_upto_region 15 with fail
        refine wp_region_fromM (fun W => Sep w [] [.blk N63 39 (msc noM), .join (CLR C7 D7 R7 (newU user ⟨#[]⟩ ⟨#[]⟩ 1 9000) vo62 vp62 va62 vb62), .blk N3 26 (akc again), .blk N2 26 (akc a)] W) hM ?_
        clear hM
        rintro Y67 hM
        refine tF 3 [.val 0 (some 78) (pt C7 0), .load 1 (some 79) 26 (pt N3 0) (akv again), .val 2 (some 80) (.int .i64 now)] ⟨load_part (hM.at 2 rfl) 0 (akc again) rfl _ _ Try.underlying26 rfl (by kernel_rfl), trivial⟩ ?_
        cases hb11 : again.us != user with
        | false =>
          have Hhb11 := Lib.hid hb11
          clear hb11
          cases hb12 : errA again != 0 with
          | false =>
            have Hhb12 := Lib.hid hb12
            clear hb12
            have hq := clAsk_any again now _ (hM.oka 1 rfl)
            rw [u0_ok Hhb11.out Hhb12.out] at hq
            refine cF (some 81) 7 #[pt C7 0, akv again, .int .i64 now] ((hq).mono ?_)
            rintro e Y68 ⟨rfl, vo68, vp68, va68, vb68, hT⟩
            clear hq
            replace hM := hM.turn 1 rfl hT rfl
            clear hT
            refine tF 7 [.val 4 (some 77) (.tuple #[msv ({ noM with kd := 1, ak := again }), .int .i64 0]), .val 5 (some 82) (msv ({ noM with kd := 1, ak := again })), .val 6 (some 83) (.int .i64 0)] trivial ?_
            refine rF (some 15) (pt Y68.heap.size 0) (Y68.alloc (.cells (msc noM).toArray 39)) ?_
            replace hM := hM.alloc 39 (msc noM)
            generalize World.alloc _ _ = Y69 at *
            generalize hNe : Y68.heap.size = N69 at *
            clear hNe
            have hst := sto_part (msc ({ noM with kd := 1, ak := again })) (hM.at 0 rfl) 0 39 (msv ({ noM with kd := 1, ak := again })) (msc ({ noM with kd := 1, ak := again })) rfl (by kernel_rfl) (Nat.le_of_ble_eq_true rfl) rfl rfl
            refine sF 39 (pt N69 0) (msv ({ noM with kd := 1, ak := again })) (hst) ?_
            clear hst
            replace hM := hM.set 0 (cs' := msc ({ noM with kd := 1, ak := again })) rfl rfl
            generalize World.setRow _ _ _ = Y70 at *
            refine tF 10 [.val 9 (some 16) (.int .i64 0)] trivial ?_
            refine dF ?_
            try simp only [puts, Tk.put, Act.put, List.setIfInBounds_toArray, List.set_cons_zero, List.set_cons_succ]
            go_upto_region 16 with fail
            refine wp_region_fromM (fun W => Sep w [] [.blk N69 39 (msc ({ noM with kd := 1, ak := again })), .blk N63 39 (msc noM), .join (CLR C7 D7 R7 (u1 user again now) vo68 vp68 va68 vb68), .blk N3 26 (akc again), .blk N2 26 (akc a)] W) hM ?_
            clear hM
            rintro Y71 hM
            refine tF 8 [.val 0 (some 84) (.int .i64 0), .val 1 (some 85) (.bool true), .val 2 (some 86) (pt N3 0), .load 3 (some 87) 3 (pt N3 0) (.int .i64 again.us), .val 4 (some 88) (.int .i64 user), .alt 5 (some 89) (.bool (again.us == user)) (.bool true), .val 6 (some 90) (.bool true), .load 7 (some 91) 26 (pt N3 0) (akv again)] ⟨ld_any _ _ Try.underlying3 rfl (hM.at 3 rfl) 0 rfl, congrArg Value.bool ((by have h := Hhb11.out; simpa using h)), load_part (hM.at 3 rfl) 0 (akc again) rfl _ _ Try.underlying26 rfl (by kernel_rfl), trivial⟩ ?_
            refine cF (some 92) 8 #[akv again] ((refAsk_any again _).mono ?_)
            rintro e Y72 ⟨rfl, hb⟩
            replace hM := hM.below hb
            clear hb
            refine tF 14 [.alt 9 (some 93) (.bool ((errA again) == 0)) (.bool true), .val 10 (some 94) (.bool true), .val 11 (some 95) (.bool true), .load 12 (some 96) 26 (pt N3 0) (akv again), .load 13 (some 97) 26 (pt N2 0) (akv a)] ⟨congrArg Value.bool ((by have h := Hhb12.out; simpa using h)), load_part (hM.at 3 rfl) 0 (akc again) rfl _ _ Try.underlying26 rfl (by kernel_rfl), load_part (hM.at 4 rfl) 0 (akc a) rfl _ _ Try.underlying26 rfl (by kernel_rfl), trivial⟩ ?_
            refine neA (.tmp 96) (.tmp 97) 26 (some 98) (akc again).toArray (akc a).toArray (decide (again = a)) (run_eqAk again a _) ?_
            refine tF 16 [.val 15 (some 99) (.bool (!(decide (again = a))))] trivial ?_
            cases hb13 : !(decide (again = a)) with
            | false =>
              have Hhb13 := Lib.hid hb13
              clear hb13
              refine tF 31 [.val 16 (some 100) (.int .i64 39), .val 17 (some 101) (.bool true), .val 18 (some 102) (.bool true), .val 19 (some 103) (.bool true), .val 20 (some 104) (.bool true), .val 21 (some 105) (.bool true), .val 22 (some 106) (.int .i64 0), .val 23 (some 107) (.bool true), .val 24 (some 108) (.bool true), .skip 25 (some 109), .skip 26 (some 110), .skip 27 (some 111), .val 28 (some 112) (.bool true), .val 29 (some 113) (.bool true), .val 30 (some 8) (.bool true)] trivial ?_
              refine dF ?_
              try simp only [puts, Tk.put, Act.put, List.setIfInBounds_toArray, List.set_cons_zero, List.set_cons_succ]
              go_wp2_with fail
              go_ret
              exact ⟨rfl, hM.b⟩
            | true =>
              have Hhb13 := Lib.hid hb13
              clear hb13
              refine tF 31 [.skip 16 (some 100), .skip 17 (some 101), .val 18 (some 102) (.bool true), .val 19 (some 103) (.bool true), .val 20 (some 104) (.bool true), .val 21 (some 105) (.bool true), .val 22 (some 106) (.int .i64 0), .val 23 (some 107) (.bool true), .val 24 (some 108) (.bool true), .skip 25 (some 109), .skip 26 (some 110), .skip 27 (some 111), .val 28 (some 112) (.bool true), .val 29 (some 113) (.bool true), .val 30 (some 8) (.bool true)] trivial ?_
              refine dF ?_
              try simp only [puts, Tk.put, Act.put, List.setIfInBounds_toArray, List.set_cons_zero, List.set_cons_succ]
              go_wp2_with fail
              go_ret
              exact ⟨rfl, hM.b⟩
          | true =>
            have Hhb12 := Lib.hid hb12
            clear hb12
            have hq := clAsk_any again now _ (hM.oka 1 rfl)
            rw [u0_bad Hhb11.out Hhb12.out] at hq
            refine cF (some 81) 7 #[pt C7 0, akv again, .int .i64 now] ((hq).mono ?_)
            rintro e Y73 ⟨rfl, vo73, vp73, va73, vb73, hT⟩
            clear hq
            replace hM := hM.turn 1 rfl hT rfl
            clear hT
            refine tF 7 [.val 4 (some 77) (.tuple #[msv noM, .int .i64 39]), .val 5 (some 82) (msv noM), .val 6 (some 83) (.int .i64 39)] trivial ?_
            refine rF (some 15) (pt Y73.heap.size 0) (Y73.alloc (.cells (msc noM).toArray 39)) ?_
            replace hM := hM.alloc 39 (msc noM)
            generalize World.alloc _ _ = Y74 at *
            generalize hNe : Y73.heap.size = N74 at *
            clear hNe
            have hst := sto_part (msc noM) (hM.at 0 rfl) 0 39 (msv noM) (msc noM) rfl (by kernel_rfl) (Nat.le_of_ble_eq_true rfl) rfl rfl
            refine sF 39 (pt N74 0) (msv noM) (hst) ?_
            clear hst
            replace hM := hM.set 0 (cs' := msc noM) rfl rfl
            generalize World.setRow _ _ _ = Y75 at *
            refine tF 10 [.val 9 (some 16) (.int .i64 39)] trivial ?_
            refine dF ?_
            try simp only [puts, Tk.put, Act.put, List.setIfInBounds_toArray, List.set_cons_zero, List.set_cons_succ]
            go_upto_region 16 with fail
            refine wp_region_fromM (fun W => Sep w [] [.blk N74 39 (msc noM), .blk N63 39 (msc noM), .join (CLR C7 D7 R7 (newU user ⟨#[]⟩ ⟨#[]⟩ 1 9000) vo73 vp73 va73 vb73), .blk N3 26 (akc again), .blk N2 26 (akc a)] W) hM ?_
            clear hM
            rintro Y76 hM
            refine tF 8 [.val 0 (some 84) (.int .i64 39), .val 1 (some 85) (.bool false), .val 2 (some 86) (pt N3 0), .load 3 (some 87) 3 (pt N3 0) (.int .i64 again.us), .val 4 (some 88) (.int .i64 user), .alt 5 (some 89) (.bool (again.us == user)) (.bool true), .val 6 (some 90) (.bool true), .load 7 (some 91) 26 (pt N3 0) (akv again)] ⟨ld_any _ _ Try.underlying3 rfl (hM.at 3 rfl) 0 rfl, congrArg Value.bool ((by have h := Hhb11.out; simpa using h)), load_part (hM.at 3 rfl) 0 (akc again) rfl _ _ Try.underlying26 rfl (by kernel_rfl), trivial⟩ ?_
            refine cF (some 92) 8 #[akv again] ((refAsk_any again _).mono ?_)
            rintro e Y77 ⟨rfl, hb⟩
            replace hM := hM.below hb
            clear hb
            refine tF 27 [.alt 9 (some 93) (.bool ((errA again) == 0)) (.bool false), .val 10 (some 94) (.bool false), .val 11 (some 95) (.bool false), .skip 12 (some 96), .skip 13 (some 97), .skip 14 (some 98), .skip 15 (some 99), .skip 16 (some 100), .skip 17 (some 101), .skip 18 (some 102), .val 19 (some 103) (.bool false), .val 20 (some 104) (.bool true), .val 21 (some 105) (.bool true), .val 22 (some 106) (.int .i64 39), .val 23 (some 107) (.bool false), .val 24 (some 108) (.bool false), .load 25 (some 109) 39 (pt N74 0) (msv noM), .val 26 (some 110) (msv noM)] ⟨congrArg Value.bool ((by have h := Hhb12.out; simpa using h)), load_part (hM.at 0 rfl) 0 (msc noM) rfl _ _ Try.underlying39 rfl (by kernel_rfl), trivial⟩ ?_
            refine eqA (.tmp 109) (.tmp 110) 39 (some 111) (msc noM).toArray (msc noM).toArray true (Eq.trans (run_eqM noM noM _) (congrArg (fun z => Result.ok z _) (eqM_refl _))) ?_
            refine tF 31 [.val 28 (some 112) (.bool true), .val 29 (some 113) (.bool true), .val 30 (some 8) (.bool true)] trivial ?_
            refine dF ?_
            try simp only [puts, Tk.put, Act.put, List.setIfInBounds_toArray, List.set_cons_zero, List.set_cons_succ]
            go_wp2_with fail
            go_ret
            exact ⟨rfl, hM.b⟩
        | true =>
          have Hhb11 := Lib.hid hb11
          clear hb11
          have hq := clAsk_any again now _ (hM.oka 1 rfl)
          rw [u0_us Hhb11.out] at hq
          refine cF (some 81) 7 #[pt C7 0, akv again, .int .i64 now] ((hq).mono ?_)
          rintro e Y78 ⟨rfl, vo78, vp78, va78, vb78, hT⟩
          clear hq
          replace hM := hM.turn 1 rfl hT rfl
          clear hT
          refine tF 7 [.val 4 (some 77) (.tuple #[msv noM, .int .i64 39]), .val 5 (some 82) (msv noM), .val 6 (some 83) (.int .i64 39)] trivial ?_
          refine rF (some 15) (pt Y78.heap.size 0) (Y78.alloc (.cells (msc noM).toArray 39)) ?_
          replace hM := hM.alloc 39 (msc noM)
          generalize World.alloc _ _ = Y79 at *
          generalize hNe : Y78.heap.size = N79 at *
          clear hNe
          have hst := sto_part (msc noM) (hM.at 0 rfl) 0 39 (msv noM) (msc noM) rfl (by kernel_rfl) (Nat.le_of_ble_eq_true rfl) rfl rfl
          refine sF 39 (pt N79 0) (msv noM) (hst) ?_
          clear hst
          replace hM := hM.set 0 (cs' := msc noM) rfl rfl
          generalize World.setRow _ _ _ = Y80 at *
          refine tF 10 [.val 9 (some 16) (.int .i64 39)] trivial ?_
          refine dF ?_
          try simp only [puts, Tk.put, Act.put, List.setIfInBounds_toArray, List.set_cons_zero, List.set_cons_succ]
          go_upto_region 16 with fail
          refine wp_region_fromM (fun W => Sep w [] [.blk N79 39 (msc noM), .blk N63 39 (msc noM), .join (CLR C7 D7 R7 (newU user ⟨#[]⟩ ⟨#[]⟩ 1 9000) vo78 vp78 va78 vb78), .blk N3 26 (akc again), .blk N2 26 (akc a)] W) hM ?_
          clear hM
          rintro Y81 hM
          refine tF 8 [.val 0 (some 84) (.int .i64 39), .val 1 (some 85) (.bool false), .val 2 (some 86) (pt N3 0), .load 3 (some 87) 3 (pt N3 0) (.int .i64 again.us), .val 4 (some 88) (.int .i64 user), .alt 5 (some 89) (.bool (again.us == user)) (.bool false), .val 6 (some 90) (.bool false), .skip 7 (some 91)] ⟨ld_any _ _ Try.underlying3 rfl (hM.at 3 rfl) 0 rfl, congrArg Value.bool ((by have h := Hhb11.out; simpa using h)), trivial⟩ ?_
          refine wpFrom_not (d := some 92) (by kernel_rfl) ?_
          refine tF 27 [.skip 9 (some 93), .val 10 (some 94) (.bool false), .val 11 (some 95) (.bool false), .skip 12 (some 96), .skip 13 (some 97), .skip 14 (some 98), .skip 15 (some 99), .skip 16 (some 100), .skip 17 (some 101), .skip 18 (some 102), .val 19 (some 103) (.bool false), .val 20 (some 104) (.bool true), .val 21 (some 105) (.bool true), .val 22 (some 106) (.int .i64 39), .val 23 (some 107) (.bool false), .val 24 (some 108) (.bool false), .load 25 (some 109) 39 (pt N79 0) (msv noM), .val 26 (some 110) (msv noM)] ⟨load_part (hM.at 0 rfl) 0 (msc noM) rfl _ _ Try.underlying39 rfl (by kernel_rfl), trivial⟩ ?_
          refine eqA (.tmp 109) (.tmp 110) 39 (some 111) (msc noM).toArray (msc noM).toArray true (Eq.trans (run_eqM noM noM _) (congrArg (fun z => Result.ok z _) (eqM_refl _))) ?_
          refine tF 31 [.val 28 (some 112) (.bool true), .val 29 (some 113) (.bool true), .val 30 (some 8) (.bool true)] trivial ?_
          refine dF ?_
          try simp only [puts, Tk.put, Act.put, List.setIfInBounds_toArray, List.set_cons_zero, List.set_cons_succ]
          go_wp2_with fail
          go_ret
          exact ⟨rfl, hM.b⟩
    | true =>
      have Hhb2 := Lib.hid hb2
      clear hb2
      refine cF (some 21) 6 #[.int .i64 user, .slice none 0 0, .int .i64 1, .int .i64 9000] ((clNew_no user 1 9000 (.slice none 0 0) _ (by have h := of_decide_eq_true Hhb2.out; omega)).mono ?_)
      rintro e Y83 ⟨rfl, hb⟩
      replace hM := hM.below hb
      clear hb
      refine tF 7 [.val 2 (some 19) (.tuple #[.pointer none, .int .i64 4]), .val 3 (some 22) (.pointer none), .val 4 (some 23) (.int .i64 4), .val 5 (some 9) (.pointer none), .val 6 (some 10) (.int .i64 4)] trivial ?_
      refine dF ?_
      try simp only [puts, Tk.put, Act.put, List.setIfInBounds_toArray, List.set_cons_zero, List.set_cons_succ]
      go_upto_region 4 with fail
      refine wp_region_fromM (fun W => Sep w [] [.blk N3 26 (akc again), .blk N2 26 (akc a)] W) hM ?_
      clear hM
      rintro Y84 hM
      refine tF 6 [.val 0 (some 24) (.int .i64 user), .alt 1 (some 25) (.bool (decide (user < 0))) (.bool false), .val 2 (some 26) (.bool false), .val 3 (some 27) (.int .i64 user), .alt 4 (some 28) (.bool (decide (1 < user))) (.bool true), .val 5 (some 29) (.bool true)] ⟨congrArg Value.bool (Hhb1.out), congrArg Value.bool (Hhb2.out), trivial⟩ ?_
      refine dF ?_
      try simp only [puts, Tk.put, Act.put, List.setIfInBounds_toArray, List.set_cons_zero, List.set_cons_succ]
      go_upto_region 5 with fail
      refine wp_region_fromM (fun W => Sep w [] [.blk N3 26 (akc again), .blk N2 26 (akc a)] W) hM ?_
      clear hM
      rintro Y85 hM
      refine tF 7 [.val 0 (some 30) (.int .i64 4), .val 1 (some 31) (.bool true), .val 2 (some 32) (.bool true), .val 3 (some 33) (.pointer none), .val 4 (some 34) (.bool true), .val 5 (some 35) (.bool true), .val 6 (some 8) (.bool true)] trivial ?_
      refine dF ?_
      try simp only [puts, Tk.put, Act.put, List.setIfInBounds_toArray, List.set_cons_zero, List.set_cons_succ]
      go_wp2_with fail
      go_ret
      exact ⟨rfl, hM.b⟩
  | true =>
    have Hhb1 := Lib.hid hb1
    clear hb1
    refine cF (some 21) 6 #[.int .i64 user, .slice none 0 0, .int .i64 1, .int .i64 9000] ((clNew_no user 1 9000 (.slice none 0 0) _ (by have h := of_decide_eq_true Hhb1.out; omega)).mono ?_)
    rintro e Y87 ⟨rfl, hb⟩
    replace hM := hM.below hb
    clear hb
    refine tF 7 [.val 2 (some 19) (.tuple #[.pointer none, .int .i64 4]), .val 3 (some 22) (.pointer none), .val 4 (some 23) (.int .i64 4), .val 5 (some 9) (.pointer none), .val 6 (some 10) (.int .i64 4)] trivial ?_
    refine dF ?_
    try simp only [puts, Tk.put, Act.put, List.setIfInBounds_toArray, List.set_cons_zero, List.set_cons_succ]
    go_upto_region 4 with fail
    refine wp_region_fromM (fun W => Sep w [] [.blk N3 26 (akc again), .blk N2 26 (akc a)] W) hM ?_
    clear hM
    rintro Y88 hM
    refine tF 6 [.val 0 (some 24) (.int .i64 user), .alt 1 (some 25) (.bool (decide (user < 0))) (.bool true), .val 2 (some 26) (.bool true), .skip 3 (some 27), .skip 4 (some 28), .val 5 (some 29) (.bool true)] ⟨congrArg Value.bool (Hhb1.out), trivial⟩ ?_
    refine dF ?_
    try simp only [puts, Tk.put, Act.put, List.setIfInBounds_toArray, List.set_cons_zero, List.set_cons_succ]
    go_upto_region 5 with fail
    refine wp_region_fromM (fun W => Sep w [] [.blk N3 26 (akc again), .blk N2 26 (akc a)] W) hM ?_
    clear hM
    rintro Y89 hM
    refine tF 7 [.val 0 (some 30) (.int .i64 4), .val 1 (some 31) (.bool true), .val 2 (some 32) (.bool true), .val 3 (some 33) (.pointer none), .val 4 (some 34) (.bool true), .val 5 (some 35) (.bool true), .val 6 (some 8) (.bool true)] trivial ?_
    refine dF ?_
    try simp only [puts, Tk.put, Act.put, List.setIfInBounds_toArray, List.set_cons_zero, List.set_cons_succ]
    go_wp2_with fail
    go_ret
    exact ⟨rfl, hM.b⟩
end Go.Proofs.Ytbjpifcgnombaaa
namespace Go.Proofs.Ytbjpifcgnombaaa
open Go.ChangeShapes Go.WideShapes Go.ChangeAt Go.RowKit Go.Deep
open Go.ChangeMaps (open_string)
set_option maxRecDepth 100000 in
theorem clientAsks_lifted (os : Os) (started : os.Started) (H : Type) (enc : TypeId × Value → H) :
    ReturnsInHanded {} Try.checked os 3 .any (Rows.clientAsksSpec.pre6 enc Try.prog Try.f3 Rows.clientAsksRow.domain false) (Rows.clientAsksSpec.post enc Try.prog Try.f3 false true false false) := by
  refine returnsInHanded_of_change_sized (C := Try.checked) Try.own started (by kernel_rfl) Try.func3
    (ChangeSpec.witness6 (enc := enc) (C := Try.checked) false ⟨#[], #[.int .i64 0, .agg #[.int .i64 0, .int .i64 0, .int .i64 0, .int .i64 0, .int .u64 0, .int .u64 0, .int .u64 0, .int .u64 0, .string ⟨#[]⟩], .agg #[.int .i64 0, .int .i64 0, .int .i64 0, .int .i64 0, .int .u64 0, .int .u64 0, .int .u64 0, .int .u64 0, .string ⟨#[]⟩], .int .i64 0], []⟩ 8 (by kernel_rfl) (by kernel_rfl) (by kernel_rfl) (by kernel_rfl)) ?_
  intro W base args ds gs before hval0 hW hcnd hsz0 _
  have hval : ∀ (j : Nat) t v, Try.f3.params[j]? = some t → args[j]? = some v → Value.okWide Try.prog W .any base t v := hval0
  have hW' := hW
  obtain ⟨p, q, hA0, hV, rfl, hfz, hnd⟩ := hW
  have hA : DataW.TrodAll enc Try.prog W 0 (fun _ => true) true Try.f3.params.toList args.toList ds p := hA0
  have hsz : (DataW.weightsEach Try.prog (Try.f3.params.toList ++ Rows.clientAsksSpec.plain.varTypes Try.prog) (ds ++ gs)).all (· ≤ reachBytes) = true := hsz0
  rw [Try.params3] at hA hval hsz
  obtain ⟨v0, v1, v2, v3, d0, d1, d2, d3, p0, p1, p2, p3, rfl, rfl, rfl, h0, h1, h2, h3⟩ := trodAll_four hA
  obtain ⟨rfl, rfl⟩ := trodVars_none hV
  have k0 := h0
  have k1 := h1
  have k2 := h2
  have k3 := h3
  have lt0 : ∀ x ∈ p0, x.block < W.heap.size := by obtain ⟨m, hm⟩ := k0; exact DataW.trod_lt m _ _ _ hm
  have lt1 : ∀ x ∈ p1, x.block < W.heap.size := by obtain ⟨m, hm⟩ := k1; exact DataW.trod_lt m _ _ _ hm
  have lt2 : ∀ x ∈ p2, x.block < W.heap.size := by obtain ⟨m, hm⟩ := k2; exact DataW.trod_lt m _ _ _ hm
  have lt3 : ∀ x ∈ p3, x.block < W.heap.size := by obtain ⟨m, hm⟩ := k3; exact DataW.trod_lt m _ _ _ hm
  obtain ⟨z0, rfl, _, _, wf0⟩ := open_int Try.underlying3 (hval 0 3 v0 rfl rfl) h0
  obtain ⟨zl0, zh0⟩ := wf_i64 wf0
  obtain ⟨i1, rfl, hx1⟩ := open_ask (hval 1 26 v1 rfl rfl) h1
  obtain ⟨i2, rfl, hx2⟩ := open_ask (hval 2 26 v2 rfl rfl) h2
  obtain ⟨z3, rfl, _, _, wf3⟩ := open_int Try.underlying3 (hval 3 3 v3 rfl rfl) h3
  obtain ⟨zl3, zh3⟩ := wf_i64 wf3
  clear hA0 hval0
  refine (clientAsks_any z0 i1 i2 z3 W).mono fun e W' ⟨he, bel⟩ => ?_
  subst he
  exact ⟨_, rfl, _, _, _, [], _, [], hW', trodAll_mk1 (shut_bool Try.underlying4 _), (trodAll_mk4 (Below.trod Try.laidOut (by kernel_rfl) (of_decide_eq_true (by kernel_rfl)) k0 bel lt0) (Below.trod Try.laidOut (by kernel_rfl) (of_decide_eq_true (by kernel_rfl)) k1 bel lt1) (Below.trod Try.laidOut (by kernel_rfl) (of_decide_eq_true (by kernel_rfl)) k2 bel lt2) (Below.trod Try.laidOut (by kernel_rfl) (of_decide_eq_true (by kernel_rfl)) k3 bel lt3)), rfl, bel.frame _, fun h => by cases h⟩
theorem clientAsks_over : Rows.clientAsksRow.holds Try.pinned (OpenSpec.ofChange Rows.clientAsksSpec) :=
  OpenClaim.holds_of_wide 3 Try.f3 rfl rfl rfl rfl rfl rfl rfl ⟨rfl, rfl, rfl, rfl, rfl⟩ rfl rfl rfl rfl rfl (by kernel_rfl) Try.func3 (by kernel_rfl)
    (of_decide_eq_true (by kernel_rfl)) (by unfold Func.isWrapper; first | (rw [if_pos (by decide +kernel)]; kernel_rfl) | (rw [if_neg (by decide +kernel)]; exact ⟨rfl, rfl⟩))
    (fun os started H enc _ => clientAsks_lifted os started H enc)
theorem clientAsks_proved : Rows.ClientAsksSaid := clientAsks_over
end Go.Proofs.Ytbjpifcgnombaaa
