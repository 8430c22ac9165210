/-
  A region that draws: the condition on the world may be strengthened on the way.
  Which asks and bids may be: bid's CheckAsk and Check.
  Which messages may be: mail's Check.
  A new Out; octets that are handed back.
  An ask, read of an In.
-/
import Derived.Deep.RegionHeld3
import Derived.Test.YtigdenlnnnfjlaaProg
import Derived.Outline
import Derived.Deep.Cut
import Derived.Test.YtigdenlnnnfjlaaK05
namespace Go.Proofs.Ytigdenlnnnfjlaa

theorem wpAnyH_mono {P : Program} {ops : Array Oper} {Q : Exit → Act → World → Prop} {md : Region.Mode} {S S' : World → Prop} (h : ∀ w, S' w → S w) :
    ∀ (fuel : Nat) (listed : Array Bool) (a : Act) (w : World), wpAnyH P md ops Q S' fuel listed a w → wpAnyH P md ops Q S fuel listed a w
  | 0, _, _, _, H => H
  | fuel + 1, _, _, _, H => ⟨H.1, fun i hi => wpOp_mono (fun a' w' h' => ⟨h _ h'.1, wpAnyH_mono h fuel _ a' w' h'.2⟩) (H.2 i hi)⟩
end Go.Proofs.Ytigdenlnnnfjlaa

namespace Go.Proofs.Ytigdenlnnnfjlaa
open Go.RowKit Go.Shelf

/-- A number is where it may be. -/
def inB (n l m : Int) : Bool := decide (l ≤ n ∧ n ≤ m)
theorem within_any (n l m : Int) (w : World) :
    Calls Try.prog 74 #[.int .i64 n, .int .i64 l, .int .i64 m] w fun e W' => e = .returned (.bool (inB n l m)) ∧ w = W' := by
  by_cases h1 : l ≤ n
  · by_cases h2 : n ≤ m
    · rw [show inB n l m = true from decide_eq_true ⟨h1, h2⟩]
      go_enter Try.func74, Try.ntmps74
      go_wp2
      go_ret
      exact ⟨rfl, rfl⟩
    · rw [show inB n l m = false from decide_eq_false (by omega)]
      go_enter Try.func74, Try.ntmps74
      go_wp2
      go_ret
      exact ⟨rfl, rfl⟩
  · rw [show inB n l m = false from decide_eq_false (by omega)]
    go_enter Try.func74, Try.ntmps74
    go_wp2
    go_ret
    exact ⟨rfl, rfl⟩

/-- Rule k of six. -/
def bAt (b0 b1 b2 b3 b4 b5 : Bool) (k : Nat) : Bool := match k with | 0 => b0 | 1 => b1 | 2 => b2 | 3 => b3 | 4 => b4 | _ => b5
def judgeI (b0 b1 b2 b3 b4 b5 : Bool) : Int := if b0 = true ∧ b1 = true ∧ b2 = true ∧ b3 = true ∧ b4 = true ∧ b5 = true then 0 else 39
theorem judge_all {b0 b1 b2 b3 b4 b5 : Bool} (h : ∀ j, j < 6 → bAt b0 b1 b2 b3 b4 b5 j = true) : judgeI b0 b1 b2 b3 b4 b5 = 0 :=
  if_pos ⟨h 0 (by omega), h 1 (by omega), h 2 (by omega), h 3 (by omega), h 4 (by omega), h 5 (by omega)⟩
theorem judge_not {b0 b1 b2 b3 b4 b5 : Bool} {j : Nat} (hj : j < 6) (h : bAt b0 b1 b2 b3 b4 b5 j = false) : judgeI b0 b1 b2 b3 b4 b5 = 39 := by
  refine if_neg fun ⟨h0, h1, h2, h3, h4, h5⟩ => ?_
  match j, hj with
  | 0, _ => exact absurd (h0.symm.trans h) (by decide)
  | 1, _ => exact absurd (h1.symm.trans h) (by decide)
  | 2, _ => exact absurd (h2.symm.trans h) (by decide)
  | 3, _ => exact absurd (h3.symm.trans h) (by decide)
  | 4, _ => exact absurd (h4.symm.trans h) (by decide)
  | 5, _ => exact absurd (h5.symm.trans h) (by decide)
set_option maxRecDepth 100000 in
theorem idx_rules (b0 b1 b2 b3 b4 b5 : Bool) (w : World) {k : Nat} (hk : k < 6) :
    (Instr.index 124 (.agg #[.bool b0, .bool b1, .bool b2, .bool b3, .bool b4, .bool b5]) (.int .i64 k)).run Try.prog w = .ok (.bool (bAt b0 b1 b2 b3 b4 b5 k)) w := by
  have hs : ∀ j : Nat, (sizeOf 4).run Try.prog w = .ok 1 w := fun _ => by kernel_rfl
  obtain rfl | rfl | rfl | rfl | rfl | rfl : k = 0 ∨ k = 1 ∨ k = 2 ∨ k = 3 ∨ k = 4 ∨ k = 5 := by omega
  all_goals
    simp [Instr.index, run_underlying Try.underlying124, asIntOf, hs 0, go_sem, bAt]
set_option maxRecDepth 100000 in
set_option maxHeartbeats 1000000 in
theorem judge_any (b0 b1 b2 b3 b4 b5 : Bool) (w : World) :
    Calls Try.prog 73 #[.agg #[.bool b0, .bool b1, .bool b2, .bool b3, .bool b4, .bool b5]] w fun e W' => e = .returned (.int .i64 (judgeI b0 b1 b2 b3 b4 b5)) ∧ Below w.heap.size w W' := by
  have kB := Blk.new w 124 [.bool b0, .bool b1, .bool b2, .bool b3, .bool b4, .bool b5]
  have hB := chain0 w (.cells #[.bool b0, .bool b1, .bool b2, .bool b3, .bool b4, .bool b5] 124)
  obtain ⟨c0, c1, c2, c3, c4, c5⟩ := Blk.c6 kB
  have HJ : Hid (∀ (j : Nat), j < 6 → ∀ W, (Instr.index 124 (.agg #[.bool b0, .bool b1, .bool b2, .bool b3, .bool b4, .bool b5]) (.int .i64 j)).run Try.prog W = .ok (.bool (bAt b0 b1 b2 b3 b4 b5 j)) W) := Lib.hid fun j hj W => idx_rules b0 b1 b2 b3 b4 b5 W hj
  have HA1 := Lib.hid (fun h => judge_all (b0 := b0) (b1 := b1) (b2 := b2) (b3 := b3) (b4 := b4) (b5 := b5) h)
  have HA2 := Lib.hid (fun j hj h => judge_not (b0 := b0) (b1 := b1) (b2 := b2) (b3 := b3) (b4 := b4) (b5 := b5) (j := j) hj h)
  generalize bAt b0 b1 b2 b3 b4 b5 = f at *
  go_enter Try.func73, Try.ntmps73
  go_wp2_with fail
  clear c0 c1 c2 c3 c4 c5 kB
  go_loopw [6] (fun n wr => ∃ k : Nat, k ≤ 6 ∧ n = .int .i64 k ∧ (∀ j, j < k → f j = true) ∧ Below w.heap.size w wr) (fun n _ => 6 - (intOf n).toNat)
  case atStart => exact ⟨0, by omega, rfl, fun j hj => absurd hj (by omega), hB⟩
  case round =>
    clear hB
    obtain ⟨k, hk, rfl, hall, hB⟩ := hrel
    have HA := Lib.hid hall
    clear hall
    by_cases hlt : k < 6
    · have hlt' : (k : Int) < 6 := by omega
      have HI := Lib.hid (fun W => HJ.out k hlt W)
      by_cases hb : f k = true
      · have HN : Hid (∀ j, j < k + 1 → f j = true) := Lib.hid fun j hj => by
          by_cases hjk : j < k
          · exact HA.out j hjk
          · obtain rfl : j = k := by omega
            exact hb
        rw [hb] at HI
        clear hb HA
        go_wp2_with (refine wpList_indexTo rfl 124 (.tmp 5) (.tmp 6) rfl (some 8) rfl _ (HI.out _) ?_)
        go_roundw
        case rel => exact ⟨k + 1, by omega, by go_num, HN.out, hB⟩
        case measure => simp [intOf]; omega
      · replace hb : f k = false := by simpa using hb
        have HX := Lib.hid (HA2.out k hlt hb)
        rw [hb] at HI
        clear hb HA
        go_wp2_with (refine wpList_indexTo rfl 124 (.tmp 5) (.tmp 6) rfl (some 8) rfl _ (HI.out _) ?_)
        go_ret
        exact ⟨by rw [HX.out]; rfl, hB⟩
    · obtain rfl : k = 6 := by omega
      go_wp2
      go_ret
      exact ⟨by rw [HA1.out HA.out]; rfl, hB⟩

theorem errA_judge {a : Ak} {z : Bool} (hz : z = true ↔ zw a.a0 a.a1 a.a2 a.a3) :
    judgeI (inB a.us 0 1) (inB a.se 0 1) (inB a.re 0 1) (inB a.to 0 7) (!z) (inB a.id.size 1 16) = errA a := by
  unfold judgeI errA
  congr 1
  simp only [inB, decide_eq_true_eq, maybeA, Bool.not_eq_true', eq_iff_iff]
  have e : (z = false) ↔ ¬ zw a.a0 a.a1 a.a2 a.a3 := by rw [← hz]; simp
  rw [e]
  constructor
  · rintro ⟨h0, h1, h2, h3, h4, h5⟩
    exact ⟨h0, h1, h2, h3, h4, by omega, by omega⟩
  · rintro ⟨h0, h1, h2, h3, h4, h5, h6⟩
    exact ⟨h0, h1, h2, h3, h4, by omega, by omega⟩
theorem zw_eq (a0 a1 a2 a3 : Nat) : (wEq a0 a1 a2 a3 0 0 0 0 = true ↔ zw a0 a1 a2 a3) := by
  unfold wEq zw; rw [decide_eq_true_eq]; omega

set_option maxRecDepth 100000 in
set_option maxHeartbeats 2000000 in
theorem checkAsk_any (a : Ak) (w : World) :
    Calls Try.prog 45 #[akv a] w fun e W' => e = .returned (.int .i64 (errA a)) ∧ Below w.heap.size w W' := by
  have hmx : Try.prog.follows .mixedOrders = true := by kernel_rfl
  have HE := Lib.hid (errA_judge (a := a) (zw_eq a.a0 a.a1 a.a2 a.a3))
  have hweq := @run_equalIn_wide
  generalize hz : wEq (a.a0 : Nat) (a.a1 : Nat) (a.a2 : Nat) (a.a3 : Nat) 0 0 0 0 = z at *
  have kB := Blk.new w 26 (akc a)
  have hB := chain0 w (.cells (akc a).toArray 26)
  go_enter Try.func45, Try.ntmps45
  go_wp2_with fail
  refine wp_region_held_drew (S := fun W => Blk W w.heap.size 26 (akc a)) hmx kB ?_
  intro hS
  replace hB := hB.drew
  clear kB
  generalize World.drew _ = Y at *
  refine' wpAnyH_take (i := 0) (oi := _) (v := _) ?hi1 (by kernel_rfl) (by kernel_rfl) (by kernel_rfl) ?hQ1 (Or.inl ⟨?hw1, ?hy1⟩) hS ?rest1
  case hi1 => simp only [List.getElem?_toArray, List.getElem?_cons_zero]; rfl
  case hQ1 => exact fun _ _ _ h => h
  case hw1 => rfl
  case hy1 => intro W' hS'; go_simp; with_reducible rfl
  try simp only [Act.put, List.setIfInBounds_toArray, List.set_cons_zero, List.set_cons_succ]
  refine' wpAnyH_take (i := 1) (oi := _) (v := _) ?hi2 (by kernel_rfl) (by kernel_rfl) (by kernel_rfl) ?hQ2 (Or.inl ⟨?hw2, ?hy2⟩) hS ?rest2
  case hi2 => simp only [List.getElem?_toArray, List.getElem?_cons_succ, List.getElem?_cons_zero]; rfl
  case hQ2 => exact fun _ _ _ h => h
  case hw2 => rfl
  case hy2 => intro W' hS'; obtain ⟨c0, c1, c2, c3, c4, c5, c6, c7, c8⟩ := Blk.c9 hS'; go_simp; with_reducible rfl
  try simp only [Act.put, List.setIfInBounds_toArray, List.set_cons_zero, List.set_cons_succ]
  refine' wpAnyH_take (i := 3) (oi := _) (v := _) ?hi3 (by kernel_rfl) (by kernel_rfl) (by kernel_rfl) ?hQ3 (Or.inl ⟨?hw3, ?hy3⟩) hS ?rest3
  case hi3 => simp only [List.getElem?_toArray, List.getElem?_cons_succ, List.getElem?_cons_zero]; rfl
  case hQ3 => exact fun _ _ _ h => h
  case hw3 => rfl
  case hy3 => intro W' hS'; go_simp; with_reducible rfl
  try simp only [Act.put, List.setIfInBounds_toArray, List.set_cons_zero, List.set_cons_succ]
  refine' wpAnyH_take (i := 4) (oi := _) (v := _) ?hi4 (by kernel_rfl) (by kernel_rfl) (by kernel_rfl) ?hQ4 (Or.inl ⟨?hw4, ?hy4⟩) hS ?rest4
  case hi4 => simp only [List.getElem?_toArray, List.getElem?_cons_succ, List.getElem?_cons_zero]; rfl
  case hQ4 => exact fun _ _ _ h => h
  case hw4 => rfl
  case hy4 => intro W' hS'; obtain ⟨c0, c1, c2, c3, c4, c5, c6, c7, c8⟩ := Blk.c9 hS'; go_simp; with_reducible rfl
  try simp only [Act.put, List.setIfInBounds_toArray, List.set_cons_zero, List.set_cons_succ]
  refine' wpAnyH_take (i := 6) (oi := _) (v := _) ?hi5 (by kernel_rfl) (by kernel_rfl) (by kernel_rfl) ?hQ5 (Or.inl ⟨?hw5, ?hy5⟩) hS ?rest5
  case hi5 => simp only [List.getElem?_toArray, List.getElem?_cons_succ, List.getElem?_cons_zero]; rfl
  case hQ5 => exact fun _ _ _ h => h
  case hw5 => rfl
  case hy5 => intro W' hS'; go_simp; with_reducible rfl
  try simp only [Act.put, List.setIfInBounds_toArray, List.set_cons_zero, List.set_cons_succ]
  refine' wpAnyH_take (i := 7) (oi := _) (v := _) ?hi6 (by kernel_rfl) (by kernel_rfl) (by kernel_rfl) ?hQ6 (Or.inl ⟨?hw6, ?hy6⟩) hS ?rest6
  case hi6 => simp only [List.getElem?_toArray, List.getElem?_cons_succ, List.getElem?_cons_zero]; rfl
  case hQ6 => exact fun _ _ _ h => h
  case hw6 => rfl
  case hy6 => intro W' hS'; obtain ⟨c0, c1, c2, c3, c4, c5, c6, c7, c8⟩ := Blk.c9 hS'; go_simp; with_reducible rfl
  try simp only [Act.put, List.setIfInBounds_toArray, List.set_cons_zero, List.set_cons_succ]
  refine' wpAnyH_take (i := 9) (oi := _) (v := _) ?hi7 (by kernel_rfl) (by kernel_rfl) (by kernel_rfl) ?hQ7 (Or.inl ⟨?hw7, ?hy7⟩) hS ?rest7
  case hi7 => simp only [List.getElem?_toArray, List.getElem?_cons_succ, List.getElem?_cons_zero]; rfl
  case hQ7 => exact fun _ _ _ h => h
  case hw7 => rfl
  case hy7 => intro W' hS'; go_simp; with_reducible rfl
  try simp only [Act.put, List.setIfInBounds_toArray, List.set_cons_zero, List.set_cons_succ]
  refine' wpAnyH_take (i := 10) (oi := _) (v := _) ?hi8 (by kernel_rfl) (by kernel_rfl) (by kernel_rfl) ?hQ8 (Or.inl ⟨?hw8, ?hy8⟩) hS ?rest8
  case hi8 => simp only [List.getElem?_toArray, List.getElem?_cons_succ, List.getElem?_cons_zero]; rfl
  case hQ8 => exact fun _ _ _ h => h
  case hw8 => rfl
  case hy8 => intro W' hS'; obtain ⟨c0, c1, c2, c3, c4, c5, c6, c7, c8⟩ := Blk.c9 hS'; go_simp; with_reducible rfl
  try simp only [Act.put, List.setIfInBounds_toArray, List.set_cons_zero, List.set_cons_succ]
  refine' wpAnyH_take (i := 12) (oi := _) (v := _) ?hi9 (by kernel_rfl) (by kernel_rfl) (by kernel_rfl) ?hQ9 (Or.inl ⟨?hw9, ?hy9⟩) hS ?rest9
  case hi9 => simp only [List.getElem?_toArray, List.getElem?_cons_succ, List.getElem?_cons_zero]; rfl
  case hQ9 => exact fun _ _ _ h => h
  case hw9 => rfl
  case hy9 => intro W' hS'; go_simp; with_reducible rfl
  try simp only [Act.put, List.setIfInBounds_toArray, List.set_cons_zero, List.set_cons_succ]
  refine' wpAnyH_take (i := 13) (oi := _) (v := _) ?hi10 (by kernel_rfl) (by kernel_rfl) (by kernel_rfl) ?hQ10 (Or.inl ⟨?hw10, ?hy10⟩) hS ?rest10
  case hi10 => simp only [List.getElem?_toArray, List.getElem?_cons_succ, List.getElem?_cons_zero]; rfl
  case hQ10 => exact fun _ _ _ h => h
  case hw10 => rfl
  case hy10 => intro W' hS'; obtain ⟨c0, c1, c2, c3, c4, c5, c6, c7, c8⟩ := Blk.c9 hS'; go_simp; with_reducible rfl
  try simp only [Act.put, List.setIfInBounds_toArray, List.set_cons_zero, List.set_cons_succ]
  refine' wpAnyH_take (i := 14) (oi := _) (v := _) ?hi11 (by kernel_rfl) (by kernel_rfl) (by kernel_rfl) ?hQ11 (Or.inl ⟨?hw11, ?hy11⟩) hS ?rest11
  case hi11 => simp only [List.getElem?_toArray, List.getElem?_cons_succ, List.getElem?_cons_zero]; rfl
  case hQ11 => exact fun _ _ _ h => h
  case hw11 => rfl
  case hy11 => intro W' hS'; go_simp; with_reducible rfl
  try simp only [Act.put, List.setIfInBounds_toArray, List.set_cons_zero, List.set_cons_succ]
  refine' wpAnyH_take (i := 15) (oi := _) (v := _) ?hi12 (by kernel_rfl) (by kernel_rfl) (by kernel_rfl) ?hQ12 (Or.inl ⟨?hw12, ?hy12⟩) hS ?rest12
  case hi12 => simp only [List.getElem?_toArray, List.getElem?_cons_succ, List.getElem?_cons_zero]; rfl
  case hQ12 => exact fun _ _ _ h => h
  case hw12 => rfl
  case hy12 => intro W' hS'; go_simp; with_reducible rfl
  try simp only [Act.put, List.setIfInBounds_toArray, List.set_cons_zero, List.set_cons_succ]
  refine' wpAnyH_take (i := 16) (oi := _) (v := _) ?hi13 (by kernel_rfl) (by kernel_rfl) (by kernel_rfl) ?hQ13 (Or.inl ⟨?hw13, ?hy13⟩) hS ?rest13
  case hi13 => simp only [List.getElem?_toArray, List.getElem?_cons_succ, List.getElem?_cons_zero]; rfl
  case hQ13 => exact fun _ _ _ h => h
  case hw13 => rfl
  case hy13 => intro W' hS'; go_simp; with_reducible rfl
  try simp only [Act.put, List.setIfInBounds_toArray, List.set_cons_zero, List.set_cons_succ]
  refine' wpAnyH_take (i := 17) (oi := _) (v := _) ?hi14 (by kernel_rfl) (by kernel_rfl) (by kernel_rfl) ?hQ14 (Or.inl ⟨?hw14, ?hy14⟩) hS ?rest14
  case hi14 => simp only [List.getElem?_toArray, List.getElem?_cons_succ, List.getElem?_cons_zero]; rfl
  case hQ14 => exact fun _ _ _ h => h
  case hw14 => rfl
  case hy14 => intro W' hS'; obtain ⟨c0, c1, c2, c3, c4, c5, c6, c7, c8⟩ := Blk.c9 hS'; go_simp; with_reducible rfl
  try simp only [Act.put, List.setIfInBounds_toArray, List.set_cons_zero, List.set_cons_succ]
  refine' wpAnyH_take (i := 18) (oi := _) (v := _) ?hi15 (by kernel_rfl) (by kernel_rfl) (by kernel_rfl) ?hQ15 (Or.inl ⟨?hw15, ?hy15⟩) hS ?rest15
  case hi15 => simp only [List.getElem?_toArray, List.getElem?_cons_succ, List.getElem?_cons_zero]; rfl
  case hQ15 => exact fun _ _ _ h => h
  case hw15 => rfl
  case hy15 => intro W' hS'; go_simp; with_reducible rfl
  try simp only [Act.put, List.setIfInBounds_toArray, List.set_cons_zero, List.set_cons_succ]
  refine wpAnyH_ready (rs := [2]) (by kernel_rfl) (by simp) ?_
  refine' AllReadyH.cons (o := _) ?ho16 (fun K hK => ?st16) AllReadyH.nil
  case ho16 => simp only [List.getElem?_toArray, List.getElem?_cons_succ, List.getElem?_cons_zero]; rfl
  case st16 =>
    go_simp
    refine (within_any a.us 0 1 _).mono ?_
    rintro e Y1 ⟨rfl, rfl⟩
    refine hK.out _ _ hS (fun hS => ?_)
    clear hK K
    try simp only [Act.put, List.setIfInBounds_toArray, List.set_cons_zero, List.set_cons_succ]
    refine wpAnyH_ready (rs := [5]) (by kernel_rfl) (by simp) ?_
    refine' AllReadyH.cons (o := _) ?ho17 (fun K hK => ?st17) AllReadyH.nil
    case ho17 => simp only [List.getElem?_toArray, List.getElem?_cons_succ, List.getElem?_cons_zero]; rfl
    case st17 =>
      go_simp
      refine (within_any a.se 0 1 _).mono ?_
      rintro e Y1 ⟨rfl, rfl⟩
      refine hK.out _ _ hS (fun hS => ?_)
      clear hK K
      try simp only [Act.put, List.setIfInBounds_toArray, List.set_cons_zero, List.set_cons_succ]
      refine wpAnyH_ready (rs := [8]) (by kernel_rfl) (by simp) ?_
      refine' AllReadyH.cons (o := _) ?ho18 (fun K hK => ?st18) AllReadyH.nil
      case ho18 => simp only [List.getElem?_toArray, List.getElem?_cons_succ, List.getElem?_cons_zero]; rfl
      case st18 =>
        go_simp
        refine (within_any a.re 0 1 _).mono ?_
        rintro e Y1 ⟨rfl, rfl⟩
        refine hK.out _ _ hS (fun hS => ?_)
        clear hK K
        try simp only [Act.put, List.setIfInBounds_toArray, List.set_cons_zero, List.set_cons_succ]
        refine wpAnyH_ready (rs := [11]) (by kernel_rfl) (by simp) ?_
        refine' AllReadyH.cons (o := _) ?ho19 (fun K hK => ?st19) AllReadyH.nil
        case ho19 => simp only [List.getElem?_toArray, List.getElem?_cons_succ, List.getElem?_cons_zero]; rfl
        case st19 =>
          go_simp
          refine (within_any a.to 0 7 _).mono ?_
          rintro e Y1 ⟨rfl, rfl⟩
          refine hK.out _ _ hS (fun hS => ?_)
          clear hK K
          try simp only [Act.put, List.setIfInBounds_toArray, List.set_cons_zero, List.set_cons_succ]
          refine wpAnyH_ready (rs := [19]) (by kernel_rfl) (by simp) ?_
          refine' AllReadyH.cons (o := _) ?ho20 (fun K hK => ?st20) AllReadyH.nil
          case ho20 => simp only [List.getElem?_toArray, List.getElem?_cons_succ, List.getElem?_cons_zero]; rfl
          case st20 =>
            go_simp
            refine (within_any a.id.size 1 16 _).mono ?_
            rintro e Y1 ⟨rfl, rfl⟩
            refine hK.out _ _ hS (fun hS => ?_)
            clear hK K
            try simp only [Act.put, List.setIfInBounds_toArray, List.set_cons_zero, List.set_cons_succ]
            refine' wpAnyH_take (i := 20) (oi := _) (v := _) ?hi21 (by kernel_rfl) (by kernel_rfl) (by kernel_rfl) ?hQ21 (Or.inl ⟨?hw21, ?hy21⟩) hS ?rest21
            case hi21 => simp only [List.getElem?_toArray, List.getElem?_cons_succ, List.getElem?_cons_zero]; rfl
            case hQ21 => exact fun _ _ _ h => h
            case hw21 => rfl
            case hy21 => intro W' hS'; go_simp; with_reducible rfl
            try simp only [Act.put, List.setIfInBounds_toArray, List.set_cons_zero, List.set_cons_succ]
            refine wpAnyH_ready (rs := [21]) (by kernel_rfl) (by simp) ?_
            refine' AllReadyH.cons (o := _) ?ho22 (fun K hK => ?st22) AllReadyH.nil
            case ho22 => simp only [List.getElem?_toArray, List.getElem?_cons_succ, List.getElem?_cons_zero]; rfl
            case st22 =>
              go_simp
              refine (judge_any _ _ _ _ _ _ _).mono ?_
              rintro e Y1 ⟨rfl, hb⟩
              refine hK.out _ _ (hS.below hb hS.lt) (fun hS => ?_)
              clear hK K
              try simp only [Act.put, List.setIfInBounds_toArray, List.set_cons_zero, List.set_cons_succ]
              replace hB := chain hB hb
              clear hb
              refine' wpAnyH_take (i := 22) (oi := _) (v := _) ?hi23 (by kernel_rfl) (by kernel_rfl) (by kernel_rfl) ?hQ23 (Or.inl ⟨?hw23, ?hy23⟩) hS ?rest23
              case hi23 => simp only [List.getElem?_toArray, List.getElem?_cons_succ, List.getElem?_cons_zero]; rfl
              case hQ23 => exact fun _ _ _ h => h
              case hw23 => rfl
              case hy23 => intro W' hS'; go_simp; with_reducible rfl
              try simp only [Act.put, List.setIfInBounds_toArray, List.set_cons_zero, List.set_cons_succ]
              refine wpAnyH_done (by kernel_rfl) ?_ _
              go_wp2_with fail
              go_ret
              exact ⟨by rw [HE.out]; rfl, hB⟩

theorem errB_judge {b : Bd} {z : Bool} (hz : z = true ↔ zw b.b0 b.b1 b.b2 b.b3) :
    judgeI (inB b.ro 2 3) (errA b.k == 0) (!z) (decide (cmpN (val b.b0 b.b1 b.b2 b.b3) (val b.k.a0 b.k.a1 b.k.a2 b.k.a3) ≤ 0)) (inB b.un 0 1099511627776) (decide ((b.sg.size : Int) ≤ 1024)) = errB b := by
  unfold judgeI errB
  congr 1
  have e : (z = false) ↔ ¬ zw b.b0 b.b1 b.b2 b.b3 := by rw [← hz]; simp
  have e2 : cmpN (val b.b0 b.b1 b.b2 b.b3) (val b.k.a0 b.k.a1 b.k.a2 b.k.a3) ≤ 0 ↔ val b.b0 b.b1 b.b2 b.b3 ≤ val b.k.a0 b.k.a1 b.k.a2 b.k.a3 := by
    unfold cmpN; split
    · omega
    · split <;> omega
  have e3 : (errA b.k == 0) = true ↔ maybeA b.k := by
    unfold errA; split <;> simp_all
  simp only [inB, decide_eq_true_eq, maybeB, Bool.not_eq_true', eq_iff_iff, e, e2, e3]
  constructor
  · rintro ⟨h0, h1, h2, h3, h4, h5⟩
    exact ⟨h0, h1, h2, h3, h4, by omega⟩
  · rintro ⟨h0, h1, h2, h3, h4, h5⟩
    exact ⟨h0, h1, h2, h3, h4, by omega⟩

set_option maxRecDepth 100000 in
set_option maxHeartbeats 4000000 in
theorem bidCheck_any (b : Bd) (hb4 : OkB b) (w : World) :
    Calls Try.prog 46 #[bdv b] w fun e W' => e = .returned (.int .i64 (errB b)) ∧ Below w.heap.size w W' := by
  have hmx : Try.prog.follows .mixedOrders = true := by kernel_rfl
  have HE := Lib.hid (errB_judge (b := b) (zw_eq b.b0 b.b1 b.b2 b.b3))
  have HC := Lib.hid (checkAsk_any b.k)
  have HV := Lib.hid (fun W => cmp_any hb4.b hb4.k W)
  have hweq := @run_equalIn_wide
  generalize hz : wEq (b.b0 : Nat) (b.b1 : Nat) (b.b2 : Nat) (b.b3 : Nat) 0 0 0 0 = z at *
  generalize errA b.k = ea at *
  generalize cmpN _ _ = cn at *
  have kB := Blk.new w 28 (bdc b)
  have hB := chain0 w (.cells (bdc b).toArray 28)
  go_enter Try.func46, Try.ntmps46
  go_wp2_with fail
  refine wp_region_held_drew (S := fun W => Blk W w.heap.size 28 (bdc b)) hmx kB ?_
  intro hS
  replace hB := hB.drew
  clear kB
  generalize World.drew _ = Y at *
  refine' wpAnyH_take (i := 0) (oi := _) (v := _) ?hi24 (by kernel_rfl) (by kernel_rfl) (by kernel_rfl) ?hQ24 (Or.inl ⟨?hw24, ?hy24⟩) hS ?rest24
  case hi24 => simp only [List.getElem?_toArray, List.getElem?_cons_zero]; rfl
  case hQ24 => exact fun _ _ _ h => h
  case hw24 => rfl
  case hy24 => intro W' hS'; go_simp; with_reducible rfl
  try simp only [Act.put, List.setIfInBounds_toArray, List.set_cons_zero, List.set_cons_succ]
  refine' wpAnyH_take (i := 1) (oi := _) (v := _) ?hi25 (by kernel_rfl) (by kernel_rfl) (by kernel_rfl) ?hQ25 (Or.inl ⟨?hw25, ?hy25⟩) hS ?rest25
  case hi25 => simp only [List.getElem?_toArray, List.getElem?_cons_succ, List.getElem?_cons_zero]; rfl
  case hQ25 => exact fun _ _ _ h => h
  case hw25 => rfl
  case hy25 => intro W' hS'; obtain ⟨c0, c1, c2, c3, c4, c5, c6, c7, c8, c9, c10, c11, c12, c13, c14, c15⟩ := Blk.c16 hS'; go_simp; with_reducible rfl
  try simp only [Act.put, List.setIfInBounds_toArray, List.set_cons_zero, List.set_cons_succ]
  refine' wpAnyH_take (i := 3) (oi := _) (v := _) ?hi26 (by kernel_rfl) (by kernel_rfl) (by kernel_rfl) ?hQ26 (Or.inl ⟨?hw26, ?hy26⟩) hS ?rest26
  case hi26 => simp only [List.getElem?_toArray, List.getElem?_cons_succ, List.getElem?_cons_zero]; rfl
  case hQ26 => exact fun _ _ _ h => h
  case hw26 => rfl
  case hy26 => intro W' hS'; go_simp; with_reducible rfl
  try simp only [Act.put, List.setIfInBounds_toArray, List.set_cons_zero, List.set_cons_succ]
  refine' wpAnyH_take (i := 4) (oi := _) (v := _) ?hi27 (by kernel_rfl) (by kernel_rfl) (by kernel_rfl) ?hQ27 (Or.inl ⟨?hw27, ?hy27⟩) hS ?rest27
  case hi27 => simp only [List.getElem?_toArray, List.getElem?_cons_succ, List.getElem?_cons_zero]; rfl
  case hQ27 => exact fun _ _ _ h => h
  case hw27 => rfl
  case hy27 => intro W' hS'; obtain ⟨c0, c1, c2, c3, c4, c5, c6, c7, c8, c9, c10, c11, c12, c13, c14, c15⟩ := Blk.c16 hS'; go_simp; with_reducible rfl
  try simp only [Act.put, List.setIfInBounds_toArray, List.set_cons_zero, List.set_cons_succ]
  refine' wpAnyH_take (i := 7) (oi := _) (v := _) ?hi28 (by kernel_rfl) (by kernel_rfl) (by kernel_rfl) ?hQ28 (Or.inl ⟨?hw28, ?hy28⟩) hS ?rest28
  case hi28 => simp only [List.getElem?_toArray, List.getElem?_cons_succ, List.getElem?_cons_zero]; rfl
  case hQ28 => exact fun _ _ _ h => h
  case hw28 => rfl
  case hy28 => intro W' hS'; go_simp; with_reducible rfl
  try simp only [Act.put, List.setIfInBounds_toArray, List.set_cons_zero, List.set_cons_succ]
  refine' wpAnyH_take (i := 8) (oi := _) (v := _) ?hi29 (by kernel_rfl) (by kernel_rfl) (by kernel_rfl) ?hQ29 (Or.inl ⟨?hw29, ?hy29⟩) hS ?rest29
  case hi29 => simp only [List.getElem?_toArray, List.getElem?_cons_succ, List.getElem?_cons_zero]; rfl
  case hQ29 => exact fun _ _ _ h => h
  case hw29 => rfl
  case hy29 => intro W' hS'; obtain ⟨c0, c1, c2, c3, c4, c5, c6, c7, c8, c9, c10, c11, c12, c13, c14, c15⟩ := Blk.c16 hS'; go_simp; with_reducible rfl
  try simp only [Act.put, List.setIfInBounds_toArray, List.set_cons_zero, List.set_cons_succ]
  refine' wpAnyH_take (i := 9) (oi := _) (v := _) ?hi30 (by kernel_rfl) (by kernel_rfl) (by kernel_rfl) ?hQ30 (Or.inl ⟨?hw30, ?hy30⟩) hS ?rest30
  case hi30 => simp only [List.getElem?_toArray, List.getElem?_cons_succ, List.getElem?_cons_zero]; rfl
  case hQ30 => exact fun _ _ _ h => h
  case hw30 => rfl
  case hy30 => intro W' hS'; go_simp; with_reducible rfl
  try simp only [Act.put, List.setIfInBounds_toArray, List.set_cons_zero, List.set_cons_succ]
  refine' wpAnyH_take (i := 10) (oi := _) (v := _) ?hi31 (by kernel_rfl) (by kernel_rfl) (by kernel_rfl) ?hQ31 (Or.inl ⟨?hw31, ?hy31⟩) hS ?rest31
  case hi31 => simp only [List.getElem?_toArray, List.getElem?_cons_succ, List.getElem?_cons_zero]; rfl
  case hQ31 => exact fun _ _ _ h => h
  case hw31 => rfl
  case hy31 => intro W' hS'; go_simp; with_reducible rfl
  try simp only [Act.put, List.setIfInBounds_toArray, List.set_cons_zero, List.set_cons_succ]
  refine' wpAnyH_take (i := 11) (oi := _) (v := _) ?hi32 (by kernel_rfl) (by kernel_rfl) (by kernel_rfl) ?hQ32 (Or.inl ⟨?hw32, ?hy32⟩) hS ?rest32
  case hi32 => simp only [List.getElem?_toArray, List.getElem?_cons_succ, List.getElem?_cons_zero]; rfl
  case hQ32 => exact fun _ _ _ h => h
  case hw32 => rfl
  case hy32 => intro W' hS'; go_simp; with_reducible rfl
  try simp only [Act.put, List.setIfInBounds_toArray, List.set_cons_zero, List.set_cons_succ]
  refine' wpAnyH_take (i := 12) (oi := _) (v := _) ?hi33 (by kernel_rfl) (by kernel_rfl) (by kernel_rfl) ?hQ33 (Or.inl ⟨?hw33, ?hy33⟩) hS ?rest33
  case hi33 => simp only [List.getElem?_toArray, List.getElem?_cons_succ, List.getElem?_cons_zero]; rfl
  case hQ33 => exact fun _ _ _ h => h
  case hw33 => rfl
  case hy33 => intro W' hS'; obtain ⟨c0, c1, c2, c3, c4, c5, c6, c7, c8, c9, c10, c11, c12, c13, c14, c15⟩ := Blk.c16 hS'; go_simp; with_reducible rfl
  try simp only [Act.put, List.setIfInBounds_toArray, List.set_cons_zero, List.set_cons_succ]
  refine' wpAnyH_take (i := 13) (oi := _) (v := _) ?hi34 (by kernel_rfl) (by kernel_rfl) (by kernel_rfl) ?hQ34 (Or.inl ⟨?hw34, ?hy34⟩) hS ?rest34
  case hi34 => simp only [List.getElem?_toArray, List.getElem?_cons_succ, List.getElem?_cons_zero]; rfl
  case hQ34 => exact fun _ _ _ h => h
  case hw34 => rfl
  case hy34 => intro W' hS'; go_simp; with_reducible rfl
  try simp only [Act.put, List.setIfInBounds_toArray, List.set_cons_zero, List.set_cons_succ]
  refine' wpAnyH_take (i := 14) (oi := _) (v := _) ?hi35 (by kernel_rfl) (by kernel_rfl) (by kernel_rfl) ?hQ35 (Or.inl ⟨?hw35, ?hy35⟩) hS ?rest35
  case hi35 => simp only [List.getElem?_toArray, List.getElem?_cons_succ, List.getElem?_cons_zero]; rfl
  case hQ35 => exact fun _ _ _ h => h
  case hw35 => rfl
  case hy35 => intro W' hS'; go_simp; with_reducible rfl
  try simp only [Act.put, List.setIfInBounds_toArray, List.set_cons_zero, List.set_cons_succ]
  refine' wpAnyH_take (i := 15) (oi := _) (v := _) ?hi36 (by kernel_rfl) (by kernel_rfl) (by kernel_rfl) ?hQ36 (Or.inl ⟨?hw36, ?hy36⟩) hS ?rest36
  case hi36 => simp only [List.getElem?_toArray, List.getElem?_cons_succ, List.getElem?_cons_zero]; rfl
  case hQ36 => exact fun _ _ _ h => h
  case hw36 => rfl
  case hy36 => intro W' hS'; obtain ⟨c0, c1, c2, c3, c4, c5, c6, c7, c8, c9, c10, c11, c12, c13, c14, c15⟩ := Blk.c16 hS'; go_simp; with_reducible rfl
  try simp only [Act.put, List.setIfInBounds_toArray, List.set_cons_zero, List.set_cons_succ]
  refine' wpAnyH_take (i := 18) (oi := _) (v := _) ?hi37 (by kernel_rfl) (by kernel_rfl) (by kernel_rfl) ?hQ37 (Or.inl ⟨?hw37, ?hy37⟩) hS ?rest37
  case hi37 => simp only [List.getElem?_toArray, List.getElem?_cons_succ, List.getElem?_cons_zero]; rfl
  case hQ37 => exact fun _ _ _ h => h
  case hw37 => rfl
  case hy37 => intro W' hS'; go_simp; with_reducible rfl
  try simp only [Act.put, List.setIfInBounds_toArray, List.set_cons_zero, List.set_cons_succ]
  refine' wpAnyH_take (i := 19) (oi := _) (v := _) ?hi38 (by kernel_rfl) (by kernel_rfl) (by kernel_rfl) ?hQ38 (Or.inl ⟨?hw38, ?hy38⟩) hS ?rest38
  case hi38 => simp only [List.getElem?_toArray, List.getElem?_cons_succ, List.getElem?_cons_zero]; rfl
  case hQ38 => exact fun _ _ _ h => h
  case hw38 => rfl
  case hy38 => intro W' hS'; obtain ⟨c0, c1, c2, c3, c4, c5, c6, c7, c8, c9, c10, c11, c12, c13, c14, c15⟩ := Blk.c16 hS'; go_simp; with_reducible rfl
  try simp only [Act.put, List.setIfInBounds_toArray, List.set_cons_zero, List.set_cons_succ]
  refine' wpAnyH_take (i := 21) (oi := _) (v := _) ?hi39 (by kernel_rfl) (by kernel_rfl) (by kernel_rfl) ?hQ39 (Or.inl ⟨?hw39, ?hy39⟩) hS ?rest39
  case hi39 => simp only [List.getElem?_toArray, List.getElem?_cons_succ, List.getElem?_cons_zero]; rfl
  case hQ39 => exact fun _ _ _ h => h
  case hw39 => rfl
  case hy39 => intro W' hS'; go_simp; with_reducible rfl
  try simp only [Act.put, List.setIfInBounds_toArray, List.set_cons_zero, List.set_cons_succ]
  refine' wpAnyH_take (i := 22) (oi := _) (v := _) ?hi40 (by kernel_rfl) (by kernel_rfl) (by kernel_rfl) ?hQ40 (Or.inl ⟨?hw40, ?hy40⟩) hS ?rest40
  case hi40 => simp only [List.getElem?_toArray, List.getElem?_cons_succ, List.getElem?_cons_zero]; rfl
  case hQ40 => exact fun _ _ _ h => h
  case hw40 => rfl
  case hy40 => intro W' hS'; obtain ⟨c0, c1, c2, c3, c4, c5, c6, c7, c8, c9, c10, c11, c12, c13, c14, c15⟩ := Blk.c16 hS'; go_simp; with_reducible rfl
  try simp only [Act.put, List.setIfInBounds_toArray, List.set_cons_zero, List.set_cons_succ]
  refine' wpAnyH_take (i := 23) (oi := _) (v := _) ?hi41 (by kernel_rfl) (by kernel_rfl) (by kernel_rfl) ?hQ41 (Or.inl ⟨?hw41, ?hy41⟩) hS ?rest41
  case hi41 => simp only [List.getElem?_toArray, List.getElem?_cons_succ, List.getElem?_cons_zero]; rfl
  case hQ41 => exact fun _ _ _ h => h
  case hw41 => rfl
  case hy41 => intro W' hS'; go_simp; with_reducible rfl
  try simp only [Act.put, List.setIfInBounds_toArray, List.set_cons_zero, List.set_cons_succ]
  refine' wpAnyH_take (i := 24) (oi := _) (v := _) ?hi42 (by kernel_rfl) (by kernel_rfl) (by kernel_rfl) ?hQ42 (Or.inl ⟨?hw42, ?hy42⟩) hS ?rest42
  case hi42 => simp only [List.getElem?_toArray, List.getElem?_cons_succ, List.getElem?_cons_zero]; rfl
  case hQ42 => exact fun _ _ _ h => h
  case hw42 => rfl
  case hy42 => intro W' hS'; go_simp; with_reducible rfl
  try simp only [Act.put, List.setIfInBounds_toArray, List.set_cons_zero, List.set_cons_succ]
  refine wpAnyH_ready (rs := [2]) (by kernel_rfl) (by simp) ?_
  refine' AllReadyH.cons (o := _) ?ho43 (fun K hK => ?st43) AllReadyH.nil
  case ho43 => simp only [List.getElem?_toArray, List.getElem?_cons_succ, List.getElem?_cons_zero]; rfl
  case st43 =>
    go_simp
    refine (within_any b.ro 2 3 _).mono ?_
    rintro e Y1 ⟨rfl, rfl⟩
    refine hK.out _ _ hS (fun hS => ?_)
    clear hK K
    try simp only [Act.put, List.setIfInBounds_toArray, List.set_cons_zero, List.set_cons_succ]
    refine wpAnyH_ready (rs := [5]) (by kernel_rfl) (by simp) ?_
    refine' AllReadyH.cons (o := _) ?ho44 (fun K hK => ?st44) AllReadyH.nil
    case ho44 => simp only [List.getElem?_toArray, List.getElem?_cons_succ, List.getElem?_cons_zero]; rfl
    case st44 =>
      go_simp
      refine (HC.out _).mono ?_
      rintro e Y1 ⟨rfl, hb⟩
      refine hK.out _ _ (hS.below hb hS.lt) (fun hS => ?_)
      clear hK K
      try simp only [Act.put, List.setIfInBounds_toArray, List.set_cons_zero, List.set_cons_succ]
      replace hB := chain hB hb
      clear hb
      refine' wpAnyH_take (i := 6) (oi := _) (v := _) ?hi45 (by kernel_rfl) (by kernel_rfl) (by kernel_rfl) ?hQ45 (Or.inl ⟨?hw45, ?hy45⟩) hS ?rest45
      case hi45 => simp only [List.getElem?_toArray, List.getElem?_cons_succ, List.getElem?_cons_zero]; rfl
      case hQ45 => exact fun _ _ _ h => h
      case hw45 => rfl
      case hy45 => intro W' hS'; go_simp; with_reducible rfl
      try simp only [Act.put, List.setIfInBounds_toArray, List.set_cons_zero, List.set_cons_succ]
      refine wpAnyH_ready (rs := [16]) (by kernel_rfl) (by simp) ?_
      refine' AllReadyH.cons (o := _) ?ho46 (fun K hK => ?st46) AllReadyH.nil
      case ho46 => simp only [List.getElem?_toArray, List.getElem?_cons_succ, List.getElem?_cons_zero]; rfl
      case st46 =>
        go_simp
        refine (HV.out _).mono ?_
        rintro e Y1 ⟨rfl, hb⟩
        refine hK.out _ _ (hS.below hb hS.lt) (fun hS => ?_)
        clear hK K
        try simp only [Act.put, List.setIfInBounds_toArray, List.set_cons_zero, List.set_cons_succ]
        replace hB := chain hB hb
        clear hb
        refine' wpAnyH_take (i := 17) (oi := _) (v := _) ?hi47 (by kernel_rfl) (by kernel_rfl) (by kernel_rfl) ?hQ47 (Or.inl ⟨?hw47, ?hy47⟩) hS ?rest47
        case hi47 => simp only [List.getElem?_toArray, List.getElem?_cons_succ, List.getElem?_cons_zero]; rfl
        case hQ47 => exact fun _ _ _ h => h
        case hw47 => rfl
        case hy47 => intro W' hS'; go_simp; with_reducible rfl
        try simp only [Act.put, List.setIfInBounds_toArray, List.set_cons_zero, List.set_cons_succ]
        refine wpAnyH_ready (rs := [20]) (by kernel_rfl) (by simp) ?_
        refine' AllReadyH.cons (o := _) ?ho48 (fun K hK => ?st48) AllReadyH.nil
        case ho48 => simp only [List.getElem?_toArray, List.getElem?_cons_succ, List.getElem?_cons_zero]; rfl
        case st48 =>
          go_simp
          refine (within_any b.un 0 1099511627776 _).mono ?_
          rintro e Y1 ⟨rfl, rfl⟩
          refine hK.out _ _ hS (fun hS => ?_)
          clear hK K
          try simp only [Act.put, List.setIfInBounds_toArray, List.set_cons_zero, List.set_cons_succ]
          refine' wpAnyH_take (i := 25) (oi := _) (v := _) ?hi49 (by kernel_rfl) (by kernel_rfl) (by kernel_rfl) ?hQ49 (Or.inl ⟨?hw49, ?hy49⟩) hS ?rest49
          case hi49 => simp only [List.getElem?_toArray, List.getElem?_cons_succ, List.getElem?_cons_zero]; rfl
          case hQ49 => exact fun _ _ _ h => h
          case hw49 => rfl
          case hy49 => intro W' hS'; go_simp; with_reducible rfl
          try simp only [Act.put, List.setIfInBounds_toArray, List.set_cons_zero, List.set_cons_succ]
          refine wpAnyH_ready (rs := [26]) (by kernel_rfl) (by simp) ?_
          refine' AllReadyH.cons (o := _) ?ho50 (fun K hK => ?st50) AllReadyH.nil
          case ho50 => simp only [List.getElem?_toArray, List.getElem?_cons_succ, List.getElem?_cons_zero]; rfl
          case st50 =>
            go_simp
            refine (judge_any _ _ _ _ _ _ _).mono ?_
            rintro e Y1 ⟨rfl, hb⟩
            refine hK.out _ _ (hS.below hb hS.lt) (fun hS => ?_)
            clear hK K
            try simp only [Act.put, List.setIfInBounds_toArray, List.set_cons_zero, List.set_cons_succ]
            replace hB := chain hB hb
            clear hb
            refine' wpAnyH_take (i := 27) (oi := _) (v := _) ?hi51 (by kernel_rfl) (by kernel_rfl) (by kernel_rfl) ?hQ51 (Or.inl ⟨?hw51, ?hy51⟩) hS ?rest51
            case hi51 => simp only [List.getElem?_toArray, List.getElem?_cons_succ, List.getElem?_cons_zero]; rfl
            case hQ51 => exact fun _ _ _ h => h
            case hw51 => rfl
            case hy51 => intro W' hS'; go_simp; with_reducible rfl
            try simp only [Act.put, List.setIfInBounds_toArray, List.set_cons_zero, List.set_cons_succ]
            refine wpAnyH_done (by kernel_rfl) ?_ _
            go_wp2_with fail
            go_ret
            exact ⟨by rw [HE.out]; rfl, hB⟩
end Go.Proofs.Ytigdenlnnnfjlaa

namespace Go.Proofs.Ytigdenlnnnfjlaa
open Go.RowKit Go.Shelf

set_option maxRecDepth 100000 in
set_option maxHeartbeats 2000000 in
theorem checkRelease_any (m : Ms) (w : World) :
    Calls Try.prog 47 #[msv m] w fun e W' => e = .returned (.int .i64 (errL m)) ∧ Below w.heap.size w W' := by
  have kB := Blk.new w 34 (msc m)
  have hB := chain0 w (.cells (msc m).toArray 34)
  have HI := Lib.hid (check_any m.iv)
  have HV := Lib.hid (sound_any m.vr)
  by_cases hi : maybeI m.iv
  · have E1 := Lib.hid (errI_zero hi)
    by_cases hv : maybeV m.vr
    · have E2 := Lib.hid (errV_zero hv)
      by_cases hs : m.sg.size ≤ 1024
      · have HE : Hid (errL m = 0) := Lib.hid (by rw [errL, if_pos hi, if_pos hv, if_pos hs])
        clear hi hv
        go_enter Try.func47, Try.ntmps47
        go_wp2_with (first
          | ((with_reducible refine wpList_loadIf 30 (.tmp 5) ?_ (some 6) ?_ ?_ (ivv m.iv) ?_ ?_); (· rfl); (· rfl); (· rfl); (· exact load_miv kB))
          | ((with_reducible refine wpList_loadIf 32 (.tmp 11) ?_ (some 12) ?_ ?_ (svv m.vr) ?_ ?_); (· rfl); (· rfl); (· rfl); (· exact load_mvr kB))
          | (go_at_call 76; refine (HI.out _).mono ?_; rw [E1.out]; rintro e w1 ⟨rfl, hb⟩; replace kB := kB.below hb kB.lt; replace hB := chain hB hb; clear hb; have c42 := (kB.cell 42).trans rfl)
          | (go_at_call 77; refine (HV.out _).mono ?_; rw [E2.out]; rintro e w2 ⟨rfl, hb⟩; replace kB := kB.below hb kB.lt; replace hB := chain hB hb; clear hb c42; have c42 := (kB.cell 42).trans rfl))
        go_ret
        exact ⟨by rw [HE.out]; rfl, hB⟩
      · have HE : Hid (errL m = 5) := Lib.hid (by rw [errL, if_pos hi, if_pos hv, if_neg hs])
        have hs2 : 1024 < m.sg.size := by omega
        clear hi hv hs
        go_enter Try.func47, Try.ntmps47
        go_wp2_with (first
          | ((with_reducible refine wpList_loadIf 30 (.tmp 5) ?_ (some 6) ?_ ?_ (ivv m.iv) ?_ ?_); (· rfl); (· rfl); (· rfl); (· exact load_miv kB))
          | ((with_reducible refine wpList_loadIf 32 (.tmp 11) ?_ (some 12) ?_ ?_ (svv m.vr) ?_ ?_); (· rfl); (· rfl); (· rfl); (· exact load_mvr kB))
          | (go_at_call 76; refine (HI.out _).mono ?_; rw [E1.out]; rintro e w1 ⟨rfl, hb⟩; replace kB := kB.below hb kB.lt; replace hB := chain hB hb; clear hb; have c42 := (kB.cell 42).trans rfl)
          | (go_at_call 77; refine (HV.out _).mono ?_; rw [E2.out]; rintro e w2 ⟨rfl, hb⟩; replace kB := kB.below hb kB.lt; replace hB := chain hB hb; clear hb c42; have c42 := (kB.cell 42).trans rfl))
        go_ret
        exact ⟨by rw [HE.out]; rfl, hB⟩
    · have E2 := Lib.hid (errV_bad hv)
      have HE : Hid (errL m = 36) := Lib.hid (by rw [errL, if_pos hi, if_neg hv])
      clear hi hv
      go_enter Try.func47, Try.ntmps47
      go_wp2_with (first
        | ((with_reducible refine wpList_loadIf 30 (.tmp 5) ?_ (some 6) ?_ ?_ (ivv m.iv) ?_ ?_); (· rfl); (· rfl); (· rfl); (· exact load_miv kB))
        | ((with_reducible refine wpList_loadIf 32 (.tmp 11) ?_ (some 12) ?_ ?_ (svv m.vr) ?_ ?_); (· rfl); (· rfl); (· rfl); (· exact load_mvr kB))
        | (go_at_call 76; refine (HI.out _).mono ?_; rw [E1.out]; rintro e w1 ⟨rfl, hb⟩; replace kB := kB.below hb kB.lt; replace hB := chain hB hb; clear hb; have c42 := (kB.cell 42).trans rfl)
        | (go_at_call 77; refine (HV.out _).mono ?_; rw [E2.out]; rintro e w2 ⟨rfl, hb⟩; replace kB := kB.below hb kB.lt; replace hB := chain hB hb; clear hb c42; have c42 := (kB.cell 42).trans rfl))
      go_ret
      exact ⟨by rw [HE.out]; rfl, hB⟩
  · have E1 := Lib.hid (errI_bad hi)
    have HE : Hid (errL m = 39) := Lib.hid (by rw [errL, if_neg hi])
    have E2 : Hid (errV m.vr = errV m.vr) := Lib.hid rfl
    clear hi
    go_enter Try.func47, Try.ntmps47
    go_wp2_with (first
      | ((with_reducible refine wpList_loadIf 30 (.tmp 5) ?_ (some 6) ?_ ?_ (ivv m.iv) ?_ ?_); (· rfl); (· rfl); (· rfl); (· exact load_miv kB))
      | ((with_reducible refine wpList_loadIf 32 (.tmp 11) ?_ (some 12) ?_ ?_ (svv m.vr) ?_ ?_); (· rfl); (· rfl); (· rfl); (· exact load_mvr kB))
      | (go_at_call 76; refine (HI.out _).mono ?_; rw [E1.out]; rintro e w1 ⟨rfl, hb⟩; replace kB := kB.below hb kB.lt; replace hB := chain hB hb; clear hb; have c42 := (kB.cell 42).trans rfl)
      | (go_at_call 77; refine (HV.out _).mono ?_; rw [E2.out]; rintro e w2 ⟨rfl, hb⟩; replace kB := kB.below hb kB.lt; replace hB := chain hB hb; clear hb c42; have c42 := (kB.cell 42).trans rfl))
    go_ret
    exact ⟨by rw [HE.out]; rfl, hB⟩

set_option maxRecDepth 100000 in
set_option maxHeartbeats 2000000 in
theorem mailCheck_any (m : Ms) (hm : OkM m) (w : World) :
    Calls Try.prog 12 #[msv m] w fun e W' => e = .returned (.int .i64 (errG m)) ∧ Below w.heap.size w W' := by
  have kB := Blk.new w 34 (msc m)
  have hB := chain0 w (.cells (msc m).toArray 34)
  have HA := Lib.hid (checkAsk_any m.ak)
  have HB := Lib.hid (bidCheck_any m.bd hm.b)
  have HL := Lib.hid (checkRelease_any m)
  have c0 := (kB.cell 0).trans rfl
  clear hm
  by_cases k1 : m.kd = 1
  · have HE : Hid (errG m = errA m.ak) := Lib.hid (by rw [errG, if_pos k1])
    have q1 : (m.kd == 1) = true := by simpa using k1
    clear k1
    go_enter Try.func12, Try.ntmps12
    go_wp2_with (first
      | ((with_reducible refine wpList_loadIf 26 (.tmp 7) ?_ (some 8) ?_ ?_ (akv m.ak) ?_ ?_); (· rfl); (· rfl); (· rfl); (· exact load_mak kB))
      | (go_at_call 45; refine (HA.out _).mono ?_; rintro e w2 ⟨rfl, hb⟩; replace hB := chain hB hb))
    go_ret
    exact ⟨by rw [HE.out]; try rfl, hB⟩
  have q1 : (m.kd == 1) = false := by simpa using k1
  by_cases k2 : m.kd = 2
  · have HE : Hid (errG m = errB m.bd) := Lib.hid (by rw [errG, if_neg k1, if_pos k2])
    have q2 : (m.kd == 2) = true := by simpa using k2
    clear k1 k2
    go_enter Try.func12, Try.ntmps12
    go_wp2_with (first
      | ((with_reducible refine wpList_loadIf 28 (.tmp 12) ?_ (some 13) ?_ ?_ (bdv m.bd) ?_ ?_); (· rfl); (· rfl); (· rfl); (· exact load_mbd kB))
      | (go_at_call 46; refine (HB.out _).mono ?_; rintro e w2 ⟨rfl, hb⟩; replace hB := chain hB hb))
    go_ret
    exact ⟨by rw [HE.out]; try rfl, hB⟩
  have q2 : (m.kd == 2) = false := by simpa using k2
  by_cases k3 : m.kd = 3
  · have HE : Hid (errG m = errL m) := Lib.hid (by rw [errG, if_neg k1, if_neg k2, if_pos k3])
    have q3 : (m.kd == 3) = true := by simpa using k3
    clear k1 k2 k3
    go_enter Try.func12, Try.ntmps12
    go_wp2_with (first
      | ((with_reducible refine wpList_loadIf 34 (.tmp 1) ?_ (some 17) ?_ ?_ (msv m) ?_ ?_); (· rfl); (· rfl); (· rfl); (· exact load_ms kB))
      | (go_at_call 47; refine (HL.out _).mono ?_; rintro e w2 ⟨rfl, hb⟩; replace hB := chain hB hb))
    go_ret
    exact ⟨by rw [HE.out]; try rfl, hB⟩
  have q3 : (m.kd == 3) = false := by simpa using k3
  have HE : Hid (errG m = 12) := Lib.hid (by rw [errG, if_neg k1, if_neg k2, if_neg k3])
  clear k1 k2 k3
  go_enter Try.func12, Try.ntmps12
  go_wp2_with fail
  go_ret
  exact ⟨by rw [HE.out]; try rfl, hB⟩
end Go.Proofs.Ytigdenlnnnfjlaa

namespace Go.Proofs.Ytigdenlnnnfjlaa
open Go.RowKit Go.Shelf

/-- What is made, and known: a new Out. -/
def NewO (w : World) (e : Ending) (W' : World) : Prop := ∃ NB, e = .returned (.pointer (some ⟨NB, 0, none⟩)) ∧ w.heap.size ≤ NB ∧ ObjP 95 W' (some ⟨NB, 0, none⟩) ([], 0) ∧ Below w.heap.size w W'
theorem outNewO_any (w : World) : Calls Try.prog 14 #[] w (NewO w) :=
  (outNew_any w).mono fun _ _ ⟨h1, _, h3, h4⟩ => ⟨_, h1, Nat.le_refl _, h3, h4⟩
theorem below_did {T : TypeId} {NB : Nat} {s : St} {w W : World} {e : Ending} {W' : World} (hB : Below w.heap.size w W) (hN : w.heap.size ≤ NB) (h : DidS T (some ⟨NB, 0, none⟩) s W e W') : Below w.heap.size w W' :=
  hB.grown h.2.2 hB.size (fun k e => by cases e; exact hN)

/-- Octets that are handed back. -/
def OctsL (l : List UInt8) (w : World) (e : Ending) (W' : World) : Prop := ∃ sv, e = .returned sv ∧ BSl 0 W'.heap.size W' sv l ∧ Below w.heap.size w W'
end Go.Proofs.Ytigdenlnnnfjlaa

namespace Go.Proofs.Ytigdenlnnnfjlaa
open Go.RowKit Go.Shelf

theorem noOct9 {W : World} {B : Nat} {T : TypeId} {i : Ak} (h : Blk W B T (akc i)) : NoOct W B := noOct_blk h (by
  intro v hv y
  simp only [akc, List.mem_cons, List.not_mem_nil, or_false] at hv
  rcases hv with rfl | rfl | rfl | rfl | rfl | rfl | rfl | rfl | rfl <;> simp [bv])
theorem stored9 {T : TypeId} {p : Option Addr} {s : St} {w Y : World} {R : Nat} {i : Ak} (hO : ObjP T Y p s) (hG : w.grownBy Y (p.map (·.block))) (kR : Blk Y R 26 (akc i)) (hR : w.heap.size ≤ R) (hne : some R ≠ p.map (·.block)) (x : Ak) :
    Blk (((((((((Y.setCell ⟨R, 0, none⟩ (.int .i64 x.us)).setCell ⟨R, 1, none⟩ (.int .i64 x.se)).setCell ⟨R, 2, none⟩ (.int .i64 x.re)).setCell ⟨R, 3, none⟩ (.int .i64 x.to)).setCell ⟨R, 4, none⟩ (.int .u64 (x.a0 : Nat))).setCell ⟨R, 5, none⟩ (.int .u64 (x.a1 : Nat))).setCell ⟨R, 6, none⟩ (.int .u64 (x.a2 : Nat))).setCell ⟨R, 7, none⟩ (.int .u64 (x.a3 : Nat))).setCell ⟨R, 8, none⟩ (.string x.id)) R 26 (akc x) ∧ ObjP T (((((((((Y.setCell ⟨R, 0, none⟩ (.int .i64 x.us)).setCell ⟨R, 1, none⟩ (.int .i64 x.se)).setCell ⟨R, 2, none⟩ (.int .i64 x.re)).setCell ⟨R, 3, none⟩ (.int .i64 x.to)).setCell ⟨R, 4, none⟩ (.int .u64 (x.a0 : Nat))).setCell ⟨R, 5, none⟩ (.int .u64 (x.a1 : Nat))).setCell ⟨R, 6, none⟩ (.int .u64 (x.a2 : Nat))).setCell ⟨R, 7, none⟩ (.int .u64 (x.a3 : Nat))).setCell ⟨R, 8, none⟩ (.string x.id)) p s ∧ w.grownBy (((((((((Y.setCell ⟨R, 0, none⟩ (.int .i64 x.us)).setCell ⟨R, 1, none⟩ (.int .i64 x.se)).setCell ⟨R, 2, none⟩ (.int .i64 x.re)).setCell ⟨R, 3, none⟩ (.int .i64 x.to)).setCell ⟨R, 4, none⟩ (.int .u64 (x.a0 : Nat))).setCell ⟨R, 5, none⟩ (.int .u64 (x.a1 : Nat))).setCell ⟨R, 6, none⟩ (.int .u64 (x.a2 : Nat))).setCell ⟨R, 7, none⟩ (.int .u64 (x.a3 : Nat))).setCell ⟨R, 8, none⟩ (.string x.id)) (p.map (·.block)) := by
  have st : ∀ (vs : List Value) (W : World) (k : Nat) (v : Value), Blk W R 26 vs → (∀ u ∈ vs, ∀ y, u ≠ bv y) → (∀ y, v ≠ bv y) → ObjP T W p s → w.grownBy W (p.map (·.block)) →
      Blk (W.setCell ⟨R, k, none⟩ v) R 26 (vs.set k v) ∧ (∀ u ∈ vs.set k v, ∀ y, u ≠ bv y) ∧ ObjP T (W.setCell ⟨R, k, none⟩ v) p s ∧ w.grownBy (W.setCell ⟨R, k, none⟩ v) (p.map (·.block)) := by
    intro vs W k v kW hno hv h g
    refine ⟨kW.set k v, fun u hu => ?_, h.to (grownBy_setCell4 W R k v) (fun r e => by cases e; exact ⟨noOct_blk kW hno, fun e => hne e.symm⟩), grown_set g hR⟩
    rcases List.mem_or_eq_of_mem_set hu with h1 | rfl
    · exact hno u h1
    · exact hv
  have h0 : ∀ u ∈ akc i, ∀ y, u ≠ bv y := by
    intro u hu y
    simp only [akc, List.mem_cons, List.not_mem_nil, or_false] at hu
    rcases hu with rfl | rfl | rfl | rfl | rfl | rfl | rfl | rfl | rfl <;> simp [bv]
  obtain ⟨k0, n0, o0, g0⟩ := st _ _ 0 (.int .i64 x.us) kR h0 (by intro y; simp [bv]) hO hG
  obtain ⟨k1, n1, o1, g1⟩ := st _ _ 1 (.int .i64 x.se) k0 n0 (by intro y; simp [bv]) o0 g0
  obtain ⟨k2, n2, o2, g2⟩ := st _ _ 2 (.int .i64 x.re) k1 n1 (by intro y; simp [bv]) o1 g1
  obtain ⟨k3, n3, o3, g3⟩ := st _ _ 3 (.int .i64 x.to) k2 n2 (by intro y; simp [bv]) o2 g2
  obtain ⟨k4, n4, o4, g4⟩ := st _ _ 4 (.int .u64 (x.a0 : Nat)) k3 n3 (by intro y; simp [bv]) o3 g3
  obtain ⟨k5, n5, o5, g5⟩ := st _ _ 5 (.int .u64 (x.a1 : Nat)) k4 n4 (by intro y; simp [bv]) o4 g4
  obtain ⟨k6, n6, o6, g6⟩ := st _ _ 6 (.int .u64 (x.a2 : Nat)) k5 n5 (by intro y; simp [bv]) o5 g5
  obtain ⟨k7, n7, o7, g7⟩ := st _ _ 7 (.int .u64 (x.a3 : Nat)) k6 n6 (by intro y; simp [bv]) o6 g6
  obtain ⟨k8, n8, o8, g8⟩ := st _ _ 8 (.string x.id) k7 n7 (by intro y; simp [bv]) o7 g7
  exact ⟨k8, o8, g8⟩
theorem stored9z {T : TypeId} {p : Option Addr} {s : St} {w Y : World} {R : Nat} {i : Ak} (hO : ObjP T Y p s) (hG : w.grownBy Y (p.map (·.block))) (kR : Blk Y R 26 (akc i)) (hR : w.heap.size ≤ R) (hne : some R ≠ p.map (·.block)) :
    Blk (((((((((Y.setCell ⟨R, 0, none⟩ (.int .i64 0)).setCell ⟨R, 1, none⟩ (.int .i64 0)).setCell ⟨R, 2, none⟩ (.int .i64 0)).setCell ⟨R, 3, none⟩ (.int .i64 0)).setCell ⟨R, 4, none⟩ (.int .u64 0)).setCell ⟨R, 5, none⟩ (.int .u64 0)).setCell ⟨R, 6, none⟩ (.int .u64 0)).setCell ⟨R, 7, none⟩ (.int .u64 0)).setCell ⟨R, 8, none⟩ (.string ⟨#[]⟩)) R 26 [.int .i64 0, .int .i64 0, .int .i64 0, .int .i64 0, .int .u64 0, .int .u64 0, .int .u64 0, .int .u64 0, .string ⟨#[]⟩] ∧ ObjP T (((((((((Y.setCell ⟨R, 0, none⟩ (.int .i64 0)).setCell ⟨R, 1, none⟩ (.int .i64 0)).setCell ⟨R, 2, none⟩ (.int .i64 0)).setCell ⟨R, 3, none⟩ (.int .i64 0)).setCell ⟨R, 4, none⟩ (.int .u64 0)).setCell ⟨R, 5, none⟩ (.int .u64 0)).setCell ⟨R, 6, none⟩ (.int .u64 0)).setCell ⟨R, 7, none⟩ (.int .u64 0)).setCell ⟨R, 8, none⟩ (.string ⟨#[]⟩)) p s ∧ w.grownBy (((((((((Y.setCell ⟨R, 0, none⟩ (.int .i64 0)).setCell ⟨R, 1, none⟩ (.int .i64 0)).setCell ⟨R, 2, none⟩ (.int .i64 0)).setCell ⟨R, 3, none⟩ (.int .i64 0)).setCell ⟨R, 4, none⟩ (.int .u64 0)).setCell ⟨R, 5, none⟩ (.int .u64 0)).setCell ⟨R, 6, none⟩ (.int .u64 0)).setCell ⟨R, 7, none⟩ (.int .u64 0)).setCell ⟨R, 8, none⟩ (.string ⟨#[]⟩)) (p.map (·.block)) := stored9 hO hG kR hR hne ⟨0, 0, 0, 0, 0, 0, 0, 0, ⟨#[]⟩⟩
/-- An ask is read, or none; the state behind it. -/
def GotA (T : TypeId) (p : Option Addr) (r : Ak × St) (w : World) (e : Ending) (W' : World) : Prop :=
  e = .returned (akv r.1) ∧ ObjP T W' p r.2 ∧ w.grownBy W' (p.map (·.block))
/-- k numbers are read. -/
def adK (s : St) (k : Nat) : St := match k with | 0 => s | k + 1 => (mostS (adK s k) 6 big).2
def nmK (s : St) (k : Nat) : Nat := (mostS (adK s k) 6 big).1
def lcK (s : St) (k : Nat) : List Value := match k with | 0 => akc noA | k + 1 => (lcK s k).set k (.int .i64 (nmK s k : Nat))
theorem lcK_at (s : St) {k : Nat} (hk : k < 4) : (lcK s k)[k]? = some (.int .i64 0) := by
  obtain rfl | rfl | rfl | rfl : k = 0 ∨ k = 1 ∨ k = 2 ∨ k = 3 := by omega
  all_goals rfl
theorem lcK_no (s : St) (k : Nat) : ∀ u ∈ lcK s k, ∀ y, u ≠ bv y := by
  induction k with
  | zero =>
    intro u hu y
    simp only [lcK, akc, List.mem_cons, List.not_mem_nil, or_false] at hu
    rcases hu with rfl | rfl | rfl | rfl | rfl | rfl | rfl | rfl | rfl <;> simp [bv]
  | succ k ih =>
    intro u hu y
    rcases List.mem_or_eq_of_mem_set hu with h1 | rfl
    · exact ih u h1 y
    · simp [bv]
theorem lcK_4 (s : St) : lcK s 4 = akc ⟨((ad0 s).1 : Nat), ((ad1 s).1 : Nat), ((ad2 s).1 : Nat), ((ad3 s).1 : Nat), 0, 0, 0, 0, ⟨#[]⟩⟩ := rfl
set_option maxRecDepth 100000 in
theorem idx_ptr4 (L : Nat) (w : World) {k : Nat} (hk : k < 4) :
    (Instr.index 143 (.agg #[.pointer (some ⟨L, 0, none⟩), .pointer (some ⟨L, 1, none⟩), .pointer (some ⟨L, 2, none⟩), .pointer (some ⟨L, 3, none⟩)]) (.int .i64 k)).run Try.prog w = .ok (.pointer (some ⟨L, k, none⟩)) w := by
  have hs : ∀ j : Nat, (sizeOf 142).run Try.prog w = .ok 1 w := fun _ => by kernel_rfl
  obtain rfl | rfl | rfl | rfl : k = 0 ∨ k = 1 ∨ k = 2 ∨ k = 3 := by omega
  all_goals
    simp [Instr.index, run_underlying Try.underlying143, asIntOf, hs 0, go_sem]

set_option maxRecDepth 100000 in
set_option maxHeartbeats 4000000 in
theorem bidGetAsk_any {p : Option Addr} {s : St} (w : World) (h : ObjP 106 w p s) :
    Calls Try.prog 60 #[.pointer p] w (GotA 106 p (getA s) w) := by
  have HN : Hid (∀ st W, ObjP 106 W p st → Calls Try.prog 59 #[.pointer p, .int .i64 1099511627776] W (NumS 106 p (mostS st 6 big) W)) := Lib.hid fun st W hO => inNumP_any (p := p) 1099511627776 1099511627776 (Or.inr ⟨by omega, rfl⟩) W hO
  have H0 : Hid (∀ W, ObjP 106 W p (ad3 s).2 → Calls Try.prog 64 #[.pointer p] W (WidS 106 p (ad4 s) W)) := Lib.hid fun W hO => inWide_any W hO
  have H1 : Hid (∀ W, ObjP 106 W p (ad4 s).2 → Calls Try.prog 65 #[.pointer p, .int .i64 16] W (TxtS 106 p (ad5 s) W)) := Lib.hid fun W hO => inTextP_any (p := p) 16 16 (Or.inr ⟨by omega, rfl⟩) W hO
  have HNR := Lib.hid (ptr_lt h (Nat.le_refl w.heap.size))
  have HNL := Lib.hid (ptr_lt h (Nat.le_succ w.heap.size))
  have hz0 : (w.alloc (.cells (akc noA).toArray 26)).heap.size = w.heap.size + 1 := by simp
  have kR := (Blk.new w 26 (akc noA)).alloc (.cells (akc noA).toArray 26)
  have kL : Blk ((w.alloc (.cells (akc noA).toArray 26)).alloc (.cells (akc noA).toArray 26)) (w.heap.size + 1) 26 (akc noA) := Blk.new' hz0
  have hG := (World.grownBy_alloc w (.cells (akc noA).toArray 26) (p.map (·.block))).trans (World.grownBy_alloc _ (.cells (akc noA).toArray 26) (p.map (·.block)))
  have hO0 := (h.below (chain0 w (.cells (akc noA).toArray 26))).below (chain0 _ (.cells (akc noA).toArray 26))
  clear h hz0
  go_enter Try.func60, Try.ntmps60
  go_wp2_with fail
  go_loopw [11] (fun n wr => ∃ k : Nat, k ≤ 4 ∧ n = .int .i64 k ∧ ObjP 106 wr p (adK s k) ∧ w.grownBy wr (p.map (·.block)) ∧ Blk wr w.heap.size 26 (akc noA) ∧ Blk wr (w.heap.size + 1) 26 (lcK s k)) (fun n _ => 4 - (intOf n).toNat)
  case atStart => exact ⟨0, by omega, rfl, hO0, hG, kR, kL⟩
  case round =>
    clear hO0 hG kR kL
    obtain ⟨k, hk, rfl, hO, hG, kR, kL⟩ := hrel
    by_cases hlt : k < 4
    · have hlt' : (k : Int) < 4 := by omega
      have HI := Lib.hid (fun W => idx_ptr4 (w.heap.size + 1) W hlt)
      have HS : Hid (adK s (k + 1) = (mostS (adK s k) 6 big).2) := Lib.hid rfl
      have HLC : Hid (lcK s (k + 1) = (lcK s k).set k (.int .i64 ((mostS (adK s k) 6 big).1 : Nat))) := Lib.hid rfl
      have HAT := Lib.hid (lcK_at s hlt)
      have HNO := Lib.hid (lcK_no s k)
      generalize lcK s k = lc at *
      generalize adK s k = st at *
      generalize hm : mostS st 6 big = m at *
      have HM := Lib.hid hm
      clear hm
      go_wp2_with (first
        | (refine wpList_indexTo rfl 143 (.tmp 10) (.tmp 11) rfl (some 13) rfl _ (HI.out _) ?_)
        | (go_at_call 59; refine (HN.out st _ hO).mono ?_; rw [HM.out]; rintro e W1 ⟨rfl, q, g⟩; replace hG := hG.trans g; replace kR := kR.kept g HNR.out; replace kL := kL.kept g HNL.out; have z := (kL.cell k).trans HAT.out; have f := kL.frozen k))
      go_roundw
      case rel => exact ⟨k + 1, by omega, by go_num, by rw [HS.out]; exact objP_one q (noOct_blk kL HNO.out) HNL.out, grown_set hG (Nat.le_succ _), kR.other _ _ (by omega), by rw [HLC.out]; exact kL.set _ _⟩
      case measure => simp [intOf]; omega
    · obtain rfl : k = 4 := by omega
      rw [lcK_4] at kL
      replace hO : ObjP 106 wr p (ad3 s).2 := hO
      generalize hu0 : wdS (ad4 s).1 0 = u0 at *
      generalize hu1 : wdS (ad4 s).1 1 = u1 at *
      generalize hu2 : wdS (ad4 s).1 2 = u2 at *
      generalize hu3 : wdS (ad4 s).1 3 = u3 at *
      have HRW : Hid (rawA s = ⟨((ad0 s).1 : Nat), ((ad1 s).1 : Nat), ((ad2 s).1 : Nat), ((ad3 s).1 : Nat), u0, u1, u2, u3, str (ad5 s).1⟩) := Lib.hid (by rw [rawA, hu0, hu1, hu2, hu3])
      have HQ0 : Hid (∀ W, ObjP 106 W p (ad3 s).2 → Calls Try.prog 64 #[.pointer p] W (fun e W' => e = .returned (wv u0 u1 u2 u3) ∧ ObjP 106 W' p (ad4 s).2 ∧ W.grownBy W' (p.map (·.block)))) := Lib.hid fun W hO => (H0.out W hO).mono (by rintro e W' ⟨rfl, a, b⟩; exact ⟨by rw [hu0, hu1, hu2, hu3], a, b⟩)
      clear hu0 hu1 hu2 hu3 H0
      go_upto_region 9 with (first
        | (go_at_call 64; refine (HQ0.out _ hO).mono ?_; rintro e W0 ⟨rfl, q, g⟩; replace hG := World.grownBy.trans hG g; replace kR := kR.kept g HNR.out; replace kL := kL.kept g HNL.out; obtain ⟨z0, z1, z2, z3, z4, z5, z6, z7, z8⟩ := Blk.c9 kL; have f := kL.frozen; replace q := objP_one (B := w.heap.size + 1) (k := 4) (v := .int .u64 (u0 : Nat)) q (noOct9 kL) HNL.out; replace kR := kR.other (B' := w.heap.size + 1) 4 (.int .u64 (u0 : Nat)) (by omega); replace kL : Blk _ (w.heap.size + 1) 26 (akc ⟨((ad0 s).1 : Nat), ((ad1 s).1 : Nat), ((ad2 s).1 : Nat), ((ad3 s).1 : Nat), u0, 0, 0, 0, ⟨#[]⟩⟩) := kL.set 4 (.int .u64 (u0 : Nat)); replace hG := grown_set (B := w.heap.size + 1) (i := 4) (v := .int .u64 (u0 : Nat)) hG (Nat.le_succ _); replace q := objP_one (B := w.heap.size + 1) (k := 5) (v := .int .u64 (u1 : Nat)) q (noOct9 kL) HNL.out; replace kR := kR.other (B' := w.heap.size + 1) 5 (.int .u64 (u1 : Nat)) (by omega); replace kL : Blk _ (w.heap.size + 1) 26 (akc ⟨((ad0 s).1 : Nat), ((ad1 s).1 : Nat), ((ad2 s).1 : Nat), ((ad3 s).1 : Nat), u0, u1, 0, 0, ⟨#[]⟩⟩) := kL.set 5 (.int .u64 (u1 : Nat)); replace hG := grown_set (B := w.heap.size + 1) (i := 5) (v := .int .u64 (u1 : Nat)) hG (Nat.le_succ _); replace q := objP_one (B := w.heap.size + 1) (k := 6) (v := .int .u64 (u2 : Nat)) q (noOct9 kL) HNL.out; replace kR := kR.other (B' := w.heap.size + 1) 6 (.int .u64 (u2 : Nat)) (by omega); replace kL : Blk _ (w.heap.size + 1) 26 (akc ⟨((ad0 s).1 : Nat), ((ad1 s).1 : Nat), ((ad2 s).1 : Nat), ((ad3 s).1 : Nat), u0, u1, u2, 0, ⟨#[]⟩⟩) := kL.set 6 (.int .u64 (u2 : Nat)); replace hG := grown_set (B := w.heap.size + 1) (i := 6) (v := .int .u64 (u2 : Nat)) hG (Nat.le_succ _); replace q := objP_one (B := w.heap.size + 1) (k := 7) (v := .int .u64 (u3 : Nat)) q (noOct9 kL) HNL.out; replace kR := kR.other (B' := w.heap.size + 1) 7 (.int .u64 (u3 : Nat)) (by omega); replace kL : Blk _ (w.heap.size + 1) 26 (akc ⟨((ad0 s).1 : Nat), ((ad1 s).1 : Nat), ((ad2 s).1 : Nat), ((ad3 s).1 : Nat), u0, u1, u2, u3, ⟨#[]⟩⟩) := kL.set 7 (.int .u64 (u3 : Nat)); replace hG := grown_set (B := w.heap.size + 1) (i := 7) (v := .int .u64 (u3 : Nat)) hG (Nat.le_succ _); have hO1 := q; clear q g hO)
        | (go_at_call 65; refine (H1.out _ hO1).mono ?_; rintro e W1 ⟨rfl, q, g⟩; replace hG := World.grownBy.trans hG g; replace kR := kR.kept g HNR.out; replace kL := kL.kept g HNL.out; clear z0 z1 z2 z3 z4 z5 z6 z7 z8 f; have z8 := (kL.cell 8).trans rfl; have f := kL.frozen 8; have hO2 := objP_one (B := w.heap.size + 1) (k := 8) (v := .string ⟨(ad5 s).1.toArray⟩) q (noOct9 kL) HNL.out; replace kR := kR.other (B' := w.heap.size + 1) 8 (.string ⟨(ad5 s).1.toArray⟩) (by omega); replace kL : Blk _ (w.heap.size + 1) 26 (akc ⟨((ad0 s).1 : Nat), ((ad1 s).1 : Nat), ((ad2 s).1 : Nat), ((ad3 s).1 : Nat), u0, u1, u2, u3, str (ad5 s).1⟩) := kL.set 8 (.string ⟨(ad5 s).1.toArray⟩); replace hG := grown_set (B := w.heap.size + 1) (i := 8) (v := .string ⟨(ad5 s).1.toArray⟩) hG (Nat.le_succ _); clear q g hO1))
      clear H1 HQ0 HN z8 f
      generalize hY : (World.setCell W1 _ _) = Y at *
      clear hY
      obtain ⟨c0, c1, c2, c3, c4, c5, c6, c7, c8⟩ := Blk.c9 kL
      have HC : Hid (∀ W, Calls Try.prog 45 #[akv ⟨((ad0 s).1 : Nat), ((ad1 s).1 : Nat), ((ad2 s).1 : Nat), ((ad3 s).1 : Nat), u0, u1, u2, u3, str (ad5 s).1⟩] W fun e W' => e = .returned (.int .i64 (errA (rawA s))) ∧ Below W.heap.size W W') := Lib.hid (by rw [HRW.out]; exact checkAsk_any _)
      have hes : ((errS (ad5 s).2 16).2 != 0) = true := by simpa using errS_ne (ad5 s).2
      have hes2 : ((errS (ad5 s).2 16).2 == 0) = false := by simpa using errS_ne (ad5 s).2
      by_cases hm : maybeA (rawA s)
      · have HE := Lib.hid (errA_zero hm)
        by_cases he : (ad5 s).2.2 = 0
        · have hq1 : ((ad5 s).2.2 == 0) = true := by simpa using he
          have hq2 : ((ad5 s).2.2 != 0) = false := by simpa using he
          have HX := Lib.hid (getA_yes he hm)
          clear he hm
          go_wp2_with (first
            | (go_at_call 45; refine (HC.out _).mono ?_; rw [HE.out]; rintro e V0 ⟨rfl, hb⟩; replace kR := kR.below hb kR.lt; replace kL := kL.below hb kL.lt; replace hG := World.grownBy.trans hG (grew hb _); replace hO2 := hO2.below hb; clear c0 c1 c2 c3 c4 c5 c6 c7 c8; obtain ⟨r0, r1, r2, r3, r4, r5, r6, r7, r8⟩ := Blk.c9 kR; have fr := kR.frozen; obtain ⟨c0, c1, c2, c3, c4, c5, c6, c7, c8⟩ := Blk.c9 kL)
            | (go_at_call 33; refine (inErr_any _ hO2).mono ?_; rintro e V2 ⟨rfl, rfl⟩))
          obtain ⟨kZ, oZ, gZ⟩ := stored9 hO2 hG kR (Nat.le_refl _) HNR.out ⟨((ad0 s).1 : Nat), ((ad1 s).1 : Nat), ((ad2 s).1 : Nat), ((ad3 s).1 : Nat), u0, u1, u2, u3, str (ad5 s).1⟩
          try dsimp only at kZ oZ gZ
          obtain ⟨q0, q1, q2, q3, q4, q5, q6, q7, q8⟩ := Blk.c9 kZ
          exact bodyPost_ret (v := akv ⟨((ad0 s).1 : Nat), ((ad1 s).1 : Nat), ((ad2 s).1 : Nat), ((ad3 s).1 : Nat), u0, u1, u2, u3, str (ad5 s).1⟩) (by simp [results, Try.results60, go_sem, q0, q1, q2, q3, q4, q5, q6, q7, q8]; try rfl) rfl ⟨by rw [HX.out, HRW.out]; try rfl, by rw [HX.out]; exact oZ, gZ⟩
        · have hq1 : ((ad5 s).2.2 == 0) = false := by simpa using he
          have hq2 : ((ad5 s).2.2 != 0) = true := by simpa using he
          have HX := Lib.hid (getA_bad he)
          clear he hm
          go_wp2_with (first
            | (go_at_call 45; refine (HC.out _).mono ?_; rw [HE.out]; rintro e V0 ⟨rfl, hb⟩; replace kR := kR.below hb kR.lt; replace kL := kL.below hb kL.lt; replace hG := World.grownBy.trans hG (grew hb _); replace hO2 := hO2.below hb; clear c0 c1 c2 c3 c4 c5 c6 c7 c8; obtain ⟨r0, r1, r2, r3, r4, r5, r6, r7, r8⟩ := Blk.c9 kR; have fr := kR.frozen; obtain ⟨c0, c1, c2, c3, c4, c5, c6, c7, c8⟩ := Blk.c9 kL)
            | (go_at_call 33; refine (inErr_any _ hO2).mono ?_; rintro e V2 ⟨rfl, rfl⟩))
          obtain ⟨kZ, oZ, gZ⟩ := stored9z hO2 hG kR (Nat.le_refl _) HNR.out
          try dsimp only at kZ oZ gZ
          obtain ⟨q0, q1, q2, q3, q4, q5, q6, q7, q8⟩ := Blk.c9 kZ
          exact bodyPost_ret (v := akv ⟨0, 0, 0, 0, 0, 0, 0, 0, ⟨#[]⟩⟩) (by simp [results, Try.results60, go_sem, q0, q1, q2, q3, q4, q5, q6, q7, q8]; try rfl) rfl ⟨by rw [HX.out]; try rfl, by rw [HX.out]; exact oZ, gZ⟩
      · have HE := Lib.hid (errA_bad hm)
        have HX := Lib.hid (getA_no hm)
        clear hm
        go_wp2_with (first
          | (go_at_call 45; refine (HC.out _).mono ?_; rw [HE.out]; rintro e V0 ⟨rfl, hb⟩; replace kR := kR.below hb kR.lt; replace kL := kL.below hb kL.lt; replace hG := World.grownBy.trans hG (grew hb _); replace hO2 := hO2.below hb; clear c0 c1 c2 c3 c4 c5 c6 c7 c8; obtain ⟨r0, r1, r2, r3, r4, r5, r6, r7, r8⟩ := Blk.c9 kR; have fr := kR.frozen; obtain ⟨c0, c1, c2, c3, c4, c5, c6, c7, c8⟩ := Blk.c9 kL)
          | (go_at_call 32; refine (inSpoil_any _ hO2).mono ?_; rintro e V1 ⟨rfl, hO9, g⟩; replace kR := kR.kept g HNR.out; replace hG := World.grownBy.trans hG g; clear r0 r1 r2 r3 r4 r5 r6 r7 r8 fr; obtain ⟨r0, r1, r2, r3, r4, r5, r6, r7, r8⟩ := Blk.c9 kR; have fr := kR.frozen)
          | (go_at_call 33; refine (inErr_any _ hO9).mono ?_; rintro e V2 ⟨rfl, rfl⟩))
        obtain ⟨kZ, oZ, gZ⟩ := stored9z hO9 hG kR (Nat.le_refl _) HNR.out
        try dsimp only at kZ oZ gZ
        obtain ⟨q0, q1, q2, q3, q4, q5, q6, q7, q8⟩ := Blk.c9 kZ
        exact bodyPost_ret (v := akv ⟨0, 0, 0, 0, 0, 0, 0, 0, ⟨#[]⟩⟩) (by simp [results, Try.results60, go_sem, q0, q1, q2, q3, q4, q5, q6, q7, q8]; try rfl) rfl ⟨by rw [HX.out]; try rfl, by rw [HX.out]; exact oZ, gZ⟩
end Go.Proofs.Ytigdenlnnnfjlaa
