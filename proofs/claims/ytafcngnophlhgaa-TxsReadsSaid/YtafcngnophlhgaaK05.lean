/-
  Which transfers may be, by the reference.
  '==' and '!=' of two wide numbers are those of their words.
  Which transfers and sides' data may be, by the reference.
  Which transactions may be, by the reference.
  Which transfers and sides' data may be: deal's Check and Sound.
  Which transactions may be: txs's Check.
  blob.Num hands back a row of its own.
  A range over a function whose body never leaves, where the iterator has a loop over an iterator of its own.
-/
import Derived.Outline
import Derived.Laws.StructEq
import Derived.Deep.Cut
import Derived.Deep.CutBlock
import Derived.Deep.DeepCutAuto
import Derived.Great.BuildSlice
import Derived.WalkSpells
import Derived.Laws.CopyOwn
import Derived.RangeFuncNested
import Derived.RangeFuncCalls
import Derived.RangeFuncIn
import Derived.WalkKit
import Derived.Test.YtafcngnophlhgaaProg
import Derived.Test.YtafcngnophlhgaaK04
namespace Go.Proofs.Ytafcngnophlhgaa
open Go.RowKit Go.Shelf

set_option maxRecDepth 100000 in
set_option maxHeartbeats 2000000 in
theorem refInv_any (i : Trf) (w : World) :
    Calls Try.prog 26 #[ivv i] w fun e W' => e = .returned (.int .i64 (errI i)) ∧ Below w.heap.size w W' := by
  have HY : Hid (maybeI i → errI i = 0) := Lib.hid fun h => if_pos h
  have HN : Hid (¬ maybeI i → errI i = 39) := Lib.hid fun h => if_neg h
  obtain ⟨us, rt, ro, se, re, tq, id⟩ := i
  have HM : Hid (maybeI ⟨us, rt, ro, se, re, tq, id⟩ ↔ ((0 ≤ us ∧ us ≤ 1) ∧ (rt.size : Int) = 8 ∧ (2 ≤ ro ∧ ro ≤ 3) ∧ (0 ≤ se ∧ se ≤ 1) ∧ (0 ≤ re ∧ re ≤ 1) ∧ (0 ≤ tq ∧ tq ≤ 7) ∧ (1 : Int) ≤ (id.size : Int) ∧ (id.size : Int) ≤ 16)) := Lib.hid (by
    unfold maybeI
    exact ⟨fun ⟨a, b, c, d, e, f, g, h⟩ => ⟨a, by simp only at b; omega, c, d, e, f, by simp only at g; omega, by simp only at h; omega⟩, fun ⟨a, b, c, d, e, f, g, h⟩ => ⟨a, by simp only; omega, c, d, e, f, by simp only; omega, by simp only; omega⟩⟩)
  generalize errI _ = x at *
  by_cases c0 : us < 0
  · have HX := HN.out (by rw [HM.out]; omega)
    have HX2 := Lib.hid HX
    clear HX
    go_enter Try.func26, Try.ntmps26
    go_wp2
    go_ret
    exact ⟨by rw [HX2.out]; rfl, chain0 _ _⟩
  by_cases c1 : 1 < us
  · have HX := HN.out (by rw [HM.out]; omega)
    have HX2 := Lib.hid HX
    clear HX
    go_enter Try.func26, Try.ntmps26
    go_wp2
    go_ret
    exact ⟨by rw [HX2.out]; rfl, chain0 _ _⟩
  by_cases c2 : ro < 2
  · have HX := HN.out (by rw [HM.out]; omega)
    have HX2 := Lib.hid HX
    clear HX
    go_enter Try.func26, Try.ntmps26
    go_wp2
    go_ret
    exact ⟨by rw [HX2.out]; rfl, chain0 _ _⟩
  by_cases c3 : 3 < ro
  · have HX := HN.out (by rw [HM.out]; omega)
    have HX2 := Lib.hid HX
    clear HX
    go_enter Try.func26, Try.ntmps26
    go_wp2
    go_ret
    exact ⟨by rw [HX2.out]; rfl, chain0 _ _⟩
  by_cases c4 : se < 0
  · have HX := HN.out (by rw [HM.out]; omega)
    have HX2 := Lib.hid HX
    clear HX
    go_enter Try.func26, Try.ntmps26
    go_wp2
    go_ret
    exact ⟨by rw [HX2.out]; rfl, chain0 _ _⟩
  by_cases c5 : 1 < se
  · have HX := HN.out (by rw [HM.out]; omega)
    have HX2 := Lib.hid HX
    clear HX
    go_enter Try.func26, Try.ntmps26
    go_wp2
    go_ret
    exact ⟨by rw [HX2.out]; rfl, chain0 _ _⟩
  by_cases c6 : re < 0
  · have HX := HN.out (by rw [HM.out]; omega)
    have HX2 := Lib.hid HX
    clear HX
    go_enter Try.func26, Try.ntmps26
    go_wp2
    go_ret
    exact ⟨by rw [HX2.out]; rfl, chain0 _ _⟩
  by_cases c7 : 1 < re
  · have HX := HN.out (by rw [HM.out]; omega)
    have HX2 := Lib.hid HX
    clear HX
    go_enter Try.func26, Try.ntmps26
    go_wp2
    go_ret
    exact ⟨by rw [HX2.out]; rfl, chain0 _ _⟩
  by_cases c8 : tq < 0
  · have HX := HN.out (by rw [HM.out]; omega)
    have HX2 := Lib.hid HX
    clear HX
    go_enter Try.func26, Try.ntmps26
    go_wp2
    go_ret
    exact ⟨by rw [HX2.out]; rfl, chain0 _ _⟩
  by_cases c9 : 7 < tq
  · have HX := HN.out (by rw [HM.out]; omega)
    have HX2 := Lib.hid HX
    clear HX
    go_enter Try.func26, Try.ntmps26
    go_wp2
    go_ret
    exact ⟨by rw [HX2.out]; rfl, chain0 _ _⟩
  by_cases c10 : (rt.size : Int) = 8
  rotate_left
  · have e1 : ((rt.size : Int) == 8) = false := by simpa using c10
    have e2 : ((rt.size : Int) != 8) = true := by simpa using c10
    have HX := HN.out (by rw [HM.out]; omega)
    have HX2 := Lib.hid HX
    clear HX c10
    go_enter Try.func26, Try.ntmps26
    go_wp2
    go_ret
    exact ⟨by rw [HX2.out]; rfl, chain0 _ _⟩
  have e1 : ((rt.size : Int) == 8) = true := by simpa using c10
  have e2 : ((rt.size : Int) != 8) = false := by simpa using c10
  have HC := Lib.hid c10
  clear c10
  by_cases c11 : (id.size : Int) < 1
  · have HX := HN.out (by rw [HM.out]; have := HC.out; omega)
    have HX2 := Lib.hid HX
    clear HX
    go_enter Try.func26, Try.ntmps26
    go_wp2
    go_ret
    exact ⟨by rw [HX2.out]; rfl, chain0 _ _⟩
  by_cases c12 : 16 < (id.size : Int)
  · have HX := HN.out (by rw [HM.out]; have := HC.out; omega)
    have HX2 := Lib.hid HX
    clear HX
    go_enter Try.func26, Try.ntmps26
    go_wp2
    go_ret
    exact ⟨by rw [HX2.out]; rfl, chain0 _ _⟩
  have HX := HY.out (by rw [HM.out]; have := HC.out; omega)
  have HX2 := Lib.hid HX
  clear HX
  go_enter Try.func26, Try.ntmps26
  go_wp2
  go_ret
  exact ⟨by rw [HX2.out]; rfl, chain0 _ _⟩
end Go.Proofs.Ytafcngnophlhgaa

namespace Go.Proofs.Ytafcngnophlhgaa
open Go.RowKit Go.Shelf

/-- The same words. -/
def wEq (a0 a1 a2 a3 b0 b1 b2 b3 : Int) : Bool := decide (a0 = b0 ∧ a1 = b1 ∧ a2 = b2 ∧ a3 = b3)
theorem wEq_refl (a0 a1 a2 a3 : Int) : wEq a0 a1 a2 a3 a0 a1 a2 a3 = true := by simp [wEq]
theorem wEq_of {a0 a1 a2 a3 b0 b1 b2 b3 : Int} (h : a0 = b0 ∧ a1 = b1 ∧ a2 = b2 ∧ a3 = b3) : wEq a0 a1 a2 a3 b0 b1 b2 b3 = true := decide_eq_true h
theorem wEq_not {a0 a1 a2 a3 b0 b1 b2 b3 : Int} (h : ¬ (a0 = b0 ∧ a1 = b1 ∧ a2 = b2 ∧ a3 = b3)) : wEq a0 a1 a2 a3 b0 b1 b2 b3 = false := decide_eq_false h

theorem run_equalIn_wide' (d : Nat) (a0 a1 a2 a3 b0 b1 b2 b3 : Int) (w : World) :
    (Op.equalIn (d + 2) 24 (.agg #[.int .u64 a0, .int .u64 a1, .int .u64 a2, .int .u64 a3]) (.agg #[.int .u64 b0, .int .u64 b1, .int .u64 b2, .int .u64 b3])).run Try.prog w = .ok (wEq a0 a1 a2 a3 b0 b1 b2 b3) w := by
  have e : ∀ a b : Int, (Op.equalIn (d + 1) 22 (.int .u64 a) (.int .u64 b)).run Try.prog w = .ok (a == b) w := fun a b => run_equalIn_int w d 22 .u64 .u64 a b Try.underlying22
  rw [show d + 2 = (d + 1) + 1 from rfl]
  unfold Op.equalIn
  by_cases h0 : a0 = b0
  · subst h0
    by_cases h1 : a1 = b1
    · subst h1
      by_cases h2 : a2 = b2
      · subst h2
        by_cases h3 : a3 = b3
        · subst h3
          simp [run_underlying Try.underlying24, List.range', part, e, Result.andThen, wEq]
        · simp [run_underlying Try.underlying24, List.range', part, e, Result.andThen, wEq, h3]
      · simp [run_underlying Try.underlying24, List.range', part, e, Result.andThen, wEq, h2]
    · simp [run_underlying Try.underlying24, List.range', part, e, Result.andThen, wEq, h1]
  · simp [run_underlying Try.underlying24, List.range', part, e, Result.andThen, wEq, h0]

/-- As the walk meets it. -/
theorem run_equalIn_wide (a0 a1 a2 a3 b0 b1 b2 b3 : Int) (w : World) :
    (Op.equalIn 10000 24 (.agg #[.int .u64 a0, .int .u64 a1, .int .u64 a2, .int .u64 a3]) (.agg #[.int .u64 b0, .int .u64 b1, .int .u64 b2, .int .u64 b3])).run Try.prog w = .ok (wEq a0 a1 a2 a3 b0 b1 b2 b3) w :=
  run_equalIn_wide' 9998 a0 a1 a2 a3 b0 b1 b2 b3 w

end Go.Proofs.Ytafcngnophlhgaa

namespace Go.Proofs.Ytafcngnophlhgaa
open Go.RowKit Go.Shelf

set_option maxRecDepth 100000 in
theorem refVar_any (v : Sid) (w : World) :
    Calls Try.prog 27 #[svv v] w fun e W' => e = .returned (.int .i64 (errV v)) ∧ Below w.heap.size w W' := by
  have hweq := @run_equalIn_wide
  by_cases h0 : v.a0 = 0 ∧ v.a1 = 0 ∧ v.a2 = 0 ∧ v.a3 = 0
  · have hE : errV v = 36 := if_neg fun h => h.1 h0
    rw [hE]
    have hq : wEq (v.a0 : Nat) (v.a1 : Nat) (v.a2 : Nat) (v.a3 : Nat) 0 0 0 0 = true := by
      obtain ⟨e0, e1, e2, e3⟩ := h0
      rw [e0, e1, e2, e3]; rfl
    clear hE h0
    go_enter Try.func27, Try.ntmps27
    go_wp2
    go_ret
    exact ⟨rfl, chain0 w _⟩
  · have hq : wEq (v.a0 : Nat) (v.a1 : Nat) (v.a2 : Nat) (v.a3 : Nat) 0 0 0 0 = false := wEq_not (by omega)
    by_cases hl : v.x < 0
    · have hE : errV v = 36 := if_neg fun h => by have := h.2; omega
      rw [hE]
      clear hE h0
      go_enter Try.func27, Try.ntmps27
      go_wp2
      go_ret
      exact ⟨rfl, chain0 w _⟩
    by_cases hx : 1099511627776 < v.x
    · have hE : errV v = 36 := if_neg fun h => by have := h.2; omega
      rw [hE]
      clear hE h0
      go_enter Try.func27, Try.ntmps27
      go_wp2
      go_ret
      exact ⟨rfl, chain0 w _⟩
    · have hE : errV v = 0 := if_pos ⟨h0, by omega, by omega⟩
      rw [hE]
      clear hE h0
      go_enter Try.func27, Try.ntmps27
      go_wp2
      go_ret
      exact ⟨rfl, chain0 w _⟩
end Go.Proofs.Ytafcngnophlhgaa

namespace Go.Proofs.Ytafcngnophlhgaa
open Go.RowKit Go.Shelf

theorem errT_kind {t : Tr} (h : ¬ (1 ≤ t.kd ∧ t.kd ≤ 6)) : errT t = 12 := if_neg h
theorem errT_range {t : Tr} (h : 1 ≤ t.kd ∧ t.kd ≤ 6) (g : ¬ ((0 ≤ t.fr ∧ t.fr ≤ 7) ∧ (0 ≤ t.no ∧ t.no ≤ 1099511627776) ∧ (0 ≤ t.az ∧ t.az ≤ 1))) : errT t = 4 := by rw [errT, if_pos h, if_neg g]
theorem errT_zero {t : Tr} (h : 1 ≤ t.kd ∧ t.kd ≤ 6) (g : (0 ≤ t.fr ∧ t.fr ≤ 7) ∧ (0 ≤ t.no ∧ t.no ≤ 1099511627776) ∧ (0 ≤ t.az ∧ t.az ≤ 1)) (z : t.kd < 4 ∧ zeroA t) : errT t = 36 := by rw [errT, if_pos h, if_pos g, if_pos (by omega), errM, if_pos z.2]
theorem errT_route {t : Tr} (h : 1 ≤ t.kd ∧ t.kd ≤ 6) (g : (0 ≤ t.fr ∧ t.fr ≤ 7) ∧ (0 ≤ t.no ∧ t.no ≤ 1099511627776) ∧ (0 ≤ t.az ∧ t.az ≤ 1)) (z : ¬ (t.kd < 4 ∧ zeroA t)) (r : (t.kd = 1 ∧ ¬ (0 ≤ t.iv.to ∧ t.iv.to ≤ 7)) ∨ (t.kd = 2 ∧ ¬ (2 ≤ t.iv.ro ∧ t.iv.ro ≤ 3))) : errT t = 39 := by
  have hz : ¬ zeroA t := fun e => z ⟨by omega, e⟩
  rw [errT, if_pos h, if_pos g, if_pos (by omega), errM, if_neg hz]
  rcases r with ⟨h1, h2⟩ | ⟨h1, h2⟩
  · rw [if_pos h1, if_neg h2]
  · rw [if_neg (by omega), if_pos h1, if_neg h2]
theorem errT_moves {t : Tr} (h : 1 ≤ t.kd ∧ t.kd ≤ 6) (g : (0 ≤ t.fr ∧ t.fr ≤ 7) ∧ (0 ≤ t.no ∧ t.no ≤ 1099511627776) ∧ (0 ≤ t.az ∧ t.az ≤ 1)) (z : ¬ (t.kd < 4 ∧ zeroA t)) (r : ¬ ((t.kd = 1 ∧ ¬ (0 ≤ t.iv.to ∧ t.iv.to ≤ 7)) ∨ (t.kd = 2 ∧ ¬ (2 ≤ t.iv.ro ∧ t.iv.ro ≤ 3)))) (k : t.kd < 4) : errT t = 0 := by
  have hz : ¬ zeroA t := fun e => z ⟨k, e⟩
  rw [errT, if_pos h, if_pos g, if_pos (by omega), errM, if_neg hz]
  by_cases h1 : t.kd = 1
  · rw [if_pos h1]
    by_cases h2 : 0 ≤ t.iv.to ∧ t.iv.to ≤ 7
    · rw [if_pos h2]
    · exact absurd (.inl ⟨h1, h2⟩) r
  · rw [if_neg h1]
    by_cases h2 : t.kd = 2
    · rw [if_pos h2]
      by_cases h3 : 2 ≤ t.iv.ro ∧ t.iv.ro ≤ 3
      · rw [if_pos h3]
      · exact absurd (.inr ⟨h2, h3⟩) r
    · rw [if_neg h2]
theorem errT_rest {t : Tr} (h : 1 ≤ t.kd ∧ t.kd ≤ 6) (g : (0 ≤ t.fr ∧ t.fr ≤ 7) ∧ (0 ≤ t.no ∧ t.no ≤ 1099511627776) ∧ (0 ≤ t.az ∧ t.az ≤ 1)) (k : ¬ t.kd < 4) : errT t = errF t := by rw [errT, if_pos h, if_pos g, if_neg (by omega)]
set_option maxRecDepth 100000 in
set_option maxHeartbeats 4000000 in
theorem refTx_any (t : Tr) (w : World) :
    Calls Try.prog 8 #[txv t] w fun e W' => e = .returned (.int .i64 (errT t)) ∧ Below w.heap.size w W' := by
  generalize hb1 : decide (¬ (1 ≤ t.kd ∧ t.kd ≤ 6)) = b1
  have B1 := Lib.hid hb1
  clear hb1
  generalize hb3 : decide (¬ ((0 ≤ t.fr ∧ t.fr ≤ 7) ∧ (0 ≤ t.no ∧ t.no ≤ 1099511627776) ∧ (0 ≤ t.az ∧ t.az ≤ 1))) = b3
  have B3 := Lib.hid hb3
  clear hb3
  generalize hb5 : decide (t.kd < 4 ∧ zeroA t) = b5
  have B5 := Lib.hid hb5
  clear hb5
  generalize hb7 : decide ((t.kd = 1 ∧ ¬ (0 ≤ t.iv.to ∧ t.iv.to ≤ 7)) ∨ (t.kd = 2 ∧ ¬ (2 ≤ t.iv.ro ∧ t.iv.ro ≤ 3))) = b7
  have B7 := Lib.hid hb7
  clear hb7
  go_enter Try.func8, Try.ntmps8
  go_upto_region 1 with fail
  generalize hW0 : World.alloc _ _ = W0
  have kB : Blk W0 w.heap.size 30 (txc t) := by rw [← hW0]; exact Blk.new w 30 (txc t)
  have hB : Below w.heap.size w W0 := by rw [← hW0]; exact chain0 w _
  clear hW0
  go_cut [3] (fun s wc => s = .bool b1 ∧ wc = W0)
  case first =>
    have c2 := (kB.cell 2).trans rfl
    by_cases h1 : t.kd < 1
    · skip
      have HX : Hid (b1 = true) := Lib.hid (by rw [← B1.out]; exact decide_eq_true (by omega))
      go_wp2_with fail
      go_meet
      exact ⟨by rw [HX.out], rfl⟩
    · by_cases h2 : 6 < t.kd
      · skip
        have HX : Hid (b1 = true) := Lib.hid (by rw [← B1.out]; exact decide_eq_true (by omega))
        go_wp2_with fail
        go_meet
        exact ⟨by rw [HX.out], rfl⟩
      · skip
        have HX : Hid (b1 = false) := Lib.hid (by rw [← B1.out]; exact decide_eq_false (by omega))
        go_wp2_with fail
        go_meet
        exact ⟨by rw [HX.out], rfl⟩
  case rest =>
    obtain ⟨rfl, rfl⟩ := hcut
    cases b1 with
    | true =>
      have HE := Lib.hid (errT_kind (of_decide_eq_true B1.out))
      clear B1 B3 B5 B7
      go_wp2_with fail
      go_ret
      exact ⟨by rw [HE.out]; rfl, hB⟩
    | false =>
      have K := Lib.hid (Decidable.not_not.1 (of_decide_eq_false B1.out))
      clear B1
      go_upto_region 3 with fail
      go_cut [12] (fun s wd => s = .bool b3 ∧ wd = wc)
      case first =>
        have c0 := (kB.cell 0).trans rfl
        have c1 := (kB.cell 1).trans rfl
        have c3 := (kB.cell 3).trans rfl
        clear B5 B7
        by_cases h0 : t.fr < 0
        · skip
          have HX : Hid (b3 = true) := Lib.hid (by rw [← B3.out]; exact decide_eq_true (by omega))
          go_wp2_with fail
          go_meet
          exact ⟨by rw [HX.out], rfl⟩
        · skip
          by_cases h1 : 7 < t.fr
          · skip
            have HX : Hid (b3 = true) := Lib.hid (by rw [← B3.out]; exact decide_eq_true (by omega))
            go_wp2_with fail
            go_meet
            exact ⟨by rw [HX.out], rfl⟩
          · skip
            by_cases h2 : t.no < 0
            · skip
              have HX : Hid (b3 = true) := Lib.hid (by rw [← B3.out]; exact decide_eq_true (by omega))
              go_wp2_with fail
              go_meet
              exact ⟨by rw [HX.out], rfl⟩
            · skip
              by_cases h3 : 1099511627776 < t.no
              · skip
                have HX : Hid (b3 = true) := Lib.hid (by rw [← B3.out]; exact decide_eq_true (by omega))
                go_wp2_with fail
                go_meet
                exact ⟨by rw [HX.out], rfl⟩
              · skip
                by_cases h4 : t.az < 0
                · skip
                  have HX : Hid (b3 = true) := Lib.hid (by rw [← B3.out]; exact decide_eq_true (by omega))
                  go_wp2_with fail
                  go_meet
                  exact ⟨by rw [HX.out], rfl⟩
                · skip
                  by_cases h5 : 1 < t.az
                  · skip
                    have HX : Hid (b3 = true) := Lib.hid (by rw [← B3.out]; exact decide_eq_true (by omega))
                    go_wp2_with fail
                    go_meet
                    exact ⟨by rw [HX.out], rfl⟩
                  · skip
                    have HX : Hid (b3 = false) := Lib.hid (by rw [← B3.out]; exact decide_eq_false (by omega))
                    go_wp2_with fail
                    go_meet
                    exact ⟨by rw [HX.out], rfl⟩
      case rest =>
        obtain ⟨rfl, rfl⟩ := hcut
        cases b3 with
        | true =>
          have HE := Lib.hid (errT_range K.out (of_decide_eq_true B3.out))
          clear B3 B5 B7
          go_wp2_with fail
          go_ret
          exact ⟨by rw [HE.out]; rfl, hB⟩
        | false =>
          have R := Lib.hid (Decidable.not_not.1 (of_decide_eq_false B3.out))
          clear B3
          go_upto_region 5 with fail
          go_cut [41] (fun s we => s = .bool b5 ∧ we = wc)
          case first =>
            have c2 := (kB.cell 2).trans rfl
            clear B7
            by_cases h1 : t.kd < 4
            · have hweq := @run_equalIn_wide
              by_cases h0 : zeroA t
              · have HX : Hid (b5 = true) := Lib.hid (by rw [← B5.out]; exact decide_eq_true ⟨h1, h0⟩)
                have hq : wEq (t.a0 : Nat) (t.a1 : Nat) (t.a2 : Nat) (t.a3 : Nat) 0 0 0 0 = true := by
                  obtain ⟨e0, e1, e2, e3⟩ := h0
                  rw [e0, e1, e2, e3]; rfl
                clear h0
                go_wp2_with (first
                  | ((with_reducible refine wpList_loadIf 24 (.tmp 46) ?_ (some 47) ?_ ?_ (wv t.a0 t.a1 t.a2 t.a3) ?_ ?_); (· rfl); (· rfl); (· rfl); (· exact load_am kB)))
                go_meet
                exact ⟨by rw [HX.out], rfl⟩
              · have HX : Hid (b5 = false) := Lib.hid (by rw [← B5.out]; exact decide_eq_false (fun e => h0 e.2))
                have hq : wEq (t.a0 : Nat) (t.a1 : Nat) (t.a2 : Nat) (t.a3 : Nat) 0 0 0 0 = false := wEq_not (by unfold zeroA at h0; omega)
                clear h0
                go_wp2_with (first
                  | ((with_reducible refine wpList_loadIf 24 (.tmp 46) ?_ (some 47) ?_ ?_ (wv t.a0 t.a1 t.a2 t.a3) ?_ ?_); (· rfl); (· rfl); (· rfl); (· exact load_am kB)))
                go_meet
                exact ⟨by rw [HX.out], rfl⟩
            · skip
              have HX : Hid (b5 = false) := Lib.hid (by rw [← B5.out]; exact decide_eq_false (fun e => h1 e.1))
              go_wp2_with fail
              go_meet
              exact ⟨by rw [HX.out], rfl⟩
          case rest =>
            obtain ⟨rfl, rfl⟩ := hcut
            cases b5 with
            | true =>
              have HE := Lib.hid (errT_zero K.out R.out (of_decide_eq_true B5.out))
              clear B5 B7
              go_wp2_with fail
              go_ret
              exact ⟨by rw [HE.out]; rfl, hB⟩
            | false =>
              have Z := Lib.hid (of_decide_eq_false B5.out)
              clear B5
              go_upto_region 7 with fail
              go_cut [51] (fun s wf => s = .bool b7 ∧ wf = wc)
              case first =>
                have c2 := (kB.cell 2).trans rfl
                have c10 := (kB.cell 10).trans rfl
                have c13 := (kB.cell 13).trans rfl
                by_cases h1 : t.kd = 1
                · have q1 : (t.kd == 1) = true := by simpa using h1
                  have q2 : (t.kd == 2) = false := by simp [h1]
                  by_cases p1 : t.iv.to < 0
                  · skip
                    have HX : Hid (b7 = true) := Lib.hid (by rw [← B7.out]; exact decide_eq_true (by omega))
                    clear h1
                    go_wp2_with fail
                    go_meet
                    exact ⟨by rw [HX.out], rfl⟩
                  · by_cases p2 : 7 < t.iv.to
                    · skip
                      have HX : Hid (b7 = true) := Lib.hid (by rw [← B7.out]; exact decide_eq_true (by omega))
                      clear h1
                      go_wp2_with fail
                      go_meet
                      exact ⟨by rw [HX.out], rfl⟩
                    · skip
                      have HX : Hid (b7 = false) := Lib.hid (by rw [← B7.out]; exact decide_eq_false (by omega))
                      clear h1
                      go_wp2_with fail
                      go_meet
                      exact ⟨by rw [HX.out], rfl⟩
                · have q1 : (t.kd == 1) = false := by simpa using h1
                  by_cases h2 : t.kd = 2
                  · have q2 : (t.kd == 2) = true := by simpa using h2
                    by_cases p1 : t.iv.ro < 2
                    · skip
                      have HX : Hid (b7 = true) := Lib.hid (by rw [← B7.out]; exact decide_eq_true (by omega))
                      clear h1 h2
                      go_wp2_with fail
                      go_meet
                      exact ⟨by rw [HX.out], rfl⟩
                    · by_cases p2 : 3 < t.iv.ro
                      · skip
                        have HX : Hid (b7 = true) := Lib.hid (by rw [← B7.out]; exact decide_eq_true (by omega))
                        clear h1 h2
                        go_wp2_with fail
                        go_meet
                        exact ⟨by rw [HX.out], rfl⟩
                      · skip
                        have HX : Hid (b7 = false) := Lib.hid (by rw [← B7.out]; exact decide_eq_false (by omega))
                        clear h1 h2
                        go_wp2_with fail
                        go_meet
                        exact ⟨by rw [HX.out], rfl⟩
                  · have q2 : (t.kd == 2) = false := by simpa using h2
                    have HX : Hid (b7 = false) := Lib.hid (by rw [← B7.out]; exact decide_eq_false (by omega))
                    clear h1 h2
                    go_wp2_with fail
                    go_meet
                    exact ⟨by rw [HX.out], rfl⟩
              case rest =>
                obtain ⟨rfl, rfl⟩ := hcut
                cases b7 with
                | true =>
                  have HE := Lib.hid (errT_route K.out R.out Z.out (of_decide_eq_true B7.out))
                  clear B7
                  go_wp2_with fail
                  go_ret
                  exact ⟨by rw [HE.out]; rfl, hB⟩
                | false =>
                  have V := Lib.hid (of_decide_eq_false B7.out)
                  clear B7
                  have c2 := (kB.cell 2).trans rfl
                  by_cases h1 : t.kd < 4
                  · have HE := Lib.hid (errT_moves K.out R.out Z.out V.out h1)
                    go_wp2_with fail
                    go_ret
                    exact ⟨by rw [HE.out]; rfl, hB⟩
                  · have HR := Lib.hid (errT_rest K.out R.out h1)
                    have HI := Lib.hid (refInv_any t.iv)
                    have HV := Lib.hid (refVar_any t.vr)
                    go_upto_region 11 with fail
                    clear h1 c2
                    by_cases hi : maybeI t.iv
                    · have E1 := Lib.hid (errI_zero hi)
                      by_cases hv : maybeV t.vr
                      · have E2 := Lib.hid (errV_zero hv)
                        by_cases hs : t.sg.size ≤ 1024
                        · have HE : Hid (errT t = 0) := Lib.hid (by rw [HR.out, errF, if_pos hi, if_pos hv, if_pos hs])
                          clear hi hv
                          go_wp2_with (first
                            | ((with_reducible refine wpList_loadIf 26 (.tmp 89) ?_ (some 90) ?_ ?_ (ivv t.iv) ?_ ?_); (· rfl); (· rfl); (· rfl); (· exact load_iv kB))
                            | ((with_reducible refine wpList_loadIf 28 (.tmp 94) ?_ (some 95) ?_ ?_ (svv t.vr) ?_ ?_); (· rfl); (· rfl); (· rfl); (· exact load_vr kB))
                            | (go_at_call 26; refine (HI.out _).mono ?_; rw [E1.out]; rintro e w1 ⟨rfl, hb⟩; replace kB := kB.below hb kB.lt; replace hB := chain hB hb; clear hb; have c24 := (kB.cell 24).trans rfl)
                            | (go_at_call 27; refine (HV.out _).mono ?_; rw [E2.out]; rintro e w2 ⟨rfl, hb⟩; replace kB := kB.below hb kB.lt; replace hB := chain hB hb; clear hb c24; have c24 := (kB.cell 24).trans rfl))
                          go_ret
                          exact ⟨by rw [HE.out]; rfl, hB⟩
                        · have HE : Hid (errT t = 5) := Lib.hid (by rw [HR.out, errF, if_pos hi, if_pos hv, if_neg hs])
                          have hs2 : 1024 < t.sg.size := by omega
                          clear hi hv hs
                          go_wp2_with (first
                            | ((with_reducible refine wpList_loadIf 26 (.tmp 89) ?_ (some 90) ?_ ?_ (ivv t.iv) ?_ ?_); (· rfl); (· rfl); (· rfl); (· exact load_iv kB))
                            | ((with_reducible refine wpList_loadIf 28 (.tmp 94) ?_ (some 95) ?_ ?_ (svv t.vr) ?_ ?_); (· rfl); (· rfl); (· rfl); (· exact load_vr kB))
                            | (go_at_call 26; refine (HI.out _).mono ?_; rw [E1.out]; rintro e w1 ⟨rfl, hb⟩; replace kB := kB.below hb kB.lt; replace hB := chain hB hb; clear hb; have c24 := (kB.cell 24).trans rfl)
                            | (go_at_call 27; refine (HV.out _).mono ?_; rw [E2.out]; rintro e w2 ⟨rfl, hb⟩; replace kB := kB.below hb kB.lt; replace hB := chain hB hb; clear hb c24; have c24 := (kB.cell 24).trans rfl))
                          go_ret
                          exact ⟨by rw [HE.out]; rfl, hB⟩
                      · have E2 := Lib.hid (errV_bad hv)
                        have HE : Hid (errT t = 36) := Lib.hid (by rw [HR.out, errF, if_pos hi, if_neg hv])
                        clear hi hv
                        go_wp2_with (first
                          | ((with_reducible refine wpList_loadIf 26 (.tmp 89) ?_ (some 90) ?_ ?_ (ivv t.iv) ?_ ?_); (· rfl); (· rfl); (· rfl); (· exact load_iv kB))
                          | ((with_reducible refine wpList_loadIf 28 (.tmp 94) ?_ (some 95) ?_ ?_ (svv t.vr) ?_ ?_); (· rfl); (· rfl); (· rfl); (· exact load_vr kB))
                          | (go_at_call 26; refine (HI.out _).mono ?_; rw [E1.out]; rintro e w1 ⟨rfl, hb⟩; replace kB := kB.below hb kB.lt; replace hB := chain hB hb; clear hb; have c24 := (kB.cell 24).trans rfl)
                          | (go_at_call 27; refine (HV.out _).mono ?_; rw [E2.out]; rintro e w2 ⟨rfl, hb⟩; replace kB := kB.below hb kB.lt; replace hB := chain hB hb; clear hb c24; have c24 := (kB.cell 24).trans rfl))
                        go_ret
                        exact ⟨by rw [HE.out]; rfl, hB⟩
                    · have E1 := Lib.hid (errI_bad hi)
                      have HE : Hid (errT t = 39) := Lib.hid (by rw [HR.out, errF, if_neg hi])
                      clear hi
                      go_wp2_with (first
                        | ((with_reducible refine wpList_loadIf 26 (.tmp 89) ?_ (some 90) ?_ ?_ (ivv t.iv) ?_ ?_); (· rfl); (· rfl); (· rfl); (· exact load_iv kB))
                        | ((with_reducible refine wpList_loadIf 28 (.tmp 94) ?_ (some 95) ?_ ?_ (svv t.vr) ?_ ?_); (· rfl); (· rfl); (· rfl); (· exact load_vr kB))
                        | (go_at_call 26; refine (HI.out _).mono ?_; rw [E1.out]; rintro e w1 ⟨rfl, hb⟩; replace kB := kB.below hb kB.lt; replace hB := chain hB hb; clear hb; have c24 := (kB.cell 24).trans rfl))
                      go_ret
                      exact ⟨by rw [HE.out]; rfl, hB⟩
end Go.Proofs.Ytafcngnophlhgaa

namespace Go.Proofs.Ytafcngnophlhgaa
open Go.RowKit Go.Shelf

/-- A number is where it may be. -/
def holdB (n l m : Int) : Bool := decide (l ≤ n ∧ n ≤ m)
theorem hold_yes {n l m : Int} (h1 : l ≤ n) (h2 : n ≤ m) : holdB n l m = true := decide_eq_true ⟨h1, h2⟩
theorem hold_no {n l m : Int} (h : ¬ (l ≤ n ∧ n ≤ m)) : holdB n l m = false := decide_eq_false h
theorem holds_any (n l m : Int) (w : World) :
    Calls Try.prog 73 #[.agg #[.int .i64 n, .int .i64 l, .int .i64 m]] w fun e W' => e = .returned (.bool (holdB n l m)) ∧ Below w.heap.size w W' := by
  by_cases h1 : l ≤ n
  · by_cases h2 : n ≤ m
    · rw [hold_yes h1 h2]
      go_enter Try.func73, Try.ntmps73
      go_wp2
      go_ret
      exact ⟨rfl, chain0 _ _⟩
    · rw [hold_no (by omega)]
      go_enter Try.func73, Try.ntmps73
      go_wp2
      go_ret
      exact ⟨rfl, chain0 _ _⟩
  · rw [hold_no (by omega)]
    go_enter Try.func73, Try.ntmps73
    go_wp2
    go_ret
    exact ⟨rfl, chain0 _ _⟩

/-- The bounds of a transfer. -/
abbrev bndc (i : Trf) : Array Value := #[.int .i64 i.us, .int .i64 0, .int .i64 1, .int .i64 (i.rt.size : Nat), .int .i64 8, .int .i64 8, .int .i64 i.ro, .int .i64 2, .int .i64 3, .int .i64 i.se, .int .i64 0, .int .i64 1, .int .i64 i.re, .int .i64 0, .int .i64 1, .int .i64 i.to, .int .i64 0, .int .i64 7, .int .i64 (i.id.size : Nat), .int .i64 1, .int .i64 16]
abbrev bndv (i : Trf) : Value := .agg (bndc i)
def z21 : List Value := [.int .i64 0, .int .i64 0, .int .i64 0, .int .i64 0, .int .i64 0, .int .i64 0, .int .i64 0, .int .i64 0, .int .i64 0, .int .i64 0, .int .i64 0, .int .i64 0, .int .i64 0, .int .i64 0, .int .i64 0, .int .i64 0, .int .i64 0, .int .i64 0, .int .i64 0, .int .i64 0, .int .i64 0]
set_option maxRecDepth 100000 in
theorem bounds_any (i : Trf) (w : World) :
    Calls Try.prog 72 #[ivv i] w fun e W' => e = .returned (bndv i) ∧ Below w.heap.size w W' := by
  have HB := Lib.hid (fun (W : World) (hz : W.heap.size = w.heap.size + 1) => Blk.new' (vs := z21) (t := 117) hz)
  go_enter Try.func72, Try.ntmps72
  go_wp2_with (refine wpList_buildTo rfl 117 _ rfl (some 26) rfl (bndc i) (by kernel_rfl) ?_; go_must (refine wpList_store_rowTo rfl 117 (.tmp 2) (.tmp 26) rfl rfl (w.heap.size + 1) (bndc i) rfl rfl 117 z21.toArray (HB.out _ (by simp)) (by kernel_rfl) rfl (by simp [bndc, Value.oneCell']) ?_))
  have hg := setRow_heap _ _ _ (bndc i) _ _ (HB.out (w.alloc (.cells #[.int .i64 i.us, .string i.rt, .int .i64 i.ro, .int .i64 i.se, .int .i64 i.re, .int .i64 i.to, .string i.id] 26)) (by simp))
  have hr := fun tmps hp => results_cell_row (P := Try.prog) (fn := Try.f72) (p := 2) (ty := 117) rfl tmps _ (w.heap.size + 1) _ (bndc i) (0, 0) _ hp hg Try.underlying117 rfl (by kernel_rfl)
  exact bodyPost_ret (v := bndv i) (hr _ rfl) rfl ⟨rfl, below_setRow (chainA (chain0 w _) _) (Nat.le_add_right _ 1) _⟩

/-- Bound k of a transfer. -/
def bN (i : Trf) (k : Nat) : Int := match k with | 0 => i.us | 1 => i.rt.size | 2 => i.ro | 3 => i.se | 4 => i.re | 5 => i.to | _ => i.id.size
def bL (k : Nat) : Int := match k with | 0 => 0 | 1 => 8 | 2 => 2 | 3 => 0 | 4 => 0 | 5 => 0 | _ => 1
def bM (k : Nat) : Int := match k with | 0 => 1 | 1 => 8 | 2 => 3 | 3 => 1 | 4 => 1 | 5 => 7 | _ => 16
def bOk (i : Trf) (k : Nat) : Bool := holdB (bN i k) (bL k) (bM k)
theorem may_of {i : Trf} (h : ∀ j, j < 7 → bOk i j = true) : maybeI i := by
  have g := fun j hj => of_decide_eq_true (h j hj)
  have h0 : 0 ≤ i.us ∧ i.us ≤ 1 := g 0 (by omega)
  have h1 : 8 ≤ (i.rt.size : Int) ∧ (i.rt.size : Int) ≤ 8 := g 1 (by omega)
  have h2 : 2 ≤ i.ro ∧ i.ro ≤ 3 := g 2 (by omega)
  have h3 : 0 ≤ i.se ∧ i.se ≤ 1 := g 3 (by omega)
  have h4 : 0 ≤ i.re ∧ i.re ≤ 1 := g 4 (by omega)
  have h5 : 0 ≤ i.to ∧ i.to ≤ 7 := g 5 (by omega)
  have h6 : 1 ≤ (i.id.size : Int) ∧ (i.id.size : Int) ≤ 16 := g 6 (by omega)
  exact ⟨h0, by omega, h2, h3, h4, h5, by omega, by omega⟩
theorem may_not {i : Trf} {j : Nat} (hj : j < 7) (h : bOk i j = false) : ¬ maybeI i := by
  intro ⟨h0, h1, h2, h3, h4, h5, h6, h7⟩
  have g := of_decide_eq_false h
  apply g
  match j, hj with
  | 0, _ => exact h0
  | 1, _ => exact ⟨show (8 : Int) ≤ (i.rt.size : Int) by omega, show (i.rt.size : Int) ≤ 8 by omega⟩
  | 2, _ => exact h2
  | 3, _ => exact h3
  | 4, _ => exact h4
  | 5, _ => exact h5
  | 6, _ => exact ⟨show (1 : Int) ≤ (i.id.size : Int) by omega, show (i.id.size : Int) ≤ 16 by omega⟩

set_option maxRecDepth 100000 in
theorem idx_bound (i : Trf) (w : World) {k : Nat} (hk : k < 7) :
    (Instr.index 117 (bndv i) (.int .i64 k)).run Try.prog w = .ok (.agg #[.int .i64 (bN i k), .int .i64 (bL k), .int .i64 (bM k)]) w := by
  have hs : ∀ j : Nat, (sizeOf 116).run Try.prog w = .ok 3 w := fun _ => by kernel_rfl
  have e1 : (Instr.index 117 (bndv i) (.int .i64 k)).run Try.prog w = .ok (.agg (List.take 3 (List.drop (k * 3) (bndc i).toList)).toArray) w := by
    have h1 : (0 : Int) ≤ (k : Int) ∧ (k : Int) < 7 := ⟨by omega, by omega⟩
    simp [Instr.index, run_underlying Try.underlying117, asIntOf, h1, hs 0, go_sem]
    exact fun h => absurd h (by omega)
  rw [e1]
  match k, hk with
  | 0, _ => rfl
  | 1, _ => rfl
  | 2, _ => rfl
  | 3, _ => rfl
  | 4, _ => rfl
  | 5, _ => rfl
  | 6, _ => rfl

set_option maxRecDepth 100000 in
set_option maxHeartbeats 1000000 in
theorem check_any (i : Trf) (w : World) :
    Calls Try.prog 55 #[ivv i] w fun e W' => e = .returned (.int .i64 (errI i)) ∧ Below w.heap.size w W' := by
  have HB := Lib.hid (bounds_any i)
  go_enter Try.func55, Try.ntmps55
  go_wp2_with (go_at_call 72; refine (HB.out _).mono ?_; rintro e w1 ⟨rfl, hb1⟩)
  have hB := chain (chain0 w _) hb1
  go_loopw [7] (fun n wr => ∃ k : Nat, k ≤ 7 ∧ n = .int .i64 k ∧ (∀ j, j < k → bOk i j = true) ∧ Below w.heap.size w wr) (fun n _ => 7 - (intOf n).toNat)
  case atStart => exact ⟨0, by omega, rfl, fun j hj => absurd hj (by omega), hB⟩
  case round =>
    clear hb1 hB
    obtain ⟨k, hk, rfl, hall, hB⟩ := hrel
    have HA := Lib.hid hall
    clear hall
    by_cases hlt : k < 7
    · have hlt' : (k : Int) < 7 := by omega
      have HI := Lib.hid (fun W => idx_bound i W hlt)
      have H0 := holds_any (bN i k) (bL k) (bM k)
      by_cases hb : bOk i k = true
      · have HN : Hid (∀ j, j < k + 1 → bOk i j = true) := Lib.hid fun j hj => by
          by_cases hjk : j < k
          · exact HA.out j hjk
          · obtain rfl : j = k := by omega
            exact hb
        rw [show holdB (bN i k) (bL k) (bM k) = true from hb] at H0
        have H1 := Lib.hid H0
        clear H0 hb HA HB
        generalize bN i k = x0 at *
        generalize bL k = x1 at *
        generalize bM k = x2 at *
        go_wp2_with (first
          | (go_at_call 73; refine (H1.out _).mono ?_; rintro e w2 ⟨rfl, hb2⟩)
          | (refine wpList_indexTo rfl 117 (.tmp 6) (.tmp 7) rfl (some 9) rfl _ (HI.out _) ?_))
        go_roundw
        case rel => exact ⟨k + 1, by omega, by go_num, HN.out, chain (chainA hB _) hb2⟩
        case measure => simp [intOf]; omega
      · replace hb : bOk i k = false := by simpa using hb
        have HN := Lib.hid (may_not hlt hb)
        rw [show holdB (bN i k) (bL k) (bM k) = false from hb] at H0
        have H1 := Lib.hid H0
        clear H0 hb HA HB
        generalize bN i k = x0 at *
        generalize bL k = x1 at *
        generalize bM k = x2 at *
        go_wp2_with (first
          | (go_at_call 73; refine (H1.out _).mono ?_; rintro e w2 ⟨rfl, hb2⟩)
          | (refine wpList_indexTo rfl 117 (.tmp 6) (.tmp 7) rfl (some 9) rfl _ (HI.out _) ?_))
        go_ret
        exact ⟨by rw [errI, if_neg HN.out]; rfl, chain (chainA hB _) hb2⟩
    · obtain rfl : k = 7 := by omega
      go_wp2
      go_ret
      exact ⟨by rw [errI, if_pos (may_of HA.out)]; rfl, hB⟩

theorem holdV {v : Sid} : holdB v.x 0 1099511627776 = decide (0 ≤ v.x ∧ v.x ≤ 1099511627776) := rfl
set_option maxRecDepth 100000 in
theorem sound_any (v : Sid) (w : World) :
    Calls Try.prog 56 #[svv v] w fun e W' => e = .returned (.int .i64 (errV v)) ∧ Below w.heap.size w W' := by
  have hweq := @run_equalIn_wide
  by_cases h0 : v.a0 = 0 ∧ v.a1 = 0 ∧ v.a2 = 0 ∧ v.a3 = 0
  · have hE : errV v = 36 := if_neg fun h => h.1 h0
    rw [hE]
    have hq : wEq (v.a0 : Nat) (v.a1 : Nat) (v.a2 : Nat) (v.a3 : Nat) 0 0 0 0 = true := by
      obtain ⟨e0, e1, e2, e3⟩ := h0
      rw [e0, e1, e2, e3]; rfl
    clear hE h0
    go_enter Try.func56, Try.ntmps56
    go_wp2
    go_ret
    exact ⟨rfl, chainA (chain0 w _) _⟩
  · have hq : wEq (v.a0 : Nat) (v.a1 : Nat) (v.a2 : Nat) (v.a3 : Nat) 0 0 0 0 = false := wEq_not (by omega)
    have H0 := holds_any v.x 0 1099511627776
    by_cases hx : 0 ≤ v.x ∧ v.x ≤ 1099511627776
    · have hE : errV v = 0 := if_pos ⟨h0, hx⟩
      rw [hold_yes hx.1 hx.2] at H0
      rw [hE]
      have H1 := Lib.hid H0
      clear H0 h0 hx hE
      go_enter Try.func56, Try.ntmps56
      go_wp2_with (go_at_call 73; refine (H1.out _).mono ?_; rintro e w2 ⟨rfl, hb2⟩)
      go_ret
      exact ⟨rfl, chain (chainA (chain0 w _) _) hb2⟩
    · have hE : errV v = 36 := if_neg fun h => hx h.2
      rw [hold_no hx] at H0
      rw [hE]
      have H1 := Lib.hid H0
      clear H0 h0 hx hE
      go_enter Try.func56, Try.ntmps56
      go_wp2_with (go_at_call 73; refine (H1.out _).mono ?_; rintro e w2 ⟨rfl, hb2⟩)
      go_ret
      exact ⟨rfl, chain (chainA (chain0 w _) _) hb2⟩
end Go.Proofs.Ytafcngnophlhgaa

namespace Go.Proofs.Ytafcngnophlhgaa
open Go.RowKit Go.Shelf

theorem txsWithin_any (n l m : Int) (w : World) :
    Calls Try.prog 33 #[.int .i64 n, .int .i64 l, .int .i64 m] w fun e W' => e = .returned (.bool (holdB n l m)) ∧ w = W' := by
  by_cases h1 : l ≤ n
  · by_cases h2 : n ≤ m
    · rw [hold_yes h1 h2]
      go_enter Try.func33, Try.ntmps33
      go_wp2
      go_ret
      exact ⟨rfl, rfl⟩
    · rw [hold_no (by omega)]
      go_enter Try.func33, Try.ntmps33
      go_wp2
      go_ret
      exact ⟨rfl, rfl⟩
  · rw [hold_no (by omega)]
    go_enter Try.func33, Try.ntmps33
    go_wp2
    go_ret
    exact ⟨rfl, rfl⟩
/-- Of that kind there is a signature. -/
def sgnB (k : Int) : Bool := decide (5 ≤ k ∧ k ≤ 6)
theorem txsSigned_any (k : Int) (w : World) :
    Calls Try.prog 48 #[.int .i64 k] w fun e W' => e = .returned (.bool (sgnB k)) ∧ w = W' := by
  by_cases h1 : k = 5
  · rw [show sgnB k = true from decide_eq_true (by omega)]
    have q1 : (k == 5) = true := by simpa using h1
    clear h1
    go_enter Try.func48, Try.ntmps48
    go_wp2
    go_ret
    exact ⟨rfl, rfl⟩
  · have q1 : (k == 5) = false := by simpa using h1
    by_cases h2 : k = 6
    · rw [show sgnB k = true from decide_eq_true (by omega)]
      have q2 : (k == 6) = true := by simpa using h2
      clear h1 h2
      go_enter Try.func48, Try.ntmps48
      go_wp2
      go_ret
      exact ⟨rfl, rfl⟩
    · rw [show sgnB k = false from decide_eq_false (by omega)]
      have q2 : (k == 6) = false := by simpa using h2
      clear h1 h2
      go_enter Try.func48, Try.ntmps48
      go_wp2
      go_ret
      exact ⟨rfl, rfl⟩

set_option maxRecDepth 100000 in
set_option maxHeartbeats 2000000 in
theorem checkMove_any (t : Tr) (w : World) :
    Calls Try.prog 34 #[txv t] w fun e W' => e = .returned (.int .i64 (errM t)) ∧ Below w.heap.size w W' := by
  have hweq := @run_equalIn_wide
  have kB := Blk.new w 30 (txc t)
  have hB := chain0 w (.cells (txc t).toArray 30)
  have c2 := (kB.cell 2).trans rfl
  have c10 := (kB.cell 10).trans rfl
  have c13 := (kB.cell 13).trans rfl
  by_cases h0 : zeroA t
  · have hq : wEq (t.a0 : Nat) (t.a1 : Nat) (t.a2 : Nat) (t.a3 : Nat) 0 0 0 0 = true := by
      obtain ⟨e0, e1, e2, e3⟩ := h0
      rw [e0, e1, e2, e3]; rfl
    have HE : Hid (errM t = 36) := Lib.hid (if_pos h0)
    clear h0
    go_enter Try.func34, Try.ntmps34
    go_wp2_with (first
      | ((with_reducible refine wpList_loadIf 24 (.tmp 3) ?_ (some 4) ?_ ?_ (wv t.a0 t.a1 t.a2 t.a3) ?_ ?_); (· rfl); (· rfl); (· rfl); (· exact load_am kB))
      | (go_at_call 33; refine (txsWithin_any _ _ _ _).mono ?_; rintro e w1 ⟨rfl, rfl⟩))
    go_ret
    exact ⟨by rw [HE.out]; rfl, hB⟩
  · have hq : wEq (t.a0 : Nat) (t.a1 : Nat) (t.a2 : Nat) (t.a3 : Nat) 0 0 0 0 = false := wEq_not (by unfold zeroA at h0; omega)
    by_cases hk1 : t.kd = 1
    · have q1 : (t.kd == 1) = true := by simpa using hk1
      have q2 : (t.kd == 2) = false := by simp [hk1]
      by_cases hr : 0 ≤ t.iv.to ∧ t.iv.to ≤ 7
      · have HE : Hid (errM t = 0) := Lib.hid (by rw [errM, if_neg h0, if_pos hk1, if_pos hr])
        have hh := hold_yes hr.1 hr.2
        clear h0 hk1 hr
        go_enter Try.func34, Try.ntmps34
        go_wp2_with (first
          | ((with_reducible refine wpList_loadIf 24 (.tmp 3) ?_ (some 4) ?_ ?_ (wv t.a0 t.a1 t.a2 t.a3) ?_ ?_); (· rfl); (· rfl); (· rfl); (· exact load_am kB))
          | (go_at_call 33; refine (txsWithin_any _ _ _ _).mono ?_; rintro e w1 ⟨rfl, rfl⟩))
        go_ret
        exact ⟨by rw [HE.out]; rfl, hB⟩
      · have HE : Hid (errM t = 39) := Lib.hid (by rw [errM, if_neg h0, if_pos hk1, if_neg hr])
        have hh := hold_no hr
        clear h0 hk1 hr
        go_enter Try.func34, Try.ntmps34
        go_wp2_with (first
          | ((with_reducible refine wpList_loadIf 24 (.tmp 3) ?_ (some 4) ?_ ?_ (wv t.a0 t.a1 t.a2 t.a3) ?_ ?_); (· rfl); (· rfl); (· rfl); (· exact load_am kB))
          | (go_at_call 33; refine (txsWithin_any _ _ _ _).mono ?_; rintro e w1 ⟨rfl, rfl⟩))
        go_ret
        exact ⟨by rw [HE.out]; rfl, hB⟩
    · have q1 : (t.kd == 1) = false := by simpa using hk1
      by_cases hk2 : t.kd = 2
      · have q2 : (t.kd == 2) = true := by simpa using hk2
        by_cases hr : 2 ≤ t.iv.ro ∧ t.iv.ro ≤ 3
        · have HE : Hid (errM t = 0) := Lib.hid (by rw [errM, if_neg h0, if_neg hk1, if_pos hk2, if_pos hr])
          have hh := hold_yes hr.1 hr.2
          clear h0 hk1 hk2 hr
          go_enter Try.func34, Try.ntmps34
          go_wp2_with (first
            | ((with_reducible refine wpList_loadIf 24 (.tmp 3) ?_ (some 4) ?_ ?_ (wv t.a0 t.a1 t.a2 t.a3) ?_ ?_); (· rfl); (· rfl); (· rfl); (· exact load_am kB))
            | (go_at_call 33; refine (txsWithin_any _ _ _ _).mono ?_; rintro e w1 ⟨rfl, rfl⟩))
          go_ret
          exact ⟨by rw [HE.out]; rfl, hB⟩
        · have HE : Hid (errM t = 39) := Lib.hid (by rw [errM, if_neg h0, if_neg hk1, if_pos hk2, if_neg hr])
          have hh := hold_no hr
          clear h0 hk1 hk2 hr
          go_enter Try.func34, Try.ntmps34
          go_wp2_with (first
            | ((with_reducible refine wpList_loadIf 24 (.tmp 3) ?_ (some 4) ?_ ?_ (wv t.a0 t.a1 t.a2 t.a3) ?_ ?_); (· rfl); (· rfl); (· rfl); (· exact load_am kB))
            | (go_at_call 33; refine (txsWithin_any _ _ _ _).mono ?_; rintro e w1 ⟨rfl, rfl⟩))
          go_ret
          exact ⟨by rw [HE.out]; rfl, hB⟩
      · have q2 : (t.kd == 2) = false := by simpa using hk2
        have HE : Hid (errM t = 0) := Lib.hid (by rw [errM, if_neg h0, if_neg hk1, if_neg hk2])
        clear h0 hk1 hk2
        go_enter Try.func34, Try.ntmps34
        go_wp2_with (first
          | ((with_reducible refine wpList_loadIf 24 (.tmp 3) ?_ (some 4) ?_ ?_ (wv t.a0 t.a1 t.a2 t.a3) ?_ ?_); (· rfl); (· rfl); (· rfl); (· exact load_am kB))
          | (go_at_call 33; refine (txsWithin_any _ _ _ _).mono ?_; rintro e w1 ⟨rfl, rfl⟩))
        go_ret
        exact ⟨by rw [HE.out]; rfl, hB⟩

set_option maxRecDepth 100000 in
set_option maxHeartbeats 2000000 in
theorem checkTransfer_any (t : Tr) (w : World) :
    Calls Try.prog 35 #[txv t] w fun e W' => e = .returned (.int .i64 (errF t)) ∧ Below w.heap.size w W' := by
  have kB := Blk.new w 30 (txc t)
  have hB := chain0 w (.cells (txc t).toArray 30)
  have HI := Lib.hid (check_any t.iv)
  have HV := Lib.hid (sound_any t.vr)
  by_cases hi : maybeI t.iv
  · have E1 := Lib.hid (errI_zero hi)
    by_cases hv : maybeV t.vr
    · have E2 := Lib.hid (errV_zero hv)
      by_cases hs : t.sg.size ≤ 1024
      · have HE : Hid (errF t = 0) := Lib.hid (by rw [errF, if_pos hi, if_pos hv, if_pos hs])
        clear hi hv
        go_enter Try.func35, Try.ntmps35
        go_wp2_with (first
          | ((with_reducible refine wpList_loadIf 26 (.tmp 5) ?_ (some 6) ?_ ?_ (ivv t.iv) ?_ ?_); (· rfl); (· rfl); (· rfl); (· exact load_iv kB))
          | ((with_reducible refine wpList_loadIf 28 (.tmp 11) ?_ (some 12) ?_ ?_ (svv t.vr) ?_ ?_); (· rfl); (· rfl); (· rfl); (· exact load_vr kB))
          | (go_at_call 55; refine (HI.out _).mono ?_; rw [E1.out]; rintro e w1 ⟨rfl, hb⟩; replace kB := kB.below hb kB.lt; replace hB := chain hB hb; clear hb; have c24 := (kB.cell 24).trans rfl)
          | (go_at_call 56; refine (HV.out _).mono ?_; rw [E2.out]; rintro e w2 ⟨rfl, hb⟩; replace kB := kB.below hb kB.lt; replace hB := chain hB hb; clear hb c24; have c24 := (kB.cell 24).trans rfl))
        go_ret
        exact ⟨by rw [HE.out]; rfl, hB⟩
      · have HE : Hid (errF t = 5) := Lib.hid (by rw [errF, if_pos hi, if_pos hv, if_neg hs])
        have hs2 : 1024 < t.sg.size := by omega
        clear hi hv hs
        go_enter Try.func35, Try.ntmps35
        go_wp2_with (first
          | ((with_reducible refine wpList_loadIf 26 (.tmp 5) ?_ (some 6) ?_ ?_ (ivv t.iv) ?_ ?_); (· rfl); (· rfl); (· rfl); (· exact load_iv kB))
          | ((with_reducible refine wpList_loadIf 28 (.tmp 11) ?_ (some 12) ?_ ?_ (svv t.vr) ?_ ?_); (· rfl); (· rfl); (· rfl); (· exact load_vr kB))
          | (go_at_call 55; refine (HI.out _).mono ?_; rw [E1.out]; rintro e w1 ⟨rfl, hb⟩; replace kB := kB.below hb kB.lt; replace hB := chain hB hb; clear hb; have c24 := (kB.cell 24).trans rfl)
          | (go_at_call 56; refine (HV.out _).mono ?_; rw [E2.out]; rintro e w2 ⟨rfl, hb⟩; replace kB := kB.below hb kB.lt; replace hB := chain hB hb; clear hb c24; have c24 := (kB.cell 24).trans rfl))
        go_ret
        exact ⟨by rw [HE.out]; rfl, hB⟩
    · have E2 := Lib.hid (errV_bad hv)
      have HE : Hid (errF t = 36) := Lib.hid (by rw [errF, if_pos hi, if_neg hv])
      clear hi hv
      go_enter Try.func35, Try.ntmps35
      go_wp2_with (first
        | ((with_reducible refine wpList_loadIf 26 (.tmp 5) ?_ (some 6) ?_ ?_ (ivv t.iv) ?_ ?_); (· rfl); (· rfl); (· rfl); (· exact load_iv kB))
        | ((with_reducible refine wpList_loadIf 28 (.tmp 11) ?_ (some 12) ?_ ?_ (svv t.vr) ?_ ?_); (· rfl); (· rfl); (· rfl); (· exact load_vr kB))
        | (go_at_call 55; refine (HI.out _).mono ?_; rw [E1.out]; rintro e w1 ⟨rfl, hb⟩; replace kB := kB.below hb kB.lt; replace hB := chain hB hb; clear hb; have c24 := (kB.cell 24).trans rfl)
        | (go_at_call 56; refine (HV.out _).mono ?_; rw [E2.out]; rintro e w2 ⟨rfl, hb⟩; replace kB := kB.below hb kB.lt; replace hB := chain hB hb; clear hb c24; have c24 := (kB.cell 24).trans rfl))
      go_ret
      exact ⟨by rw [HE.out]; rfl, hB⟩
  · have E1 := Lib.hid (errI_bad hi)
    have HE : Hid (errF t = 39) := Lib.hid (by rw [errF, if_neg hi])
    have E2 : Hid (errV t.vr = errV t.vr) := Lib.hid rfl
    clear hi
    go_enter Try.func35, Try.ntmps35
    go_wp2_with (first
      | ((with_reducible refine wpList_loadIf 26 (.tmp 5) ?_ (some 6) ?_ ?_ (ivv t.iv) ?_ ?_); (· rfl); (· rfl); (· rfl); (· exact load_iv kB))
      | ((with_reducible refine wpList_loadIf 28 (.tmp 11) ?_ (some 12) ?_ ?_ (svv t.vr) ?_ ?_); (· rfl); (· rfl); (· rfl); (· exact load_vr kB))
      | (go_at_call 55; refine (HI.out _).mono ?_; rw [E1.out]; rintro e w1 ⟨rfl, hb⟩; replace kB := kB.below hb kB.lt; replace hB := chain hB hb; clear hb; have c24 := (kB.cell 24).trans rfl)
      | (go_at_call 56; refine (HV.out _).mono ?_; rw [E2.out]; rintro e w2 ⟨rfl, hb⟩; replace kB := kB.below hb kB.lt; replace hB := chain hB hb; clear hb c24; have c24 := (kB.cell 24).trans rfl))
    go_ret
    exact ⟨by rw [HE.out]; rfl, hB⟩

set_option maxRecDepth 100000 in
set_option maxHeartbeats 2000000 in
theorem txsCheck_any (t : Tr) (w : World) :
    Calls Try.prog 11 #[txv t] w fun e W' => e = .returned (.int .i64 (errT t)) ∧ Below w.heap.size w W' := by
  have kB := Blk.new w 30 (txc t)
  have hB := chain0 w (.cells (txc t).toArray 30)
  have HM := Lib.hid (checkMove_any t)
  have HF := Lib.hid (checkTransfer_any t)
  have c0 := (kB.cell 0).trans rfl
  have c1 := (kB.cell 1).trans rfl
  have c2 := (kB.cell 2).trans rfl
  have c3 := (kB.cell 3).trans rfl
  by_cases hk : 1 ≤ t.kd ∧ t.kd ≤ 6
  · have g0 := hold_yes hk.1 hk.2
    by_cases hr : (0 ≤ t.fr ∧ t.fr ≤ 7) ∧ (0 ≤ t.no ∧ t.no ≤ 1099511627776) ∧ (0 ≤ t.az ∧ t.az ≤ 1)
    · have g1 := hold_yes hr.1.1 hr.1.2
      have g2 := hold_yes hr.2.1.1 hr.2.1.2
      have g3 := hold_yes hr.2.2.1 hr.2.2.2
      by_cases hm : t.kd ≤ 3
      · have g4 := hold_yes hk.1 hm
        have HE : Hid (errT t = errM t) := Lib.hid (by rw [errT, if_pos hk, if_pos hr, if_pos hm])
        clear hk hr hm
        go_enter Try.func11, Try.ntmps11
        go_wp2_with (first
          | (first | ((with_reducible refine wpList_loadIf 30 (.tmp 1) ?_ (some 26) ?_ ?_ (txv t) ?_ ?_); (· rfl); (· rfl); (· rfl); (· exact load_tx kB)) | ((with_reducible refine wpList_loadIf 30 (.tmp 1) ?_ (some 28) ?_ ?_ (txv t) ?_ ?_); (· rfl); (· rfl); (· rfl); (· exact load_tx kB)))
          | (go_at_call 33; refine (txsWithin_any _ _ _ _).mono ?_; rintro e w1 ⟨rfl, rfl⟩)
          | (go_at_call 34; refine (HM.out _).mono ?_; rintro e w2 ⟨rfl, hb⟩; replace hB := chain hB hb)
          | (go_at_call 35; refine (HF.out _).mono ?_; rintro e w2 ⟨rfl, hb⟩; replace hB := chain hB hb))
        go_ret
        exact ⟨by rw [HE.out]; rfl, hB⟩
      · have g4 : holdB t.kd 1 3 = false := hold_no (fun h => hm h.2)
        have HE : Hid (errT t = errF t) := Lib.hid (by rw [errT, if_pos hk, if_pos hr, if_neg hm])
        clear hk hr hm
        go_enter Try.func11, Try.ntmps11
        go_wp2_with (first
          | (first | ((with_reducible refine wpList_loadIf 30 (.tmp 1) ?_ (some 26) ?_ ?_ (txv t) ?_ ?_); (· rfl); (· rfl); (· rfl); (· exact load_tx kB)) | ((with_reducible refine wpList_loadIf 30 (.tmp 1) ?_ (some 28) ?_ ?_ (txv t) ?_ ?_); (· rfl); (· rfl); (· rfl); (· exact load_tx kB)))
          | (go_at_call 33; refine (txsWithin_any _ _ _ _).mono ?_; rintro e w1 ⟨rfl, rfl⟩)
          | (go_at_call 34; refine (HM.out _).mono ?_; rintro e w2 ⟨rfl, hb⟩; replace hB := chain hB hb)
          | (go_at_call 35; refine (HF.out _).mono ?_; rintro e w2 ⟨rfl, hb⟩; replace hB := chain hB hb))
        go_ret
        exact ⟨by rw [HE.out]; rfl, hB⟩
    · have HE : Hid (errT t = 4) := Lib.hid (by rw [errT, if_pos hk, if_neg hr])
      clear hk
      by_cases h1 : 0 ≤ t.fr ∧ t.fr ≤ 7
      · have g1 := hold_yes h1.1 h1.2
        by_cases h2 : 0 ≤ t.no ∧ t.no ≤ 1099511627776
        · have g2 := hold_yes h2.1 h2.2
          have g3 : holdB t.az 0 1 = false := hold_no (fun h => hr ⟨h1, h2, h⟩)
          clear hr h1 h2
          go_enter Try.func11, Try.ntmps11
          go_wp2_with (first
            | (first | ((with_reducible refine wpList_loadIf 30 (.tmp 1) ?_ (some 26) ?_ ?_ (txv t) ?_ ?_); (· rfl); (· rfl); (· rfl); (· exact load_tx kB)) | ((with_reducible refine wpList_loadIf 30 (.tmp 1) ?_ (some 28) ?_ ?_ (txv t) ?_ ?_); (· rfl); (· rfl); (· rfl); (· exact load_tx kB)))
            | (go_at_call 33; refine (txsWithin_any _ _ _ _).mono ?_; rintro e w1 ⟨rfl, rfl⟩)
            | (go_at_call 34; refine (HM.out _).mono ?_; rintro e w2 ⟨rfl, hb⟩; replace hB := chain hB hb)
            | (go_at_call 35; refine (HF.out _).mono ?_; rintro e w2 ⟨rfl, hb⟩; replace hB := chain hB hb))
          go_ret
          exact ⟨by rw [HE.out]; rfl, hB⟩
        · have g2 := hold_no h2
          clear hr h1 h2
          go_enter Try.func11, Try.ntmps11
          go_wp2_with (first
            | (first | ((with_reducible refine wpList_loadIf 30 (.tmp 1) ?_ (some 26) ?_ ?_ (txv t) ?_ ?_); (· rfl); (· rfl); (· rfl); (· exact load_tx kB)) | ((with_reducible refine wpList_loadIf 30 (.tmp 1) ?_ (some 28) ?_ ?_ (txv t) ?_ ?_); (· rfl); (· rfl); (· rfl); (· exact load_tx kB)))
            | (go_at_call 33; refine (txsWithin_any _ _ _ _).mono ?_; rintro e w1 ⟨rfl, rfl⟩)
            | (go_at_call 34; refine (HM.out _).mono ?_; rintro e w2 ⟨rfl, hb⟩; replace hB := chain hB hb)
            | (go_at_call 35; refine (HF.out _).mono ?_; rintro e w2 ⟨rfl, hb⟩; replace hB := chain hB hb))
          go_ret
          exact ⟨by rw [HE.out]; rfl, hB⟩
      · have g1 := hold_no h1
        clear hr h1
        go_enter Try.func11, Try.ntmps11
        go_wp2_with (first
          | (first | ((with_reducible refine wpList_loadIf 30 (.tmp 1) ?_ (some 26) ?_ ?_ (txv t) ?_ ?_); (· rfl); (· rfl); (· rfl); (· exact load_tx kB)) | ((with_reducible refine wpList_loadIf 30 (.tmp 1) ?_ (some 28) ?_ ?_ (txv t) ?_ ?_); (· rfl); (· rfl); (· rfl); (· exact load_tx kB)))
          | (go_at_call 33; refine (txsWithin_any _ _ _ _).mono ?_; rintro e w1 ⟨rfl, rfl⟩)
          | (go_at_call 34; refine (HM.out _).mono ?_; rintro e w2 ⟨rfl, hb⟩; replace hB := chain hB hb)
          | (go_at_call 35; refine (HF.out _).mono ?_; rintro e w2 ⟨rfl, hb⟩; replace hB := chain hB hb))
        go_ret
        exact ⟨by rw [HE.out]; rfl, hB⟩
  · have g0 := hold_no hk
    have HE : Hid (errT t = 12) := Lib.hid (by rw [errT, if_neg hk])
    clear hk
    go_enter Try.func11, Try.ntmps11
    go_wp2_with (first
      | (first | ((with_reducible refine wpList_loadIf 30 (.tmp 1) ?_ (some 26) ?_ ?_ (txv t) ?_ ?_); (· rfl); (· rfl); (· rfl); (· exact load_tx kB)) | ((with_reducible refine wpList_loadIf 30 (.tmp 1) ?_ (some 28) ?_ ?_ (txv t) ?_ ?_); (· rfl); (· rfl); (· rfl); (· exact load_tx kB)))
      | (go_at_call 33; refine (txsWithin_any _ _ _ _).mono ?_; rintro e w1 ⟨rfl, rfl⟩)
      | (go_at_call 34; refine (HM.out _).mono ?_; rintro e w2 ⟨rfl, hb⟩; replace hB := chain hB hb)
      | (go_at_call 35; refine (HF.out _).mono ?_; rintro e w2 ⟨rfl, hb⟩; replace hB := chain hB hb))
    go_ret
    exact ⟨by rw [HE.out]; rfl, hB⟩
end Go.Proofs.Ytafcngnophlhgaa

namespace Go.Proofs.Ytafcngnophlhgaa
open Go.RowKit Go.Shelf
attribute [local go_sem] Oper.semAt_some

set_option maxRecDepth 100000 in
set_option maxHeartbeats 4000000 in
theorem numO_in (m : Nat) (hm : 3 ≤ m) (n size : Int) (hs : -9223372036854775808 ≤ size) (hs' : size ≤ 9223372036854775807) (w : World) :
    CallsIn Fence.wide m Try.prog 68 #[.int .i64 n, .int .i64 size] w (ByO (octs (two n) (clamp size)) w) := by
  have h1 : 1 ≤ m := by omega
  refine callsIn_of_wp_marks Try.func68 rfl trivial ?_ rfl
  simp only [Try.ntmps68, List.size_toArray, List.length_cons, List.length_nil, Nat.reduceAdd, Nat.reduceSub, Array.replicate_succ, Array.replicate_zero, List.push_toArray, List.append_toArray, List.nil_append, List.cons_append]
  obtain ⟨i0, hi, hz0, hz1, hz2⟩ := info_parts Try.infoByte
  have hU : IntKind.u64.wrap n = (two n : Nat) := wrap_two n
  have hx : two n < M := by unfold two M; omega
  generalize two n = x at *
  have H8 := clamp_le size
  have hCC := clamp_cases size
  generalize clamp size = s at *
  rcases hCC with ⟨hc0, hC⟩ | ⟨hc0, hc8, hC⟩ | ⟨hc8, hC⟩
  all_goals
    have HC := Lib.hid hC
    clear hC
    gi_wp2_with (refine ⟨trivial, ?_⟩; gi_at_call 78; refine (octets_in Fence.wide (m - 1) trivial rfl _ _ _).mono ?_; rintro e w' ⟨rfl, rfl⟩)
    generalize hW5 : World.alloc _ _ = W5
    have k0 : Boxed W5 w.heap.size 31 (.slice none 0 0) := by rw [← hW5]; exact ((Boxed.new _ _ _).alloc _).alloc _
    have k1 : Boxed W5 (w.heap.size + 1) 22 (.int .u64 (x : Nat)) := by rw [← hW5]; exact (Blk.new' (vs := [.int .u64 (x : Nat)]) (by simp)).alloc _
    have k2 : Boxed W5 (w.heap.size + 1 + 1) 3 (.int .i64 (s : Nat)) := by rw [HC.out, ← hW5]; exact Blk.new' (vs := [.int .i64 _]) (by simp)
    have hB0 : Below w.heap.size w W5 := by rw [← hW5]; exact chainA (chainA (chain0 _ _) _) _
    have hz : W5.heap.size = w.heap.size + 3 := by rw [← hW5]; simp
    clear hW5
    refine wpIn_rangeFunc_ownF (S := fun ys => ys = octs x s) rfl h1 (gf := 84) (lb := #[.pointer (some ⟨w.heap.size + 1 + 1, 0, none⟩), .pointer (some ⟨w.heap.size + 1, 0, none⟩)]) rfl trivial (enters_of Try.func84 (by kernel_rfl) rfl)
      (octets1_stops Fence.wide (m - 1) trivial rfl (by omega) x s H8 (w.heap.size + 1) (w.heap.size + 1 + 1) W5 k1.lt k2.lt (k1.cell) k2.cell (KeepB (w.heap.size + 1)) (fun A B h => World.cell?_of_block h)) KeepB.t (KeepB.b k1.lt) (Below.refl _ _) (fun _ => rfl)
      (NumI w.heap.size (w.heap.size + 1) x w) (fun _ _ _ => False) (numI_own (Nat.le_refl _) (by omega)) (fun _ _ _ _ _ hs _ _ => hs)
      ⟨⟨⟨_, k0, World.ownsRow_nil _ _ _ _, trivial⟩, k1⟩, hB0⟩ ?_ ?_ ?_ ?_ ?_
    rotate_left
    · intro l x W K hK
      gi_wp2
      exact hK
    · rintro l pre o W ⟨⟨⟨v, kv, hown, _⟩, kn⟩, hB⟩ hlt
      have ko := kv.cell
      have kf := kv.frozen
      have hNW : w.heap.size ≤ W.heap.size := hB.size
      gi_wp2_with (gi_at_builtin; refine wpListIn_append_own _ rfl _ _ 31 rfl w.heap.size 5 i0 (.int .u8 0) 1 1 Try.underlying31 hi hz0 hz1 hz2 rfl (by decide) v pre.length (pre.map bv) rfl (hown.alloc _) ⟨W.heap.size, 0, none⟩ 1 1 [bv o] rfl rfl (cell_one_new _ _ _) (by simp [Value.oneCell']) (by unfold maxLen; omega) (by omega) (by simp; omega) ?_; intro v' w1 hown' hgrow _; obtain ⟨g, cap, rfl⟩ := ownsRow_succ hown'; obtain ⟨hv1, kv', hrow', hk3, hbw⟩ := kv.appended (by decide) hown hNW (Nat.le_refl _) hown' hgrow; have ko1 := hv1.cell; have kf1 := hv1.frozen)
      have hn1 : W.heap.size ≤ w1.heap.size := Nat.le_trans (by simp) hgrow.size
      have kn1 : Boxed w1 (w.heap.size + 1) 22 (.int .u64 (x : Nat)) := (kn.alloc _).kept hgrow (Boxed.not_row kn (by decide) hown)
      have kn3 := kn1.kept (grownBy_setCell' w1 w.heap.size (.slice (some ⟨g, 0, none⟩) (pre.length + 1) cap)) (by simp)
      exact ⟨hk3, kn3.trans kn.symm, ⟨⟨_, kv', by simpa using hrow', trivial⟩, kn3⟩, hB.trans hbw⟩
    · rintro D ys W hD rfl ⟨⟨⟨v, kv, hown, _⟩, kn⟩, hB⟩ hK
      have ko := kv.cell
      have HZ := Lib.hid hz
      clear hz
      gi_wp2
      have hB' := hB.trans (belowK_b (w := w) (Nat.le_refl _) _ D _ (.deferred none) (by have := HZ.out; omega) hK rfl rfl)
      have hown3 := ownsRow_putObj hown (.deferred none) hK rfl
      refine ⟨by simp, .inl ⟨_, _, rfl, run_takeDeferred hK, ?_⟩⟩
      refine ⟨v, ?_, ?_⟩
      · simp [results, Try.f68, go_sem]
      · exact ⟨v, rfl, hown3, hB'⟩
    · rintro D c pre W _ _ h _
      exact h.elim

theorem numO_any (n size : Int) (hs : -9223372036854775808 ≤ size) (hs' : size ≤ 9223372036854775807) (w : World) :
    Calls Try.prog 68 #[.int .i64 n, .int .i64 size] w (ByO (octs (two n) (clamp size)) w) := callsIn_wide.1 (numO_in 3 (by omega) n size hs hs' w)
end Go.Proofs.Ytafcngnophlhgaa

namespace Go.Proofs.Ytafcngnophlhgaa
open Go.RowKit

variable {F : Fence} {n : Nat} {P : Program}

/-- An iterator that gives ys to rounds that go on: J k holds behind k rounds; it may be asked to abide the turn of whatever is no cells, from the iterator's own blocks on. -/
def SeqAll {α : Type} (F : Fence) (n : Nat) (P : Program) (g : Nat) (lb : Array Value) (encs : α → Array Value) (Kp : Nat → World → World → Prop) (ys : List α) (w : World) : Prop :=
  ∀ (l : Nat) (J : Nat → World → Prop) (W : World), Below w.heap.size w W → w.heap.size ≤ l → l < W.heap.size → OwnFrom W.heap.size J →
    (∀ k x W1, ys[k]? = some x → J k W1 → YieldAt F (n - 1) P l (encs x) W1 fun e W' => e = .returned (.bool true) ∧ J (k + 1) W' ∧ Kp l W1 W') →
    J 0 W → CallsIn F n P g (#[.func (.yield l) #[] #[]] ++ lb) W fun e W' => (∃ v, e = .returned v) ∧ J ys.length W'
/-- A round's body that goes on. -/
def goesOn (B : Nat) (Kp : World → World → Prop) (I : World → Prop) (W : World) : Exit → Act → World → Prop
  | .normal, _, W' => KeepsFrom B W W' ∧ Kp W W' ∧ I W'
  | _, _, _ => False

theorem wpIn_rangeFunc_all {α : Type} {g : Operand} {ps : Array Tmp} {assign body : Code} {Q : Exit → Act → World → Prop} {a : Act} {w : World}
    (hro : F.round = none) (h1 : 1 ≤ n) {gf : Nat} {lb : Array Value} (hg : a.eval g = .func (.func gf) #[] lb) (hFg : F.fn gf) (eg : ∀ args w, (callFunc gf args).run P w = .ok (.enter gf args) w)
    {encs : α → Array Value} {Kp : Nat → World → World → Prop} {ys : List α} {w0 : World} (hseq : SeqAll F (n - 1) P gf lb encs Kp ys w0)
    (hKt : ∀ {A B C : World}, Kp (w.heap.size + 1) A B → Kp (w.heap.size + 1) B C → Kp (w.heap.size + 1) A C) (hKb : ∀ (W : World) (o o' : Obj), W.heap[w.heap.size + 1]? = some o → o.isCells = false → o.isWalk = false → Kp (w.heap.size + 1) W (W.putObj (w.heap.size + 1) o')) (hb0 : Below w0.heap.size w0 w) (hps : ∀ x, (encs x).size = ps.size)
    (I : Nat → World → Prop) (hI : OwnFrom w.heap.size I) (h0 : I 0 w) (Ax : α → Act → World → Prop) (hAx : ∀ x a', OwnFrom w.heap.size (fun (_ : Unit) W => Ax x a' W))
    (hassign : ∀ (l k : Nat) (x : α) (W : World) (K : Act → World → Prop), I k W → (∀ a' W', KeepsFrom w.heap.size W W' → Kp (w.heap.size + 1) W W' → I k W' → Ax x a' W' → K a' W') →
      assign.wpIn (F.inRound l) (n - 1 - 1) P (Exit.then K (fun _ _ _ => False)) { tmps := (ps.zip (encs x)).foldl (fun t (p, v) => t.setIfInBounds p v) a.tmps, defers := [] } W)
    (hbody : ∀ (l k : Nat) (x : α) (a' : Act) (W : World), ys[k]? = some x → I k W → Ax x a' W → body.wpIn (F.inRound l) (n - 1 - 1) P (goesOn w.heap.size (Kp (w.heap.size + 1)) (I (k + 1)) W) a' W)
    (hdone : ∀ (D : Nat) (W : World), w.heap.size ≤ D → I ys.length W → W.heap[D]? = some (.deferred (some [])) → Q .normal { a with defers := { target := .collected D, args := #[] } :: a.defers } W) :
    (Code.rangeFunc g ps assign body).wpIn F n P Q a w := by
  refine wpIn_rangeFunc fun fn hfn => ?_
  rw [hro]
  have hZ : w.heap.size < w.heap.size + 1 := Nat.lt_succ_self _
  -- what the loop's record holds while no round runs
  have R0 : { r : Loop // r.state = .ready ∧ r.pending = none ∧ r = { state := .ready, pending := none, fn, tmps := a.tmps, params := ps, assign, body, defers := w.heap.size } } := ⟨_, rfl, rfl, rfl⟩
  obtain ⟨r, hr1, hr2, hre⟩ := R0
  have hrun := run_enterLoop_outer (P := P) (w := w) fn a.tmps ps assign body
  rw [← hre] at hrun
  generalize hW1 : (w.alloc (.deferred (some []))).alloc (.loop r) = W1 at hrun
  have hsz : W1.heap.size = w.heap.size + 2 := by rw [← hW1]; simp
  have gw : w.grownBy (w.alloc (.deferred (some []))) none := World.grownBy_alloc _ _ _
  have hl1 : W1.heap[w.heap.size + 1]? = some (.loop r) := by
    rw [← hW1]; simpa using World.alloc_heap_new (w.alloc (.deferred (some []))) (.loop r)
  have hd1 : W1.heap[w.heap.size]? = some (.deferred (some [])) := by
    rw [← hW1]; exact (Below.heap_alloc _ _ _ (by simp)).trans (World.alloc_heap_new _ _)
  have hi1 : I 0 W1 := by rw [← hW1]; exact hI.alloc _ (hI.alloc _ h0)
  have hB1 : Below w0.heap.size w0 W1 := by
    rw [← hW1]; exact hb0.trans (((Below.refl w.heap.size w).alloc (Nat.le_refl _) _).alloc (by simp) _ |>.mono hb0.size)
  refine ⟨_, _, W1, { target := .fn (.func gf) lb, args := #[.func (.yield (w.heap.size + 1)) #[] #[]] }, W1, gf, #[.func (.yield (w.heap.size + 1)) #[] #[]] ++ lb, W1, hrun, by simp only [resolve, hg]; simp [go_sem], fun f' hf' => ?_, by simp [invoke, go_sem, eg], fun _ => h1, ?_⟩
  · simp [Target.leads] at hf'; subst hf'; exact hFg
  refine (hseq (w.heap.size + 1) (fun k W => I k W ∧ W.heap[w.heap.size + 1]? = some (.loop r) ∧ W.heap[w.heap.size]? = some (.deferred (some []))) W1 hB1 (by have := hb0.size; omega) (by omega)
    (fun s A B row ⟨hi, hl, hd⟩ hg' hrow => ⟨hI s A B row hi hg' (fun q e => ⟨by have := (hrow q e).1; omega, (hrow q e).2⟩),
      (hg'.block _ (Array.getElem?_eq_some_iff.1 hl).1 (fun e => by have := (hrow _ e.symm).1; omega)).trans hl,
      (hg'.block _ (Array.getElem?_eq_some_iff.1 hd).1 (fun e => by have := (hrow _ e.symm).1; omega)).trans hd⟩) ?_ ⟨hi1, hl1, hd1⟩).mono ?_
  · rintro k x W hx ⟨hi, hl, hd⟩
    have hy := run_yield (P := P) (args := encs x) hl (by rw [hre]; exact hps x)
    have hy' := hy
    rw [hre] at hy'
    refine ⟨_, _, _, _, hy', roundIn_of_wpIn hfn (hassign _ k x W _ hi fun a' Wa hkf hkp hia hax => ?_)⟩
    have hla := hkf.same _ _ (by omega) hl rfl
    have hda := hkf.same _ _ (Nat.le_refl _) hd rfl
    have hlt := (Array.getElem?_eq_some_iff.1 hla).1
    refine ⟨_, run_beginRound hla hr1, ?_⟩
    have hlb : (Wa.putObj (w.heap.size + 1) (.loop { r with state := .busy })).heap[w.heap.size + 1]? = some (.loop { r with state := .busy }) := World.putObj_heap_same hlt
    have hdb : (Wa.putObj (w.heap.size + 1) (.loop { r with state := .busy })).heap[w.heap.size]? = some (.deferred (some [])) := (World.putObj_heap_other (by omega)).trans hda
    have hkb := hKb Wa _ (.loop { r with state := .busy }) hla rfl rfl
    refine wpIn_mono (hbody _ k x a' _ hx (hI.putObj _ hia (by omega) hla rfl) ((hAx x a').putObj (s := ()) _ hax (by omega) hla rfl)) ?_
    rintro e a3 W3 hp
    cases e with
    | normal =>
      obtain ⟨hk3, hkp3, hi3⟩ := hp
      have hl3 := hk3.same _ _ (by omega) hlb rfl
      have hd3 := hk3.same _ _ (Nat.le_refl _) hdb rfl
      have hend := run_endRound (P := P) none hl3
      have hr' : ({ { r with state := .busy } with state := if (none : Option Code).isNone then .ready else .done, pending := none } : Loop) = r := by
        rw [hre]; simp
      rw [hr'] at hend
      refine ⟨_, _, hend, rfl, ⟨hI.putObj _ hi3 (by omega) hl3 rfl, World.putObj_heap_same (Array.getElem?_eq_some_iff.1 hl3).1, (World.putObj_heap_other (by omega)).trans hd3⟩, ?_⟩
      exact hKt hkp (hKt hkb (hKt hkp3 (hKb _ _ _ hl3 rfl rfl)))
    | ret => exact hp.elim
    | exit id => exact hp.elim
    | goto t => exact hp.elim
    | panic c => exact hp.elim
    | outgrown => exact hp.elim
  · rintro e W2 ⟨⟨v, rfl⟩, hi, hl, hd⟩
    have hend := run_endLoop (P := P) hl (by rw [hr1]; simp)
    rw [hr2] at hend
    exact ⟨none, _, hend, hdone _ _ (Nat.le_refl _) (hI.putObj _ hi (by omega) hl rfl) ((World.putObj_heap_other (by omega)).trans hd)⟩

/-- The same, the temporaries behind the assignment named. -/
theorem wpIn_rangeFunc_allA {α : Type} {g : Operand} {ps : Array Tmp} {assign body : Code} {Q : Exit → Act → World → Prop} {a : Act} {w : World}
    (hro : F.round = none) (h1 : 1 ≤ n) {gf : Nat} {lb : Array Value} (hg : a.eval g = .func (.func gf) #[] lb) (hFg : F.fn gf) (eg : ∀ args w, (callFunc gf args).run P w = .ok (.enter gf args) w)
    {encs : α → Array Value} {Kp : Nat → World → World → Prop} {ys : List α} {w0 : World} (hseq : SeqAll F (n - 1) P gf lb encs Kp ys w0)
    (hKt : ∀ {A B C : World}, Kp (w.heap.size + 1) A B → Kp (w.heap.size + 1) B C → Kp (w.heap.size + 1) A C) (hKb : ∀ (W : World) (o o' : Obj), W.heap[w.heap.size + 1]? = some o → o.isCells = false → o.isWalk = false → Kp (w.heap.size + 1) W (W.putObj (w.heap.size + 1) o')) (hKr : ∀ W, Kp (w.heap.size + 1) W W) (hb0 : Below w0.heap.size w0 w) (hps : ∀ x, (encs x).size = ps.size)
    (I : Nat → World → Prop) (hI : OwnFrom w.heap.size I) (h0 : I 0 w) (a₁ : α → Act)
    (hassign : ∀ (l : Nat) (x : α) (W : World) (K : Act → World → Prop), K (a₁ x) W →
      assign.wpIn (F.inRound l) (n - 1 - 1) P (Exit.then K (fun _ _ _ => False)) { tmps := (ps.zip (encs x)).foldl (fun t (p, v) => t.setIfInBounds p v) a.tmps, defers := [] } W)
    (hbody : ∀ (l k : Nat) (x : α) (W : World), ys[k]? = some x → I k W → body.wpIn (F.inRound l) (n - 1 - 1) P (goesOn w.heap.size (Kp (w.heap.size + 1)) (I (k + 1)) W) (a₁ x) W)
    (hdone : ∀ (D : Nat) (W : World), w.heap.size ≤ D → I ys.length W → W.heap[D]? = some (.deferred (some [])) → Q .normal { a with defers := { target := .collected D, args := #[] } :: a.defers } W) :
    (Code.rangeFunc g ps assign body).wpIn F n P Q a w :=
  wpIn_rangeFunc_all hro h1 hg hFg eg hseq (fun h k => hKt h k) hKb hb0 hps I hI h0 (fun x a' _ => a' = a₁ x) (fun _ _ _ _ _ _ hs _ _ => hs)
    (fun l k x W K hi hK => hassign l x W K (hK _ _ (KeepsFrom.refl _ _) (hKr W) hi rfl)) (fun l k x a' W hx hi e => by subst e; exact hbody l k x W hx hi) hdone

/-- All but two blocks lie as they lay. -/
def AllBut (B l : Nat) (W W' : World) : Prop := W.heap.size ≤ W'.heap.size ∧ ∀ k, k < W.heap.size → k ≠ B → k ≠ l → W'.heap[k]? = W.heap[k]?
theorem AllBut.refl (B l : Nat) (W : World) : AllBut B l W W := ⟨Nat.le_refl _, fun _ _ _ _ => rfl⟩
theorem AllBut.t {B l : Nat} {X Y Z : World} (h : AllBut B l X Y) (k : AllBut B l Y Z) : AllBut B l X Z :=
  ⟨Nat.le_trans h.1 k.1, fun j hj h1 h2 => (k.2 j (Nat.lt_of_lt_of_le hj h.1) h1 h2).trans (h.2 j hj h1 h2)⟩
theorem AllBut.b (B l : Nat) (W : World) (o' : Obj) : AllBut B l W (W.putObj l o') := ⟨by simp, fun j _ _ h2 => World.putObj_heap_other h2⟩
theorem AllBut.of_below {B l : Nat} {W W' : World} (h : Below W.heap.size W W') : AllBut B l W W' := ⟨h.size, fun j hj _ _ => h.block j hj⟩
theorem AllBut.of_grown {B l : Nat} {W W' : World} (h : W.grownBy W' (some B)) : AllBut B l W W' := ⟨h.size, fun j hj h1 _ => h.block j hj (fun e => h1 (Option.some.inj e))⟩
theorem grown_of_below {W W' : World} (h : Below W.heap.size W W') : W.grownBy W' none := ⟨h.os, h.tape, h.output, h.size, fun j hj _ => h.block j hj⟩
theorem roundIn_any {l' m m' : Nat} {P : Program} {l : Nat} {f : FuncId} {tmps : Array Value} {assign body : Code} {w : World} {R : Ending → World → Prop} (h : RoundIn Fence.wide m P l f tmps assign body w R) : RoundIn (Fence.wide.inRound l') m' P l f tmps assign body w R :=
  ⟨h.1, fun c cs _ => h.2 c cs (room_wide _)⟩
end Go.Proofs.Ytafcngnophlhgaa
