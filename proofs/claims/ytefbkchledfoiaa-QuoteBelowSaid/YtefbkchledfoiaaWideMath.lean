/-
  Numbers of four words: what they come to; sums and differences word by word.
-/
import Derived.Test.YtefbkchledfoiaaWideUp
namespace Go.Proofs.Ytefbkchledfoiaa
open Go.RowKit

/-- One round: the word at its place, and what is carried. -/
def stpG (lo hi : Nat → Nat → Nat → Nat) (b : Nat → Nat) (s : (Nat → Nat) × Nat) (x : PW) : (Nat → Nat) × Nat := (upd s.1 x.1.1 (lo x.1.2 (b x.1.1) s.2), hi x.1.2 (b x.1.1) s.2)
def foldG (lo hi : Nat → Nat → Nat → Nat) (b : Nat → Nat) (pre : List PW) : (Nat → Nat) × Nat := pre.foldl (stpG lo hi b) (fun _ => 0, 0)
theorem foldG_snoc (lo hi : Nat → Nat → Nat → Nat) (b : Nat → Nat) (pre : List PW) (x : PW) : foldG lo hi b (pre ++ [x]) = stpG lo hi b (foldG lo hi b pre) x := by simp [foldG]
theorem foldG_all (lo hi : Nat → Nat → Nat → Nat) {a0 a1 a2 a3 b0 b1 b2 b3 : Nat} (ha : Ok4 a0 a1 a2 a3) :
    ws (foldG lo hi (word b0 b1 b2 b3) (ups ha)).1 = [.int .u64 (lo a0 b0 0 : Nat), .int .u64 (lo a1 b1 (hi a0 b0 0) : Nat), .int .u64 (lo a2 b2 (hi a1 b1 (hi a0 b0 0)) : Nat), .int .u64 (lo a3 b3 (hi a2 b2 (hi a1 b1 (hi a0 b0 0))) : Nat)] ∧
    (foldG lo hi (word b0 b1 b2 b3) (ups ha)).2 = hi a3 b3 (hi a2 b2 (hi a1 b1 (hi a0 b0 0))) := ⟨rfl, rfl⟩
def addF (b : Nat → Nat) (pre : List PW) : (Nat → Nat) × Nat := foldG addLo addHi b pre
def subF (b : Nat → Nat) (pre : List PW) : (Nat → Nat) × Nat := foldG subLo subHi b pre

theorem addF_snoc (b : Nat → Nat) (pre : List PW) (x : PW) : addF b (pre ++ [x]) = stpG addLo addHi b (addF b pre) x := foldG_snoc addLo addHi b pre x
theorem subF_snoc (b : Nat → Nat) (pre : List PW) (x : PW) : subF b (pre ++ [x]) = stpG subLo subHi b (subF b pre) x := foldG_snoc subLo subHi b pre x

theorem addLoHi {x y c : Nat} (hx : x < M) (hy : y < M) (hc : c ≤ 1) : addLo x y c < M ∧ addHi x y c ≤ 1 ∧ addLo x y c + M * addHi x y c = x + y + c := by
  unfold addLo addHi M at *; omega

theorem addF_sum {a0 a1 a2 a3 b0 b1 b2 b3 : Nat} (ha : Ok4 a0 a1 a2 a3) (hb : Ok4 b0 b1 b2 b3) :
    ∃ s0 s1 s2 s3 c, Ok4 s0 s1 s2 s3 ∧ c ≤ 1 ∧ ws (addF (word b0 b1 b2 b3) (ups ha)).1 = [.int .u64 (s0 : Nat), .int .u64 (s1 : Nat), .int .u64 (s2 : Nat), .int .u64 (s3 : Nat)] ∧ (addF (word b0 b1 b2 b3) (ups ha)).2 = c ∧
      val a0 a1 a2 a3 + val b0 b1 b2 b3 = val s0 s1 s2 s3 + M4 * c := by
  obtain ⟨g0, e0, f0⟩ := addLoHi (c := 0) ha.h0 hb.h0 (by omega)
  obtain ⟨g1, e1, f1⟩ := addLoHi ha.h1 hb.h1 e0
  obtain ⟨g2, e2, f2⟩ := addLoHi ha.h2 hb.h2 e1
  obtain ⟨g3, e3, f3⟩ := addLoHi ha.h3 hb.h3 e2
  refine ⟨_, _, _, _, _, ⟨g0, g1, g2, g3⟩, e3, (foldG_all addLo addHi ha).1, (foldG_all addLo addHi ha).2, ?_⟩
  generalize addLo a3 b3 _ = s3 at *
  generalize addHi a3 b3 _ = c3 at *
  generalize addLo a2 b2 _ = s2 at *
  generalize addHi a2 b2 _ = c2 at *
  generalize addLo a1 b1 _ = s1 at *
  generalize addHi a1 b1 _ = c1 at *
  generalize addLo a0 b0 _ = s0 at *
  generalize addHi a0 b0 _ = c0 at *
  unfold val M4 M at *
  omega

theorem subLoHi {x y c : Nat} (hx : x < M) (hy : y < M) (hc : c ≤ 1) : subLo x y c < M ∧ subHi x y c ≤ 1 ∧ subLo x y c + y + c = x + M * subHi x y c := by
  unfold subLo subHi M at *
  split <;> omega
theorem subHi_le (x y c : Nat) : subHi x y c ≤ 1 := by unfold subHi; split <;> omega

theorem borrow_step {s y c x c' S Y X K : Nat} (h1 : s + y + c = x + M * c') (h2 : S + Y + c' = X + K) : s + M * S + (y + M * Y) + c = x + M * X + M * K := by
  have e : M * (S + Y + c') = M * (X + K) := by rw [h2]
  rw [Nat.mul_add, Nat.mul_add, Nat.mul_add] at e
  omega

theorem subF_diff {a0 a1 a2 a3 b0 b1 b2 b3 : Nat} (ha : Ok4 a0 a1 a2 a3) (hb : Ok4 b0 b1 b2 b3) :
    ∃ s0 s1 s2 s3 c, Ok4 s0 s1 s2 s3 ∧ c ≤ 1 ∧ ws (subF (word b0 b1 b2 b3) (ups ha)).1 = [.int .u64 (s0 : Nat), .int .u64 (s1 : Nat), .int .u64 (s2 : Nat), .int .u64 (s3 : Nat)] ∧ (subF (word b0 b1 b2 b3) (ups ha)).2 = c ∧
      val s0 s1 s2 s3 + val b0 b1 b2 b3 = val a0 a1 a2 a3 + M4 * c := by
  obtain ⟨g0, e0, f0⟩ := subLoHi (c := 0) ha.h0 hb.h0 (by omega)
  obtain ⟨g1, e1, f1⟩ := subLoHi ha.h1 hb.h1 e0
  obtain ⟨g2, e2, f2⟩ := subLoHi ha.h2 hb.h2 e1
  obtain ⟨g3, e3, f3⟩ := subLoHi ha.h3 hb.h3 e2
  refine ⟨_, _, _, _, _, ⟨g0, g1, g2, g3⟩, e3, (foldG_all subLo subHi ha).1, (foldG_all subLo subHi ha).2, ?_⟩
  have t3 := borrow_step f2 f3
  have t2 := borrow_step f1 t3
  have t1 := borrow_step f0 t2
  rw [Nat.add_zero] at t1
  refine t1.trans ?_
  unfold val M4
  rw [Nat.mul_assoc, Nat.mul_assoc, Nat.mul_assoc]

end Go.Proofs.Ytefbkchledfoiaa
