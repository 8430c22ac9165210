/-
  wide.Mul multiplies word by word, carrying what goes over.
-/
import Derived.Test.YtefbkchledfoiaaWideAdd
import Derived.Test.YtefbkchledfoiaaShelf
namespace Go.Proofs.Ytefbkchledfoiaa
open Go.RowKit Go.Shelf
attribute [local go_sem] Oper.semAt_some

def mh (x n : Nat) : Nat := x * n / M
def ml (x n : Nat) : Nat := x * n % M
def mLo (n x _y c : Nat) : Nat := addLo (ml x n) c 0
def mHi (n x _y c : Nat) : Nat := mh x n + addHi (ml x n) c 0
theorem mul_high {x n : Nat} (hx : x < M) (hn : n < M) : mh x n ≤ 18446744073709551614 := by
  unfold mh
  have h : x * n ≤ 18446744073709551615 * 18446744073709551615 := Nat.mul_le_mul (by unfold M at hx; omega) (by unfold M at hn; omega)
  have : x * n / M < 18446744073709551615 := Nat.div_lt_of_lt_mul (by rw [M_eq]; omega)
  omega
theorem mLoHi {n x y c : Nat} (hx : x < M) (hn : n < M) (hc : c < M) : mLo n x y c < M ∧ mHi n x y c < M ∧ mLo n x y c + M * mHi n x y c = x * n + c := by
  have hr : ml x n < M := Nat.mod_lt _ M_pos
  obtain ⟨h1, h2, h3⟩ := addLoHi (c := 0) hr hc (by omega)
  have h4 := mul_high hx hn
  have h5 : M * mh x n + ml x n = x * n := Nat.div_add_mod (x * n) M
  have hM := M_eq
  unfold mLo mHi
  refine ⟨h1, by omega, ?_⟩
  rw [Nat.mul_add]
  omega
def mulF (n : Nat) (pre : List PW) : (Nat → Nat) × Nat := foldG (mLo n) (mHi n) (word 0 0 0 0) pre
theorem mulF_snoc (n : Nat) (pre : List PW) (x : PW) : mulF n (pre ++ [x]) = stpG (mLo n) (mHi n) (word 0 0 0 0) (mulF n pre) x := foldG_snoc (mLo n) (mHi n) _ pre x
theorem mul_step {s x n c c' S X K : Nat} (h1 : s + M * c' = x * n + c) (h2 : S + K = X * n + c') : s + M * S + M * K = (x + M * X) * n + c := by
  have e : M * (S + K) = M * (X * n + c') := by rw [h2]
  rw [Nat.mul_add, Nat.mul_add] at e
  rw [Nat.add_mul, Nat.mul_assoc]
  omega
theorem mulF_prod {n a0 a1 a2 a3 : Nat} (hn : n < M) (ha : Ok4 a0 a1 a2 a3) :
    ∃ s0 s1 s2 s3 c, Ok4 s0 s1 s2 s3 ∧ c < M ∧ ws (mulF n (ups ha)).1 = [.int .u64 (s0 : Nat), .int .u64 (s1 : Nat), .int .u64 (s2 : Nat), .int .u64 (s3 : Nat)] ∧ (mulF n (ups ha)).2 = c ∧
      val s0 s1 s2 s3 + M4 * c = val a0 a1 a2 a3 * n := by
  obtain ⟨g0, e0, f0⟩ := mLoHi (y := 0) (c := 0) ha.h0 hn M_pos
  obtain ⟨g1, e1, f1⟩ := mLoHi (y := 0) ha.h1 hn e0
  obtain ⟨g2, e2, f2⟩ := mLoHi (y := 0) ha.h2 hn e1
  obtain ⟨g3, e3, f3⟩ := mLoHi (y := 0) ha.h3 hn e2
  refine ⟨_, _, _, _, _, ⟨g0, g1, g2, g3⟩, e3, (foldG_all (mLo n) (mHi n) ha).1, (foldG_all (mLo n) (mHi n) ha).2, ?_⟩
  have t3 := mul_step f2 f3
  have t2 := mul_step f1 t3
  have t1 := mul_step f0 t2
  rw [Nat.add_zero] at t1
  refine Eq.trans ?_ t1
  unfold val M4
  rw [Nat.mul_assoc, Nat.mul_assoc, Nat.mul_assoc]

theorem mul64_any (x n : Nat) (hx : x < M) (hn : n < M) (w : World) : Calls Try.prog 23 #[.int .u64 (x : Int), .int .u64 (n : Int)] w fun e w' => e = .returned (.tuple #[.int .u64 (mh x n : Nat), .int .u64 (ml x n : Nat)]) ∧ w' = w :=
  Try.bits_Mul64 x n hx hn w

set_option maxRecDepth 100000 in
set_option maxHeartbeats 2000000 in
theorem mul_in (n : Nat) (hn : 3 ≤ n) {a0 a1 a2 a3 m : Nat} (ha : Ok4 a0 a1 a2 a3) (hm : m < M) (w : World) :
    CallsIn Fence.wide n Try.prog 17 #[wv a0 a1 a2 a3, .int .u64 (m : Int)] w (AddW (val a0 a1 a2 a3 * m) w) := by
  have h1 : 1 ≤ n := by omega
  refine callsIn_of_wp_marks Try.func17 rfl trivial ?_ rfl
  simp only [Try.ntmps17, List.size_toArray, List.length_cons, List.length_nil, Nat.reduceAdd, Nat.reduceSub, Array.replicate_succ, Array.replicate_zero, List.push_toArray, List.append_toArray, List.nil_append, List.cons_append]
  gi_wp2_with (refine ⟨trivial, ?_⟩; gi_at_call 22; refine (up_in Fence.wide (n - 1) trivial rfl _ _ _ _ _).mono ?_; rintro e w' ⟨rfl, rfl⟩)
  generalize hW5 : World.alloc _ _ = W5
  have k1 : Blk W5 (w.heap.size + 1) 22 [.int .u64 (m : Int)] := by rw [← hW5]; exact ((((Blk.new' (by simp)).alloc _).alloc _).alloc _).alloc _
  have k2 : Blk W5 (w.heap.size + 1 + 1) 24 (ws (fun _ => 0)) := by rw [← hW5]; exact (((Blk.new' (by simp)).alloc _).alloc _).alloc _
  have k3 : Blk W5 (w.heap.size + 1 + 1 + 1) 24 (ws (fun _ => 0)) := by rw [← hW5]; exact ((Blk.new' (by simp)).alloc _).alloc _
  have k4 : Blk W5 (w.heap.size + 1 + 1 + 1 + 1) 22 [.int .u64 ((0 : Nat) : Int)] := by rw [← hW5]; exact (Blk.new' (by simp)).alloc _
  have k5 : Blk W5 (w.heap.size + 1 + 1 + 1 + 1 + 1) 24 (ws (word a0 a1 a2 a3)) := by rw [← hW5]; exact Blk.new' (by simp)
  have hB0 : Below w.heap.size w W5 := by rw [← hW5]; exact ((((((Below.refl _ w).alloc (Nat.le_refl _) _).alloc (by simp) _).alloc (by simp; omega) _).alloc (by simp; omega) _).alloc (by simp; omega) _).alloc (by simp; omega) _
  have hz : W5.heap.size = w.heap.size + 6 := by rw [← hW5]; simp
  clear hW5
  refine wpIn_rangeFunc_ownF (S := fun ys => ys = ups ha) rfl h1 (gf := 29) (lb := #[.pointer (some ⟨w.heap.size + 1 + 1 + 1 + 1 + 1, 0, none⟩)]) rfl trivial (enters_of Try.func29 (by kernel_rfl) rfl)
    (up1_stops Fence.wide (n - 1) trivial rfl (by omega) ha (w.heap.size + 1 + 1 + 1 + 1 + 1) W5 k5.lt (k5.cell 0) (k5.cell 1) (k5.cell 2) (k5.cell 3)) (fun _ _ => trivial) (fun _ _ _ _ _ _ _ _ => trivial) (Below.refl _ _) (fun _ => rfl)
    (fun pre W => ((Blk W (w.heap.size + 1) 22 [.int .u64 (m : Int)] ∧ Blk W (w.heap.size + 1 + 1) 24 (ws (fun _ => 0)) ∧ Blk W (w.heap.size + 1 + 1 + 1) 24 (ws (mulF m pre).1) ∧ Blk W (w.heap.size + 1 + 1 + 1 + 1) 22 [.int .u64 ((mulF m pre).2 : Nat)]) ∧ (mulF m pre).2 < M) ∧ Below w.heap.size w W)
    (fun _ _ _ => False)
    (OwnFrom.and (Own.from (fun s A B row hs hg hr => ⟨⟨blk_own _ _ (fun _ => _) s A B row hs.1.1 hg hr, blk_own _ _ (fun _ => _) s A B row hs.1.2.1 hg hr, blk_own _ _ (fun pre => ws (mulF m pre).1) s A B row hs.1.2.2.1 hg hr, blk_own _ _ (fun pre => [.int .u64 ((mulF m pre).2 : Nat)]) s A B row hs.1.2.2.2 hg hr⟩, hs.2⟩) _) (ownFrom_below (Nat.le_refl _) (by omega)))
    (fun _ _ _ _ _ hs _ _ => hs)
    ⟨⟨⟨k1, k2, k3, k4⟩, M_pos⟩, hB0⟩
    (fun x => { tmps := #[wv a0 a1 a2 a3, .int .u64 (m : Int), .pointer (some ⟨w.heap.size, 0, none⟩), .pointer (some ⟨w.heap.size + 1, 0, none⟩), .pointer (some ⟨w.heap.size + 1 + 1, 0, none⟩), .bool false, .pointer (some ⟨w.heap.size + 1 + 1 + 1, 0, none⟩), .pointer (some ⟨w.heap.size + 1 + 1 + 1 + 1, 0, none⟩), .int .i64 (x.1.1 : Int), .int .u64 (x.1.2 : Int), undef, undef, undef, wv a0 a1 a2 a3, .func (.func 29) #[] #[.pointer (some ⟨w.heap.size + 1 + 1 + 1 + 1 + 1, 0, none⟩)], .int .i64 (x.1.1 : Int), .int .u64 (x.1.2 : Int), undef, undef, undef, undef, undef, undef, undef, undef, undef, undef, undef, undef, undef, undef, undef, undef, undef, undef, undef, undef, undef], defers := [] }) ?assign ?body ?done ?stop
  case assign =>
    intro l x W K hK
    gi_wp2
    exact hK
  case body =>
    rintro l pre ⟨⟨i, x⟩, hi, hx⟩ W ⟨⟨⟨k1, k2, k3, k4⟩, hc⟩, hB⟩ _
    dsimp only at hi hx
    have hi' : (i : Int) < 4 := by omega
    have c1 : W.cell? ⟨w.heap.size + 1, 0, none⟩ = some (.int .u64 (m : Int)) := k1.cell 0
    have cs := k3.cell i
    rw [ws_at _ hi] at cs
    have fs := k3.frozen i
    have cc : W.cell? ⟨w.heap.size + 1 + 1 + 1 + 1, 0, none⟩ = some (.int .u64 ((mulF m pre).2 : Nat)) := k4.cell 0
    have fc := k4.frozen 0
    have hs := mulF_snoc m pre ⟨(i, x), hi, hx⟩
    have HS := Lib.hid hs
    clear hs
    obtain ⟨q1, q2, _⟩ := mLoHi (y := word 0 0 0 0 i) hx hm hc
    have qh := mul_high hx hm
    have qr : ml x m < M := Nat.mod_lt _ M_pos
    obtain ⟨_, q3, _⟩ := addLoHi (c := 0) qr hc (by omega)
    have hadd : ∀ (w : World), (callFunc 24 #[.int .u64 (ml x m : Nat), .int .u64 ((mulF m pre).2 : Nat), .int .u64 0]).run Try.prog w = .ok (.value (.tuple #[.int .u64 (addLo (ml x m) (mulF m pre).2 0 : Nat), .int .u64 (addHi (ml x m) (mulF m pre).2 0 : Nat)])) w := fun w => run_bitsAdd64 (ml x m) (mulF m pre).2 0 (by omega) w
    gi_wp2_with fail
    refine ⟨trivial, (fun _ => by omega), ?_⟩
    refine (CallsIn.inRound l (callsIn_wide.2 (mul64_any x m hx hm _))).mono ?_
    rintro e w' ⟨rfl, rfl⟩
    gi_wp2_with fail
    refine ⟨trivial, ?_⟩
    rename_i hcont
    refine hcont _ _ ?_
    clear hcont
    gi_wp2
    have hov : (mh x m : Int) + (addHi (ml x m) (mulF m pre).2 0 : Int) = ((mHi m x (word 0 0 0 0 i) (mulF m pre).2 : Nat) : Int) := by unfold mHi; omega
    refine ⟨(KeepsOthers.setCell _ _ _).trans (KeepsOthers.setCell _ _ _), trivial, ⟨⟨⟨?_, ?_, ?_, ?_⟩, ?_⟩, ?_⟩⟩
    · exact (k1.other i _ (by omega)).other 0 _ (by omega)
    · exact (k2.other i _ (by omega)).other 0 _ (by omega)
    · have := (k3.set i (.int .u64 (mLo m x (word 0 0 0 0 i) (mulF m pre).2 : Nat))).other (B' := w.heap.size + 1 + 1 + 1 + 1) 0 (.int .u64 ((mh x m : Int) + (addHi (ml x m) (mulF m pre).2 0 : Int))) (by omega)
      rw [ws_set _ hi] at this
      rw [HS.out]
      exact this
    · rw [HS.out]
      have := (k4.other (B' := w.heap.size + 1 + 1 + 1) i (.int .u64 (addLo (ml x m) (mulF m pre).2 0 : Nat)) (by omega)).set 0 (.int .u64 ((mh x m : Int) + (addHi (ml x m) (mulF m pre).2 0 : Int)))
      rw [hov] at this ⊢
      exact this
    · rw [HS.out]
      exact q2
    · exact (hB.setCell (p := ⟨w.heap.size + 1 + 1 + 1, i, none⟩) (by simp; omega) _).setCell (p := ⟨w.heap.size + 1 + 1 + 1 + 1, 0, none⟩) (by simp; omega) _
  case done =>
    rintro D ys W hD rfl ⟨⟨⟨k1, k2, k3, k4⟩, hc⟩, hB⟩ hK
    obtain ⟨s0, s1, s2, s3, c, hs, hcl, hw, hcc, hval⟩ := mulF_prod hm ha
    rw [hw] at k3
    rw [hcc] at k4
    have c30 : W.cell? ⟨w.heap.size + 1 + 1 + 1, 0, none⟩ = some (.int .u64 (s0 : Nat)) := k3.cell 0
    have c31 : W.cell? ⟨w.heap.size + 1 + 1 + 1, 1, none⟩ = some (.int .u64 (s1 : Nat)) := k3.cell 1
    have c32 : W.cell? ⟨w.heap.size + 1 + 1 + 1, 2, none⟩ = some (.int .u64 (s2 : Nat)) := k3.cell 2
    have c33 : W.cell? ⟨w.heap.size + 1 + 1 + 1, 3, none⟩ = some (.int .u64 (s3 : Nat)) := k3.cell 3
    have c20 : W.cell? ⟨w.heap.size + 1 + 1, 0, none⟩ = some (.int .u64 ((0 : Nat) : Int)) := k2.cell 0
    have c21 : W.cell? ⟨w.heap.size + 1 + 1, 1, none⟩ = some (.int .u64 ((0 : Nat) : Int)) := k2.cell 1
    have c22 : W.cell? ⟨w.heap.size + 1 + 1, 2, none⟩ = some (.int .u64 ((0 : Nat) : Int)) := k2.cell 2
    have c23 : W.cell? ⟨w.heap.size + 1 + 1, 3, none⟩ = some (.int .u64 ((0 : Nat) : Int)) := k2.cell 3
    have f20 := k2.frozen 0
    have f21 := k2.frozen 1
    have f22 := k2.frozen 2
    have f23 := k2.frozen 3
    have c40 : W.cell? ⟨w.heap.size + 1 + 1 + 1 + 1, 0, none⟩ = some (.int .u64 (c : Nat)) := k4.cell 0
    clear hcc hw
    by_cases hc0 : c = 0
    · obtain rfl : c = 0 := hc0
      have HV := Lib.hid hval
      clear hval
      gi_wp2
      have KO : KeepsOthers W ((((W.setCell ⟨w.heap.size + 1 + 1, 0, none⟩ (.int .u64 (s0 : Nat))).setCell ⟨w.heap.size + 1 + 1, 1, none⟩ (.int .u64 (s1 : Nat))).setCell ⟨w.heap.size + 1 + 1, 2, none⟩ (.int .u64 (s2 : Nat))).setCell ⟨w.heap.size + 1 + 1, 3, none⟩ (.int .u64 (s3 : Nat))) :=
        (((KeepsOthers.setCell _ _ _).trans (KeepsOthers.setCell _ _ _)).trans (KeepsOthers.setCell _ _ _)).trans (KeepsOthers.setCell _ _ _)
      have hK' := KO.same D _ hK rfl
      have k2' := ((((k2.set 0 (.int .u64 (s0 : Nat))).set 1 (.int .u64 (s1 : Nat))).set 2 (.int .u64 (s2 : Nat))).set 3 (.int .u64 (s3 : Nat))).kept (grownBy_putObj' _ D (.deferred none)) (by intro e; cases e; omega)
      have r0 := k2'.cell 0
      have r1 := k2'.cell 1
      have r2 := k2'.cell 2
      have r3 := k2'.cell 3
      simp only [ws, List.set_cons_zero, List.set_cons_succ, List.getElem?_cons_zero, List.getElem?_cons_succ] at r0 r1 r2 r3
      have hB' := ((((hB.setCell (p := ⟨w.heap.size + 1 + 1, 0, none⟩) (by simp; omega) (.int .u64 (s0 : Nat))).setCell (p := ⟨w.heap.size + 1 + 1, 1, none⟩) (by simp; omega) (.int .u64 (s1 : Nat))).setCell (p := ⟨w.heap.size + 1 + 1, 2, none⟩) (by simp; omega) (.int .u64 (s2 : Nat))).setCell (p := ⟨w.heap.size + 1 + 1, 3, none⟩) (by simp; omega) (.int .u64 (s3 : Nat))).trans (belowK_b (w := w) (Nat.le_refl _) _ D _ (.deferred none) (by omega) hK' rfl rfl)
      refine ⟨by simp, .inl ⟨_, _, rfl, run_takeDeferred hK', ?_⟩⟩
      refine ⟨.tuple #[wv s0 s1 s2 s3, .bool true], ?_, ?_⟩
      · simp [results, Try.f17, go_sem, r0, r1, r2, r3]
      · have e := HV.out; exact .inl ⟨by have := val_lt hs; omega, s0, s1, s2, s3, hs, by omega, rfl, hB'⟩
    · have hM4 : val s0 s1 s2 s3 + M4 * c = val a0 a1 a2 a3 * m → M4 ≤ val a0 a1 a2 a3 * m := by
        intro e
        have := Nat.mul_le_mul_left M4 (show 1 ≤ c by omega)
        omega
      have HV := Lib.hid (hM4 hval)
      clear hval hM4
      have hcb : ((c : Int) == 0) = false := beq_eq_false_iff_ne.mpr (by omega)
      gi_wp2
      have KO : KeepsOthers W ((((W.setCell ⟨w.heap.size + 1 + 1, 0, none⟩ (.int .u64 0)).setCell ⟨w.heap.size + 1 + 1, 1, none⟩ (.int .u64 0)).setCell ⟨w.heap.size + 1 + 1, 2, none⟩ (.int .u64 0)).setCell ⟨w.heap.size + 1 + 1, 3, none⟩ (.int .u64 0)) :=
        (((KeepsOthers.setCell _ _ _).trans (KeepsOthers.setCell _ _ _)).trans (KeepsOthers.setCell _ _ _)).trans (KeepsOthers.setCell _ _ _)
      have hK' := KO.same D _ hK rfl
      have k2' := ((((k2.set 0 (.int .u64 0)).set 1 (.int .u64 0)).set 2 (.int .u64 0)).set 3 (.int .u64 0)).kept (grownBy_putObj' _ D (.deferred none)) (by intro e; cases e; omega)
      have r0 := k2'.cell 0
      have r1 := k2'.cell 1
      have r2 := k2'.cell 2
      have r3 := k2'.cell 3
      simp only [ws, List.set_cons_zero, List.set_cons_succ, List.getElem?_cons_zero, List.getElem?_cons_succ] at r0 r1 r2 r3
      have hB' := ((((hB.setCell (p := ⟨w.heap.size + 1 + 1, 0, none⟩) (by simp; omega) (.int .u64 0)).setCell (p := ⟨w.heap.size + 1 + 1, 1, none⟩) (by simp; omega) (.int .u64 0)).setCell (p := ⟨w.heap.size + 1 + 1, 2, none⟩) (by simp; omega) (.int .u64 0)).setCell (p := ⟨w.heap.size + 1 + 1, 3, none⟩) (by simp; omega) (.int .u64 0)).trans (belowK_b (w := w) (Nat.le_refl _) _ D _ (.deferred none) (by omega) hK' rfl rfl)
      refine ⟨by simp, .inl ⟨_, _, rfl, run_takeDeferred hK', ?_⟩⟩
      refine ⟨.tuple #[wv 0 0 0 0, .bool false], ?_, ?_⟩
      · simp [results, Try.f17, go_sem, r0, r1, r2, r3]
      · exact .inr ⟨HV.out, rfl, hB'⟩
  case stop =>
    rintro D c pre W _ _ h _
    exact h.elim
end Go.Proofs.Ytefbkchledfoiaa
