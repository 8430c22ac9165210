/-
  wide.Div divides word by word, the highest first.
-/
import Derived.Test.YtefbkchledfoiaaBlkW
import Derived.Test.YtefbkchledfoiaaWideDown
import Derived.Test.YtefbkchledfoiaaWideUp
import Derived.Test.YtefbkchledfoiaaWideAdd
import Derived.Test.YtefbkchledfoiaaDivAny
namespace Go.Proofs.Ytefbkchledfoiaa
open Go.RowKit Go.Shelf
attribute [local go_sem] Oper.semAt_some

def dLo (n x _y c : Nat) : Nat := (c * M + x) / n
def dHi (n x _y c : Nat) : Nat := (c * M + x) % n
theorem dLoHi {n x y c : Nat} (hn : 0 < n) (hx : x < M) (hc : c < n) : dLo n x y c < M ∧ dHi n x y c < n ∧ dLo n x y c * n + dHi n x y c = c * M + x := by
  refine ⟨?_, Nat.mod_lt _ hn, ?_⟩
  · refine Nat.div_lt_of_lt_mul ?_
    have : (c + 1) * M ≤ n * M := Nat.mul_le_mul_right _ hc
    rw [Nat.add_mul, Nat.one_mul] at this
    omega
  · unfold dLo dHi; rw [Nat.mul_comm]; exact Nat.div_add_mod _ _
def divF (n : Nat) (pre : List PW) : (Nat → Nat) × Nat := foldG (dLo n) (dHi n) (word 0 0 0 0) pre
theorem divF_snoc (n : Nat) (pre : List PW) (x : PW) : divF n (pre ++ [x]) = stpG (dLo n) (dHi n) (word 0 0 0 0) (divF n pre) x := foldG_snoc (dLo n) (dHi n) _ pre x
theorem foldG_downs (lo hi : Nat → Nat → Nat → Nat) {a0 a1 a2 a3 b0 b1 b2 b3 : Nat} (ha : Ok4 a0 a1 a2 a3) :
    ws (foldG lo hi (word b0 b1 b2 b3) (downs ha)).1 = [.int .u64 (lo a0 b0 (hi a1 b1 (hi a2 b2 (hi a3 b3 0))) : Nat), .int .u64 (lo a1 b1 (hi a2 b2 (hi a3 b3 0)) : Nat), .int .u64 (lo a2 b2 (hi a3 b3 0) : Nat), .int .u64 (lo a3 b3 0 : Nat)] ∧
    (foldG lo hi (word b0 b1 b2 b3) (downs ha)).2 = hi a0 b0 (hi a1 b1 (hi a2 b2 (hi a3 b3 0))) := ⟨rfl, rfl⟩

theorem div_step {s x n c' c S X : Nat} (h1 : s * n + c' = c * M + x) (h2 : S * n + c = X) : (s + M * S) * n + c' = x + M * X := by
  have e : M * (S * n + c) = M * X := by rw [h2]
  rw [Nat.mul_add, Nat.mul_comm M c] at e
  rw [Nat.add_mul, Nat.mul_assoc]
  omega
theorem divF_quot {n a0 a1 a2 a3 : Nat} (hn : 0 < n) (ha : Ok4 a0 a1 a2 a3) :
    ∃ s0 s1 s2 s3 r, Ok4 s0 s1 s2 s3 ∧ r < n ∧ ws (divF n (downs ha)).1 = [.int .u64 (s0 : Nat), .int .u64 (s1 : Nat), .int .u64 (s2 : Nat), .int .u64 (s3 : Nat)] ∧ (divF n (downs ha)).2 = r ∧
      val s0 s1 s2 s3 * n + r = val a0 a1 a2 a3 := by
  obtain ⟨g3, e3, f3⟩ := dLoHi (y := 0) (c := 0) hn ha.h3 hn
  obtain ⟨g2, e2, f2⟩ := dLoHi (y := 0) hn ha.h2 e3
  obtain ⟨g1, e1, f1⟩ := dLoHi (y := 0) hn ha.h1 e2
  obtain ⟨g0, e0, f0⟩ := dLoHi (y := 0) hn ha.h0 e1
  refine ⟨_, _, _, _, _, ⟨g0, g1, g2, g3⟩, e0, (foldG_downs (dLo n) (dHi n) ha).1, (foldG_downs (dLo n) (dHi n) ha).2, ?_⟩
  rw [Nat.zero_mul, Nat.zero_add] at f3
  exact div_step f0 (div_step f1 (div_step f2 f3))

/-- How often n is in A, what is left, and true. -/
def DivW (A n : Nat) (w : World) (e : Ending) (W' : World) : Prop :=
  ∃ s0 s1 s2 s3 r, Ok4 s0 s1 s2 s3 ∧ r < n ∧ val s0 s1 s2 s3 * n + r = A ∧ e = .returned (.tuple #[wv s0 s1 s2 s3, .int .u64 (r : Int), .bool true]) ∧ Below w.heap.size w W'

set_option maxRecDepth 100000 in
set_option maxHeartbeats 2000000 in
theorem divZero_in (n : Nat) {a0 a1 a2 a3 : Nat} (w : World) :
    CallsIn Fence.wide n Try.prog 18 #[wv a0 a1 a2 a3, .int .u64 0] w fun e W' => e = .returned (.tuple #[wv 0 0 0 0, .int .u64 0, .bool false]) ∧ Below w.heap.size w W' := by
  refine callsIn_of_wp_marks Try.func18 rfl trivial ?_ rfl
  simp only [Try.ntmps18, List.size_toArray, List.length_cons, List.length_nil, Nat.reduceAdd, Nat.reduceSub, Array.replicate_succ, Array.replicate_zero, List.push_toArray, List.append_toArray, List.nil_append, List.cons_append]
  gi_wp2
  refine ⟨.tuple #[wv 0 0 0 0, .int .u64 0, .bool false], ?_, ?_⟩
  · simp [results, Try.f18, go_sem]
  · exact ⟨rfl, chainA (chainA (chain0 _ _) _) _⟩

set_option maxRecDepth 100000 in
set_option maxHeartbeats 2000000 in
theorem div_in (n : Nat) (hn : 3 ≤ n) {a0 a1 a2 a3 m : Nat} (ha : Ok4 a0 a1 a2 a3) (hm : m < M) (hp : 0 < m) (w : World) :
    CallsIn Fence.wide n Try.prog 18 #[wv a0 a1 a2 a3, .int .u64 (m : Int)] w (DivW (val a0 a1 a2 a3) m w) := by
  have h1 : 1 ≤ n := by omega
  have hm0 : ((m : Int) == 0) = false := beq_eq_false_iff_ne.mpr (by omega)
  refine callsIn_of_wp_marks Try.func18 rfl trivial ?_ rfl
  simp only [Try.ntmps18, List.size_toArray, List.length_cons, List.length_nil, Nat.reduceAdd, Nat.reduceSub, Array.replicate_succ, Array.replicate_zero, List.push_toArray, List.append_toArray, List.nil_append, List.cons_append]
  gi_wp2_with (refine ⟨trivial, ?_⟩; gi_at_call 25; refine (down_in Fence.wide (n - 1) trivial rfl _ _ _ _ _).mono ?_; rintro e w' ⟨rfl, rfl⟩)
  generalize hW5 : World.alloc _ _ = W5
  have k1 : Blk W5 (w.heap.size + 1) 22 [.int .u64 (m : Int)] := by rw [← hW5]; exact ((((Blk.new' (by simp)).alloc _).alloc _).alloc _).alloc _
  have k2 : Blk W5 (w.heap.size + 1 + 1) 24 (ws (fun _ => 0)) := by rw [← hW5]; exact (((Blk.new' (by simp)).alloc _).alloc _).alloc _
  have k3 : Blk W5 (w.heap.size + 1 + 1 + 1) 24 (ws (fun _ => 0)) := by rw [← hW5]; exact ((Blk.new' (by simp)).alloc _).alloc _
  have k4 : Blk W5 (w.heap.size + 1 + 1 + 1 + 1) 22 [.int .u64 ((0 : Nat) : Int)] := by rw [← hW5]; exact (Blk.new' (by simp)).alloc _
  have k5 : BlkW W5 (w.heap.size + 1 + 1 + 1 + 1 + 1) a0 a1 a2 a3 := by rw [← hW5]; exact Blk.new' (by simp)
  have hB0 : Below w.heap.size w W5 := by rw [← hW5]; exact chainA (chainA (chainA (chainA (chainA (chain0 _ _) _) _) _) _) _
  have hz : W5.heap.size = w.heap.size + 6 := by rw [← hW5]; simp
  clear hW5
  refine wpIn_rangeFunc_ownF (S := fun ys => ys = downs ha) rfl h1 (gf := 30) (lb := #[.pointer (some ⟨w.heap.size + 1 + 1 + 1 + 1 + 1, 0, none⟩)]) rfl trivial (enters_of Try.func30 (by kernel_rfl) rfl)
    (down1_stops Fence.wide (n - 1) trivial rfl (by omega) ha (w.heap.size + 1 + 1 + 1 + 1 + 1) W5 k5) KeepB.t (KeepB.b k5.lt) (Below.refl _ _) (fun _ => rfl)
    (fun pre W => ((Blk W (w.heap.size + 1) 22 [.int .u64 (m : Int)] ∧ Blk W (w.heap.size + 1 + 1) 24 (ws (fun _ => 0)) ∧ Blk W (w.heap.size + 1 + 1 + 1) 24 (ws (divF m pre).1) ∧ Blk W (w.heap.size + 1 + 1 + 1 + 1) 22 [.int .u64 ((divF m pre).2 : Nat)]) ∧ (divF m pre).2 < m) ∧ Below w.heap.size w W)
    (fun _ _ _ => False)
    (OwnFrom.and (Own.from (fun s A B row hs hg hr => ⟨⟨blk_own _ _ (fun _ => _) s A B row hs.1.1 hg hr, blk_own _ _ (fun _ => _) s A B row hs.1.2.1 hg hr, blk_own _ _ (fun pre => ws (divF m pre).1) s A B row hs.1.2.2.1 hg hr, blk_own _ _ (fun pre => [.int .u64 ((divF m pre).2 : Nat)]) s A B row hs.1.2.2.2 hg hr⟩, hs.2⟩) _) (ownFrom_below (Nat.le_refl _) (by omega)))
    (fun _ _ _ _ _ hs _ _ => hs)
    ⟨⟨⟨k1, k2, k3, k4⟩, hp⟩, hB0⟩
    (fun x => { tmps := #[wv a0 a1 a2 a3, .int .u64 (m : Int), .pointer (some ⟨w.heap.size, 0, none⟩), .pointer (some ⟨w.heap.size + 1, 0, none⟩), .pointer (some ⟨w.heap.size + 1 + 1, 0, none⟩), .int .u64 0, .bool false, .pointer (some ⟨w.heap.size + 1 + 1 + 1, 0, none⟩), .pointer (some ⟨w.heap.size + 1 + 1 + 1 + 1, 0, none⟩), .int .i64 (x.1.1 : Int), .int .u64 (x.1.2 : Int), .int .u64 (m : Int), .bool false, undef, wv a0 a1 a2 a3, .func (.func 30) #[] #[.pointer (some ⟨w.heap.size + 1 + 1 + 1 + 1 + 1, 0, none⟩)], .int .i64 (x.1.1 : Int), .int .u64 (x.1.2 : Int), undef, undef, undef, undef, undef, undef, undef, undef, undef, undef, undef], defers := [] }) ?assign ?body ?done ?stop
  case assign =>
    intro l x W K hK
    gi_wp2
    exact hK
  case body =>
    rintro l pre ⟨⟨i, x⟩, hi, hx⟩ W ⟨⟨⟨k1, k2, k3, k4⟩, hc⟩, hB⟩ _
    dsimp only at hi hx
    have hi' : (i : Int) < 4 := by omega
    have c1 : W.cell? ⟨w.heap.size + 1, 0, none⟩ = some (.int .u64 (m : Int)) := k1.cell 0
    have cs := k3.cell i
    rw [ws_at _ hi] at cs
    have fs := k3.frozen i
    have cc : W.cell? ⟨w.heap.size + 1 + 1 + 1 + 1, 0, none⟩ = some (.int .u64 ((divF m pre).2 : Nat)) := k4.cell 0
    have fc := k4.frozen 0
    have hs := divF_snoc m pre ⟨(i, x), hi, hx⟩
    have HS := Lib.hid hs
    clear hs
    obtain ⟨q1, q2, _⟩ := dLoHi (y := word 0 0 0 0 i) hp hx hc
    gi_wp2_with fail
    refine ⟨trivial, (fun _ => by omega), ?_⟩
    refine (CallsIn.inRound l (callsIn_wide.2 (div64_any _ x m hx hm hc _))).mono ?_
    rintro e w' ⟨rfl, nq, rfl⟩
    gi_wp2
    replace k1 : Blk (W.drewN nq) (w.heap.size + 1) 22 [.int .u64 (m : Int)] := k1
    replace k2 : Blk (W.drewN nq) (w.heap.size + 1 + 1) 24 (ws (fun _ => 0)) := k2
    replace k3 : Blk (W.drewN nq) (w.heap.size + 1 + 1 + 1) 24 (ws (divF m pre).1) := k3
    replace k4 : Blk (W.drewN nq) (w.heap.size + 1 + 1 + 1 + 1) 22 [.int .u64 ((divF m pre).2 : Nat)] := k4
    have hB' : Below w.heap.size w (W.drewN nq) := hB.trans ⟨rfl, rfl, rfl, Nat.le_refl _, fun _ _ => rfl⟩
    have hK0 : KeepsOthers W (W.drewN nq) := ⟨Nat.le_refl _, fun _ _ h _ => h⟩
    have e1 : ((divF m pre).2 : Int) * (M : Int) + (x : Int) = (((divF m pre).2 * M + x : Nat) : Int) := by rw [Int.natCast_add, Int.natCast_mul]
    rw [e1, ← Int.natCast_ediv, ← Int.natCast_emod]
    refine ⟨(hK0.trans (KeepsOthers.setCell _ _ _)).trans (KeepsOthers.setCell _ _ _), ?_, ⟨⟨⟨?_, ?_, ?_, ?_⟩, ?_⟩, ?_⟩⟩
    · exact ((KeepB.setCell (a := ⟨w.heap.size + 1 + 1 + 1, i, none⟩) _ (by simp; omega)).t (KeepB.setCell (a := ⟨w.heap.size + 1 + 1 + 1 + 1, 0, none⟩) _ (by simp)) : KeepB (w.heap.size + 1 + 1 + 1 + 1 + 1) (W.drewN nq) _)
    · exact (k1.other i _ (by omega)).other 0 _ (by omega)
    · exact (k2.other i _ (by omega)).other 0 _ (by omega)
    · have := (k3.set i (.int .u64 (dLo m x (word 0 0 0 0 i) (divF m pre).2 : Nat))).other (B' := w.heap.size + 1 + 1 + 1 + 1) 0 (.int .u64 (dHi m x (word 0 0 0 0 i) (divF m pre).2 : Nat)) (by omega)
      rw [ws_set _ hi] at this
      rw [HS.out]
      exact this
    · rw [HS.out]
      exact (k4.other (B' := w.heap.size + 1 + 1 + 1) i (.int .u64 (dLo m x (word 0 0 0 0 i) (divF m pre).2 : Nat)) (by omega)).set 0 (.int .u64 (dHi m x (word 0 0 0 0 i) (divF m pre).2 : Nat))
    · rw [HS.out]
      exact q2
    · exact (hB'.setCell (p := ⟨w.heap.size + 1 + 1 + 1, i, none⟩) (by simp; omega) _).setCell (p := ⟨w.heap.size + 1 + 1 + 1 + 1, 0, none⟩) (by simp; omega) _
  case done =>
    rintro D ys W hD rfl ⟨⟨⟨k1, k2, k3, k4⟩, hc⟩, hB⟩ hK
    obtain ⟨s0, s1, s2, s3, r, hs, hr, hw, hrr, hval⟩ := divF_quot hp ha
    rw [hw] at k3
    rw [hrr] at k4
    have c30 : W.cell? ⟨w.heap.size + 1 + 1 + 1, 0, none⟩ = some (.int .u64 (s0 : Nat)) := k3.cell 0
    have c31 : W.cell? ⟨w.heap.size + 1 + 1 + 1, 1, none⟩ = some (.int .u64 (s1 : Nat)) := k3.cell 1
    have c32 : W.cell? ⟨w.heap.size + 1 + 1 + 1, 2, none⟩ = some (.int .u64 (s2 : Nat)) := k3.cell 2
    have c33 : W.cell? ⟨w.heap.size + 1 + 1 + 1, 3, none⟩ = some (.int .u64 (s3 : Nat)) := k3.cell 3
    have c20 : W.cell? ⟨w.heap.size + 1 + 1, 0, none⟩ = some (.int .u64 ((0 : Nat) : Int)) := k2.cell 0
    have c21 : W.cell? ⟨w.heap.size + 1 + 1, 1, none⟩ = some (.int .u64 ((0 : Nat) : Int)) := k2.cell 1
    have c22 : W.cell? ⟨w.heap.size + 1 + 1, 2, none⟩ = some (.int .u64 ((0 : Nat) : Int)) := k2.cell 2
    have c23 : W.cell? ⟨w.heap.size + 1 + 1, 3, none⟩ = some (.int .u64 ((0 : Nat) : Int)) := k2.cell 3
    have f20 := k2.frozen 0
    have f21 := k2.frozen 1
    have f22 := k2.frozen 2
    have f23 := k2.frozen 3
    have c40 : W.cell? ⟨w.heap.size + 1 + 1 + 1 + 1, 0, none⟩ = some (.int .u64 (r : Nat)) := k4.cell 0
    have HV := Lib.hid hval
    clear hval hrr hw
    gi_wp2
    gi_region
    gi_wp2
    have KO : KeepsOthers W ((((W.setCell ⟨w.heap.size + 1 + 1, 0, none⟩ (.int .u64 (s0 : Nat))).setCell ⟨w.heap.size + 1 + 1, 1, none⟩ (.int .u64 (s1 : Nat))).setCell ⟨w.heap.size + 1 + 1, 2, none⟩ (.int .u64 (s2 : Nat))).setCell ⟨w.heap.size + 1 + 1, 3, none⟩ (.int .u64 (s3 : Nat))).drew :=
      ((((KeepsOthers.setCell _ _ _).trans (KeepsOthers.setCell _ _ _)).trans (KeepsOthers.setCell _ _ _)).trans (KeepsOthers.setCell _ _ _)).trans (KeepsOthers.drew _)
    have hK' := KO.same D _ hK rfl
    have k2' := (Blk.drew ((((k2.set 0 (.int .u64 (s0 : Nat))).set 1 (.int .u64 (s1 : Nat))).set 2 (.int .u64 (s2 : Nat))).set 3 (.int .u64 (s3 : Nat)))).kept (grownBy_putObj' _ D (.deferred none)) (by intro e; cases e; omega)
    have r0 := k2'.cell 0
    have r1 := k2'.cell 1
    have r2 := k2'.cell 2
    have r3 := k2'.cell 3
    simp only [ws, List.set_cons_zero, List.set_cons_succ, List.getElem?_cons_zero, List.getElem?_cons_succ] at r0 r1 r2 r3
    have hB' := (Below.drew ((((hB.setCell (p := ⟨w.heap.size + 1 + 1, 0, none⟩) (by simp; omega) (.int .u64 (s0 : Nat))).setCell (p := ⟨w.heap.size + 1 + 1, 1, none⟩) (by simp; omega) (.int .u64 (s1 : Nat))).setCell (p := ⟨w.heap.size + 1 + 1, 2, none⟩) (by simp; omega) (.int .u64 (s2 : Nat))).setCell (p := ⟨w.heap.size + 1 + 1, 3, none⟩) (by simp; omega) (.int .u64 (s3 : Nat)))).trans (belowK_b (w := w) (Nat.le_refl _) _ D _ (.deferred none) (by omega) hK' rfl rfl)
    refine ⟨by simp, .inl ⟨_, _, rfl, run_takeDeferred hK', ?_⟩⟩
    refine ⟨.tuple #[wv s0 s1 s2 s3, .int .u64 (r : Int), .bool true], ?_, ?_⟩
    · simp [results, Try.f18, go_sem, r0, r1, r2, r3]
    · exact ⟨s0, s1, s2, s3, r, hs, hr, HV.out, rfl, hB'⟩
  case stop =>
    rintro D c pre W _ _ h _
    exact h.elim

theorem div_any {a0 a1 a2 a3 m : Nat} (ha : Ok4 a0 a1 a2 a3) (hm : m < M) (hp : 0 < m) (w : World) :
    Calls Try.prog 18 #[wv a0 a1 a2 a3, .int .u64 (m : Int)] w (DivW (val a0 a1 a2 a3) m w) := callsIn_wide.1 (div_in 3 (by omega) ha hm hp w)
theorem divZero_any (a0 a1 a2 a3 : Nat) (w : World) :
    Calls Try.prog 18 #[wv a0 a1 a2 a3, .int .u64 0] w fun e W' => e = .returned (.tuple #[wv 0 0 0 0, .int .u64 0, .bool false]) ∧ Below w.heap.size w W' := callsIn_wide.1 (divZero_in 3 w)
end Go.Proofs.Ytefbkchledfoiaa
