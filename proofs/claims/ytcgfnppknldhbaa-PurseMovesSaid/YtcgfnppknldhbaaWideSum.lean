/-
  wide.Sum adds all.
-/
import Derived.Test.YtcgfnppknldhbaaBlkW
import Derived.Test.YtcgfnppknldhbaaWideValues
import Derived.Test.YtcgfnppknldhbaaWideCalls
namespace Go.Proofs.Ytcgfnppknldhbaa
open Go.RowKit Go.Shelf
attribute [local go_sem] Oper.semAt_some

theorem keeps_of_below {W W1 : World} (hb : Below W.heap.size W W1) : KeepsOthers W W1 := ⟨hb.size, fun k _ hk _ => (hb.block k (Array.getElem?_eq_some_iff.1 hk).1).trans hk⟩

/-- What numbers come to. -/
def sumV (l : List WW) : Nat := (l.map wwVal).sum
theorem sumV_snoc (l : List WW) (x : WW) : sumV (l ++ [x]) = sumV l + wwVal x := by simp [sumV]
theorem sumV_prefix {l m : List WW} (h : l <+: m) : sumV l ≤ sumV m := by
  obtain ⟨t, rfl⟩ := h
  simp [sumV]

def SumI (N : Nat) (w : World) (pre : List WW) (W : World) : Prop :=
  (BlkW W N 0 0 0 0 ∧ Blk W (N + 1) 4 [.bool false] ∧ ∃ s0 s1 s2 s3, Ok4 s0 s1 s2 s3 ∧ val s0 s1 s2 s3 = sumV pre ∧ BlkW W (N + 1 + 1) s0 s1 s2 s3) ∧ Below N w W
def SumX (N : Nat) (w : World) (c : Code) (pre : List WW) (W : World) : Prop :=
  (BlkW W N 0 0 0 0 ∧ Blk W (N + 1) 4 [.bool false] ∧ c = .ret ∧ M4 ≤ sumV pre) ∧ Below N w W
theorem sumI_own {N : Nat} {w : World} {B : Nat} (h : N ≤ w.heap.size) (hB : N ≤ B) : OwnFrom B (SumI N w) :=
  OwnFrom.and (Own.from (fun s X Y row hs hg hr => by
    obtain ⟨h0, h1, s0, s1, s2, s3, hs, hv, h2⟩ := hs
    exact ⟨blk_own _ _ (fun (_ : Unit) => _) () X Y row h0 hg hr, blk_own _ _ (fun (_ : Unit) => _) () X Y row h1 hg hr, s0, s1, s2, s3, hs, hv, blk_own _ _ (fun (_ : Unit) => _) () X Y row h2 hg hr⟩) _) (ownFrom_below h hB)
theorem sumX_own {N : Nat} {w : World} {B : Nat} (c : Code) (h : N ≤ w.heap.size) (hB : N ≤ B) : OwnFrom B (SumX N w c) :=
  OwnFrom.and (Own.from (fun s X Y row hs hg hr => by
    obtain ⟨h0, h1, h2⟩ := hs
    exact ⟨blk_own _ _ (fun (_ : Unit) => _) () X Y row h0 hg hr, blk_own _ _ (fun (_ : Unit) => _) () X Y row h1 hg hr, h2⟩) _) (ownFrom_below h hB)

set_option maxRecDepth 100000 in
set_option maxHeartbeats 4000000 in
theorem sum_in (n : Nat) (hn : 4 ≤ n) (a : Option Addr) (len cap : Nat) (zs : List WW) (hreach : zs.length * 32 ≤ 140737488351232) (w : World) (hsl : WSl w.heap.size w (.slice a len cap) zs) :
    CallsIn Fence.wide n Try.prog 24 #[.slice a len cap] w (AddW (sumV zs) w) := by
  have h1 : 1 ≤ n := by omega
  refine callsIn_of_wp_marks Try.func24 rfl trivial ?_ rfl
  simp only [Try.ntmps24, List.size_toArray, List.length_cons, List.length_nil, Nat.reduceAdd, Nat.reduceSub, Array.replicate_succ, Array.replicate_zero, List.push_toArray, List.append_toArray, List.nil_append, List.cons_append]
  gi_wp2_with (refine ⟨trivial, ?_⟩; gi_at_call 28; refine (values_in Fence.wide (n - 1) trivial rfl _ _ _ _).mono ?_; rintro e w' ⟨rfl, rfl⟩)
  generalize hW5 : World.alloc _ _ = W5
  have k0 : BlkW W5 w.heap.size 0 0 0 0 := by rw [← hW5]; exact (((Blk.new' (by simp)).alloc _).alloc _).alloc _
  have k1 : Blk W5 (w.heap.size + 1) 4 [.bool false] := by rw [← hW5]; exact ((Blk.new' (by simp)).alloc _).alloc _
  have k2 : BlkW W5 (w.heap.size + 1 + 1) 0 0 0 0 := by rw [← hW5]; exact (Blk.new' (by simp)).alloc _
  have k3 : Blk W5 (w.heap.size + 1 + 1 + 1) 50 [.slice a len cap] := by rw [← hW5]; exact Blk.new' (by simp)
  have hB0 : Below w.heap.size w W5 := by rw [← hW5]; exact chainA (chainA (chainA (chain0 _ _) _) _) _
  have hz : W5.heap.size = w.heap.size + 4 := by rw [← hW5]; simp
  clear hW5
  refine wpIn_rangeFunc_ownH (S := fun ys => ys = zs) rfl h1 (gf := 30) (lb := #[.pointer (some ⟨w.heap.size + 1 + 1 + 1, 0, none⟩)]) rfl trivial (enters_of Try.func30 (by kernel_rfl) rfl)
    (values_stops Fence.wide (n - 1) trivial rfl (by omega) (w.heap.size + 1 + 1 + 1) w.heap.size (.slice a len cap) zs hreach W5 k3.lt (by omega) (k3.cell 0) (hsl.below hB0 (Nat.le_refl _))) belowK_t (belowK_b (by omega)) (Below.refl _ _) (fun _ => rfl)
    (SumI w.heap.size w) (SumX w.heap.size w) (sumI_own (Nat.le_refl _) (by omega)) (fun c => sumX_own c (Nat.le_refl _) (by omega))
    ⟨⟨k0, k1, 0, 0, 0, 0, Ok4.one M_pos, val_one 0, k2⟩, hB0⟩
    (fun x a' W => ∃ Bx, w.heap.size + 1 + 1 < Bx ∧ BlkW W Bx x.1.1 x.1.2.1 x.1.2.2.1 x.1.2.2.2 ∧ a' = { tmps := #[.slice a len cap, undef, .pointer (some ⟨w.heap.size, 0, none⟩), .pointer (some ⟨w.heap.size + 1, 0, none⟩), .pointer (some ⟨w.heap.size + 1 + 1, 0, none⟩), .pointer (some ⟨Bx, 0, none⟩), undef, undef, .slice a len cap, .func (.func 30) #[] #[.pointer (some ⟨w.heap.size + 1 + 1 + 1, 0, none⟩)], wv x.1.1 x.1.2.1 x.1.2.2.1 x.1.2.2.2, undef, undef, undef, undef, undef, undef, undef, undef, undef, undef, undef], defers := [] })
    (fun x a' => Own.from (fun s X Y row hs hg hr => by
      obtain ⟨Bx, h0, h1, h2⟩ := hs
      exact ⟨Bx, h0, blk_own _ _ (fun (_ : Unit) => _) () X Y row h1 hg hr, h2⟩) _) ?assign ?body ?done ?stop
  case assign =>
    rintro l pre x W K ⟨⟨h0, h1, s0, s1, s2, s3, hs, hv, h2⟩, hB⟩ hK
    have HV := Lib.hid hv
    clear hv
    have l2 := h2.lt
    gi_wp2
    exact hK _ _ ((KeepsOthers.alloc _ _).from _) ((Below.refl _ W).alloc hB.size _) ⟨⟨h0.alloc _, h1.alloc _, s0, s1, s2, s3, hs, HV.out, h2.alloc _⟩, hB.alloc hB.size _⟩ ⟨W.heap.size, l2, Blk.new' rfl, rfl⟩
  case body =>
    rintro l pre x a' W hl hr ⟨⟨h0, h1, s0, s1, s2, s3, hs, hv, h2⟩, hB⟩ ⟨Bx, hBx, kx, rfl⟩ hlt
    have HV := Lib.hid hv
    clear hv hr
    obtain ⟨x0, x1, x2, x3⟩ := h2.c4
    obtain ⟨y0, y1, y2, y3⟩ := kx.c4
    gi_wp2_with fail
    refine ⟨trivial, (fun _ => by omega), ?_⟩
    refine (CallsIn.inRound l (callsIn_wide.2 (add_any hs x.2 _))).mono ?_
    clear x0 x1 x2 x3 y0 y1 y2 y3
    rintro e W1 (⟨hlt4, t0, t1, t2, t3, ht, hv, rfl, hb1⟩ | ⟨hge, rfl, hb1⟩)
    · have g0 := h0.below hb1 h0.lt
      have g1 := h1.below hb1 h1.lt
      have g2 := h2.below hb1 h2.lt
      have lN := g2.lt
      have HW := Lib.hid hv
      clear hv
      have hBW : Below w.heap.size W W1 := hb1.mono hB.size
      have ko := keeps_of_below hb1
      clear hb1
      obtain ⟨x0, x1, x2, x3⟩ := g2.c4
      have f0 := g2.frozen 0
      have f1 := g2.frozen 1
      have f2 := g2.frozen 2
      have f3 := g2.frozen 3
      gi_wp2
      have kk := ((((g2.set 0 (.int .u64 (t0 : Int))).set 1 (.int .u64 (t1 : Int))).set 2 (.int .u64 (t2 : Int))).set 3 (.int .u64 (t3 : Int))).alloc (.cells #[.int .u64 (t0 : Int), .int .u64 (t1 : Int), .int .u64 (t2 : Int), .int .u64 (t3 : Int)] 24)
      have q0 := ((((g0.other (B' := w.heap.size + 1 + 1) 0 (.int .u64 (t0 : Int)) (by omega)).other (B' := w.heap.size + 1 + 1) 1 (.int .u64 (t1 : Int)) (by omega)).other (B' := w.heap.size + 1 + 1) 2 (.int .u64 (t2 : Int)) (by omega)).other (B' := w.heap.size + 1 + 1) 3 (.int .u64 (t3 : Int)) (by omega)).alloc (.cells #[.int .u64 (t0 : Int), .int .u64 (t1 : Int), .int .u64 (t2 : Int), .int .u64 (t3 : Int)] 24)
      have q1 := ((((g1.other (B' := w.heap.size + 1 + 1) 0 (.int .u64 (t0 : Int)) (by omega)).other (B' := w.heap.size + 1 + 1) 1 (.int .u64 (t1 : Int)) (by omega)).other (B' := w.heap.size + 1 + 1) 2 (.int .u64 (t2 : Int)) (by omega)).other (B' := w.heap.size + 1 + 1) 3 (.int .u64 (t3 : Int)) (by omega)).alloc (.cells #[.int .u64 (t0 : Int), .int .u64 (t1 : Int), .int .u64 (t2 : Int), .int .u64 (t3 : Int)] 24)
      have qb := ((((hBW.setCell (p := ⟨w.heap.size + 1 + 1, 0, none⟩) (by simp; omega) (.int .u64 (t0 : Int))).setCell (p := ⟨w.heap.size + 1 + 1, 1, none⟩) (by simp; omega) (.int .u64 (t1 : Int))).setCell (p := ⟨w.heap.size + 1 + 1, 2, none⟩) (by simp; omega) (.int .u64 (t2 : Int))).setCell (p := ⟨w.heap.size + 1 + 1, 3, none⟩) (by simp; omega) (.int .u64 (t3 : Int))).alloc (by simp; omega) (.cells #[.int .u64 (t0 : Int), .int .u64 (t1 : Int), .int .u64 (t2 : Int), .int .u64 (t3 : Int)] 24)
      have qk := ((((ko.trans (KeepsOthers.setCell _ ⟨w.heap.size + 1 + 1, 0, none⟩ (.int .u64 (t0 : Int)))).trans (KeepsOthers.setCell _ ⟨w.heap.size + 1 + 1, 1, none⟩ (.int .u64 (t1 : Int)))).trans (KeepsOthers.setCell _ ⟨w.heap.size + 1 + 1, 2, none⟩ (.int .u64 (t2 : Int)))).trans (KeepsOthers.setCell _ ⟨w.heap.size + 1 + 1, 3, none⟩ (.int .u64 (t3 : Int)))).trans (KeepsOthers.alloc _ (.cells #[.int .u64 (t0 : Int), .int .u64 (t1 : Int), .int .u64 (t2 : Int), .int .u64 (t3 : Int)] 24))
      exact ⟨qk.from _, qb, ⟨q0, q1, t0, t1, t2, t3, ht, by rw [HW.out, HV.out, sumV_snoc]; rfl, kk⟩, hB.trans qb⟩
    · have g0 := h0.below hb1 h0.lt
      have g1 := h1.below hb1 h1.lt
      have l0 := g0.lt
      have l1 := g1.lt
      have HW := Lib.hid hge
      clear hge
      have hBW : Below w.heap.size W W1 := hb1.mono hB.size
      have ko := keeps_of_below hb1
      clear hb1
      obtain ⟨x0, x1, x2, x3⟩ := g0.c4
      have f0 := g0.frozen 0
      have f1 := g0.frozen 1
      have f2 := g0.frozen 2
      have f3 := g0.frozen 3
      have y0 : W1.cell? ⟨w.heap.size + 1, 0, none⟩ = some (.bool false) := g1.cell 0
      have z0 := g1.frozen 0
      gi_wp2
      have kk := (((((g0.set 0 (.int .u64 0)).set 1 (.int .u64 0)).set 2 (.int .u64 0)).set 3 (.int .u64 0)).other (B' := w.heap.size + 1) 0 (.bool false) (by omega)).alloc (.cells #[.int .u64 0, .int .u64 0, .int .u64 0, .int .u64 0] 24)
      have q1 := (((((g1.other (B' := w.heap.size) 0 (.int .u64 0) (by omega)).other (B' := w.heap.size) 1 (.int .u64 0) (by omega)).other (B' := w.heap.size) 2 (.int .u64 0) (by omega)).other (B' := w.heap.size) 3 (.int .u64 0) (by omega)).set 0 (.bool false)).alloc (.cells #[.int .u64 0, .int .u64 0, .int .u64 0, .int .u64 0] 24)
      have qb := (((((hBW.setCell (p := ⟨w.heap.size, 0, none⟩) (Nat.le_refl _) (.int .u64 0)).setCell (p := ⟨w.heap.size, 1, none⟩) (Nat.le_refl _) (.int .u64 0)).setCell (p := ⟨w.heap.size, 2, none⟩) (Nat.le_refl _) (.int .u64 0)).setCell (p := ⟨w.heap.size, 3, none⟩) (Nat.le_refl _) (.int .u64 0)).setCell (p := ⟨w.heap.size + 1, 0, none⟩) (by simp) (.bool false)).alloc (by simp; omega) (.cells #[.int .u64 0, .int .u64 0, .int .u64 0, .int .u64 0] 24)
      have qk := (((((ko.trans (KeepsOthers.setCell _ ⟨w.heap.size, 0, none⟩ (.int .u64 0))).trans (KeepsOthers.setCell _ ⟨w.heap.size, 1, none⟩ (.int .u64 0))).trans (KeepsOthers.setCell _ ⟨w.heap.size, 2, none⟩ (.int .u64 0))).trans (KeepsOthers.setCell _ ⟨w.heap.size, 3, none⟩ (.int .u64 0))).trans (KeepsOthers.setCell _ ⟨w.heap.size + 1, 0, none⟩ (.bool false))).trans (KeepsOthers.alloc _ (.cells #[.int .u64 0, .int .u64 0, .int .u64 0, .int .u64 0] 24))
      have hge : M4 ≤ sumV (pre ++ [x]) := by have e := HW.out; rw [HV.out] at e; rw [sumV_snoc]; exact e
      exact ⟨qk.from _, ⟨kk, q1, rfl, hge⟩, hB.trans qb⟩
  case done =>
    rintro D ys W hD rfl ⟨⟨h0, h1, s0, s1, s2, s3, hs, hv, h2⟩, hB⟩ hK
    obtain ⟨x0, x1, x2, x3⟩ := h2.c4
    obtain ⟨y0, y1, y2, y3⟩ := h0.c4
    have f0 := h0.frozen 0
    have f1 := h0.frozen 1
    have f2 := h0.frozen 2
    have f3 := h0.frozen 3
    have z0 : W.cell? ⟨w.heap.size + 1, 0, none⟩ = some (.bool false) := h1.cell 0
    have fz := h1.frozen 0
    have HV := Lib.hid hv
    clear hv
    have HZ := Lib.hid hz
    have hDz : w.heap.size + 1 < D := by omega
    have hDz0 : w.heap.size < D := by omega
    clear hz
    gi_wp2
    have KO := ((((KeepsOthers.setCell W ⟨w.heap.size, 0, none⟩ (.int .u64 (s0 : Int))).trans (KeepsOthers.setCell _ ⟨w.heap.size, 1, none⟩ (.int .u64 (s1 : Int)))).trans (KeepsOthers.setCell _ ⟨w.heap.size, 2, none⟩ (.int .u64 (s2 : Int)))).trans (KeepsOthers.setCell _ ⟨w.heap.size, 3, none⟩ (.int .u64 (s3 : Int)))).trans (KeepsOthers.setCell _ ⟨w.heap.size + 1, 0, none⟩ (.bool true))
    have hK' := KO.same D _ hK rfl
    have k0' := (((((h0.set 0 (.int .u64 (s0 : Int))).set 1 (.int .u64 (s1 : Int))).set 2 (.int .u64 (s2 : Int))).set 3 (.int .u64 (s3 : Int))).other (B' := w.heap.size + 1) 0 (.bool true) (by omega)).kept (grownBy_putObj' _ D (.deferred none)) (by intro e; cases e; omega)
    have k1' := (((((h1.other (B' := w.heap.size) 0 (.int .u64 (s0 : Int)) (by omega)).other (B' := w.heap.size) 1 (.int .u64 (s1 : Int)) (by omega)).other (B' := w.heap.size) 2 (.int .u64 (s2 : Int)) (by omega)).other (B' := w.heap.size) 3 (.int .u64 (s3 : Int)) (by omega)).set 0 (.bool true)).kept (grownBy_putObj' _ D (.deferred none)) (by intro e; cases e; omega)
    have r0 := k0'.cell 0
    have r1 := k0'.cell 1
    have r2 := k0'.cell 2
    have r3 := k0'.cell 3
    have r4 := k1'.cell 0
    simp only [List.set_cons_zero, List.set_cons_succ, List.getElem?_cons_zero, List.getElem?_cons_succ] at r0 r1 r2 r3 r4
    have hB' := (((((hB.setCell (p := ⟨w.heap.size, 0, none⟩) (Nat.le_refl _) (.int .u64 (s0 : Int))).setCell (p := ⟨w.heap.size, 1, none⟩) (Nat.le_refl _) (.int .u64 (s1 : Int))).setCell (p := ⟨w.heap.size, 2, none⟩) (Nat.le_refl _) (.int .u64 (s2 : Int))).setCell (p := ⟨w.heap.size, 3, none⟩) (Nat.le_refl _) (.int .u64 (s3 : Int))).setCell (p := ⟨w.heap.size + 1, 0, none⟩) (by simp) (.bool true)).trans (belowK_b (w := w) (Nat.le_refl _) _ D _ (.deferred none) (by omega) hK' rfl rfl)
    refine ⟨by simp, .inl ⟨_, _, rfl, run_takeDeferred hK', ?_⟩⟩
    refine ⟨.tuple #[wv s0 s1 s2 s3, .bool true], ?_, ?_⟩
    · simp [results, Try.f24, go_sem, r0, r1, r2, r3, r4]
    · exact .inl ⟨by rw [← HV.out]; exact val_lt hs, s0, s1, s2, s3, hs, HV.out, rfl, hB'⟩
  case stop =>
    rintro D c pre W hD hpre ⟨⟨h0, h1, rfl, hge⟩, hB⟩ hK
    have hle := sumV_prefix hpre
    have HG := Lib.hid hge
    clear hge
    gi_wp2
    have k0' := h0.kept (grownBy_putObj' _ D (.deferred none)) (by intro e; cases e; omega)
    have k1' := h1.kept (grownBy_putObj' _ D (.deferred none)) (by intro e; cases e; omega)
    obtain ⟨r0, r1, r2, r3⟩ := k0'.c4
    have r4 := k1'.cell 0
    simp only [List.getElem?_cons_zero] at r4
    have hB' := hB.trans (belowK_b (w := w) (Nat.le_refl _) _ D _ (.deferred none) (by omega) hK rfl rfl)
    refine ⟨by simp, .inl ⟨_, _, rfl, run_takeDeferred hK, ?_⟩⟩
    refine ⟨.tuple #[wv 0 0 0 0, .bool false], ?_, ?_⟩
    · simp [results, Try.f24, go_sem, r0, r1, r2, r3, r4]
    · exact .inr ⟨by have := HG.out; omega, rfl, hB'⟩

theorem sum_any (a : Option Addr) (len cap : Nat) (zs : List WW) (hreach : zs.length * 32 ≤ 140737488351232) (w : World) (hsl : WSl w.heap.size w (.slice a len cap) zs) :
    Calls Try.prog 24 #[.slice a len cap] w (AddW (sumV zs) w) := callsIn_wide.1 (sum_in 4 (by omega) a len cap zs hreach w hsl)

end Go.Proofs.Ytcgfnppknldhbaa
