/-
  wide.Bits tells how many bits a wide number has; wide.Small its lowest word.
-/
import Derived.Test.YtacpagfocmhfeaaWideDown
import Derived.Test.YtacpagfocmhfeaaWideMath
import Derived.Test.YtacpagfocmhfeaaShelf
namespace Go.Proofs.Ytacpagfocmhfeaa
open Go.RowKit Go.Shelf
attribute [local go_sem] Oper.semAt_some

theorem len64_any (x : Nat) (h : x < M) (w : World) : Calls Try.prog 30 #[.int .u64 (x : Int)] w fun e w' => e = .returned (.int .i64 (Lib.bitLen x : Nat)) ∧ w' = w := by
  have h' : (x : Int) ≤ 18446744073709551615 := by unfold M at h; omega
  refine (Try.bits_Len64 (x : Int) w (by omega) h').mono ?_
  rintro e w' ⟨rfl, rfl⟩
  exact ⟨by rw [Int.toNat_natCast], rfl⟩
theorem bitLen64 {x : Nat} (h : x < M) : Lib.bitLen x ≤ 64 := Lib.bitLen_le x 64 (by omega) (by unfold M at h; simpa using h)

/-- The first word that is not 0. -/
def fb (pre : List PW) : Option PW := pre.find? fun p => decide (p.1.2 ≠ 0)
theorem fb_hit {pre : List PW} {x : PW} (h : fb pre = none) (hx : x.1.2 ≠ 0) : fb (pre ++ [x]) = some x := by
  unfold fb at *; rw [List.find?_append, h]; simp [hx]
theorem fb_miss {pre : List PW} {x : PW} (h : fb pre = none) (hx : x.1.2 = 0) : fb (pre ++ [x]) = none := by
  unfold fb at *; rw [List.find?_append, h]; simp [hx]
theorem fb_prefix {pre ys : List PW} {p : PW} (h : fb pre = some p) (hp : pre <+: ys) : fb ys = some p := by
  obtain ⟨t, rfl⟩ := hp
  unfold fb at *; rw [List.find?_append, h]; rfl

/-- How many bits. -/
def wbits (a0 a1 a2 a3 : Nat) : Nat := if a3 ≠ 0 then 192 + Lib.bitLen a3 else if a2 ≠ 0 then 128 + Lib.bitLen a2 else if a1 ≠ 0 then 64 + Lib.bitLen a1 else if a0 ≠ 0 then Lib.bitLen a0 else 0
theorem fb_downs {a0 a1 a2 a3 : Nat} (ha : Ok4 a0 a1 a2 a3) : ((fb (downs ha)).map fun p => 64 * p.1.1 + Lib.bitLen p.1.2).getD 0 = wbits a0 a1 a2 a3 := by
  unfold wbits
  by_cases h3 : a3 = 0
  · by_cases h2 : a2 = 0
    · by_cases h1 : a1 = 0
      · by_cases h0 : a0 = 0
        · simp [fb, downs, pw, List.find?, h0, h1, h2, h3]
        · simp [fb, downs, pw, List.find?, h0, h1, h2, h3]
      · simp [fb, downs, pw, List.find?, h1, h2, h3]
    · simp [fb, downs, pw, List.find?, h2, h3]
  · simp [fb, downs, pw, h3]

set_option maxRecDepth 100000 in
set_option maxHeartbeats 4000000 in
theorem bits_in (n : Nat) (hn : 3 ≤ n) {a0 a1 a2 a3 : Nat} (ha : Ok4 a0 a1 a2 a3) (w : World) :
    CallsIn Fence.wide n Try.prog 15 #[wv a0 a1 a2 a3] w fun e W' => e = .returned (.int .i64 (wbits a0 a1 a2 a3 : Nat)) ∧ Below w.heap.size w W' := by
  have h1 : 1 ≤ n := by omega
  refine callsIn_of_wp_marks Try.func15 rfl trivial ?_ rfl
  simp only [Try.ntmps15, List.size_toArray, List.length_cons, List.length_nil, Nat.reduceAdd, Nat.reduceSub, Array.replicate_succ, Array.replicate_zero, List.push_toArray, List.append_toArray, List.nil_append, List.cons_append]
  gi_wp2_with (refine ⟨trivial, ?_⟩; gi_at_call 28; refine (down_in Fence.wide (n - 1) trivial rfl _ _ _ _ _).mono ?_; rintro e w' ⟨rfl, rfl⟩)
  generalize hW5 : World.alloc _ _ = W5
  have k2 : Blk W5 (w.heap.size + 1) 3 [.int .i64 0] := by rw [← hW5]; exact (Blk.new' (by simp)).alloc _
  have k5 : BlkW W5 (w.heap.size + 1 + 1) a0 a1 a2 a3 := by rw [← hW5]; exact Blk.new' (by simp)
  have hB0 : Below w.heap.size w W5 := by rw [← hW5]; exact chainA (chainA (chain0 _ _) _) _
  have hz : W5.heap.size = w.heap.size + 3 := by rw [← hW5]; simp
  clear hW5
  refine wpIn_rangeFunc_ownF (S := fun ys => ys = downs ha) rfl h1 (gf := 34) (lb := #[.pointer (some ⟨w.heap.size + 1 + 1, 0, none⟩)]) rfl trivial (enters_of Try.func34 (by kernel_rfl) rfl)
    (down1_stops Fence.wide (n - 1) trivial rfl (by omega) ha (w.heap.size + 1 + 1) W5 k5) KeepB.t (KeepB.b k5.lt) (Below.refl _ _) (fun _ => rfl)
    (fun pre W => (Blk W (w.heap.size + 1) 3 [.int .i64 0] ∧ fb pre = none) ∧ Below w.heap.size w W)
    (fun c pre W => (Blk W (w.heap.size + 1) 3 [.int .i64 (((fb pre).map fun p => 64 * p.1.1 + Lib.bitLen p.1.2).getD 0 : Nat)] ∧ c = .ret ∧ ∃ p, fb pre = some p) ∧ Below w.heap.size w W)
    (OwnFrom.and (Own.from (fun s A B row hs hg hr => ⟨blk_own _ _ (fun _ => _) s A B row hs.1 hg hr, hs.2⟩) _) (ownFrom_below (Nat.le_refl _) (by omega)))
    (fun c => OwnFrom.and (Own.from (fun s A B row hs hg hr => ⟨blk_own _ _ (fun pre => [.int .i64 (((fb pre).map fun p => 64 * p.1.1 + Lib.bitLen p.1.2).getD 0 : Nat)]) s A B row hs.1 hg hr, hs.2⟩) _) (ownFrom_below (Nat.le_refl _) (by omega)))
    ⟨⟨k2, rfl⟩, hB0⟩
    (fun x => { tmps := #[wv a0 a1 a2 a3, .pointer (some ⟨w.heap.size, 0, none⟩), .pointer (some ⟨w.heap.size + 1, 0, none⟩), .int .i64 (x.1.1 : Int), .int .u64 (x.1.2 : Int), wv a0 a1 a2 a3, .func (.func 34) #[] #[.pointer (some ⟨w.heap.size + 1 + 1, 0, none⟩)], .int .i64 (x.1.1 : Int), .int .u64 (x.1.2 : Int), undef, undef, undef, undef, undef, undef, undef], defers := [] }) ?assign ?body ?done ?stop
  case assign =>
    intro l x W K hK
    gi_wp2
    exact hK
  case body =>
    rintro l pre ⟨⟨i, x⟩, hi, hx⟩ W ⟨⟨k2, hf⟩, hB⟩ _
    dsimp only at hi hx
    have hd : 1 ≤ n - 1 - 1 := by omega
    have hl := bitLen64 hx
    have hf' := fun (e : x ≠ 0) => fb_hit (x := ⟨(i, x), hi, hx⟩) hf e
    have hg' := fun (e : x = 0) => fb_miss (x := ⟨(i, x), hi, hx⟩) hf e
    have HF := Lib.hid hf'
    have HG := Lib.hid hg'
    clear hf hf' hg'
    have c2 : W.cell? ⟨w.heap.size + 1, 0, none⟩ = some (.int .i64 0) := k2.cell 0
    have f2 := k2.frozen 0
    by_cases hx0 : x = 0
    · have hb : (((x : Nat) : Int) == 0) = true := by simp; omega
      have HX := Lib.hid hx0
      clear hx0
      gi_wp2
      exact ⟨KeepsOthers.refl _, KeepB.refl _ _, ⟨k2, HG.out HX.out⟩, hB⟩
    · have hb : (((x : Nat) : Int) == 0) = false := by simp; omega
      have HX := Lib.hid hx0
      clear hx0
      gi_wp2_with (refine ⟨trivial, ?_⟩; gi_at_call 30; refine (CallsIn.inRound l (callsIn_wide.2 (len64_any _ hx _))).mono ?_; rintro e w' ⟨rfl, rfl⟩)
      refine ⟨KeepsOthers.setCell _ _ _, ⟨?_, rfl, _, HF.out HX.out⟩, hB.setCell (p := ⟨w.heap.size + 1, 0, none⟩) (by simp) _⟩
      rw [HF.out HX.out]
      have kk := k2.set 0 (.int .i64 ((i : Int) * 64 + (Lib.bitLen x : Int)))
      rw [show (i : Int) * 64 + (Lib.bitLen x : Int) = ((64 * i + Lib.bitLen x : Nat) : Int) by omega] at kk ⊢
      exact kk
  case done =>
    rintro D ys W hD rfl ⟨⟨k2, hf⟩, hB⟩ hK
    have c2 : W.cell? ⟨w.heap.size + 1, 0, none⟩ = some (.int .i64 0) := k2.cell 0
    have f2 := k2.frozen 0
    have hbits := fb_downs ha
    rw [hf] at hbits
    have HB := Lib.hid hbits
    have HF := Lib.hid hf
    clear hbits hf
    gi_wp2
    have hK' := (KeepsOthers.setCell W ⟨w.heap.size + 1, 0, none⟩ (.int .i64 0)).same D _ hK rfl
    have k2' := (k2.set 0 (.int .i64 0)).kept (grownBy_putObj' _ D (.deferred none)) (by intro e; cases e; omega)
    have r0 := k2'.cell 0
    simp only [List.set_cons_zero, List.getElem?_cons_zero] at r0
    have hB' := (hB.setCell (p := ⟨w.heap.size + 1, 0, none⟩) (by simp) (.int .i64 0)).trans (belowK_b (w := w) (Nat.le_refl _) _ D _ (.deferred none) (by omega) hK' rfl rfl)
    refine ⟨by simp, .inl ⟨_, _, rfl, run_takeDeferred hK', ?_⟩⟩
    refine ⟨.int .i64 0, ?_, ?_⟩
    · simp [results, Try.f15, go_sem, r0]
    · exact ⟨by rw [← HB.out]; rfl, hB'⟩
  case stop =>
    rintro D c pre W hD hpre ⟨⟨k2, rfl, hp⟩, hB⟩ hK
    obtain ⟨p, hp⟩ := hp
    have hbits : ((fb pre).map fun p => 64 * p.1.1 + Lib.bitLen p.1.2).getD 0 = wbits a0 a1 a2 a3 := by rw [hp, ← fb_prefix hp hpre]; exact fb_downs ha
    rw [hbits] at k2
    clear hbits hp
    gi_wp2
    have k2' := k2.kept (grownBy_putObj' _ D (.deferred none)) (by intro e; cases e; omega)
    have r0 := k2'.cell 0
    simp only [List.getElem?_cons_zero] at r0
    have hB' := hB.trans (belowK_b (w := w) (Nat.le_refl _) _ D _ (.deferred none) (by omega) hK rfl rfl)
    refine ⟨by simp, .inl ⟨_, _, rfl, run_takeDeferred hK, ?_⟩⟩
    refine ⟨.int .i64 (wbits a0 a1 a2 a3 : Nat), ?_, ?_⟩
    · simp [results, Try.f15, go_sem, r0]
    · exact ⟨rfl, hB'⟩

theorem bits_any {a0 a1 a2 a3 : Nat} (ha : Ok4 a0 a1 a2 a3) (w : World) :
    Calls Try.prog 15 #[wv a0 a1 a2 a3] w fun e W' => e = .returned (.int .i64 (wbits a0 a1 a2 a3 : Nat)) ∧ Below w.heap.size w W' := callsIn_wide.1 (bits_in 3 (by omega) ha w)
end Go.Proofs.Ytacpagfocmhfeaa
