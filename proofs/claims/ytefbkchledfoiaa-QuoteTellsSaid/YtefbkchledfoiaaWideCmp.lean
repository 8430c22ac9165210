/-
  wide.Cmp tells which of two wide numbers is greater.
-/
import Derived.Test.YtefbkchledfoiaaBlkW
import Derived.Test.YtefbkchledfoiaaWideDown
import Derived.Test.YtefbkchledfoiaaRefMath
namespace Go.Proofs.Ytefbkchledfoiaa
open Go.RowKit Go.Shelf
attribute [local go_sem] Oper.semAt_some

set_option maxHeartbeats 1000000 in
theorem compare_any (x y : Nat) (w : World) : Calls Try.prog 28 #[.int .u64 (x : Int), .int .u64 (y : Int)] w fun e w' => e = .returned (.int .i64 (cmpN x y)) ∧ w' = w := by
  have hxx : ((x : Int) == (x : Int)) = true := by simp
  have hyy : ((y : Int) == (y : Int)) = true := by simp
  rcases Nat.lt_trichotomy x y with h | h | h
  · have h1 : (x : Int) < (y : Int) := by omega
    have HC : Hid (cmpN x y = -1) := Lib.hid (by unfold cmpN; rw [if_pos h])
    go_enter Try.func28, Try.ntmps28
    go_wp2
    go_ret
    exact ⟨by rw [HC.out]; rfl, rfl⟩
  · have h1 : ¬ (x : Int) < (y : Int) := by omega
    have h2 : ¬ (y : Int) < (x : Int) := by omega
    have HC : Hid (cmpN x y = 0) := Lib.hid (by unfold cmpN; rw [if_neg (by omega), if_neg (by omega)])
    clear h
    go_enter Try.func28, Try.ntmps28
    go_wp2
    go_ret
    exact ⟨by rw [HC.out]; rfl, rfl⟩
  · have h1 : ¬ (x : Int) < (y : Int) := by omega
    have h2 : (y : Int) < (x : Int) := by omega
    have HC : Hid (cmpN x y = 1) := Lib.hid (by unfold cmpN; rw [if_neg (by omega), if_pos h])
    go_enter Try.func28, Try.ntmps28
    go_wp2
    go_ret
    exact ⟨by rw [HC.out]; rfl, rfl⟩

/-- The first word that differs. -/
def fd (b : Nat → Nat) (pre : List PW) : Option PW := pre.find? fun p => decide (p.1.2 ≠ b p.1.1)
theorem fd_hit {b : Nat → Nat} {pre : List PW} {x : PW} (h : fd b pre = none) (hx : x.1.2 ≠ b x.1.1) : fd b (pre ++ [x]) = some x := by
  unfold fd at *; rw [List.find?_append, h]; simp [hx]
theorem fd_miss {b : Nat → Nat} {pre : List PW} {x : PW} (h : fd b pre = none) (hx : x.1.2 = b x.1.1) : fd b (pre ++ [x]) = none := by
  unfold fd at *; rw [List.find?_append, h]; simp [hx]
theorem fd_prefix {b : Nat → Nat} {pre ys : List PW} {p : PW} (h : fd b pre = some p) (hp : pre <+: ys) : fd b ys = some p := by
  obtain ⟨t, rfl⟩ := hp
  unfold fd at *; rw [List.find?_append, h]; rfl

theorem cmp_words {a0 a1 a2 a3 b0 b1 b2 b3 : Nat} (ha : Ok4 a0 a1 a2 a3) (hb : Ok4 b0 b1 b2 b3) :
    cmpN (val a0 a1 a2 a3) (val b0 b1 b2 b3) = if a3 ≠ b3 then cmpN a3 b3 else if a2 ≠ b2 then cmpN a2 b2 else if a1 ≠ b1 then cmpN a1 b1 else if a0 ≠ b0 then cmpN a0 b0 else 0 := by
  obtain ⟨h0, h1, h2, h3⟩ := ha
  obtain ⟨k0, k1, k2, k3⟩ := hb
  have less : ∀ {x y X Y : Nat}, x < M → y < M → X < Y → x + M * X < y + M * Y := fun {x y X Y} hx hy h => by
    have : M * (X + 1) ≤ M * Y := Nat.mul_le_mul_left _ h
    rw [Nat.mul_add] at this
    omega
  have step : ∀ {x y X Y : Nat}, x < M → y < M → cmpN (x + M * X) (y + M * Y) = if X ≠ Y then cmpN X Y else cmpN x y := fun {x y X Y} hx hy => by
    unfold cmpN
    rcases Nat.lt_trichotomy X Y with h | h | h
    · rw [if_pos (less hx hy h), if_pos (by omega), if_pos h]
    · subst h
      rw [if_neg (by omega : ¬ X ≠ X)]
      simp only [Nat.add_lt_add_iff_right]
    · have := less hy hx h
      rw [if_neg (by omega), if_pos this, if_pos (by omega), if_neg (by omega), if_pos h]
  unfold val
  rw [step h0 k0, step h1 k1, step h2 k2]
  by_cases e3 : a3 = b3
  · subst e3
    by_cases e2 : a2 = b2
    · subst e2
      by_cases e1 : a1 = b1
      · subst e1
        by_cases e0 : a0 = b0
        · subst e0; simp [cmpN]
        · simp [e0]
      · have : a1 + M * (a2 + M * a3) ≠ b1 + M * (a2 + M * a3) := by omega
        simp [e1]
    · have l1 : a2 + M * a3 ≠ b2 + M * a3 := by omega
      have l2 : a1 + M * (a2 + M * a3) ≠ b1 + M * (b2 + M * a3) := by
        rcases Nat.lt_trichotomy (a2 + M * a3) (b2 + M * a3) with h | h | h
        · have := less h1 k1 h; omega
        · exact absurd h l1
        · have := less k1 h1 h; omega
      simp [e2, l2]
  · have l1 : a2 + M * a3 ≠ b2 + M * b3 := by
      rcases Nat.lt_trichotomy a3 b3 with h | h | h
      · have := less h2 k2 h; omega
      · exact absurd h e3
      · have := less k2 h2 h; omega
    have l2 : a1 + M * (a2 + M * a3) ≠ b1 + M * (b2 + M * b3) := by
      rcases Nat.lt_trichotomy (a2 + M * a3) (b2 + M * b3) with h | h | h
      · have := less h1 k1 h; omega
      · exact absurd h l1
      · have := less k1 h1 h; omega
    simp [e3, l1, l2]

theorem fd_downs {a0 a1 a2 a3 b0 b1 b2 b3 : Nat} (ha : Ok4 a0 a1 a2 a3) (hb : Ok4 b0 b1 b2 b3) : ((fd (word b0 b1 b2 b3) (downs ha)).map fun p => cmpN p.1.2 (word b0 b1 b2 b3 p.1.1)).getD 0 = cmpN (val a0 a1 a2 a3) (val b0 b1 b2 b3) := by
  rw [cmp_words ha hb]
  by_cases h3 : a3 = b3
  · by_cases h2 : a2 = b2
    · by_cases h1 : a1 = b1
      · by_cases h0 : a0 = b0
        · simp [fd, downs, pw, word, List.find?, h0, h1, h2, h3]
        · simp [fd, downs, pw, word, List.find?, h0, h1, h2, h3]
      · simp [fd, downs, pw, word, List.find?, h1, h2, h3]
    · simp [fd, downs, pw, word, List.find?, h2, h3]
  · simp [fd, downs, pw, word, h3]

set_option maxRecDepth 100000 in
set_option maxHeartbeats 4000000 in
theorem cmp_in (n : Nat) (hn : 3 ≤ n) {a0 a1 a2 a3 b0 b1 b2 b3 : Nat} (ha : Ok4 a0 a1 a2 a3) (hb : Ok4 b0 b1 b2 b3) (w : World) :
    CallsIn Fence.wide n Try.prog 21 #[wv a0 a1 a2 a3, wv b0 b1 b2 b3] w fun e W' => e = .returned (.int .i64 (cmpN (val a0 a1 a2 a3) (val b0 b1 b2 b3))) ∧ Below w.heap.size w W' := by
  have h1 : 1 ≤ n := by omega
  refine callsIn_of_wp_marks Try.func21 rfl trivial ?_ rfl
  simp only [Try.ntmps21, List.size_toArray, List.length_cons, List.length_nil, Nat.reduceAdd, Nat.reduceSub, Array.replicate_succ, Array.replicate_zero, List.push_toArray, List.append_toArray, List.nil_append, List.cons_append]
  gi_wp2_with (refine ⟨trivial, ?_⟩; gi_at_call 25; refine (down_in Fence.wide (n - 1) trivial rfl _ _ _ _ _).mono ?_; rintro e w' ⟨rfl, rfl⟩)
  generalize hW5 : World.alloc _ _ = W5
  have k1 : Blk W5 (w.heap.size + 1) 24 (ws (word b0 b1 b2 b3)) := by rw [← hW5]; exact ((Blk.new' (by simp)).alloc _).alloc _
  have k2 : Blk W5 (w.heap.size + 1 + 1) 3 [.int .i64 0] := by rw [← hW5]; exact (Blk.new' (by simp)).alloc _
  have k5 : BlkW W5 (w.heap.size + 1 + 1 + 1) a0 a1 a2 a3 := by rw [← hW5]; exact Blk.new' (by simp)
  have hB0 : Below w.heap.size w W5 := by rw [← hW5]; exact chainA (chainA (chainA (chain0 _ _) _) _) _
  have hz : W5.heap.size = w.heap.size + 4 := by rw [← hW5]; simp
  clear hW5
  refine wpIn_rangeFunc_ownF (S := fun ys => ys = downs ha) rfl h1 (gf := 30) (lb := #[.pointer (some ⟨w.heap.size + 1 + 1 + 1, 0, none⟩)]) rfl trivial (enters_of Try.func30 (by kernel_rfl) rfl)
    (down1_stops Fence.wide (n - 1) trivial rfl (by omega) ha (w.heap.size + 1 + 1 + 1) W5 k5) KeepB.t (KeepB.b k5.lt) (Below.refl _ _) (fun _ => rfl)
    (fun pre W => (Blk W (w.heap.size + 1) 24 (ws (word b0 b1 b2 b3)) ∧ Blk W (w.heap.size + 1 + 1) 3 [.int .i64 0] ∧ fd (word b0 b1 b2 b3) pre = none) ∧ Below w.heap.size w W)
    (fun c pre W => (Blk W (w.heap.size + 1 + 1) 3 [.int .i64 (((fd (word b0 b1 b2 b3) pre).map fun p => cmpN p.1.2 (word b0 b1 b2 b3 p.1.1)).getD 0)] ∧ c = .ret ∧ ∃ p, fd (word b0 b1 b2 b3) pre = some p) ∧ Below w.heap.size w W)
    (OwnFrom.and (Own.from (fun s A B row hs hg hr => ⟨blk_own _ _ (fun _ => _) s A B row hs.1 hg hr, blk_own _ _ (fun _ => _) s A B row hs.2.1 hg hr, hs.2.2⟩) _) (ownFrom_below (Nat.le_refl _) (by omega)))
    (fun c => OwnFrom.and (Own.from (fun s A B row hs hg hr => ⟨blk_own _ _ (fun pre => [.int .i64 (((fd (word b0 b1 b2 b3) pre).map fun p => cmpN p.1.2 (word b0 b1 b2 b3 p.1.1)).getD 0)]) s A B row hs.1 hg hr, hs.2⟩) _) (ownFrom_below (Nat.le_refl _) (by omega)))
    ⟨⟨k1, k2, rfl⟩, hB0⟩
    (fun x => { tmps := #[wv a0 a1 a2 a3, wv b0 b1 b2 b3, .pointer (some ⟨w.heap.size, 0, none⟩), .pointer (some ⟨w.heap.size + 1, 0, none⟩), .pointer (some ⟨w.heap.size + 1 + 1, 0, none⟩), .int .i64 (x.1.1 : Int), .int .u64 (x.1.2 : Int), undef, wv a0 a1 a2 a3, .func (.func 30) #[] #[.pointer (some ⟨w.heap.size + 1 + 1 + 1, 0, none⟩)], .int .i64 (x.1.1 : Int), .int .u64 (x.1.2 : Int), undef, undef, undef, undef, undef, undef, undef, undef], defers := [] }) ?assign ?body ?done ?stop
  case assign =>
    intro l x W K hK
    gi_wp2
    exact hK
  case body =>
    rintro l pre ⟨⟨i, x⟩, hi, hx⟩ W ⟨⟨k1, k2, hf⟩, hB⟩ _
    dsimp only at hi hx
    have hf' := fun (e : x ≠ word b0 b1 b2 b3 i) => fd_hit (b := word b0 b1 b2 b3) (x := ⟨(i, x), hi, hx⟩) hf e
    have hg' := fun (e : x = word b0 b1 b2 b3 i) => fd_miss (b := word b0 b1 b2 b3) (x := ⟨(i, x), hi, hx⟩) hf e
    have HF := Lib.hid hf'
    have HG := Lib.hid hg'
    clear hf hf' hg'
    have hi' : (i : Int) < 4 := by omega
    have c1 := k1.cell i
    rw [ws_at _ hi] at c1
    have c2 : W.cell? ⟨w.heap.size + 1 + 1, 0, none⟩ = some (.int .i64 0) := k2.cell 0
    have f2 := k2.frozen 0
    have hne : cmpN x (word b0 b1 b2 b3 i) = 0 ↔ x = word b0 b1 b2 b3 i := by
      unfold cmpN
      split
      · omega
      · split <;> omega
    have HN := Lib.hid hne
    clear hne
    gi_wp2_with fail
    refine ⟨trivial, (fun _ => by omega), ?_⟩
    refine (CallsIn.inRound l (callsIn_wide.2 (compare_any _ _ _))).mono ?_
    rintro e w' ⟨rfl, rfl⟩
    generalize hcg : cmpN x (word b0 b1 b2 b3 i) = c at *
    have HC := Lib.hid hcg
    clear hcg
    by_cases hc0 : c = 0
    · have hcb : (c == 0) = true := by simp [hc0]
      have hxe := HN.out.1 hc0
      have HX := Lib.hid hxe
      clear hxe hc0
      gi_wp2
      exact ⟨KeepsOthers.refl _, KeepB.refl _ _, ⟨k1, k2, HG.out HX.out⟩, hB⟩
    · have hcb : (c == 0) = false := by simp [hc0]
      have hxe : x ≠ word b0 b1 b2 b3 i := fun e => hc0 (HN.out.2 e)
      have HX := Lib.hid hxe
      clear hxe hc0
      gi_wp2
      refine ⟨KeepsOthers.setCell _ _ _, ⟨?_, rfl, _, HF.out HX.out⟩, hB.setCell (p := ⟨w.heap.size + 1 + 1, 0, none⟩) (by simp; omega) _⟩
      rw [HF.out HX.out]
      have kk := k2.set 0 (.int .i64 c)
      rw [← HC.out] at kk ⊢
      exact kk
  case done =>
    rintro D ys W hD rfl ⟨⟨k1, k2, hf⟩, hB⟩ hK
    have c2 : W.cell? ⟨w.heap.size + 1 + 1, 0, none⟩ = some (.int .i64 0) := k2.cell 0
    have f2 := k2.frozen 0
    have hbits := fd_downs ha hb
    rw [hf] at hbits
    have HB := Lib.hid hbits
    have HF := Lib.hid hf
    clear hbits hf
    gi_wp2
    have hK' := (KeepsOthers.setCell W ⟨w.heap.size + 1 + 1, 0, none⟩ (.int .i64 0)).same D _ hK rfl
    have k2' := (k2.set 0 (.int .i64 0)).kept (grownBy_putObj' _ D (.deferred none)) (by intro e; cases e; omega)
    have r0 := k2'.cell 0
    simp only [List.set_cons_zero, List.getElem?_cons_zero] at r0
    have hB' := (hB.setCell (p := ⟨w.heap.size + 1 + 1, 0, none⟩) (by simp; omega) (.int .i64 0)).trans (belowK_b (w := w) (Nat.le_refl _) _ D _ (.deferred none) (by omega) hK' rfl rfl)
    refine ⟨by simp, .inl ⟨_, _, rfl, run_takeDeferred hK', ?_⟩⟩
    refine ⟨.int .i64 0, ?_, ?_⟩
    · simp [results, Try.f21, go_sem, r0]
    · exact ⟨by rw [← HB.out]; rfl, hB'⟩
  case stop =>
    rintro D c pre W hD hpre ⟨⟨k2, rfl, hp⟩, hB⟩ hK
    obtain ⟨p, hp⟩ := hp
    have hbits : ((fd (word b0 b1 b2 b3) pre).map fun p => cmpN p.1.2 (word b0 b1 b2 b3 p.1.1)).getD 0 = cmpN (val a0 a1 a2 a3) (val b0 b1 b2 b3) := by rw [hp, ← fd_prefix hp hpre]; exact fd_downs ha hb
    rw [hbits] at k2
    clear hbits hp
    gi_wp2
    have k2' := k2.kept (grownBy_putObj' _ D (.deferred none)) (by intro e; cases e; omega)
    have r0 := k2'.cell 0
    simp only [List.getElem?_cons_zero] at r0
    have hB' := hB.trans (belowK_b (w := w) (Nat.le_refl _) _ D _ (.deferred none) (by omega) hK rfl rfl)
    refine ⟨by simp, .inl ⟨_, _, rfl, run_takeDeferred hK, ?_⟩⟩
    refine ⟨.int .i64 (cmpN (val a0 a1 a2 a3) (val b0 b1 b2 b3)), ?_, ?_⟩
    · simp [results, Try.f21, go_sem, r0]
    · exact ⟨rfl, hB'⟩

theorem cmp_any {a0 a1 a2 a3 b0 b1 b2 b3 : Nat} (ha : Ok4 a0 a1 a2 a3) (hb : Ok4 b0 b1 b2 b3) (w : World) :
    Calls Try.prog 21 #[wv a0 a1 a2 a3, wv b0 b1 b2 b3] w fun e W' => e = .returned (.int .i64 (cmpN (val a0 a1 a2 a3) (val b0 b1 b2 b3))) ∧ Below w.heap.size w W' := callsIn_wide.1 (cmp_in 3 (by omega) ha hb w)
end Go.Proofs.Ytefbkchledfoiaa
