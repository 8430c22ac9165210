/-
  The reference's reader: a number, a text, a wide number.
-/
import Derived.Test.YtjhfchjffiliaaaFieldRefR
namespace Go.Proofs.Ytjhfchjffiliaaa
open Go.RowKit Go.Shelf

def NumR (r : Nat × St) (w : World) (e : Ending) (W' : World) : Prop :=
  ∃ sv, e = .returned (.tuple #[.int .i64 (r.1 : Nat), .agg #[sv, .int .i64 r.2.2]]) ∧ BSl 0 W'.heap.size W' sv r.2.1 ∧ Below w.heap.size w W'
def TxtR (r : List UInt8 × St) (w : World) (e : Ending) (W' : World) : Prop :=
  ∃ sv, e = .returned (.tuple #[.string ⟨r.1.toArray⟩, .agg #[sv, .int .i64 r.2.2]]) ∧ BSl 0 W'.heap.size W' sv r.2.1 ∧ Below w.heap.size w W'
def WidR (r : List UInt8 × St) (w : World) (e : Ending) (W' : World) : Prop :=
  ∃ sv, e = .returned (.tuple #[wv (wdS r.1 0) (wdS r.1 1) (wdS r.1 2) (wdS r.1 3), .agg #[sv, .int .i64 r.2.2]]) ∧ BSl 0 W'.heap.size W' sv r.2.1 ∧ Below w.heap.size w W'

set_option maxRecDepth 100000 in
set_option maxHeartbeats 2000000 in
theorem refGetNumP_any {s : St} (sv : Value) (most lim : Int) (hm : (1099511627776 < most ∧ lim = 1099511627776) ∨ (¬ 1099511627776 < most ∧ lim = most)) (w : World) (hsl : BSl 0 w.heap.size w sv s.1) :
    Calls Try.prog 15 #[.agg #[sv, .int .i64 s.2], .int .i64 most] w (NumR (mostS s 6 lim) w) := by
  have hmx : Try.prog.follows .mixedOrders = true := by kernel_rfl
  obtain ⟨a, m, c, rfl⟩ := hsl.shape3
  unfold mostS
  have hl := takeS_len s 6
  generalize hr : takeS s 6 = r at *
  have HR := Lib.hid hr
  clear hr
  have HB := Lib.hid (fun sv w1 hs => refInt_any r.1 sv w1 (by omega) hs)
  have hb7 := be7_le r.1
  generalize be (r.1.take 7) = b at *
  by_cases hf : r.2.2 = 0
  · have hf1 : (r.2.2 == 0) = true := by simpa using hf
    have hf2 : (r.2.2 != 0) = false := by simpa using hf
    by_cases hlt : lim < (b : Int)
    · rw [if_pos ⟨hf, hlt⟩]
      clear hf
      rcases hm with ⟨hc, rfl⟩ | ⟨hc, rfl⟩
      all_goals
        go_enter Try.func15, Try.ntmps15
        go_wp2_with fail
        generalize hW0 : World.alloc _ _ = W0
        have kA : Blk W0 w.heap.size 35 [.slice a m c, .int .i64 s.2] := by rw [← hW0]; exact (Blk.new w _ [_, _]).alloc _
        have kR : Blk W0 (w.heap.size + 1) 35 [.slice none 0 0, .int .i64 0] := by rw [← hW0]; exact Blk.new' (vs := [_, _]) (by simp)
        have hB0 : Below w.heap.size w W0 := by rw [← hW0]; exact chainA (chain0 _ _) _
        clear hW0
        obtain ⟨c0, c1⟩ := Blk.c2 kA
        have hsl0 := (hsl.below hB0 (Nat.le_refl _)).mono (Nat.le_refl _) hB0.size
        go_wp2_with (first
          | (go_at_call 34; refine (refTake_any (s := s) 6 (.slice a m c) _ hsl0).mono ?_; rw [HR.out]; rintro e w1 ⟨v1, v2, rfl, hv1, hv2, hb1⟩; obtain ⟨a1, m1, d1, rfl⟩ := hv1.shape3; obtain ⟨a2, m2, d2, rfl⟩ := hv2.shape3; have kR1 := kR.below hb1 kR.lt; have u0 := fun o => (Blk.c2 (kR1.alloc o)).1; have u1 := fun o => (Blk.c2 (kR1.alloc o)).2; have g0 := fun o => (kR1.alloc o).frozen 0; have g1 := fun o => (kR1.alloc o).frozen 1)
          | (go_at_call 35; refine (HB.out _ _ ((hv1.below (chain0 w1 _) (Nat.le_refl _)).mono (Nat.le_refl _) (chain0 w1 _).size)).mono ?_; rintro e w2 ⟨rfl, rfl⟩))
        have kR2 := kR1.alloc (.cells #[.slice a2 m2 d2, .int .i64 r.2.2] 35)
        have hB2 := chainA (chain hB0 hb1) (.cells #[.slice a2 m2 d2, .int .i64 r.2.2] 35)
        obtain ⟨kR3, hq3, hB3⟩ := stored_at (y := 4) (BSl.nil 0 _ _) hB2 (Nat.le_add_right _ 1) ⟨_, _, _, rfl⟩ kR2
        obtain ⟨q0, q1⟩ := Blk.c2 kR3
        exact bodyPost_ret (v := .tuple #[.int .i64 0, .agg #[.slice none 0 0, .int .i64 4]]) (by simp [results, Try.results15, go_sem, q0, q1]) rfl ⟨_, rfl, hq3, hB3⟩
    · rw [if_neg (fun e => hlt e.2)]
      clear hf
      rcases hm with ⟨hc, rfl⟩ | ⟨hc, rfl⟩
      all_goals
        go_enter Try.func15, Try.ntmps15
        go_wp2_with fail
        generalize hW0 : World.alloc _ _ = W0
        have kA : Blk W0 w.heap.size 35 [.slice a m c, .int .i64 s.2] := by rw [← hW0]; exact (Blk.new w _ [_, _]).alloc _
        have kR : Blk W0 (w.heap.size + 1) 35 [.slice none 0 0, .int .i64 0] := by rw [← hW0]; exact Blk.new' (vs := [_, _]) (by simp)
        have hB0 : Below w.heap.size w W0 := by rw [← hW0]; exact chainA (chain0 _ _) _
        clear hW0
        obtain ⟨c0, c1⟩ := Blk.c2 kA
        have hsl0 := (hsl.below hB0 (Nat.le_refl _)).mono (Nat.le_refl _) hB0.size
        go_wp2_with (first
          | (go_at_call 34; refine (refTake_any (s := s) 6 (.slice a m c) _ hsl0).mono ?_; rw [HR.out]; rintro e w1 ⟨v1, v2, rfl, hv1, hv2, hb1⟩; obtain ⟨a1, m1, d1, rfl⟩ := hv1.shape3; obtain ⟨a2, m2, d2, rfl⟩ := hv2.shape3; have kR1 := kR.below hb1 kR.lt; have u0 := fun o => (Blk.c2 (kR1.alloc o)).1; have u1 := fun o => (Blk.c2 (kR1.alloc o)).2; have g0 := fun o => (kR1.alloc o).frozen 0; have g1 := fun o => (kR1.alloc o).frozen 1)
          | (go_at_call 35; refine (HB.out _ _ ((hv1.below (chain0 w1 _) (Nat.le_refl _)).mono (Nat.le_refl _) (chain0 w1 _).size)).mono ?_; rintro e w2 ⟨rfl, rfl⟩))
        have hX := chain0 w1 (.cells #[.slice a2 m2 d2, .int .i64 r.2.2] 35)
        have kX : Blk (w1.alloc (.cells #[.slice a2 m2 d2, .int .i64 r.2.2] 35)) w1.heap.size 35 [.slice a2 m2 d2, .int .i64 r.2.2] := Blk.new w1 _ [_, _]
        have kR2 := kR1.alloc (.cells #[.slice a2 m2 d2, .int .i64 r.2.2] 35)
        have hB2 := chainA (chain hB0 hb1) (.cells #[.slice a2 m2 d2, .int .i64 r.2.2] 35)
        have hq2 := (hv2.below hX (Nat.le_refl _)).mono (Nat.le_refl _) hX.size
        clear u0 u1 g0 g1 kA kR kR1 hv1 hv2 hb1 hB0 hsl0 hX c0 c1
        generalize w1.alloc (.cells #[.slice a2 m2 d2, .int .i64 r.2.2] 35) = Wq at *
        obtain ⟨x0, x1⟩ := Blk.c2 kX
        go_still_tail 3, (by kernel_rfl)
        change wpList _ _ _ _ _ (World.drew _)
        replace kR2 : Blk Wq.drew (w.heap.size + 1) 35 [.slice none 0 0, .int .i64 0] := kR2
        replace hB2 : Below w.heap.size w Wq.drew := hB2.drew
        replace hq2 : BSl 0 Wq.drew.heap.size Wq.drew (.slice a2 m2 d2) r.2.1 := hq2
        clear kX x0 x1
        generalize Wq.drew = Y at *
        obtain ⟨r0, r1⟩ := Blk.c2 kR2
        have g0 := kR2.frozen 0
        have g1 := kR2.frozen 1
        go_wp2_with fail
        obtain ⟨kR3, hq3, hB3⟩ := stored_at (y := r.2.2) hq2 hB2 (Nat.le_add_right _ 1) ⟨_, _, _, rfl⟩ kR2
        obtain ⟨q0, q1⟩ := Blk.c2 kR3
        exact bodyPost_ret (v := .tuple #[.int .i64 (b : Nat), .agg #[.slice a2 m2 d2, .int .i64 r.2.2]]) (by simp [results, Try.results15, go_sem, q0, q1]) rfl ⟨_, rfl, hq3, hB3⟩
  · rw [if_neg (fun e => hf e.1)]
    have hf1 : (r.2.2 == 0) = false := by simpa using hf
    have hf2 : (r.2.2 != 0) = true := by simpa using hf
    clear hf
    go_enter Try.func15, Try.ntmps15
    go_wp2_with fail
    generalize hW0 : World.alloc _ _ = W0
    have kA : Blk W0 w.heap.size 35 [.slice a m c, .int .i64 s.2] := by rw [← hW0]; exact (Blk.new w _ [_, _]).alloc _
    have kR : Blk W0 (w.heap.size + 1) 35 [.slice none 0 0, .int .i64 0] := by rw [← hW0]; exact Blk.new' (vs := [_, _]) (by simp)
    have hB0 : Below w.heap.size w W0 := by rw [← hW0]; exact chainA (chain0 _ _) _
    clear hW0
    obtain ⟨c0, c1⟩ := Blk.c2 kA
    have hsl0 := (hsl.below hB0 (Nat.le_refl _)).mono (Nat.le_refl _) hB0.size
    go_wp2_with (first
      | (go_at_call 34; refine (refTake_any (s := s) 6 (.slice a m c) _ hsl0).mono ?_; rw [HR.out]; rintro e w1 ⟨v1, v2, rfl, hv1, hv2, hb1⟩; obtain ⟨a1, m1, d1, rfl⟩ := hv1.shape3; obtain ⟨a2, m2, d2, rfl⟩ := hv2.shape3; have kR1 := kR.below hb1 kR.lt; have u0 := fun o => (Blk.c2 (kR1.alloc o)).1; have u1 := fun o => (Blk.c2 (kR1.alloc o)).2; have g0 := fun o => (kR1.alloc o).frozen 0; have g1 := fun o => (kR1.alloc o).frozen 1)
      | (go_at_call 35; refine (HB.out _ _ ((hv1.below (chain0 w1 _) (Nat.le_refl _)).mono (Nat.le_refl _) (chain0 w1 _).size)).mono ?_; rintro e w2 ⟨rfl, rfl⟩))
    have hX := chain0 w1 (.cells #[.slice a2 m2 d2, .int .i64 r.2.2] 35)
    have kX : Blk (w1.alloc (.cells #[.slice a2 m2 d2, .int .i64 r.2.2] 35)) w1.heap.size 35 [.slice a2 m2 d2, .int .i64 r.2.2] := Blk.new w1 _ [_, _]
    have kR2 := kR1.alloc (.cells #[.slice a2 m2 d2, .int .i64 r.2.2] 35)
    have hB2 := chainA (chain hB0 hb1) (.cells #[.slice a2 m2 d2, .int .i64 r.2.2] 35)
    have hq2 := (hv2.below hX (Nat.le_refl _)).mono (Nat.le_refl _) hX.size
    clear u0 u1 g0 g1 kA kR kR1 hv1 hv2 hb1 hB0 hsl0 hX c0 c1
    generalize w1.alloc (.cells #[.slice a2 m2 d2, .int .i64 r.2.2] 35) = Wq at *
    obtain ⟨x0, x1⟩ := Blk.c2 kX
    go_still_tail 3, (by kernel_rfl)
    change wpList _ _ _ _ _ (World.drew _)
    replace kR2 : Blk Wq.drew (w.heap.size + 1) 35 [.slice none 0 0, .int .i64 0] := kR2
    replace hB2 : Below w.heap.size w Wq.drew := hB2.drew
    replace hq2 : BSl 0 Wq.drew.heap.size Wq.drew (.slice a2 m2 d2) r.2.1 := hq2
    clear kX x0 x1
    generalize Wq.drew = Y at *
    obtain ⟨r0, r1⟩ := Blk.c2 kR2
    have g0 := kR2.frozen 0
    have g1 := kR2.frozen 1
    go_wp2_with fail
    obtain ⟨kR3, hq3, hB3⟩ := stored_at (y := r.2.2) hq2 hB2 (Nat.le_add_right _ 1) ⟨_, _, _, rfl⟩ kR2
    obtain ⟨q0, q1⟩ := Blk.c2 kR3
    exact bodyPost_ret (v := .tuple #[.int .i64 (b : Nat), .agg #[.slice a2 m2 d2, .int .i64 r.2.2]]) (by simp [results, Try.results15, go_sem, q0, q1]) rfl ⟨_, rfl, hq3, hB3⟩
theorem refGetNum_any {s : St} (sv : Value) (most : Int) (w : World) (hsl : BSl 0 w.heap.size w sv s.1) :
    Calls Try.prog 15 #[.agg #[sv, .int .i64 s.2], .int .i64 most] w (NumR (mostS s 6 (min most 1099511627776)) w) := refGetNumP_any sv most _ (by omega) w hsl

theorem stored_keeps {l : List UInt8} {y : Value} {Y : World} {v sv : Value} {T : TypeId} {NB : Nat} {z : Value} {x : Int} (hv : BSl 0 Y.heap.size Y v l) (hz : ∃ a m c, z = .slice a m c) (hs : ∃ a m c, sv = .slice a m c)
    (kR : Blk Y NB T [z, .int .i64 x]) : BSl 0 ((Y.setCell ⟨NB, 0, none⟩ sv).setCell ⟨NB, 1, none⟩ y).heap.size ((Y.setCell ⟨NB, 0, none⟩ sv).setCell ⟨NB, 1, none⟩ y) v l := by
  obtain ⟨a, m, c, rfl⟩ := hz
  obtain ⟨a2, m2, c2, rfl⟩ := hs
  have k1 := kR.set 0 (.slice a2 m2 c2)
  exact ((hv.to (Nat.le_refl _) (grownBy_setCell4 Y NB 0 (.slice a2 m2 c2)) (fun r e => by cases e; exact noOct2 kR)).to (by simp) (grownBy_setCell4 _ NB 1 y) (fun r e => by cases e; exact noOct2 k1)).mono (Nat.le_refl _) (by simp)
theorem strR (W : World) {lo hi : Nat} {sv : Value} {l : List UInt8} (h : BSl lo hi W sv l) : (convert 23 9 sv).run Try.prog W = .ok (.string ⟨l.toArray⟩) W :=
  run_string (P := Try.prog) 23 5 9 Try.underlying23 Try.underlying5 Try.underlying9 W h

set_option maxRecDepth 100000 in
set_option maxHeartbeats 2000000 in
theorem refGetTextP_any {s : St} (sv : Value) (most lim : Int) (hm : (1024 < most ∧ lim = 1024) ∨ (¬ 1024 < most ∧ lim = most)) (w : World) (hsl : BSl 0 w.heap.size w sv s.1) :
    Calls Try.prog 17 #[.agg #[sv, .int .i64 s.2], .int .i64 most] w (TxtR (gtxtS s lim) w) := by
  have hmx : Try.prog.follows .mixedOrders = true := by kernel_rfl
  obtain ⟨a, m, c, rfl⟩ := hsl.shape3
  unfold gtxtS mostS
  have hl := takeS_len s 2
  generalize hr : takeS s 2 = r at *
  have HR := Lib.hid hr
  clear hr
  have HB := Lib.hid (fun sv w1 hs => refInt_any r.1 sv w1 (by omega) hs)
  have hb7 := be7_le r.1
  generalize be (r.1.take 7) = b at *
  by_cases hf : r.2.2 = 0
  · have hf1 : (r.2.2 == 0) = true := by simpa using hf
    have hf2 : (r.2.2 != 0) = false := by simpa using hf
    by_cases hlt : lim < (b : Int)
    · rw [if_pos ⟨hf, hlt⟩]
      clear hf
      rcases hm with ⟨hc, rfl⟩ | ⟨hc, rfl⟩
      all_goals
        have tok : True := trivial
        go_enter Try.func17, Try.ntmps17
        go_wp2_with fail
        generalize hW0 : World.alloc _ _ = W0
        have kA : Blk W0 w.heap.size 35 [.slice a m c, .int .i64 s.2] := by rw [← hW0]; exact (Blk.new w _ [_, _]).alloc _
        have kR : Blk W0 (w.heap.size + 1) 35 [.slice none 0 0, .int .i64 0] := by rw [← hW0]; exact Blk.new' (vs := [_, _]) (by simp)
        have hB0 : Below w.heap.size w W0 := by rw [← hW0]; exact chainA (chain0 _ _) _
        clear hW0
        obtain ⟨c0, c1⟩ := Blk.c2 kA
        have hsl0 := (hsl.below hB0 (Nat.le_refl _)).mono (Nat.le_refl _) hB0.size
        go_wp2_with (first
          | (go_at_call 34; (have _t := tok); clear _t tok; refine (refTake_any (s := s) 2 (.slice a m c) _ hsl0).mono ?_; rw [HR.out]; rintro e w1 ⟨v1, v2, rfl, hv1, hv2, hb1⟩; obtain ⟨a1, m1, d1, rfl⟩ := hv1.shape3; obtain ⟨a2, m2, d2, rfl⟩ := hv2.shape3; have kR1 := kR.below hb1 kR.lt; have u0 := fun o => (Blk.c2 (kR1.alloc o)).1; have u1 := fun o => (Blk.c2 (kR1.alloc o)).2; have g0 := fun o => (kR1.alloc o).frozen 0; have g1 := fun o => (kR1.alloc o).frozen 1)
          | (go_at_call 35; refine (HB.out _ _ ((hv1.below (chain0 w1 _) (Nat.le_refl _)).mono (Nat.le_refl _) (chain0 w1 _).size)).mono ?_; rintro e w2 ⟨rfl, rfl⟩))
        have kR2 := kR1.alloc (.cells #[.slice a2 m2 d2, .int .i64 r.2.2] 35)
        have hB2 := chainA (chain hB0 hb1) (.cells #[.slice a2 m2 d2, .int .i64 r.2.2] 35)
        obtain ⟨kR3, hq3, hB3⟩ := stored_at (y := 4) (BSl.nil 0 _ _) hB2 (Nat.le_add_right _ 1) ⟨_, _, _, rfl⟩ kR2
        obtain ⟨q0, q1⟩ := Blk.c2 kR3
        exact bodyPost_ret (v := .tuple #[.string ⟨#[]⟩, .agg #[.slice none 0 0, .int .i64 4]]) (by simp [results, Try.results17, go_sem, q0, q1]) rfl ⟨_, rfl, hq3, hB3⟩
    · rw [if_neg (fun e => hlt e.2)]
      clear hf
      rcases hm with ⟨hc, rfl⟩ | ⟨hc, rfl⟩
      all_goals
        have tok : True := trivial
        go_enter Try.func17, Try.ntmps17
        go_wp2_with fail
        generalize hW0 : World.alloc _ _ = W0
        have kA : Blk W0 w.heap.size 35 [.slice a m c, .int .i64 s.2] := by rw [← hW0]; exact (Blk.new w _ [_, _]).alloc _
        have kR : Blk W0 (w.heap.size + 1) 35 [.slice none 0 0, .int .i64 0] := by rw [← hW0]; exact Blk.new' (vs := [_, _]) (by simp)
        have hB0 : Below w.heap.size w W0 := by rw [← hW0]; exact chainA (chain0 _ _) _
        clear hW0
        obtain ⟨c0, c1⟩ := Blk.c2 kA
        have hsl0 := (hsl.below hB0 (Nat.le_refl _)).mono (Nat.le_refl _) hB0.size
        go_wp2_with (first
          | (go_at_call 34; (have _t := tok); clear _t tok; refine (refTake_any (s := s) 2 (.slice a m c) _ hsl0).mono ?_; rw [HR.out]; rintro e w1 ⟨v1, v2, rfl, hv1, hv2, hb1⟩; obtain ⟨a1, m1, d1, rfl⟩ := hv1.shape3; obtain ⟨a2, m2, d2, rfl⟩ := hv2.shape3; have kR1 := kR.below hb1 kR.lt; have u0 := fun o => (Blk.c2 (kR1.alloc o)).1; have u1 := fun o => (Blk.c2 (kR1.alloc o)).2; have g0 := fun o => (kR1.alloc o).frozen 0; have g1 := fun o => (kR1.alloc o).frozen 1)
          | (go_at_call 35; refine (HB.out _ _ ((hv1.below (chain0 w1 _) (Nat.le_refl _)).mono (Nat.le_refl _) (chain0 w1 _).size)).mono ?_; rintro e w2 ⟨rfl, rfl⟩))
        have hX := chain0 w1 (.cells #[.slice a2 m2 d2, .int .i64 r.2.2] 35)
        have kX : Blk (w1.alloc (.cells #[.slice a2 m2 d2, .int .i64 r.2.2] 35)) w1.heap.size 35 [.slice a2 m2 d2, .int .i64 r.2.2] := Blk.new w1 _ [_, _]
        have kR2 := kR1.alloc (.cells #[.slice a2 m2 d2, .int .i64 r.2.2] 35)
        have hB2 := chainA (chain hB0 hb1) (.cells #[.slice a2 m2 d2, .int .i64 r.2.2] 35)
        have hq2 := (hv2.below hX (Nat.le_refl _)).mono (Nat.le_refl _) hX.size
        have hNB : w.heap.size ≤ w1.heap.size := (chain hB0 hb1).size
        have hne : w.heap.size + 1 < w1.heap.size := kR1.lt
        clear u0 u1 g0 g1 kA kR kR1 hv1 hv2 hb1 hB0 hsl0 hX c0 c1 HR
        generalize w1.alloc (.cells #[.slice a2 m2 d2, .int .i64 r.2.2] 35) = Wq at *
        generalize w1.heap.size = XB at *
        refine (refTake_any (s := r.2) b (.slice a2 m2 d2) Wq hq2).mono ?_
        generalize takeS r.2 b = q at *
        rintro e w3 ⟨v3, v4, rfl, hv3, hv4, hb3⟩
        obtain ⟨a3, m3, d3, rfl⟩ := hv3.shape3
        obtain ⟨a4, m4, d4, rfl⟩ := hv4.shape3
        have kX3 := kX.below hb3 kX.lt
        have kR3 := kR2.below hb3 kR2.lt
        have hB3 := chain hB2 hb3
        clear kX kR2 hB2 hq2 hb3
        obtain ⟨x0, x1⟩ := Blk.c2 kX3
        have g0 := kX3.frozen 0
        have g1 := kX3.frozen 1
        go_wp2_with fail
        obtain ⟨kX4, hq4, hB4⟩ := stored_at (y := q.2.2) hv4 hB3 hNB ⟨_, _, _, rfl⟩ kX3
        have hq3 := stored_keeps (y := .int .i64 q.2.2) (sv := .slice a4 m4 d4) hv3 ⟨_, _, _, rfl⟩ ⟨_, _, _, rfl⟩ kX3
        have kR4 := (kR3.other 0 (.slice a4 m4 d4) (by omega : w.heap.size + 1 ≠ XB)).other 1 (.int .i64 q.2.2) (by omega : w.heap.size + 1 ≠ XB)
        clear x0 x1 g0 g1 kX3 kR3 hB3 hv3 hv4
        generalize ((w3.setCell ⟨XB, 0, none⟩ (.slice a4 m4 d4)).setCell ⟨XB, 1, none⟩ (.int .i64 q.2.2)) = Wr at *
        obtain ⟨x0, x1⟩ := Blk.c2 kX4
        replace kR4 : Blk Wr.drew (w.heap.size + 1) 35 [.slice none 0 0, .int .i64 0] := kR4
        replace hB4 : Below w.heap.size w Wr.drew := hB4.drew
        replace hq4 : BSl 0 Wr.drew.heap.size Wr.drew (.slice a4 m4 d4) q.2.1 := hq4
        replace hq3 : BSl 0 Wr.drew.heap.size Wr.drew (.slice a3 m3 d3) q.1 := hq3
        replace x0 : Wr.drew.cell? ⟨XB, 0, none⟩ = some (.slice a4 m4 d4) := x0
        replace x1 : Wr.drew.cell? ⟨XB, 1, none⟩ = some (.int .i64 q.2.2) := x1
        clear kX4
        refine wp_region_still_tail 4 (by kernel_rfl) (by kernel_rfl) ?_
        simp only [List.take_succ_cons, List.take_zero, List.drop_succ_cons, List.drop_zero]
        change wpStill _ _ Wr.drew (fun a => wpList _ _ _ _ a Wr.drew) _ _
        generalize Wr.drew = Y at *
        have hst := strR Y hq3
        repeat still_step
        refine wpStill_nil ?_
        clear x0 x1 hst hq3
        obtain ⟨r0, r1⟩ := Blk.c2 kR4
        have g0 := kR4.frozen 0
        have g1 := kR4.frozen 1
        go_wp2_with fail
        obtain ⟨kR5, hq5, hB5⟩ := stored_at (y := q.2.2) hq4 hB4 (Nat.le_add_right _ 1) ⟨_, _, _, rfl⟩ kR4
        obtain ⟨q0, q1⟩ := Blk.c2 kR5
        exact bodyPost_ret (v := .tuple #[.string ⟨q.1.toArray⟩, .agg #[.slice a4 m4 d4, .int .i64 q.2.2]]) (by simp [results, Try.results17, go_sem, q0, q1]) rfl ⟨_, rfl, hq5, hB5⟩
  · rw [if_neg (fun e => hf e.1)]
    have hf1 : (r.2.2 == 0) = false := by simpa using hf
    have hf2 : (r.2.2 != 0) = true := by simpa using hf
    clear hf
    have tok : True := trivial
    go_enter Try.func17, Try.ntmps17
    go_wp2_with fail
    generalize hW0 : World.alloc _ _ = W0
    have kA : Blk W0 w.heap.size 35 [.slice a m c, .int .i64 s.2] := by rw [← hW0]; exact (Blk.new w _ [_, _]).alloc _
    have kR : Blk W0 (w.heap.size + 1) 35 [.slice none 0 0, .int .i64 0] := by rw [← hW0]; exact Blk.new' (vs := [_, _]) (by simp)
    have hB0 : Below w.heap.size w W0 := by rw [← hW0]; exact chainA (chain0 _ _) _
    clear hW0
    obtain ⟨c0, c1⟩ := Blk.c2 kA
    have hsl0 := (hsl.below hB0 (Nat.le_refl _)).mono (Nat.le_refl _) hB0.size
    go_wp2_with (first
      | (go_at_call 34; (have _t := tok); clear _t tok; refine (refTake_any (s := s) 2 (.slice a m c) _ hsl0).mono ?_; rw [HR.out]; rintro e w1 ⟨v1, v2, rfl, hv1, hv2, hb1⟩; obtain ⟨a1, m1, d1, rfl⟩ := hv1.shape3; obtain ⟨a2, m2, d2, rfl⟩ := hv2.shape3; have kR1 := kR.below hb1 kR.lt; have u0 := fun o => (Blk.c2 (kR1.alloc o)).1; have u1 := fun o => (Blk.c2 (kR1.alloc o)).2; have g0 := fun o => (kR1.alloc o).frozen 0; have g1 := fun o => (kR1.alloc o).frozen 1)
      | (go_at_call 35; refine (HB.out _ _ ((hv1.below (chain0 w1 _) (Nat.le_refl _)).mono (Nat.le_refl _) (chain0 w1 _).size)).mono ?_; rintro e w2 ⟨rfl, rfl⟩))
    have hX := chain0 w1 (.cells #[.slice a2 m2 d2, .int .i64 r.2.2] 35)
    have kX : Blk (w1.alloc (.cells #[.slice a2 m2 d2, .int .i64 r.2.2] 35)) w1.heap.size 35 [.slice a2 m2 d2, .int .i64 r.2.2] := Blk.new w1 _ [_, _]
    have kR2 := kR1.alloc (.cells #[.slice a2 m2 d2, .int .i64 r.2.2] 35)
    have hB2 := chainA (chain hB0 hb1) (.cells #[.slice a2 m2 d2, .int .i64 r.2.2] 35)
    have hq2 := (hv2.below hX (Nat.le_refl _)).mono (Nat.le_refl _) hX.size
    have hNB : w.heap.size ≤ w1.heap.size := (chain hB0 hb1).size
    have hne : w.heap.size + 1 < w1.heap.size := kR1.lt
    clear u0 u1 g0 g1 kA kR kR1 hv1 hv2 hb1 hB0 hsl0 hX c0 c1 HR
    generalize w1.alloc (.cells #[.slice a2 m2 d2, .int .i64 r.2.2] 35) = Wq at *
    generalize w1.heap.size = XB at *
    refine (refTake_any (s := r.2) b (.slice a2 m2 d2) Wq hq2).mono ?_
    generalize takeS r.2 b = q at *
    rintro e w3 ⟨v3, v4, rfl, hv3, hv4, hb3⟩
    obtain ⟨a3, m3, d3, rfl⟩ := hv3.shape3
    obtain ⟨a4, m4, d4, rfl⟩ := hv4.shape3
    have kX3 := kX.below hb3 kX.lt
    have kR3 := kR2.below hb3 kR2.lt
    have hB3 := chain hB2 hb3
    clear kX kR2 hB2 hq2 hb3
    obtain ⟨x0, x1⟩ := Blk.c2 kX3
    have g0 := kX3.frozen 0
    have g1 := kX3.frozen 1
    go_wp2_with fail
    obtain ⟨kX4, hq4, hB4⟩ := stored_at (y := q.2.2) hv4 hB3 hNB ⟨_, _, _, rfl⟩ kX3
    have hq3 := stored_keeps (y := .int .i64 q.2.2) (sv := .slice a4 m4 d4) hv3 ⟨_, _, _, rfl⟩ ⟨_, _, _, rfl⟩ kX3
    have kR4 := (kR3.other 0 (.slice a4 m4 d4) (by omega : w.heap.size + 1 ≠ XB)).other 1 (.int .i64 q.2.2) (by omega : w.heap.size + 1 ≠ XB)
    clear x0 x1 g0 g1 kX3 kR3 hB3 hv3 hv4
    generalize ((w3.setCell ⟨XB, 0, none⟩ (.slice a4 m4 d4)).setCell ⟨XB, 1, none⟩ (.int .i64 q.2.2)) = Wr at *
    obtain ⟨x0, x1⟩ := Blk.c2 kX4
    replace kR4 : Blk Wr.drew (w.heap.size + 1) 35 [.slice none 0 0, .int .i64 0] := kR4
    replace hB4 : Below w.heap.size w Wr.drew := hB4.drew
    replace hq4 : BSl 0 Wr.drew.heap.size Wr.drew (.slice a4 m4 d4) q.2.1 := hq4
    replace hq3 : BSl 0 Wr.drew.heap.size Wr.drew (.slice a3 m3 d3) q.1 := hq3
    replace x0 : Wr.drew.cell? ⟨XB, 0, none⟩ = some (.slice a4 m4 d4) := x0
    replace x1 : Wr.drew.cell? ⟨XB, 1, none⟩ = some (.int .i64 q.2.2) := x1
    clear kX4
    refine wp_region_still_tail 4 (by kernel_rfl) (by kernel_rfl) ?_
    simp only [List.take_succ_cons, List.take_zero, List.drop_succ_cons, List.drop_zero]
    change wpStill _ _ Wr.drew (fun a => wpList _ _ _ _ a Wr.drew) _ _
    generalize Wr.drew = Y at *
    have hst := strR Y hq3
    repeat still_step
    refine wpStill_nil ?_
    clear x0 x1 hst hq3
    obtain ⟨r0, r1⟩ := Blk.c2 kR4
    have g0 := kR4.frozen 0
    have g1 := kR4.frozen 1
    go_wp2_with fail
    obtain ⟨kR5, hq5, hB5⟩ := stored_at (y := q.2.2) hq4 hB4 (Nat.le_add_right _ 1) ⟨_, _, _, rfl⟩ kR4
    obtain ⟨q0, q1⟩ := Blk.c2 kR5
    exact bodyPost_ret (v := .tuple #[.string ⟨q.1.toArray⟩, .agg #[.slice a4 m4 d4, .int .i64 q.2.2]]) (by simp [results, Try.results17, go_sem, q0, q1]) rfl ⟨_, rfl, hq5, hB5⟩
theorem refGetText_any {s : St} (sv : Value) (most : Int) (w : World) (hsl : BSl 0 w.heap.size w sv s.1) :
    Calls Try.prog 17 #[.agg #[sv, .int .i64 s.2], .int .i64 most] w (TxtR (gtxtS s (min most 1024)) w) := refGetTextP_any sv most _ (by omega) w hsl
end Go.Proofs.Ytjhfchjffiliaaa
