/-
  The reference's reader of fields.
-/
import Derived.Test.YtjhfchjffiliaaaFieldIn
import Derived.Test.YtjhfchjffiliaaaFieldRefN
import Derived.Test.YtjhfchjffiliaaaRefNum
import Derived.Test.YtjhfchjffiliaaaRefUnwide
import Derived.StillTailTactics
import Derived.Outline
namespace Go.Proofs.Ytjhfchjffiliaaa
open Go.RowKit Go.Shelf

/-- What is taken, and what is left. -/
def TakR (r : List UInt8 × St) (w : World) (e : Ending) (W' : World) : Prop :=
  ∃ v1 v2, e = .returned (.tuple #[v1, .agg #[v2, .int .i64 r.2.2]]) ∧ BSl 0 W'.heap.size W' v1 r.1 ∧ BSl 0 W'.heap.size W' v2 r.2.1 ∧ Below w.heap.size w W'

theorem bsl_take2 {lo hi : Nat} {W : World} {a : Option Addr} {n c : Nat} {l : List UInt8} (h : BSl lo hi W (.slice a n c) l) {k : Nat} (hk : k ≤ l.length) : BSl lo hi W (.slice a k c) (l.take k) := by
  obtain ⟨a', c', e, hc, h0⟩ := bsl_take h hk
  obtain ⟨_, _, e2, hc2, _⟩ := h
  cases e2
  obtain ⟨rfl, e3, rfl⟩ := Value.slice.inj e
  exact ⟨_, c, by rw [← e3], by omega, h0⟩
theorem takR_stored {r : List UInt8 × St} {w Y : World} {v1 v2 : Value} {NB : Nat} {z : Value} {x : Int} (h1 : BSl 0 Y.heap.size Y v1 r.1) (h2 : BSl 0 Y.heap.size Y v2 r.2.1) (hB : Below w.heap.size w Y) (hNB : w.heap.size ≤ NB) (hz : ∃ a m c, z = .slice a m c)
    (kR : Blk Y NB 35 [z, .int .i64 x]) :
    Blk ((Y.setCell ⟨NB, 0, none⟩ v2).setCell ⟨NB, 1, none⟩ (.int .i64 r.2.2)) NB 35 [v2, .int .i64 r.2.2] ∧ TakR r w (.returned (.tuple #[v1, .agg #[v2, .int .i64 r.2.2]])) ((Y.setCell ⟨NB, 0, none⟩ v2).setCell ⟨NB, 1, none⟩ (.int .i64 r.2.2)) := by
  obtain ⟨k1, q1, qB⟩ := stored_at (y := r.2.2) h2 hB hNB hz kR
  obtain ⟨a, m, c, rfl⟩ := hz
  obtain ⟨a2, m2, c2, rfl⟩ := h2.shape3
  have k0 := kR.set 0 (.slice a2 m2 c2)
  exact ⟨k1, _, _, rfl, ((h1.to (Nat.le_refl _) (grownBy_setCell4 Y NB 0 (.slice a2 m2 c2)) (fun r e => by cases e; exact noOct2 kR)).to (by simp) (grownBy_setCell4 _ NB 1 (.int .i64 r.2.2)) (fun r e => by cases e; exact noOct2 k0)).mono (Nat.le_refl _) (by simp), q1, qB⟩

set_option maxRecDepth 100000 in
set_option maxHeartbeats 1000000 in
theorem refTake_any {s : St} (k : Nat) (sv : Value) (w : World) (hsl : BSl 0 w.heap.size w sv s.1) :
    Calls Try.prog 34 #[.agg #[sv, .int .i64 s.2], .int .i64 (k : Nat)] w (TakR (takeS s k) w) := by
  have hmx : Try.prog.follows .mixedOrders = true := by kernel_rfl
  obtain ⟨a, c, rfl, hcap⟩ := hsl.shape
  generalize hn : s.1.length = n at *
  have HN := Lib.hid hn
  clear hn
  by_cases hf : s.2 = 0
  · by_cases hfit : k ≤ n
    · rw [takeS_ok hf (by rw [HN.out]; exact hfit)]
      have hf1 : (s.2 != 0) = false := by simpa using hf
      have hf2 : (s.2 == 0) = true := by simpa using hf
      clear hf
      have hgt : ¬ ((n : Int) < (k : Int)) := by omega
      have hle : (k : Int) ≤ (n : Int) := by omega
      have hle2 : (k : Int) ≤ (c : Int) := by omega
      have HDR := Lib.hid (bsl_drop hsl (k := k) (by rw [HN.out]; exact hfit))
      have HDN := Lib.hid (fun e => bsl_none hsl (k := k) (by rw [HN.out]; exact hfit) e)
      have HTK := Lib.hid (bsl_take2 hsl (k := k) (by rw [HN.out]; exact hfit))
      by_cases hck : c = k
      · subst hck
        go_enter Try.func34, Try.ntmps34
        go_wp2_with fail
        generalize hW0 : World.alloc _ _ = W0
        have kA : Blk W0 w.heap.size 35 [.slice a n c, .int .i64 s.2] := by rw [← hW0]; exact (Blk.new w _ [_, _]).alloc _
        have kR : Blk W0 (w.heap.size + 1) 35 [.slice none 0 0, .int .i64 0] := by rw [← hW0]; exact Blk.new' (vs := [_, _]) (by simp)
        have hB0 : Below w.heap.size w W0 := by rw [← hW0]; exact chainA (chain0 _ _) _
        clear hW0
        obtain ⟨c0, c1⟩ := Blk.c2 kA
        go_still_tail 10, (by kernel_rfl)
        rw [show n - c = 0 by omega, Nat.sub_self] at HDN
        change wpList _ _ _ _ _ (World.drew _)
        replace kR : Blk W0.drew (w.heap.size + 1) 35 [.slice none 0 0, .int .i64 0] := kR
        replace hB0 : Below w.heap.size w W0.drew := hB0.drew
        clear kA c0 c1
        generalize W0.drew = Y at *
        obtain ⟨r0, r1⟩ := Blk.c2 kR
        have g0 := kR.frozen 0
        have g1 := kR.frozen 1
        go_wp2_with fail
        obtain ⟨kR2, hfin⟩ := takR_stored (r := (s.1.take c, s.1.drop c, 0)) (v1 := .slice a c c) (v2 := .slice a 0 0) ((HTK.out.below hB0 (Nat.le_refl _)).mono (Nat.le_refl _) hB0.size) (((HDN.out (by trivial)).below hB0 (Nat.le_refl _)).mono (Nat.le_refl _) hB0.size) hB0 (Nat.le_add_right _ 1) ⟨_, _, _, rfl⟩ kR
        obtain ⟨q0, q1⟩ := Blk.c2 kR2
        exact bodyPost_ret (v := .tuple #[.slice a c c, .agg #[.slice a 0 0, .int .i64 ((s.1.take c, s.1.drop c, 0)).2.2]]) (by simp [results, Try.results34, go_sem, q0, q1]) rfl hfin
      · go_enter Try.func34, Try.ntmps34
        go_wp2_with fail
        generalize hW0 : World.alloc _ _ = W0
        have kA : Blk W0 w.heap.size 35 [.slice a n c, .int .i64 s.2] := by rw [← hW0]; exact (Blk.new w _ [_, _]).alloc _
        have kR : Blk W0 (w.heap.size + 1) 35 [.slice none 0 0, .int .i64 0] := by rw [← hW0]; exact Blk.new' (vs := [_, _]) (by simp)
        have hB0 : Below w.heap.size w W0 := by rw [← hW0]; exact chainA (chain0 _ _) _
        clear hW0
        obtain ⟨c0, c1⟩ := Blk.c2 kA
        go_still_tail 10, (by kernel_rfl)
        change wpList _ _ _ _ _ (World.drew _)
        replace kR : Blk W0.drew (w.heap.size + 1) 35 [.slice none 0 0, .int .i64 0] := kR
        replace hB0 : Below w.heap.size w W0.drew := hB0.drew
        clear kA c0 c1
        generalize W0.drew = Y at *
        obtain ⟨r0, r1⟩ := Blk.c2 kR
        have g0 := kR.frozen 0
        have g1 := kR.frozen 1
        go_wp2_with fail
        obtain ⟨kR2, hfin⟩ := takR_stored (r := (s.1.take k, s.1.drop k, 0)) (v1 := .slice a k c) (v2 := .slice (a.map fun x => x.add k) (n - k) (c - k)) ((HTK.out.below hB0 (Nat.le_refl _)).mono (Nat.le_refl _) hB0.size) ((HDR.out.below hB0 (Nat.le_refl _)).mono (Nat.le_refl _) hB0.size) hB0 (Nat.le_add_right _ 1) ⟨_, _, _, rfl⟩ kR
        obtain ⟨q0, q1⟩ := Blk.c2 kR2
        exact bodyPost_ret (v := .tuple #[.slice a k c, .agg #[.slice (a.map fun x => x.add k) (n - k) (c - k), .int .i64 ((s.1.take k, s.1.drop k, 0)).2.2]]) (by simp [results, Try.results34, go_sem, q0, q1]) rfl hfin
    · rw [takeS_short hf (by rw [HN.out]; omega)]
      have hgt : (n : Int) < (k : Int) := by omega
      have hf1 : (s.2 != 0) = false := by simpa using hf
      have hf2 : (s.2 == 0) = true := by simpa using hf
      clear hf
      go_enter Try.func34, Try.ntmps34
      go_wp2_with fail
      have hB : Below w.heap.size w ((w.alloc (.cells #[.slice a n c, .int .i64 s.2] 35)).alloc (.cells #[.slice none 0 0, .int .i64 16] 35)) := chainA (chain0 _ _) _
      exact bodyPost_ret (v := .tuple #[.slice none 0 0, .agg #[.slice none 0 0, .int .i64 16]]) (by simp [results, Try.results34, go_sem]) rfl ⟨_, _, rfl, BSl.nil _ _ _, BSl.nil _ _ _, hB⟩
  · rw [takeS_bad hf]
    have hf1 : (s.2 == 0) = false := by simpa using hf
    have hf2 : (s.2 != 0) = true := by simpa using hf
    clear hf
    go_enter Try.func34, Try.ntmps34
    go_wp2_with fail
    generalize hW0 : World.alloc _ _ = W0
    have kA : Blk W0 w.heap.size 35 [.slice a n c, .int .i64 s.2] := by rw [← hW0]; exact (Blk.new w _ [_, _]).alloc _
    have kR : Blk W0 (w.heap.size + 1) 35 [.slice none 0 0, .int .i64 0] := by rw [← hW0]; exact Blk.new' (vs := [_, _]) (by simp)
    have hB0 : Below w.heap.size w W0 := by rw [← hW0]; exact chainA (chain0 _ _) _
    clear hW0
    obtain ⟨c0, c1⟩ := Blk.c2 kA
    go_still_tail 2, (by kernel_rfl)
    change wpList _ _ _ _ _ (World.drew _)
    replace kR : Blk W0.drew (w.heap.size + 1) 35 [.slice none 0 0, .int .i64 0] := kR
    replace hB0 : Below w.heap.size w W0.drew := hB0.drew
    clear kA c0 c1
    generalize W0.drew = Y at *
    obtain ⟨r0, r1⟩ := Blk.c2 kR
    have g0 := kR.frozen 0
    have g1 := kR.frozen 1
    go_wp2_with fail
    obtain ⟨kR2, hfin⟩ := takR_stored (r := (([] : List UInt8), s)) (v1 := .slice none 0 0) (v2 := .slice a n c) (BSl.nil _ _ _) ((hsl.below hB0 (Nat.le_refl _)).mono (Nat.le_refl _) hB0.size) hB0 (Nat.le_add_right _ 1) ⟨_, _, _, rfl⟩ kR
    obtain ⟨q0, q1⟩ := Blk.c2 kR2
    exact bodyPost_ret (v := .tuple #[.slice none 0 0, .agg #[.slice a n c, .int .i64 ((([] : List UInt8), s)).2.2]]) (by simp [results, Try.results34, go_sem, q0, q1]) rfl hfin

/-- Octets that are left, and an error's number, as a struct. -/
def RefR (s : St) (w : World) (e : Ending) (W' : World) : Prop := ∃ sv, e = .returned (.agg #[sv, .int .i64 s.2]) ∧ BSl 0 W'.heap.size W' sv s.1 ∧ Below w.heap.size w W'
set_option maxRecDepth 100000 in
theorem refOpen6_any (l : List UInt8) (sv : Value) (w : World) (hsv : BSl 0 w.heap.size w sv l) :
    Calls Try.prog 13 #[sv] w (RefR (openS l) w) := by
  obtain ⟨a, c, rfl, -⟩ := hsv.shape
  unfold openS
  generalize l.length = n at *
  by_cases hfit : n ≤ 8192
  · rw [if_pos hfit]
    have hgt : ¬ (8192 : Int) < (n : Int) := by omega
    go_enter Try.func13, Try.ntmps13
    go_wp2_with fail
    have hB := chain0 w (.cells #[.slice a n c, .int .i64 0] 35)
    exact bodyPost_ret (v := .agg #[.slice a n c, .int .i64 0]) (by simp [results, Try.results13, go_sem]) rfl ⟨_, rfl, (hsv.below hB (Nat.le_refl _)).mono (Nat.le_refl _) hB.size, hB⟩
  · rw [if_neg hfit]
    have hgt : (8192 : Int) < (n : Int) := by omega
    go_enter Try.func13, Try.ntmps13
    go_wp2_with fail
    exact bodyPost_ret (v := .agg #[.slice none 0 0, .int .i64 5]) (by simp [results, Try.results13, go_sem]) rfl ⟨_, rfl, BSl.nil _ _ _, chain0 _ _⟩
set_option maxRecDepth 100000 in
theorem refSpoil_any {s : St} (sv : Value) (w : World) (hsl : BSl 0 w.heap.size w sv s.1) :
    Calls Try.prog 24 #[.agg #[sv, .int .i64 s.2]] w (RefR (errS s 16) w) := by
  obtain ⟨a, m, c, rfl⟩ := hsl.shape3
  by_cases hf : s.2 = 0
  · have e1 : errS s 16 = ([], 16) := if_pos hf
    rw [e1]
    clear e1
    have hf1 : (s.2 != 0) = false := by simpa using hf
    have hf2 : (s.2 == 0) = true := by simpa using hf
    clear hf
    go_enter Try.func24, Try.ntmps24
    go_wp2_with fail
    exact bodyPost_ret (v := .agg #[.slice none 0 0, .int .i64 16]) (by simp [results, Try.results24, go_sem]) rfl ⟨_, rfl, BSl.nil _ _ _, chainA (chain0 w _) _⟩
  · rw [errS_bad hf]
    have hf1 : (s.2 != 0) = true := by simpa using hf
    have hf2 : (s.2 == 0) = false := by simpa using hf
    clear hf
    go_enter Try.func24, Try.ntmps24
    go_wp2_with fail
    have hB : Below w.heap.size w ((w.alloc (.cells #[.slice a m c, .int .i64 s.2] 35)).alloc (.cells #[.slice a m c, .int .i64 s.2] 35)) := chainA (chain0 _ _) _
    exact bodyPost_ret (v := .agg #[.slice a m c, .int .i64 s.2]) (by simp [results, Try.results24, go_sem]) rfl ⟨_, rfl, (hsl.below hB (Nat.le_refl _)).mono (Nat.le_refl _) hB.size, hB⟩
end Go.Proofs.Ytjhfchjffiliaaa
