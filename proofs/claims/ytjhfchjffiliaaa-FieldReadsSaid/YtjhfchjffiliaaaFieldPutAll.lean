/-
  All fields, by the reference.
-/
import Derived.Test.YtjhfchjffiliaaaFieldL
import Derived.Test.YtjhfchjffiliaaaFieldRefN
import Derived.StillTailTactics
namespace Go.Proofs.Ytjhfchjffiliaaa
open Go.RowKit Go.Shelf

set_option maxRecDepth 100000 in
set_option maxHeartbeats 2000000 in
theorem putAll_any (l : List Fld) (sv : Value) (w : World) (hsl : FSl w sv l) :
    Calls Try.prog 9 #[sv] w (RefS (allS l) w) := by
  have hmx : Try.prog.follows .mixedOrders = true := by kernel_rfl
  obtain ⟨a, cap, rfl, hm, hok, h0⟩ := hsl
  go_enter Try.func9, Try.ntmps9
  go_wp2
  generalize hW0 : World.alloc _ _ = W0
  have kR : Blk W0 w.heap.size 28 [.slice none 0 0, .int .i64 0] := by rw [← hW0]; exact (Blk.new w _ [_, _]).alloc _
  have kA : Blk W0 (w.heap.size + 1) 28 [.slice none 0 0, .int .i64 0] := by rw [← hW0]; exact Blk.new' (vs := [_, _]) (by simp)
  have hB0 : Below w.heap.size w W0 := by rw [← hW0]; exact chainA (chain0 _ _) _
  clear hW0
  go_loopw [4] (fun i wr => ∃ k : Nat, k ≤ l.length ∧ i = .int .i64 k ∧ (Blk wr w.heap.size 28 [.slice none 0 0, .int .i64 0] ∧ ∃ a m c, Blk wr (w.heap.size + 1) 28 [.slice a m c, .int .i64 (allS (l.take k)).2] ∧ BSl 0 wr.heap.size wr (.slice a m c) (allS (l.take k)).1) ∧ Below w.heap.size w wr) (fun i _ => l.length - (intOf i).toNat)
  case atStart => exact ⟨0, by omega, rfl, ⟨kR, _, _, _, kA, BSl.nil _ _ _⟩, hB0⟩
  case round =>
    clear kR kA hB0
    obtain ⟨k, hk, rfl, ⟨kR, a', m', c', kA, hsl⟩, hB⟩ := hrel
    by_cases hlt : k < l.length
    · obtain ⟨f, hf⟩ : ∃ f, l[k]? = some f := ⟨_, List.getElem?_eq_getElem hlt⟩
      obtain ⟨b, off, rfl, hbw, hr⟩ := h0.resolve_left (by intro e; rw [e] at hlt; simp at hlt)
      have HF := Lib.hid (allS_snoc hf)
      have hokf := hok f (List.mem_of_getElem? hf)
      obtain ⟨x0, x1, x2, x3, x4, x5, x6⟩ := (hr.below hB hbw).at hf
      have w4 := hokf.w4
      have HOK := Lib.hid hok
      have HFF := Lib.hid hf
      have hoks := okS_all (l.take k)
      clear hf hok hokf
      generalize hL : l.length = L at *
      have HL := Lib.hid hL
      clear hL
      generalize allS (l.take k) = s at *
      have hlt' : (k : Int) < (L : Int) := by omega
      rcases kindF_cases f.k with hk0 | hk0 | hk0
      · have HS : Hid (stepS s f = numS s f.n) := by rw [stepS, if_pos hk0]; exact Lib.hid rfl
        have HK := Lib.hid hk0
        clear hk0
        go_wp2_with (first
          | (go_at_call 14; refine (kind_any f _).mono ?_; rw [HK.out]; rintro e w2 ⟨rfl, hb2⟩; have x1' := (hb2.cell (p := ⟨b, off + k * 7 + 1, none⟩) (Nat.lt_of_lt_of_le hbw hB.size)).trans x1; have kA2 := kA.below hb2 kA.lt; obtain ⟨c0, c1⟩ := Blk.c2 kA2))
        go_still_tail 6, (by kernel_rfl)
        change wpList _ _ _ _ _ w2.drew
        have hB2 : Below w.heap.size w w2.drew := (chain hB hb2).drew
        have kA3 : Blk w2.drew (w.heap.size + 1) 28 [.slice a' m' c', .int .i64 s.2] := kA2
        have kR3 : Blk w2.drew w.heap.size 28 [.slice none 0 0, .int .i64 0] := kR.below hb2.drew kR.lt
        have hsl3 : BSl 0 w2.drew.heap.size w2.drew (.slice a' m' c') s.1 := (hsl.below hb2.drew (Nat.le_refl _)).mono (Nat.le_refl _) hb2.size
        clear kA2 c0 c1 kR kA hb2 x1 x1' hsl hB x0
        generalize w2.drew = w3 at *
        go_wp2_with (first
          | (go_at_call 30; refine (refNum6_any hoks (.slice a' m' c') f.n w3 hsl3).mono ?_; rintro e w4 ⟨v, rfl, hv, hb4⟩; obtain ⟨va, vm, vc, rfl⟩ := hv.shape3; have kA4 := kA3.below hb4 kA3.lt; obtain ⟨r0, r1⟩ := Blk.c2 kA4; have g0 := kA4.frozen 0; have g1 := kA4.frozen 1))
        obtain ⟨kA5, hsl5, hB5⟩ := stored_at (y := (numS s f.n).2) hv (chain hB2 hb4) (Nat.le_add_right _ 1) ⟨_, _, _, rfl⟩ kA4
        go_roundw
        case rel => exact ⟨k + 1, by omega, by go_num, ⟨((kR3.below hb4 kR3.lt).other 0 _ (by omega)).other 1 _ (by omega), _, _, _, by rw [HF.out, HS.out]; exact kA5, by rw [HF.out, HS.out]; exact hsl5⟩, hB5⟩
        case measure => simp [intOf]; omega
      · have HS : Hid (stepS s f = txtS s f.t) := by rw [stepS, if_neg (by omega), if_pos hk0]; exact Lib.hid rfl
        have HK := Lib.hid hk0
        clear hk0
        go_wp2_with (first
          | (go_at_call 14; refine (kind_any f _).mono ?_; rw [HK.out]; rintro e w2 ⟨rfl, hb2⟩; have x2' := (hb2.cell (p := ⟨b, off + k * 7 + 2, none⟩) (Nat.lt_of_lt_of_le hbw hB.size)).trans x2; have kA2 := kA.below hb2 kA.lt; obtain ⟨c0, c1⟩ := Blk.c2 kA2))
        go_still_tail 6, (by kernel_rfl)
        change wpList _ _ _ _ _ w2.drew
        have hB2 : Below w.heap.size w w2.drew := (chain hB hb2).drew
        have kA3 : Blk w2.drew (w.heap.size + 1) 28 [.slice a' m' c', .int .i64 s.2] := kA2
        have kR3 : Blk w2.drew w.heap.size 28 [.slice none 0 0, .int .i64 0] := kR.below hb2.drew kR.lt
        have hsl3 : BSl 0 w2.drew.heap.size w2.drew (.slice a' m' c') s.1 := (hsl.below hb2.drew (Nat.le_refl _)).mono (Nat.le_refl _) hb2.size
        clear kA2 c0 c1 kR kA hb2 x2 x2' hsl hB x0
        generalize w2.drew = w3 at *
        go_wp2_with (first
          | (go_at_call 31; refine (refText6_any hoks (.slice a' m' c') f.t w3 hsl3).mono ?_; rintro e w4 ⟨v, rfl, hv, hb4⟩; obtain ⟨va, vm, vc, rfl⟩ := hv.shape3; have kA4 := kA3.below hb4 kA3.lt; obtain ⟨r0, r1⟩ := Blk.c2 kA4; have g0 := kA4.frozen 0; have g1 := kA4.frozen 1))
        obtain ⟨kA5, hsl5, hB5⟩ := stored_at (y := (txtS s f.t).2) hv (chain hB2 hb4) (Nat.le_add_right _ 1) ⟨_, _, _, rfl⟩ kA4
        go_roundw
        case rel => exact ⟨k + 1, by omega, by go_num, ⟨((kR3.below hb4 kR3.lt).other 0 _ (by omega)).other 1 _ (by omega), _, _, _, by rw [HF.out, HS.out]; exact kA5, by rw [HF.out, HS.out]; exact hsl5⟩, hB5⟩
        case measure => simp [intOf]; omega
      · have HS : Hid (stepS s f = wideS s f.a0 f.a1 f.a2 f.a3) := by rw [stepS, if_neg (by omega), if_neg (by omega)]; exact Lib.hid rfl
        have HK := Lib.hid hk0
        clear hk0
        go_wp2_with (first
          | (go_at_call 14; refine (kind_any f _).mono ?_; rw [HK.out]; rintro e w2 ⟨rfl, hb2⟩; have x3' := (hb2.cell (p := ⟨b, off + k * 7 + 3, none⟩) (Nat.lt_of_lt_of_le hbw hB.size)).trans x3; have x4' := (hb2.cell (p := ⟨b, off + k * 7 + 4, none⟩) (Nat.lt_of_lt_of_le hbw hB.size)).trans x4; have x5' := (hb2.cell (p := ⟨b, off + k * 7 + 5, none⟩) (Nat.lt_of_lt_of_le hbw hB.size)).trans x5; have x6' := (hb2.cell (p := ⟨b, off + k * 7 + 6, none⟩) (Nat.lt_of_lt_of_le hbw hB.size)).trans x6; have kA2 := kA.below hb2 kA.lt; obtain ⟨c0, c1⟩ := Blk.c2 kA2))
        go_still_tail 6, (by kernel_rfl)
        change wpList _ _ _ _ _ w2.drew
        have hB2 : Below w.heap.size w w2.drew := (chain hB hb2).drew
        have kA3 : Blk w2.drew (w.heap.size + 1) 28 [.slice a' m' c', .int .i64 s.2] := kA2
        have kR3 : Blk w2.drew w.heap.size 28 [.slice none 0 0, .int .i64 0] := kR.below hb2.drew kR.lt
        have hsl3 : BSl 0 w2.drew.heap.size w2.drew (.slice a' m' c') s.1 := (hsl.below hb2.drew (Nat.le_refl _)).mono (Nat.le_refl _) hb2.size
        clear kA2 c0 c1 kR kA hb2 x3 x4 x5 x6 x3' x4' x5' x6' hsl hB x0
        generalize w2.drew = w3 at *
        go_wp2_with (first
          | (go_at_call 32; refine (refWide6_any hoks (.slice a' m' c') w4 w3 hsl3).mono ?_; rintro e w4 ⟨v, rfl, hv, hb4⟩; obtain ⟨va, vm, vc, rfl⟩ := hv.shape3; have kA4 := kA3.below hb4 kA3.lt; obtain ⟨r0, r1⟩ := Blk.c2 kA4; have g0 := kA4.frozen 0; have g1 := kA4.frozen 1))
        obtain ⟨kA5, hsl5, hB5⟩ := stored_at (y := (wideS s f.a0 f.a1 f.a2 f.a3).2) hv (chain hB2 hb4) (Nat.le_add_right _ 1) ⟨_, _, _, rfl⟩ kA4
        go_roundw
        case rel => exact ⟨k + 1, by omega, by go_num, ⟨((kR3.below hb4 kR3.lt).other 0 _ (by omega)).other 1 _ (by omega), _, _, _, by rw [HF.out, HS.out]; exact kA5, by rw [HF.out, HS.out]; exact hsl5⟩, hB5⟩
        case measure => simp [intOf]; omega
    · obtain rfl : k = l.length := by omega
      rw [List.take_length] at kA hsl
      generalize hL : l.length = L at *
      have HL := Lib.hid hL
      clear hL
      obtain ⟨c0, c1⟩ := Blk.c2 kA
      obtain ⟨r0, r1⟩ := Blk.c2 kR
      have g0 := kR.frozen 0
      have g1 := kR.frozen 1
      generalize allS l = s at *
      go_wp2_with fail
      have hfin := refS_stored (s := s) hsl hB (Nat.le_refl _) ⟨_, _, _, rfl⟩ kR
      obtain ⟨q0, q1⟩ := Blk.c2 hfin.1
      exact bodyPost_ret (v := .agg #[.slice a' m' c', .int .i64 s.2]) (by simp [results, Try.results9, go_sem, q0, q1]) rfl hfin.2
end Go.Proofs.Ytjhfchjffiliaaa
