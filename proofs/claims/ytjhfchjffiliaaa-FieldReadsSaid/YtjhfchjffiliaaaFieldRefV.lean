/-
  The reference's reader: a wide number.
-/
import Derived.Test.YtjhfchjffiliaaaFieldRefG
import Derived.Test.YtjhfchjffiliaaaHeldMono
namespace Go.Proofs.Ytjhfchjffiliaaa
open Go.RowKit Go.Shelf

theorem wdg_none (q : Nat) (hq : q < 4) : wdg (fun _ => 0) 16 q = 0 := by rw [wdg_4 _ (by omega)]
set_option maxRecDepth 100000 in
set_option maxHeartbeats 4000000 in
theorem refUnwide_nil (a : Option Addr) (cap : Nat) (w : World) :
    Calls Try.prog 38 #[.slice a 0 cap] w fun e W' => e = .returned (wv 0 0 0 0) ∧ Below w.heap.size w W' := by
  have hmk := run_make16
  go_enter Try.func38, Try.ntmps38
  go_wp2
  clear hmk
  go_loopw [4] (fun i wr => i = .int .i64 0 ∧ Blk wr w.heap.size 40 (ws fun _ => 0) ∧ Blk wr (w.heap.size + 1) 3 (ds (fun _ => 0) 16) ∧ Below w.heap.size w wr) (fun i _ => 32 - (intOf i).toNat)
  case atStart => exact ⟨rfl, (Blk.new _ _ _).alloc _, Blk.new' (by simp), chainA (chain0 _ _) _⟩
  case round =>
    obtain ⟨rfl, k0, k1, hB⟩ := hrel
    go_wp2_with fail
    refine (made_any 16 16 (w.heap.size + 1) (fun _ => 0) (by omega) (fun k _ => by omega) wr k1.lt k1.numsOf).mono ?_
    rintro e w3 (⟨⟨i, hi1, hi2, _⟩, _⟩ | ⟨_, rfl, hb3⟩)
    · omega
    have hs0 := wdg_none 0 (by omega)
    generalize wdg (fun _ => 0) 16 0 = s0 at *
    have H0 := Lib.hid hs0
    clear hs0
    have hs1 := wdg_none 1 (by omega)
    generalize wdg (fun _ => 0) 16 1 = s1 at *
    have H1 := Lib.hid hs1
    clear hs1
    have hs2 := wdg_none 2 (by omega)
    generalize wdg (fun _ => 0) 16 2 = s2 at *
    have H2 := Lib.hid hs2
    clear hs2
    have hs3 := wdg_none 3 (by omega)
    generalize wdg (fun _ => 0) 16 3 = s3 at *
    have H3 := Lib.hid hs3
    clear hs3
    have k3 := k0.below hb3 k0.lt
    have d3 := chain hB hb3
    have c0 : w3.cell? ⟨w.heap.size, 0, none⟩ = some (.int .u64 ((0 : Nat) : Int)) := k3.cell 0
    have c1 : w3.cell? ⟨w.heap.size, 1, none⟩ = some (.int .u64 ((0 : Nat) : Int)) := k3.cell 1
    have c2 : w3.cell? ⟨w.heap.size, 2, none⟩ = some (.int .u64 ((0 : Nat) : Int)) := k3.cell 2
    have c3 : w3.cell? ⟨w.heap.size, 3, none⟩ = some (.int .u64 ((0 : Nat) : Int)) := k3.cell 3
    have f0 := k3.frozen 0
    have f1 := k3.frozen 1
    have f2 := k3.frozen 2
    have f3 := k3.frozen 3
    have l3 := k3.lt
    go_wp2
    have k4 := ((((k3.set 0 (.int .u64 (s0 : Nat))).set 1 (.int .u64 (s1 : Nat))).set 2 (.int .u64 (s2 : Nat))).set 3 (.int .u64 (s3 : Nat))).alloc (.cells #[.int .u64 (s0 : Nat), .int .u64 (s1 : Nat), .int .u64 (s2 : Nat), .int .u64 (s3 : Nat)] 40)
    have r0 := k4.cell 0
    have r1 := k4.cell 1
    have r2 := k4.cell 2
    have r3 := k4.cell 3
    simp only [ws, List.set_cons_zero, List.set_cons_succ, List.getElem?_cons_zero, List.getElem?_cons_succ] at r0 r1 r2 r3
    have hB' := ((((d3.setCell (p := ⟨w.heap.size, 0, none⟩) (Nat.le_refl _) (.int .u64 (s0 : Nat))).setCell (p := ⟨w.heap.size, 1, none⟩) (Nat.le_refl _) (.int .u64 (s1 : Nat))).setCell (p := ⟨w.heap.size, 2, none⟩) (Nat.le_refl _) (.int .u64 (s2 : Nat))).setCell (p := ⟨w.heap.size, 3, none⟩) (Nat.le_refl _) (.int .u64 (s3 : Nat))).alloc (by simp; omega) (.cells #[.int .u64 (s0 : Nat), .int .u64 (s1 : Nat), .int .u64 (s2 : Nat), .int .u64 (s3 : Nat)] 40)
    exact bodyPost_ret (v := wv s0 s1 s2 s3) (by simp [results, Try.f38, go_sem, r0, r1, r2, r3]) rfl ⟨by rw [H0.out, H1.out, H2.out, H3.out], hB'⟩
theorem refUnwideS_any (l : List UInt8) (sv : Value) (w : World) (hl : l.length = 32 ∨ l = []) (hsv : BSl 0 w.heap.size w sv l) :
    Calls Try.prog 38 #[sv] w fun e W' => e = .returned (wv (wdS l 0) (wdS l 1) (wdS l 2) (wdS l 3)) ∧ Below w.heap.size w W' := by
  rcases hl with hl | rfl
  · refine (refUnwide_any l sv w hl hsv).mono ?_
    rintro e W' ⟨he, hb⟩
    exact ⟨by rw [he]; unfold wdS; simp only [hl, if_true], hb⟩
  · obtain ⟨a, c, rfl, -⟩ := hsv
    exact refUnwide_nil a c w
theorem words_keep {l : List UInt8} {Y : World} {v : Value} {T : TypeId} {NB : Nat} {b0 b1 b2 b3 : Int} {y0 y1 y2 y3 : Int} (hv : BSl 0 Y.heap.size Y v l) (k0 : Blk Y NB T [.int .u64 b0, .int .u64 b1, .int .u64 b2, .int .u64 b3]) :
    BSl 0 ((((Y.setCell ⟨NB, 0, none⟩ (.int .u64 y0)).setCell ⟨NB, 1, none⟩ (.int .u64 y1)).setCell ⟨NB, 2, none⟩ (.int .u64 y2)).setCell ⟨NB, 3, none⟩ (.int .u64 y3)).heap.size ((((Y.setCell ⟨NB, 0, none⟩ (.int .u64 y0)).setCell ⟨NB, 1, none⟩ (.int .u64 y1)).setCell ⟨NB, 2, none⟩ (.int .u64 y2)).setCell ⟨NB, 3, none⟩ (.int .u64 y3)) v l := by
  have k1 := k0.set 0 (.int .u64 y0)
  have k2 := k1.set 1 (.int .u64 y1)
  have k3 := k2.set 2 (.int .u64 y2)
  exact ((((hv.to (Nat.le_refl _) (grownBy_setCell4 Y NB 0 (.int .u64 y0)) (fun r e => by cases e; exact noOct4 k0)).to (by simp) (grownBy_setCell4 _ NB 1 (.int .u64 y1)) (fun r e => by cases e; exact noOct4 k1)).to (by simp) (grownBy_setCell4 _ NB 2 (.int .u64 y2)) (fun r e => by cases e; exact noOct4 k2)).to (by simp) (grownBy_setCell4 _ NB 3 (.int .u64 y3)) (fun r e => by cases e; exact noOct4 k3)).mono (Nat.le_refl _) (by simp)
theorem takeS_all (s : St) (n : Nat) : (takeS s n).1.length = n ∨ (takeS s n).1 = [] := by
  unfold takeS; split
  · split
    · left; rw [List.length_take]; omega
    · exact .inr rfl
  · exact .inr rfl

set_option maxRecDepth 100000 in
set_option maxHeartbeats 4000000 in
theorem refGetWide_any {s : St} (sv : Value) (w : World) (hsl : BSl 0 w.heap.size w sv s.1) :
    Calls Try.prog 19 #[.agg #[sv, .int .i64 s.2]] w (WidR (takeS s 32) w) := by
  have hmx : Try.prog.follows .mixedOrders = true := by kernel_rfl
  obtain ⟨a, m, c, rfl⟩ := hsl.shape3
  have hl := takeS_all s 32
  generalize hr : takeS s 32 = r at *
  have HR := Lib.hid hr
  clear hr
  have HU := Lib.hid (fun sv w1 hs => refUnwideS_any r.1 sv w1 hl hs)
  clear hl
  generalize hq0 : wdS r.1 0 = y0 at *
  have HQ0 := Lib.hid hq0
  clear hq0
  generalize hq1 : wdS r.1 1 = y1 at *
  have HQ1 := Lib.hid hq1
  clear hq1
  generalize hq2 : wdS r.1 2 = y2 at *
  have HQ2 := Lib.hid hq2
  clear hq2
  generalize hq3 : wdS r.1 3 = y3 at *
  have HQ3 := Lib.hid hq3
  clear hq3
  go_enter Try.func19, Try.ntmps19
  go_wp2_with fail
  generalize hW0 : World.alloc _ _ = W0
  have kA : Blk W0 w.heap.size 35 [.slice a m c, .int .i64 s.2] := by rw [← hW0]; exact ((Blk.new w _ [_, _]).alloc _).alloc _
  have kV : Blk W0 (w.heap.size + 1) 40 [.int .u64 0, .int .u64 0, .int .u64 0, .int .u64 0] := by rw [← hW0]; exact (Blk.new' (vs := [_, _, _, _]) (by simp)).alloc _
  have kR : Blk W0 (w.heap.size + 2) 35 [.slice none 0 0, .int .i64 0] := by rw [← hW0]; exact Blk.new' (vs := [_, _]) (by simp)
  have hB0 : Below w.heap.size w W0 := by rw [← hW0]; exact chainA (chainA (chain0 _ _) _) _
  clear hW0
  obtain ⟨c0, c1⟩ := Blk.c2 kA
  have hsl0 := (hsl.below hB0 (Nat.le_refl _)).mono (Nat.le_refl _) hB0.size
  go_wp2_with (go_at_call 34; refine (refTake_any (s := s) 32 (.slice a m c) _ hsl0).mono ?_; rw [HR.out]; rintro e w1 ⟨v1, v2, rfl, hv1, hv2, hb1⟩; obtain ⟨a1, m1, d1, rfl⟩ := hv1.shape3; obtain ⟨a2, m2, d2, rfl⟩ := hv2.shape3)
  have hX := chain0 w1 (.cells #[.slice a2 m2 d2, .int .i64 r.2.2] 35)
  have kX : Blk (w1.alloc (.cells #[.slice a2 m2 d2, .int .i64 r.2.2] 35)) w1.heap.size 35 [.slice a2 m2 d2, .int .i64 r.2.2] := Blk.new w1 _ [_, _]
  have kR2 := (kR.below hb1 kR.lt).alloc (.cells #[.slice a2 m2 d2, .int .i64 r.2.2] 35)
  have kV2 := (kV.below hb1 kV.lt).alloc (.cells #[.slice a2 m2 d2, .int .i64 r.2.2] 35)
  have hB2 := chainA (chain hB0 hb1) (.cells #[.slice a2 m2 d2, .int .i64 r.2.2] 35)
  have hq2 := (hv2.below hX (Nat.le_refl _)).mono (Nat.le_refl _) hX.size
  have hq1 := (hv1.below hX (Nat.le_refl _)).mono (Nat.le_refl _) hX.size
  have hne : w.heap.size + 2 < w1.heap.size := (kR.below hb1 kR.lt).lt
  clear kA kR kV hv1 hv2 hb1 hB0 hsl0 hX c0 c1
  generalize w1.alloc (.cells #[.slice a2 m2 d2, .int .i64 r.2.2] 35) = Wq at *
  generalize w1.heap.size = XB at *
  refine wp_region_held_drew (S := fun W => Blk W XB 35 [.slice a2 m2 d2, .int .i64 r.2.2]) hmx kX ?_
  intro hS
  replace kR2 : Blk Wq.drew (w.heap.size + 2) 35 [.slice none 0 0, .int .i64 0] := kR2
  replace kV2 : Blk Wq.drew (w.heap.size + 1) 40 [.int .u64 0, .int .u64 0, .int .u64 0, .int .u64 0] := kV2
  replace hB2 : Below w.heap.size w Wq.drew := hB2.drew
  replace hq2 : BSl 0 Wq.drew.heap.size Wq.drew (.slice a2 m2 d2) r.2.1 := hq2
  replace hq1 : BSl 0 Wq.drew.heap.size Wq.drew (.slice a1 m1 d1) r.1 := hq1
  clear kX
  generalize Wq.drew = Y at *
  refine' wpAnyH_take (i := 0) (oi := _) (v := _) ?hi1 (by kernel_rfl) (by kernel_rfl) (by kernel_rfl) ?hQ1 (Or.inl ⟨?hw1, ?hy1⟩) hS ?rest1
  case hi1 => simp only [List.getElem?_toArray, List.getElem?_cons_zero]; rfl
  case hQ1 => exact fun _ _ _ h => h
  case hw1 => rfl
  case hy1 => intro W' hS'; go_simp; with_reducible rfl
  try simp only [Act.put, List.setIfInBounds_toArray, List.set_cons_zero, List.set_cons_succ]
  refine' wpAnyH_take (i := 2) (oi := _) (v := _) ?hi2 (by kernel_rfl) (by kernel_rfl) (by kernel_rfl) ?hQ2 (Or.inl ⟨?hw2, ?hy2⟩) hS ?rest2
  case hi2 => simp only [List.getElem?_toArray, List.getElem?_cons_succ, List.getElem?_cons_zero]; rfl
  case hQ2 => exact fun _ _ _ h => h
  case hw2 => rfl
  case hy2 => intro W' hS'; obtain ⟨c0, c1⟩ := Blk.c2 hS'; go_simp; with_reducible rfl
  try simp only [Act.put, List.setIfInBounds_toArray, List.set_cons_zero, List.set_cons_succ]
  refine wpAnyH_ready (rs := [1]) (by kernel_rfl) (by simp) ?_
  refine' AllReadyH.cons (o := _) ?ho3 (fun K hK => ?st3) AllReadyH.nil
  case ho3 => simp only [List.getElem?_toArray, List.getElem?_cons_succ, List.getElem?_cons_zero]; rfl
  case st3 =>
    go_simp
    refine (HU.out _ _ hq1).mono ?_
    rintro e Y1 ⟨rfl, hb⟩
    refine hK.out _ _ (hS.below hb hS.lt) (fun hS => ?_)
    clear hK K
    try simp only [Act.put, List.setIfInBounds_toArray, List.set_cons_zero, List.set_cons_succ]
    have kR3 := kR2.below hb kR2.lt
    have kV3 := kV2.below hb kV2.lt
    have hB3 := chain hB2 hb
    have hq3 := (hq2.below hb (Nat.le_refl _)).mono (Nat.le_refl _) hb.size
    clear hb kR2 kV2 hB2 hq2 hq1
    refine wpAnyH_ready (rs := [3]) (by kernel_rfl) (by simp) ?_
    refine' AllReadyH.cons (o := _) ?ho4 (fun K hK => ?st4) AllReadyH.nil
    case ho4 => simp only [List.getElem?_toArray, List.getElem?_cons_succ, List.getElem?_cons_zero]; rfl
    case st4 =>
      obtain ⟨r0, r1, r2, r3⟩ := Blk.c4 kV3
      have g0 := kV3.frozen 0
      have g1 := kV3.frozen 1
      have g2 := kV3.frozen 2
      have g3 := kV3.frozen 3
      go_simp
      have kV4 := (((kV3.set 0 (.int .u64 (y0 : Nat))).set 1 (.int .u64 (y1 : Nat))).set 2 (.int .u64 (y2 : Nat))).set 3 (.int .u64 (y3 : Nat))
      have kR4 := (((kR3.other 0 (.int .u64 (y0 : Nat)) (by omega : w.heap.size + 2 ≠ w.heap.size + 1)).other 1 (.int .u64 (y1 : Nat)) (by omega : w.heap.size + 2 ≠ w.heap.size + 1)).other 2 (.int .u64 (y2 : Nat)) (by omega : w.heap.size + 2 ≠ w.heap.size + 1)).other 3 (.int .u64 (y3 : Nat)) (by omega : w.heap.size + 2 ≠ w.heap.size + 1)
      have hB4 := (((hB3.setCell (p := ⟨w.heap.size + 1, 0, none⟩) (Nat.le_add_right _ 1) (.int .u64 (y0 : Nat))).setCell (p := ⟨w.heap.size + 1, 1, none⟩) (Nat.le_add_right _ 1) (.int .u64 (y1 : Nat))).setCell (p := ⟨w.heap.size + 1, 2, none⟩) (Nat.le_add_right _ 1) (.int .u64 (y2 : Nat))).setCell (p := ⟨w.heap.size + 1, 3, none⟩) (Nat.le_add_right _ 1) (.int .u64 (y3 : Nat))
      have hq4 := words_keep hq3 kV3 (y0 := y0) (y1 := y1) (y2 := y2) (y3 := y3)
      refine hK.out _ _ ((((hS.other 0 _ (by omega)).other 1 _ (by omega)).other 2 _ (by omega)).other 3 _ (by omega)) (fun hS => ?_)
      clear hK K
      try simp only [Act.put, List.setIfInBounds_toArray, List.set_cons_zero, List.set_cons_succ]
      clear r0 r1 r2 r3 g0 g1 g2 g3 kV3 kR3 hB3 hq3
      generalize World.setCell (World.setCell (World.setCell (World.setCell Y1 _ _) _ _) _ _) _ _ = Y2 at *
      refine wpAnyH_ready (rs := [4]) (by kernel_rfl) (by simp) ?_
      refine' AllReadyH.cons (o := _) ?ho5 (fun K hK => ?st5) AllReadyH.nil
      case ho5 => simp only [List.getElem?_toArray, List.getElem?_cons_succ, List.getElem?_cons_zero]; rfl
      case st5 =>
        obtain ⟨r0, r1⟩ := Blk.c2 kR4
        have g0 := kR4.frozen 0
        have g1 := kR4.frozen 1
        go_simp
        obtain ⟨kR5, hq5, hB5⟩ := stored_at (y := r.2.2) hq4 hB4 (Nat.le_add_right _ 2) ⟨_, _, _, rfl⟩ kR4
        have kV5 := (kV4.other 0 (.slice a2 m2 d2) (by omega : w.heap.size + 1 ≠ w.heap.size + 2)).other 1 (.int .i64 r.2.2) (by omega : w.heap.size + 1 ≠ w.heap.size + 2)
        refine hK.out _ _ ((hS.other 0 _ (by omega)).other 1 _ (by omega)) (fun hS => ?_)
        clear hK K
        try simp only [Act.put, List.setIfInBounds_toArray, List.set_cons_zero, List.set_cons_succ]
        refine wpAnyH_done (by kernel_rfl) ?_ _
        go_wp2_with fail
        obtain ⟨q0, q1⟩ := Blk.c2 kR5
        obtain ⟨p0, p1, p2, p3⟩ := Blk.c4 kV5
        exact bodyPost_ret (v := .tuple #[wv y0 y1 y2 y3, .agg #[.slice a2 m2 d2, .int .i64 r.2.2]]) (by simp [results, Try.results19, go_sem, q0, q1, p0, p1, p2, p3]) rfl ⟨_, by rw [HQ0.out, HQ1.out, HQ2.out, HQ3.out], hq5, hB5⟩
end Go.Proofs.Ytjhfchjffiliaaa
