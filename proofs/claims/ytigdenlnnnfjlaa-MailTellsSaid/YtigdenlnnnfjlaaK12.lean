/-
  The reference's reader: a wide number.
  A reader by the reference: its blocks.
  A transfer, and a side's data, read by the reference.
  What the reference reads, with what is read under names.
  An ask, read by the reference.
-/
import Derived.Deep.Cut
import Derived.Test.YtigdenlnnnfjlaaK11
namespace Go.Proofs.Ytigdenlnnnfjlaa
open Go.RowKit Go.Shelf

theorem wdg_none (q : Nat) (hq : q < 4) : wdg (fun _ => 0) 16 q = 0 := by rw [wdg_4 _ (by omega)]
set_option maxRecDepth 100000 in
set_option maxHeartbeats 4000000 in
theorem refUnwide_nil (a : Option Addr) (cap : Nat) (w : World) :
    Calls Try.prog 70 #[.slice a 0 cap] w fun e W' => e = .returned (wv 0 0 0 0) ∧ Below w.heap.size w W' := by
  have hmk := run_make16
  go_enter Try.func70, Try.ntmps70
  go_wp2
  clear hmk
  go_loopw [4] (fun i wr => i = .int .i64 0 ∧ Blk wr w.heap.size 24 (ws fun _ => 0) ∧ Blk wr (w.heap.size + 1) 3 (ds (fun _ => 0) 16) ∧ Below w.heap.size w wr) (fun i _ => 32 - (intOf i).toNat)
  case atStart => exact ⟨rfl, (Blk.new _ _ _).alloc _, Blk.new' (by simp), chainA (chain0 _ _) _⟩
  case round =>
    obtain ⟨rfl, k0, k1, hB⟩ := hrel
    go_wp2_with fail
    refine (made_any 16 16 (w.heap.size + 1) (fun _ => 0) (by omega) (fun k _ => by omega) wr k1.lt k1.numsOf).mono ?_
    rintro e w3 (⟨⟨i, hi1, hi2, _⟩, _⟩ | ⟨_, rfl, hb3⟩)
    · omega
    have hs0 := wdg_none 0 (by omega)
    generalize wdg (fun _ => 0) 16 0 = s0 at *
    have H0 := Lib.hid hs0
    clear hs0
    have hs1 := wdg_none 1 (by omega)
    generalize wdg (fun _ => 0) 16 1 = s1 at *
    have H1 := Lib.hid hs1
    clear hs1
    have hs2 := wdg_none 2 (by omega)
    generalize wdg (fun _ => 0) 16 2 = s2 at *
    have H2 := Lib.hid hs2
    clear hs2
    have hs3 := wdg_none 3 (by omega)
    generalize wdg (fun _ => 0) 16 3 = s3 at *
    have H3 := Lib.hid hs3
    clear hs3
    have k3 := k0.below hb3 k0.lt
    have d3 := chain hB hb3
    have c0 : w3.cell? ⟨w.heap.size, 0, none⟩ = some (.int .u64 ((0 : Nat) : Int)) := k3.cell 0
    have c1 : w3.cell? ⟨w.heap.size, 1, none⟩ = some (.int .u64 ((0 : Nat) : Int)) := k3.cell 1
    have c2 : w3.cell? ⟨w.heap.size, 2, none⟩ = some (.int .u64 ((0 : Nat) : Int)) := k3.cell 2
    have c3 : w3.cell? ⟨w.heap.size, 3, none⟩ = some (.int .u64 ((0 : Nat) : Int)) := k3.cell 3
    have f0 := k3.frozen 0
    have f1 := k3.frozen 1
    have f2 := k3.frozen 2
    have f3 := k3.frozen 3
    have l3 := k3.lt
    go_wp2
    have k4 := ((((k3.set 0 (.int .u64 (s0 : Nat))).set 1 (.int .u64 (s1 : Nat))).set 2 (.int .u64 (s2 : Nat))).set 3 (.int .u64 (s3 : Nat))).alloc (.cells #[.int .u64 (s0 : Nat), .int .u64 (s1 : Nat), .int .u64 (s2 : Nat), .int .u64 (s3 : Nat)] 24)
    have r0 := k4.cell 0
    have r1 := k4.cell 1
    have r2 := k4.cell 2
    have r3 := k4.cell 3
    simp only [ws, List.set_cons_zero, List.set_cons_succ, List.getElem?_cons_zero, List.getElem?_cons_succ] at r0 r1 r2 r3
    have hB' := ((((d3.setCell (p := ⟨w.heap.size, 0, none⟩) (Nat.le_refl _) (.int .u64 (s0 : Nat))).setCell (p := ⟨w.heap.size, 1, none⟩) (Nat.le_refl _) (.int .u64 (s1 : Nat))).setCell (p := ⟨w.heap.size, 2, none⟩) (Nat.le_refl _) (.int .u64 (s2 : Nat))).setCell (p := ⟨w.heap.size, 3, none⟩) (Nat.le_refl _) (.int .u64 (s3 : Nat))).alloc (by simp; omega) (.cells #[.int .u64 (s0 : Nat), .int .u64 (s1 : Nat), .int .u64 (s2 : Nat), .int .u64 (s3 : Nat)] 24)
    exact bodyPost_ret (v := wv s0 s1 s2 s3) (by simp [results, Try.f70, go_sem, r0, r1, r2, r3]) rfl ⟨by rw [H0.out, H1.out, H2.out, H3.out], hB'⟩
theorem refUnwideS_any (l : List UInt8) (sv : Value) (w : World) (hl : l.length = 32 ∨ l = []) (hsv : BSl 0 w.heap.size w sv l) :
    Calls Try.prog 70 #[sv] w fun e W' => e = .returned (wv (wdS l 0) (wdS l 1) (wdS l 2) (wdS l 3)) ∧ Below w.heap.size w W' := by
  rcases hl with hl | rfl
  · refine (refUnwide_any l sv w hl hsv).mono ?_
    rintro e W' ⟨he, hb⟩
    exact ⟨by rw [he]; unfold wdS; simp only [hl, if_true], hb⟩
  · obtain ⟨a, c, rfl, -⟩ := hsv
    exact refUnwide_nil a c w
theorem words_keep {l : List UInt8} {Y : World} {v : Value} {T : TypeId} {NB : Nat} {b0 b1 b2 b3 : Int} {y0 y1 y2 y3 : Int} (hv : BSl 0 Y.heap.size Y v l) (k0 : Blk Y NB T [.int .u64 b0, .int .u64 b1, .int .u64 b2, .int .u64 b3]) :
    BSl 0 ((((Y.setCell ⟨NB, 0, none⟩ (.int .u64 y0)).setCell ⟨NB, 1, none⟩ (.int .u64 y1)).setCell ⟨NB, 2, none⟩ (.int .u64 y2)).setCell ⟨NB, 3, none⟩ (.int .u64 y3)).heap.size ((((Y.setCell ⟨NB, 0, none⟩ (.int .u64 y0)).setCell ⟨NB, 1, none⟩ (.int .u64 y1)).setCell ⟨NB, 2, none⟩ (.int .u64 y2)).setCell ⟨NB, 3, none⟩ (.int .u64 y3)) v l := by
  have k1 := k0.set 0 (.int .u64 y0)
  have k2 := k1.set 1 (.int .u64 y1)
  have k3 := k2.set 2 (.int .u64 y2)
  exact ((((hv.to (Nat.le_refl _) (grownBy_setCell4 Y NB 0 (.int .u64 y0)) (fun r e => by cases e; exact noOct4 k0)).to (by simp) (grownBy_setCell4 _ NB 1 (.int .u64 y1)) (fun r e => by cases e; exact noOct4 k1)).to (by simp) (grownBy_setCell4 _ NB 2 (.int .u64 y2)) (fun r e => by cases e; exact noOct4 k2)).to (by simp) (grownBy_setCell4 _ NB 3 (.int .u64 y3)) (fun r e => by cases e; exact noOct4 k3)).mono (Nat.le_refl _) (by simp)
theorem takeS_all (s : St) (n : Nat) : (takeS s n).1.length = n ∨ (takeS s n).1 = [] := by
  unfold takeS; split
  · split
    · left; rw [List.length_take]; omega
    · exact .inr rfl
  · exact .inr rfl

set_option maxRecDepth 100000 in
set_option maxHeartbeats 4000000 in
theorem refGetWide_any {s : St} (sv : Value) (w : World) (hsl : BSl 0 w.heap.size w sv s.1) :
    Calls Try.prog 37 #[.agg #[sv, .int .i64 s.2]] w (WidR (takeS s 32) w) := by
  have hmx : Try.prog.follows .mixedOrders = true := by kernel_rfl
  obtain ⟨a, m, c, rfl⟩ := hsl.shape3
  have hl := takeS_all s 32
  generalize hr : takeS s 32 = r at *
  have HR := Lib.hid hr
  clear hr
  have HU := Lib.hid (fun sv w1 hs => refUnwideS_any r.1 sv w1 hl hs)
  clear hl
  generalize hq0 : wdS r.1 0 = y0 at *
  have HQ0 := Lib.hid hq0
  clear hq0
  generalize hq1 : wdS r.1 1 = y1 at *
  have HQ1 := Lib.hid hq1
  clear hq1
  generalize hq2 : wdS r.1 2 = y2 at *
  have HQ2 := Lib.hid hq2
  clear hq2
  generalize hq3 : wdS r.1 3 = y3 at *
  have HQ3 := Lib.hid hq3
  clear hq3
  go_enter Try.func37, Try.ntmps37
  go_wp2_with fail
  generalize hW0 : World.alloc _ _ = W0
  have kA : Blk W0 w.heap.size 74 [.slice a m c, .int .i64 s.2] := by rw [← hW0]; exact ((Blk.new w _ [_, _]).alloc _).alloc _
  have kV : Blk W0 (w.heap.size + 1) 24 [.int .u64 0, .int .u64 0, .int .u64 0, .int .u64 0] := by rw [← hW0]; exact (Blk.new' (vs := [_, _, _, _]) (by simp)).alloc _
  have kR : Blk W0 (w.heap.size + 2) 74 [.slice none 0 0, .int .i64 0] := by rw [← hW0]; exact Blk.new' (vs := [_, _]) (by simp)
  have hB0 : Below w.heap.size w W0 := by rw [← hW0]; exact chainA (chainA (chain0 _ _) _) _
  clear hW0
  obtain ⟨c0, c1⟩ := Blk.c2 kA
  have hsl0 := (hsl.below hB0 (Nat.le_refl _)).mono (Nat.le_refl _) hB0.size
  go_wp2_with (go_at_call 67; refine (refTake_any (s := s) 32 (.slice a m c) _ hsl0).mono ?_; rw [HR.out]; rintro e w1 ⟨v1, v2, rfl, hv1, hv2, hb1⟩; obtain ⟨a1, m1, d1, rfl⟩ := hv1.shape3; obtain ⟨a2, m2, d2, rfl⟩ := hv2.shape3)
  have hX := chain0 w1 (.cells #[.slice a2 m2 d2, .int .i64 r.2.2] 74)
  have kX : Blk (w1.alloc (.cells #[.slice a2 m2 d2, .int .i64 r.2.2] 74)) w1.heap.size 74 [.slice a2 m2 d2, .int .i64 r.2.2] := Blk.new w1 _ [_, _]
  have kR2 := (kR.below hb1 kR.lt).alloc (.cells #[.slice a2 m2 d2, .int .i64 r.2.2] 74)
  have kV2 := (kV.below hb1 kV.lt).alloc (.cells #[.slice a2 m2 d2, .int .i64 r.2.2] 74)
  have hB2 := chainA (chain hB0 hb1) (.cells #[.slice a2 m2 d2, .int .i64 r.2.2] 74)
  have hq2 := (hv2.below hX (Nat.le_refl _)).mono (Nat.le_refl _) hX.size
  have hq1 := (hv1.below hX (Nat.le_refl _)).mono (Nat.le_refl _) hX.size
  have hne : w.heap.size + 2 < w1.heap.size := (kR.below hb1 kR.lt).lt
  clear kA kR kV hv1 hv2 hb1 hB0 hsl0 hX c0 c1
  generalize w1.alloc (.cells #[.slice a2 m2 d2, .int .i64 r.2.2] 74) = Wq at *
  generalize w1.heap.size = XB at *
  refine wp_region_held_drew (S := fun W => Blk W XB 74 [.slice a2 m2 d2, .int .i64 r.2.2]) hmx kX ?_
  intro hS
  replace kR2 : Blk Wq.drew (w.heap.size + 2) 74 [.slice none 0 0, .int .i64 0] := kR2
  replace kV2 : Blk Wq.drew (w.heap.size + 1) 24 [.int .u64 0, .int .u64 0, .int .u64 0, .int .u64 0] := kV2
  replace hB2 : Below w.heap.size w Wq.drew := hB2.drew
  replace hq2 : BSl 0 Wq.drew.heap.size Wq.drew (.slice a2 m2 d2) r.2.1 := hq2
  replace hq1 : BSl 0 Wq.drew.heap.size Wq.drew (.slice a1 m1 d1) r.1 := hq1
  clear kX
  generalize Wq.drew = Y at *
  refine' wpAnyH_take (i := 0) (oi := _) (v := _) ?hi1 (by kernel_rfl) (by kernel_rfl) (by kernel_rfl) ?hQ1 (Or.inl ⟨?hw1, ?hy1⟩) hS ?rest1
  case hi1 => simp only [List.getElem?_toArray, List.getElem?_cons_zero]; rfl
  case hQ1 => exact fun _ _ _ h => h
  case hw1 => rfl
  case hy1 => intro W' hS'; go_simp; with_reducible rfl
  try simp only [Act.put, List.setIfInBounds_toArray, List.set_cons_zero, List.set_cons_succ]
  refine' wpAnyH_take (i := 2) (oi := _) (v := _) ?hi2 (by kernel_rfl) (by kernel_rfl) (by kernel_rfl) ?hQ2 (Or.inl ⟨?hw2, ?hy2⟩) hS ?rest2
  case hi2 => simp only [List.getElem?_toArray, List.getElem?_cons_succ, List.getElem?_cons_zero]; rfl
  case hQ2 => exact fun _ _ _ h => h
  case hw2 => rfl
  case hy2 => intro W' hS'; obtain ⟨c0, c1⟩ := Blk.c2 hS'; go_simp; with_reducible rfl
  try simp only [Act.put, List.setIfInBounds_toArray, List.set_cons_zero, List.set_cons_succ]
  refine wpAnyH_ready (rs := [1]) (by kernel_rfl) (by simp) ?_
  refine' AllReadyH.cons (o := _) ?ho3 (fun K hK => ?st3) AllReadyH.nil
  case ho3 => simp only [List.getElem?_toArray, List.getElem?_cons_succ, List.getElem?_cons_zero]; rfl
  case st3 =>
    go_simp
    refine (HU.out _ _ hq1).mono ?_
    rintro e Y1 ⟨rfl, hb⟩
    refine hK.out _ _ (hS.below hb hS.lt) (fun hS => ?_)
    clear hK K
    try simp only [Act.put, List.setIfInBounds_toArray, List.set_cons_zero, List.set_cons_succ]
    have kR3 := kR2.below hb kR2.lt
    have kV3 := kV2.below hb kV2.lt
    have hB3 := chain hB2 hb
    have hq3 := (hq2.below hb (Nat.le_refl _)).mono (Nat.le_refl _) hb.size
    clear hb kR2 kV2 hB2 hq2 hq1
    refine wpAnyH_ready (rs := [3]) (by kernel_rfl) (by simp) ?_
    refine' AllReadyH.cons (o := _) ?ho4 (fun K hK => ?st4) AllReadyH.nil
    case ho4 => simp only [List.getElem?_toArray, List.getElem?_cons_succ, List.getElem?_cons_zero]; rfl
    case st4 =>
      obtain ⟨r0, r1, r2, r3⟩ := Blk.c4 kV3
      have g0 := kV3.frozen 0
      have g1 := kV3.frozen 1
      have g2 := kV3.frozen 2
      have g3 := kV3.frozen 3
      go_simp
      have kV4 := (((kV3.set 0 (.int .u64 (y0 : Nat))).set 1 (.int .u64 (y1 : Nat))).set 2 (.int .u64 (y2 : Nat))).set 3 (.int .u64 (y3 : Nat))
      have kR4 := (((kR3.other 0 (.int .u64 (y0 : Nat)) (by omega : w.heap.size + 2 ≠ w.heap.size + 1)).other 1 (.int .u64 (y1 : Nat)) (by omega : w.heap.size + 2 ≠ w.heap.size + 1)).other 2 (.int .u64 (y2 : Nat)) (by omega : w.heap.size + 2 ≠ w.heap.size + 1)).other 3 (.int .u64 (y3 : Nat)) (by omega : w.heap.size + 2 ≠ w.heap.size + 1)
      have hB4 := (((hB3.setCell (p := ⟨w.heap.size + 1, 0, none⟩) (Nat.le_add_right _ 1) (.int .u64 (y0 : Nat))).setCell (p := ⟨w.heap.size + 1, 1, none⟩) (Nat.le_add_right _ 1) (.int .u64 (y1 : Nat))).setCell (p := ⟨w.heap.size + 1, 2, none⟩) (Nat.le_add_right _ 1) (.int .u64 (y2 : Nat))).setCell (p := ⟨w.heap.size + 1, 3, none⟩) (Nat.le_add_right _ 1) (.int .u64 (y3 : Nat))
      have hq4 := words_keep hq3 kV3 (y0 := y0) (y1 := y1) (y2 := y2) (y3 := y3)
      refine hK.out _ _ ((((hS.other 0 _ (by omega)).other 1 _ (by omega)).other 2 _ (by omega)).other 3 _ (by omega)) (fun hS => ?_)
      clear hK K
      try simp only [Act.put, List.setIfInBounds_toArray, List.set_cons_zero, List.set_cons_succ]
      clear r0 r1 r2 r3 g0 g1 g2 g3 kV3 kR3 hB3 hq3
      generalize World.setCell (World.setCell (World.setCell (World.setCell Y1 _ _) _ _) _ _) _ _ = Y2 at *
      refine wpAnyH_ready (rs := [4]) (by kernel_rfl) (by simp) ?_
      refine' AllReadyH.cons (o := _) ?ho5 (fun K hK => ?st5) AllReadyH.nil
      case ho5 => simp only [List.getElem?_toArray, List.getElem?_cons_succ, List.getElem?_cons_zero]; rfl
      case st5 =>
        obtain ⟨r0, r1⟩ := Blk.c2 kR4
        have g0 := kR4.frozen 0
        have g1 := kR4.frozen 1
        go_simp
        obtain ⟨kR5, hq5, hB5⟩ := stored_at (y := r.2.2) hq4 hB4 (Nat.le_add_right _ 2) ⟨_, _, _, rfl⟩ kR4
        have kV5 := (kV4.other 0 (.slice a2 m2 d2) (by omega : w.heap.size + 1 ≠ w.heap.size + 2)).other 1 (.int .i64 r.2.2) (by omega : w.heap.size + 1 ≠ w.heap.size + 2)
        refine hK.out _ _ ((hS.other 0 _ (by omega)).other 1 _ (by omega)) (fun hS => ?_)
        clear hK K
        try simp only [Act.put, List.setIfInBounds_toArray, List.set_cons_zero, List.set_cons_succ]
        refine wpAnyH_done (by kernel_rfl) ?_ _
        go_wp2_with fail
        obtain ⟨q0, q1⟩ := Blk.c2 kR5
        obtain ⟨p0, p1, p2, p3⟩ := Blk.c4 kV5
        exact bodyPost_ret (v := .tuple #[wv y0 y1 y2 y3, .agg #[.slice a2 m2 d2, .int .i64 r.2.2]]) (by simp [results, Try.results37, go_sem, q0, q1, p0, p1, p2, p3]) rfl ⟨_, by rw [HQ0.out, HQ1.out, HQ2.out, HQ3.out], hq5, hB5⟩
end Go.Proofs.Ytigdenlnnnfjlaa

namespace Go.Proofs.Ytigdenlnnnfjlaa
open Go.RowKit Go.Shelf

/-- The blocks of such a reader: what is left; the two results; what has been read so far. -/
structure RW (T : TypeId) (vp : List Value) (w Y : World) (s : St) (z : Value) (vs : List Value) : Prop where
  a : Blk Y w.heap.size 74 [z, .int .i64 s.2]
  p : Blk Y (w.heap.size + 1) T vp
  q : Blk Y (w.heap.size + 2) 74 [.slice none 0 0, .int .i64 0]
  l : Blk Y (w.heap.size + 3) T vs
  b : BSl 0 Y.heap.size Y z s.1
  n : ∀ u ∈ vs, ∀ y, u ≠ bv y
  w : Below w.heap.size w Y
theorem RW.below {T : TypeId} {vp : List Value} {w Y Y' : World} {s : St} {z : Value} {vs : List Value} (h : RW T vp w Y s z vs) (hb : Below Y.heap.size Y Y') : RW T vp w Y' s z vs :=
  ⟨h.a.below hb h.a.lt, h.p.below hb h.p.lt, h.q.below hb h.q.lt, h.l.below hb h.l.lt, (h.b.below hb (Nat.le_refl _)).mono (Nat.le_refl _) hb.size, h.n, chain h.w hb⟩
theorem RW.set {T : TypeId} {vp : List Value} {w Y : World} {s : St} {z : Value} {vs : List Value} (h : RW T vp w Y s z vs) {sv : Value} {l : List UInt8} (hv : BSl 0 Y.heap.size Y sv l) (k : Nat) (v : Value) (hn : ∀ y, v ≠ bv y) :
    RW T vp w (Y.setCell ⟨w.heap.size + 3, k, none⟩ v) s z (vs.set k v) ∧ BSl 0 (Y.setCell ⟨w.heap.size + 3, k, none⟩ v).heap.size (Y.setCell ⟨w.heap.size + 3, k, none⟩ v) sv l := by
  have tu : ∀ {sv : Value} {l : List UInt8}, BSl 0 Y.heap.size Y sv l → BSl 0 (Y.setCell ⟨w.heap.size + 3, k, none⟩ v).heap.size (Y.setCell ⟨w.heap.size + 3, k, none⟩ v) sv l := fun hv =>
    (hv.to (Nat.le_refl _) (grownBy_setCell4 Y (w.heap.size + 3) k v) (fun r e => by cases e; exact noOct_blk h.l h.n)).mono (Nat.le_refl _) (by simp)
  refine ⟨⟨h.a.other k v (by omega), h.p.other k v (by omega), h.q.other k v (by omega), h.l.set k v, tu h.b, fun u hu => ?_, h.w.setCell (p := ⟨w.heap.size + 3, k, none⟩) (Nat.le_add_right _ 3) _⟩, tu hv⟩
  rcases List.mem_or_eq_of_mem_set hu with h1 | rfl
  · exact h.n u h1
  · exact hn
theorem RW.fin {T : TypeId} {vp : List Value} {w Y : World} {s s' : St} {z : Value} {vs : List Value} (h : RW T vp w Y s z vs) {sv : Value} (hv : BSl 0 Y.heap.size Y sv s'.1) :
    RW T vp w ((Y.setCell ⟨w.heap.size, 0, none⟩ sv).setCell ⟨w.heap.size, 1, none⟩ (.int .i64 s'.2)) s' sv vs := by
  obtain ⟨h1, h2, h3⟩ := stored_at (y := s'.2) hv h.w (Nat.le_refl _) h.b.shape3 h.a
  exact ⟨h1, (h.p.other 0 _ (by omega)).other 1 _ (by omega), (h.q.other 0 _ (by omega)).other 1 _ (by omega), (h.l.other 0 _ (by omega)).other 1 _ (by omega), h2, h.n, h3⟩
/-- The result's struct R is stored: behind it. -/
theorem RW.out {T : TypeId} {vp : List Value} {w Y : World} {s s' : St} {z : Value} {vs : List Value} (h : RW T vp w Y s z vs) {sv : Value} (hv : BSl 0 Y.heap.size Y sv s'.1) :
    Blk ((Y.setCell ⟨w.heap.size + 2, 0, none⟩ sv).setCell ⟨w.heap.size + 2, 1, none⟩ (.int .i64 s'.2)) (w.heap.size + 2) 74 [sv, .int .i64 s'.2] ∧
    BSl 0 ((Y.setCell ⟨w.heap.size + 2, 0, none⟩ sv).setCell ⟨w.heap.size + 2, 1, none⟩ (.int .i64 s'.2)).heap.size ((Y.setCell ⟨w.heap.size + 2, 0, none⟩ sv).setCell ⟨w.heap.size + 2, 1, none⟩ (.int .i64 s'.2)) sv s'.1 ∧
    Below w.heap.size w ((Y.setCell ⟨w.heap.size + 2, 0, none⟩ sv).setCell ⟨w.heap.size + 2, 1, none⟩ (.int .i64 s'.2)) :=
  stored_at (y := s'.2) hv h.w (Nat.le_add_right _ 2) ⟨_, _, _, rfl⟩ h.q
theorem noOct_i (x : Int) : ∀ y, (.int .i64 x : Value) ≠ bv y := fun y => noBv_i x y
theorem noOct_s (x : ByteArray) : ∀ y, (.string x : Value) ≠ bv y := fun y => noBv_s x y
theorem noOct_u (x : Int) : ∀ y, (.int .u64 x : Value) ≠ bv y := fun y => noBv_u x y
/-- The struct R of the result is stored. -/
theorem putQ {w Y : World} {n P Q : Nat} {Tp : TypeId} {vs : List Value} {sv : Value} {l : List UInt8} {y : Int} (kP : Blk Y P Tp vs) (kQ : Blk Y Q 74 [.slice none 0 0, .int .i64 0]) (hPQ : P ≠ Q) (hv : BSl 0 Y.heap.size Y sv l) (hB : Below n w Y) (hn : n ≤ Q) :
    Blk ((Y.setCell ⟨Q, 0, none⟩ sv).setCell ⟨Q, 1, none⟩ (.int .i64 y)) P Tp vs ∧ Blk ((Y.setCell ⟨Q, 0, none⟩ sv).setCell ⟨Q, 1, none⟩ (.int .i64 y)) Q 74 [sv, .int .i64 y] ∧
    BSl 0 ((Y.setCell ⟨Q, 0, none⟩ sv).setCell ⟨Q, 1, none⟩ (.int .i64 y)).heap.size ((Y.setCell ⟨Q, 0, none⟩ sv).setCell ⟨Q, 1, none⟩ (.int .i64 y)) sv l ∧ Below n w ((Y.setCell ⟨Q, 0, none⟩ sv).setCell ⟨Q, 1, none⟩ (.int .i64 y)) := by
  obtain ⟨a, m, c, rfl⟩ := hv.shape3
  have k1 := kQ.set 0 (.slice a m c)
  refine ⟨(kP.other 0 _ hPQ).other 1 _ hPQ, k1.set 1 _, ?_, (hB.setCell (p := ⟨Q, 0, none⟩) hn _).setCell (p := ⟨Q, 1, none⟩) hn _⟩
  exact ((hv.to (Nat.le_refl _) (grownBy_setCell4 Y Q 0 (.slice a m c)) (fun r e => by cases e; exact noOct2 kQ)).to (by simp) (grownBy_setCell4 _ Q 1 (.int .i64 y)) (fun r e => by cases e; exact noOct2 k1)).mono (Nat.le_refl _) (by simp)
end Go.Proofs.Ytigdenlnnnfjlaa

namespace Go.Proofs.Ytigdenlnnnfjlaa
open Go.RowKit Go.Shelf

/-- What is read, and what is left. -/
def GetIR (r : Trf × St) (w : World) (e : Ending) (W' : World) : Prop :=
  ∃ sv, e = .returned (.tuple #[ivv r.1, .agg #[sv, .int .i64 r.2.2]]) ∧ BSl 0 W'.heap.size W' sv r.2.1 ∧ Below w.heap.size w W'
def GetVR (r : Sid × St) (w : World) (e : Ending) (W' : World) : Prop :=
  ∃ sv, e = .returned (.tuple #[svv r.1, .agg #[sv, .int .i64 r.2.2]]) ∧ BSl 0 W'.heap.size W' sv r.2.1 ∧ Below w.heap.size w W'
theorem noOct_z : ∀ u ∈ ivc noI, ∀ y, u ≠ bv y := by
  intro u hu y
  simp only [ivc, List.mem_cons, List.not_mem_nil, or_false] at hu
  rcases hu with rfl | rfl | rfl | rfl | rfl | rfl | rfl <;> simp [bv]
theorem noOct_v : ∀ u ∈ svc noV, ∀ y, u ≠ bv y := by
  intro u hu y
  simp only [svc, List.mem_cons, List.not_mem_nil, or_false] at hu
  rcases hu with rfl | rfl | rfl | rfl | rfl <;> simp [bv]
theorem others7 {W : World} {B P : Nat} {t : TypeId} {vs : List Value} (h : Blk W B t vs) (hne : B ≠ P) (x : Trf) : Blk (((((((W.setCell ⟨P, 0, none⟩ (.int .i64 x.us)).setCell ⟨P, 1, none⟩ (.string x.rt)).setCell ⟨P, 2, none⟩ (.int .i64 x.ro)).setCell ⟨P, 3, none⟩ (.int .i64 x.se)).setCell ⟨P, 4, none⟩ (.int .i64 x.re)).setCell ⟨P, 5, none⟩ (.int .i64 x.to)).setCell ⟨P, 6, none⟩ (.string x.id)) B t vs :=
  (((((((h.other 0 _ hne).other 1 _ hne).other 2 _ hne).other 3 _ hne).other 4 _ hne).other 5 _ hne).other 6 _ hne)
theorem putP7 {w Y : World} {n P Q : Nat} {Tq : TypeId} {i : Trf} {ws : List Value} {sv : Value} {l : List UInt8} (kP : Blk Y P 30 (ivc i)) (kQ : Blk Y Q Tq ws) (hPQ : Q ≠ P) (hv : BSl 0 Y.heap.size Y sv l) (hB : Below n w Y) (hn : n ≤ P) (x : Trf) :
    Blk (((((((Y.setCell ⟨P, 0, none⟩ (.int .i64 x.us)).setCell ⟨P, 1, none⟩ (.string x.rt)).setCell ⟨P, 2, none⟩ (.int .i64 x.ro)).setCell ⟨P, 3, none⟩ (.int .i64 x.se)).setCell ⟨P, 4, none⟩ (.int .i64 x.re)).setCell ⟨P, 5, none⟩ (.int .i64 x.to)).setCell ⟨P, 6, none⟩ (.string x.id)) P 30 (ivc x) ∧ Blk (((((((Y.setCell ⟨P, 0, none⟩ (.int .i64 x.us)).setCell ⟨P, 1, none⟩ (.string x.rt)).setCell ⟨P, 2, none⟩ (.int .i64 x.ro)).setCell ⟨P, 3, none⟩ (.int .i64 x.se)).setCell ⟨P, 4, none⟩ (.int .i64 x.re)).setCell ⟨P, 5, none⟩ (.int .i64 x.to)).setCell ⟨P, 6, none⟩ (.string x.id)) Q Tq ws ∧ BSl 0 (((((((Y.setCell ⟨P, 0, none⟩ (.int .i64 x.us)).setCell ⟨P, 1, none⟩ (.string x.rt)).setCell ⟨P, 2, none⟩ (.int .i64 x.ro)).setCell ⟨P, 3, none⟩ (.int .i64 x.se)).setCell ⟨P, 4, none⟩ (.int .i64 x.re)).setCell ⟨P, 5, none⟩ (.int .i64 x.to)).setCell ⟨P, 6, none⟩ (.string x.id)).heap.size (((((((Y.setCell ⟨P, 0, none⟩ (.int .i64 x.us)).setCell ⟨P, 1, none⟩ (.string x.rt)).setCell ⟨P, 2, none⟩ (.int .i64 x.ro)).setCell ⟨P, 3, none⟩ (.int .i64 x.se)).setCell ⟨P, 4, none⟩ (.int .i64 x.re)).setCell ⟨P, 5, none⟩ (.int .i64 x.to)).setCell ⟨P, 6, none⟩ (.string x.id)) sv l ∧ Below n w (((((((Y.setCell ⟨P, 0, none⟩ (.int .i64 x.us)).setCell ⟨P, 1, none⟩ (.string x.rt)).setCell ⟨P, 2, none⟩ (.int .i64 x.ro)).setCell ⟨P, 3, none⟩ (.int .i64 x.se)).setCell ⟨P, 4, none⟩ (.int .i64 x.re)).setCell ⟨P, 5, none⟩ (.int .i64 x.to)).setCell ⟨P, 6, none⟩ (.string x.id)) := by
  have st : ∀ (vs : List Value) (W : World) (k : Nat) (v : Value), Blk W P 30 vs → (∀ u ∈ vs, ∀ y, u ≠ bv y) → (∀ y, v ≠ bv y) → BSl 0 W.heap.size W sv l → Below n w W →
      Blk (W.setCell ⟨P, k, none⟩ v) P 30 (vs.set k v) ∧ (∀ u ∈ vs.set k v, ∀ y, u ≠ bv y) ∧ BSl 0 (W.setCell ⟨P, k, none⟩ v).heap.size (W.setCell ⟨P, k, none⟩ v) sv l ∧ Below n w (W.setCell ⟨P, k, none⟩ v) := by
    intro vs W k v kW hno hv h g
    refine ⟨kW.set k v, fun u hu => ?_, (h.to (Nat.le_refl _) (grownBy_setCell4 W P k v) (fun r e => by cases e; exact noOct_blk kW hno)).mono (Nat.le_refl _) (by simp), g.setCell (p := ⟨P, k, none⟩) hn _⟩
    rcases List.mem_or_eq_of_mem_set hu with h1 | rfl
    · exact hno u h1
    · exact hv
  have h0 : ∀ u ∈ ivc i, ∀ y, u ≠ bv y := by
    intro u hu y
    simp only [ivc, List.mem_cons, List.not_mem_nil, or_false] at hu
    rcases hu with rfl | rfl | rfl | rfl | rfl | rfl | rfl <;> simp [bv]
  obtain ⟨k0, n0, o0, g0⟩ := st _ _ 0 (.int .i64 x.us) kP h0 (by intro y; simp [bv]) hv hB
  obtain ⟨k1, n1, o1, g1⟩ := st _ _ 1 (.string x.rt) k0 n0 (by intro y; simp [bv]) o0 g0
  obtain ⟨k2, n2, o2, g2⟩ := st _ _ 2 (.int .i64 x.ro) k1 n1 (by intro y; simp [bv]) o1 g1
  obtain ⟨k3, n3, o3, g3⟩ := st _ _ 3 (.int .i64 x.se) k2 n2 (by intro y; simp [bv]) o2 g2
  obtain ⟨k4, n4, o4, g4⟩ := st _ _ 4 (.int .i64 x.re) k3 n3 (by intro y; simp [bv]) o3 g3
  obtain ⟨k5, n5, o5, g5⟩ := st _ _ 5 (.int .i64 x.to) k4 n4 (by intro y; simp [bv]) o4 g4
  obtain ⟨k6, n6, o6, g6⟩ := st _ _ 6 (.string x.id) k5 n5 (by intro y; simp [bv]) o5 g5
  exact ⟨k6, others7 kQ hPQ x, o6, g6⟩
theorem others5 {W : World} {B P : Nat} {t : TypeId} {vs : List Value} (h : Blk W B t vs) (hne : B ≠ P) (x : Sid) : Blk (((((W.setCell ⟨P, 0, none⟩ (.int .u64 (x.a0 : Nat))).setCell ⟨P, 1, none⟩ (.int .u64 (x.a1 : Nat))).setCell ⟨P, 2, none⟩ (.int .u64 (x.a2 : Nat))).setCell ⟨P, 3, none⟩ (.int .u64 (x.a3 : Nat))).setCell ⟨P, 4, none⟩ (.int .i64 x.x)) B t vs :=
  (((((h.other 0 _ hne).other 1 _ hne).other 2 _ hne).other 3 _ hne).other 4 _ hne)
theorem putP5 {w Y : World} {n P Q : Nat} {Tq : TypeId} {i : Sid} {ws : List Value} {sv : Value} {l : List UInt8} (kP : Blk Y P 32 (svc i)) (kQ : Blk Y Q Tq ws) (hPQ : Q ≠ P) (hv : BSl 0 Y.heap.size Y sv l) (hB : Below n w Y) (hn : n ≤ P) (x : Sid) :
    Blk (((((Y.setCell ⟨P, 0, none⟩ (.int .u64 (x.a0 : Nat))).setCell ⟨P, 1, none⟩ (.int .u64 (x.a1 : Nat))).setCell ⟨P, 2, none⟩ (.int .u64 (x.a2 : Nat))).setCell ⟨P, 3, none⟩ (.int .u64 (x.a3 : Nat))).setCell ⟨P, 4, none⟩ (.int .i64 x.x)) P 32 (svc x) ∧ Blk (((((Y.setCell ⟨P, 0, none⟩ (.int .u64 (x.a0 : Nat))).setCell ⟨P, 1, none⟩ (.int .u64 (x.a1 : Nat))).setCell ⟨P, 2, none⟩ (.int .u64 (x.a2 : Nat))).setCell ⟨P, 3, none⟩ (.int .u64 (x.a3 : Nat))).setCell ⟨P, 4, none⟩ (.int .i64 x.x)) Q Tq ws ∧ BSl 0 (((((Y.setCell ⟨P, 0, none⟩ (.int .u64 (x.a0 : Nat))).setCell ⟨P, 1, none⟩ (.int .u64 (x.a1 : Nat))).setCell ⟨P, 2, none⟩ (.int .u64 (x.a2 : Nat))).setCell ⟨P, 3, none⟩ (.int .u64 (x.a3 : Nat))).setCell ⟨P, 4, none⟩ (.int .i64 x.x)).heap.size (((((Y.setCell ⟨P, 0, none⟩ (.int .u64 (x.a0 : Nat))).setCell ⟨P, 1, none⟩ (.int .u64 (x.a1 : Nat))).setCell ⟨P, 2, none⟩ (.int .u64 (x.a2 : Nat))).setCell ⟨P, 3, none⟩ (.int .u64 (x.a3 : Nat))).setCell ⟨P, 4, none⟩ (.int .i64 x.x)) sv l ∧ Below n w (((((Y.setCell ⟨P, 0, none⟩ (.int .u64 (x.a0 : Nat))).setCell ⟨P, 1, none⟩ (.int .u64 (x.a1 : Nat))).setCell ⟨P, 2, none⟩ (.int .u64 (x.a2 : Nat))).setCell ⟨P, 3, none⟩ (.int .u64 (x.a3 : Nat))).setCell ⟨P, 4, none⟩ (.int .i64 x.x)) := by
  have st : ∀ (vs : List Value) (W : World) (k : Nat) (v : Value), Blk W P 32 vs → (∀ u ∈ vs, ∀ y, u ≠ bv y) → (∀ y, v ≠ bv y) → BSl 0 W.heap.size W sv l → Below n w W →
      Blk (W.setCell ⟨P, k, none⟩ v) P 32 (vs.set k v) ∧ (∀ u ∈ vs.set k v, ∀ y, u ≠ bv y) ∧ BSl 0 (W.setCell ⟨P, k, none⟩ v).heap.size (W.setCell ⟨P, k, none⟩ v) sv l ∧ Below n w (W.setCell ⟨P, k, none⟩ v) := by
    intro vs W k v kW hno hv h g
    refine ⟨kW.set k v, fun u hu => ?_, (h.to (Nat.le_refl _) (grownBy_setCell4 W P k v) (fun r e => by cases e; exact noOct_blk kW hno)).mono (Nat.le_refl _) (by simp), g.setCell (p := ⟨P, k, none⟩) hn _⟩
    rcases List.mem_or_eq_of_mem_set hu with h1 | rfl
    · exact hno u h1
    · exact hv
  have h0 : ∀ u ∈ svc i, ∀ y, u ≠ bv y := by
    intro u hu y
    simp only [svc, List.mem_cons, List.not_mem_nil, or_false] at hu
    rcases hu with rfl | rfl | rfl | rfl | rfl <;> simp [bv]
  obtain ⟨k0, n0, o0, g0⟩ := st _ _ 0 (.int .u64 (x.a0 : Nat)) kP h0 (by intro y; simp [bv]) hv hB
  obtain ⟨k1, n1, o1, g1⟩ := st _ _ 1 (.int .u64 (x.a1 : Nat)) k0 n0 (by intro y; simp [bv]) o0 g0
  obtain ⟨k2, n2, o2, g2⟩ := st _ _ 2 (.int .u64 (x.a2 : Nat)) k1 n1 (by intro y; simp [bv]) o1 g1
  obtain ⟨k3, n3, o3, g3⟩ := st _ _ 3 (.int .u64 (x.a3 : Nat)) k2 n2 (by intro y; simp [bv]) o2 g2
  obtain ⟨k4, n4, o4, g4⟩ := st _ _ 4 (.int .i64 x.x) k3 n3 (by intro y; simp [bv]) o3 g3
  exact ⟨k4, others5 kQ hPQ x, o4, g4⟩
theorem putP5z {w Y : World} {n P Q : Nat} {Tq : TypeId} {i : Sid} {ws : List Value} {sv : Value} {l : List UInt8} (kP : Blk Y P 32 (svc i)) (kQ : Blk Y Q Tq ws) (hPQ : Q ≠ P) (hv : BSl 0 Y.heap.size Y sv l) (hB : Below n w Y) (hn : n ≤ P) :
    Blk (((((Y.setCell ⟨P, 0, none⟩ (.int .u64 0)).setCell ⟨P, 1, none⟩ (.int .u64 0)).setCell ⟨P, 2, none⟩ (.int .u64 0)).setCell ⟨P, 3, none⟩ (.int .u64 0)).setCell ⟨P, 4, none⟩ (.int .i64 0)) P 32 [.int .u64 0, .int .u64 0, .int .u64 0, .int .u64 0, .int .i64 0] ∧ Blk (((((Y.setCell ⟨P, 0, none⟩ (.int .u64 0)).setCell ⟨P, 1, none⟩ (.int .u64 0)).setCell ⟨P, 2, none⟩ (.int .u64 0)).setCell ⟨P, 3, none⟩ (.int .u64 0)).setCell ⟨P, 4, none⟩ (.int .i64 0)) Q Tq ws ∧ BSl 0 (((((Y.setCell ⟨P, 0, none⟩ (.int .u64 0)).setCell ⟨P, 1, none⟩ (.int .u64 0)).setCell ⟨P, 2, none⟩ (.int .u64 0)).setCell ⟨P, 3, none⟩ (.int .u64 0)).setCell ⟨P, 4, none⟩ (.int .i64 0)).heap.size (((((Y.setCell ⟨P, 0, none⟩ (.int .u64 0)).setCell ⟨P, 1, none⟩ (.int .u64 0)).setCell ⟨P, 2, none⟩ (.int .u64 0)).setCell ⟨P, 3, none⟩ (.int .u64 0)).setCell ⟨P, 4, none⟩ (.int .i64 0)) sv l ∧ Below n w (((((Y.setCell ⟨P, 0, none⟩ (.int .u64 0)).setCell ⟨P, 1, none⟩ (.int .u64 0)).setCell ⟨P, 2, none⟩ (.int .u64 0)).setCell ⟨P, 3, none⟩ (.int .u64 0)).setCell ⟨P, 4, none⟩ (.int .i64 0)) := putP5 kP kQ hPQ hv hB hn ⟨0, 0, 0, 0, 0⟩
set_option maxRecDepth 100000 in
set_option maxHeartbeats 1000000 in
theorem refGetInv_any {s : St} (sv : Value) (w : World) (hsl : BSl 0 w.heap.size w sv s.1) :
    Calls Try.prog 39 #[.agg #[sv, .int .i64 s.2]] w (GetIR (getI s) w) := by
  have hmx : Try.prog.follows .mixedOrders = true := by kernel_rfl
  have H0 : Hid (∀ W v, BSl 0 W.heap.size W v s.1 → Calls Try.prog 38 #[.agg #[v, .int .i64 s.2], .int .i64 16] W (TxtR (rd0 s) W)) := Lib.hid fun W v h => refGetTextP_any v 16 16 (Or.inr ⟨by omega, rfl⟩) W h
  have H1 : Hid (∀ W v, BSl 0 W.heap.size W v (rd0 s).2.1 → Calls Try.prog 34 #[.agg #[v, .int .i64 (rd0 s).2.2], .int .i64 1099511627776] W (NumR (rd1 s) W)) := Lib.hid fun W v h => refGetNumP_any v 1099511627776 1099511627776 (Or.inr ⟨by omega, rfl⟩) W h
  have H2 : Hid (∀ W v, BSl 0 W.heap.size W v (rd1 s).2.1 → Calls Try.prog 38 #[.agg #[v, .int .i64 (rd1 s).2.2], .int .i64 8] W (TxtR (rd2 s) W)) := Lib.hid fun W v h => refGetTextP_any v 8 8 (Or.inr ⟨by omega, rfl⟩) W h
  have H3 : Hid (∀ W v, BSl 0 W.heap.size W v (rd2 s).2.1 → Calls Try.prog 34 #[.agg #[v, .int .i64 (rd2 s).2.2], .int .i64 1099511627776] W (NumR (rd3 s) W)) := Lib.hid fun W v h => refGetNumP_any v 1099511627776 1099511627776 (Or.inr ⟨by omega, rfl⟩) W h
  have H4 : Hid (∀ W v, BSl 0 W.heap.size W v (rd3 s).2.1 → Calls Try.prog 34 #[.agg #[v, .int .i64 (rd3 s).2.2], .int .i64 1099511627776] W (NumR (rd4 s) W)) := Lib.hid fun W v h => refGetNumP_any v 1099511627776 1099511627776 (Or.inr ⟨by omega, rfl⟩) W h
  have H5 : Hid (∀ W v, BSl 0 W.heap.size W v (rd4 s).2.1 → Calls Try.prog 34 #[.agg #[v, .int .i64 (rd4 s).2.2], .int .i64 1099511627776] W (NumR (rd5 s) W)) := Lib.hid fun W v h => refGetNumP_any v 1099511627776 1099511627776 (Or.inr ⟨by omega, rfl⟩) W h
  have H6 : Hid (∀ W v, BSl 0 W.heap.size W v (rd5 s).2.1 → Calls Try.prog 34 #[.agg #[v, .int .i64 (rd5 s).2.2], .int .i64 1099511627776] W (NumR (rd6 s) W)) := Lib.hid fun W v h => refGetNumP_any v 1099511627776 1099511627776 (Or.inr ⟨by omega, rfl⟩) W h
  have H7 : Hid (∀ W v, BSl 0 W.heap.size W v (rd6 s).2.1 → Calls Try.prog 38 #[.agg #[v, .int .i64 (rd6 s).2.2], .int .i64 16] W (TxtR (rd7 s) W)) := Lib.hid fun W v h => refGetTextP_any v 16 16 (Or.inr ⟨by omega, rfl⟩) W h
  obtain ⟨a, m, c, rfl⟩ := hsl.shape3
  have hR : RW 30 (ivc noI) w ((((w.alloc (.cells #[.slice a m c, .int .i64 s.2] 74)).alloc (.cells (ivc noI).toArray 30)).alloc (.cells #[.slice none 0 0, .int .i64 0] 74)).alloc (.cells (ivc noI).toArray 30)) s (.slice a m c) (ivc noI) := by
    have b3 := chainA (chainA (chainA (chain0 w (.cells #[.slice a m c, .int .i64 s.2] 74)) (.cells (ivc noI).toArray 30)) (.cells #[.slice none 0 0, .int .i64 0] 74)) (.cells (ivc noI).toArray 30)
    exact ⟨(((Blk.new w _ [_, _]).alloc _).alloc _).alloc _, ((Blk.new' (vs := ivc noI) (by simp)).alloc _).alloc _, (Blk.new' (vs := [_, _]) (by simp)).alloc _, Blk.new' (vs := ivc noI) (by simp), (hsl.below b3 (Nat.le_refl _)).mono (Nat.le_refl _) b3.size, noOct_z, b3⟩
  clear hsl
  obtain ⟨a0, a1⟩ := Blk.c2 hR.a
  go_enter Try.func39, Try.ntmps39
  go_upto_region 10 with (first
    | (go_at_call 38; refine (H0.out _ _ hR.b).mono ?_; rintro e W0 ⟨v0, rfl, hv, hb⟩; clear a0 a1 H0; (try clear z f); (try clear fa y0 y1); obtain ⟨va, vm, vc, rfl⟩ := hv.shape3; replace hR := hR.below hb; have y0 := hR.a.cell 0; have y1 := hR.a.cell 1; have fa := hR.a.frozen; replace hR := RW.fin (s' := (rd0 s).2) hR hv; obtain ⟨a0, a1⟩ := Blk.c2 hR.a; clear hv hb)
    | (go_at_call 34; refine (H1.out _ _ hR.b).mono ?_; rintro e W1 ⟨v1, rfl, hv, hb⟩; clear a0 a1 H1; (try clear z f); (try clear fa y0 y1); obtain ⟨va, vm, vc, rfl⟩ := hv.shape3; replace hR := hR.below hb; have z := (hR.l.cell 0).trans rfl; have f := hR.l.frozen 0; obtain ⟨hS, hv2⟩ := hR.set hv 0 (.int .i64 ((rd1 s).1 : Nat)) (noOct_i _); replace hR : RW 30 (ivc noI) w _ (rd0 s).2 _ (ivc ⟨(((rd1 s).1 : Nat) : Int), ⟨#[]⟩, (0 : Int), (0 : Int), (0 : Int), (0 : Int), ⟨#[]⟩⟩) := hS; replace hv := hv2; clear hS hv2; have y0 := hR.a.cell 0; have y1 := hR.a.cell 1; have fa := hR.a.frozen; replace hR := RW.fin (s' := (rd1 s).2) hR hv; obtain ⟨a0, a1⟩ := Blk.c2 hR.a; clear hv hb)
    | (go_at_call 38; refine (H2.out _ _ hR.b).mono ?_; rintro e W2 ⟨v2, rfl, hv, hb⟩; clear a0 a1 H2; (try clear z f); (try clear fa y0 y1); obtain ⟨va, vm, vc, rfl⟩ := hv.shape3; replace hR := hR.below hb; have z := (hR.l.cell 1).trans rfl; have f := hR.l.frozen 1; obtain ⟨hS, hv2⟩ := hR.set hv 1 (.string ⟨(rd2 s).1.toArray⟩) (noOct_s _); replace hR : RW 30 (ivc noI) w _ (rd1 s).2 _ (ivc ⟨(((rd1 s).1 : Nat) : Int), (str (rd2 s).1), (0 : Int), (0 : Int), (0 : Int), (0 : Int), ⟨#[]⟩⟩) := hS; replace hv := hv2; clear hS hv2; have y0 := hR.a.cell 0; have y1 := hR.a.cell 1; have fa := hR.a.frozen; replace hR := RW.fin (s' := (rd2 s).2) hR hv; obtain ⟨a0, a1⟩ := Blk.c2 hR.a; clear hv hb)
    | (go_at_call 34; refine (H3.out _ _ hR.b).mono ?_; rintro e W3 ⟨v3, rfl, hv, hb⟩; clear a0 a1 H3; (try clear z f); (try clear fa y0 y1); obtain ⟨va, vm, vc, rfl⟩ := hv.shape3; replace hR := hR.below hb; have z := (hR.l.cell 2).trans rfl; have f := hR.l.frozen 2; obtain ⟨hS, hv2⟩ := hR.set hv 2 (.int .i64 ((rd3 s).1 : Nat)) (noOct_i _); replace hR : RW 30 (ivc noI) w _ (rd2 s).2 _ (ivc ⟨(((rd1 s).1 : Nat) : Int), (str (rd2 s).1), (((rd3 s).1 : Nat) : Int), (0 : Int), (0 : Int), (0 : Int), ⟨#[]⟩⟩) := hS; replace hv := hv2; clear hS hv2; have y0 := hR.a.cell 0; have y1 := hR.a.cell 1; have fa := hR.a.frozen; replace hR := RW.fin (s' := (rd3 s).2) hR hv; obtain ⟨a0, a1⟩ := Blk.c2 hR.a; clear hv hb)
    | (go_at_call 34; refine (H4.out _ _ hR.b).mono ?_; rintro e W4 ⟨v4, rfl, hv, hb⟩; clear a0 a1 H4; (try clear z f); (try clear fa y0 y1); obtain ⟨va, vm, vc, rfl⟩ := hv.shape3; replace hR := hR.below hb; have z := (hR.l.cell 3).trans rfl; have f := hR.l.frozen 3; obtain ⟨hS, hv2⟩ := hR.set hv 3 (.int .i64 ((rd4 s).1 : Nat)) (noOct_i _); replace hR : RW 30 (ivc noI) w _ (rd3 s).2 _ (ivc ⟨(((rd1 s).1 : Nat) : Int), (str (rd2 s).1), (((rd3 s).1 : Nat) : Int), (((rd4 s).1 : Nat) : Int), (0 : Int), (0 : Int), ⟨#[]⟩⟩) := hS; replace hv := hv2; clear hS hv2; have y0 := hR.a.cell 0; have y1 := hR.a.cell 1; have fa := hR.a.frozen; replace hR := RW.fin (s' := (rd4 s).2) hR hv; obtain ⟨a0, a1⟩ := Blk.c2 hR.a; clear hv hb)
    | (go_at_call 34; refine (H5.out _ _ hR.b).mono ?_; rintro e W5 ⟨v5, rfl, hv, hb⟩; clear a0 a1 H5; (try clear z f); (try clear fa y0 y1); obtain ⟨va, vm, vc, rfl⟩ := hv.shape3; replace hR := hR.below hb; have z := (hR.l.cell 4).trans rfl; have f := hR.l.frozen 4; obtain ⟨hS, hv2⟩ := hR.set hv 4 (.int .i64 ((rd5 s).1 : Nat)) (noOct_i _); replace hR : RW 30 (ivc noI) w _ (rd4 s).2 _ (ivc ⟨(((rd1 s).1 : Nat) : Int), (str (rd2 s).1), (((rd3 s).1 : Nat) : Int), (((rd4 s).1 : Nat) : Int), (((rd5 s).1 : Nat) : Int), (0 : Int), ⟨#[]⟩⟩) := hS; replace hv := hv2; clear hS hv2; have y0 := hR.a.cell 0; have y1 := hR.a.cell 1; have fa := hR.a.frozen; replace hR := RW.fin (s' := (rd5 s).2) hR hv; obtain ⟨a0, a1⟩ := Blk.c2 hR.a; clear hv hb)
    | (go_at_call 34; refine (H6.out _ _ hR.b).mono ?_; rintro e W6 ⟨v6, rfl, hv, hb⟩; clear a0 a1 H6; (try clear z f); (try clear fa y0 y1); obtain ⟨va, vm, vc, rfl⟩ := hv.shape3; replace hR := hR.below hb; have z := (hR.l.cell 5).trans rfl; have f := hR.l.frozen 5; obtain ⟨hS, hv2⟩ := hR.set hv 5 (.int .i64 ((rd6 s).1 : Nat)) (noOct_i _); replace hR : RW 30 (ivc noI) w _ (rd5 s).2 _ (ivc ⟨(((rd1 s).1 : Nat) : Int), (str (rd2 s).1), (((rd3 s).1 : Nat) : Int), (((rd4 s).1 : Nat) : Int), (((rd5 s).1 : Nat) : Int), (((rd6 s).1 : Nat) : Int), ⟨#[]⟩⟩) := hS; replace hv := hv2; clear hS hv2; have y0 := hR.a.cell 0; have y1 := hR.a.cell 1; have fa := hR.a.frozen; replace hR := RW.fin (s' := (rd6 s).2) hR hv; obtain ⟨a0, a1⟩ := Blk.c2 hR.a; clear hv hb)
    | (go_at_call 38; refine (H7.out _ _ hR.b).mono ?_; rintro e W7 ⟨v7, rfl, hv, hb⟩; clear a0 a1 H7; (try clear z f); (try clear fa y0 y1); obtain ⟨va, vm, vc, rfl⟩ := hv.shape3; replace hR := hR.below hb; have z := (hR.l.cell 6).trans rfl; have f := hR.l.frozen 6; obtain ⟨hS, hv2⟩ := hR.set hv 6 (.string ⟨(rd7 s).1.toArray⟩) (noOct_s _); replace hR : RW 30 (ivc noI) w _ (rd6 s).2 _ (ivc ⟨(((rd1 s).1 : Nat) : Int), (str (rd2 s).1), (((rd3 s).1 : Nat) : Int), (((rd4 s).1 : Nat) : Int), (((rd5 s).1 : Nat) : Int), (((rd6 s).1 : Nat) : Int), (str (rd7 s).1)⟩) := hS; replace hv := hv2; clear hS hv2; have y0 := hR.a.cell 0; have y1 := hR.a.cell 1; have fa := hR.a.frozen; replace hR := RW.fin (s' := (rd7 s).2) hR hv; obtain ⟨a0, a1⟩ := Blk.c2 hR.a; clear hv hb))
  clear z f fa y0 y1 a0 a1
  generalize hY : (World.setCell (World.setCell (World.setCell W7 _ _) _ _) _ _) = Y at *
  clear hY
  obtain ⟨a0, a1⟩ := Blk.c2 hR.a
  obtain ⟨c0, c1, c2, c3, c4, c5, c6⟩ := Blk.c7 hR.l
  have HC : Hid (∀ W, Calls Try.prog 43 #[ivv ⟨(rd1 s).1, str (rd2 s).1, (rd3 s).1, (rd4 s).1, (rd5 s).1, (rd6 s).1, str (rd7 s).1⟩] W fun e W' => e = .returned (.int .i64 (errI (rawI s))) ∧ Below W.heap.size W W') := Lib.hid (refInv_any (rawI s))
  have HGD : Hid (goodI s ↔ (rd0 s).1 = [105, 110, 118] ∧ maybeI (rawI s)) := Lib.hid (by
    have e : str (rd0 s).1 = invB ↔ (rd0 s).1 = [105, 110, 118] := ⟨fun e => by have := congrArg (fun b : ByteArray => b.data.toList) e; simpa [str, invB] using this, fun e => by rw [e]; rfl⟩
    rw [goodI, e])
  by_cases he : (rd7 s).2.2 = 0
  · have hq1 : ((rd7 s).2.2 == 0) = true := by simpa using he
    have hq2 : ((rd7 s).2.2 != 0) = false := by simpa using he
    by_cases hw : (rd0 s).1 = [105, 110, 118]
    · have hw2 : ((rd0 s).1 == [105, 110, 118]) = true := by simpa using hw
      by_cases hm : maybeI (rawI s)
      · have HE := Lib.hid (errI_zero hm)
        have HX := Lib.hid (getI_yes he (HGD.out.2 ⟨hw, hm⟩))
        clear hm hw HGD he
        go_upto_region 12 with (go_at_call 43; refine (HC.out _).mono ?_; rw [HE.out]; rintro e V0 ⟨rfl, hb⟩; replace hR := hR.below hb; clear a0 a1 c0 c1 c2 c3 c4 c5 c6; obtain ⟨a0, a1⟩ := Blk.c2 hR.a; obtain ⟨c0, c1, c2, c3, c4, c5, c6⟩ := Blk.c7 hR.l)
        have kP := hR.p
        have kQ := hR.q
        have hv := hR.b
        have hB := hR.w.drew
        have kL := hR.l
        have kA := hR.a
        clear hR a0 a1 c0 c1 c2 c3 c4 c5 c6 HC HE hw2 hq1 hq2
        refine wp_region_held_drew (S := fun W => Blk W (w.heap.size + 3) 30 (ivc ⟨(rd1 s).1, str (rd2 s).1, (rd3 s).1, (rd4 s).1, (rd5 s).1, (rd6 s).1, str (rd7 s).1⟩) ∧ Blk W w.heap.size 74 [.slice va vm vc, .int .i64 (rd7 s).2.2]) hmx ⟨kL, kA⟩ ?_
        intro hS
        replace kP : Blk V0.drew (w.heap.size + 1) 30 (ivc noI) := kP
        replace kQ : Blk V0.drew (w.heap.size + 2) 74 [.slice none 0 0, .int .i64 0] := kQ
        replace hv : BSl 0 V0.drew.heap.size V0.drew (.slice va vm vc) (rd7 s).2.1 := (hv.below (Below.refl _ V0).drew (Nat.le_refl _)).mono (Nat.le_refl _) (Nat.le_refl _)
        clear kL kA
        generalize V0.drew = Y2 at *
        refine' wpAnyH_take (i := 0) (oi := _) (v := _) ?hi1 (by kernel_rfl) (by kernel_rfl) (by kernel_rfl) ?hQ1 (Or.inl ⟨?hw1, ?hy1⟩) hS ?rest1
        case hi1 => simp only [List.getElem?_toArray, List.getElem?_cons_zero]; rfl
        case hQ1 => exact fun _ _ _ h => h
        case hw1 => rfl
        case hy1 => intro W' hS'; obtain ⟨c0, c1, c2, c3, c4, c5, c6⟩ := Blk.c7 hS'.1; go_simp; with_reducible rfl
        try simp only [Act.put, List.setIfInBounds_toArray, List.set_cons_zero, List.set_cons_succ]
        refine' wpAnyH_take (i := 1) (oi := _) (v := _) ?hi2 (by kernel_rfl) (by kernel_rfl) (by kernel_rfl) ?hQ2 (Or.inl ⟨?hw2, ?hy2⟩) hS ?rest2
        case hi2 => simp only [List.getElem?_toArray, List.getElem?_cons_succ, List.getElem?_cons_zero]; rfl
        case hQ2 => exact fun _ _ _ h => h
        case hw2 => rfl
        case hy2 => intro W' hS'; obtain ⟨a0, a1⟩ := Blk.c2 hS'.2; go_simp; with_reducible rfl
        try simp only [Act.put, List.setIfInBounds_toArray, List.set_cons_zero, List.set_cons_succ]
        refine wpAnyH_ready (rs := [2]) (by kernel_rfl) (by simp) ?_
        refine' AllReadyH.cons (o := _) ?ho3 (fun K hK => ?st3) AllReadyH.nil
        case ho3 => simp only [List.getElem?_toArray, List.getElem?_cons_succ, List.getElem?_cons_zero]; rfl
        case st3 =>
          obtain ⟨r0, r1, r2, r3, r4, r5, r6⟩ := Blk.c7 kP
          have fr := kP.frozen
          go_simp
          refine hK.out _ _ ⟨others7 hS.1 (by omega) ⟨(rd1 s).1, str (rd2 s).1, (rd3 s).1, (rd4 s).1, (rd5 s).1, (rd6 s).1, str (rd7 s).1⟩, others7 hS.2 (by omega) ⟨(rd1 s).1, str (rd2 s).1, (rd3 s).1, (rd4 s).1, (rd5 s).1, (rd6 s).1, str (rd7 s).1⟩⟩ (fun hS => ?_)
          clear hK K
          try simp only [Act.put, List.setIfInBounds_toArray, List.set_cons_zero, List.set_cons_succ]
          obtain ⟨kP, kQ, hv, hB⟩ := putP7 kP kQ (by omega) hv hB (Nat.le_add_right _ 1) ⟨(rd1 s).1, str (rd2 s).1, (rd3 s).1, (rd4 s).1, (rd5 s).1, (rd6 s).1, str (rd7 s).1⟩
          dsimp only at kP kQ hv hB
          clear r0 r1 r2 r3 r4 r5 r6 fr
          generalize hZ : (World.setCell (World.setCell (World.setCell (World.setCell (World.setCell (World.setCell (World.setCell Y2 _ _) _ _) _ _) _ _) _ _) _ _) _ _) = Y3 at *
          clear hZ
          refine wpAnyH_ready (rs := [3]) (by kernel_rfl) (by simp) ?_
          refine' AllReadyH.cons (o := _) ?ho4 (fun K hK => ?st4) AllReadyH.nil
          case ho4 => simp only [List.getElem?_toArray, List.getElem?_cons_succ, List.getElem?_cons_zero]; rfl
          case st4 =>
            obtain ⟨s0, s1⟩ := Blk.c2 kQ
            have fs := kQ.frozen
            go_simp
            refine hK.out _ _ ⟨(hS.1.other 0 _ (by omega)).other 1 _ (by omega), (hS.2.other 0 _ (by omega)).other 1 _ (by omega)⟩ (fun hS => ?_)
            clear hK K
            try simp only [Act.put, List.setIfInBounds_toArray, List.set_cons_zero, List.set_cons_succ]
            obtain ⟨kP, kQ, hv, hB⟩ := putQ (y := (rd7 s).2.2) kP kQ (by omega) hv hB (Nat.le_add_right _ 2)
            refine wpAnyH_done (by kernel_rfl) ?_ _
            go_wp2_with fail
            obtain ⟨q0, q1, q2, q3, q4, q5, q6⟩ := Blk.c7 kP
            obtain ⟨t0, t1⟩ := Blk.c2 kQ
            exact bodyPost_ret (v := .tuple #[ivv ⟨(rd1 s).1, str (rd2 s).1, (rd3 s).1, (rd4 s).1, (rd5 s).1, (rd6 s).1, str (rd7 s).1⟩, .agg #[.slice va vm vc, .int .i64 (rd7 s).2.2]]) (by simp [results, Try.results39, go_sem, q0, q1, q2, q3, q4, q5, q6, t0, t1]) rfl ⟨_, by rw [HX.out]; rfl, by rw [HX.out]; exact hv, hB⟩
      · have HE := Lib.hid (errI_bad hm)
        have HX := Lib.hid (getI_no (s := s) (fun e => hm (HGD.out.1 e).2))
        clear hm hw HGD he
        go_wp2_with (first
          | (go_at_call 43; refine (HC.out _).mono ?_; rw [HE.out]; rintro e V0 ⟨rfl, hb⟩; replace hR := hR.below hb; clear a0 a1 c0 c1 c2 c3 c4 c5 c6; obtain ⟨a0, a1⟩ := Blk.c2 hR.a; obtain ⟨c0, c1, c2, c3, c4, c5, c6⟩ := Blk.c7 hR.l)
          | (go_at_call 69; refine (refSpoil_any _ _ hR.b).mono ?_; rintro e V1 ⟨v8, rfl, hv, hb⟩; obtain ⟨xa, xm, xc, rfl⟩ := hv.shape3; replace hR := hR.below hb; obtain ⟨r0, r1, r2, r3, r4, r5, r6⟩ := Blk.c7 hR.p; have fr := hR.p.frozen; obtain ⟨s0, s1⟩ := Blk.c2 hR.q; have fs := hR.q.frozen))
        obtain ⟨kP, kQ, hv2, hB2⟩ := putP7 hR.p hR.q (by omega) hv hR.w (Nat.le_add_right _ 1) ⟨0, ⟨#[]⟩, 0, 0, 0, 0, ⟨#[]⟩⟩
        obtain ⟨kP3, kQ3, hv3, hB3⟩ := putQ (y := (errS (rd7 s).2 16).2) kP kQ (by omega) hv2 hB2 (Nat.le_add_right _ 2)
        dsimp only at kP3 kQ3 hv3 hB3
        obtain ⟨q0, q1, q2, q3, q4, q5, q6⟩ := Blk.c7 kP3
        obtain ⟨t0, t1⟩ := Blk.c2 kQ3
        exact bodyPost_ret (v := .tuple #[ivv ⟨0, ⟨#[]⟩, 0, 0, 0, 0, ⟨#[]⟩⟩, .agg #[.slice xa xm xc, .int .i64 (errS (rd7 s).2 16).2]]) (by simp [results, Try.results39, go_sem, q0, q1, q2, q3, q4, q5, q6, t0, t1]) rfl ⟨_, by rw [HX.out]; rfl, by rw [HX.out]; exact hv3, hB3⟩
    · have hw2 : ((rd0 s).1 == [105, 110, 118]) = false := by simpa using hw
      have HX := Lib.hid (getI_no (s := s) (fun e => hw (HGD.out.1 e).1))
      clear hw HGD he
      go_wp2_with (first
        | (go_at_call 69; refine (refSpoil_any _ _ hR.b).mono ?_; rintro e V1 ⟨v8, rfl, hv, hb⟩; obtain ⟨xa, xm, xc, rfl⟩ := hv.shape3; replace hR := hR.below hb; obtain ⟨r0, r1, r2, r3, r4, r5, r6⟩ := Blk.c7 hR.p; have fr := hR.p.frozen; obtain ⟨s0, s1⟩ := Blk.c2 hR.q; have fs := hR.q.frozen))
      obtain ⟨kP, kQ, hv2, hB2⟩ := putP7 hR.p hR.q (by omega) hv hR.w (Nat.le_add_right _ 1) ⟨0, ⟨#[]⟩, 0, 0, 0, 0, ⟨#[]⟩⟩
      obtain ⟨kP3, kQ3, hv3, hB3⟩ := putQ (y := (errS (rd7 s).2 16).2) kP kQ (by omega) hv2 hB2 (Nat.le_add_right _ 2)
      dsimp only at kP3 kQ3 hv3 hB3
      obtain ⟨q0, q1, q2, q3, q4, q5, q6⟩ := Blk.c7 kP3
      obtain ⟨t0, t1⟩ := Blk.c2 kQ3
      exact bodyPost_ret (v := .tuple #[ivv ⟨0, ⟨#[]⟩, 0, 0, 0, 0, ⟨#[]⟩⟩, .agg #[.slice xa xm xc, .int .i64 (errS (rd7 s).2 16).2]]) (by simp [results, Try.results39, go_sem, q0, q1, q2, q3, q4, q5, q6, t0, t1]) rfl ⟨_, by rw [HX.out]; rfl, by rw [HX.out]; exact hv3, hB3⟩
  · have hq1 : ((rd7 s).2.2 == 0) = false := by simpa using he
    have hq2 : ((rd7 s).2.2 != 0) = true := by simpa using he
    have HX : Hid (getI s = (noI, errS (rd7 s).2 16)) := Lib.hid (if_neg fun e => he e.1)
    clear he HGD
    go_wp2_with (first
      | (go_at_call 69; refine (refSpoil_any _ _ hR.b).mono ?_; rintro e V1 ⟨v8, rfl, hv, hb⟩; obtain ⟨xa, xm, xc, rfl⟩ := hv.shape3; replace hR := hR.below hb; obtain ⟨r0, r1, r2, r3, r4, r5, r6⟩ := Blk.c7 hR.p; have fr := hR.p.frozen; obtain ⟨s0, s1⟩ := Blk.c2 hR.q; have fs := hR.q.frozen))
    obtain ⟨kP, kQ, hv2, hB2⟩ := putP7 hR.p hR.q (by omega) hv hR.w (Nat.le_add_right _ 1) ⟨0, ⟨#[]⟩, 0, 0, 0, 0, ⟨#[]⟩⟩
    obtain ⟨kP3, kQ3, hv3, hB3⟩ := putQ (y := (errS (rd7 s).2 16).2) kP kQ (by omega) hv2 hB2 (Nat.le_add_right _ 2)
    dsimp only at kP3 kQ3 hv3 hB3
    obtain ⟨q0, q1, q2, q3, q4, q5, q6⟩ := Blk.c7 kP3
    obtain ⟨t0, t1⟩ := Blk.c2 kQ3
    exact bodyPost_ret (v := .tuple #[ivv ⟨0, ⟨#[]⟩, 0, 0, 0, 0, ⟨#[]⟩⟩, .agg #[.slice xa xm xc, .int .i64 (errS (rd7 s).2 16).2]]) (by simp [results, Try.results39, go_sem, q0, q1, q2, q3, q4, q5, q6, t0, t1]) rfl ⟨_, by rw [HX.out]; rfl, by rw [HX.out]; exact hv3, hB3⟩

set_option maxRecDepth 100000 in
set_option maxHeartbeats 1000000 in
theorem refGetVar_any {s : St} (sv : Value) (w : World) (hsl : BSl 0 w.heap.size w sv s.1) :
    Calls Try.prog 40 #[.agg #[sv, .int .i64 s.2]] w (GetVR (getV s) w) := by
  have hmx : Try.prog.follows .mixedOrders = true := by kernel_rfl
  have H1 : Hid (∀ W v, BSl 0 W.heap.size W v (vd0 s).2.1 → Calls Try.prog 34 #[.agg #[v, .int .i64 (vd0 s).2.2], .int .i64 1099511627776] W (NumR (vd1 s) W)) := Lib.hid fun W v h => refGetNumP_any v 1099511627776 1099511627776 (Or.inr ⟨by omega, rfl⟩) W h
  obtain ⟨a, m, c, rfl⟩ := hsl.shape3
  have hR : RW 32 (svc noV) w ((((w.alloc (.cells #[.slice a m c, .int .i64 s.2] 74)).alloc (.cells (svc noV).toArray 32)).alloc (.cells #[.slice none 0 0, .int .i64 0] 74)).alloc (.cells (svc noV).toArray 32)) s (.slice a m c) (svc noV) := by
    have b3 := chainA (chainA (chainA (chain0 w (.cells #[.slice a m c, .int .i64 s.2] 74)) (.cells (svc noV).toArray 32)) (.cells #[.slice none 0 0, .int .i64 0] 74)) (.cells (svc noV).toArray 32)
    exact ⟨(((Blk.new w _ [_, _]).alloc _).alloc _).alloc _, ((Blk.new' (vs := svc noV) (by simp)).alloc _).alloc _, (Blk.new' (vs := [_, _]) (by simp)).alloc _, Blk.new' (vs := svc noV) (by simp), (hsl.below b3 (Nat.le_refl _)).mono (Nat.le_refl _) b3.size, noOct_v, b3⟩
  clear hsl
  obtain ⟨a0, a1⟩ := Blk.c2 hR.a
  generalize hu0 : wdS (vd0 s).1 0 = u0 at *
  generalize hu1 : wdS (vd0 s).1 1 = u1 at *
  generalize hu2 : wdS (vd0 s).1 2 = u2 at *
  generalize hu3 : wdS (vd0 s).1 3 = u3 at *
  have HRW : Hid (rawV s = ⟨u0, u1, u2, u3, ((vd1 s).1 : Nat)⟩) := Lib.hid (by rw [rawV, hu0, hu1, hu2, hu3])
  have HQ0 : Hid (∀ W v, BSl 0 W.heap.size W v s.1 → Calls Try.prog 37 #[.agg #[v, .int .i64 s.2]] W (fun e W' => ∃ sv, e = .returned (.tuple #[wv u0 u1 u2 u3, .agg #[sv, .int .i64 (vd0 s).2.2]]) ∧ BSl 0 W'.heap.size W' sv (vd0 s).2.1 ∧ Below W.heap.size W W')) := Lib.hid fun W v h => (refGetWide_any v W h).mono (by rintro e W' ⟨sv, rfl, a, b⟩; exact ⟨sv, by rw [← hu0, ← hu1, ← hu2, ← hu3]; rfl, a, b⟩)
  clear hu0 hu1 hu2 hu3
  go_enter Try.func40, Try.ntmps40
  go_upto_region 4 with (first
    | (go_at_call 37; refine (HQ0.out _ _ hR.b).mono ?_; rintro e W0 ⟨v0, rfl, hv, hb⟩; clear a0 a1 HQ0; obtain ⟨va, vm, vc, rfl⟩ := hv.shape3; replace hR := hR.below hb; obtain ⟨z0, z1, z2, z3, z4⟩ := Blk.c5 hR.l; have f := hR.l.frozen; obtain ⟨hS, hv2⟩ := hR.set hv 0 (.int .u64 (u0 : Nat)) (noOct_u _); replace hR : RW 32 (svc noV) w _ s _ (svc ⟨u0, 0, 0, 0, 0⟩) := hS; replace hv := hv2; clear hS hv2; obtain ⟨hS, hv2⟩ := hR.set hv 1 (.int .u64 (u1 : Nat)) (noOct_u _); replace hR : RW 32 (svc noV) w _ s _ (svc ⟨u0, u1, 0, 0, 0⟩) := hS; replace hv := hv2; clear hS hv2; obtain ⟨hS, hv2⟩ := hR.set hv 2 (.int .u64 (u2 : Nat)) (noOct_u _); replace hR : RW 32 (svc noV) w _ s _ (svc ⟨u0, u1, u2, 0, 0⟩) := hS; replace hv := hv2; clear hS hv2; obtain ⟨hS, hv2⟩ := hR.set hv 3 (.int .u64 (u3 : Nat)) (noOct_u _); replace hR : RW 32 (svc noV) w _ s _ (svc ⟨u0, u1, u2, u3, 0⟩) := hS; replace hv := hv2; clear hS hv2; have y0 := hR.a.cell 0; have y1 := hR.a.cell 1; have fa := hR.a.frozen; replace hR := RW.fin (s' := (vd0 s).2) hR hv; obtain ⟨a0, a1⟩ := Blk.c2 hR.a; clear hv hb)
    | (go_at_call 34; refine (H1.out _ _ hR.b).mono ?_; rintro e W1 ⟨v1, rfl, hv, hb⟩; clear a0 a1 H1 z0 z1 z2 z3 z4 f fa y0 y1; obtain ⟨va, vm, vc, rfl⟩ := hv.shape3; replace hR := hR.below hb; have z := (hR.l.cell 4).trans rfl; have f := hR.l.frozen 4; obtain ⟨hS, hv2⟩ := hR.set hv 4 (.int .i64 ((vd1 s).1 : Nat)) (noOct_i _); replace hR : RW 32 (svc noV) w _ (vd0 s).2 _ (svc ⟨u0, u1, u2, u3, ((vd1 s).1 : Nat)⟩) := hS; replace hv := hv2; clear hS hv2; have y0 := hR.a.cell 0; have y1 := hR.a.cell 1; have fa := hR.a.frozen; replace hR := RW.fin (s' := (vd1 s).2) hR hv; obtain ⟨a0, a1⟩ := Blk.c2 hR.a; clear hv hb))
  clear z f fa y0 y1 a0 a1
  generalize hY : (World.setCell (World.setCell (World.setCell W1 _ _) _ _) _ _) = Y at *
  clear hY
  obtain ⟨a0, a1⟩ := Blk.c2 hR.a
  obtain ⟨c0, c1, c2, c3, c4⟩ := Blk.c5 hR.l
  have HC : Hid (∀ W, Calls Try.prog 44 #[svv ⟨u0, u1, u2, u3, ((vd1 s).1 : Nat)⟩] W fun e W' => e = .returned (.int .i64 (errV (rawV s))) ∧ Below W.heap.size W W') := Lib.hid (by rw [HRW.out]; exact refVar_any _)
  by_cases he : (vd1 s).2.2 = 0
  · have hq1 : ((vd1 s).2.2 == 0) = true := by simpa using he
    have hq2 : ((vd1 s).2.2 != 0) = false := by simpa using he
    by_cases hm : maybeV (rawV s)
    · have HE := Lib.hid (errV_zero hm)
      have HX := Lib.hid (getV_yes he hm)
      clear hm he
      go_upto_region 6 with (go_at_call 44; refine (HC.out _).mono ?_; rw [HE.out]; rintro e V0 ⟨rfl, hb⟩; replace hR := hR.below hb; clear a0 a1 c0 c1 c2 c3 c4; obtain ⟨a0, a1⟩ := Blk.c2 hR.a; obtain ⟨c0, c1, c2, c3, c4⟩ := Blk.c5 hR.l)
      have kP := hR.p
      have kQ := hR.q
      have hv := hR.b
      have hB := hR.w.drew
      have kL := hR.l
      have kA := hR.a
      clear hR a0 a1 c0 c1 c2 c3 c4 HC HE hq1 hq2
      refine wp_region_held_drew (S := fun W => Blk W (w.heap.size + 3) 32 (svc ⟨u0, u1, u2, u3, ((vd1 s).1 : Nat)⟩) ∧ Blk W w.heap.size 74 [.slice va vm vc, .int .i64 (vd1 s).2.2]) hmx ⟨kL, kA⟩ ?_
      intro hS
      replace kP : Blk V0.drew (w.heap.size + 1) 32 (svc noV) := kP
      replace kQ : Blk V0.drew (w.heap.size + 2) 74 [.slice none 0 0, .int .i64 0] := kQ
      replace hv : BSl 0 V0.drew.heap.size V0.drew (.slice va vm vc) (vd1 s).2.1 := (hv.below (Below.refl _ V0).drew (Nat.le_refl _)).mono (Nat.le_refl _) (Nat.le_refl _)
      clear kL kA
      generalize V0.drew = Y2 at *
      refine' wpAnyH_take (i := 0) (oi := _) (v := _) ?hi5 (by kernel_rfl) (by kernel_rfl) (by kernel_rfl) ?hQ5 (Or.inl ⟨?hw5, ?hy5⟩) hS ?rest5
      case hi5 => simp only [List.getElem?_toArray, List.getElem?_cons_zero]; rfl
      case hQ5 => exact fun _ _ _ h => h
      case hw5 => rfl
      case hy5 => intro W' hS'; obtain ⟨c0, c1, c2, c3, c4⟩ := Blk.c5 hS'.1; go_simp; with_reducible rfl
      try simp only [Act.put, List.setIfInBounds_toArray, List.set_cons_zero, List.set_cons_succ]
      refine' wpAnyH_take (i := 1) (oi := _) (v := _) ?hi6 (by kernel_rfl) (by kernel_rfl) (by kernel_rfl) ?hQ6 (Or.inl ⟨?hw6, ?hy6⟩) hS ?rest6
      case hi6 => simp only [List.getElem?_toArray, List.getElem?_cons_succ, List.getElem?_cons_zero]; rfl
      case hQ6 => exact fun _ _ _ h => h
      case hw6 => rfl
      case hy6 => intro W' hS'; obtain ⟨a0, a1⟩ := Blk.c2 hS'.2; go_simp; with_reducible rfl
      try simp only [Act.put, List.setIfInBounds_toArray, List.set_cons_zero, List.set_cons_succ]
      refine wpAnyH_ready (rs := [2]) (by kernel_rfl) (by simp) ?_
      refine' AllReadyH.cons (o := _) ?ho7 (fun K hK => ?st7) AllReadyH.nil
      case ho7 => simp only [List.getElem?_toArray, List.getElem?_cons_succ, List.getElem?_cons_zero]; rfl
      case st7 =>
        obtain ⟨r0, r1, r2, r3, r4⟩ := Blk.c5 kP
        have fr := kP.frozen
        go_simp
        refine hK.out _ _ ⟨others5 hS.1 (by omega) ⟨u0, u1, u2, u3, ((vd1 s).1 : Nat)⟩, others5 hS.2 (by omega) ⟨u0, u1, u2, u3, ((vd1 s).1 : Nat)⟩⟩ (fun hS => ?_)
        clear hK K
        try simp only [Act.put, List.setIfInBounds_toArray, List.set_cons_zero, List.set_cons_succ]
        obtain ⟨kP, kQ, hv, hB⟩ := putP5 kP kQ (by omega) hv hB (Nat.le_add_right _ 1) ⟨u0, u1, u2, u3, ((vd1 s).1 : Nat)⟩
        dsimp only at kP kQ hv hB
        clear r0 r1 r2 r3 r4 fr
        generalize hZ : (World.setCell (World.setCell (World.setCell (World.setCell (World.setCell Y2 _ _) _ _) _ _) _ _) _ _) = Y3 at *
        clear hZ
        refine wpAnyH_ready (rs := [3]) (by kernel_rfl) (by simp) ?_
        refine' AllReadyH.cons (o := _) ?ho8 (fun K hK => ?st8) AllReadyH.nil
        case ho8 => simp only [List.getElem?_toArray, List.getElem?_cons_succ, List.getElem?_cons_zero]; rfl
        case st8 =>
          obtain ⟨s0, s1⟩ := Blk.c2 kQ
          have fs := kQ.frozen
          go_simp
          refine hK.out _ _ ⟨(hS.1.other 0 _ (by omega)).other 1 _ (by omega), (hS.2.other 0 _ (by omega)).other 1 _ (by omega)⟩ (fun hS => ?_)
          clear hK K
          try simp only [Act.put, List.setIfInBounds_toArray, List.set_cons_zero, List.set_cons_succ]
          obtain ⟨kP, kQ, hv, hB⟩ := putQ (y := (vd1 s).2.2) kP kQ (by omega) hv hB (Nat.le_add_right _ 2)
          refine wpAnyH_done (by kernel_rfl) ?_ _
          go_wp2_with fail
          obtain ⟨q0, q1, q2, q3, q4⟩ := Blk.c5 kP
          obtain ⟨t0, t1⟩ := Blk.c2 kQ
          exact bodyPost_ret (v := .tuple #[svv ⟨u0, u1, u2, u3, ((vd1 s).1 : Nat)⟩, .agg #[.slice va vm vc, .int .i64 (vd1 s).2.2]]) (by simp [results, Try.results40, go_sem, q0, q1, q2, q3, q4, t0, t1]) rfl ⟨_, by rw [HX.out, HRW.out], by rw [HX.out]; exact hv, hB⟩
    · have HE := Lib.hid (errV_bad hm)
      have HX := Lib.hid (getV_no hm)
      clear hm he
      go_wp2_with (first
        | (go_at_call 44; refine (HC.out _).mono ?_; rw [HE.out]; rintro e V0 ⟨rfl, hb⟩; replace hR := hR.below hb; clear a0 a1 c0 c1 c2 c3 c4; obtain ⟨a0, a1⟩ := Blk.c2 hR.a; obtain ⟨c0, c1, c2, c3, c4⟩ := Blk.c5 hR.l)
        | (go_at_call 69; refine (refSpoil_any _ _ hR.b).mono ?_; rintro e V1 ⟨v8, rfl, hv, hb⟩; obtain ⟨xa, xm, xc, rfl⟩ := hv.shape3; replace hR := hR.below hb; obtain ⟨r0, r1, r2, r3, r4⟩ := Blk.c5 hR.p; have fr := hR.p.frozen; obtain ⟨s0, s1⟩ := Blk.c2 hR.q; have fs := hR.q.frozen))
      obtain ⟨kP, kQ, hv2, hB2⟩ := putP5z hR.p hR.q (by omega) hv hR.w (Nat.le_add_right _ 1)
      obtain ⟨kP3, kQ3, hv3, hB3⟩ := putQ (y := (errS (vd1 s).2 16).2) kP kQ (by omega) hv2 hB2 (Nat.le_add_right _ 2)
      obtain ⟨q0, q1, q2, q3, q4⟩ := Blk.c5 kP3
      obtain ⟨t0, t1⟩ := Blk.c2 kQ3
      exact bodyPost_ret (v := .tuple #[svv ⟨0, 0, 0, 0, 0⟩, .agg #[.slice xa xm xc, .int .i64 (errS (vd1 s).2 16).2]]) (by simp [results, Try.results40, go_sem, q0, q1, q2, q3, q4, t0, t1]) rfl ⟨_, by rw [HX.out]; rfl, by rw [HX.out]; exact hv3, hB3⟩
  · have hq1 : ((vd1 s).2.2 == 0) = false := by simpa using he
    have hq2 : ((vd1 s).2.2 != 0) = true := by simpa using he
    have HX : Hid (getV s = (noV, errS (vd1 s).2 16)) := Lib.hid (if_neg fun e => he e.1)
    clear he
    go_wp2_with (first
      | (go_at_call 69; refine (refSpoil_any _ _ hR.b).mono ?_; rintro e V1 ⟨v8, rfl, hv, hb⟩; obtain ⟨xa, xm, xc, rfl⟩ := hv.shape3; replace hR := hR.below hb; obtain ⟨r0, r1, r2, r3, r4⟩ := Blk.c5 hR.p; have fr := hR.p.frozen; obtain ⟨s0, s1⟩ := Blk.c2 hR.q; have fs := hR.q.frozen))
    obtain ⟨kP, kQ, hv2, hB2⟩ := putP5z hR.p hR.q (by omega) hv hR.w (Nat.le_add_right _ 1)
    obtain ⟨kP3, kQ3, hv3, hB3⟩ := putQ (y := (errS (vd1 s).2 16).2) kP kQ (by omega) hv2 hB2 (Nat.le_add_right _ 2)
    obtain ⟨q0, q1, q2, q3, q4⟩ := Blk.c5 kP3
    obtain ⟨t0, t1⟩ := Blk.c2 kQ3
    exact bodyPost_ret (v := .tuple #[svv ⟨0, 0, 0, 0, 0⟩, .agg #[.slice xa xm xc, .int .i64 (errS (vd1 s).2 16).2]]) (by simp [results, Try.results40, go_sem, q0, q1, q2, q3, q4, t0, t1]) rfl ⟨_, by rw [HX.out]; rfl, by rw [HX.out]; exact hv3, hB3⟩
end Go.Proofs.Ytigdenlnnnfjlaa

namespace Go.Proofs.Ytigdenlnnnfjlaa
open Go.RowKit Go.Shelf

/-- GetNum, and its like, with the numbers under names. -/
def HNum (s : St) (n : Int) (e : St) : Prop := ∀ W v, BSl 0 W.heap.size W v s.1 → Calls Try.prog 34 #[.agg #[v, .int .i64 s.2], .int .i64 1099511627776] W fun x W' => ∃ sv, x = .returned (.tuple #[.int .i64 n, .agg #[sv, .int .i64 e.2]]) ∧ BSl 0 W'.heap.size W' sv e.1 ∧ Below W.heap.size W W'
def HWid (s : St) (u0 u1 u2 u3 : Nat) (e : St) : Prop := ∀ W v, BSl 0 W.heap.size W v s.1 → Calls Try.prog 37 #[.agg #[v, .int .i64 s.2]] W fun x W' => ∃ sv, x = .returned (.tuple #[wv u0 u1 u2 u3, .agg #[sv, .int .i64 e.2]]) ∧ BSl 0 W'.heap.size W' sv e.1 ∧ Below W.heap.size W W'
def HTxt (s : St) (g : List UInt8) (e : St) : Prop := ∀ W v, BSl 0 W.heap.size W v s.1 → Calls Try.prog 38 #[.agg #[v, .int .i64 s.2], .int .i64 1024] W fun x W' => ∃ sv, x = .returned (.tuple #[.string ⟨g.toArray⟩, .agg #[sv, .int .i64 e.2]]) ∧ BSl 0 W'.heap.size W' sv e.1 ∧ Below W.heap.size W W'
def HInv (s : St) (i : Trf) (e : St) : Prop := ∀ W v, BSl 0 W.heap.size W v s.1 → Calls Try.prog 39 #[.agg #[v, .int .i64 s.2]] W fun x W' => ∃ sv, x = .returned (.tuple #[ivv i, .agg #[sv, .int .i64 e.2]]) ∧ BSl 0 W'.heap.size W' sv e.1 ∧ Below W.heap.size W W'
def HVar (s : St) (i : Sid) (e : St) : Prop := ∀ W v, BSl 0 W.heap.size W v s.1 → Calls Try.prog 40 #[.agg #[v, .int .i64 s.2]] W fun x W' => ∃ sv, x = .returned (.tuple #[svv i, .agg #[sv, .int .i64 e.2]]) ∧ BSl 0 W'.heap.size W' sv e.1 ∧ Below W.heap.size W W'
theorem hNum (s : St) : HNum s ((mostS s 6 big).1 : Nat) (mostS s 6 big).2 := fun W v h => refGetNumP_any v 1099511627776 1099511627776 (Or.inr ⟨by omega, rfl⟩) W h
theorem hWid (s : St) : HWid s (wdS (takeS s 32).1 0) (wdS (takeS s 32).1 1) (wdS (takeS s 32).1 2) (wdS (takeS s 32).1 3) (takeS s 32).2 := fun W v h => refGetWide_any v W h
theorem hTxt (s : St) : HTxt s (gtxtS s 1024).1 (gtxtS s 1024).2 := fun W v h => refGetTextP_any v 1024 1024 (Or.inr ⟨by omega, rfl⟩) W h
theorem hInv (s : St) : HInv s (getI s).1 (getI s).2 := fun W v h => refGetInv_any v W h
theorem hVar (s : St) : HVar s (getV s).1 (getV s).2 := fun W v h => refGetVar_any v W h
end Go.Proofs.Ytigdenlnnnfjlaa

namespace Go.Proofs.Ytigdenlnnnfjlaa
open Go.RowKit Go.Shelf

/-- What is read, and what is left. -/
def GetAR (r : Ak × St) (w : World) (e : Ending) (W' : World) : Prop :=
  ∃ sv, e = .returned (.tuple #[akv r.1, .agg #[sv, .int .i64 r.2.2]]) ∧ BSl 0 W'.heap.size W' sv r.2.1 ∧ Below w.heap.size w W'
theorem noOct_a : ∀ u ∈ akc noA, ∀ y, u ≠ bv y := by
  intro u hu y
  simp only [akc, List.mem_cons, List.not_mem_nil, or_false] at hu
  rcases hu with rfl | rfl | rfl | rfl | rfl | rfl | rfl | rfl | rfl <;> simp [bv]
theorem others9 {W : World} {B P : Nat} {t : TypeId} {vs : List Value} (h : Blk W B t vs) (hne : B ≠ P) (x : Ak) : Blk (((((((((W.setCell ⟨P, 0, none⟩ (.int .i64 x.us)).setCell ⟨P, 1, none⟩ (.int .i64 x.se)).setCell ⟨P, 2, none⟩ (.int .i64 x.re)).setCell ⟨P, 3, none⟩ (.int .i64 x.to)).setCell ⟨P, 4, none⟩ (.int .u64 (x.a0 : Nat))).setCell ⟨P, 5, none⟩ (.int .u64 (x.a1 : Nat))).setCell ⟨P, 6, none⟩ (.int .u64 (x.a2 : Nat))).setCell ⟨P, 7, none⟩ (.int .u64 (x.a3 : Nat))).setCell ⟨P, 8, none⟩ (.string x.id)) B t vs :=
  (((((((((h.other 0 _ hne).other 1 _ hne).other 2 _ hne).other 3 _ hne).other 4 _ hne).other 5 _ hne).other 6 _ hne).other 7 _ hne).other 8 _ hne)
theorem putP9 {w Y : World} {n P Q : Nat} {Tq : TypeId} {i : Ak} {ws : List Value} {sv : Value} {l : List UInt8} (kP : Blk Y P 26 (akc i)) (kQ : Blk Y Q Tq ws) (hPQ : Q ≠ P) (hv : BSl 0 Y.heap.size Y sv l) (hB : Below n w Y) (hn : n ≤ P) (x : Ak) :
    Blk (((((((((Y.setCell ⟨P, 0, none⟩ (.int .i64 x.us)).setCell ⟨P, 1, none⟩ (.int .i64 x.se)).setCell ⟨P, 2, none⟩ (.int .i64 x.re)).setCell ⟨P, 3, none⟩ (.int .i64 x.to)).setCell ⟨P, 4, none⟩ (.int .u64 (x.a0 : Nat))).setCell ⟨P, 5, none⟩ (.int .u64 (x.a1 : Nat))).setCell ⟨P, 6, none⟩ (.int .u64 (x.a2 : Nat))).setCell ⟨P, 7, none⟩ (.int .u64 (x.a3 : Nat))).setCell ⟨P, 8, none⟩ (.string x.id)) P 26 (akc x) ∧ Blk (((((((((Y.setCell ⟨P, 0, none⟩ (.int .i64 x.us)).setCell ⟨P, 1, none⟩ (.int .i64 x.se)).setCell ⟨P, 2, none⟩ (.int .i64 x.re)).setCell ⟨P, 3, none⟩ (.int .i64 x.to)).setCell ⟨P, 4, none⟩ (.int .u64 (x.a0 : Nat))).setCell ⟨P, 5, none⟩ (.int .u64 (x.a1 : Nat))).setCell ⟨P, 6, none⟩ (.int .u64 (x.a2 : Nat))).setCell ⟨P, 7, none⟩ (.int .u64 (x.a3 : Nat))).setCell ⟨P, 8, none⟩ (.string x.id)) Q Tq ws ∧ BSl 0 (((((((((Y.setCell ⟨P, 0, none⟩ (.int .i64 x.us)).setCell ⟨P, 1, none⟩ (.int .i64 x.se)).setCell ⟨P, 2, none⟩ (.int .i64 x.re)).setCell ⟨P, 3, none⟩ (.int .i64 x.to)).setCell ⟨P, 4, none⟩ (.int .u64 (x.a0 : Nat))).setCell ⟨P, 5, none⟩ (.int .u64 (x.a1 : Nat))).setCell ⟨P, 6, none⟩ (.int .u64 (x.a2 : Nat))).setCell ⟨P, 7, none⟩ (.int .u64 (x.a3 : Nat))).setCell ⟨P, 8, none⟩ (.string x.id)).heap.size (((((((((Y.setCell ⟨P, 0, none⟩ (.int .i64 x.us)).setCell ⟨P, 1, none⟩ (.int .i64 x.se)).setCell ⟨P, 2, none⟩ (.int .i64 x.re)).setCell ⟨P, 3, none⟩ (.int .i64 x.to)).setCell ⟨P, 4, none⟩ (.int .u64 (x.a0 : Nat))).setCell ⟨P, 5, none⟩ (.int .u64 (x.a1 : Nat))).setCell ⟨P, 6, none⟩ (.int .u64 (x.a2 : Nat))).setCell ⟨P, 7, none⟩ (.int .u64 (x.a3 : Nat))).setCell ⟨P, 8, none⟩ (.string x.id)) sv l ∧ Below n w (((((((((Y.setCell ⟨P, 0, none⟩ (.int .i64 x.us)).setCell ⟨P, 1, none⟩ (.int .i64 x.se)).setCell ⟨P, 2, none⟩ (.int .i64 x.re)).setCell ⟨P, 3, none⟩ (.int .i64 x.to)).setCell ⟨P, 4, none⟩ (.int .u64 (x.a0 : Nat))).setCell ⟨P, 5, none⟩ (.int .u64 (x.a1 : Nat))).setCell ⟨P, 6, none⟩ (.int .u64 (x.a2 : Nat))).setCell ⟨P, 7, none⟩ (.int .u64 (x.a3 : Nat))).setCell ⟨P, 8, none⟩ (.string x.id)) := by
  have st : ∀ (vs : List Value) (W : World) (k : Nat) (v : Value), Blk W P 26 vs → (∀ u ∈ vs, ∀ y, u ≠ bv y) → (∀ y, v ≠ bv y) → BSl 0 W.heap.size W sv l → Below n w W →
      Blk (W.setCell ⟨P, k, none⟩ v) P 26 (vs.set k v) ∧ (∀ u ∈ vs.set k v, ∀ y, u ≠ bv y) ∧ BSl 0 (W.setCell ⟨P, k, none⟩ v).heap.size (W.setCell ⟨P, k, none⟩ v) sv l ∧ Below n w (W.setCell ⟨P, k, none⟩ v) := by
    intro vs W k v kW hno hv h g
    refine ⟨kW.set k v, fun u hu => ?_, (h.to (Nat.le_refl _) (grownBy_setCell4 W P k v) (fun r e => by cases e; exact noOct_blk kW hno)).mono (Nat.le_refl _) (by simp), g.setCell (p := ⟨P, k, none⟩) hn _⟩
    rcases List.mem_or_eq_of_mem_set hu with h1 | rfl
    · exact hno u h1
    · exact hv
  have h0 : ∀ u ∈ akc i, ∀ y, u ≠ bv y := by
    intro u hu y
    simp only [akc, List.mem_cons, List.not_mem_nil, or_false] at hu
    rcases hu with rfl | rfl | rfl | rfl | rfl | rfl | rfl | rfl | rfl <;> simp [bv]
  obtain ⟨k0, n0, o0, g0⟩ := st _ _ 0 (.int .i64 x.us) kP h0 (by intro y; simp [bv]) hv hB
  obtain ⟨k1, n1, o1, g1⟩ := st _ _ 1 (.int .i64 x.se) k0 n0 (by intro y; simp [bv]) o0 g0
  obtain ⟨k2, n2, o2, g2⟩ := st _ _ 2 (.int .i64 x.re) k1 n1 (by intro y; simp [bv]) o1 g1
  obtain ⟨k3, n3, o3, g3⟩ := st _ _ 3 (.int .i64 x.to) k2 n2 (by intro y; simp [bv]) o2 g2
  obtain ⟨k4, n4, o4, g4⟩ := st _ _ 4 (.int .u64 (x.a0 : Nat)) k3 n3 (by intro y; simp [bv]) o3 g3
  obtain ⟨k5, n5, o5, g5⟩ := st _ _ 5 (.int .u64 (x.a1 : Nat)) k4 n4 (by intro y; simp [bv]) o4 g4
  obtain ⟨k6, n6, o6, g6⟩ := st _ _ 6 (.int .u64 (x.a2 : Nat)) k5 n5 (by intro y; simp [bv]) o5 g5
  obtain ⟨k7, n7, o7, g7⟩ := st _ _ 7 (.int .u64 (x.a3 : Nat)) k6 n6 (by intro y; simp [bv]) o6 g6
  obtain ⟨k8, n8, o8, g8⟩ := st _ _ 8 (.string x.id) k7 n7 (by intro y; simp [bv]) o7 g7
  exact ⟨k8, others9 kQ hPQ x, o8, g8⟩
theorem putP9z {w Y : World} {n P Q : Nat} {Tq : TypeId} {i : Ak} {ws : List Value} {sv : Value} {l : List UInt8} (kP : Blk Y P 26 (akc i)) (kQ : Blk Y Q Tq ws) (hPQ : Q ≠ P) (hv : BSl 0 Y.heap.size Y sv l) (hB : Below n w Y) (hn : n ≤ P) :
    Blk (((((((((Y.setCell ⟨P, 0, none⟩ (.int .i64 0)).setCell ⟨P, 1, none⟩ (.int .i64 0)).setCell ⟨P, 2, none⟩ (.int .i64 0)).setCell ⟨P, 3, none⟩ (.int .i64 0)).setCell ⟨P, 4, none⟩ (.int .u64 0)).setCell ⟨P, 5, none⟩ (.int .u64 0)).setCell ⟨P, 6, none⟩ (.int .u64 0)).setCell ⟨P, 7, none⟩ (.int .u64 0)).setCell ⟨P, 8, none⟩ (.string ⟨#[]⟩)) P 26 [.int .i64 0, .int .i64 0, .int .i64 0, .int .i64 0, .int .u64 0, .int .u64 0, .int .u64 0, .int .u64 0, .string ⟨#[]⟩] ∧ Blk (((((((((Y.setCell ⟨P, 0, none⟩ (.int .i64 0)).setCell ⟨P, 1, none⟩ (.int .i64 0)).setCell ⟨P, 2, none⟩ (.int .i64 0)).setCell ⟨P, 3, none⟩ (.int .i64 0)).setCell ⟨P, 4, none⟩ (.int .u64 0)).setCell ⟨P, 5, none⟩ (.int .u64 0)).setCell ⟨P, 6, none⟩ (.int .u64 0)).setCell ⟨P, 7, none⟩ (.int .u64 0)).setCell ⟨P, 8, none⟩ (.string ⟨#[]⟩)) Q Tq ws ∧ BSl 0 (((((((((Y.setCell ⟨P, 0, none⟩ (.int .i64 0)).setCell ⟨P, 1, none⟩ (.int .i64 0)).setCell ⟨P, 2, none⟩ (.int .i64 0)).setCell ⟨P, 3, none⟩ (.int .i64 0)).setCell ⟨P, 4, none⟩ (.int .u64 0)).setCell ⟨P, 5, none⟩ (.int .u64 0)).setCell ⟨P, 6, none⟩ (.int .u64 0)).setCell ⟨P, 7, none⟩ (.int .u64 0)).setCell ⟨P, 8, none⟩ (.string ⟨#[]⟩)).heap.size (((((((((Y.setCell ⟨P, 0, none⟩ (.int .i64 0)).setCell ⟨P, 1, none⟩ (.int .i64 0)).setCell ⟨P, 2, none⟩ (.int .i64 0)).setCell ⟨P, 3, none⟩ (.int .i64 0)).setCell ⟨P, 4, none⟩ (.int .u64 0)).setCell ⟨P, 5, none⟩ (.int .u64 0)).setCell ⟨P, 6, none⟩ (.int .u64 0)).setCell ⟨P, 7, none⟩ (.int .u64 0)).setCell ⟨P, 8, none⟩ (.string ⟨#[]⟩)) sv l ∧ Below n w (((((((((Y.setCell ⟨P, 0, none⟩ (.int .i64 0)).setCell ⟨P, 1, none⟩ (.int .i64 0)).setCell ⟨P, 2, none⟩ (.int .i64 0)).setCell ⟨P, 3, none⟩ (.int .i64 0)).setCell ⟨P, 4, none⟩ (.int .u64 0)).setCell ⟨P, 5, none⟩ (.int .u64 0)).setCell ⟨P, 6, none⟩ (.int .u64 0)).setCell ⟨P, 7, none⟩ (.int .u64 0)).setCell ⟨P, 8, none⟩ (.string ⟨#[]⟩)) := putP9 kP kQ hPQ hv hB hn ⟨0, 0, 0, 0, 0, 0, 0, 0, ⟨#[]⟩⟩

set_option maxRecDepth 100000 in
set_option maxHeartbeats 2000000 in
theorem refGetAsk_any {s : St} (sv : Value) (w : World) (hsl : BSl 0 w.heap.size w sv s.1) :
    Calls Try.prog 36 #[.agg #[sv, .int .i64 s.2]] w (GetAR (getA s) w) := by
  have hmx : Try.prog.follows .mixedOrders = true := by kernel_rfl
  have H0 : Hid (∀ W v, BSl 0 W.heap.size W v s.1 → Calls Try.prog 34 #[.agg #[v, .int .i64 s.2], .int .i64 1099511627776] W (NumR (ad0 s) W)) := Lib.hid fun W v h => refGetNumP_any v 1099511627776 1099511627776 (Or.inr ⟨by omega, rfl⟩) W h
  have H1 : Hid (∀ W v, BSl 0 W.heap.size W v (ad0 s).2.1 → Calls Try.prog 34 #[.agg #[v, .int .i64 (ad0 s).2.2], .int .i64 1099511627776] W (NumR (ad1 s) W)) := Lib.hid fun W v h => refGetNumP_any v 1099511627776 1099511627776 (Or.inr ⟨by omega, rfl⟩) W h
  have H2 : Hid (∀ W v, BSl 0 W.heap.size W v (ad1 s).2.1 → Calls Try.prog 34 #[.agg #[v, .int .i64 (ad1 s).2.2], .int .i64 1099511627776] W (NumR (ad2 s) W)) := Lib.hid fun W v h => refGetNumP_any v 1099511627776 1099511627776 (Or.inr ⟨by omega, rfl⟩) W h
  have H3 : Hid (∀ W v, BSl 0 W.heap.size W v (ad2 s).2.1 → Calls Try.prog 34 #[.agg #[v, .int .i64 (ad2 s).2.2], .int .i64 1099511627776] W (NumR (ad3 s) W)) := Lib.hid fun W v h => refGetNumP_any v 1099511627776 1099511627776 (Or.inr ⟨by omega, rfl⟩) W h
  have H5 : Hid (∀ W v, BSl 0 W.heap.size W v (ad4 s).2.1 → Calls Try.prog 38 #[.agg #[v, .int .i64 (ad4 s).2.2], .int .i64 16] W (TxtR (ad5 s) W)) := Lib.hid fun W v h => refGetTextP_any v 16 16 (Or.inr ⟨by omega, rfl⟩) W h
  obtain ⟨a, m, c, rfl⟩ := hsl.shape3
  have hR : RW 26 (akc noA) w ((((w.alloc (.cells #[.slice a m c, .int .i64 s.2] 74)).alloc (.cells (akc noA).toArray 26)).alloc (.cells #[.slice none 0 0, .int .i64 0] 74)).alloc (.cells (akc noA).toArray 26)) s (.slice a m c) (akc noA) := by
    have b3 := chainA (chainA (chainA (chain0 w (.cells #[.slice a m c, .int .i64 s.2] 74)) (.cells (akc noA).toArray 26)) (.cells #[.slice none 0 0, .int .i64 0] 74)) (.cells (akc noA).toArray 26)
    exact ⟨(((Blk.new w _ [_, _]).alloc _).alloc _).alloc _, ((Blk.new' (vs := akc noA) (by simp)).alloc _).alloc _, (Blk.new' (vs := [_, _]) (by simp)).alloc _, Blk.new' (vs := akc noA) (by simp), (hsl.below b3 (Nat.le_refl _)).mono (Nat.le_refl _) b3.size, noOct_a, b3⟩
  clear hsl
  obtain ⟨a0, a1⟩ := Blk.c2 hR.a
  generalize hu0 : wdS (ad4 s).1 0 = u0 at *
  generalize hu1 : wdS (ad4 s).1 1 = u1 at *
  generalize hu2 : wdS (ad4 s).1 2 = u2 at *
  generalize hu3 : wdS (ad4 s).1 3 = u3 at *
  have HRW : Hid (rawA s = ⟨((ad0 s).1 : Nat), ((ad1 s).1 : Nat), ((ad2 s).1 : Nat), ((ad3 s).1 : Nat), u0, u1, u2, u3, str (ad5 s).1⟩) := Lib.hid (by rw [rawA, hu0, hu1, hu2, hu3])
  have H4 : Hid (∀ W v, BSl 0 W.heap.size W v (ad3 s).2.1 → Calls Try.prog 37 #[.agg #[v, .int .i64 (ad3 s).2.2]] W (fun e W' => ∃ sv, e = .returned (.tuple #[wv u0 u1 u2 u3, .agg #[sv, .int .i64 (ad4 s).2.2]]) ∧ BSl 0 W'.heap.size W' sv (ad4 s).2.1 ∧ Below W.heap.size W W')) := Lib.hid fun W v h => (refGetWide_any v W h).mono (by rintro e W' ⟨sv, rfl, a, b⟩; exact ⟨sv, by rw [← hu0, ← hu1, ← hu2, ← hu3]; rfl, a, b⟩)
  clear hu0 hu1 hu2 hu3
  go_enter Try.func36, Try.ntmps36
  go_upto_region 8 with (first
    | (go_at_call 34; refine (H0.out _ _ hR.b).mono ?_; rintro e W0 ⟨v0, rfl, hv, hb⟩; clear a0 a1 H0; (try clear z f); (try clear fa y0 y1); obtain ⟨va, vm, vc, rfl⟩ := hv.shape3; replace hR := hR.below hb; have z := (hR.l.cell 0).trans rfl; have f := hR.l.frozen 0; obtain ⟨hS, hv2⟩ := hR.set hv 0 (.int .i64 ((ad0 s).1 : Nat)) (noOct_i _); replace hR : RW 26 (akc noA) w _ s _ (akc ⟨((ad0 s).1 : Nat), (0 : Int), (0 : Int), (0 : Int), 0, 0, 0, 0, ⟨#[]⟩⟩) := hS; replace hv := hv2; clear hS hv2; have y0 := hR.a.cell 0; have y1 := hR.a.cell 1; have fa := hR.a.frozen; replace hR := RW.fin (s' := (ad0 s).2) hR hv; obtain ⟨a0, a1⟩ := Blk.c2 hR.a; clear hv hb)
    | (go_at_call 34; refine (H1.out _ _ hR.b).mono ?_; rintro e W1 ⟨v1, rfl, hv, hb⟩; clear a0 a1 H1; (try clear z f); (try clear fa y0 y1); obtain ⟨va, vm, vc, rfl⟩ := hv.shape3; replace hR := hR.below hb; have z := (hR.l.cell 1).trans rfl; have f := hR.l.frozen 1; obtain ⟨hS, hv2⟩ := hR.set hv 1 (.int .i64 ((ad1 s).1 : Nat)) (noOct_i _); replace hR : RW 26 (akc noA) w _ (ad0 s).2 _ (akc ⟨((ad0 s).1 : Nat), ((ad1 s).1 : Nat), (0 : Int), (0 : Int), 0, 0, 0, 0, ⟨#[]⟩⟩) := hS; replace hv := hv2; clear hS hv2; have y0 := hR.a.cell 0; have y1 := hR.a.cell 1; have fa := hR.a.frozen; replace hR := RW.fin (s' := (ad1 s).2) hR hv; obtain ⟨a0, a1⟩ := Blk.c2 hR.a; clear hv hb)
    | (go_at_call 34; refine (H2.out _ _ hR.b).mono ?_; rintro e W2 ⟨v2, rfl, hv, hb⟩; clear a0 a1 H2; (try clear z f); (try clear fa y0 y1); obtain ⟨va, vm, vc, rfl⟩ := hv.shape3; replace hR := hR.below hb; have z := (hR.l.cell 2).trans rfl; have f := hR.l.frozen 2; obtain ⟨hS, hv2⟩ := hR.set hv 2 (.int .i64 ((ad2 s).1 : Nat)) (noOct_i _); replace hR : RW 26 (akc noA) w _ (ad1 s).2 _ (akc ⟨((ad0 s).1 : Nat), ((ad1 s).1 : Nat), ((ad2 s).1 : Nat), (0 : Int), 0, 0, 0, 0, ⟨#[]⟩⟩) := hS; replace hv := hv2; clear hS hv2; have y0 := hR.a.cell 0; have y1 := hR.a.cell 1; have fa := hR.a.frozen; replace hR := RW.fin (s' := (ad2 s).2) hR hv; obtain ⟨a0, a1⟩ := Blk.c2 hR.a; clear hv hb)
    | (go_at_call 34; refine (H3.out _ _ hR.b).mono ?_; rintro e W3 ⟨v3, rfl, hv, hb⟩; clear a0 a1 H3; (try clear z f); (try clear fa y0 y1); obtain ⟨va, vm, vc, rfl⟩ := hv.shape3; replace hR := hR.below hb; have z := (hR.l.cell 3).trans rfl; have f := hR.l.frozen 3; obtain ⟨hS, hv2⟩ := hR.set hv 3 (.int .i64 ((ad3 s).1 : Nat)) (noOct_i _); replace hR : RW 26 (akc noA) w _ (ad2 s).2 _ (akc ⟨((ad0 s).1 : Nat), ((ad1 s).1 : Nat), ((ad2 s).1 : Nat), ((ad3 s).1 : Nat), 0, 0, 0, 0, ⟨#[]⟩⟩) := hS; replace hv := hv2; clear hS hv2; have y0 := hR.a.cell 0; have y1 := hR.a.cell 1; have fa := hR.a.frozen; replace hR := RW.fin (s' := (ad3 s).2) hR hv; obtain ⟨a0, a1⟩ := Blk.c2 hR.a; clear hv hb)
    | (go_at_call 37; refine (H4.out _ _ hR.b).mono ?_; rintro e W4 ⟨v4, rfl, hv, hb⟩; clear a0 a1 H4; (try clear z f); (try clear fa y0 y1); obtain ⟨va, vm, vc, rfl⟩ := hv.shape3; replace hR := hR.below hb; obtain ⟨z0, z1, z2, z3, z4, z5, z6, z7, z8⟩ := Blk.c9 hR.l; have f := hR.l.frozen; obtain ⟨hS, hv2⟩ := hR.set hv 4 (.int .u64 (u0 : Nat)) (noOct_u _); replace hR : RW 26 (akc noA) w _ (ad3 s).2 _ (akc ⟨((ad0 s).1 : Nat), ((ad1 s).1 : Nat), ((ad2 s).1 : Nat), ((ad3 s).1 : Nat), u0, 0, 0, 0, ⟨#[]⟩⟩) := hS; replace hv := hv2; clear hS hv2; obtain ⟨hS, hv2⟩ := hR.set hv 5 (.int .u64 (u1 : Nat)) (noOct_u _); replace hR : RW 26 (akc noA) w _ (ad3 s).2 _ (akc ⟨((ad0 s).1 : Nat), ((ad1 s).1 : Nat), ((ad2 s).1 : Nat), ((ad3 s).1 : Nat), u0, u1, 0, 0, ⟨#[]⟩⟩) := hS; replace hv := hv2; clear hS hv2; obtain ⟨hS, hv2⟩ := hR.set hv 6 (.int .u64 (u2 : Nat)) (noOct_u _); replace hR : RW 26 (akc noA) w _ (ad3 s).2 _ (akc ⟨((ad0 s).1 : Nat), ((ad1 s).1 : Nat), ((ad2 s).1 : Nat), ((ad3 s).1 : Nat), u0, u1, u2, 0, ⟨#[]⟩⟩) := hS; replace hv := hv2; clear hS hv2; obtain ⟨hS, hv2⟩ := hR.set hv 7 (.int .u64 (u3 : Nat)) (noOct_u _); replace hR : RW 26 (akc noA) w _ (ad3 s).2 _ (akc ⟨((ad0 s).1 : Nat), ((ad1 s).1 : Nat), ((ad2 s).1 : Nat), ((ad3 s).1 : Nat), u0, u1, u2, u3, ⟨#[]⟩⟩) := hS; replace hv := hv2; clear hS hv2; have y0 := hR.a.cell 0; have y1 := hR.a.cell 1; have fa := hR.a.frozen; replace hR := RW.fin (s' := (ad4 s).2) hR hv; obtain ⟨a0, a1⟩ := Blk.c2 hR.a; clear hv hb)
    | (go_at_call 38; refine (H5.out _ _ hR.b).mono ?_; rintro e W5 ⟨v5, rfl, hv, hb⟩; clear a0 a1 H5 z0 z1 z2 z3 z4 z5 z6 z7 z8 f fa y0 y1; obtain ⟨va, vm, vc, rfl⟩ := hv.shape3; replace hR := hR.below hb; have z := (hR.l.cell 8).trans rfl; have f := hR.l.frozen 8; obtain ⟨hS, hv2⟩ := hR.set hv 8 (.string ⟨(ad5 s).1.toArray⟩) (noOct_s _); replace hR : RW 26 (akc noA) w _ (ad4 s).2 _ (akc ⟨((ad0 s).1 : Nat), ((ad1 s).1 : Nat), ((ad2 s).1 : Nat), ((ad3 s).1 : Nat), u0, u1, u2, u3, str (ad5 s).1⟩) := hS; replace hv := hv2; clear hS hv2; have y0 := hR.a.cell 0; have y1 := hR.a.cell 1; have fa := hR.a.frozen; replace hR := RW.fin (s' := (ad5 s).2) hR hv; obtain ⟨a0, a1⟩ := Blk.c2 hR.a; clear hv hb))
  clear z f fa y0 y1 a0 a1
  generalize hY : (World.setCell (World.setCell (World.setCell W5 _ _) _ _) _ _) = Y at *
  clear hY
  obtain ⟨a0, a1⟩ := Blk.c2 hR.a
  obtain ⟨c0, c1, c2, c3, c4, c5, c6, c7, c8⟩ := Blk.c9 hR.l
  have HC : Hid (∀ W, Calls Try.prog 41 #[akv ⟨((ad0 s).1 : Nat), ((ad1 s).1 : Nat), ((ad2 s).1 : Nat), ((ad3 s).1 : Nat), u0, u1, u2, u3, str (ad5 s).1⟩] W fun e W' => e = .returned (.int .i64 (errA (rawA s))) ∧ Below W.heap.size W W') := Lib.hid (by rw [HRW.out]; exact refAsk_any _)
  by_cases he : (ad5 s).2.2 = 0
  · have hq1 : ((ad5 s).2.2 == 0) = true := by simpa using he
    have hq2 : ((ad5 s).2.2 != 0) = false := by simpa using he
    by_cases hm : maybeA (rawA s)
    · have HE := Lib.hid (errA_zero hm)
      have HX := Lib.hid (getA_yes he hm)
      clear hm he
      go_upto_region 10 with (go_at_call 41; refine (HC.out _).mono ?_; rw [HE.out]; rintro e V0 ⟨rfl, hb⟩; replace hR := hR.below hb; clear a0 a1 c0 c1 c2 c3 c4 c5 c6 c7 c8; obtain ⟨a0, a1⟩ := Blk.c2 hR.a; obtain ⟨c0, c1, c2, c3, c4, c5, c6, c7, c8⟩ := Blk.c9 hR.l)
      have kP := hR.p
      have kQ := hR.q
      have hv := hR.b
      have hB := hR.w.drew
      have kL := hR.l
      have kA := hR.a
      clear hR a0 a1 c0 c1 c2 c3 c4 c5 c6 c7 c8 HC HE hq1 hq2
      refine wp_region_held_drew (S := fun W => Blk W (w.heap.size + 3) 26 (akc ⟨((ad0 s).1 : Nat), ((ad1 s).1 : Nat), ((ad2 s).1 : Nat), ((ad3 s).1 : Nat), u0, u1, u2, u3, str (ad5 s).1⟩) ∧ Blk W w.heap.size 74 [.slice va vm vc, .int .i64 (ad5 s).2.2]) hmx ⟨kL, kA⟩ ?_
      intro hS
      replace kP : Blk V0.drew (w.heap.size + 1) 26 (akc noA) := kP
      replace kQ : Blk V0.drew (w.heap.size + 2) 74 [.slice none 0 0, .int .i64 0] := kQ
      replace hv : BSl 0 V0.drew.heap.size V0.drew (.slice va vm vc) (ad5 s).2.1 := (hv.below (Below.refl _ V0).drew (Nat.le_refl _)).mono (Nat.le_refl _) (Nat.le_refl _)
      clear kL kA
      generalize V0.drew = Y2 at *
      refine' wpAnyH_take (i := 0) (oi := _) (v := _) ?hi1 (by kernel_rfl) (by kernel_rfl) (by kernel_rfl) ?hQ1 (Or.inl ⟨?hw1, ?hy1⟩) hS ?rest1
      case hi1 => simp only [List.getElem?_toArray, List.getElem?_cons_zero]; rfl
      case hQ1 => exact fun _ _ _ h => h
      case hw1 => rfl
      case hy1 => intro W' hS'; obtain ⟨c0, c1, c2, c3, c4, c5, c6, c7, c8⟩ := Blk.c9 hS'.1; go_simp; with_reducible rfl
      try simp only [Act.put, List.setIfInBounds_toArray, List.set_cons_zero, List.set_cons_succ]
      refine' wpAnyH_take (i := 1) (oi := _) (v := _) ?hi2 (by kernel_rfl) (by kernel_rfl) (by kernel_rfl) ?hQ2 (Or.inl ⟨?hw2, ?hy2⟩) hS ?rest2
      case hi2 => simp only [List.getElem?_toArray, List.getElem?_cons_succ, List.getElem?_cons_zero]; rfl
      case hQ2 => exact fun _ _ _ h => h
      case hw2 => rfl
      case hy2 => intro W' hS'; obtain ⟨a0, a1⟩ := Blk.c2 hS'.2; go_simp; with_reducible rfl
      try simp only [Act.put, List.setIfInBounds_toArray, List.set_cons_zero, List.set_cons_succ]
      refine wpAnyH_ready (rs := [2]) (by kernel_rfl) (by simp) ?_
      refine' AllReadyH.cons (o := _) ?ho3 (fun K hK => ?st3) AllReadyH.nil
      case ho3 => simp only [List.getElem?_toArray, List.getElem?_cons_succ, List.getElem?_cons_zero]; rfl
      case st3 =>
        obtain ⟨r0, r1, r2, r3, r4, r5, r6, r7, r8⟩ := Blk.c9 kP
        have fr := kP.frozen
        go_simp
        refine hK.out _ _ ⟨others9 hS.1 (by omega) ⟨((ad0 s).1 : Nat), ((ad1 s).1 : Nat), ((ad2 s).1 : Nat), ((ad3 s).1 : Nat), u0, u1, u2, u3, str (ad5 s).1⟩, others9 hS.2 (by omega) ⟨((ad0 s).1 : Nat), ((ad1 s).1 : Nat), ((ad2 s).1 : Nat), ((ad3 s).1 : Nat), u0, u1, u2, u3, str (ad5 s).1⟩⟩ (fun hS => ?_)
        clear hK K
        try simp only [Act.put, List.setIfInBounds_toArray, List.set_cons_zero, List.set_cons_succ]
        obtain ⟨kP, kQ, hv, hB⟩ := putP9 kP kQ (by omega) hv hB (Nat.le_add_right _ 1) ⟨((ad0 s).1 : Nat), ((ad1 s).1 : Nat), ((ad2 s).1 : Nat), ((ad3 s).1 : Nat), u0, u1, u2, u3, str (ad5 s).1⟩
        dsimp only at kP kQ hv hB
        clear r0 r1 r2 r3 r4 r5 r6 r7 r8 fr
        generalize hZ : (World.setCell (World.setCell (World.setCell (World.setCell (World.setCell (World.setCell (World.setCell (World.setCell (World.setCell Y2 _ _) _ _) _ _) _ _) _ _) _ _) _ _) _ _) _ _) = Y3 at *
        clear hZ
        refine wpAnyH_ready (rs := [3]) (by kernel_rfl) (by simp) ?_
        refine' AllReadyH.cons (o := _) ?ho4 (fun K hK => ?st4) AllReadyH.nil
        case ho4 => simp only [List.getElem?_toArray, List.getElem?_cons_succ, List.getElem?_cons_zero]; rfl
        case st4 =>
          obtain ⟨s0, s1⟩ := Blk.c2 kQ
          have fs := kQ.frozen
          go_simp
          refine hK.out _ _ ⟨(hS.1.other 0 _ (by omega)).other 1 _ (by omega), (hS.2.other 0 _ (by omega)).other 1 _ (by omega)⟩ (fun hS => ?_)
          clear hK K
          try simp only [Act.put, List.setIfInBounds_toArray, List.set_cons_zero, List.set_cons_succ]
          obtain ⟨kP, kQ, hv, hB⟩ := putQ (y := (ad5 s).2.2) kP kQ (by omega) hv hB (Nat.le_add_right _ 2)
          refine wpAnyH_done (by kernel_rfl) ?_ _
          go_wp2_with fail
          obtain ⟨q0, q1, q2, q3, q4, q5, q6, q7, q8⟩ := Blk.c9 kP
          obtain ⟨t0, t1⟩ := Blk.c2 kQ
          exact bodyPost_ret (v := .tuple #[akv ⟨((ad0 s).1 : Nat), ((ad1 s).1 : Nat), ((ad2 s).1 : Nat), ((ad3 s).1 : Nat), u0, u1, u2, u3, str (ad5 s).1⟩, .agg #[.slice va vm vc, .int .i64 (ad5 s).2.2]]) (by simp [results, Try.results36, go_sem, q0, q1, q2, q3, q4, q5, q6, q7, q8, t0, t1]) rfl ⟨_, by rw [HX.out, HRW.out], by rw [HX.out]; exact hv, hB⟩
    · have HE := Lib.hid (errA_bad hm)
      have HX := Lib.hid (getA_no hm)
      clear hm he
      go_wp2_with (first
        | (go_at_call 41; refine (HC.out _).mono ?_; rw [HE.out]; rintro e V0 ⟨rfl, hb⟩; replace hR := hR.below hb; clear a0 a1 c0 c1 c2 c3 c4 c5 c6 c7 c8; obtain ⟨a0, a1⟩ := Blk.c2 hR.a; obtain ⟨c0, c1, c2, c3, c4, c5, c6, c7, c8⟩ := Blk.c9 hR.l)
        | (go_at_call 69; refine (refSpoil_any _ _ hR.b).mono ?_; rintro e V1 ⟨v8, rfl, hv, hb⟩; obtain ⟨xa, xm, xc, rfl⟩ := hv.shape3; replace hR := hR.below hb; obtain ⟨r0, r1, r2, r3, r4, r5, r6, r7, r8⟩ := Blk.c9 hR.p; have fr := hR.p.frozen; obtain ⟨s0, s1⟩ := Blk.c2 hR.q; have fs := hR.q.frozen))
      obtain ⟨kP, kQ, hv2, hB2⟩ := putP9z hR.p hR.q (by omega) hv hR.w (Nat.le_add_right _ 1)
      obtain ⟨kP3, kQ3, hv3, hB3⟩ := putQ (y := (errS (ad5 s).2 16).2) kP kQ (by omega) hv2 hB2 (Nat.le_add_right _ 2)
      obtain ⟨q0, q1, q2, q3, q4, q5, q6, q7, q8⟩ := Blk.c9 kP3
      obtain ⟨t0, t1⟩ := Blk.c2 kQ3
      exact bodyPost_ret (v := .tuple #[akv ⟨0, 0, 0, 0, 0, 0, 0, 0, ⟨#[]⟩⟩, .agg #[.slice xa xm xc, .int .i64 (errS (ad5 s).2 16).2]]) (by simp [results, Try.results36, go_sem, q0, q1, q2, q3, q4, q5, q6, q7, q8, t0, t1]) rfl ⟨_, by rw [HX.out]; rfl, by rw [HX.out]; exact hv3, hB3⟩
  · have hq1 : ((ad5 s).2.2 == 0) = false := by simpa using he
    have hq2 : ((ad5 s).2.2 != 0) = true := by simpa using he
    have HX : Hid (getA s = (noA, errS (ad5 s).2 16)) := Lib.hid (if_neg fun e => he e.1)
    clear he
    go_wp2_with (first
      | (go_at_call 69; refine (refSpoil_any _ _ hR.b).mono ?_; rintro e V1 ⟨v8, rfl, hv, hb⟩; obtain ⟨xa, xm, xc, rfl⟩ := hv.shape3; replace hR := hR.below hb; obtain ⟨r0, r1, r2, r3, r4, r5, r6, r7, r8⟩ := Blk.c9 hR.p; have fr := hR.p.frozen; obtain ⟨s0, s1⟩ := Blk.c2 hR.q; have fs := hR.q.frozen))
    obtain ⟨kP, kQ, hv2, hB2⟩ := putP9z hR.p hR.q (by omega) hv hR.w (Nat.le_add_right _ 1)
    obtain ⟨kP3, kQ3, hv3, hB3⟩ := putQ (y := (errS (ad5 s).2 16).2) kP kQ (by omega) hv2 hB2 (Nat.le_add_right _ 2)
    obtain ⟨q0, q1, q2, q3, q4, q5, q6, q7, q8⟩ := Blk.c9 kP3
    obtain ⟨t0, t1⟩ := Blk.c2 kQ3
    exact bodyPost_ret (v := .tuple #[akv ⟨0, 0, 0, 0, 0, 0, 0, 0, ⟨#[]⟩⟩, .agg #[.slice xa xm xc, .int .i64 (errS (ad5 s).2 16).2]]) (by simp [results, Try.results36, go_sem, q0, q1, q2, q3, q4, q5, q6, q7, q8, t0, t1]) rfl ⟨_, by rw [HX.out]; rfl, by rw [HX.out]; exact hv3, hB3⟩
end Go.Proofs.Ytigdenlnnnfjlaa
