/-
  blob.Unwide: the number of 32 octets.
-/
import Derived.Test.YtjhfchjffiliaaaAll
import Derived.Test.YtjhfchjffiliaaaBytesMath
namespace Go.Proofs.Ytjhfchjffiliaaa
open Go.RowKit Go.Shelf
attribute [local go_sem] Oper.semAt_some

/-- The number of 32 octets and true; else zero and false. -/
def UnW (l : List UInt8) (w : World) (e : Ending) (W' : World) : Prop :=
  (l.length = 32 ∧ e = .returned (.tuple #[wv (uwd l 32 0) (uwd l 32 1) (uwd l 32 2) (uwd l 32 3), .bool true]) ∧ Below w.heap.size w W') ∨
  (l.length ≠ 32 ∧ NoW w e W')
/-- Between two rounds. -/
def UnI (N : Nat) (w : World) (pre : List PX) (W : World) : Prop :=
  (Blk W N 40 (ws fun _ => 0) ∧ Blk W (N + 1) 40 (ws (unF pre))) ∧ Below N w W
theorem unI_own {N : Nat} {w : World} {B : Nat} (h : N ≤ w.heap.size) (hB : N ≤ B) : OwnFrom B (UnI N w) :=
  OwnFrom.and (Own.from (fun s X Y row hs hg hr => ⟨blk_own N 40 (fun (_ : Unit) => ws fun _ => 0) () X Y row hs.1 hg hr, blk_own (N + 1) 40 (fun s : List PX => ws (unF s)) s X Y row hs.2 hg hr⟩) _) (ownFrom_below h hB)
theorem pxs_places {l : List UInt8} (h : l.length = 32) : Places pxEnc (pxs l h) l := ⟨by rw [pxs_length, h], fun k e he => by
  obtain ⟨h2, hx⟩ := pxs_at h he
  exact ⟨_, hx, by unfold pxEnc; rw [h2]⟩⟩

set_option maxRecDepth 100000 in
set_option maxHeartbeats 4000000 in
theorem unwide_no (m : Nat) (l : List UInt8) (sv : Value) (w : World) (hl : l.length ≠ 32) (hsv : BSl 0 w.heap.size w sv l) :
    CallsIn Fence.wide m Try.prog 39 #[sv] w (NoW w) := by
  obtain ⟨a, cap, rfl, hcap, hcs⟩ := hsv
  clear hcs
  refine callsIn_of_wp_marks Try.func39 rfl trivial ?_ rfl
  simp only [Try.ntmps39, List.size_toArray, List.length_cons, List.length_nil, Nat.reduceAdd, Nat.reduceSub, Array.replicate_succ, Array.replicate_zero, List.push_toArray, List.append_toArray, List.nil_append, List.cons_append]
  have hb : (((l.length : Nat) : Int) == 32) = false := by simp; omega
  have hne : ((l.length : Nat) : Int) ≠ 32 := by omega
  have hb2 : (((l.length : Nat) : Int) != 32) = true := by simp; omega
  gi_wp2
  refine ⟨.tuple #[wv 0 0 0 0, .bool false], ?_, ?_⟩
  · simp [results, Try.f39, go_sem]
  · exact ⟨rfl, chainA (chain0 _ _) _⟩

set_option maxRecDepth 100000 in
set_option maxHeartbeats 4000000 in
theorem unwide_yes (m : Nat) (hm : 2 ≤ m) (l : List UInt8) (sv : Value) (w : World) (hl : l.length = 32) (hsv : BSl 0 w.heap.size w sv l) :
    CallsIn Fence.wide m Try.prog 39 #[sv] w fun e W' => e = .returned (.tuple #[wv (uwd l 32 0) (uwd l 32 1) (uwd l 32 2) (uwd l 32 3), .bool true]) ∧ Below w.heap.size w W' := by
  have h1 : 1 ≤ m := by omega
  have hsv0 := hsv
  obtain ⟨a, cap, rfl, hcap, hcs⟩ := hsv
  clear hcs
  have HL := Lib.hid hl
  rw [hl] at hsv0 hcap ⊢
  clear hl
  refine callsIn_of_wp_marks Try.func39 rfl trivial ?_ rfl
  simp only [Try.ntmps39, List.size_toArray, List.length_cons, List.length_nil, Nat.reduceAdd, Nat.reduceSub, Array.replicate_succ, Array.replicate_zero, List.push_toArray, List.append_toArray, List.nil_append, List.cons_append]
  gi_wp2_with (refine ⟨trivial, ?_⟩; gi_at_call 53; refine (all_in Fence.wide (m - 1) trivial rfl _ _ _ _).mono ?_; rintro e w' ⟨rfl, rfl⟩)
  generalize hW5 : World.alloc _ _ = W5
  have k0 : Blk W5 w.heap.size 40 (ws fun _ => 0) := by rw [← hW5]; exact ((Blk.new' rfl).alloc _).alloc _
  have k1 : Blk W5 (w.heap.size + 1) 40 (ws (unF [])) := by rw [← hW5]; exact (Blk.new' (by simp)).alloc _
  have k2 : Boxed W5 (w.heap.size + 1 + 1) 23 (.slice a 32 cap) := by rw [← hW5]; exact Blk.new' (vs := [_]) (by simp)
  have hB0 : Below w.heap.size w W5 := by rw [← hW5]; exact chainA (chainA (chain0 _ _) _) _
  have hz : W5.heap.size = w.heap.size + 3 := by rw [← hW5]; simp
  clear hW5
  refine wpIn_rangeFunc_ownF (S := fun ys => ys = pxs l HL.out) rfl h1 (gf := 60) (lb := #[.pointer (some ⟨w.heap.size + 1 + 1, 0, none⟩)]) rfl trivial (enters_of Try.func60 (by kernel_rfl) rfl)
    (all_stops pxEnc (pxs l HL.out) Fence.wide (m - 1) trivial rfl (by omega) (w.heap.size + 1 + 1) w.heap.size (.slice a 32 cap) l (by rw [HL.out]; omega) W5 (by omega) k2 (hsv0.below hB0 (Nat.le_refl _)) (pxs_places HL.out)) belowK_t (belowK_b (by omega)) (Below.refl _ _) (fun _ => rfl)
    (UnI w.heap.size w) (fun _ _ _ => False) (unI_own (Nat.le_refl _) (by omega)) (fun _ _ _ _ _ hs _ _ => hs)
    ⟨⟨k0, k1⟩, hB0⟩ ?_ ?_ ?_ ?_ ?_
  rotate_left
  · intro l x W K hK
    gi_wp2
    exact hK
  · rintro r pre ⟨⟨x, i⟩, hi⟩ W ⟨⟨k0, k1⟩, hB⟩ hlt
    have hi' : (i : Int) ≤ 31 := by omega
    have hq : 3 - i / 8 < 4 := by omega
    have e3 : (3 : Int) - (i : Int) / 8 = ((3 - i / 8 : Nat) : Int) := by omega
    have cs := k1.cell (3 - i / 8)
    rw [ws_at _ hq] at cs
    have cf := k1.frozen (3 - i / 8)
    have hsn := unF_snoc pre ⟨(x, i), hi⟩
    unfold unS at hsn
    have hor := or_wrap (a := unF pre (3 - i / 8)) (x := x.toNat) x.toNat_lt
    have hl1 := unF_lt pre (3 - i / 8)
    dsimp only at hsn
    have HS := Lib.hid hsn
    clear hsn
    have HO := Lib.hid hor
    clear hor
    generalize unF pre (3 - i / 8) = y at *
    generalize 3 - i / 8 = q at *
    have HE := Lib.hid e3
    gi_wp2
    rw [wr_u64 (x.toNat : Int) (by omega) (by have := x.toNat_lt; omega), HO.out]
    have kk := k1.set q (.int .u64 ((y * 256 % M ||| x.toNat : Nat) : Int))
    rw [ws_set _ hq, ← HS.out] at kk
    have hbw := (Below.refl w.heap.size W).setCell (p := ⟨w.heap.size + 1, q, none⟩) (by simp) (.int .u64 ((y * 256 % M ||| x.toNat : Nat) : Int))
    exact ⟨KeepsOthers.setCell _ _ _, hbw, ⟨k0.other q _ (by omega), kk⟩, hB.trans hbw⟩
  · rintro D ys W hD rfl ⟨⟨k0, k1⟩, hB⟩ hK
    rw [unF_all HL.out] at k1
    have c10 : W.cell? ⟨w.heap.size + 1, 0, none⟩ = some (.int .u64 (uwd l 32 0 : Nat)) := k1.cell 0
    have c11 : W.cell? ⟨w.heap.size + 1, 1, none⟩ = some (.int .u64 (uwd l 32 1 : Nat)) := k1.cell 1
    have c12 : W.cell? ⟨w.heap.size + 1, 2, none⟩ = some (.int .u64 (uwd l 32 2 : Nat)) := k1.cell 2
    have c13 : W.cell? ⟨w.heap.size + 1, 3, none⟩ = some (.int .u64 (uwd l 32 3 : Nat)) := k1.cell 3
    have c00 : W.cell? ⟨w.heap.size, 0, none⟩ = some (.int .u64 ((0 : Nat) : Int)) := k0.cell 0
    have c01 : W.cell? ⟨w.heap.size, 1, none⟩ = some (.int .u64 ((0 : Nat) : Int)) := k0.cell 1
    have c02 : W.cell? ⟨w.heap.size, 2, none⟩ = some (.int .u64 ((0 : Nat) : Int)) := k0.cell 2
    have c03 : W.cell? ⟨w.heap.size, 3, none⟩ = some (.int .u64 ((0 : Nat) : Int)) := k0.cell 3
    have f0 := k0.frozen 0
    have f1 := k0.frozen 1
    have f2 := k0.frozen 2
    have f3 := k0.frozen 3
    have HZ := Lib.hid hz
    clear hz
    generalize hs0 : uwd l 32 0 = s0 at *
    have H0 := Lib.hid hs0
    clear hs0
    generalize hs1 : uwd l 32 1 = s1 at *
    have H1 := Lib.hid hs1
    clear hs1
    generalize hs2 : uwd l 32 2 = s2 at *
    have H2 := Lib.hid hs2
    clear hs2
    generalize hs3 : uwd l 32 3 = s3 at *
    have H3 := Lib.hid hs3
    clear hs3
    gi_wp2
    have hD' : w.heap.size < D := by have := HZ.out; omega
    have KO : KeepsOthers W ((((W.setCell ⟨w.heap.size, 0, none⟩ (.int .u64 (s0 : Nat))).setCell ⟨w.heap.size, 1, none⟩ (.int .u64 (s1 : Nat))).setCell ⟨w.heap.size, 2, none⟩ (.int .u64 (s2 : Nat))).setCell ⟨w.heap.size, 3, none⟩ (.int .u64 (s3 : Nat))) :=
      (((KeepsOthers.setCell _ _ _).trans (KeepsOthers.setCell _ _ _)).trans (KeepsOthers.setCell _ _ _)).trans (KeepsOthers.setCell _ _ _)
    have hK' := KO.same D _ hK rfl
    have k2' := ((((k0.set 0 (.int .u64 (s0 : Nat))).set 1 (.int .u64 (s1 : Nat))).set 2 (.int .u64 (s2 : Nat))).set 3 (.int .u64 (s3 : Nat))).kept (grownBy_putObj' _ D (.deferred none)) (by intro e; cases e; omega)
    have r0 := k2'.cell 0
    have r1 := k2'.cell 1
    have r2 := k2'.cell 2
    have r3 := k2'.cell 3
    simp only [ws, List.set_cons_zero, List.set_cons_succ, List.getElem?_cons_zero, List.getElem?_cons_succ] at r0 r1 r2 r3
    have hB' := ((((hB.setCell (p := ⟨w.heap.size, 0, none⟩) (Nat.le_refl _) (.int .u64 (s0 : Nat))).setCell (p := ⟨w.heap.size, 1, none⟩) (Nat.le_refl _) (.int .u64 (s1 : Nat))).setCell (p := ⟨w.heap.size, 2, none⟩) (Nat.le_refl _) (.int .u64 (s2 : Nat))).setCell (p := ⟨w.heap.size, 3, none⟩) (Nat.le_refl _) (.int .u64 (s3 : Nat))).trans (belowK_b (w := w) (Nat.le_refl _) _ D _ (.deferred none) (by omega) hK' rfl rfl)
    refine ⟨by simp, .inl ⟨_, _, rfl, run_takeDeferred hK', ?_⟩⟩
    refine ⟨.tuple #[wv s0 s1 s2 s3, .bool true], ?_, ?_⟩
    · simp [results, Try.f39, go_sem, r0, r1, r2, r3]
    · exact ⟨by rw [H0.out, H1.out, H2.out, H3.out], hB'⟩
  · rintro D c pre W _ _ h _
    exact h.elim

theorem unwide_any (l : List UInt8) (sv : Value) (w : World) (hsv : BSl 0 w.heap.size w sv l) : Calls Try.prog 39 #[sv] w (UnW l w) := by
  by_cases hl : l.length = 32
  · exact (callsIn_wide.1 (unwide_yes 2 (by omega) l sv w hl hsv)).mono fun e W' h => .inl ⟨hl, h.1, h.2⟩
  · exact (callsIn_wide.1 (unwide_no 2 l sv w hl hsv)).mono fun e W' h => .inr ⟨hl, h⟩

end Go.Proofs.Ytjhfchjffiliaaa
