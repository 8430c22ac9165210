/-
  blob.Cat: all, one behind the other.
-/
import Derived.Test.YtakeickgjplahaaValuesS
import Derived.Test.YtakeickgjplahaaAppendB
import Derived.Test.YtakeickgjplahaaSpares
namespace Go.Proofs.Ytakeickgjplahaa
open Go.RowKit Go.Shelf
attribute [local go_sem] Oper.semAt_some

theorem flat_prefix {o n : Nat} {w : World} (zs : List (SX o n w)) (k : Nat) : (flat (zs.take k)).length ≤ (flat zs).length := by
  have h : flat zs = flat (zs.take k) ++ flat (zs.drop k) := by
    unfold flat
    rw [← List.flatten_append, ← List.map_append, List.take_append_drop]
  rw [h, List.length_append]
  omega
theorem flat_take {o n : Nat} {w : World} (zs : List (SX o n w)) {k : Nat} {x : SX o n w} (hx : zs[k]? = some x) : flat (zs.take (k + 1)) = flat (zs.take k) ++ x.1.2 := by
  rw [List.take_add_one, hx]
  exact flat_snoc _ _

/-- Between two rounds. -/
def CatI {o n : Nat} {w₁ : World} (N : Nat) (w : World) (zs : List (SX o n w₁)) (k : Nat) (W : World) : Prop :=
  (∃ v, Boxed W N 23 v ∧ W.ownsRow N 5 1 v (flat (zs.take k)).length ((flat (zs.take k)).map bv) ∧ True) ∧ Below N w W
theorem catI_own {o n : Nat} {w₁ : World} {N : Nat} {w : World} {B : Nat} (zs : List (SX o n w₁)) (h : N ≤ w.heap.size) (hB : N ≤ B) : OwnFrom B (CatI (o := o) (n := n) (w₁ := w₁) N w zs) :=
  OwnFrom.and (Own.from (holdsRow_own N N 23 5 1 (fun k : Nat => (flat (zs.take k)).length) (fun k => (flat (zs.take k)).map bv) (fun _ _ => True)) _) (ownFrom_below h hB)

set_option maxRecDepth 100000 in
set_option maxHeartbeats 4000000 in
theorem cat_in (m : Nat) (hm : 3 ≤ m) {o : Nat} (sv : Value) (w : World) (zs : List (SX o w.heap.size w)) (hreach : zs.length ≤ 140737488351232) (ho : (flat zs).length ≤ 140737488355328) (hsv : SSl w.heap.size w sv zs) :
    CallsIn Fence.wide m Try.prog 17 #[sv] w (ByW (flat zs) w) := by
  have h1 : 1 ≤ m := by omega
  have hsv0 := hsv
  obtain ⟨a, cap, rfl, hcs⟩ := hsv
  clear hcs
  refine callsIn_of_wp_marks Try.func17 rfl trivial ?_ rfl
  simp only [Try.ntmps17, List.size_toArray, List.length_cons, List.length_nil, Nat.reduceAdd, Nat.reduceSub, Array.replicate_succ, Array.replicate_zero, List.push_toArray, List.append_toArray, List.nil_append, List.cons_append]
  obtain ⟨i0, hi, hz0, hz1, hz2⟩ := info_parts Try.infoByte
  gi_wp2_with (refine ⟨trivial, ?_⟩; gi_at_call 23; refine (valuesS_in Fence.wide (m - 1) trivial rfl _ _ _ _).mono ?_; rintro e w' ⟨rfl, rfl⟩)
  generalize hW5 : World.alloc _ _ = W5
  have k0 : Boxed W5 w.heap.size 23 (.slice none 0 0) := by rw [← hW5]; exact (Boxed.new _ _ _).alloc _
  have k2 : Boxed W5 (w.heap.size + 1) 55 (.slice a zs.length cap) := by rw [← hW5]; exact Blk.new' (vs := [_]) (by simp)
  have hB0 : Below w.heap.size w W5 := by rw [← hW5]; exact chainA (chain0 _ _) _
  have hz : W5.heap.size = w.heap.size + 2 := by rw [← hW5]; simp
  clear hW5
  refine wpIn_rangeFunc_relA rfl h1 (gf := 26) (lb := #[.pointer (some ⟨w.heap.size + 1, 0, none⟩)]) rfl trivial (enters_of Try.func26 (by kernel_rfl) rfl)
    (valuesS_rel (m - 1) (by omega) (w.heap.size + 1) w.heap.size _ zs hreach W5 (by omega) k2 (hsv0.below hB0 (Nat.le_refl _))) (fun h k => h.trans k) (fun X o o' h2 h3 h4 => belowK_b (w := w) (Nat.le_refl _) _ _ o o' (by omega) h2 h3 h4) (fun X => Below.refl _ X) (Below.refl _ _) (fun _ => rfl)
    (CatI w.heap.size w zs) (catI_own zs (Nat.le_refl _) (by omega))
    ⟨⟨_, k0, World.ownsRow_nil _ _ _ _, trivial⟩, hB0⟩ (fun _ _ _ _ _ _ h _ _ => h) ?_ ?_ ?_ ?_
  rotate_left
  · intro l k x W K _ hK
    gi_wp2
    exact hK
  · rintro r k x W hlt ⟨⟨v, kv, hown, _⟩, hB⟩ hx
    have ko := kv.cell
    have kf := kv.frozen
    have hNW : w.heap.size ≤ W.heap.size := hB.size
    have hxs := x.2.1.below hB (Nat.le_refl _)
    have hfs := flat_take zs hx
    have hle := flat_prefix zs (k + 1)
    rw [hfs, List.length_append] at hle
    have HF := Lib.hid hfs
    clear hfs hx
    obtain ⟨⟨sx, l⟩, _⟩ := x
    dsimp only at hxs hle HF
    generalize zs.take k = pre at *
    gi_wp2_with (gi_at_builtin; refine wpListIn_append_b _ rfl _ _ 23 rfl w.heap.size 5 i0 (.int .u8 0) Try.underlying23 hi hz0 hz1 hz2 rfl v (flat pre).length ((flat pre).map bv) rfl hown sx l rfl hxs (by omega) hNW ?_; intro v' w1 hown' hgrow; obtain ⟨a', c', rfl⟩ := ownsRow_slice hown'; have kv1 := kv.kept hgrow (kv.not_row (by decide) hown); have ko1 := kv1.cell; have kf1 := kv1.frozen)
    have kv3 := kv1.set (.slice a' ((flat pre).length + l.length) c')
    have hrow3 := hown'.kept (grownBy_setCell' w1 w.heap.size (.slice a' ((flat pre).length + l.length) c')) (.inr (kv1.not_row (by decide) hown').symm)
    have hsp : Spares 5 W w1 := (Spares.of_below (Below.refl _ W)).grown hgrow (fun r e => .inr (ownsRow_block hown r e))
    have hbw := ((Below.refl w.heap.size W).grown hgrow hNW (fun j hj => (World.ownsRow.lt hown j hj).1)).setCell (p := ⟨w.heap.size, 0, none⟩) (Nat.le_refl _) (.slice a' ((flat pre).length + l.length) c')
    refine ⟨(hsp.others.trans (KeepsOthers.setCell _ _ _)).from _, hbw, ⟨_, kv3, ?_, trivial⟩, hB.trans hbw⟩
    rw [HF.out, List.map_append, List.length_append]
    exact hrow3
  · rintro D W hD ⟨⟨v, kv, hown, _⟩, hB⟩ hK
    rw [List.take_length] at hown
    have ko := kv.cell
    have HZ := Lib.hid hz
    clear hz
    gi_wp2
    have hB' := hB.trans (belowK_b (w := w) (Nat.le_refl _) _ D _ (.deferred none) (by have := HZ.out; omega) hK rfl rfl)
    have hown3 := ownsRow_putObj hown (.deferred none) hK rfl
    refine ⟨by simp, .inl ⟨_, _, rfl, run_takeDeferred hK, ?_⟩⟩
    refine ⟨v, ?_, ?_⟩
    · simp [results, Try.f17, go_sem]
    · exact ⟨v, rfl, BSl.of_own hown3, hB'⟩

theorem cat_any {o : Nat} (sv : Value) (w : World) (zs : List (SX o w.heap.size w)) (hreach : zs.length ≤ 140737488351232) (ho : (flat zs).length ≤ 140737488355328) (hsv : SSl w.heap.size w sv zs) :
    Calls Try.prog 17 #[sv] w (ByW (flat zs) w) := callsIn_wide.1 (cat_in 3 (by omega) sv w zs hreach ho hsv)

/-- .. with a bound on each. -/
theorem cat_anyO {o : Nat} (sv : Value) (w : World) (zs : List (SX o w.heap.size w)) (hreach : zs.length ≤ 140737488351232) (ho : zs.length * o ≤ 140737488355328) (hsv : SSl w.heap.size w sv zs) :
    Calls Try.prog 17 #[sv] w (ByW (flat zs) w) := cat_any sv w zs hreach (Nat.le_trans (flat_le zs) ho) hsv

end Go.Proofs.Ytakeickgjplahaa
