/-
  blob.Int: the number of the first seven octets at most.
-/
import Derived.Test.YtakeickgjplahaaValuesB
import Derived.Test.YtakeickgjplahaaBytesMath
namespace Go.Proofs.Ytakeickgjplahaa
open Go.RowKit Go.Shelf
attribute [local go_sem] Oper.semAt_some

/-- Between two rounds. -/
def IntI (N : Nat) (w : World) (pre : List UInt8) (W : World) : Prop := Boxed W N 3 (.int .i64 (be pre : Nat)) ∧ Below N w W
theorem intI_own {N : Nat} {w : World} {B : Nat} (h : N ≤ w.heap.size) (hB : N ≤ B) : OwnFrom B (IntI N w) :=
  OwnFrom.and (Own.from (fun s X Y row hs hg hr => blk_own N 3 (fun s : List UInt8 => [.int .i64 (be s : Nat)]) s X Y row hs hg hr) _) (ownFrom_below h hB)
/-- A slice's first octets. -/
theorem BSl.take {lo hi : Nat} {W : World} {a : Option Addr} {cap : Nat} {l : List UInt8} (h : BSl lo hi W (.slice a l.length cap) l) (k : Nat) (hk : k ≤ l.length) : BSl lo hi W (.slice a k cap) (l.take k) := by
  obtain ⟨a', cap', e, hc, h0⟩ := h
  cases e
  refine ⟨a, cap, by rw [List.length_take, Nat.min_eq_left hk], by simp; omega, ?_⟩
  rcases h0 with rfl | ⟨b, off, ha, h1, h2, ho⟩
  · exact .inl (by simp)
  · exact .inr ⟨b, off, ha, h1, h2, fun j x hj => ho j x (by
      have hjk : j < k := by have := (List.getElem?_eq_some_iff.1 hj).1; simp at this; omega
      rwa [List.getElem?_take_of_lt hjk] at hj)⟩

set_option maxRecDepth 100000 in
set_option maxHeartbeats 4000000 in
theorem blobInt_in (m : Nat) (hm : 2 ≤ m) (l : List UInt8) (sv : Value) (w : World) (hreach : l.length ≤ 140737488351232) (hsv : BSl 0 w.heap.size w sv l) :
    CallsIn Fence.wide m Try.prog 19 #[sv] w fun e W' => e = .returned (.int .i64 (be (l.take 7) : Nat)) ∧ Below w.heap.size w W' := by
  have h1 : 1 ≤ m := by omega
  have hsv0 := hsv
  obtain ⟨a, cap, rfl, hcap, hcs⟩ := hsv
  clear hcs
  refine callsIn_of_wp_marks Try.func19 rfl trivial ?_ rfl
  simp only [Try.ntmps19, List.size_toArray, List.length_cons, List.length_nil, Nat.reduceAdd, Nat.reduceSub, Array.replicate_succ, Array.replicate_zero, List.push_toArray, List.append_toArray, List.nil_append, List.cons_append]
  have hN : (l.take 7).length ≤ 7 := by rw [List.length_take]; omega
  have hcase : (((l.length : Nat) : Int) ≤ 7 ∧ BSl 0 w.heap.size w (.slice a l.length cap) (l.take 7)) ∨ (¬ ((l.length : Nat) : Int) ≤ 7 ∧ BSl 0 w.heap.size w (.slice a 7 cap) (l.take 7)) := by
    by_cases h : l.length ≤ 7
    · exact .inl ⟨by omega, by rw [List.take_of_length_le h]; exact hsv0⟩
    · exact .inr ⟨by omega, hsv0.take 7 (by omega)⟩
  clear hsv0
  generalize l.take 7 = z at *
  rcases hcase with ⟨h7, hT⟩ | ⟨h7, hT⟩
  all_goals
    gi_wp2_with (refine ⟨trivial, ?_⟩; gi_at_call 24; refine (valuesB_in Fence.wide (m - 1) trivial rfl _ _ _ _).mono ?_; rintro e w' ⟨rfl, rfl⟩)
    generalize hW5 : World.alloc _ _ = W5
    have k0 : Boxed W5 w.heap.size 3 (.int .i64 (be [] : Nat)) := by rw [← hW5]; exact (Boxed.new _ _ (.int .i64 (be [] : Nat))).alloc _
    have k2 := show Boxed W5 (w.heap.size + 1) 23 (.slice a _ cap) by rw [← hW5]; exact Blk.new' (vs := [_]) (by simp)
    have hB0 : Below w.heap.size w W5 := by rw [← hW5]; exact chainA (chain0 _ _) _
    have hz : W5.heap.size = w.heap.size + 2 := by rw [← hW5]; simp
    clear hW5
    refine wpIn_rangeFunc_ownF (S := fun ys => ys = z) rfl h1 (gf := 27) (lb := #[.pointer (some ⟨w.heap.size + 1, 0, none⟩)]) rfl trivial (enters_of Try.func27 (by kernel_rfl) rfl)
      (valuesB_stops Fence.wide (m - 1) trivial rfl (by omega) (w.heap.size + 1) w.heap.size _ z (by omega) W5 (by omega) k2 (hT.below hB0 (Nat.le_refl _))) belowK_t (belowK_b (by omega)) (Below.refl _ _) (fun _ => rfl)
      (IntI w.heap.size w) (fun _ _ _ => False) (intI_own (Nat.le_refl _) (by omega)) (fun _ _ _ _ _ hs _ _ => hs)
      ⟨k0, hB0⟩ ?_ ?_ ?_ ?_ ?_
    rotate_left
    · intro l x W K hK
      gi_wp2
      exact hK
    · rintro r pre x W ⟨k0, hB⟩ hlt
      have co := k0.cell
      have cf := k0.frozen
      have hsn := be_snoc pre x
      have HS := Lib.hid hsn
      have hl1 : be pre ≤ 281474976710655 := by have := be_lt' (l := pre) (k := 6) (by omega); omega
      have hor := or_byte64 (a := be pre) (x := x.toNat) (by omega) x.toNat_lt
      have HO := Lib.hid hor
      clear hor hsn
      generalize be pre = y at *
      have hy : (y : Int) ≤ 281474976710655 := by omega
      have hxl := x.toNat_lt
      have hxl' : (x.toNat : Int) ≤ 255 := by omega
      gi_wp2
      rw [HO.out, ← HS.out]
      have hbw := (Below.refl w.heap.size W).setCell (p := ⟨w.heap.size, 0, none⟩) (Nat.le_refl _) (.int .i64 (be (pre ++ [x]) : Nat))
      exact ⟨KeepsOthers.setCell _ _ _, hbw, k0.set _, hB.trans hbw⟩
    · rintro D ys W hD rfl ⟨k0, hB⟩ hK
      have co := k0.cell
      have HZ := Lib.hid hz
      clear hz
      gi_wp2
      have hB' := hB.trans (belowK_b (w := w) (Nat.le_refl _) _ D _ (.deferred none) (by have := HZ.out; omega) hK rfl rfl)
      refine ⟨by simp, .inl ⟨_, _, rfl, run_takeDeferred hK, ?_⟩⟩
      refine ⟨.int .i64 (be ys : Nat), ?_, ?_⟩
      · simp [results, Try.f19, go_sem]
      · exact ⟨rfl, hB'⟩
    · rintro D c pre W _ _ h _
      exact h.elim

theorem blobInt_any (l : List UInt8) (sv : Value) (w : World) (hreach : l.length ≤ 140737488351232) (hsv : BSl 0 w.heap.size w sv l) :
    Calls Try.prog 19 #[sv] w fun e W' => e = .returned (.int .i64 (be (l.take 7) : Nat)) ∧ Below w.heap.size w W' := callsIn_wide.1 (blobInt_in 2 (by omega) l sv w hreach hsv)

end Go.Proofs.Ytakeickgjplahaa
