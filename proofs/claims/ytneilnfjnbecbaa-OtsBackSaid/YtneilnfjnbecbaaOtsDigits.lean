/-
  ots.Digits: 12 digits of a text's sum, and 3 of what they leave.
-/
import Derived.Test.YtneilnfjnbecbaaAppendSeqI
import Derived.Test.YtneilnfjnbecbaaValuesI
import Derived.Test.YtneilnfjnbecbaaBlobInt
import Derived.Test.YtneilnfjnbecbaaHashSum
import Derived.Test.YtneilnfjnbecbaaPiece
import Derived.Outline
namespace Go.Proofs.Ytneilnfjnbecbaa
open Go.RowKit Go.Shelf
attribute [local go_sem] Oper.semAt_some

/-- What the first three octets of a text's sum come to. -/
def headN (l : List UInt8) : Nat := be ((sumL cb sq l).take 3)
theorem headN_le (l : List UInt8) : headN l ≤ 16777215 := by
  have := be_lt' (l := (sumL cb sq l).take 3) (k := 3) (by rw [List.length_take]; omega)
  unfold headN; omega
/-- What the first k digits come to, added. -/
def sumTo12 (x k : Nat) : Nat := ((List.range k).map fun i => dig x (11 - i)).sum
theorem sumTo12_succ (x k : Nat) : sumTo12 x (k + 1) = sumTo12 x k + dig x (11 - k) := by simp [sumTo12, List.range_succ]
theorem dig_le (x p : Nat) : dig x p ≤ 3 := by unfold dig; omega
theorem sumTo12_le (x k : Nat) : sumTo12 x k ≤ 3 * k := by
  induction k with
  | zero => simp [sumTo12]
  | succ k ih => rw [sumTo12_succ]; have := dig_le x (11 - k); omega
def restN (l : List UInt8) : Nat := 36 - sumTo12 (headN l) 12
/-- A text's digits. -/
def digL (l : List UInt8) : List Int := digs (headN l) 12 ++ digs (restN l) 3
theorem digL_length (l : List UInt8) : (digL l).length = 15 := by simp [digL, digs_length]

/-- Between two rounds. -/
def RestI (B x : Nat) (w : World) (k : Nat) (W : World) : Prop := Boxed W B 3 (.int .i64 (36 - (sumTo12 x k : Int))) ∧ Below w.heap.size w W
theorem restI_own {B x : Nat} {w : World} {C : Nat} (hC : w.heap.size ≤ C) : OwnFrom C (RestI B x w) :=
  OwnFrom.and (Own.from (fun s X Y row hs hg hr => blk_own B 3 (fun s : Nat => [.int .i64 (36 - (sumTo12 x s : Int))]) s X Y row hs hg hr) _) (ownFrom_below (Nat.le_refl _) hC)

set_option maxRecDepth 100000 in
set_option maxHeartbeats 8000000 in
theorem digitsOf_in (m : Nat) (hm : 12 ≤ m) (l : List UInt8) (sv : Value) (w : World) (hreach : l.length ≤ 140737488353000) (hsv : BSl 0 w.heap.size w sv l) :
    CallsIn Fence.wide m Try.prog 9 #[sv] w (RowW w.heap.size 3 15 ((digL l).map iv) w) := by
  have h1 : 1 ≤ m := by omega
  have hsv0 := hsv
  obtain ⟨a, cap, rfl, hcap, hcs⟩ := hsv
  clear hcs
  refine callsIn_of_wp_marks Try.func9 rfl trivial ?_ rfl
  simp only [Try.ntmps9, List.size_toArray, List.length_cons, List.length_nil, Nat.reduceAdd, Nat.reduceSub, Array.replicate_succ, Array.replicate_zero, List.push_toArray, List.append_toArray, List.nil_append, List.cons_append]
  have hl32 : (sumL cb sq l).length = 32 := sumTo_length _ 8
  have hH : Hid (headN l = be ((sumL cb sq l).take 3)) := Lib.hid rfl
  have hD : Hid (digL l = digs (headN l) 12 ++ digs (restN l) 3) := Lib.hid rfl
  have hR : Hid (restN l = 36 - sumTo12 (headN l) 12) := Lib.hid rfl
  have hx := headN_le l
  gi_wp2_with (first
    | (refine ⟨trivial, ?_⟩; gi_at_call 23; refine (sum_in (m - 1) (by omega) l _ w hreach hsv0).mono ?_; rintro e w1 ⟨v1, rfl, hown1, hb1⟩; rw [hl32] at hown1; obtain ⟨g, c, rfl⟩ := ownsRow_succ hown1; have hq1 := BSl.of_own (l := sumL cb sq l) (by rw [hl32]; exact hown1); have hcc := (show 32 ≤ c by obtain ⟨_, c', e, h, _⟩ := hq1; rw [hl32] at h; cases e; exact h))
    | (refine ⟨trivial, ?_⟩; gi_at_call 22; refine (blobInt_in (m - 1) (by omega) ((sumL cb sq l).take 3) _ w1 (by rw [List.length_take]; omega) ((BSl.take (l := sumL cb sq l) (by rw [hl32]; exact hq1) 3 (by omega)).mono (Nat.zero_le _) (Nat.le_refl _))).mono ?_; rintro e w2 ⟨rfl, hb2⟩; rw [List.take_of_length_le (by rw [List.length_take]; omega), ← hH.out])
    | (refine ⟨trivial, ?_⟩; gi_at_call 25; refine (digits_in Fence.wide (m - 1) trivial rfl _ _ _).mono ?_; rintro e w3 ⟨rfl, hw3⟩; have kn : Boxed w3 w2.heap.size 3 (.int .i64 (headN l : Nat)) := (by rw [hw3]; exact (Boxed.new _ _ _).alloc _); have km : Boxed w3 (w2.heap.size + 1) 3 (.int .i64 ((12 : Nat) : Int)) := (by rw [hw3]; exact Blk.new' (vs := [.int .i64 12]) (by simp)); have hb3 : Below w2.heap.size w2 w3 := (by rw [hw3]; exact chainA (chain0 _ _) _); clear hw3)
    | (refine ⟨trivial, ?_⟩; gi_at_call 24; refine (collectI_in (m - 1) (by omega) (headN l) 12 hx (by omega) _ _ w3 kn km).mono ?_; rintro e w4 ⟨v4, rfl, hown4, hb4⟩; obtain ⟨g4, c4, rfl⟩ := ownsRow_succ hown4)
    | (refine ⟨trivial, ?_⟩; gi_at_call 26; refine (valuesI_in Fence.wide (m - 1) trivial rfl _ _ _ _).mono ?_; rintro e w5 ⟨rfl, hw5⟩))
  clear hw5
  have hq4 := VSl.of_own (vs := (digs (headN l) 12).map iv) (by rw [List.length_map, digs_length]; exact hown4)
  have hb14 : Below w.heap.size w w4 := chain (chain (chain hb1 hb2) hb3) hb4
  replace hown4 : w4.ownsRow w.heap.size 3 1 (.slice (some ⟨g4, 0, none⟩) (11 + 1) c4) 12 ((digs (headN l) 12).map iv) := own_base hown4 (chain (chain hb1 hb2) hb3).size
  clear hown1 hq1 hb1 hb2 hb3 hb4 kn km hcc
  generalize headN l = x at *
  generalize hW5 : World.alloc _ _ = W5
  have k0 : Boxed W5 w4.heap.size 3 (.int .i64 (36 - (sumTo12 x 0 : Int))) := by rw [← hW5]; exact (Boxed.new _ _ _).alloc _
  have k2 : Boxed W5 (w4.heap.size + 1) 25 (.slice (some ⟨g4, 0, none⟩) 12 c4) := by rw [← hW5]; exact Blk.new' (vs := [_]) (by simp)
  have hB0 : Below w4.heap.size w4 W5 := by rw [← hW5]; exact chainA (chain0 _ _) _
  have hz : W5.heap.size = w4.heap.size + 2 := by rw [← hW5]; simp
  clear hW5
  refine wpIn_rangeFunc_relA rfl h1 (gf := 48) (lb := #[.pointer (some ⟨w4.heap.size + 1, 0, none⟩)]) rfl trivial (enters_of Try.func48 (by kernel_rfl) rfl)
    (valuesI_rel (m - 1) (by omega) (w4.heap.size + 1) w4.heap.size _ (digs x 12) (by rw [digs_length]; omega) W5 (by omega) k2 ((hq4.mono (Nat.zero_le _) (Nat.le_refl _)).below hB0 (Nat.le_refl _))) (fun h k => h.trans k) (fun X o o' h2 h3 h4 => belowK_b (w := w4) (Nat.le_refl _) _ _ o o' (by omega) h2 h3 h4) (fun X => Below.refl _ X) (Below.refl _ _) (fun _ => rfl)
    (RestI w4.heap.size x w4) (restI_own (by omega)) ⟨k0, hB0⟩ (fun _ _ _ _ _ _ h _ _ => h) ?_ ?_ ?_ ?_
  rotate_left
  · intro l k y W K _ hK
    gi_wp2
    exact hK
  · rintro r k y W hlt ⟨kr, hB⟩ hy
    rw [digs_length] at hlt
    rw [digs_at x hlt] at hy
    obtain rfl := (Option.some.inj hy).symm
    have hs := sumTo12_succ x k
    have h3 := dig_le x (11 - k)
    have hle := sumTo12_le x k
    have kc := kr.cell
    have kf := kr.frozen
    have HS := Lib.hid hs
    clear hs hy
    have b1 : (sumTo12 x k : Int) ≤ 36 := by omega
    have b2 : (dig x (12 - 1 - k) : Int) ≤ 3 := by have := dig_le x (12 - 1 - k); omega
    have h11 : 12 - 1 - k = 11 - k := by omega
    rw [h11] at b2 ⊢
    generalize dig x (11 - k) = d at *
    generalize hS : sumTo12 x k = S at *
    have HS2 := Lib.hid hS
    clear hS h11
    gi_wp2
    refine ⟨(KeepsOthers.setCell _ _ _).from _, (Below.refl w4.heap.size W).setCell (p := ⟨w4.heap.size, 0, none⟩) (Nat.le_refl _) _, ?_, hB.setCell (p := ⟨w4.heap.size, 0, none⟩) (Nat.le_refl _) _⟩
    rw [HS.out, show (36 - ((S + d : Nat) : Int)) = 36 - (S : Int) - (d : Int) by omega]
    exact kr.set _
  · rintro D W hD ⟨kr, hB⟩ hK
    rw [digs_length] at kr
    have hle := sumTo12_le x 12
    have hr : (36 - (sumTo12 x 12 : Int)) = ((restN l : Nat) : Int) := by rw [hR.out]; omega
    rw [hr] at kr
    have hr36 : restN l ≤ 36 := by rw [hR.out]; omega
    have kc := kr.cell
    have hown5 := own_below hown4 hB
    have hB5 : Below w.heap.size w W := chain hb14 hB
    clear hown4 hr hle hR k0 k2 hB0
    generalize restN l = q at *
    have hDW := (Array.getElem?_eq_some_iff.1 hK).1
    have hsz := hB5.size
    have HZ := Lib.hid hz
    clear hz
    gi_wp2_with (first
      | (refine ⟨trivial, ?_⟩; gi_at_call 25; refine (digits_in Fence.wide (m - 1) trivial rfl _ _ _).mono ?_; rintro e w6 ⟨rfl, hw6⟩; have kn : Boxed w6 W.heap.size 3 (.int .i64 (q : Nat)) := (by rw [hw6]; exact (Boxed.new _ _ _).alloc _); have km : Boxed w6 (W.heap.size + 1) 3 (.int .i64 ((3 : Nat) : Int)) := (by rw [hw6]; exact Blk.new' (vs := [.int .i64 3]) (by simp)); have hb6 : Below W.heap.size W w6 := (by rw [hw6]; exact chainA (chain0 _ _) _); clear hw6)
      | (refine ⟨trivial, ?_⟩; gi_at_call 27; refine (appendSeqI_in (m - 1) (by omega) w.heap.size 12 q 3 (by omega) (by omega) (by omega) _ _ _ _ w6 (Nat.le_trans hsz hb6.size) (own_below hown5 hb6) kn km (.inr (by omega))).mono ?_; rintro e w7 ⟨v7, rfl, hown7, hb7, hsp7⟩; obtain ⟨g7, c7, rfl⟩ := ownsRow_succ hown7))
    have hK7 : w7.heap[D]? = some (.deferred (some [])) := hsp7.others.same _ _ ((hb6.block D hDW).trans hK) rfl
    have hB' := ((hB5.trans (hb6.mono hsz)).trans hb7).trans (belowK_b (w := w) (Nat.le_refl _) _ D _ (.deferred none) (by have := HZ.out; have := hb14.size; omega) hK7 rfl rfl)
    have hown3 := ownsRow_putObj hown7 (.deferred none) hK7 rfl
    rw [← List.map_append, ← hD.out] at hown3
    refine ⟨by simp, .inl ⟨_, _, rfl, run_takeDeferred hK7, ?_⟩⟩
    refine ⟨.slice (some ⟨g7, 0, none⟩) 15 c7, ?_, ?_⟩
    · simp [results, Try.f9, go_sem]
    · exact ⟨_, rfl, hown3, hB'⟩

theorem digitsOf_any (l : List UInt8) (sv : Value) (w : World) (hreach : l.length ≤ 140737488353000) (hsv : BSl 0 w.heap.size w sv l) :
    Calls Try.prog 9 #[sv] w (RowW w.heap.size 3 15 ((digL l).map iv) w) := callsIn_wide.1 (digitsOf_in 12 (by omega) l sv w hreach hsv)

end Go.Proofs.Ytneilnfjnbecbaa
