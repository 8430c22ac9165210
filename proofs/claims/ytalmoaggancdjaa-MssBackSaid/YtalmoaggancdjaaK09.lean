/-
  slices.Values over ints: each.
  ots.Digits: 12 digits of a text's sum, and 3 of what they leave.
  The digits, each.
  ots' closures; whether parts are well-formed.
  ots.Public, ots.Sign, ots.Open.
  mss: a node of a key's tree; join; a key's lowest row.
  A region that draws: the condition on the world may be strengthened on the way.
  mss: the row above; the root.
-/
import Derived.Outline
import Derived.Deep.RegionHeld3
import Derived.Test.YtalmoaggancdjaaProg
import Derived.Deep.AppendLies
import Derived.Test.YtalmoaggancdjaaK08
namespace Go.Proofs.Ytalmoaggancdjaa
open Go.RowKit Go.Shelf
attribute [local go_sem] Oper.semAt_some

set_option maxRecDepth 100000 in
set_option maxHeartbeats 4000000 in
theorem valuesI1_in (m : Nat) (hm : 1 ≤ m) (l Bs n₀ b off cap : Nat) (zs : List Int) (hreach : zs.length ≤ 140737488351232) (hb : b < n₀) (J : Nat → World → Prop)
    (W : World)
    (hY : ∀ k x W1, zs[k]? = some x → J k W1 → YieldAt Fence.wide (m - 1) Try.prog l #[iv x] W1 fun e W' => e = .returned (.bool true) ∧ J (k + 1) W' ∧ Below n₀ W1 W')
    (hBs : W.cell? ⟨Bs, 0, none⟩ = some (.slice (some ⟨b, off, none⟩) zs.length cap)) (hc : Row W b off (zs.map iv)) (h0 : J 0 W) :
    CallsIn Fence.wide m Try.prog 78 #[.func (.yield l) #[] #[], .pointer (some ⟨Bs, 0, none⟩)] W fun e W' => (∃ v, e = .returned v) ∧ J zs.length W' := by
  refine callsIn_of_wp Try.func78 rfl trivial ?_ rfl
  simp only [Try.ntmps78, List.size_toArray, List.length_cons, List.length_nil, Nat.reduceAdd, Nat.reduceSub, Array.replicate_succ, Array.replicate_zero, List.push_toArray, List.append_toArray, List.nil_append, List.cons_append]
  gi_wp2
  gi_loopw [7] (fun i wr => ∃ k : Nat, k ≤ zs.length ∧ i = .int .i64 k ∧ J k wr ∧ Below n₀ W wr) (fun i _ => zs.length - (intOf i).toNat)
  case atStart => exact ⟨0, Nat.zero_le _, rfl, h0, Below.refl _ _⟩
  case round =>
    obtain ⟨k, hk, rfl, hJs, hnx⟩ := hrel
    by_cases hlt : k < zs.length
    · obtain ⟨x, hx⟩ : ∃ x, zs[k]? = some x := ⟨_, List.getElem?_eq_getElem hlt⟩
      have c0 : wr.cell? ⟨b, off + k, none⟩ = some (iv x) := (hc.below hnx hb) k _ (by rw [List.getElem?_map, hx]; rfl)
      have hk0 : (k : Int) < (zs.length : Int) := by omega
      obtain ⟨fn, tmps, assign, body, hy, hR⟩ := hY k x wr hx hJs
      simp only [iv] at c0 hy
      clear hx
      generalize hL : zs.length = len at *
      have HL := Lib.hid hL
      clear hL
      gi_wp2
      refine hR.mono ?_
      rintro e W3 ⟨rfl, hJ3, hk3⟩
      gi_wp2
      go_roundw
      case rel => exact ⟨k + 1, by omega, by simp, hJ3, hnx.trans hk3⟩
      case measure => simp [intOf]; omega
    · obtain rfl : k = zs.length := by omega
      gi_wp2
      go_end0
      exact ⟨⟨_, rfl⟩, hJs⟩

set_option maxRecDepth 100000 in
set_option maxHeartbeats 1000000 in
/-- .. at a slice of none: no round. -/
theorem valuesI1_nil_in (m : Nat) (l Bs : Nat) (a : Option Addr) (cap : Nat) (J : World → Prop) (W : World) (hBs : W.cell? ⟨Bs, 0, none⟩ = some (.slice a 0 cap)) (h0 : J W) :
    CallsIn Fence.wide m Try.prog 78 #[.func (.yield l) #[] #[], .pointer (some ⟨Bs, 0, none⟩)] W fun e W' => (∃ v, e = .returned v) ∧ J W' := by
  refine callsIn_of_wp Try.func78 rfl trivial ?_ rfl
  simp only [Try.ntmps78, List.size_toArray, List.length_cons, List.length_nil, Nat.reduceAdd, Nat.reduceSub, Array.replicate_succ, Array.replicate_zero, List.push_toArray, List.append_toArray, List.nil_append, List.cons_append]
  gi_wp2
  gi_loopw [7] (fun i wr => i = .int .i64 0 ∧ J wr) (fun _ _ => 0)
  case atStart => exact ⟨rfl, h0⟩
  case round =>
    obtain ⟨rfl, hJs⟩ := hrel
    gi_wp2
    go_end0
    exact ⟨⟨_, rfl⟩, hJs⟩

set_option maxHeartbeats 1000000 in
theorem valuesI_in (F : Fence) (n : Nat) (h5 : F.fn 55) (hro : F.round = none) (a : Option Addr) (len cap : Nat) (w : World) :
    CallsIn F n Try.prog 55 #[.slice a len cap] w fun e w' => e = .returned (.func (.func 78) #[] #[.pointer (some ⟨w.heap.size, 0, none⟩)]) ∧ w' = w.alloc (.cells #[.slice a len cap] 54) := by
  refine callsIn_of_wp Try.func55 rfl h5 ?_ hro
  simp only [Try.ntmps55, List.size_toArray, List.length_cons, List.length_nil, Nat.reduceAdd, Nat.reduceSub, Array.replicate_succ, Array.replicate_zero, List.push_toArray, List.append_toArray, List.nil_append, List.cons_append]
  gi_wp2
  go_ret
  exact ⟨rfl, rfl⟩

theorem valuesI_rel (m : Nat) (hm : 1 ≤ m) (Bs n₀ : Nat) (sv : Value) (zs : List Int) (hreach : zs.length ≤ 140737488351232) (w : World) (hn₀ : n₀ ≤ w.heap.size)
    (hk : Boxed w Bs 54 sv) (hI : VSl 0 n₀ w sv (zs.map iv)) :
    SeqRel Fence.wide m Try.prog 78 #[.pointer (some ⟨Bs, 0, none⟩)] zs.length (fun k r _ => ∃ x, zs[k]? = some x ∧ r = #[iv x]) (fun _ => Below n₀) w := fun l J W hW _ _ _ hY h0 => by
  have hc' := (hW.cell (p := ⟨Bs, 0, none⟩) hk.lt).trans hk.cell
  obtain ⟨a, cap, rfl, _, h0' | ⟨b, off, rfl, _, hb, hcs⟩⟩ := hI.below hW hn₀
  · rw [List.map_eq_nil_iff] at h0'
    subst h0'
    exact (valuesI1_nil_in m l Bs a cap (J 0) W hc' h0).mono fun e W' ⟨he, hj⟩ => ⟨he, hj⟩
  · rw [List.length_map] at hc'
    exact valuesI1_in m hm l Bs n₀ b off cap zs hreach hb J W (fun k x W1 hx hj => hY k _ W1 (List.getElem?_eq_some_iff.1 hx).1 ⟨x, hx, rfl⟩ hj) hc' hcs h0

end Go.Proofs.Ytalmoaggancdjaa

namespace Go.Proofs.Ytalmoaggancdjaa
open Go.RowKit Go.Shelf
attribute [local go_sem] Oper.semAt_some

/-- What the first three octets of a text's sum come to. -/
def headN (l : List UInt8) : Nat := be ((sumL cb sq l).take 3)
theorem headN_le (l : List UInt8) : headN l ≤ 16777215 := by
  have := be_lt' (l := (sumL cb sq l).take 3) (k := 3) (by rw [List.length_take]; omega)
  unfold headN; omega
/-- What the first k digits come to, added. -/
def sumTo12 (x k : Nat) : Nat := ((List.range k).map fun i => dig x (11 - i)).sum
theorem sumTo12_succ (x k : Nat) : sumTo12 x (k + 1) = sumTo12 x k + dig x (11 - k) := by simp [sumTo12, List.range_succ]
theorem dig_le (x p : Nat) : dig x p ≤ 3 := by unfold dig; omega
theorem sumTo12_le (x k : Nat) : sumTo12 x k ≤ 3 * k := by
  induction k with
  | zero => simp [sumTo12]
  | succ k ih => rw [sumTo12_succ]; have := dig_le x (11 - k); omega
def restN (l : List UInt8) : Nat := 36 - sumTo12 (headN l) 12
/-- A text's digits. -/
def digL (l : List UInt8) : List Int := digs (headN l) 12 ++ digs (restN l) 3
theorem digL_length (l : List UInt8) : (digL l).length = 15 := by simp [digL, digs_length]

/-- Between two rounds. -/
def RestI (B x : Nat) (w : World) (k : Nat) (W : World) : Prop := Boxed W B 3 (.int .i64 (36 - (sumTo12 x k : Int))) ∧ Below w.heap.size w W
theorem restI_own {B x : Nat} {w : World} {C : Nat} (hC : w.heap.size ≤ C) : OwnFrom C (RestI B x w) :=
  OwnFrom.and (Own.from (fun s X Y row hs hg hr => blk_own B 3 (fun s : Nat => [.int .i64 (36 - (sumTo12 x s : Int))]) s X Y row hs hg hr) _) (ownFrom_below (Nat.le_refl _) hC)

set_option maxRecDepth 100000 in
set_option maxHeartbeats 8000000 in
theorem digitsOf_in (m : Nat) (hm : 12 ≤ m) (l : List UInt8) (sv : Value) (w : World) (hreach : l.length ≤ 140737488353000) (hsv : BSl 0 w.heap.size w sv l) :
    CallsIn Fence.wide m Try.prog 34 #[sv] w (RowW w.heap.size 3 15 ((digL l).map iv) w) := by
  have h1 : 1 ≤ m := by omega
  have hsv0 := hsv
  obtain ⟨a, cap, rfl, hcap, hcs⟩ := hsv
  clear hcs
  refine callsIn_of_wp_marks Try.func34 rfl trivial ?_ rfl
  simp only [Try.ntmps34, List.size_toArray, List.length_cons, List.length_nil, Nat.reduceAdd, Nat.reduceSub, Array.replicate_succ, Array.replicate_zero, List.push_toArray, List.append_toArray, List.nil_append, List.cons_append]
  have hl32 : (sumL cb sq l).length = 32 := sumTo_length _ 8
  have hH : Hid (headN l = be ((sumL cb sq l).take 3)) := Lib.hid rfl
  have hD : Hid (digL l = digs (headN l) 12 ++ digs (restN l) 3) := Lib.hid rfl
  have hR : Hid (restN l = 36 - sumTo12 (headN l) 12) := Lib.hid rfl
  have hx := headN_le l
  gi_wp2_with (first
    | (refine ⟨trivial, ?_⟩; gi_at_call 52; refine (sum_in (m - 1) (by omega) l _ w hreach hsv0).mono ?_; rintro e w1 ⟨v1, rfl, hown1, hb1⟩; rw [hl32] at hown1; obtain ⟨g, c, rfl⟩ := ownsRow_succ hown1; have hq1 := BSl.of_own (l := sumL cb sq l) (by rw [hl32]; exact hown1); have hcc := (show 32 ≤ c by obtain ⟨_, c', e, h, _⟩ := hq1; rw [hl32] at h; cases e; exact h))
    | (refine ⟨trivial, ?_⟩; gi_at_call 51; refine (blobInt_in (m - 1) (by omega) ((sumL cb sq l).take 3) _ w1 (by rw [List.length_take]; omega) ((BSl.take (l := sumL cb sq l) (by rw [hl32]; exact hq1) 3 (by omega)).mono (Nat.zero_le _) (Nat.le_refl _))).mono ?_; rintro e w2 ⟨rfl, hb2⟩; rw [List.take_of_length_le (by rw [List.length_take]; omega), ← hH.out])
    | (refine ⟨trivial, ?_⟩; gi_at_call 54; refine (digits_in Fence.wide (m - 1) trivial rfl _ _ _).mono ?_; rintro e w3 ⟨rfl, hw3⟩; have kn : Boxed w3 w2.heap.size 3 (.int .i64 (headN l : Nat)) := (by rw [hw3]; exact (Boxed.new _ _ _).alloc _); have km : Boxed w3 (w2.heap.size + 1) 3 (.int .i64 ((12 : Nat) : Int)) := (by rw [hw3]; exact Blk.new' (vs := [.int .i64 12]) (by simp)); have hb3 : Below w2.heap.size w2 w3 := (by rw [hw3]; exact chainA (chain0 _ _) _); clear hw3)
    | (refine ⟨trivial, ?_⟩; gi_at_call 53; refine (collectI_in (m - 1) (by omega) (headN l) 12 hx (by omega) _ _ w3 kn km).mono ?_; rintro e w4 ⟨v4, rfl, hown4, hb4⟩; obtain ⟨g4, c4, rfl⟩ := ownsRow_succ hown4)
    | (refine ⟨trivial, ?_⟩; gi_at_call 55; refine (valuesI_in Fence.wide (m - 1) trivial rfl _ _ _ _).mono ?_; rintro e w5 ⟨rfl, hw5⟩))
  clear hw5
  have hq4 := VSl.of_own (vs := (digs (headN l) 12).map iv) (by rw [List.length_map, digs_length]; exact hown4)
  have hb14 : Below w.heap.size w w4 := chain (chain (chain hb1 hb2) hb3) hb4
  replace hown4 : w4.ownsRow w.heap.size 3 1 (.slice (some ⟨g4, 0, none⟩) (11 + 1) c4) 12 ((digs (headN l) 12).map iv) := own_base hown4 (chain (chain hb1 hb2) hb3).size
  clear hown1 hq1 hb1 hb2 hb3 hb4 kn km hcc
  generalize headN l = x at *
  generalize hW5 : World.alloc _ _ = W5
  have k0 : Boxed W5 w4.heap.size 3 (.int .i64 (36 - (sumTo12 x 0 : Int))) := by rw [← hW5]; exact (Boxed.new _ _ _).alloc _
  have k2 : Boxed W5 (w4.heap.size + 1) 54 (.slice (some ⟨g4, 0, none⟩) 12 c4) := by rw [← hW5]; exact Blk.new' (vs := [_]) (by simp)
  have hB0 : Below w4.heap.size w4 W5 := by rw [← hW5]; exact chainA (chain0 _ _) _
  have hz : W5.heap.size = w4.heap.size + 2 := by rw [← hW5]; simp
  clear hW5
  refine wpIn_rangeFunc_relA rfl h1 (gf := 78) (lb := #[.pointer (some ⟨w4.heap.size + 1, 0, none⟩)]) rfl trivial (enters_of Try.func78 (by kernel_rfl) rfl)
    (valuesI_rel (m - 1) (by omega) (w4.heap.size + 1) w4.heap.size _ (digs x 12) (by rw [digs_length]; omega) W5 (by omega) k2 ((hq4.mono (Nat.zero_le _) (Nat.le_refl _)).below hB0 (Nat.le_refl _))) (fun h k => h.trans k) (fun X o o' h2 h3 h4 => belowK_b (w := w4) (Nat.le_refl _) _ _ o o' (by omega) h2 h3 h4) (fun X => Below.refl _ X) (Below.refl _ _) (fun _ => rfl)
    (RestI w4.heap.size x w4) (restI_own (by omega)) ⟨k0, hB0⟩ (fun _ _ _ _ _ _ h _ _ => h) ?_ ?_ ?_ ?_
  rotate_left
  · intro l k y W K _ hK
    gi_wp2
    exact hK
  · rintro r k y W hlt ⟨kr, hB⟩ hy
    rw [digs_length] at hlt
    rw [digs_at x hlt] at hy
    obtain rfl := (Option.some.inj hy).symm
    have hs := sumTo12_succ x k
    have h3 := dig_le x (11 - k)
    have hle := sumTo12_le x k
    have kc := kr.cell
    have kf := kr.frozen
    have HS := Lib.hid hs
    clear hs hy
    have b1 : (sumTo12 x k : Int) ≤ 36 := by omega
    have b2 : (dig x (12 - 1 - k) : Int) ≤ 3 := by have := dig_le x (12 - 1 - k); omega
    have h11 : 12 - 1 - k = 11 - k := by omega
    rw [h11] at b2 ⊢
    generalize dig x (11 - k) = d at *
    generalize hS : sumTo12 x k = S at *
    have HS2 := Lib.hid hS
    clear hS h11
    gi_wp2
    refine ⟨(KeepsOthers.setCell _ _ _).from _, (Below.refl w4.heap.size W).setCell (p := ⟨w4.heap.size, 0, none⟩) (Nat.le_refl _) _, ?_, hB.setCell (p := ⟨w4.heap.size, 0, none⟩) (Nat.le_refl _) _⟩
    rw [HS.out, show (36 - ((S + d : Nat) : Int)) = 36 - (S : Int) - (d : Int) by omega]
    exact kr.set _
  · rintro D W hD ⟨kr, hB⟩ hK
    rw [digs_length] at kr
    have hle := sumTo12_le x 12
    have hr : (36 - (sumTo12 x 12 : Int)) = ((restN l : Nat) : Int) := by rw [hR.out]; omega
    rw [hr] at kr
    have hr36 : restN l ≤ 36 := by rw [hR.out]; omega
    have kc := kr.cell
    have hown5 := own_below hown4 hB
    have hB5 : Below w.heap.size w W := chain hb14 hB
    clear hown4 hr hle hR k0 k2 hB0
    generalize restN l = q at *
    have hDW := (Array.getElem?_eq_some_iff.1 hK).1
    have hsz := hB5.size
    have HZ := Lib.hid hz
    clear hz
    gi_wp2_with (first
      | (refine ⟨trivial, ?_⟩; gi_at_call 54; refine (digits_in Fence.wide (m - 1) trivial rfl _ _ _).mono ?_; rintro e w6 ⟨rfl, hw6⟩; have kn : Boxed w6 W.heap.size 3 (.int .i64 (q : Nat)) := (by rw [hw6]; exact (Boxed.new _ _ _).alloc _); have km : Boxed w6 (W.heap.size + 1) 3 (.int .i64 ((3 : Nat) : Int)) := (by rw [hw6]; exact Blk.new' (vs := [.int .i64 3]) (by simp)); have hb6 : Below W.heap.size W w6 := (by rw [hw6]; exact chainA (chain0 _ _) _); clear hw6)
      | (refine ⟨trivial, ?_⟩; gi_at_call 56; refine (appendSeqI_in (m - 1) (by omega) w.heap.size 12 q 3 (by omega) (by omega) (by omega) _ _ _ _ w6 (Nat.le_trans hsz hb6.size) (own_below hown5 hb6) kn km (.inr (by omega))).mono ?_; rintro e w7 ⟨v7, rfl, hown7, hb7, hsp7⟩; obtain ⟨g7, c7, rfl⟩ := ownsRow_succ hown7))
    have hK7 : w7.heap[D]? = some (.deferred (some [])) := hsp7.others.same _ _ ((hb6.block D hDW).trans hK) rfl
    have hB' := ((hB5.trans (hb6.mono hsz)).trans hb7).trans (belowK_b (w := w) (Nat.le_refl _) _ D _ (.deferred none) (by have := HZ.out; have := hb14.size; omega) hK7 rfl rfl)
    have hown3 := ownsRow_putObj hown7 (.deferred none) hK7 rfl
    rw [← List.map_append, ← hD.out] at hown3
    refine ⟨by simp, .inl ⟨_, _, rfl, run_takeDeferred hK7, ?_⟩⟩
    refine ⟨.slice (some ⟨g7, 0, none⟩) 15 c7, ?_, ?_⟩
    · simp [results, Try.f34, go_sem]
    · exact ⟨_, rfl, hown3, hB'⟩

theorem digitsOf_any (l : List UInt8) (sv : Value) (w : World) (hreach : l.length ≤ 140737488353000) (hsv : BSl 0 w.heap.size w sv l) :
    Calls Try.prog 34 #[sv] w (RowW w.heap.size 3 15 ((digL l).map iv) w) := callsIn_wide.1 (digitsOf_in 12 (by omega) l sv w hreach hsv)

end Go.Proofs.Ytalmoaggancdjaa

namespace Go.Proofs.Ytalmoaggancdjaa
open Go.RowKit Go.Shelf

/-- The digit at place k of fifteen. -/
def digF (l : List UInt8) (k : Nat) : Nat := if k < 12 then dig (headN l) (11 - k) else dig (restN l) (14 - k)
theorem digF_le (l : List UInt8) (k : Nat) : digF l k ≤ 3 := by unfold digF; split <;> exact dig_le _ _
theorem digF_step (l : List UInt8) (k : Nat) (h : k < 12) : sumTo12 (headN l) (k + 1) = sumTo12 (headN l) k + digF l k := by rw [sumTo12_succ]; unfold digF; rw [if_pos h]
theorem digL_at (l : List UInt8) {k : Nat} (h : k < 15) : (digL l)[k]? = some (digF l k : Int) := by
  unfold digL digF
  by_cases h12 : k < 12
  · rw [List.getElem?_append_left (by rw [digs_length]; exact h12), digs_at _ h12, if_pos h12]
  · rw [List.getElem?_append_right (by rw [digs_length]; omega), digs_length, digs_at _ (by omega), if_neg h12]
    congr 3; omega
theorem digF_sum (l : List UInt8) : 16 * digF l 12 + 4 * digF l 13 + digF l 14 = 36 - sumTo12 (headN l) 12 := by
  have h := sumTo12_le (headN l) 12
  have hr : restN l = 36 - sumTo12 (headN l) 12 := rfl
  show 16 * dig (restN l) 2 + 4 * dig (restN l) 1 + dig (restN l) 0 = _
  unfold dig
  rw [← hr]
  have : restN l ≤ 36 := by omega
  omega
theorem digRow {lo : Nat} {W : World} {v : Value} {l : List UInt8} (h : W.ownsRow lo 3 1 v 15 ((digL l).map iv)) :
    ∃ g c, v = .slice (some ⟨g, 0, none⟩) 15 c ∧ g < W.heap.size ∧ 15 ≤ c ∧ ∀ k, k < 15 → W.cell? ⟨g, k, none⟩ = some (.int .i64 (digF l k : Int)) := by
  have hq := VSl.of_own (vs := (digL l).map iv) (by rw [List.length_map, digL_length]; exact h)
  obtain ⟨g, c, rfl⟩ := ownsRow_succ h
  obtain ⟨a', c', e, hc, h0 | ⟨b, off, ha, _, hb, hr⟩⟩ := hq
  · have := congrArg List.length h0
    rw [List.length_map, digL_length] at this
    simp at this
  · rw [List.length_map, digL_length] at e hc
    cases e
    cases ha
    exact ⟨g, c, rfl, hb, hc, fun k hk => by
      have := hr k (.int .i64 (digF l k : Int)) (by rw [List.getElem?_map, digL_at l hk]; rfl)
      rwa [Nat.zero_add] at this⟩
end Go.Proofs.Ytalmoaggancdjaa

namespace Go.Proofs.Ytalmoaggancdjaa
open Go.RowKit Go.Shelf

set_option maxHeartbeats 1000000 in
theorem toEnd_any (k : Int) (w : World) : Calls Try.prog 49 #[.int .i64 k] w fun e W' => e = .returned (.int .i64 3) ∧ w = W' := by
  go_enter Try.func49, Try.ntmps49
  go_wp2
  go_ret
  exact ⟨rfl, rfl⟩

set_option maxHeartbeats 1000000 in
theorem signAt_any (k d : Nat) (hk : k < 15) (g c B : Nat) (w : World) (kb : Boxed w B 54 (.slice (some ⟨g, 0, none⟩) 15 c)) (hd : w.cell? ⟨g, k, none⟩ = some (.int .i64 (d : Int))) :
    Calls Try.prog 37 #[.int .i64 (k : Int), .pointer (some ⟨B, 0, none⟩)] w fun e W' => e = .returned (.int .i64 (d : Int)) ∧ w = W' := by
  have cb := kb.cell
  have hk' : (k : Int) < 15 := by omega
  go_enter Try.func37, Try.ntmps37
  go_wp2
  go_ret
  exact ⟨rfl, rfl⟩

set_option maxHeartbeats 1000000 in
theorem openAt_any (k d : Nat) (hk : k < 15) (h3 : d ≤ 3) (g c B : Nat) (w : World) (kb : Boxed w B 54 (.slice (some ⟨g, 0, none⟩) 15 c)) (hd : w.cell? ⟨g, k, none⟩ = some (.int .i64 (d : Int))) :
    Calls Try.prog 47 #[.int .i64 (k : Int), .pointer (some ⟨B, 0, none⟩)] w fun e W' => e = .returned (.int .i64 (3 - (d : Int))) ∧ w = W' := by
  have cb := kb.cell
  have hk' : (k : Int) < 15 := by omega
  have h3' : (d : Int) ≤ 3 := by omega
  go_enter Try.func47, Try.ntmps47
  go_wp2
  go_ret
  exact ⟨rfl, rfl⟩

set_option maxHeartbeats 1000000 in
theorem wrong_any (s : ByteArray) (hs : s.size ≤ 9223372036854775807) (w : World) : Calls Try.prog 65 #[.string s] w fun e W' => e = .returned (.bool (decide (s.size ≠ 8))) ∧ w = W' := by
  have hs' : (s.size : Int) ≤ 9223372036854775807 := by omega
  by_cases h8 : s.size = 8
  · have hb : ((s.size : Int) != 8) = false := by simp; omega
    have H8 := Lib.hid h8
    clear h8
    go_enter Try.func65, Try.ntmps65
    go_wp2
    go_ret
    exact ⟨by simp [H8.out], rfl⟩
  · have hb : ((s.size : Int) != 8) = true := by simp; omega
    have H8 := Lib.hid h8
    clear h8
    go_enter Try.func65, Try.ntmps65
    go_wp2
    go_ret
    exact ⟨by simp [H8.out], rfl⟩

/-- The first that is wrong, or -1. -/
def IdxW (zs : List ByteArray) (w : World) (e : Ending) (W' : World) : Prop := ∃ i : Int, e = .returned (.int .i64 i) ∧ ((zs.all (fun x => x.size == 8) = true ∧ i = -1) ∨ (zs.all (fun x => x.size == 8) = false ∧ 0 ≤ i ∧ i ≤ 1000000)) ∧ w = W'

set_option maxRecDepth 100000 in
set_option maxHeartbeats 2000000 in
theorem indexFunc_any (zs : List ByteArray) (hn : zs.length ≤ 1000000) (hz : ∀ x ∈ zs, x.size ≤ 9223372036854775807) (sv : Value) (w : World) (hsv : VSl 0 w.heap.size w sv (zs.map tv)) :
    Calls Try.prog 85 #[sv, .func (.func 65) #[] #[]] w (IdxW zs w) := by
  obtain ⟨a, cap, rfl, _, h0⟩ := hsv
  rw [List.length_map]
  have hcell : ∀ k x, zs[k]? = some x → ∃ b off, a = some ⟨b, off, none⟩ ∧ w.cell? ⟨b, off + k, none⟩ = some (.string x) := fun k x hx => by
    rcases h0 with h0 | ⟨b, off, ha, _, _, hr⟩
    · rw [List.map_eq_nil_iff] at h0; subst h0; simp at hx
    · exact ⟨b, off, ha, hr k _ (by rw [List.getElem?_map, hx]; rfl)⟩
  have HC := Lib.hid hcell
  clear hcell h0
  go_enter Try.func85, Try.ntmps85
  go_wp2
  go_loop [5, 8] (fun _ i => ∃ k : Nat, k ≤ zs.length ∧ i = .int .i64 (k : Nat) ∧ (zs.take k).all (fun x => x.size == 8) = true) (fun _ i => zs.length - (intOf i).toNat)
  case atStart => exact ⟨0, by omega, rfl, rfl⟩
  case round =>
    obtain ⟨k, hk, rfl, hall⟩ := hrel
    have HA := Lib.hid hall
    clear hall
    by_cases hlt : k < zs.length
    · obtain ⟨x, hx⟩ : ∃ x, zs[k]? = some x := ⟨_, List.getElem?_eq_getElem hlt⟩
      obtain ⟨b, off, rfl, c0⟩ := HC.out k x hx
      have hxs := hz x (List.mem_of_getElem? hx)
      have HX := Lib.hid hx
      have HZ := Lib.hid hz
      clear hx hz
      have hlt' : (k : Int) < (zs.length : Int) := by omega
      generalize hL : zs.length = len at *
      have HLn := Lib.hid hL
      clear hL
      by_cases h8 : x.size = 8
      · have hd : decide (x.size ≠ 8) = false := by simp [h8]
        have HD := Lib.hid hd
        have H8 := Lib.hid h8
        clear hd h8
        go_wp2_with (go_at_call 65; refine (wrong_any x hxs _).mono ?_; rintro e w' ⟨rfl, rfl⟩; rw [HD.out])
        go_round
        case rel =>
          refine ⟨k + 1, by omega, by simp, ?_⟩
          rw [List.take_add_one, HX.out, List.all_append, HA.out]
          simp [H8.out]
        case measure => simp [intOf]; omega
      · have hd : decide (x.size ≠ 8) = true := by simp [h8]
        have HD := Lib.hid hd
        have H8 := Lib.hid h8
        clear hd h8
        go_wp2_with (go_at_call 65; refine (wrong_any x hxs _).mono ?_; rintro e w' ⟨rfl, rfl⟩; rw [HD.out])
        go_ret
        refine ⟨_, rfl, .inr ⟨?_, by omega, by omega⟩, rfl⟩
        rw [List.all_eq_false]
        exact ⟨x, List.mem_of_getElem? HX.out, by simp [H8.out]⟩
    · obtain rfl : k = zs.length := by omega
      go_wp2
      go_ret
      refine ⟨_, rfl, .inl ⟨?_, rfl⟩, rfl⟩
      have := HA.out
      rwa [List.take_length] at this

set_option maxHeartbeats 1000000 in
theorem containsFunc_any (zs : List ByteArray) (hn : zs.length ≤ 1000000) (hz : ∀ x ∈ zs, x.size ≤ 9223372036854775807) (sv : Value) (w : World) (hsv : VSl 0 w.heap.size w sv (zs.map tv)) :
    Calls Try.prog 66 #[sv, .func (.func 65) #[] #[]] w fun e W' => e = .returned (.bool (!zs.all (fun x => x.size == 8))) ∧ w = W' := by
  have hsv0 := hsv
  obtain ⟨a, c, rfl⟩ := hsv0.slice
  rw [List.length_map] at hsv ⊢
  clear hsv0
  go_enter Try.func66, Try.ntmps66
  go_wp2_with fail
  refine (indexFunc_any zs hn hz _ _ hsv).mono ?_
  rintro e w' ⟨i, rfl, h, rfl⟩
  rcases h with h | h
  · obtain ⟨ha, rfl⟩ := h
    have HA := Lib.hid ha
    clear ha
    go_wp2
    go_ret
    exact ⟨by rw [HA.out]; rfl, rfl⟩
  · obtain ⟨ha, h0, h1⟩ := h
    have HA := Lib.hid ha
    clear ha
    go_wp2
    go_ret
    exact ⟨by rw [HA.out]; rfl, rfl⟩

/-- Fifteen parts of eight octets. -/
def wf (zs : List ByteArray) : Bool := decide (zs.length = 15) && zs.all (fun x => x.size == 8)

set_option maxHeartbeats 2000000 in
theorem wellFormed_any (zs : List ByteArray) (hz : ∀ x ∈ zs, x.size ≤ 9223372036854775807) (sv : Value) (w : World) (hsv : VSl 0 w.heap.size w sv (zs.map tv)) :
    Calls Try.prog 45 #[sv] w fun e W' => e = .returned (.bool (wf zs)) ∧ w = W' := by
  have hsv0 := hsv
  obtain ⟨a, c, rfl⟩ := hsv0.slice
  rw [List.length_map] at hsv ⊢
  by_cases h15 : zs.length = 15
  · have hwf : wf zs = zs.all (fun x => x.size == 8) := by unfold wf; simp [h15]
    have HW := Lib.hid hwf
    clear hwf
    have hn' : zs.length ≤ 1000000 := by omega
    rw [h15] at hsv ⊢
    clear h15
    go_enter Try.func45, Try.ntmps45
    go_wp2_with fail
    refine (containsFunc_any zs hn' hz _ _ hsv).mono ?_
    rintro e w' ⟨rfl, rfl⟩
    go_wp2_with fail
    go_ret
    exact ⟨by rw [HW.out]; simp, rfl⟩
  · have hwf : wf zs = false := by unfold wf; simp [h15]
    have HW := Lib.hid hwf
    clear hwf
    have h15' : ((zs.length : Int) == 15) = false := by simp; omega
    clear h15
    go_enter Try.func45, Try.ntmps45
    go_wp2
    go_ret
    exact ⟨by rw [HW.out]; rfl, rfl⟩
end Go.Proofs.Ytalmoaggancdjaa

namespace Go.Proofs.Ytalmoaggancdjaa
open Go.RowKit Go.Shelf

theorem begs_mem {s : ByteArray} {f : Nat} {x : ByteArray} (h : x ∈ begs s f) : x.size = 8 := by
  obtain ⟨j, _, rfl⟩ := List.mem_map.1 h
  exact shortB_size _
theorem walked_mem {zs : List ByteArray} {d : Nat → Int} {m : Nat} (hz : ∀ x ∈ zs, x.size ≤ m) {y : ByteArray} (h : y ∈ walked zs d) : y.size ≤ max m 8 := by
  unfold walked at h
  obtain ⟨i, hi, rfl⟩ := List.mem_mapIdx.1 h
  have := linkB_size zs[i] (stp (d i))
  have := hz zs[i] (List.getElem_mem hi)
  omega
/-- What a leaf's signatures open to. -/
def publicB (s : ByteArray) (f : Nat) : ByteArray := joinB (walked (begs s f) fun _ => 3)
/-- A text's signature. -/
def signL (s : ByteArray) (f : Nat) (l : List UInt8) : List ByteArray := walked (begs s f) fun k => (digF l k : Int)
/-- What parts open to. -/
def openB (l : List UInt8) (zs : List ByteArray) : ByteArray := if wf zs = true then joinB (walked zs fun k => 3 - (digF l k : Int)) else ⟨#[]⟩

set_option maxRecDepth 100000 in
set_option maxHeartbeats 2000000 in
theorem public_any (s : ByteArray) (hs : s.size ≤ 140737488352000) (z : Int) (w : World) :
    Calls Try.prog 30 #[.string s, .int .i64 z] w fun e W' => e = .returned (.string (publicB s (lfN z))) ∧ Below w.heap.size w W' := by
  have hp : Hid (publicB s (lfN z) = joinB (walked (begs s (lfN z)) fun _ => 3)) := Lib.hid rfl
  go_enter Try.func30, Try.ntmps30
  go_wp2_with fail
  refine (begin_any s hs z _).mono ?_
  rintro e w1 ⟨v1, rfl, hown1, hb1⟩
  have hbl := begs_length s (lfN z)
  have hV1 := VSl.of_own (vs := (begs s (lfN z)).map tv) (by rw [List.length_map, hbl]; exact hown1)
  obtain ⟨g1, c1, rfl⟩ := ownsRow_succ hown1
  have hm : ∀ x ∈ begs s (lfN z), x.size ≤ 8 := fun x hx => by rw [begs_mem hx]; omega
  have HM := Lib.hid hm
  have HBL := Lib.hid hbl
  clear hm hbl hown1
  generalize begs s (lfN z) = bs at *
  go_wp2_with fail
  refine (walkAll_any bs (by have := HBL.out; omega) (fun x hx => by have := HM.out x hx; omega) (fun _ => 3) _ _ (hV1.mono (Nat.zero_le _) (Nat.le_refl _)) 49 #[] (enters_of Try.func49 (by kernel_rfl) rfl) (fun k W _ _ => (toEnd_any (k : Int) W).mono fun e W' ⟨he, hw⟩ => ⟨he, by rw [hw]; exact Below.refl _ _⟩)).mono ?_
  rintro e w2 ⟨v2, rfl, hown2, hb2⟩
  have hV2 := VSl.of_own (vs := (walked bs fun _ => 3).map tv) (by rw [List.length_map, walked_length]; exact hown2)
  obtain ⟨a2, c2, rfl⟩ := ownsRow_slice hown2
  go_wp2_with fail
  refine (join_any (walked bs fun _ => 3) (by rw [walked_length, HBL.out]; omega) (fun x hx => by have := walked_mem HM.out hx; omega) _ _ (hV2.mono (Nat.zero_le _) (Nat.le_refl _))).mono ?_
  rintro e w3 ⟨rfl, hb3⟩
  go_wp2_with fail
  go_ret
  exact ⟨by rw [hp.out]; rfl, chain (chain hb1 hb2) hb3⟩

set_option maxRecDepth 100000 in
set_option maxHeartbeats 2000000 in
theorem sign_any (s : ByteArray) (hs : s.size ≤ 140737488352000) (z : Int) (l : List UInt8) (tx : Value) (w : World) (hreach : l.length ≤ 140737488353000) (htx : BSl 0 w.heap.size w tx l) :
    Calls Try.prog 21 #[.string s, .int .i64 z, tx] w (RowW w.heap.size 9 15 ((signL s (lfN z) l).map tv) w) := by
  have hp : Hid (signL s (lfN z) l = walked (begs s (lfN z)) fun k => (digF l k : Int)) := Lib.hid rfl
  have htx0 := htx
  obtain ⟨ta, tc, rfl⟩ := bsl_slice htx
  clear htx
  go_enter Try.func21, Try.ntmps21
  go_wp2_with fail
  refine (digitsOf_any l _ _ hreach htx0).mono ?_
  rintro e w1 ⟨v1, rfl, hown1, hb1⟩
  obtain ⟨g, c, rfl, hgw, hcap, hcell⟩ := digRow hown1
  have HC := Lib.hid hcell
  clear hown1 hcell htx0
  go_wp2_with fail
  generalize hW2 : World.alloc _ _ = w2
  have kb : Boxed w2 w1.heap.size 54 (.slice (some ⟨g, 0, none⟩) 15 c) := by rw [← hW2]; exact Boxed.new _ _ _
  have hb2 : Below w1.heap.size w1 w2 := by rw [← hW2]; exact chain0 _ _
  clear hW2
  refine (begin_any s hs z _).mono ?_
  rintro e w3 ⟨v3, rfl, hown3, hb3⟩
  have hbl := begs_length s (lfN z)
  have hV3 := VSl.of_own (vs := (begs s (lfN z)).map tv) (by rw [List.length_map, hbl]; exact hown3)
  obtain ⟨g3, c3, rfl⟩ := ownsRow_succ hown3
  have hm : ∀ x ∈ begs s (lfN z), x.size ≤ 8 := fun x hx => by rw [begs_mem hx]; omega
  have HM := Lib.hid hm
  have HBL := Lib.hid hbl
  clear hm hbl hown3
  generalize begs s (lfN z) = bs at *
  go_wp2_with fail
  refine (walkAll_any bs (by have := HBL.out; omega) (fun x hx => by have := HM.out x hx; omega) (fun k => (digF l k : Int)) _ _ (hV3.mono (Nat.zero_le _) (Nat.le_refl _)) 37 #[.pointer (some ⟨w1.heap.size, 0, none⟩)] (enters_of Try.func37 (by kernel_rfl) rfl) (fun k W hk hW => by
    have hk15 : k < 15 := by have := HBL.out; omega
    have hb1W : Below w2.heap.size w2 W := chain hb3 hW
    exact (signAt_any k (digF l k) hk15 g c w1.heap.size W ((hb1W.block _ kb.lt).trans kb) ((hb1W.cell (p := ⟨g, k, none⟩) (Nat.lt_of_lt_of_le hgw hb2.size)).trans ((hb2.cell (p := ⟨g, k, none⟩) hgw).trans (HC.out k hk15)))).mono fun e W' ⟨he, hw⟩ => ⟨he, by rw [hw]; exact Below.refl _ _⟩)).mono ?_
  rintro e w4 ⟨v4, rfl, hown4, hb4⟩
  obtain ⟨a4, c4, rfl⟩ := ownsRow_slice hown4
  rw [HBL.out] at hown4
  have hb14 : Below w.heap.size w w3 := chain (chain hb1 hb2) hb3
  go_wp2_with fail
  rw [HBL.out]
  go_ret
  exact ⟨_, rfl, by rw [hp.out]; exact own_base hown4 hb14.size, chain hb14 hb4⟩

set_option maxRecDepth 100000 in
set_option maxHeartbeats 2000000 in
theorem open_any (l : List UInt8) (tx : Value) (zs : List ByteArray) (sv : Value) (w : World) (hreach : l.length ≤ 140737488353000) (hz : ∀ x ∈ zs, x.size ≤ 9223372036854775807) (htx : BSl 0 w.heap.size w tx l) (hsv : VSl 0 w.heap.size w sv (zs.map tv)) :
    Calls Try.prog 26 #[tx, sv] w fun e W' => e = .returned (.string (openB l zs)) ∧ Below w.heap.size w W' := by
  have hsv0 := hsv
  obtain ⟨sa, sc, rfl⟩ := hsv.slice
  have htx0 := htx
  obtain ⟨ta, tc, rfl⟩ := bsl_slice htx
  rw [List.length_map] at hsv0 ⊢
  clear htx hsv
  cases hwf : wf zs with
  | false =>
    have hp : Hid (openB l zs = ⟨#[]⟩) := Lib.hid (by unfold openB; rw [if_neg (by rw [hwf]; decide)])
    have HW := Lib.hid hwf
    clear hwf
    go_enter Try.func26, Try.ntmps26
    go_wp2_with fail
    refine (wellFormed_any zs hz _ _ hsv0).mono ?_
    rintro e w1 ⟨rfl, rfl⟩
    rw [HW.out]
    go_wp2_with fail
    go_ret
    exact ⟨by rw [hp.out]; rfl, Below.refl _ _⟩
  | true =>
    have hp : Hid (openB l zs = joinB (walked zs fun k => 3 - (digF l k : Int))) := Lib.hid (by unfold openB; rw [if_pos hwf])
    have h15 : zs.length = 15 := by unfold wf at hwf; simp at hwf; exact hwf.1
    have h8 : ∀ x ∈ zs, x.size ≤ 8 := fun x hx => by unfold wf at hwf; simp at hwf; have := hwf.2 x hx; omega
    have HW := Lib.hid hwf
    have HBL := Lib.hid h15
    have HM := Lib.hid h8
    have hle := digF_le l
    have HLE := Lib.hid hle
    clear hwf h15 h8 hle
    go_enter Try.func26, Try.ntmps26
    go_wp2_with fail
    refine (wellFormed_any zs hz _ _ hsv0).mono ?_
    rintro e w0 ⟨rfl, rfl⟩
    rw [HW.out]
    go_wp2_with fail
    refine (digitsOf_any l _ _ hreach htx0).mono ?_
    rintro e w1 ⟨v1, rfl, hown1, hb1⟩
    obtain ⟨g, c, rfl, hgw, hcap, hcell⟩ := digRow hown1
    have HC := Lib.hid hcell
    clear hown1 hcell htx0
    go_wp2_with fail
    generalize hW2 : World.alloc _ _ = w2
    have kb : Boxed w2 w1.heap.size 54 (.slice (some ⟨g, 0, none⟩) 15 c) := by rw [← hW2]; exact Boxed.new _ _ _
    have hb2 : Below w1.heap.size w1 w2 := by rw [← hW2]; exact chain0 _ _
    clear hW2
    have hb12 : Below w.heap.size w w2 := chain hb1 hb2
    refine (walkAll_any zs (by have := HBL.out; omega) (fun x hx => by have := HM.out x hx; omega) (fun k => 3 - (digF l k : Int)) _ _ ((hsv0.below hb12 (Nat.le_refl _)).mono (Nat.le_refl _) hb12.size) 47 #[.pointer (some ⟨w1.heap.size, 0, none⟩)] (enters_of Try.func47 (by kernel_rfl) rfl) (fun k W hk hW => by
      have hk15 : k < 15 := by have := HBL.out; omega
      exact (openAt_any k (digF l k) hk15 (HLE.out k) g c w1.heap.size W ((hW.block _ kb.lt).trans kb) ((hW.cell (p := ⟨g, k, none⟩) (Nat.lt_of_lt_of_le hgw hb2.size)).trans ((hb2.cell (p := ⟨g, k, none⟩) hgw).trans (HC.out k hk15)))).mono fun e W' ⟨he, hw⟩ => ⟨he, by rw [hw]; exact Below.refl _ _⟩)).mono ?_
    rintro e w3 ⟨v3, rfl, hown3, hb3⟩
    have hV3 := VSl.of_own (vs := (walked zs fun k => 3 - (digF l k : Int)).map tv) (by rw [List.length_map, walked_length]; exact hown3)
    obtain ⟨a3, c3, rfl⟩ := ownsRow_slice hown3
    go_wp2_with fail
    refine (join_any (walked zs fun k => 3 - (digF l k : Int)) (by rw [walked_length, HBL.out]; omega) (fun x hx => by have := walked_mem HM.out hx; omega) _ _ (hV3.mono (Nat.zero_le _) (Nat.le_refl _))).mono ?_
    rintro e w4 ⟨rfl, hb4⟩
    go_wp2_with fail
    go_ret
    exact ⟨by rw [hp.out]; rfl, chain (chain hb12 hb3) hb4⟩
end Go.Proofs.Ytalmoaggancdjaa

namespace Go.Proofs.Ytalmoaggancdjaa
open Go.RowKit Go.Shelf

/-- What stands above two. -/
def joinM (a b : ByteArray) : ByteArray := shortB (a.data.toList ++ b.data.toList)
theorem joinM_size (a b : ByteArray) : (joinM a b).size = 8 := shortB_size _
theorem publicB_size (s : ByteArray) (f : Nat) : (publicB s f).size = 8 := shortB_size _
/-- The node at a height, at a place. -/
def nodeB (s : ByteArray) : Nat → Nat → ByteArray
  | 0, i => publicB s i
  | h + 1, i => joinM (nodeB s h (2 * i)) (nodeB s h (2 * i + 1))
theorem nodeB_size (s : ByteArray) (h i : Nat) : (nodeB s h i).size = 8 := by
  cases h with
  | zero => exact publicB_size s i
  | succ h => exact joinM_size _ _
/-- How many nodes there are at a height. -/
def cnt (h : Nat) : Nat := 2 ^ (3 - h)
theorem cnt_succ {h : Nat} (hh : h < 3) : cnt h = 2 * cnt (h + 1) := by
  have : h = 0 ∨ h = 1 ∨ h = 2 := by omega
  rcases this with rfl | rfl | rfl <;> rfl
theorem cnt_le (h : Nat) : cnt h ≤ 8 := by
  have h1 : 2 ^ (3 - h) ≤ 2 ^ 3 := Nat.pow_le_pow_right (by omega) (by omega)
  exact h1

/-- Short of two texts, of a row just laid. -/
theorem short_two (W : World) (v1 v2 : Value) (l1 l2 : List UInt8) (h1 : BSl 0 W.heap.size W v1 l1) (h2 : BSl 0 W.heap.size W v2 l2) (hl : l1.length + l2.length ≤ 140737488353000) :
    Calls Try.prog 50 #[.slice (some ⟨W.heap.size, 0, none⟩) 2 2] (W.alloc (.cells #[v1, v2] 24)) fun e W' => e = .returned (.string (shortB (l1 ++ l2))) ∧ Below W.heap.size W W' := by
  have hb : Below W.heap.size W (W.alloc (.cells #[v1, v2] 24)) := chain0 _ _
  have up : ∀ {v : Value} {l : List UInt8}, BSl 0 W.heap.size W v l → BSl 0 (W.alloc (.cells #[v1, v2] 24)).heap.size (W.alloc (.cells #[v1, v2] 24)) v l := fun h => (h.below hb (Nat.le_refl _)).mono (Nat.le_refl _) hb.size
  have hs := short_of (W.alloc (.cells #[v1, v2] 24)) (.slice (some ⟨W.heap.size, 0, none⟩) 2 2) [(v1, l1), (v2, l2)] (by simp) (fun p hp => by
    simp only [List.mem_cons, List.not_mem_nil, or_false] at hp
    rcases hp with rfl | rfl
    · exact ⟨up h1, by show l1.length ≤ _; omega⟩
    · exact ⟨up h2, by show l2.length ≤ _; omega⟩) (by simp; omega) ⟨_, 2, rfl, Nat.le_refl _, .inr ⟨_, 0, rfl, Nat.zero_le _, by simp, fun k x hx => by
      have hB : Blk (W.alloc (.cells #[v1, v2] 24)) W.heap.size 24 [v1, v2] := Blk.new W _ [v1, v2]
      rw [Nat.zero_add, hB.cell]
      exact hx⟩⟩
  refine hs.mono fun e W' ⟨he, hb2⟩ => ⟨?_, chain hb hb2⟩
  rw [he]
  simp

set_option maxRecDepth 100000 in
set_option maxHeartbeats 2000000 in
theorem joinM_any (a b : ByteArray) (hs : a.size + b.size ≤ 140737488353000) (w : World) :
    Calls Try.prog 31 #[.string a, .string b] w fun e W' => e = .returned (.string (joinM a b)) ∧ Below w.heap.size w W' := by
  obtain ⟨c1, W1, hcv1, hb1, hz1, ht1⟩ := conv_txt w a
  obtain ⟨c2, W2, hcv2, hb2, hz2, ht2⟩ := conv_txt W1 b
  have h1 := (ht1.below hb2).bsl.mono (Nat.zero_le _) (Nat.le_refl _)
  have h2 := ht2.bsl.mono (Nat.zero_le _) (Nat.le_refl _)
  have hp : Hid (joinM a b = shortB (a.data.toList ++ b.data.toList)) := Lib.hid rfl
  have HS := Lib.hid (show a.data.toList.length + b.data.toList.length ≤ 140737488353000 from hs)
  clear hz1 hz2 ht1 ht2 hs
  go_enter Try.func31, Try.ntmps31
  go_wp2_with fail
  refine (short_two _ _ _ _ _ h1 h2 HS.out).mono ?_
  rintro e w3 ⟨rfl, hb3⟩
  go_wp2_with fail
  go_ret
  exact ⟨by rw [hp.out]; rfl, chain (chain hb1 hb2) hb3⟩

theorem cell_new1 (w : World) (t : TypeId) (v : Value) : ∀ (j : Nat) (u : Value), [v][j]? = some u → (w.alloc (.cells #[v] t)).cell? ((⟨w.heap.size, 0, none⟩ : Addr).add j) = some u := fun j u hu => by
  have hp : (⟨w.heap.size, 0, none⟩ : Addr).add j = ⟨w.heap.size, j, none⟩ := by cases j <;> simp [Addr.add]
  rw [hp, (Blk.new w t [v]).cell]
  exact hu
theorem upto_snoc {α : Type} (f : Nat → ByteArray) (k : Nat) (g : ByteArray → α) : (upto f (k + 1)).map g = (upto f k).map g ++ [g (f k)] := by rw [upto_succ, List.map_append]; rfl

set_option maxRecDepth 100000 in
set_option maxHeartbeats 2000000 in
theorem lowest_any (s : ByteArray) (hs : s.size ≤ 140737488352000) (w : World) :
    Calls Try.prog 17 #[.string s] w (RowW w.heap.size 9 8 ((upto (nodeB s 0) 8).map tv) w) := by
  obtain ⟨i0, hi, hz0, hz1, hz2⟩ := info_parts Try.infoStr
  go_enter Try.func17, Try.ntmps17
  go_wp2
  go_loopw [3, 5] (fun v i wr => ∃ k : Nat, k ≤ 8 ∧ i = .int .i64 (k : Nat) ∧ wr.ownsRow w.heap.size 9 1 v k ((upto (nodeB s 0) k).map tv) ∧ Below w.heap.size w wr) (fun _ i _ => 8 - (intOf i).toNat)
  case atStart => exact ⟨0, by omega, rfl, World.ownsRow_nil _ _ _ _, Below.refl _ _⟩
  case round =>
    obtain ⟨k, hk, rfl, hown, hB⟩ := hrel
    obtain ⟨va, vc, rfl⟩ := ownsRow_slice hown
    by_cases hlt : k < 8
    · have HT := Lib.hid (upto_snoc (nodeB s 0) k tv)
      have hf : lfN (k : Int) = k := by have := lfN_cases (k : Int); omega
      have HF : Hid (nodeB s 0 k = publicB s (lfN (k : Int))) := Lib.hid (by rw [hf]; rfl)
      have hlt' : (k : Int) < 8 := by omega
      have HLT := Lib.hid hlt
      clear hlt hk hf
      generalize (upto (nodeB s 0) k).map tv = ts at *
      go_wp2_with fail
      refine (public_any s hs (k : Int) _).mono ?_
      rw [← HF.out]
      rintro e w2 ⟨rfl, hb2⟩
      have hown2 := own_below hown hb2
      have hB2 := hB.trans (hb2.mono hB.size)
      have hNW := hB2.size
      generalize nodeB s 0 k = x at *
      clear hown hB hb2
      go_wp2_with (at_builtin; refine wpList_append_own _ rfl _ _ 28 rfl w.heap.size 9 i0 (.string ⟨#[]⟩) 1 16 Try.underlying28 hi hz0 hz1 hz2 rfl (by decide) (.slice va k vc) k ts rfl (hown2.alloc _) ⟨w2.heap.size, 0, none⟩ 1 1 [tv x] rfl rfl (cell_new1 _ _ _) (by simp [Value.oneCell']) (by have := HLT.out; unfold maxLen; omega) (by have := HLT.out; omega) (by simp; omega) ?_; intro v' w3 hown' hgrow _; obtain ⟨g2, c2, rfl⟩ := ownsRow_succ hown')
      have hB3 : Below w.heap.size w w3 := (hB2.alloc hNW _).grown hgrow (Nat.le_trans hNW (by simp)) (fun j hj => (World.ownsRow.lt hown2 j hj).1)
      go_roundw
      case rel => exact ⟨k + 1, HLT.out, by simp, by rw [HT.out]; exact hown', hB3⟩
      case measure => have := HLT.out; simp [intOf]; omega
    · obtain rfl : k = 8 := by omega
      go_wp2
      go_ret
      exact ⟨_, rfl, hown, hB⟩
end Go.Proofs.Ytalmoaggancdjaa

namespace Go.Proofs.Ytalmoaggancdjaa

theorem wpAnyH_mono {P : Program} {ops : Array Oper} {Q : Exit → Act → World → Prop} {md : Region.Mode} {S S' : World → Prop} (h : ∀ w, S' w → S w) :
    ∀ (fuel : Nat) (listed : Array Bool) (a : Act) (w : World), wpAnyH P md ops Q S' fuel listed a w → wpAnyH P md ops Q S fuel listed a w
  | 0, _, _, _, H => H
  | fuel + 1, _, _, _, H => ⟨H.1, fun i hi => wpOp_mono (fun a' w' h' => ⟨h _ h'.1, wpAnyH_mono h fuel _ a' w' h'.2⟩) (H.2 i hi)⟩
end Go.Proofs.Ytalmoaggancdjaa

namespace Go.Proofs.Ytalmoaggancdjaa
open Go.RowKit Go.Shelf

theorem upto_at (f : Nat → ByteArray) {n k : Nat} (h : k < n) : ((upto f n).map tv)[k]? = some (.string (f k)) := by
  unfold upto
  rw [List.getElem?_map, List.getElem?_map, List.getElem?_range h]
  rfl
theorem upto_row {lo hi : Nat} {W : World} {f : Nat → ByteArray} {n : Nat} {a : Option Addr} {len cap : Nat} (h : VSl lo hi W (.slice a len cap) ((upto f n).map tv)) (hn : 0 < n) :
    len = n ∧ ∃ b off, a = some ⟨b, off, none⟩ ∧ b < hi ∧ ∀ k, k < n → W.cell? ⟨b, off + k, none⟩ = some (.string (f k)) := by
  obtain ⟨a', c', e, hc, h0⟩ := h
  have hl : ((upto f n).map tv).length = n := by rw [List.length_map, upto_length]
  cases e
  refine ⟨hl, ?_⟩
  rcases h0 with h0 | ⟨b, off, ha, _, hb, hr⟩
  · rw [h0] at hl
    simp at hl
    omega
  · exact ⟨b, off, ha, hb, fun k hk => hr k _ (upto_at f hk)⟩
/-- The nodes above f's. -/
def overF (f : Nat → ByteArray) (k : Nat) : ByteArray := joinM (f (2 * k)) (f (2 * k + 1))

set_option maxRecDepth 100000 in
set_option maxHeartbeats 8000000 in
theorem above_any (f : Nat → ByteArray) (hf : ∀ i, (f i).size ≤ 1000) (n : Nat) (h0 : 0 < n) (hn : n ≤ 1000) (a : Option Addr) (len cap : Nat) (w : World) (hsv : VSl 0 w.heap.size w (.slice a len cap) ((upto f (2 * n)).map tv)) :
    Calls Try.prog 18 #[.slice a len cap] w (RowW w.heap.size 9 n ((upto (overF f) n).map tv) w) := by
  have hmx : Try.prog.follows .mixedOrders = true := by kernel_rfl
  obtain ⟨i0, hi, hz0, hz1, hz2⟩ := info_parts Try.infoStr
  obtain ⟨rfl, b, off, rfl, hbw, hcell⟩ := upto_row hsv (by omega)
  have HC := Lib.hid hcell
  have HF := Lib.hid hf
  clear hcell hf hsv
  have hdiv : ((2 * n : Nat) : Int) / 2 = (n : Int) := by omega
  generalize hL : 2 * n = L at *
  have HL := Lib.hid hL
  have hL2 : L ≤ 2000 := by omega
  clear hL
  go_enter Try.func18, Try.ntmps18
  go_wp2
  clear hdiv
  go_loopw [3, 8] (fun v i wr => ∃ k : Nat, k ≤ n ∧ i = .int .i64 (k : Nat) ∧ wr.ownsRow w.heap.size 9 1 v k ((upto (overF f) k).map tv) ∧ Below w.heap.size w wr) (fun _ i _ => n - (intOf i).toNat)
  case atStart => exact ⟨0, by omega, rfl, World.ownsRow_nil _ _ _ _, Below.refl _ _⟩
  case round =>
    obtain ⟨k, hk, rfl, hown, hB⟩ := hrel
    obtain ⟨va, vc, rfl⟩ := ownsRow_slice hown
    by_cases hlt : k < n
    · have HT := Lib.hid (upto_snoc (overF f) k tv)
      have c0 := HC.out (2 * k) (by have := HL.out; omega)
      have c1 := HC.out (2 * k + 1) (by have := HL.out; omega)
      have s0 := HF.out (2 * k)
      have s1 := HF.out (2 * k + 1)
      have HO : Hid (overF f k = joinM (f (2 * k)) (f (2 * k + 1))) := Lib.hid rfl
      have hlt' : (k : Int) < (n : Int) := by omega
      have HLT := Lib.hid hlt
      have e0 : IntKind.i64.wrap (2 * (k : Int)) = ((2 * k : Nat) : Int) := by rw [IntKind.wrap_i64]; omega
      have e1 : IntKind.i64.wrap (((2 * k : Nat) : Int) + 1) = ((2 * k + 1 : Nat) : Int) := by rw [IntKind.wrap_i64]; omega
      have i1 : 2 * k < L := by have := HL.out; omega
      have i2 : 2 * k + 1 < L := by have := HL.out; omega
      clear hlt hk
      generalize (upto (overF f) k).map tv = ts at *
      generalize f (2 * k) = x at *
      generalize f (2 * k + 1) = y at *
      generalize hp0 : 2 * k + 1 = q1 at *
      generalize hp1 : 2 * k = q0 at *
      have HP0 := Lib.hid hp0
      clear hp0 hp1
      go_wp2_with fail
      refine wp_region_held_drew (S := fun W => Below w.heap.size w W) hmx hB.drew ?_
      intro hS
      have hWd : Below wr.heap.size wr wr.drew := (Below.refl _ wr).drew
      replace hown : wr.drew.ownsRow w.heap.size 9 1 (.slice va k vc) k ts := hown
      generalize wr.drew = Y at *
      refine' wpAnyH_take (i := 0) (oi := _) (v := _) ?hi1 (by kernel_rfl) (by kernel_rfl) (by kernel_rfl) ?hQ1 (Or.inl ⟨?hw1, ?hy1⟩) hS ?rest1
      case hi1 => simp only [List.getElem?_toArray, List.getElem?_cons_zero]; rfl
      case hQ1 => exact fun _ _ _ h => h
      case hw1 => rfl
      case hy1 => intro W' hS'; go_simp; with_reducible rfl
      try simp only [Act.put, List.setIfInBounds_toArray, List.set_cons_zero, List.set_cons_succ]
      refine' wpAnyH_take (i := 1) (oi := _) (v := _) ?hi2 (by kernel_rfl) (by kernel_rfl) (by kernel_rfl) ?hQ2 (Or.inl ⟨?hw2, ?hy2⟩) hS ?rest2
      case hi2 => simp only [List.getElem?_toArray, List.getElem?_cons_succ, List.getElem?_cons_zero]; rfl
      case hQ2 => exact fun _ _ _ h => h
      case hw2 => rfl
      case hy2 => intro W' hS'; go_simp; with_reducible rfl
      try simp only [Act.put, List.setIfInBounds_toArray, List.set_cons_zero, List.set_cons_succ]
      refine' wpAnyH_take (i := 2) (oi := _) (v := _) ?hi3 (by kernel_rfl) (by kernel_rfl) (by kernel_rfl) ?hQ3 (Or.inl ⟨?hw3, ?hy3⟩) hS ?rest3
      case hi3 => simp only [List.getElem?_toArray, List.getElem?_cons_succ, List.getElem?_cons_zero]; rfl
      case hQ3 => exact fun _ _ _ h => h
      case hw3 => rfl
      case hy3 => intro W' hS'; go_simp; with_reducible rfl
      try simp only [Act.put, List.setIfInBounds_toArray, List.set_cons_zero, List.set_cons_succ]
      refine' wpAnyH_take (i := 3) (oi := _) (v := _) ?hi4 (by kernel_rfl) (by kernel_rfl) (by kernel_rfl) ?hQ4 (Or.inl ⟨?hw4, ?hy4⟩) hS ?rest4
      case hi4 => simp only [List.getElem?_toArray, List.getElem?_cons_succ, List.getElem?_cons_zero]; rfl
      case hQ4 => exact fun _ _ _ h => h
      case hw4 => rfl
      case hy4 => intro W' hS'; go_simp; with_reducible rfl
      try simp only [Act.put, List.setIfInBounds_toArray, List.set_cons_zero, List.set_cons_succ]
      refine' wpAnyH_take (i := 4) (oi := _) (v := _) ?hi5 (by kernel_rfl) (by kernel_rfl) (by kernel_rfl) ?hQ5 (Or.inl ⟨?hw5, ?hy5⟩) hS ?rest5
      case hi5 => simp only [List.getElem?_toArray, List.getElem?_cons_succ, List.getElem?_cons_zero]; rfl
      case hQ5 => exact fun _ _ _ h => h
      case hw5 => rfl
      case hy5 => intro W' hS'; go_simp; with_reducible rfl
      try simp only [Act.put, List.setIfInBounds_toArray, List.set_cons_zero, List.set_cons_succ]
      refine' wpAnyH_take (i := 5) (oi := _) (v := _) ?hi6 (by kernel_rfl) (by kernel_rfl) (by kernel_rfl) ?hQ6 (Or.inl ⟨?hw6, ?hy6⟩) hS ?rest6
      case hi6 => simp only [List.getElem?_toArray, List.getElem?_cons_succ, List.getElem?_cons_zero]; rfl
      case hQ6 => exact fun _ _ _ h => h
      case hw6 => rfl
      case hy6 => intro W' hS'; have hc := (hS'.cell (p := ⟨b, off + q0, none⟩) hbw).trans c0; go_simp; with_reducible rfl
      try simp only [Act.put, List.setIfInBounds_toArray, List.set_cons_zero, List.set_cons_succ]
      refine' wpAnyH_take (i := 6) (oi := _) (v := _) ?hi7 (by kernel_rfl) (by kernel_rfl) (by kernel_rfl) ?hQ7 (Or.inl ⟨?hw7, ?hy7⟩) hS ?rest7
      case hi7 => simp only [List.getElem?_toArray, List.getElem?_cons_succ, List.getElem?_cons_zero]; rfl
      case hQ7 => exact fun _ _ _ h => h
      case hw7 => rfl
      case hy7 => intro W' hS'; go_simp; with_reducible rfl
      try simp only [Act.put, List.setIfInBounds_toArray, List.set_cons_zero, List.set_cons_succ]
      refine' wpAnyH_take (i := 7) (oi := _) (v := _) ?hi8 (by kernel_rfl) (by kernel_rfl) (by kernel_rfl) ?hQ8 (Or.inl ⟨?hw8, ?hy8⟩) hS ?rest8
      case hi8 => simp only [List.getElem?_toArray, List.getElem?_cons_succ, List.getElem?_cons_zero]; rfl
      case hQ8 => exact fun _ _ _ h => h
      case hw8 => rfl
      case hy8 => intro W' hS'; go_simp; with_reducible rfl
      try simp only [Act.put, List.setIfInBounds_toArray, List.set_cons_zero, List.set_cons_succ]
      refine' wpAnyH_take (i := 8) (oi := _) (v := _) ?hi9 (by kernel_rfl) (by kernel_rfl) (by kernel_rfl) ?hQ9 (Or.inl ⟨?hw9, ?hy9⟩) hS ?rest9
      case hi9 => simp only [List.getElem?_toArray, List.getElem?_cons_succ, List.getElem?_cons_zero]; rfl
      case hQ9 => exact fun _ _ _ h => h
      case hw9 => rfl
      case hy9 => intro W' hS'; go_simp; with_reducible rfl
      try simp only [Act.put, List.setIfInBounds_toArray, List.set_cons_zero, List.set_cons_succ]
      refine' wpAnyH_take (i := 9) (oi := _) (v := _) ?hi10 (by kernel_rfl) (by kernel_rfl) (by kernel_rfl) ?hQ10 (Or.inl ⟨?hw10, ?hy10⟩) hS ?rest10
      case hi10 => simp only [List.getElem?_toArray, List.getElem?_cons_succ, List.getElem?_cons_zero]; rfl
      case hQ10 => exact fun _ _ _ h => h
      case hw10 => rfl
      case hy10 => intro W' hS'; go_simp; with_reducible rfl
      try simp only [Act.put, List.setIfInBounds_toArray, List.set_cons_zero, List.set_cons_succ]
      refine' wpAnyH_take (i := 10) (oi := _) (v := _) ?hi11 (by kernel_rfl) (by kernel_rfl) (by kernel_rfl) ?hQ11 (Or.inl ⟨?hw11, ?hy11⟩) hS ?rest11
      case hi11 => simp only [List.getElem?_toArray, List.getElem?_cons_succ, List.getElem?_cons_zero]; rfl
      case hQ11 => exact fun _ _ _ h => h
      case hw11 => rfl
      case hy11 => intro W' hS'; go_simp; with_reducible rfl
      try simp only [Act.put, List.setIfInBounds_toArray, List.set_cons_zero, List.set_cons_succ]
      refine' wpAnyH_take (i := 11) (oi := _) (v := _) ?hi12 (by kernel_rfl) (by kernel_rfl) (by kernel_rfl) ?hQ12 (Or.inl ⟨?hw12, ?hy12⟩) hS ?rest12
      case hi12 => simp only [List.getElem?_toArray, List.getElem?_cons_succ, List.getElem?_cons_zero]; rfl
      case hQ12 => exact fun _ _ _ h => h
      case hw12 => rfl
      case hy12 => intro W' hS'; have hc := (hS'.cell (p := ⟨b, off + q1, none⟩) hbw).trans c1; go_simp; with_reducible rfl
      try simp only [Act.put, List.setIfInBounds_toArray, List.set_cons_zero, List.set_cons_succ]
      refine wpAnyH_ready (rs := [12]) (by kernel_rfl) (by simp) ?_
      refine' AllReadyH.cons (o := _) ?ho13 (fun K hK => ?st13) AllReadyH.nil
      case ho13 => simp only [List.getElem?_toArray, List.getElem?_cons_succ, List.getElem?_cons_zero]; rfl
      case st13 =>
        go_simp
        refine (joinM_any x y (by omega) _).mono ?_
        rintro e Y1 ⟨rfl, hb⟩
        refine hK.out _ _ (hS.trans (hb.mono hS.size)) (fun hS => ?_)
        clear hK K
        try simp only [Act.put, List.setIfInBounds_toArray, List.set_cons_zero, List.set_cons_succ]
        replace hown := own_below hown hb
        clear hb
        refine wpAnyH_ready (rs := [13]) (by kernel_rfl) (by simp) ?_
        refine' AllReadyH.cons (o := _) ?ho14 (fun K hK => ?st14) AllReadyH.nil
        case ho14 => simp only [List.getElem?_toArray, List.getElem?_cons_succ, List.getElem?_cons_zero]; rfl
        case st14 =>
          go_simp
          refine hK.out _ _ (hS.alloc hS.size _) (fun hS => ?_)
          clear hK K
          try simp only [Act.put, List.setIfInBounds_toArray, List.set_cons_zero, List.set_cons_succ]
          have kt := cell_new1 Y1 9 (tv (joinM x y))
          replace hown := hown.alloc (.cells #[tv (joinM x y)] 9)
          generalize (Y1.alloc (.cells #[tv (joinM x y)] 9)) = Y2 at *
          generalize Y1.heap.size = gt at *
          refine wpAnyH_ready (rs := [14]) (by kernel_rfl) (by simp) ?_
          refine' AllReadyH.cons (o := _) ?ho15 (fun K hK => ?st15) AllReadyH.nil
          case ho15 => simp only [List.getElem?_toArray, List.getElem?_cons_succ, List.getElem?_cons_zero]; rfl
          case st15 =>
            refine step_append_lies _ rfl (.tmp 11) (.tmp 24) 28 rfl w.heap.size 9 i0 (.string ⟨#[]⟩) 1 16 Try.underlying28 hi hz0 hz1 hz2 rfl (by decide) (.slice va k vc) k ts rfl hown ⟨gt, 0, none⟩ 1 1 [tv (joinM x y)] rfl rfl kt (by simp [Value.oneCell']) (by decide) (by have := HLT.out; unfold maxLen; omega) (by have := HLT.out; omega) hS.size _ rfl ?_
            intro g c w1 hown' hgrow _ _
            have hS1 : Below w.heap.size w w1 := hS.grown hgrow hS.size (fun j hj => (World.ownsRow.lt hown j hj).1)
            refine hK.out _ _ hS1 (fun _ => ?_)
            clear hK K
            try simp only [Act.put, List.setIfInBounds_toArray, List.set_cons_zero, List.set_cons_succ]
            refine wpAnyH_ready (rs := [15]) (by kernel_rfl) (by simp) ?_
            refine' AllReadyH.cons (o := _) ?ho16 (fun K hK => ?st16) AllReadyH.nil
            case ho16 => simp only [List.getElem?_toArray, List.getElem?_cons_succ, List.getElem?_cons_zero]; rfl
            case st16 =>
              go_simp
              refine hK.out _ _ hS1 (fun _ => ?_)
              clear hK K
              try simp only [Act.put, List.setIfInBounds_toArray, List.set_cons_zero, List.set_cons_succ]
              refine wpAnyH_done (by kernel_rfl) ?_ _
              clear hown kt hS hB hWd
              go_wp2_with fail
              go_roundw
              case rel => exact ⟨k + 1, HLT.out, by simp, by rw [HT.out, HO.out]; exact hown', hS1⟩
              case measure => have := HLT.out; simp [intOf]; omega
    · obtain rfl : k = n := by omega
      go_wp2
      go_ret
      exact ⟨_, rfl, hown, hB⟩
end Go.Proofs.Ytalmoaggancdjaa
