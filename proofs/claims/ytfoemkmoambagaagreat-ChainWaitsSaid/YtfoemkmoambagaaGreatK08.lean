/-
  slices.Values over ints: each; ots.Digits: 12 digits of a text's sum, and 3 of what they leave; The digits, each; ots' closures; whether parts are well-formed; ots.Public, ots.Sign, ots.Open; mss: a node of a key's tree; join; a key's lowest row; mss: Leaf; what stands behind the leaf; the climb; The reference's Public, Parts, Open; mss.Verify; What Verify tells, and the reference's, as one plain 
-/
import Derived.Outline
import Derived.Deep.AppendLies
import Derived.OneCell
import Derived.Lib.AppendZeros
import Derived.IntWalk
import Derived.LoopTactic
import Derived.Test.YtfoemkmoambagaaGreatK07
namespace Go.Proofs.YtfoemkmoambagaaGreat
open Go.RowKit Go.Shelf
attribute [local go_sem] Oper.semAt_some
set_option maxRecDepth 100000 in
set_option maxHeartbeats 4000000 in
theorem valuesI1_in (m : Nat) (hm : 1 ≤ m) (l Bs n₀ b off cap : Nat) (zs : List Int) (hreach : zs.length ≤ 140737488351232) (hb : b < n₀) (J : Nat → World → Prop)
    (W : World)
    (hY : ∀ k x W1, zs[k]? = some x → J k W1 → YieldAt Fence.wide (m - 1) Tryz.prog l #[iv x] W1 fun e W' => e = .returned (.bool true) ∧ J (k + 1) W' ∧ Below n₀ W1 W')
    (hBs : W.cell? ⟨Bs, 0, none⟩ = some (.slice (some ⟨b, off, none⟩) zs.length cap)) (hc : Row W b off (zs.map iv)) (h0 : J 0 W) :
    CallsIn Fence.wide m Tryz.prog 149 #[.func (.yield l) #[] #[], .pointer (some ⟨Bs, 0, none⟩)] W fun e W' => (∃ v, e = .returned v) ∧ J zs.length W' := by
  refine callsIn_of_wp Tryz.func149 rfl trivial ?_ rfl
  simp only [Tryz.ntmps149, List.size_toArray, List.length_cons, List.length_nil, Nat.reduceAdd, Nat.reduceSub, Array.replicate_succ, Array.replicate_zero, List.push_toArray, List.append_toArray, List.nil_append, List.cons_append]
  gi_wp2
  gi_loopw [7] (fun i wr => ∃ k : Nat, k ≤ zs.length ∧ i = .int .i64 k ∧ J k wr ∧ Below n₀ W wr) (fun i _ => zs.length - (intOf i).toNat)
  case atStart => exact ⟨0, Nat.zero_le _, rfl, h0, Below.refl _ _⟩
  case round =>
    obtain ⟨k, hk, rfl, hJs, hnx⟩ := hrel
    by_cases hlt : k < zs.length
    · obtain ⟨x, hx⟩ : ∃ x, zs[k]? = some x := ⟨_, List.getElem?_eq_getElem hlt⟩
      have c0 : wr.cell? ⟨b, off + k, none⟩ = some (iv x) := (hc.below hnx hb) k _ (by rw [List.getElem?_map, hx]; rfl)
      have hk0 : (k : Int) < (zs.length : Int) := by omega
      obtain ⟨fn, tmps, assign, body, hy, hR⟩ := hY k x wr hx hJs
      simp only [iv] at c0 hy
      clear hx
      generalize hL : zs.length = len at *
      have HL := Lib.hid hL
      clear hL
      gi_wp2
      refine hR.mono ?_
      rintro e W3 ⟨rfl, hJ3, hk3⟩
      gi_wp2
      go_roundw
      case rel => exact ⟨k + 1, by omega, by simp, hJ3, hnx.trans hk3⟩
      case measure => simp [intOf]; omega
    · obtain rfl : k = zs.length := by omega
      gi_wp2
      go_end0
      exact ⟨⟨_, rfl⟩, hJs⟩
set_option maxRecDepth 100000 in
set_option maxHeartbeats 1000000 in
theorem valuesI1_nil_in (m : Nat) (l Bs : Nat) (a : Option Addr) (cap : Nat) (J : World → Prop) (W : World) (hBs : W.cell? ⟨Bs, 0, none⟩ = some (.slice a 0 cap)) (h0 : J W) :
    CallsIn Fence.wide m Tryz.prog 149 #[.func (.yield l) #[] #[], .pointer (some ⟨Bs, 0, none⟩)] W fun e W' => (∃ v, e = .returned v) ∧ J W' := by
  refine callsIn_of_wp Tryz.func149 rfl trivial ?_ rfl
  simp only [Tryz.ntmps149, List.size_toArray, List.length_cons, List.length_nil, Nat.reduceAdd, Nat.reduceSub, Array.replicate_succ, Array.replicate_zero, List.push_toArray, List.append_toArray, List.nil_append, List.cons_append]
  gi_wp2
  gi_loopw [7] (fun i wr => i = .int .i64 0 ∧ J wr) (fun _ _ => 0)
  case atStart => exact ⟨rfl, h0⟩
  case round =>
    obtain ⟨rfl, hJs⟩ := hrel
    gi_wp2
    go_end0
    exact ⟨⟨_, rfl⟩, hJs⟩
set_option maxHeartbeats 1000000 in
theorem valuesI_in (F : Fence) (n : Nat) (h5 : F.fn 140) (hro : F.round = none) (a : Option Addr) (len cap : Nat) (w : World) :
    CallsIn F n Tryz.prog 140 #[.slice a len cap] w fun e w' => e = .returned (.func (.func 149) #[] #[.pointer (some ⟨w.heap.size, 0, none⟩)]) ∧ w' = w.alloc (.cells #[.slice a len cap] 185) := by
  refine callsIn_of_wp Tryz.func140 rfl h5 ?_ hro
  simp only [Tryz.ntmps140, List.size_toArray, List.length_cons, List.length_nil, Nat.reduceAdd, Nat.reduceSub, Array.replicate_succ, Array.replicate_zero, List.push_toArray, List.append_toArray, List.nil_append, List.cons_append]
  gi_wp2
  go_ret
  exact ⟨rfl, rfl⟩
theorem valuesI_rel (m : Nat) (hm : 1 ≤ m) (Bs n₀ : Nat) (sv : Value) (zs : List Int) (hreach : zs.length ≤ 140737488351232) (w : World) (hn₀ : n₀ ≤ w.heap.size)
    (hk : Boxed w Bs 185 sv) (hI : VSl 0 n₀ w sv (zs.map iv)) :
    SeqRel Fence.wide m Tryz.prog 149 #[.pointer (some ⟨Bs, 0, none⟩)] zs.length (fun k r _ => ∃ x, zs[k]? = some x ∧ r = #[iv x]) (fun _ => Below n₀) w := fun l J W hW _ _ _ hY h0 => by
  have hc' := (hW.cell (p := ⟨Bs, 0, none⟩) hk.lt).trans hk.cell
  obtain ⟨a, cap, rfl, _, h0' | ⟨b, off, rfl, _, hb, hcs⟩⟩ := hI.below hW hn₀
  · rw [List.map_eq_nil_iff] at h0'
    subst h0'
    exact (valuesI1_nil_in m l Bs a cap (J 0) W hc' h0).mono fun e W' ⟨he, hj⟩ => ⟨he, hj⟩
  · rw [List.length_map] at hc'
    exact valuesI1_in m hm l Bs n₀ b off cap zs hreach hb J W (fun k x W1 hx hj => hY k _ W1 (List.getElem?_eq_some_iff.1 hx).1 ⟨x, hx, rfl⟩ hj) hc' hcs h0
end Go.Proofs.YtfoemkmoambagaaGreat
namespace Go.Proofs.YtfoemkmoambagaaGreat
open Go.RowKit Go.Shelf
attribute [local go_sem] Oper.semAt_some
def headN (l : List UInt8) : Nat := be ((sumL cb sq l).take 3)
theorem headN_le (l : List UInt8) : headN l ≤ 16777215 := by
  have := be_lt' (l := (sumL cb sq l).take 3) (k := 3) (by rw [List.length_take]; omega)
  unfold headN; omega
def sumTo12 (x k : Nat) : Nat := ((List.range k).map fun i => dig x (11 - i)).sum
theorem sumTo12_succ (x k : Nat) : sumTo12 x (k + 1) = sumTo12 x k + dig x (11 - k) := by simp [sumTo12, List.range_succ]
theorem dig_le (x p : Nat) : dig x p ≤ 3 := by unfold dig; omega
theorem sumTo12_le (x k : Nat) : sumTo12 x k ≤ 3 * k := by
  induction k with
  | zero => simp [sumTo12]
  | succ k ih => rw [sumTo12_succ]; have := dig_le x (11 - k); omega
def restN (l : List UInt8) : Nat := 36 - sumTo12 (headN l) 12
def digL (l : List UInt8) : List Int := digs (headN l) 12 ++ digs (restN l) 3
theorem digL_length (l : List UInt8) : (digL l).length = 15 := by simp [digL, digs_length]
def RestI (B x : Nat) (w : World) (k : Nat) (W : World) : Prop := Boxed W B 3 (.int .i64 (36 - (sumTo12 x k : Int))) ∧ Below w.heap.size w W
theorem restI_own {B x : Nat} {w : World} {C : Nat} (hC : w.heap.size ≤ C) : OwnFrom C (RestI B x w) :=
  OwnFrom.and (Own.from (fun s X Y row hs hg hr => blk_own B 3 (fun s : Nat => [.int .i64 (36 - (sumTo12 x s : Int))]) s X Y row hs hg hr) _) (ownFrom_below (Nat.le_refl _) hC)
set_option maxRecDepth 100000 in
set_option maxHeartbeats 8000000 in
theorem digitsOf_in (m : Nat) (hm : 12 ≤ m) (l : List UInt8) (sv : Value) (w : World) (hreach : l.length ≤ 140737488353000) (hsv : BSl 0 w.heap.size w sv l) :
    CallsIn Fence.wide m Tryz.prog 128 #[sv] w (RowW w.heap.size 3 15 ((digL l).map iv) w) := by
  have h1 : 1 ≤ m := by omega
  have hsv0 := hsv
  obtain ⟨a, cap, rfl, hcap, hcs⟩ := hsv
  clear hcs
  refine callsIn_of_wp_marks Tryz.func128 rfl trivial ?_ rfl
  simp only [Tryz.ntmps128, List.size_toArray, List.length_cons, List.length_nil, Nat.reduceAdd, Nat.reduceSub, Array.replicate_succ, Array.replicate_zero, List.push_toArray, List.append_toArray, List.nil_append, List.cons_append]
  have hl32 : (sumL cb sq l).length = 32 := sumTo_length _ 8
  have hH : Hid (headN l = be ((sumL cb sq l).take 3)) := Lib.hid rfl
  have hD : Hid (digL l = digs (headN l) 12 ++ digs (restN l) 3) := Lib.hid rfl
  have hR : Hid (restN l = 36 - sumTo12 (headN l) 12) := Lib.hid rfl
  have hx := headN_le l
  gi_wp2_with (first
    | (refine ⟨trivial, ?_⟩; gi_at_call 72; refine (sum_in (m - 1) (by omega) l _ w hreach hsv0).mono ?_; rintro e w1 ⟨v1, rfl, hown1, hb1⟩; rw [hl32] at hown1; obtain ⟨g, c, rfl⟩ := ownsRow_succ hown1; have hq1 := BSl.of_own (l := sumL cb sq l) (by rw [hl32]; exact hown1); have hcc := (show 32 ≤ c by obtain ⟨_, c', e, h, _⟩ := hq1; rw [hl32] at h; cases e; exact h))
    | (refine ⟨trivial, ?_⟩; gi_at_call 111; refine (blobInt_in (m - 1) (by omega) ((sumL cb sq l).take 3) _ w1 (by rw [List.length_take]; omega) ((BSl.take (l := sumL cb sq l) (by rw [hl32]; exact hq1) 3 (by omega)).mono (Nat.zero_le _) (Nat.le_refl _))).mono ?_; rintro e w2 ⟨rfl, hb2⟩; rw [List.take_of_length_le (by rw [List.length_take]; omega), ← hH.out])
    | (refine ⟨trivial, ?_⟩; gi_at_call 139; refine (digits_in Fence.wide (m - 1) trivial rfl _ _ _).mono ?_; rintro e w3 ⟨rfl, hw3⟩; have kn : Boxed w3 w2.heap.size 3 (.int .i64 (headN l : Nat)) := (by rw [hw3]; exact (Boxed.new _ _ _).alloc _); have km : Boxed w3 (w2.heap.size + 1) 3 (.int .i64 ((12 : Nat) : Int)) := (by rw [hw3]; exact Blk.new' (vs := [.int .i64 12]) (by simp)); have hb3 : Below w2.heap.size w2 w3 := (by rw [hw3]; exact chainA (chain0 _ _) _); clear hw3)
    | (refine ⟨trivial, ?_⟩; gi_at_call 138; refine (collectI_in (m - 1) (by omega) (headN l) 12 hx (by omega) _ _ w3 kn km).mono ?_; rintro e w4 ⟨v4, rfl, hown4, hb4⟩; obtain ⟨g4, c4, rfl⟩ := ownsRow_succ hown4)
    | (refine ⟨trivial, ?_⟩; gi_at_call 140; refine (valuesI_in Fence.wide (m - 1) trivial rfl _ _ _ _).mono ?_; rintro e w5 ⟨rfl, hw5⟩))
  clear hw5
  have hq4 := VSl.of_own (vs := (digs (headN l) 12).map iv) (by rw [List.length_map, digs_length]; exact hown4)
  have hb14 : Below w.heap.size w w4 := chain (chain (chain hb1 hb2) hb3) hb4
  replace hown4 : w4.ownsRow w.heap.size 3 1 (.slice (some ⟨g4, 0, none⟩) (11 + 1) c4) 12 ((digs (headN l) 12).map iv) := own_base hown4 (chain (chain hb1 hb2) hb3).size
  clear hown1 hq1 hb1 hb2 hb3 hb4 kn km hcc
  generalize headN l = x at *
  generalize hW5 : World.alloc _ _ = W5
  have k0 : Boxed W5 w4.heap.size 3 (.int .i64 (36 - (sumTo12 x 0 : Int))) := by rw [← hW5]; exact (Boxed.new _ _ _).alloc _
  have k2 : Boxed W5 (w4.heap.size + 1) 185 (.slice (some ⟨g4, 0, none⟩) 12 c4) := by rw [← hW5]; exact Blk.new' (vs := [_]) (by simp)
  have hB0 : Below w4.heap.size w4 W5 := by rw [← hW5]; exact chainA (chain0 _ _) _
  have hz : W5.heap.size = w4.heap.size + 2 := by rw [← hW5]; simp
  clear hW5
  refine wpIn_rangeFunc_relA rfl h1 (gf := 149) (lb := #[.pointer (some ⟨w4.heap.size + 1, 0, none⟩)]) rfl trivial (enters_of Tryz.func149 (by kernel_rfl) rfl)
    (valuesI_rel (m - 1) (by omega) (w4.heap.size + 1) w4.heap.size _ (digs x 12) (by rw [digs_length]; omega) W5 (by omega) k2 ((hq4.mono (Nat.zero_le _) (Nat.le_refl _)).below hB0 (Nat.le_refl _))) (fun h k => h.trans k) (fun X o o' h2 h3 h4 => belowK_b (w := w4) (Nat.le_refl _) _ _ o o' (by omega) h2 h3 h4) (fun X => Below.refl _ X) (Below.refl _ _) (fun _ => rfl)
    (RestI w4.heap.size x w4) (restI_own (by omega)) ⟨k0, hB0⟩ (fun _ _ _ _ _ _ h _ _ => h) ?_ ?_ ?_ ?_
  rotate_left
  · intro l k y W K _ hK
    gi_wp2
    exact hK
  · rintro r k y W hlt ⟨kr, hB⟩ hy
    rw [digs_length] at hlt
    rw [digs_at x hlt] at hy
    obtain rfl := (Option.some.inj hy).symm
    have hs := sumTo12_succ x k
    have h3 := dig_le x (11 - k)
    have hle := sumTo12_le x k
    have kc := kr.cell
    have kf := kr.frozen
    have HS := Lib.hid hs
    clear hs hy
    have b1 : (sumTo12 x k : Int) ≤ 36 := by omega
    have b2 : (dig x (12 - 1 - k) : Int) ≤ 3 := by have := dig_le x (12 - 1 - k); omega
    have h11 : 12 - 1 - k = 11 - k := by omega
    rw [h11] at b2 ⊢
    generalize dig x (11 - k) = d at *
    generalize hS : sumTo12 x k = S at *
    have HS2 := Lib.hid hS
    clear hS h11
    gi_wp2
    refine ⟨(KeepsOthers.setCell _ _ _).from _, (Below.refl w4.heap.size W).setCell (p := ⟨w4.heap.size, 0, none⟩) (Nat.le_refl _) _, ?_, hB.setCell (p := ⟨w4.heap.size, 0, none⟩) (Nat.le_refl _) _⟩
    rw [HS.out, show (36 - ((S + d : Nat) : Int)) = 36 - (S : Int) - (d : Int) by omega]
    exact kr.set _
  · rintro D W hD ⟨kr, hB⟩ hK
    rw [digs_length] at kr
    have hle := sumTo12_le x 12
    have hr : (36 - (sumTo12 x 12 : Int)) = ((restN l : Nat) : Int) := by rw [hR.out]; omega
    rw [hr] at kr
    have hr36 : restN l ≤ 36 := by rw [hR.out]; omega
    have kc := kr.cell
    have hown5 := own_below hown4 hB
    have hB5 : Below w.heap.size w W := chain hb14 hB
    clear hown4 hr hle hR k0 k2 hB0
    generalize restN l = q at *
    have hDW := (Array.getElem?_eq_some_iff.1 hK).1
    have hsz := hB5.size
    have HZ := Lib.hid hz
    clear hz
    gi_wp2_with (first
      | (refine ⟨trivial, ?_⟩; gi_at_call 139; refine (digits_in Fence.wide (m - 1) trivial rfl _ _ _).mono ?_; rintro e w6 ⟨rfl, hw6⟩; have kn : Boxed w6 W.heap.size 3 (.int .i64 (q : Nat)) := (by rw [hw6]; exact (Boxed.new _ _ _).alloc _); have km : Boxed w6 (W.heap.size + 1) 3 (.int .i64 ((3 : Nat) : Int)) := (by rw [hw6]; exact Blk.new' (vs := [.int .i64 3]) (by simp)); have hb6 : Below W.heap.size W w6 := (by rw [hw6]; exact chainA (chain0 _ _) _); clear hw6)
      | (refine ⟨trivial, ?_⟩; gi_at_call 141; refine (appendSeqI_in (m - 1) (by omega) w.heap.size 12 q 3 (by omega) (by omega) (by omega) _ _ _ _ w6 (Nat.le_trans hsz hb6.size) (own_below hown5 hb6) kn km (.inr (by omega))).mono ?_; rintro e w7 ⟨v7, rfl, hown7, hb7, hsp7⟩; obtain ⟨g7, c7, rfl⟩ := ownsRow_succ hown7))
    have hK7 : w7.heap[D]? = some (.deferred (some [])) := hsp7.others.same _ _ ((hb6.block D hDW).trans hK) rfl
    have hB' := ((hB5.trans (hb6.mono hsz)).trans hb7).trans (belowK_b (w := w) (Nat.le_refl _) _ D _ (.deferred none) (by have := HZ.out; have := hb14.size; omega) hK7 rfl rfl)
    have hown3 := ownsRow_putObj hown7 (.deferred none) hK7 rfl
    rw [← List.map_append, ← hD.out] at hown3
    refine ⟨by simp, .inl ⟨_, _, rfl, run_takeDeferred hK7, ?_⟩⟩
    refine ⟨.slice (some ⟨g7, 0, none⟩) 15 c7, ?_, ?_⟩
    · simp [results, Tryz.f128, go_sem]
    · exact ⟨_, rfl, hown3, hB'⟩
theorem digitsOf_any (l : List UInt8) (sv : Value) (w : World) (hreach : l.length ≤ 140737488353000) (hsv : BSl 0 w.heap.size w sv l) :
    Calls Tryz.prog 128 #[sv] w (RowW w.heap.size 3 15 ((digL l).map iv) w) := callsIn_wide.1 (digitsOf_in 12 (by omega) l sv w hreach hsv)
end Go.Proofs.YtfoemkmoambagaaGreat
namespace Go.Proofs.YtfoemkmoambagaaGreat
open Go.RowKit Go.Shelf
def digF (l : List UInt8) (k : Nat) : Nat := if k < 12 then dig (headN l) (11 - k) else dig (restN l) (14 - k)
theorem digF_le (l : List UInt8) (k : Nat) : digF l k ≤ 3 := by unfold digF; split <;> exact dig_le _ _
theorem digL_at (l : List UInt8) {k : Nat} (h : k < 15) : (digL l)[k]? = some (digF l k : Int) := by
  unfold digL digF
  by_cases h12 : k < 12
  · rw [List.getElem?_append_left (by rw [digs_length]; exact h12), digs_at _ h12, if_pos h12]
  · rw [List.getElem?_append_right (by rw [digs_length]; omega), digs_length, digs_at _ (by omega), if_neg h12]
    congr 3; omega
theorem digRow {lo : Nat} {W : World} {v : Value} {l : List UInt8} (h : W.ownsRow lo 3 1 v 15 ((digL l).map iv)) :
    ∃ g c, v = .slice (some ⟨g, 0, none⟩) 15 c ∧ g < W.heap.size ∧ 15 ≤ c ∧ ∀ k, k < 15 → W.cell? ⟨g, k, none⟩ = some (.int .i64 (digF l k : Int)) := by
  have hq := VSl.of_own (vs := (digL l).map iv) (by rw [List.length_map, digL_length]; exact h)
  obtain ⟨g, c, rfl⟩ := ownsRow_succ h
  obtain ⟨a', c', e, hc, h0 | ⟨b, off, ha, _, hb, hr⟩⟩ := hq
  · have := congrArg List.length h0
    rw [List.length_map, digL_length] at this
    simp at this
  · rw [List.length_map, digL_length] at e hc
    cases e
    cases ha
    exact ⟨g, c, rfl, hb, hc, fun k hk => by
      have := hr k (.int .i64 (digF l k : Int)) (by rw [List.getElem?_map, digL_at l hk]; rfl)
      rwa [Nat.zero_add] at this⟩
end Go.Proofs.YtfoemkmoambagaaGreat
namespace Go.Proofs.YtfoemkmoambagaaGreat
open Go.RowKit Go.Shelf
set_option maxHeartbeats 1000000 in
theorem openAt_any (k d : Nat) (hk : k < 15) (h3 : d ≤ 3) (g c B : Nat) (w : World) (kb : Boxed w B 185 (.slice (some ⟨g, 0, none⟩) 15 c)) (hd : w.cell? ⟨g, k, none⟩ = some (.int .i64 (d : Int))) :
    Calls Tryz.prog 131 #[.int .i64 (k : Int), .pointer (some ⟨B, 0, none⟩)] w fun e W' => e = .returned (.int .i64 (3 - (d : Int))) ∧ w = W' := by
  have cb := kb.cell
  have hk' : (k : Int) < 15 := by omega
  have h3' : (d : Int) ≤ 3 := by omega
  go_enter Tryz.func131, Tryz.ntmps131
  go_wp2
  go_ret
  exact ⟨rfl, rfl⟩
set_option maxHeartbeats 1000000 in
theorem wrong_any (s : ByteArray) (hs : s.size ≤ 9223372036854775807) (w : World) : Calls Tryz.prog 136 #[.string s] w fun e W' => e = .returned (.bool (decide (s.size ≠ 8))) ∧ w = W' := by
  have hs' : (s.size : Int) ≤ 9223372036854775807 := by omega
  by_cases h8 : s.size = 8
  · have hb : ((s.size : Int) != 8) = false := by simp; omega
    have H8 := Lib.hid h8
    clear h8
    go_enter Tryz.func136, Tryz.ntmps136
    go_wp2
    go_ret
    exact ⟨by simp [H8.out], rfl⟩
  · have hb : ((s.size : Int) != 8) = true := by simp; omega
    have H8 := Lib.hid h8
    clear h8
    go_enter Tryz.func136, Tryz.ntmps136
    go_wp2
    go_ret
    exact ⟨by simp [H8.out], rfl⟩
def IdxW (zs : List ByteArray) (w : World) (e : Ending) (W' : World) : Prop := ∃ i : Int, e = .returned (.int .i64 i) ∧ ((zs.all (fun x => x.size == 8) = true ∧ i = -1) ∨ (zs.all (fun x => x.size == 8) = false ∧ 0 ≤ i ∧ i ≤ 1000000)) ∧ w = W'
set_option maxRecDepth 100000 in
set_option maxHeartbeats 2000000 in
theorem indexFunc_any (zs : List ByteArray) (hn : zs.length ≤ 1000000) (hz : ∀ x ∈ zs, x.size ≤ 9223372036854775807) (sv : Value) (w : World) (hsv : VSl 0 w.heap.size w sv (zs.map tv)) :
    Calls Tryz.prog 147 #[sv, .func (.func 136) #[] #[]] w (IdxW zs w) := by
  obtain ⟨a, cap, rfl, _, h0⟩ := hsv
  rw [List.length_map]
  have hcell : ∀ k x, zs[k]? = some x → ∃ b off, a = some ⟨b, off, none⟩ ∧ w.cell? ⟨b, off + k, none⟩ = some (.string x) := fun k x hx => by
    rcases h0 with h0 | ⟨b, off, ha, _, _, hr⟩
    · rw [List.map_eq_nil_iff] at h0; subst h0; simp at hx
    · exact ⟨b, off, ha, hr k _ (by rw [List.getElem?_map, hx]; rfl)⟩
  have HC := Lib.hid hcell
  clear hcell h0
  go_enter Tryz.func147, Tryz.ntmps147
  go_wp2
  go_loop [5, 8] (fun _ i => ∃ k : Nat, k ≤ zs.length ∧ i = .int .i64 (k : Nat) ∧ (zs.take k).all (fun x => x.size == 8) = true) (fun _ i => zs.length - (intOf i).toNat)
  case atStart => exact ⟨0, by omega, rfl, rfl⟩
  case round =>
    obtain ⟨k, hk, rfl, hall⟩ := hrel
    have HA := Lib.hid hall
    clear hall
    by_cases hlt : k < zs.length
    · obtain ⟨x, hx⟩ : ∃ x, zs[k]? = some x := ⟨_, List.getElem?_eq_getElem hlt⟩
      obtain ⟨b, off, rfl, c0⟩ := HC.out k x hx
      have hxs := hz x (List.mem_of_getElem? hx)
      have HX := Lib.hid hx
      have HZ := Lib.hid hz
      clear hx hz
      have hlt' : (k : Int) < (zs.length : Int) := by omega
      generalize hL : zs.length = len at *
      have HLn := Lib.hid hL
      clear hL
      by_cases h8 : x.size = 8
      · have hd : decide (x.size ≠ 8) = false := by simp [h8]
        have HD := Lib.hid hd
        have H8 := Lib.hid h8
        clear hd h8
        go_wp2_with (go_at_call 136; refine (wrong_any x hxs _).mono ?_; rintro e w' ⟨rfl, rfl⟩; rw [HD.out])
        go_round
        case rel =>
          refine ⟨k + 1, by omega, by simp, ?_⟩
          rw [List.take_add_one, HX.out, List.all_append, HA.out]
          simp [H8.out]
        case measure => simp [intOf]; omega
      · have hd : decide (x.size ≠ 8) = true := by simp [h8]
        have HD := Lib.hid hd
        have H8 := Lib.hid h8
        clear hd h8
        go_wp2_with (go_at_call 136; refine (wrong_any x hxs _).mono ?_; rintro e w' ⟨rfl, rfl⟩; rw [HD.out])
        go_ret
        refine ⟨_, rfl, .inr ⟨?_, by omega, by omega⟩, rfl⟩
        rw [List.all_eq_false]
        exact ⟨x, List.mem_of_getElem? HX.out, by simp [H8.out]⟩
    · obtain rfl : k = zs.length := by omega
      go_wp2
      go_ret
      refine ⟨_, rfl, .inl ⟨?_, rfl⟩, rfl⟩
      have := HA.out
      rwa [List.take_length] at this
set_option maxHeartbeats 1000000 in
theorem containsFunc_any (zs : List ByteArray) (hn : zs.length ≤ 1000000) (hz : ∀ x ∈ zs, x.size ≤ 9223372036854775807) (sv : Value) (w : World) (hsv : VSl 0 w.heap.size w sv (zs.map tv)) :
    Calls Tryz.prog 137 #[sv, .func (.func 136) #[] #[]] w fun e W' => e = .returned (.bool (!zs.all (fun x => x.size == 8))) ∧ w = W' := by
  have hsv0 := hsv
  obtain ⟨a, c, rfl⟩ := hsv0.slice
  rw [List.length_map] at hsv ⊢
  clear hsv0
  go_enter Tryz.func137, Tryz.ntmps137
  go_wp2_with fail
  refine (indexFunc_any zs hn hz _ _ hsv).mono ?_
  rintro e w' ⟨i, rfl, h, rfl⟩
  rcases h with h | h
  · obtain ⟨ha, rfl⟩ := h
    have HA := Lib.hid ha
    clear ha
    go_wp2
    go_ret
    exact ⟨by rw [HA.out]; rfl, rfl⟩
  · obtain ⟨ha, h0, h1⟩ := h
    have HA := Lib.hid ha
    clear ha
    go_wp2
    go_ret
    exact ⟨by rw [HA.out]; rfl, rfl⟩
def wf (zs : List ByteArray) : Bool := decide (zs.length = 15) && zs.all (fun x => x.size == 8)
set_option maxHeartbeats 2000000 in
theorem wellFormed_any (zs : List ByteArray) (hz : ∀ x ∈ zs, x.size ≤ 9223372036854775807) (sv : Value) (w : World) (hsv : VSl 0 w.heap.size w sv (zs.map tv)) :
    Calls Tryz.prog 127 #[sv] w fun e W' => e = .returned (.bool (wf zs)) ∧ w = W' := by
  have hsv0 := hsv
  obtain ⟨a, c, rfl⟩ := hsv0.slice
  rw [List.length_map] at hsv ⊢
  by_cases h15 : zs.length = 15
  · have hwf : wf zs = zs.all (fun x => x.size == 8) := by unfold wf; simp [h15]
    have HW := Lib.hid hwf
    clear hwf
    have hn' : zs.length ≤ 1000000 := by omega
    rw [h15] at hsv ⊢
    clear h15
    go_enter Tryz.func127, Tryz.ntmps127
    go_wp2_with fail
    refine (containsFunc_any zs hn' hz _ _ hsv).mono ?_
    rintro e w' ⟨rfl, rfl⟩
    go_wp2_with fail
    go_ret
    exact ⟨by rw [HW.out]; simp, rfl⟩
  · have hwf : wf zs = false := by unfold wf; simp [h15]
    have HW := Lib.hid hwf
    clear hwf
    have h15' : ((zs.length : Int) == 15) = false := by simp; omega
    clear h15
    go_enter Tryz.func127, Tryz.ntmps127
    go_wp2
    go_ret
    exact ⟨by rw [HW.out]; rfl, rfl⟩
end Go.Proofs.YtfoemkmoambagaaGreat
namespace Go.Proofs.YtfoemkmoambagaaGreat
open Go.RowKit Go.Shelf
theorem walked_mem {zs : List ByteArray} {d : Nat → Int} {m : Nat} (hz : ∀ x ∈ zs, x.size ≤ m) {y : ByteArray} (h : y ∈ walked zs d) : y.size ≤ max m 8 := by
  unfold walked at h
  obtain ⟨i, hi, rfl⟩ := List.mem_mapIdx.1 h
  have := linkB_size zs[i] (stp (d i))
  have := hz zs[i] (List.getElem_mem hi)
  omega
def openB (l : List UInt8) (zs : List ByteArray) : ByteArray := if wf zs = true then joinB (walked zs fun k => 3 - (digF l k : Int)) else ⟨#[]⟩
set_option maxRecDepth 100000 in
set_option maxHeartbeats 2000000 in
theorem open_any (l : List UInt8) (tx : Value) (zs : List ByteArray) (sv : Value) (w : World) (hreach : l.length ≤ 140737488353000) (hz : ∀ x ∈ zs, x.size ≤ 9223372036854775807) (htx : BSl 0 w.heap.size w tx l) (hsv : VSl 0 w.heap.size w sv (zs.map tv)) :
    Calls Tryz.prog 119 #[tx, sv] w fun e W' => e = .returned (.string (openB l zs)) ∧ Below w.heap.size w W' := by
  have hsv0 := hsv
  obtain ⟨sa, sc, rfl⟩ := hsv.slice
  have htx0 := htx
  obtain ⟨ta, tc, rfl⟩ := bsl_slice htx
  rw [List.length_map] at hsv0 ⊢
  clear htx hsv
  cases hwf : wf zs with
  | false =>
    have hp : Hid (openB l zs = ⟨#[]⟩) := Lib.hid (by unfold openB; rw [if_neg (by rw [hwf]; decide)])
    have HW := Lib.hid hwf
    clear hwf
    go_enter Tryz.func119, Tryz.ntmps119
    go_wp2_with fail
    refine (wellFormed_any zs hz _ _ hsv0).mono ?_
    rintro e w1 ⟨rfl, rfl⟩
    rw [HW.out]
    go_wp2_with fail
    go_ret
    exact ⟨by rw [hp.out]; rfl, Below.refl _ _⟩
  | true =>
    have hp : Hid (openB l zs = joinB (walked zs fun k => 3 - (digF l k : Int))) := Lib.hid (by unfold openB; rw [if_pos hwf])
    have h15 : zs.length = 15 := by unfold wf at hwf; simp at hwf; exact hwf.1
    have h8 : ∀ x ∈ zs, x.size ≤ 8 := fun x hx => by unfold wf at hwf; simp at hwf; have := hwf.2 x hx; omega
    have HW := Lib.hid hwf
    have HBL := Lib.hid h15
    have HM := Lib.hid h8
    have hle := digF_le l
    have HLE := Lib.hid hle
    clear hwf h15 h8 hle
    go_enter Tryz.func119, Tryz.ntmps119
    go_wp2_with fail
    refine (wellFormed_any zs hz _ _ hsv0).mono ?_
    rintro e w0 ⟨rfl, rfl⟩
    rw [HW.out]
    go_wp2_with fail
    refine (digitsOf_any l _ _ hreach htx0).mono ?_
    rintro e w1 ⟨v1, rfl, hown1, hb1⟩
    obtain ⟨g, c, rfl, hgw, hcap, hcell⟩ := digRow hown1
    have HC := Lib.hid hcell
    clear hown1 hcell htx0
    go_wp2_with fail
    generalize hW2 : World.alloc _ _ = w2
    have kb : Boxed w2 w1.heap.size 185 (.slice (some ⟨g, 0, none⟩) 15 c) := by rw [← hW2]; exact Boxed.new _ _ _
    have hb2 : Below w1.heap.size w1 w2 := by rw [← hW2]; exact chain0 _ _
    clear hW2
    have hb12 : Below w.heap.size w w2 := chain hb1 hb2
    refine (walkAll_any zs (by have := HBL.out; omega) (fun x hx => by have := HM.out x hx; omega) (fun k => 3 - (digF l k : Int)) _ _ ((hsv0.below hb12 (Nat.le_refl _)).mono (Nat.le_refl _) hb12.size) 131 #[.pointer (some ⟨w1.heap.size, 0, none⟩)] (enters_of Tryz.func131 (by kernel_rfl) rfl) (fun k W hk hW => by
      have hk15 : k < 15 := by have := HBL.out; omega
      exact (openAt_any k (digF l k) hk15 (HLE.out k) g c w1.heap.size W ((hW.block _ kb.lt).trans kb) ((hW.cell (p := ⟨g, k, none⟩) (Nat.lt_of_lt_of_le hgw hb2.size)).trans ((hb2.cell (p := ⟨g, k, none⟩) hgw).trans (HC.out k hk15)))).mono fun e W' ⟨he, hw⟩ => ⟨he, by rw [hw]; exact Below.refl _ _⟩)).mono ?_
    rintro e w3 ⟨v3, rfl, hown3, hb3⟩
    have hV3 := VSl.of_own (vs := (walked zs fun k => 3 - (digF l k : Int)).map tv) (by rw [List.length_map, walked_length]; exact hown3)
    obtain ⟨a3, c3, rfl⟩ := ownsRow_slice hown3
    go_wp2_with fail
    refine (join_any (walked zs fun k => 3 - (digF l k : Int)) (by rw [walked_length, HBL.out]; omega) (fun x hx => by have := walked_mem HM.out hx; omega) _ _ (hV3.mono (Nat.zero_le _) (Nat.le_refl _))).mono ?_
    rintro e w4 ⟨rfl, hb4⟩
    go_wp2_with fail
    go_ret
    exact ⟨by rw [hp.out]; rfl, chain (chain hb12 hb3) hb4⟩
end Go.Proofs.YtfoemkmoambagaaGreat
namespace Go.Proofs.YtfoemkmoambagaaGreat
open Go.RowKit Go.Shelf
def joinM (a b : ByteArray) : ByteArray := shortB (a.data.toList ++ b.data.toList)
theorem joinM_size (a b : ByteArray) : (joinM a b).size = 8 := shortB_size _
theorem short_two (W : World) (v1 v2 : Value) (l1 l2 : List UInt8) (h1 : BSl 0 W.heap.size W v1 l1) (h2 : BSl 0 W.heap.size W v2 l2) (hl : l1.length + l2.length ≤ 140737488353000) :
    Calls Tryz.prog 143 #[.slice (some ⟨W.heap.size, 0, none⟩) 2 2] (W.alloc (.cells #[v1, v2] 98)) fun e W' => e = .returned (.string (shortB (l1 ++ l2))) ∧ Below W.heap.size W W' := by
  have hb : Below W.heap.size W (W.alloc (.cells #[v1, v2] 98)) := chain0 _ _
  have up : ∀ {v : Value} {l : List UInt8}, BSl 0 W.heap.size W v l → BSl 0 (W.alloc (.cells #[v1, v2] 98)).heap.size (W.alloc (.cells #[v1, v2] 98)) v l := fun h => (h.below hb (Nat.le_refl _)).mono (Nat.le_refl _) hb.size
  have hs := short_of (W.alloc (.cells #[v1, v2] 98)) (.slice (some ⟨W.heap.size, 0, none⟩) 2 2) [(v1, l1), (v2, l2)] (by simp) (fun p hp => by
    simp only [List.mem_cons, List.not_mem_nil, or_false] at hp
    rcases hp with rfl | rfl
    · exact ⟨up h1, by show l1.length ≤ _; omega⟩
    · exact ⟨up h2, by show l2.length ≤ _; omega⟩) (by simp; omega) ⟨_, 2, rfl, Nat.le_refl _, .inr ⟨_, 0, rfl, Nat.zero_le _, by simp, fun k x hx => by
      have hB : Blk (W.alloc (.cells #[v1, v2] 98)) W.heap.size 98 [v1, v2] := Blk.new W _ [v1, v2]
      rw [Nat.zero_add, hB.cell]
      exact hx⟩⟩
  refine hs.mono fun e W' ⟨he, hb2⟩ => ⟨?_, chain hb hb2⟩
  rw [he]
  simp
set_option maxRecDepth 100000 in
set_option maxHeartbeats 2000000 in
theorem joinM_any (a b : ByteArray) (hs : a.size + b.size ≤ 140737488353000) (w : World) :
    Calls Tryz.prog 132 #[.string a, .string b] w fun e W' => e = .returned (.string (joinM a b)) ∧ Below w.heap.size w W' := by
  obtain ⟨c1, W1, hcv1, hb1, hz1, ht1⟩ := conv_txt w a
  obtain ⟨c2, W2, hcv2, hb2, hz2, ht2⟩ := conv_txt W1 b
  have h1 := (ht1.below hb2).bsl.mono (Nat.zero_le _) (Nat.le_refl _)
  have h2 := ht2.bsl.mono (Nat.zero_le _) (Nat.le_refl _)
  have hp : Hid (joinM a b = shortB (a.data.toList ++ b.data.toList)) := Lib.hid rfl
  have HS := Lib.hid (show a.data.toList.length + b.data.toList.length ≤ 140737488353000 from hs)
  clear hz1 hz2 ht1 ht2 hs
  go_enter Tryz.func132, Tryz.ntmps132
  go_wp2_with fail
  refine (short_two _ _ _ _ _ h1 h2 HS.out).mono ?_
  rintro e w3 ⟨rfl, hb3⟩
  go_wp2_with fail
  go_ret
  exact ⟨by rw [hp.out]; rfl, chain (chain hb1 hb2) hb3⟩
theorem cell_new1 (w : World) (t : TypeId) (v : Value) : ∀ (j : Nat) (u : Value), [v][j]? = some u → (w.alloc (.cells #[v] t)).cell? ((⟨w.heap.size, 0, none⟩ : Addr).add j) = some u := fun j u hu => by
  have hp : (⟨w.heap.size, 0, none⟩ : Addr).add j = ⟨w.heap.size, j, none⟩ := by cases j <;> simp [Addr.add]
  rw [hp, (Blk.new w t [v]).cell]
  exact hu
theorem upto_snoc {α : Type} (f : Nat → ByteArray) (k : Nat) (g : ByteArray → α) : (upto f (k + 1)).map g = (upto f k).map g ++ [g (f k)] := by rw [upto_succ, List.map_append]; rfl
end Go.Proofs.YtfoemkmoambagaaGreat
namespace Go.Proofs.YtfoemkmoambagaaGreat
open Go.RowKit Go.Shelf
def leafI (g : ByteArray) : Int := if h : 0 < g.size then (g[0].toNat : Int) else -1
set_option maxRecDepth 100000 in
theorem leaf_any (g : ByteArray) (w : World) : Calls Tryz.prog 117 #[.string g] w fun e W' => e = .returned (.int .i64 (leafI g)) ∧ w = W' := by
  by_cases h : 0 < g.size
  · have hp : Hid (leafI g = (g[0].toNat : Int)) := Lib.hid (by unfold leafI; rw [dif_pos h])
    have h1 : g.toList.isEmpty = false := by
      rw [ByteArray.toList_eq]
      cases h2 : g.data.toList with
      | nil =>
        have h3 : g.data.toList.length = 0 := by rw [h2]; rfl
        have h4 : g.data.toList.length = g.size := rfl
        omega
      | cons => rfl
    have hx : (g[0].toNat : Int) ≤ 255 := by have := g[0].toNat_lt; omega
    go_enter Tryz.func117, Tryz.ntmps117
    go_wp2
    go_ret
    exact ⟨by rw [hp.out]; rfl, rfl⟩
  · have hp : Hid (leafI g = -1) := Lib.hid (by unfold leafI; rw [dif_neg h])
    obtain rfl : g = ⟨#[]⟩ := by
      apply ByteArray.ext
      apply Array.eq_empty_of_size_eq_zero
      show g.size = 0
      omega
    go_enter Tryz.func117, Tryz.ntmps117
    go_wp2
    go_ret
    exact ⟨by rw [hp.out]; rfl, rfl⟩
def pieceB (g : ByteArray) (k : Nat) : ByteArray := (g.extract (1 + k * 8) g.size).extract 0 8
theorem pieceB_size {g : ByteArray} {k : Nat} (h : 9 + 8 * k ≤ g.size) : (pieceB g k).size = 8 := by
  unfold pieceB
  rw [ByteArray.size_extract, ByteArray.size_extract]
  omega
set_option maxRecDepth 100000 in
set_option maxHeartbeats 2000000 in
theorem cut_any (g : ByteArray) (hg : g.size = 145) (w : World) :
    Calls Tryz.prog 118 #[.string g] w (RowW w.heap.size 9 18 ((upto (pieceB g) 18).map tv) w) := by
  obtain ⟨i0, hi, hz0, hz1, hz2⟩ := info_parts Tryz.infoStr
  have HG := Lib.hid hg
  have hg' : g.size ≤ 145 := by omega
  have hg2 : 145 ≤ g.size := by omega
  clear hg
  go_enter Tryz.func118, Tryz.ntmps118
  go_wp2
  go_loopw [3, 5] (fun v i wr => ∃ k : Nat, k ≤ 18 ∧ i = .int .i64 (k : Nat) ∧ wr.ownsRow w.heap.size 9 1 v k ((upto (pieceB g) k).map tv) ∧ Below w.heap.size w wr) (fun _ i _ => 18 - (intOf i).toNat)
  case atStart => exact ⟨0, by omega, rfl, World.ownsRow_nil _ _ _ _, Below.refl _ _⟩
  case round =>
    obtain ⟨k, hk, rfl, hown, hB⟩ := hrel
    obtain ⟨va, vc, rfl⟩ := ownsRow_slice hown
    have hNW := hB.size
    by_cases hlt : k < 18
    · have HT := Lib.hid (upto_snoc (pieceB g) k tv)
      have hlt' : (k : Int) < 18 := by omega
      have h1 : (1 : Int) + (k : Int) * 8 ≤ (g.size : Int) := by omega
      have h2 : (8 : Int) ≤ (g.size : Int) - (1 + (k : Int) * 8) := by omega
      have HLT := Lib.hid hlt
      clear hlt hk
      generalize (upto (pieceB g) k).map tv = ts at *
      have HP : Hid (pieceB g k = (g.extract (1 + k * 8) g.size).extract 0 8) := Lib.hid rfl
      go_wp2_with (at_builtin; refine wpList_append_own _ rfl _ _ 176 rfl w.heap.size 9 i0 (.string ⟨#[]⟩) 1 16 Tryz.underlying176 hi hz0 hz1 hz2 rfl (by decide) (.slice va k vc) k ts rfl (hown.alloc _) ⟨wr.heap.size, 0, none⟩ 1 1 [tv ((g.extract (1 + k * 8) g.size).extract 0 8)] rfl rfl (cell_new1 _ _ _) (by simp [Value.oneCell']) (by have := HLT.out; unfold maxLen; omega) (by have := HLT.out; omega) (by simp; omega) ?_; intro v' w3 hown' hgrow _; obtain ⟨g2, c2, rfl⟩ := ownsRow_succ hown')
      have hB3 : Below w.heap.size w w3 := (hB.alloc hNW _).grown hgrow (Nat.le_trans hNW (by simp)) (fun j hj => (World.ownsRow.lt hown j hj).1)
      go_roundw
      case rel => exact ⟨k + 1, HLT.out, by simp, by rw [HT.out, HP.out]; exact hown', hB3⟩
      case measure => have := HLT.out; simp [intOf]; omega
    · obtain rfl : k = 18 := by omega
      go_wp2
      go_ret
      exact ⟨_, rfl, hown, hB⟩
theorem and1 {a : Nat} (ha : a ≤ 9223372036854775807) : bits .and .i64 (a : Int) 1 = ((a % 2 : Nat) : Int) := by
  have e := (Go.bits_nat .i64 63 (by decide) (fun n h0 h1 => by rw [IntKind.wrap_i64]; omega) a 1 (by simp; omega) (by simp)).1
  rw [Nat.and_one_is_mod] at e
  rw [← e]
  rfl
theorem odd_of (n k : Nat) (hn : n ≤ 255) : bits .and .i64 ((n : Int) / 2 ^ k) 1 = ((n / 2 ^ k % 2 : Nat) : Int) := by
  have e : (n : Int) / 2 ^ k = ((n / 2 ^ k : Nat) : Int) := by simp
  have h : n / 2 ^ k ≤ n := Nat.div_le_self _ _
  rw [e, and1 (by omega)]
def climbB (n : Nat) (p : List ByteArray) (x : ByteArray) : Nat → ByteArray
  | 0 => x
  | k + 1 => if n / 2 ^ k % 2 = 0 then joinM (climbB n p x k) (p.getD k ⟨#[]⟩) else joinM (p.getD k ⟨#[]⟩) (climbB n p x k)
theorem climbB_size (n : Nat) (p : List ByteArray) (x : ByteArray) (k : Nat) : (climbB n p x k).size ≤ max x.size 8 := by
  cases k with
  | zero => exact Nat.le_max_left _ _
  | succ k => rw [climbB]; split <;> rw [joinM_size] <;> exact Nat.le_max_right _ _
set_option maxRecDepth 100000 in
set_option maxHeartbeats 2000000 in
theorem climb_any (n : Nat) (hn : n ≤ 255) (x : ByteArray) (hx : x.size ≤ 8) (p : List ByteArray) (h3 : p.length = 3) (hp : ∀ y ∈ p, y.size ≤ 8) (sv : Value) (w : World) (hsv : VSl 0 w.heap.size w sv (p.map tv)) :
    Calls Tryz.prog 120 #[.int .i64 (n : Int), .string x, sv] w fun e W' => e = .returned (.string (climbB n p x 3)) ∧ Below w.heap.size w W' := by
  obtain ⟨a, cap, rfl⟩ := hsv.slice
  rw [List.length_map, h3]
  have hcell : ∃ b off, a = some ⟨b, off, none⟩ ∧ b < w.heap.size ∧ ∀ k, k < 3 → w.cell? ⟨b, off + k, none⟩ = some (.string (p.getD k ⟨#[]⟩)) := by
    obtain ⟨a', c', e, hc, h0⟩ := hsv
    cases e
    rcases h0 with h0 | ⟨b, off, ha, _, hb, hr⟩
    · have := congrArg List.length h0
      rw [List.length_map, h3] at this
      simp at this
    · refine ⟨b, off, ha, hb, fun k hk => hr k _ ?_⟩
      rw [List.getElem?_map, List.getD, List.getElem?_eq_getElem (by omega)]
      rfl
  have hsz : ∀ k, k < 3 → (p.getD k ⟨#[]⟩).size ≤ 8 := fun k hk => by
    rw [List.getD, List.getElem?_eq_getElem (show k < p.length by omega)]
    exact hp _ (List.getElem_mem _)
  obtain ⟨b, off, rfl, hbw, hcell⟩ := hcell
  have HC := Lib.hid hcell
  have HZ := Lib.hid hsz
  clear hcell hsz hsv hp h3
  go_enter Tryz.func120, Tryz.ntmps120
  go_wp2
  go_loopw [7, 10] (fun v i wr => ∃ k : Nat, k ≤ 3 ∧ i = .int .i64 (k : Nat) ∧ v = .string (climbB n p x k) ∧ Below w.heap.size w wr) (fun _ i _ => 3 - (intOf i).toNat)
  case atStart => exact ⟨0, by omega, rfl, rfl, Below.refl _ _⟩
  case round =>
    obtain ⟨k, hk, rfl, rfl, hB⟩ := hrel
    by_cases hlt : k < 3
    · have c0 := (hB.cell (p := ⟨b, off + k, none⟩) hbw).trans (HC.out k hlt)
      have hlt' : (k : Int) < 3 := by omega
      have hs1 := climbB_size n p x k
      have hs2 := HZ.out k hlt
      by_cases hbit : n / 2 ^ k % 2 = 0
      · have hb : (bits .and .i64 ((n : Int) / 2 ^ k) 1 == 0) = true := by rw [odd_of n k hn, hbit]; rfl
        have HK : Hid (climbB n p x (k + 1) = joinM (climbB n p x k) (p.getD k ⟨#[]⟩)) := Lib.hid (by rw [climbB, if_pos hbit])
        have HLT := Lib.hid hlt
        clear hbit hk hlt
        generalize p.getD k ⟨#[]⟩ = y at *
        generalize climbB n p x k = z at *
        go_wp2_with fail
        refine (joinM_any z y (by omega) _).mono ?_
        rintro e w2 ⟨rfl, hb2⟩
        go_wp2_with fail
        go_roundw
        case rel => exact ⟨k + 1, HLT.out, by simp, by rw [HK.out], hB.trans (hb2.mono hB.size)⟩
        case measure => have := HLT.out; simp [intOf]; omega
      · have hb : (bits .and .i64 ((n : Int) / 2 ^ k) 1 == 0) = false := by
          rw [odd_of n k hn, show n / 2 ^ k % 2 = 1 by omega]; rfl
        have HK : Hid (climbB n p x (k + 1) = joinM (p.getD k ⟨#[]⟩) (climbB n p x k)) := Lib.hid (by rw [climbB, if_neg hbit])
        have HLT := Lib.hid hlt
        clear hbit hk hlt
        generalize p.getD k ⟨#[]⟩ = y at *
        generalize climbB n p x k = z at *
        go_wp2_with fail
        refine (joinM_any y z (by omega) _).mono ?_
        rintro e w2 ⟨rfl, hb2⟩
        go_wp2_with fail
        go_roundw
        case rel => exact ⟨k + 1, HLT.out, by simp, by rw [HK.out], hB.trans (hb2.mono hB.size)⟩
        case measure => have := HLT.out; simp [intOf]; omega
    · obtain rfl : k = 3 := by omega
      go_wp2
      go_ret
      exact ⟨rfl, hB⟩
end Go.Proofs.YtfoemkmoambagaaGreat
namespace Go.Proofs.YtfoemkmoambagaaGreat
open Go.RowKit Go.Shelf
theorem textRow {lo n : Nat} {W : World} {v : Value} {zs : List ByteArray} (hn : zs.length = n + 1) (h : W.ownsRow lo 9 1 v (n + 1) (zs.map tv)) :
    ∃ g c, v = .slice (some ⟨g, 0, none⟩) (n + 1) c ∧ g < W.heap.size ∧ ∀ k x, zs[k]? = some x → W.cell? ⟨g, k, none⟩ = some (.string x) := by
  have hq := VSl.of_own (vs := zs.map tv) (by rw [List.length_map, hn]; exact h)
  obtain ⟨g, c, rfl⟩ := ownsRow_succ h
  obtain ⟨a', c', e, hc, h0 | ⟨b, off, ha, _, hb, hr⟩⟩ := hq
  · have := congrArg List.length h0
    rw [List.length_map, hn] at this
    simp at this
  · rw [List.length_map, hn] at e
    cases e
    cases ha
    exact ⟨g, c, rfl, hb, fun k x hk => by
      have := hr k (.string x) (by rw [List.getElem?_map, hk]; rfl)
      rwa [Nat.zero_add] at this⟩
end Go.Proofs.YtfoemkmoambagaaGreat
namespace Go.Proofs.YtfoemkmoambagaaGreat
open Go.RowKit Go.Shelf
def leafN (g : ByteArray) : Nat := if h : 0 < g.size then g[0].toNat else 0
theorem leafN_le (g : ByteArray) : leafN g ≤ 255 := by
  unfold leafN
  split
  · have := g[0].toNat_lt
    omega
  · omega
theorem leafI_of {g : ByteArray} (h : 0 < g.size) : leafI g = (leafN g : Int) := by unfold leafI leafN; rw [dif_pos h, dif_pos h]
def cutL (g : ByteArray) : List ByteArray := upto (pieceB g) 18
theorem cutL_length (g : ByteArray) : (cutL g).length = 18 := upto_length _ _
theorem cutL_size {g : ByteArray} (hg : g.size = 145) {x : ByteArray} (h : x ∈ cutL g) : x.size = 8 := by
  unfold cutL upto at h
  obtain ⟨j, hj, rfl⟩ := List.mem_map.1 h
  have := List.mem_range.1 hj
  exact pieceB_size (by omega)
def topB (l : List UInt8) (g : ByteArray) : ByteArray := climbB (leafN g) ((cutL g).drop 15) (openB l ((cutL g).take 15)) 3
theorem openB_size (l : List UInt8) (zs : List ByteArray) : (openB l zs).size ≤ 8 := by
  unfold openB
  split
  · exact Nat.le_of_eq (shortB_size _)
  · exact Nat.zero_le _
theorem partV {W : World} {g : Nat} {zs : List ByteArray} (i m c : Nat) (h : i + m ≤ zs.length) (hc : m ≤ c) (hg : g < W.heap.size) (hx : ∀ k x, zs[k]? = some x → W.cell? ⟨g, k, none⟩ = some (.string x)) :
    VSl 0 W.heap.size W (.slice (some ⟨g, i, none⟩) m c) (((zs.drop i).take m).map tv) := by
  have hl : (((zs.drop i).take m).map tv).length = m := by rw [List.length_map, List.length_take, List.length_drop]; omega
  refine ⟨_, c, by rw [hl], by rw [hl]; exact hc, .inr ⟨g, i, rfl, Nat.zero_le _, hg, fun k x hk => ?_⟩⟩
  rw [List.getElem?_map] at hk
  obtain ⟨y, hy, rfl⟩ := Option.map_eq_some_iff.1 hk
  have hkm : k < m := by
    have := (List.getElem?_eq_some_iff.1 hy).1
    rw [List.length_take] at this
    omega
  rw [List.getElem?_take_of_lt hkm, List.getElem?_drop] at hy
  exact hx _ _ hy
def verN (g : ByteArray) (b : Bool) : Int := if b then (leafN g : Int) else 0
def VerW (n : Int) (b : Bool) (w : World) (e : Ending) (W' : World) : Prop := e = .returned (.tuple #[.int .i64 n, .bool b]) ∧ Below w.heap.size w W'
set_option maxRecDepth 100000 in
set_option maxHeartbeats 2000000 in
theorem verify_long (root : ByteArray) (tx : Value) (g : ByteArray) (hg : g.size ≠ 145) (w : World) :
    Calls Tryz.prog 106 #[.string root, tx, .string g] w (VerW 0 false w) := by
  have h1 : ((g.size : Int) == 145) = false := by simp; omega
  have h2 : ((g.size : Int) != 145) = true := by simp; omega
  go_enter Tryz.func106, Tryz.ntmps106
  go_wp2_with fail
  refine (leaf_any g _).mono ?_
  rintro e w1 ⟨rfl, rfl⟩
  go_wp2_with fail
  go_ret2
  exact ⟨rfl, Below.refl _ _⟩
set_option maxRecDepth 100000 in
set_option maxHeartbeats 2000000 in
theorem verify_leaf (root : ByteArray) (tx : Value) (g : ByteArray) (hg : g.size = 145) (h8 : 8 ≤ leafN g) (w : World) :
    Calls Tryz.prog 106 #[.string root, tx, .string g] w (VerW 0 false w) := by
  have h1 : ((g.size : Int) == 145) = true := by simp; omega
  have h2 : ((g.size : Int) != 145) = false := by simp; omega
  have HL := Lib.hid (leafI_of (g := g) (by omega))
  have h3 : 8 ≤ (leafN g : Int) := by omega
  clear hg h8
  go_enter Tryz.func106, Tryz.ntmps106
  go_wp2_with fail
  refine (leaf_any g _).mono ?_
  rw [HL.out]
  rintro e w1 ⟨rfl, rfl⟩
  go_wp2_with fail
  go_ret2
  exact ⟨rfl, Below.refl _ _⟩
set_option maxRecDepth 100000 in
set_option maxHeartbeats 2000000 in
theorem verify_top (root : ByteArray) (l : List UInt8) (tx : Value) (g : ByteArray) (hg : g.size = 145) (h8 : leafN g < 8) (w : World) (hreach : l.length ≤ 140737488353000) (htx : BSl 0 w.heap.size w tx l) (b : Bool) (hb : b = true ↔ topB l g = root) :
    Calls Tryz.prog 106 #[.string root, tx, .string g] w (VerW (verN g b) b w) := by
  have h1 : ((g.size : Int) == 145) = true := by simp; omega
  have h2 : ((g.size : Int) != 145) = false := by simp; omega
  have HL := Lib.hid (leafI_of (g := g) (by omega))
  have h3 : ¬ 8 ≤ (leafN g : Int) := by omega
  have HG := Lib.hid hg
  have HZ := Lib.hid (fun x (h : x ∈ cutL g) => cutL_size hg h)
  have HLN := Lib.hid (leafN_le g)
  have HT : Hid (topB l g = climbB (leafN g) ((cutL g).drop 15) (openB l ((cutL g).take 15)) 3) := Lib.hid rfl
  have HB := Lib.hid hb
  have htx0 := htx
  obtain ⟨ta, tc, rfl⟩ := bsl_slice htx
  clear hg h8 htx hb
  go_enter Tryz.func106, Tryz.ntmps106
  go_wp2_with fail
  refine (leaf_any g _).mono ?_
  rw [HL.out]
  rintro e w1 ⟨rfl, rfl⟩
  go_wp2_with fail
  refine (cut_any g HG.out _).mono ?_
  rintro e w2 ⟨v2, rfl, hown2, hb2⟩
  obtain ⟨q, c, rfl, hq, hx⟩ := textRow (n := 17) (zs := cutL g) (cutL_length g) hown2
  have hc : 18 ≤ c := by
    obtain ⟨_, h0 | ⟨g', cap', cur', e', _, _, hnc, _⟩⟩ := hown2
    · exact absurd h0.2 (by decide)
    · cases e'; exact hnc
  have HX := Lib.hid hx
  have hc1 : ¬ c < 15 := by omega
  have htx2 := (htx0.below hb2 (Nat.le_refl _)).mono (Nat.le_refl _) hb2.size
  clear hown2 hx htx0
  have hV15 := partV 0 15 c (by rw [cutL_length]; omega) (by omega) hq HX.out
  have h15 : (((cutL g).drop 0).take 15) = (cutL g).take 15 := rfl
  rw [h15] at hV15
  have hV3 := partV 15 3 (c - 15) (by rw [cutL_length]; omega) (by omega) hq HX.out
  have h3' : (((cutL g).drop 15).take 3) = (cutL g).drop 15 := List.take_of_length_le (by rw [List.length_drop, cutL_length]; omega)
  rw [h3'] at hV3
  have hl3 : ((cutL g).drop 15).length = 3 := by rw [List.length_drop, cutL_length]
  have hz15 : ∀ x ∈ (cutL g).take 15, x.size ≤ 9223372036854775807 := fun x hx => by rw [HZ.out x (List.mem_of_mem_take hx)]; omega
  have hz3 : ∀ x ∈ (cutL g).drop 15, x.size ≤ 8 := fun x hx => Nat.le_of_eq (HZ.out x (List.mem_of_mem_drop hx))
  have HZ15 := Lib.hid hz15
  have HZ3 := Lib.hid hz3
  have HL3 := Lib.hid hl3
  have hoz := openB_size l ((cutL g).take 15)
  clear h15 h3' hz15 hz3 hl3
  generalize (cutL g).take 15 = p15 at *
  generalize (cutL g).drop 15 = p3 at *
  go_wp2_with fail
  refine (open_any l _ p15 _ _ hreach HZ15.out htx2 hV15).mono ?_
  rintro e w3 ⟨rfl, hb3⟩
  have hV4 := (hV3.below hb3 (Nat.le_refl _)).mono (Nat.le_refl _) hb3.size
  have hB3 := chain hb2 hb3
  generalize openB l p15 = ob at *
  clear hV3 hV15 htx2 hb2 hb3
  go_wp2_with fail
  refine (climb_any (leafN g) HLN.out ob hoz p3 HL3.out HZ3.out _ _ hV4).mono ?_
  rintro e w4 ⟨rfl, hb4⟩
  rw [← HT.out]
  have hB4 := chain hB3 hb4
  generalize topB l g = top at *
  clear hB3 hb4 hV4
  cases b with
  | true =>
    obtain rfl : top = root := HB.out.1 rfl
    have he : (top.toList == top.toList) = true := by simp
    have hv : Hid (verN g true = (leafN g : Int)) := Lib.hid rfl
    go_wp2_with fail
    go_ret2
    exact ⟨by rw [hv.out]; rfl, hB4⟩
  | false =>
    have he : (top.toList == root.toList) = false := by
      rw [beq_eq_false_iff_ne]
      intro h
      rw [ByteArray.toList_eq, ByteArray.toList_eq] at h
      have h2 : top = root := ByteArray.ext (Array.toList_inj.1 h)
      exact absurd (HB.out.2 h2) (by decide)
    have hv : Hid (verN g false = 0) := Lib.hid rfl
    go_wp2_with fail
    go_ret2
    exact ⟨by rw [hv.out]; rfl, hB4⟩
end Go.Proofs.YtfoemkmoambagaaGreat
namespace Go.Proofs.YtfoemkmoambagaaGreat
open Go.RowKit Go.Shelf
def verB (root : ByteArray) (l : List UInt8) (g : ByteArray) : Bool := decide (g.size = 145 ∧ leafN g < 8 ∧ topB l g = root)
def VerB (b : Bool) (w : World) (e : Ending) (W' : World) : Prop := ∃ n : Int, e = .returned (.tuple #[.int .i64 n, .bool b]) ∧ Below w.heap.size w W'
theorem verifyB_any (root : ByteArray) (l : List UInt8) (tx : Value) (g : ByteArray) (hreach : l.length ≤ 140737488353000) (w : World) (htx : BSl 0 w.heap.size w tx l) :
    Calls Tryz.prog 106 #[.string root, tx, .string g] w (VerB (verB root l g) w) := by
  by_cases hg : g.size = 145
  · by_cases h8 : leafN g < 8
    · by_cases ht : topB l g = root
      · rw [show verB root l g = true from decide_eq_true ⟨hg, h8, ht⟩]
        exact (verify_top root l tx g hg h8 w hreach htx true ⟨fun _ => ht, fun _ => rfl⟩).mono fun e W' h => ⟨_, h.1, h.2⟩
      · rw [show verB root l g = false from decide_eq_false fun h => ht h.2.2]
        exact (verify_top root l tx g hg h8 w hreach htx false ⟨fun h => (by cases h), fun h => absurd h ht⟩).mono fun e W' h => ⟨_, h.1, h.2⟩
    · rw [show verB root l g = false from decide_eq_false fun h => h8 h.2.1]
      exact (verify_leaf root tx g hg (by omega) w).mono fun e W' h => ⟨_, h.1, h.2⟩
  · rw [show verB root l g = false from decide_eq_false fun h => hg h.1]
    exact (verify_long root tx g hg w).mono fun e W' h => ⟨_, h.1, h.2⟩
end Go.Proofs.YtfoemkmoambagaaGreat
namespace Go.Proofs.YtfoemkmoambagaaGreat
open Go.RowKit Go.Shelf
theorem of_one (w : World) : Calls Tryz.prog 53 #[.int .u64 1] w fun e W' => e = .returned (wn 1) ∧ Below w.heap.size w W' := ofN_any 1 (by unfold M; decide) w
theorem one_lt : 1 < M4 := by unfold M4 M; decide
def chgE (s : Es) (t : Tr) : Es × Int :=
  if errT t ≠ 0 then (s, errT t) else if t.no ≠ s.no t.fr.toNat then (s, 20) else if (takeB s.pu t.fr 0 1).2 ≠ 0 then (s, 21) else if ¬ s.bu + 1 < M4 then (s, 21)
  else ({ s with pu := (takeB s.pu t.fr 0 1).1, bu := s.bu + 1, no := updNo s.no t.fr.toNat (s.no t.fr.toNat + 1) }, 0)
set_option maxRecDepth 100000 in
set_option maxHeartbeats 4000000 in
theorem charge_any (s : Es) (v : Value) (hs : OkE s) (t : Tr) {B : Nat} (w : World) (hB : Blk w B 35 (stc s v)) :
    Calls Tryz.prog 38 #[.pointer (some ⟨B, 0, none⟩), txv t] w (EndE w B v (chgE s t)) := by
  have hmx : Tryz.prog.follows .mixedOrders = true := by kernel_rfl
  have hM := (Mem.startB hB).allocN rfl 44 (txc t)
  have HA := Lib.hid (fun W => bookTake_any s.pu hs.p t.fr 0 1 one_lt W)
  have HB := Lib.hid (fun W => addN_any hs.b one_lt W)
  clear hB
  go_enter Tryz.func38, Tryz.ntmps38
  go_upto_region 1 with fail
  refine wp_region_fromM (fun W => Mem w (some B) [(w.heap.size, 44, txc t), (B, 35, stc s v)] W) hM ?_
  clear hM
  rintro Y1 hM
  refine tF 1 [.load 0 (some 8) 44 (pt w.heap.size 0) (txv t)] ⟨ld_tx (hM.at 0 rfl), trivial⟩ ?_
  refine cF (some 9) 10 #[txv t] ((txsCheck_any t _).mono ?_)
  rintro e W1 ⟨rfl, hb⟩
  replace hM := hM.below hb
  clear hb
  refine tF 3 [.val 2 (some 4) (.int .i64 (errT t))] trivial ?_
  refine dF ?_
  try simp only [puts, Tk.put, Act.put, List.setIfInBounds_toArray, List.set_cons_zero, List.set_cons_succ]
  go_upto_region 2 with fail
  refine wp_region_fromM (fun W => Mem w (some B) [(w.heap.size, 44, txc t), (B, 35, stc s v)] W) hM ?_
  clear hM
  rintro Y2 hM
  refine tF 3 [.val 0 (some 10) (.int .i64 (errT t)), .val 1 (some 11) (.bool (errT t == 0)), .val 2 (some 12) (.int .i64 (errT t))] trivial ?_
  refine cF (some 13) 57 #[.bool (errT t == 0), .int .i64 (errT t)] ((demand_any _ _ _).mono ?_)
  rintro e W1 (⟨h, rfl, rfl⟩ | ⟨h, rfl, rfl⟩)
  case inr => exact And.intro rfl (EndE.pan hM.g (ne_of_beq_false h) (by unfold chgE; rw [if_pos (ne_of_beq_false h)]) rfl (BlkN.of (hM.at 1 rfl)))
  have h0 := Lib.hid (eq_of_beq h)
  clear h
  obtain ⟨_, hfr, hno, _⟩ := errT_all h0.out
  have hfr := Lib.hid hfr
  have hno := Lib.hid hno
  refine dF ?_
  try simp only [puts, Tk.put, Act.put, List.setIfInBounds_toArray, List.set_cons_zero, List.set_cons_succ]
  go_upto_region 3 with fail
  refine wp_region_M (fun W => Mem w (some B) [(w.heap.size, 44, txc t), (B, 35, stc s v)] W) (fun W => Mem w (some B) [(w.heap.size, 44, txc t), (B, 35, stc s v)] W) hmx hM.drew ?_
  clear hM
  rintro Y3 hM
  have hS := hM.sub (.cons_cons _ (.cons_cons _ .slnil))
  refine tD 1 [.val 0 (some 14) (pt w.heap.size 1), .load 1 (some 15) 3 (pt w.heap.size 1) (.int .i64 t.no), .val 2 (some 16) (pt B 0), .val 3 (some 17) (pt w.heap.size 0), .load 4 (some 18) 3 (pt w.heap.size 0) (.int .i64 t.fr), .val 5 (some 19) (pt B 0), .val 6 (some 20) (pt B 130), .idx 7 (some 21) 32 (pt B 130) (.int .i64 t.fr) (pt B (130 + t.fr.toNat)), .load 8 (some 22) 3 (pt B (130 + t.fr.toNat)) (.int .i64 (s.no (t.fr.toNat))), .val 9 (some 23) (.bool (t.no == s.no t.fr.toNat))] ⟨fun W h => ld_int (h.at 0 rfl) 1 rfl, fun W h => ld_int (h.at 0 rfl) 0 rfl, fun W h => idx_noI hfr.out, fun W h => ld_no (s := s) (h.at 1 rfl) (by omega), trivial⟩ hS ?_
  refine oD 10 0 (cD (some 24) 57 #[.bool (t.no == s.no t.fr.toNat), .int .i64 20] ((demand_any _ _ _).mono ?_))
  rintro e W1 (⟨h, rfl, rfl⟩ | ⟨h, rfl, rfl⟩)
  case inr => exact And.intro rfl (EndE.pan hM.g (by decide) (by unfold chgE; rw [if_neg (not_not_intro h0.out), if_pos (ne_of_beq_false h)]) rfl (BlkN.of (hM.at 1 rfl)))
  refine And.intro hS ?_
  have h1 := Lib.hid (eq_of_beq h)
  clear h
  refine dD ?_
  try simp only [puts, Tk.put, Act.put, List.setIfInBounds_toArray, List.set_cons_zero, List.set_cons_succ]
  clear hS
  go_upto_region 4 with fail
  go_cut [5, 4] (fun p f wc => ∃ N, p = .pointer (some ⟨N, 0, none⟩) ∧ f = .int .i64 (takeB s.pu t.fr 0 1).2 ∧ Mem w (some B) [(N, 31, bkc ((takeB s.pu t.fr 0 1).1)), (w.heap.size, 44, txc t), (B, 35, stc s v)] wc)
  case first =>
    refine wp_region_M (fun W => Mem w (some B) [(w.heap.size, 44, txc t), (B, 35, stc s v)] W) (fun W => Mem w (some B) [(w.heap.size, 44, txc t), (B, 35, stc s v)] W) hmx hM.drew ?_
    clear hM
    rintro Y4 hM
    have hS := hM.sub (.cons_cons _ (.cons_cons _ .slnil))
    refine tD 8 [.val 0 (some 26) (pt B 0), .val 1 (some 27) (pt B 0), .val 2 (some 28) (pt B 2), .load 3 (some 29) 31 (pt B 2) (bkv s.pu), .val 4 (some 30) (pt w.heap.size 0), .load 5 (some 31) 3 (pt w.heap.size 0) (.int .i64 t.fr)] ⟨fun W h => ld_pu (s := s) (h.at 1 rfl), fun W h => ld_int (h.at 0 rfl) 0 rfl, trivial⟩ hS ?_
    refine oT 6 11 7 ?_ ?_
    · refine cD (some 32) 53 #[.int .u64 1] ((of_one _).mono ?_)
      rintro e Y5 ⟨rfl, hb⟩
      refine And.intro (hS.below hb) ?_
      replace hS := hS.below hb
      replace hM := hM.below hb
      clear hb
      refine oT 7 11 6 ?_ ?_
      · refine cD (some 33) 58 #[bkv s.pu, .int .i64 t.fr, .int .i64 0, wn 1] ((HA.out _).mono ?_)
        rintro e Y6 ⟨rfl, hb⟩
        refine And.intro (hS.below hb) ?_
        replace hS := hS.below hb
        replace hM := hM.below hb
        clear hb
        refine tD 3 [.val 8 (some 25) (.tuple #[bkv ((takeB s.pu t.fr 0 1).1), .int .i64 (takeB s.pu t.fr 0 1).2]), .val 9 (some 34) (bkv ((takeB s.pu t.fr 0 1).1)), .val 10 (some 35) (.int .i64 (takeB s.pu t.fr 0 1).2)] trivial hS ?_
        refine oD 11 2 (rD (some 5) (pt Y6.heap.size 0) (Y6.alloc (.cells (bkc noK).toArray 31)) (hS.other _) ?_)
        replace hS := hS.other (.cells (bkc noK).toArray 31)
        replace hM := hM.alloc 31 (bkc noK)
        generalize World.alloc _ _ = Y7 at *
        generalize Y6.heap.size = N at *
        have hM1 := hM.set 0 (cs' := bkc ((takeB s.pu t.fr 0 1).1)) rfl rfl
        refine oD 12 1 (sD 31 (pt N 0) (bkv ((takeB s.pu t.fr 0 1).1)) (sto_bk (hM.at 0 rfl) _) (hM1.sub (.cons _ (.cons_cons _ (.cons_cons _ .slnil)))) ?_)
        replace hS := hM1.sub (.cons _ (.cons_cons _ (.cons_cons _ .slnil)))
        replace hM := hM1
        clear hM1
        generalize World.setRow _ _ _ = Y8 at *
        refine tD 0 [.val 13 (some 4) (.int .i64 (takeB s.pu t.fr 0 1).2)] trivial hS ?_
        refine dD ?_
        try simp only [puts, Tk.put, Act.put, List.setIfInBounds_toArray, List.set_cons_zero, List.set_cons_succ]
        clear hS
        go_wp2_with fail
        go_meet
        exact ⟨_, rfl, rfl, hM⟩
      · refine rD (some 5) (pt Y5.heap.size 0) (Y5.alloc (.cells (bkc noK).toArray 31)) (hS.other _) ?_
        replace hS := hS.other (.cells (bkc noK).toArray 31)
        replace hM := hM.alloc 31 (bkc noK)
        generalize World.alloc _ _ = Y9 at *
        generalize Y5.heap.size = N at *
        refine oD 7 5 (cD (some 33) 58 #[bkv s.pu, .int .i64 t.fr, .int .i64 0, wn 1] ((HA.out _).mono ?_))
        rintro e Y10 ⟨rfl, hb⟩
        refine And.intro (hS.below hb) ?_
        replace hS := hS.below hb
        replace hM := hM.below hb
        clear hb
        refine tD 2 [.val 8 (some 25) (.tuple #[bkv ((takeB s.pu t.fr 0 1).1), .int .i64 (takeB s.pu t.fr 0 1).2]), .val 9 (some 34) (bkv ((takeB s.pu t.fr 0 1).1)), .val 10 (some 35) (.int .i64 (takeB s.pu t.fr 0 1).2)] trivial hS ?_
        have hM1 := hM.set 0 (cs' := bkc ((takeB s.pu t.fr 0 1).1)) rfl rfl
        refine oD 12 1 (sD 31 (pt N 0) (bkv ((takeB s.pu t.fr 0 1).1)) (sto_bk (hM.at 0 rfl) _) (hM1.sub (.cons _ (.cons_cons _ (.cons_cons _ .slnil)))) ?_)
        replace hS := hM1.sub (.cons _ (.cons_cons _ (.cons_cons _ .slnil)))
        replace hM := hM1
        clear hM1
        generalize World.setRow _ _ _ = Y11 at *
        refine tD 0 [.val 13 (some 4) (.int .i64 (takeB s.pu t.fr 0 1).2)] trivial hS ?_
        refine dD ?_
        try simp only [puts, Tk.put, Act.put, List.setIfInBounds_toArray, List.set_cons_zero, List.set_cons_succ]
        clear hS
        go_wp2_with fail
        go_meet
        exact ⟨_, rfl, rfl, hM⟩
    · refine rD (some 5) (pt Y4.heap.size 0) (Y4.alloc (.cells (bkc noK).toArray 31)) (hS.other _) ?_
      replace hS := hS.other (.cells (bkc noK).toArray 31)
      replace hM := hM.alloc 31 (bkc noK)
      generalize World.alloc _ _ = Y12 at *
      generalize Y4.heap.size = N at *
      refine oD 6 6 (cD (some 32) 53 #[.int .u64 1] ((of_one _).mono ?_))
      rintro e Y13 ⟨rfl, hb⟩
      refine And.intro (hS.below hb) ?_
      replace hS := hS.below hb
      replace hM := hM.below hb
      clear hb
      refine oD 7 5 (cD (some 33) 58 #[bkv s.pu, .int .i64 t.fr, .int .i64 0, wn 1] ((HA.out _).mono ?_))
      rintro e Y14 ⟨rfl, hb⟩
      refine And.intro (hS.below hb) ?_
      replace hS := hS.below hb
      replace hM := hM.below hb
      clear hb
      refine tD 2 [.val 8 (some 25) (.tuple #[bkv ((takeB s.pu t.fr 0 1).1), .int .i64 (takeB s.pu t.fr 0 1).2]), .val 9 (some 34) (bkv ((takeB s.pu t.fr 0 1).1)), .val 10 (some 35) (.int .i64 (takeB s.pu t.fr 0 1).2)] trivial hS ?_
      have hM1 := hM.set 0 (cs' := bkc ((takeB s.pu t.fr 0 1).1)) rfl rfl
      refine oD 12 1 (sD 31 (pt N 0) (bkv ((takeB s.pu t.fr 0 1).1)) (sto_bk (hM.at 0 rfl) _) (hM1.sub (.cons _ (.cons_cons _ (.cons_cons _ .slnil)))) ?_)
      replace hS := hM1.sub (.cons _ (.cons_cons _ (.cons_cons _ .slnil)))
      replace hM := hM1
      clear hM1
      generalize World.setRow _ _ _ = Y15 at *
      refine tD 0 [.val 13 (some 4) (.int .i64 (takeB s.pu t.fr 0 1).2)] trivial hS ?_
      refine dD ?_
      try simp only [puts, Tk.put, Act.put, List.setIfInBounds_toArray, List.set_cons_zero, List.set_cons_succ]
      clear hS
      go_wp2_with fail
      go_meet
      exact ⟨_, rfl, rfl, hM⟩
  case rest =>
    obtain ⟨N, rfl, rfl, hM⟩ := hcut
    go_upto_region 5 with fail
    refine wp_region_fromM (fun W => Mem w (some B) [(N, 31, bkc ((takeB s.pu t.fr 0 1).1)), (w.heap.size, 44, txc t), (B, 35, stc s v)] W) hM ?_
    clear hM
    rintro Y16 hM
    refine tF 2 [.val 0 (some 36) (.int .i64 (takeB s.pu t.fr 0 1).2), .val 1 (some 37) (.bool ((takeB s.pu t.fr 0 1).2 == 0))] trivial ?_
    refine cF (some 38) 57 #[.bool ((takeB s.pu t.fr 0 1).2 == 0), .int .i64 21] ((demand_any _ _ _).mono ?_)
    rintro e W1 (⟨h, rfl, rfl⟩ | ⟨h, rfl, rfl⟩)
    case inr => exact And.intro rfl (EndE.pan hM.g (by decide) (by unfold chgE; rw [if_neg (not_not_intro h0.out), if_neg (not_not_intro h1.out), if_pos (ne_of_beq_false h)]) rfl (BlkN.of (hM.at 2 rfl)))
    have h2 := Lib.hid (eq_of_beq h)
    clear h
    refine dF ?_
    try simp only [puts, Tk.put, Act.put, List.setIfInBounds_toArray, List.set_cons_zero, List.set_cons_succ]
    generalize hN1 : N = N1 at *
    clear hN1
    go_upto_region 6 with fail
    go_cut [6, 7] (fun p f wc => ∃ N, p = .pointer (some ⟨N, 0, none⟩) ∧ f = .bool (fitB s.bu 1) ∧ Mem w (some B) [(N, 28, ws (nw (addN s.bu 1))), (N1, 31, bkc ((takeB s.pu t.fr 0 1).1)), (w.heap.size, 44, txc t), (B, 35, stc s v)] wc)
    case first =>
      refine wp_region_M (fun W => Mem w (some B) [(N1, 31, bkc ((takeB s.pu t.fr 0 1).1)), (w.heap.size, 44, txc t), (B, 35, stc s v)] W) (fun W => Mem w (some B) [(N1, 31, bkc ((takeB s.pu t.fr 0 1).1)), (w.heap.size, 44, txc t), (B, 35, stc s v)] W) hmx hM.drew ?_
      clear hM
      rintro Y17 hM
      have hS := hM.sub (.cons_cons _ (.cons_cons _ (.cons_cons _ .slnil)))
      refine tD 8 [.val 0 (some 40) (pt B 0), .val 1 (some 41) (pt B 0), .val 2 (some 42) (pt B 146), .load 3 (some 43) 28 (pt B 146) (wn s.bu)] ⟨fun W h => ld_bu (s := s) (h.at 2 rfl), trivial⟩ hS ?_
      refine oT 4 9 7 ?_ ?_
      · refine cD (some 44) 53 #[.int .u64 1] ((of_one _).mono ?_)
        rintro e Y18 ⟨rfl, hb⟩
        refine And.intro (hS.below hb) ?_
        replace hS := hS.below hb
        replace hM := hM.below hb
        clear hb
        refine oT 5 9 6 ?_ ?_
        · refine cD (some 45) 59 #[wn s.bu, wn 1] ((HB.out _).mono ?_)
          rintro e Y19 ⟨rfl, hb⟩
          refine And.intro (hS.below hb) ?_
          replace hS := hS.below hb
          replace hM := hM.below hb
          clear hb
          refine tD 3 [.val 6 (some 39) (.tuple #[wn (addN s.bu 1), .bool (fitB s.bu 1)]), .val 7 (some 46) (wn (addN s.bu 1)), .val 8 (some 47) (.bool (fitB s.bu 1))] trivial hS ?_
          refine oD 9 2 (rD (some 6) (pt Y19.heap.size 0) (Y19.alloc (.cells (ws (nw 0)).toArray 28)) (hS.other _) ?_)
          replace hS := hS.other (.cells (ws (nw 0)).toArray 28)
          replace hM := hM.alloc 28 (ws (nw 0))
          generalize World.alloc _ _ = Y20 at *
          generalize Y19.heap.size = N at *
          have hM1 := hM.set 0 (cs' := ws (nw (addN s.bu 1))) rfl rfl
          refine oD 10 1 (sD 28 (pt N 0) (wn (addN s.bu 1)) (sto_wn (hM.at 0 rfl) _) (hM1.sub (.cons _ (.cons_cons _ (.cons_cons _ (.cons_cons _ .slnil))))) ?_)
          replace hS := hM1.sub (.cons _ (.cons_cons _ (.cons_cons _ (.cons_cons _ .slnil))))
          replace hM := hM1
          clear hM1
          generalize World.setRow _ _ _ = Y21 at *
          refine tD 0 [.val 11 (some 7) (.bool (fitB s.bu 1))] trivial hS ?_
          refine dD ?_
          try simp only [puts, Tk.put, Act.put, List.setIfInBounds_toArray, List.set_cons_zero, List.set_cons_succ]
          clear hS
          go_wp2_with fail
          go_meet
          exact ⟨_, rfl, rfl, hM⟩
        · refine rD (some 6) (pt Y18.heap.size 0) (Y18.alloc (.cells (ws (nw 0)).toArray 28)) (hS.other _) ?_
          replace hS := hS.other (.cells (ws (nw 0)).toArray 28)
          replace hM := hM.alloc 28 (ws (nw 0))
          generalize World.alloc _ _ = Y22 at *
          generalize Y18.heap.size = N at *
          refine oD 5 5 (cD (some 45) 59 #[wn s.bu, wn 1] ((HB.out _).mono ?_))
          rintro e Y23 ⟨rfl, hb⟩
          refine And.intro (hS.below hb) ?_
          replace hS := hS.below hb
          replace hM := hM.below hb
          clear hb
          refine tD 2 [.val 6 (some 39) (.tuple #[wn (addN s.bu 1), .bool (fitB s.bu 1)]), .val 7 (some 46) (wn (addN s.bu 1)), .val 8 (some 47) (.bool (fitB s.bu 1))] trivial hS ?_
          have hM1 := hM.set 0 (cs' := ws (nw (addN s.bu 1))) rfl rfl
          refine oD 10 1 (sD 28 (pt N 0) (wn (addN s.bu 1)) (sto_wn (hM.at 0 rfl) _) (hM1.sub (.cons _ (.cons_cons _ (.cons_cons _ (.cons_cons _ .slnil))))) ?_)
          replace hS := hM1.sub (.cons _ (.cons_cons _ (.cons_cons _ (.cons_cons _ .slnil))))
          replace hM := hM1
          clear hM1
          generalize World.setRow _ _ _ = Y24 at *
          refine tD 0 [.val 11 (some 7) (.bool (fitB s.bu 1))] trivial hS ?_
          refine dD ?_
          try simp only [puts, Tk.put, Act.put, List.setIfInBounds_toArray, List.set_cons_zero, List.set_cons_succ]
          clear hS
          go_wp2_with fail
          go_meet
          exact ⟨_, rfl, rfl, hM⟩
      · refine rD (some 6) (pt Y17.heap.size 0) (Y17.alloc (.cells (ws (nw 0)).toArray 28)) (hS.other _) ?_
        replace hS := hS.other (.cells (ws (nw 0)).toArray 28)
        replace hM := hM.alloc 28 (ws (nw 0))
        generalize World.alloc _ _ = Y25 at *
        generalize Y17.heap.size = N at *
        refine oD 4 6 (cD (some 44) 53 #[.int .u64 1] ((of_one _).mono ?_))
        rintro e Y26 ⟨rfl, hb⟩
        refine And.intro (hS.below hb) ?_
        replace hS := hS.below hb
        replace hM := hM.below hb
        clear hb
        refine oD 5 5 (cD (some 45) 59 #[wn s.bu, wn 1] ((HB.out _).mono ?_))
        rintro e Y27 ⟨rfl, hb⟩
        refine And.intro (hS.below hb) ?_
        replace hS := hS.below hb
        replace hM := hM.below hb
        clear hb
        refine tD 2 [.val 6 (some 39) (.tuple #[wn (addN s.bu 1), .bool (fitB s.bu 1)]), .val 7 (some 46) (wn (addN s.bu 1)), .val 8 (some 47) (.bool (fitB s.bu 1))] trivial hS ?_
        have hM1 := hM.set 0 (cs' := ws (nw (addN s.bu 1))) rfl rfl
        refine oD 10 1 (sD 28 (pt N 0) (wn (addN s.bu 1)) (sto_wn (hM.at 0 rfl) _) (hM1.sub (.cons _ (.cons_cons _ (.cons_cons _ (.cons_cons _ .slnil))))) ?_)
        replace hS := hM1.sub (.cons _ (.cons_cons _ (.cons_cons _ (.cons_cons _ .slnil))))
        replace hM := hM1
        clear hM1
        generalize World.setRow _ _ _ = Y28 at *
        refine tD 0 [.val 11 (some 7) (.bool (fitB s.bu 1))] trivial hS ?_
        refine dD ?_
        try simp only [puts, Tk.put, Act.put, List.setIfInBounds_toArray, List.set_cons_zero, List.set_cons_succ]
        clear hS
        go_wp2_with fail
        go_meet
        exact ⟨_, rfl, rfl, hM⟩
    case rest =>
      obtain ⟨N, rfl, rfl, hM⟩ := hcut
      go_upto_region 7 with fail
      refine wp_region_fromM (fun W => Mem w (some B) [(N, 28, ws (nw (addN s.bu 1))), (N1, 31, bkc ((takeB s.pu t.fr 0 1).1)), (w.heap.size, 44, txc t), (B, 35, stc s v)] W) hM ?_
      clear hM
      rintro Y29 hM
      refine tF 1 [.val 0 (some 48) (.bool (fitB s.bu 1))] trivial ?_
      refine cF (some 49) 57 #[.bool (fitB s.bu 1), .int .i64 21] ((demand_any _ _ _).mono ?_)
      rintro e W1 (⟨h, rfl, rfl⟩ | ⟨h, rfl, rfl⟩)
      case inr => exact And.intro rfl (EndE.pan hM.g (by decide) (by unfold chgE; rw [if_neg (not_not_intro h0.out), if_neg (not_not_intro h1.out), if_neg (not_not_intro h2.out), if_pos (of_decide_eq_false h)]) rfl (BlkN.of (hM.at 3 rfl)))
      have h := of_decide_eq_true h
      rw [show addN s.bu 1 = s.bu + 1 from if_pos h] at hM
      have h3 := Lib.hid (not_not_intro h)
      clear h
      refine dF ?_
      try simp only [puts, Tk.put, Act.put, List.setIfInBounds_toArray, List.set_cons_zero, List.set_cons_succ]
      go_upto_region 8 with fail
      refine wp_region_M (fun W => Mem w (some B) [(N, 28, ws (nw (s.bu + 1))), (N1, 31, bkc ((takeB s.pu t.fr 0 1).1)), (w.heap.size, 44, txc t)] W) (fun W => Mem w (some B) [(N, 28, ws (nw (s.bu + 1))), (N1, 31, bkc ((takeB s.pu t.fr 0 1).1)), (w.heap.size, 44, txc t), (B, 35, stc s v)] W) hmx hM.drew ?_
      clear hM
      rintro Y30 hM
      have hS := hM.sub (.cons_cons _ (.cons_cons _ (.cons_cons _ (.cons _ .slnil))))
      refine tD 4 [.val 0 (some 50) (pt B 0), .val 1 (some 51) (pt B 0), .load 2 (some 52) 31 (pt N1 0) (bkv ((takeB s.pu t.fr 0 1).1)), .load 3 (some 53) 28 (pt N 0) (wn (s.bu + 1)), .val 4 (some 54) (pt B 0), .val 5 (some 55) (pt B 2)] ⟨fun W h => load_book (h.at 1 rfl), fun W h => load_wn (h.at 0 rfl), trivial⟩ hS ?_
      have hM1 := hM.set 3 (cs' := stc { s with pu := (takeB s.pu t.fr 0 1).1 } v) rfl rfl
      refine oD 6 3 (sD 31 (pt B 2) (bkv ((takeB s.pu t.fr 0 1).1)) (sto_pu (hM.at 3 rfl) _) (hM1.sub (.cons_cons _ (.cons_cons _ (.cons_cons _ (.cons _ .slnil))))) ?_)
      replace hS := hM1.sub (.cons_cons _ (.cons_cons _ (.cons_cons _ (.cons _ .slnil))))
      replace hM := hM1
      clear hM1
      generalize World.setRow _ _ _ = Y31 at *
      refine tD 1 [.val 7 (some 56) (pt B 0), .val 8 (some 57) (pt B 146)] trivial hS ?_
      have hM1 := hM.set 3 (cs' := stc { s with pu := (takeB s.pu t.fr 0 1).1, bu := s.bu + 1 } v) rfl rfl
      refine oD 9 0 (sD 28 (pt B 146) (wn (s.bu + 1)) (sto_bu (hM.at 3 rfl) _) (hM1.sub (.cons_cons _ (.cons_cons _ (.cons_cons _ (.cons _ .slnil))))) ?_)
      replace hS := hM1.sub (.cons_cons _ (.cons_cons _ (.cons_cons _ (.cons _ .slnil))))
      replace hM := hM1
      clear hM1
      generalize World.setRow _ _ _ = Y32 at *
      refine dD ?_
      try simp only [puts, Tk.put, Act.put, List.setIfInBounds_toArray, List.set_cons_zero, List.set_cons_succ]
      clear hS
      go_upto_region 9 with fail
      refine wp_region_M (fun W => Mem w (some B) [(N, 28, ws (nw (s.bu + 1))), (N1, 31, bkc ((takeB s.pu t.fr 0 1).1)), (w.heap.size, 44, txc t)] W) (fun W => Mem w (some B) [(N, 28, ws (nw (s.bu + 1))), (N1, 31, bkc ((takeB s.pu t.fr 0 1).1)), (w.heap.size, 44, txc t), (B, 35, stc { s with pu := (takeB s.pu t.fr 0 1).1, bu := s.bu + 1 } v)] W) hmx hM.drew ?_
      clear hM
      rintro Y33 hM
      have hS := hM.sub (.cons_cons _ (.cons_cons _ (.cons_cons _ (.cons _ .slnil))))
      refine tD 4 [.val 0 (some 58) (pt B 0), .val 1 (some 59) (pt w.heap.size 0), .load 2 (some 60) 3 (pt w.heap.size 0) (.int .i64 t.fr), .val 3 (some 61) (pt B 0), .val 4 (some 62) (pt B 130), .idx 5 (some 63) 32 (pt B 130) (.int .i64 t.fr) (pt B (130 + t.fr.toNat)), .val 8 (some 66) (pt B 0), .val 9 (some 67) (pt B 130)] ⟨fun W h => ld_int (h.at 2 rfl) 0 rfl, fun W h => idx_noI hfr.out, trivial⟩ hS ?_
      refine oD 6 3 (lD (some 64) 3 (pt B (130 + t.fr.toNat)) (.int .i64 (s.no (t.fr.toNat))) (ld_no (s := { s with pu := (takeB s.pu t.fr 0 1).1, bu := s.bu + 1 }) (hM.at 3 rfl) (by have := hfr.out; omega)) (hS) ?_)
      refine tD 1 [.alt 7 (some 65) (.int .i64 (IntKind.i64.wrap (s.no t.fr.toNat + 1))) (.int .i64 (s.no t.fr.toNat + 1)), .idx 10 (some 68) 32 (pt B 130) (.int .i64 t.fr) (pt B (130 + t.fr.toNat))] ⟨congrArg (Value.int .i64) (IntWalk.i64_in _ (by have := hno.out; have := h1.out; omega)), fun W h => idx_noI hfr.out, trivial⟩ hS ?_
      have hM1 := hM.set 3 (cs' := stc { s with pu := (takeB s.pu t.fr 0 1).1, bu := s.bu + 1, no := updNo s.no t.fr.toNat (s.no t.fr.toNat + 1) } v) rfl rfl
      refine oD 11 0 (sD 3 (pt B (130 + t.fr.toNat)) (.int .i64 (s.no t.fr.toNat + 1)) (sto_no (s := { s with pu := (takeB s.pu t.fr 0 1).1, bu := s.bu + 1 }) (hM.at 3 rfl) (by have := hfr.out; omega) _) (hM1.sub (.cons_cons _ (.cons_cons _ (.cons_cons _ (.cons _ .slnil))))) ?_)
      replace hS := hM1.sub (.cons_cons _ (.cons_cons _ (.cons_cons _ (.cons _ .slnil))))
      replace hM := hM1
      clear hM1
      generalize World.setRow _ _ _ = Y34 at *
      refine dD ?_
      try simp only [puts, Tk.put, Act.put, List.setIfInBounds_toArray, List.set_cons_zero, List.set_cons_succ]
      clear hS
      go_wp2_with fail
      go_end0
      exact EndE.ok hM.g (by unfold chgE; rw [if_neg (not_not_intro h0.out), if_neg (not_not_intro h1.out), if_neg (not_not_intro h2.out), if_neg h3.out]) (hM.at 3 rfl)
theorem receives_any (s : Es) (v : Value) {B : Nat} (w : World) (hB : Blk w B 35 (stc s v)) :
    Calls Tryz.prog 85 #[.pointer (some ⟨B, 0, none⟩)] w fun e W' => e = .returned (.bool (decide (s.sd > 0))) ∧ W' = w := by
  have hM := Mem.startB hB
  go_enter Tryz.func85, Tryz.ntmps85
  go_upto_region 1 with fail
  refine wp_region_from ?_
  refine tF 6 [.val 0 (some 3) (pt B 0), .val 1 (some 4) (pt B 0), .val 2 (some 5) (pt B 0), .load 3 (some 6) 3 (pt B 0) (.int .i64 s.sd), .val 4 (some 7) (.bool (decide (s.sd > 0))), .val 5 (some 2) (.bool (decide (s.sd > 0)))] ⟨ld_int (hM.at 0 rfl) 0 rfl, trivial⟩ ?_
  refine dF ?_
  try simp only [puts, Tk.put, Act.put, List.setIfInBounds_toArray, List.set_cons_zero, List.set_cons_succ]
  go_wp2_with fail
  go_ret
  exact ⟨rfl, rfl⟩
theorem pay_le (act : Int) (key : ByteArray) (a0 a1 a2 a3 : Nat) : (payL act key a0 a1 a2 a3).length ≤ 140737488353000 := by
  by_cases h : (1 ≤ act ∧ act ≤ 2) ∧ key.size = 32
  · rw [pay_len h.1 h.2]; decide
  · rw [payL_no h]; decide
def signB (t : Tr) (a : Int) : Bool := verB t.iv.rt (payL a (keyB t.iv) t.f0 t.f1 t.f2 t.f3) t.sg
set_option maxRecDepth 100000 in
set_option maxHeartbeats 4000000 in
theorem signed_any (t : Tr) (ht : OkT t) (a : Int) (w : World) :
    Calls Tryz.prog 88 #[txv t, .int .i64 a] w fun e W' => e = .returned (.bool (signB t a)) ∧ Below w.heap.size w W' := by
  have hmx : Tryz.prog.follows .mixedOrders = true := by kernel_rfl
  have hM := (Mem.start w).allocN rfl 44 (txc t)
  go_enter Tryz.func88, Tryz.ntmps88
  go_upto_region 1 with fail
  refine wp_region_M (fun W => Mem w none [(w.heap.size, 44, txc t)] W) (fun W => Mem w none [(w.heap.size, 44, txc t)] W) hmx hM.drew ?_
  clear hM
  rintro Y1 hM
  have hS := hM.sub (.cons_cons _ .slnil)
  refine tD 8 [.val 0 (some 8) (pt w.heap.size 8), .val 1 (some 9) (pt w.heap.size 9), .load 2 (some 10) 9 (pt w.heap.size 9) (.string t.iv.rt), .val 3 (some 11) (.int .i64 a), .val 4 (some 12) (pt w.heap.size 8), .load 5 (some 13) 40 (pt w.heap.size 8) (ivv t.iv), .val 7 (some 15) (pt w.heap.size 20), .load 8 (some 16) 28 (pt w.heap.size 20) (wv t.f0 t.f1 t.f2 t.f3), .val 10 (some 18) (pt w.heap.size 24), .load 11 (some 19) 9 (pt w.heap.size 24) (.string t.sg)] ⟨fun W h => ld_str (h.at 0 rfl) 9 rfl, fun W h => ld_iv (h.at 0 rfl), fun W h => load_part (h.at 0 rfl) 20 [.int .u64 (t.f0 : Nat), .int .u64 (t.f1 : Nat), .int .u64 (t.f2 : Nat), .int .u64 (t.f3 : Nat)] rfl _ _ Tryz.underlying28 rfl (by kernel_rfl), fun W h => ld_str (h.at 0 rfl) 24 rfl, trivial⟩ hS ?_
  refine oD 6 7 (cD (some 14) 24 #[ivv t.iv] ((key_any _ _).mono ?_))
  rintro e W1 ⟨rfl, hb⟩
  refine And.intro (hS.below hb) ?_
  replace hS := hS.below hb
  replace hM := hM.below hb
  clear hb
  refine oD 9 6 (cD (some 17) 107 #[.int .i64 a, .string (keyB t.iv), wv t.f0 t.f1 t.f2 t.f3] ((payload_any _ _ ht.f _).mono ?_))
  rintro e W2 ⟨pv, rfl, hsl, hb⟩
  refine And.intro (hS.below hb) ?_
  replace hS := hS.below hb
  replace hM := hM.below hb
  clear hb
  refine oD 12 5 (cD (some 20) 106 #[.string t.iv.rt, pv, .string t.sg] ((verifyB_any _ _ _ _ (pay_le _ _ _ _ _ _) _ hsl).mono ?_))
  rintro e W3 ⟨n, rfl, hb⟩
  refine And.intro (hS.below hb) ?_
  replace hS := hS.below hb
  replace hM := hM.below hb
  clear hb
  refine tD 0 [.val 13 (some 7) (.tuple #[.int .i64 n, .bool (verB t.iv.rt (payL a (keyB t.iv) t.f0 t.f1 t.f2 t.f3) t.sg)]), .val 14 (some 21) (.int .i64 n), .val 15 (some 22) (.bool (verB t.iv.rt (payL a (keyB t.iv) t.f0 t.f1 t.f2 t.f3) t.sg)), .val 16 (some 5) (.int .i64 n), .val 17 (some 6) (.bool (verB t.iv.rt (payL a (keyB t.iv) t.f0 t.f1 t.f2 t.f3) t.sg))] trivial hS ?_
  refine dD ?_
  try simp only [puts, Tk.put, Act.put, List.setIfInBounds_toArray, List.set_cons_zero, List.set_cons_succ]
  clear hS
  go_wp2_with fail
  go_ret
  exact ⟨rfl, hM.b⟩
end Go.Proofs.YtfoemkmoambagaaGreat
namespace Go.Proofs.YtfoemkmoambagaaGreat
open Go.RowKit Go.Shelf
theorem findAt_any (x : Lk) (k : ByteArray) (K : Nat) (w : World) (hK : Blk w K 9 [.string k]) :
    Calls Tryz.prog 104 #[lkv x, .pointer (some ⟨K, 0, none⟩)] w fun e W' => e = .returned (.bool (decide (x.ke = k))) ∧ Below w.heap.size w W' := by
  have hM := (Mem.start w).allocN rfl 91 (lkc x)
  replace hK := hK.alloc (.cells (lkc x).toArray 91)
  go_enter Tryz.func104, Tryz.ntmps104
  go_upto_region 1 with fail
  refine wp_region_fromM (fun W => Mem w none [(w.heap.size, 91, lkc x)] W ∧ Blk W K 9 [.string k]) ⟨hM, hK⟩ ?_
  clear hM hK
  rintro Y1 ⟨hM, hK⟩
  refine tF 5 [.val 0 (some 4) (pt w.heap.size 0), .load 1 (some 5) 9 (pt w.heap.size 0) (.string x.ke), .load 2 (some 6) 9 (pt K 0) (.string k), .alt 3 (some 7) (.bool (x.ke.toList == k.toList)) (.bool (decide (x.ke = k))), .val 4 (some 3) (.bool (decide (x.ke = k)))] ⟨ld_str (hM.at 0 rfl) 0 rfl, ld_str hK 0 rfl, congrArg Value.bool (beqB _ _), trivial⟩ ?_
  refine dF ?_
  try simp only [puts, Tk.put, Act.put, List.setIfInBounds_toArray, List.set_cons_zero, List.set_cons_succ]
  go_wp2_with fail
  go_ret
  exact ⟨rfl, hM.b⟩
def placeI (l : List Lk) (k : ByteArray) : Int := match placeE l k with | none => -1 | some i => i
theorem placeI_some {l : List Lk} {k : ByteArray} {i : Nat} (h : placeE l k = some i) : placeI l k = i := by unfold placeI; rw [h]
theorem placeI_none {l : List Lk} {k : ByteArray} (h : placeE l k = none) : placeI l k = -1 := by unfold placeI; rw [h]
set_option maxRecDepth 100000 in
set_option maxHeartbeats 4000000 in
theorem lkIndex_any (l : List Lk) (v : Value) (k : ByteArray) (K : Nat) (w : World) {lo : Nat} (hl : RSl lkc lo w.heap.size w v l) (hK : Blk w K 9 [.string k]) :
    Calls Tryz.prog 103 #[v, .func (.func 104) #[] #[.pointer (some ⟨K, 0, none⟩)]] w fun e W' => e = .returned (.int .i64 (placeI l k)) ∧ Below w.heap.size w W' := by
  have HE := Lib.hid (fun k x (hx : l[k]? = some x) => hl.elem lkc_len hx Tryz.underlying33 (fun W => by kernel_rfl))
  have hmax := hl.len
  obtain ⟨a, c, rfl⟩ := hl.slice
  have HL := Lib.hid hl
  have HK := Lib.hid hK
  clear hl hK
  unfold maxLen at hmax
  go_enter Tryz.func103, Tryz.ntmps103
  go_wp2
  go_loopw [5, 8] (fun _ i wr => ∃ j : Nat, j ≤ l.length ∧ i = .int .i64 (j : Nat) ∧ (∀ (n : Nat) (y : Lk), n < j → l[n]? = some y → y.ke ≠ k) ∧ Below w.heap.size w wr) (fun _ i _ => l.length - (intOf i).toNat)
  case atStart => exact ⟨0, Nat.zero_le _, rfl, fun n y h => absurd h (Nat.not_lt_zero n), Below.refl _ _⟩
  case round =>
    obtain ⟨j, hj, rfl, hno, hb⟩ := hrel
    have HN := Lib.hid hno
    have HB := Lib.hid hb
    clear hno hb
    by_cases hlt : j < l.length
    · obtain ⟨x, hx⟩ : ∃ x, l[j]? = some x := ⟨_, List.getElem?_eq_getElem hlt⟩
      obtain ⟨b, o, _, hbh, hi, hc⟩ := HE.out j x hx
      have HX := Lib.hid hx
      have hlw := Lib.hid (HL.out.below HB.out (Nat.le_refl _))
      have HI := Lib.hid (hi wr)
      have HD : Hid ((Instr.loadAt 91 (.pointer (some ⟨b, o, none⟩))).run Tryz.prog wr = .ok (lkv x) wr) := Lib.hid (ld_cells (lkc x) _ _ Tryz.underlying91 rfl (by kernel_rfl) (hc wr hlw.out))
      have HC := Lib.hid (findAt_any x k K wr (HK.out.below HB.out HK.out.lt))
      clear hx hi hc hbh hlw
      have hlt' : (j : Int) < (l.length : Int) := by omega
      go_upto_region 4 with fail
      refine wp_region_from ?_
      refine tF 5 [.val 0 (some 11) (.func (.func 104) #[] #[.pointer (some ⟨K, 0, none⟩)]), .val 1 (some 12) (.slice a l.length c), .val 2 (some 13) (.int .i64 (j : Int)), .idx 3 (some 14) 33 (.slice a l.length c) (.int .i64 (j : Int)) (pt b o), .load 4 (some 15) 91 (pt b o) (lkv x)] ⟨HI.out, HD.out, trivial⟩ ?_
      refine cF (some 16) 104 #[lkv x, .pointer (some ⟨K, 0, none⟩)] ((HC.out).mono ?_)
      rintro e W1 ⟨rfl, hb⟩
      refine dF ?_
      try simp only [puts, Tk.put, Act.put, List.setIfInBounds_toArray, List.set_cons_zero, List.set_cons_succ]
      have HB1 := Lib.hid (chain HB.out hb)
      clear hb
      by_cases hk : x.ke = k
      · have hd := decide_eq_true hk
        have HK1 := Lib.hid hk
        clear hk
        rw [hd]
        go_wp2_with fail
        go_ret
        refine ⟨?_, HB1.out⟩
        rw [placeI_some (place_at HX.out HK1.out HN.out)]
        rfl
      · have hd := decide_eq_false hk
        have HK1 := Lib.hid hk
        clear hk
        rw [hd]
        go_wp2_with fail
        go_roundw
        case rel =>
          refine ⟨j + 1, by omega, by go_num, fun n y hn hy => ?_, HB1.out⟩
          rcases Nat.lt_succ_iff_lt_or_eq.1 hn with h | rfl
          · exact HN.out n y h hy
          · obtain rfl : x = y := by have := HX.out; rw [hy] at this; exact (Option.some.inj this).symm
            exact HK1.out
        case measure => simp [intOf]; omega
    · obtain rfl : j = l.length := by omega
      go_wp2
      go_ret
      refine ⟨?_, HB.out⟩
      rw [placeI_none (place_not fun n y hy => HN.out n y (List.getElem?_eq_some_iff.1 hy).1 hy)]
      rfl
theorem find_any (s : Es) (v : Value) (k : ByteArray) {B lo : Nat} (w : World) (hB : Blk w B 35 (stc s v)) (hl : RSl lkc lo w.heap.size w v s.lk) :
    Calls Tryz.prog 84 #[.pointer (some ⟨B, 0, none⟩), .string k] w fun e W' => e = .returned (.int .i64 (placeI s.lk k)) ∧ Below w.heap.size w W' := by
  have hb0 := chain0 w (.cells #[.string k] 9)
  have hK : Blk (w.alloc (.cells #[.string k] 9)) w.heap.size 9 [.string k] := Blk.new w _ _
  replace hB := hB.alloc (.cells #[.string k] 9)
  have hl1 := (hl.below hb0 (Nat.le_refl _)).wide hb0.size
  clear hl
  go_enter Tryz.func84, Tryz.ntmps84
  go_upto_region 1 with fail
  refine wp_region_fromM (fun W => Below w.heap.size w W ∧ Blk W w.heap.size 9 [.string k] ∧ Blk W B 35 (stc s v) ∧ RSl lkc lo W.heap.size W v s.lk) ⟨hb0, hK, hB, hl1⟩ ?_
  clear hb0 hK hB hl1
  rintro Y ⟨hb0, hK, hB, hl1⟩
  refine tF 5 [.val 0 (some 5) (pt B 0), .val 1 (some 6) (pt B 0), .val 2 (some 7) (pt B 150), .load 3 (some 8) 33 (pt B 150) (v), .val 4 (some 9) (.func (.func 104) #[] #[.pointer (some ⟨w.heap.size, 0, none⟩)])] ⟨ld_lk hB, trivial⟩ ?_
  refine cF (some 10) 103 #[v, .func (.func 104) #[] #[.pointer (some ⟨w.heap.size, 0, none⟩)]] ((lkIndex_any s.lk v k _ Y hl1 hK).mono ?_)
  rintro e W1 ⟨rfl, hb⟩
  refine tF 7 [.val 6 (some 4) (.int .i64 (placeI s.lk k))] trivial ?_
  refine dF ?_
  try simp only [puts, Tk.put, Act.put, List.setIfInBounds_toArray, List.set_cons_zero, List.set_cons_succ]
  go_wp2_with fail
  go_ret
  exact ⟨rfl, chain hb0 hb⟩
def OpenR (w : World) (p : Nat × Int) (e : Ending) (W' : World) : Prop := Below w.heap.size w W' ∧ ((p.2 = 0 ∧ e = .returned (.int .i64 (p.1 : Int))) ∨ (p.2 ≠ 0 ∧ Pan p.2 e))
def orcB : Orc := ⟨keyB, digB, signB⟩
theorem openE_none {s : Es} {t : Tr} (h : placeE s.lk (keyB t.iv) = none) : openE orcB s t = (0, 32) := by unfold openE; rw [show orcB.ke t.iv = keyB t.iv from rfl, h]
theorem openE_st {s : Es} {t : Tr} {i : Nat} {x : Lk} (h : placeE s.lk (keyB t.iv) = some i) (hx : s.lk[i]? = some x) (k : x.st ≠ 1) : openE orcB s t = (0, 32) := by unfold openE; rw [show orcB.ke t.iv = keyB t.iv from rfl, h]; dsimp only; rw [hx]; dsimp only; rw [if_pos k]
theorem openE_dg {s : Es} {t : Tr} {i : Nat} {x : Lk} (h : placeE s.lk (keyB t.iv) = some i) (hx : s.lk[i]? = some x) (k : x.st = 1) (d : x.dg ≠ digB t.iv t.vr) : openE orcB s t = (0, 33) := by unfold openE; rw [show orcB.ke t.iv = keyB t.iv from rfl, h]; dsimp only; rw [hx]; dsimp only; rw [if_neg (not_not_intro k)]; exact if_pos d
theorem openE_ok {s : Es} {t : Tr} {i : Nat} {x : Lk} (h : placeE s.lk (keyB t.iv) = some i) (hx : s.lk[i]? = some x) (k : x.st = 1) (d : x.dg = digB t.iv t.vr) : openE orcB s t = (i, 0) := by unfold openE; rw [show orcB.ke t.iv = keyB t.iv from rfl, h]; dsimp only; rw [hx]; dsimp only; rw [if_neg (not_not_intro k)]; exact if_neg (not_not_intro d)
theorem OpenR.pan {w W : World} {p : Nat × Int} {e : Ending} {c : Int} {n : Nat} (hb : Below w.heap.size w W) (hp : p = (n, c)) (hc : c ≠ 0) (he : Pan c e) : OpenR w p e W := by subst hp; exact ⟨hb, .inr ⟨hc, he⟩⟩
theorem OpenR.two {w W : World} {p : Nat × Int} {e : Ending} (h : OpenR w p e W) : (p.2 = 0 ∧ e = .returned (.int .i64 (p.1 : Int)) ∧ Below w.heap.size w W) ∨ (p.2 ≠ 0 ∧ e = .panicked [{ v := .iface 103 (.int .i64 p.2), recovered := false }] ∧ Below w.heap.size w W) := by
  rcases h.2 with ⟨h0, he⟩ | ⟨h0, he⟩
  · exact .inl ⟨h0, he, h.1⟩
  · exact .inr ⟨h0, he, h.1⟩
set_option maxRecDepth 100000 in
set_option maxHeartbeats 4000000 in
theorem esc_open_any (s : Es) (v : Value) (t : Tr) (ht : OkT t) {B lo : Nat} (w : World) (hB : Blk w B 35 (stc s v)) (hl : RSl lkc lo w.heap.size w v s.lk) :
    Calls Tryz.prog 87 #[.pointer (some ⟨B, 0, none⟩), txv t] w (OpenR w (openE orcB s t)) := by
  have hmx : Tryz.prog.follows .mixedOrders = true := by kernel_rfl
  have hM := (Mem.start w).allocN rfl 44 (txc t)
  have HB := Lib.hid hB
  have HL := Lib.hid hl
  clear hB hl
  go_enter Tryz.func87, Tryz.ntmps87
  go_upto_region 1 with fail
  refine wp_region_fromM (fun W => Mem w none [(w.heap.size, 44, txc t)] W) hM ?_
  clear hM
  rintro Y1 hM
  refine tF 3 [.val 0 (some 6) (pt B 0), .val 1 (some 7) (pt w.heap.size 8), .load 2 (some 8) 40 (pt w.heap.size 8) (ivv t.iv)] ⟨ld_iv (hM.at 0 rfl), trivial⟩ ?_
  refine cF (some 9) 24 #[ivv t.iv] ((key_any _ _).mono ?_)
  rintro e W1 ⟨rfl, hb⟩
  replace hM := hM.below hb
  clear hb
  refine cF (some 10) 84 #[pt B 0, .string (keyB t.iv)] ((find_any s v (keyB t.iv) _ (HB.out.below hM.b HB.out.lt) ((HL.out.below hM.b (Nat.le_refl _)).wide hM.b.size)).mono ?_)
  rintro e W1 ⟨rfl, hb⟩
  replace hM := hM.below hb
  clear hb
  refine tF 6 [.val 5 (some 5) (.int .i64 (placeI s.lk (keyB t.iv)))] trivial ?_
  refine dF ?_
  try simp only [puts, Tk.put, Act.put, List.setIfInBounds_toArray, List.set_cons_zero, List.set_cons_succ]
  go_upto_region 2 with fail
  refine wp_region_fromM (fun W => Mem w none [(w.heap.size, 44, txc t)] W) hM ?_
  clear hM
  rintro Y2 hM
  refine tF 2 [.val 0 (some 11) (.int .i64 (placeI s.lk (keyB t.iv))), .val 1 (some 12) (.bool (decide (placeI s.lk (keyB t.iv) ≥ 0)))] trivial ?_
  refine cF (some 13) 57 #[.bool (decide (placeI s.lk (keyB t.iv) ≥ 0)), .int .i64 32] ((demand_any _ _ _).mono ?_)
  rintro e W1 (⟨h, rfl, rfl⟩ | ⟨h, rfl, rfl⟩)
  case inr =>
    have h := of_decide_eq_false h
    have hn : placeE s.lk (keyB t.iv) = none := by
      cases hp : placeE s.lk (keyB t.iv) with
      | none => rfl
      | some i => rw [placeI_some hp] at h; omega
    exact And.intro rfl (OpenR.pan hM.b (openE_none hn) (by decide) rfl)
  have h := of_decide_eq_true h
  obtain ⟨i, hp⟩ : ∃ i, placeE s.lk (keyB t.iv) = some i := by
    cases hp : placeE s.lk (keyB t.iv) with
    | none => rw [placeI_none hp] at h; omega
    | some i => exact ⟨i, rfl⟩
  obtain ⟨_, ⟨x, hx, _⟩, _⟩ := place_some hp
  rw [placeI_some hp] at *
  clear h
  have HP := Lib.hid hp
  have HX := Lib.hid hx
  obtain ⟨b, o, _, _, hi, hc⟩ := HL.out.elem lkc_len hx Tryz.underlying33 (fun W => by kernel_rfl)
  have HI := Lib.hid hi
  have HC := Lib.hid hc
  clear hp hx hi hc
  refine dF ?_
  try simp only [puts, Tk.put, Act.put, List.setIfInBounds_toArray, List.set_cons_zero, List.set_cons_succ]
  go_upto_region 3 with fail
  refine wp_region_fromM (fun W => Mem w none [(w.heap.size, 44, txc t)] W) hM ?_
  clear hM
  rintro Y3 hM
  refine tF 9 [.val 0 (some 14) (pt B 0), .val 1 (some 15) (pt B 0), .val 2 (some 16) (pt B 150), .load 3 (some 17) 33 (pt B 150) (v), .val 4 (some 18) (.int .i64 (i : Int)), .idx 5 (some 19) 33 (v) (.int .i64 (i : Int)) (pt b o), .val 6 (some 20) (pt b (o + 2)), .load 7 (some 21) 3 (pt b (o + 2)) (.int .i64 x.st), .val 8 (some 22) (.bool (x.st == 1))] ⟨ld_lk (HB.out.below hM.b HB.out.lt), HI.out _, ld_cell _ _ Tryz.underlying3 rfl (HC.out _ (HL.out.below hM.b (Nat.le_refl _)) 2 _ rfl), trivial⟩ ?_
  refine cF (some 23) 57 #[.bool (x.st == 1), .int .i64 32] ((demand_any _ _ _).mono ?_)
  rintro e W1 (⟨h, rfl, rfl⟩ | ⟨h, rfl, rfl⟩)
  case inr => exact And.intro rfl (OpenR.pan hM.b (openE_st HP.out HX.out (ne_of_beq_false h)) (by decide) rfl)
  have H1 := Lib.hid (eq_of_beq h)
  clear h
  refine dF ?_
  try simp only [puts, Tk.put, Act.put, List.setIfInBounds_toArray, List.set_cons_zero, List.set_cons_succ]
  go_upto_region 4 with fail
  refine wp_region_M (fun W => Mem w none [(w.heap.size, 44, txc t)] W) (fun W => Mem w none [(w.heap.size, 44, txc t)] W) hmx hM.drew ?_
  clear hM
  rintro Y4 hM
  have hS := hM.sub (.cons_cons _ .slnil)
  refine tD 3 [.val 0 (some 24) (pt B 0), .val 1 (some 25) (pt B 0), .val 2 (some 26) (pt B 150), .load 3 (some 27) 33 (pt B 150) (v), .val 4 (some 28) (.int .i64 (i : Int)), .idx 5 (some 29) 33 (v) (.int .i64 (i : Int)) (pt b o), .val 6 (some 30) (pt b (o + 1)), .load 7 (some 31) 9 (pt b (o + 1)) (.string x.dg), .val 8 (some 32) (pt w.heap.size 8), .load 9 (some 33) 40 (pt w.heap.size 8) (ivv t.iv), .val 10 (some 34) (pt w.heap.size 15), .load 11 (some 35) 42 (pt w.heap.size 15) (svv t.vr)] ⟨fun W h => ld_lk (HB.out.below h.b HB.out.lt), fun W h => HI.out _, fun W h => ld_cell _ _ Tryz.underlying9 rfl (HC.out _ (HL.out.below h.b (Nat.le_refl _)) 1 _ rfl), fun W h => ld_iv (h.at 0 rfl), fun W h => ld_vr (h.at 0 rfl), trivial⟩ hS ?_
  refine oD 12 2 (cD (some 36) 86 #[ivv t.iv, svv t.vr] ((digest_any _ _ ht.v _).mono ?_))
  rintro e W1 ⟨rfl, hb⟩
  refine And.intro (hS.below hb) ?_
  replace hS := hS.below hb
  replace hM := hM.below hb
  clear hb
  refine tD 1 [.alt 13 (some 37) (.bool (x.dg.toList == (digB t.iv t.vr).toList)) (.bool (decide (x.dg = digB t.iv t.vr)))] ⟨congrArg Value.bool (beqB _ _), trivial⟩ hS ?_
  refine oD 14 0 (cD (some 38) 57 #[.bool (decide (x.dg = digB t.iv t.vr)), .int .i64 33] ((demand_any _ _ _).mono ?_))
  rintro e W1 (⟨h, rfl, rfl⟩ | ⟨h, rfl, rfl⟩)
  case inr => exact And.intro rfl (OpenR.pan hM.b (openE_dg HP.out HX.out H1.out (of_decide_eq_false h)) (by decide) rfl)
  refine And.intro hS ?_
  have H2 := Lib.hid (of_decide_eq_true h)
  clear h
  refine dD ?_
  try simp only [puts, Tk.put, Act.put, List.setIfInBounds_toArray, List.set_cons_zero, List.set_cons_succ]
  clear hS
  go_upto_region 5 with fail
  refine wp_region_fromM (fun W => Mem w none [(w.heap.size, 44, txc t)] W) hM ?_
  clear hM
  rintro Y5 hM
  refine tF 2 [.val 0 (some 39) (.int .i64 (i : Int)), .val 1 (some 4) (.int .i64 (i : Int))] trivial ?_
  refine dF ?_
  try simp only [puts, Tk.put, Act.put, List.setIfInBounds_toArray, List.set_cons_zero, List.set_cons_succ]
  go_wp2_with fail
  go_ret
  rw [openE_ok HP.out HX.out H1.out H2.out]
  exact ⟨hM.b, .inl ⟨rfl, rfl⟩⟩
end Go.Proofs.YtfoemkmoambagaaGreat
