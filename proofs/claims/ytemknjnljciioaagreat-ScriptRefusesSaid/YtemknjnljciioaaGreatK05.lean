/-
  blob.Cat: all, one behind the other; Arrays of words: as cells, as values; read and stored whole; slices.Values over octets: each; blob.Int: the number of the first seven octets at most; Words of 32 bits: rotations to the right; What a round makes of eight words; The reference's Over and Sum; slices.AppendSeq of strings onto a row of the call's own; Pieces of a text; ots.chain: a text's chain, lin
-/
import Derived.Laws.OwnMore
import Derived.WalkSpells
import Derived.Lib.ConvBytes
import Derived.Laws.AppendOwn
import Derived.Laws.CopyOwn
import Derived.Laws.Rows
import Derived.Laws.Tables
import Derived.StillTail
import Derived.StillTactics
import Derived.WalkKit
import Derived.Laws.BitsLemmas
import Derived.Lib.Hide
import Derived.Test.YtemknjnljciioaaGreatProg
import Derived.IntWalk
import Derived.Outline
import Derived.Deep.QuietTactic
import Derived.BigQuiet
import Derived.Great.BuildSlice
import Derived.StillTailTactics
import Derived.RegionTactic
import Derived.Lib.AppendZeros
import Derived.OwnWalkIn
import Derived.Maps.Range
import Derived.Deep.Cut
import Derived.OrdersIn
import Derived.CallsIn
import Derived.TacticsInMore
import Derived.Deep.AppendLies
import Derived.OneCell
import Derived.LoopTactic
import Derived.Test.YtemknjnljciioaaGreatK04
namespace Go.Proofs.YtemknjnljciioaaGreat
open Go.RowKit Go.Shelf
attribute [local go_sem] Oper.semAt_some
theorem flat_prefix {o n : Nat} {w : World} (zs : List (SX o n w)) (k : Nat) : (flat (zs.take k)).length ≤ (flat zs).length := by
  have h : flat zs = flat (zs.take k) ++ flat (zs.drop k) := by
    unfold flat
    rw [← List.flatten_append, ← List.map_append, List.take_append_drop]
  rw [h, List.length_append]
  omega
theorem flat_take {o n : Nat} {w : World} (zs : List (SX o n w)) {k : Nat} {x : SX o n w} (hx : zs[k]? = some x) : flat (zs.take (k + 1)) = flat (zs.take k) ++ x.1.2 := by
  rw [List.take_add_one, hx]
  exact flat_snoc _ _
def CatI {o n : Nat} {w₁ : World} (N : Nat) (w : World) (zs : List (SX o n w₁)) (k : Nat) (W : World) : Prop :=
  (∃ v, Boxed W N 22 v ∧ W.ownsRow N 5 1 v (flat (zs.take k)).length ((flat (zs.take k)).map bv) ∧ True) ∧ Below N w W
theorem catI_own {o n : Nat} {w₁ : World} {N : Nat} {w : World} {B : Nat} (zs : List (SX o n w₁)) (h : N ≤ w.heap.size) (hB : N ≤ B) : OwnFrom B (CatI (o := o) (n := n) (w₁ := w₁) N w zs) :=
  OwnFrom.and (Own.from (holdsRow_own N N 22 5 1 (fun k : Nat => (flat (zs.take k)).length) (fun k => (flat (zs.take k)).map bv) (fun _ _ => True)) _) (ownFrom_below h hB)
set_option maxRecDepth 100000 in
set_option maxHeartbeats 4000000 in
theorem cat_in (m : Nat) (hm : 3 ≤ m) {o : Nat} (sv : Value) (w : World) (zs : List (SX o w.heap.size w)) (hreach : zs.length ≤ 140737488351232) (ho : (flat zs).length ≤ 140737488355328) (hsv : SSl w.heap.size w sv zs) :
    CallsIn Fence.wide m Tryz.prog 19 #[sv] w (ByW (flat zs) w) := by
  have h1 : 1 ≤ m := by omega
  have hsv0 := hsv
  obtain ⟨a, cap, rfl, hcs⟩ := hsv
  clear hcs
  refine callsIn_of_wp_marks Tryz.func19 rfl trivial ?_ rfl
  simp only [Tryz.ntmps19, List.size_toArray, List.length_cons, List.length_nil, Nat.reduceAdd, Nat.reduceSub, Array.replicate_succ, Array.replicate_zero, List.push_toArray, List.append_toArray, List.nil_append, List.cons_append]
  obtain ⟨i0, hi, hz0, hz1, hz2⟩ := info_parts Tryz.infoByte
  gi_wp2_with (refine ⟨trivial, ?_⟩; gi_at_call 46; refine (valuesS_in Fence.wide (m - 1) trivial rfl _ _ _ _).mono ?_; rintro e w' ⟨rfl, rfl⟩)
  generalize hW5 : World.alloc _ _ = W5
  have k0 : Boxed W5 w.heap.size 22 (.slice none 0 0) := by rw [← hW5]; exact (Boxed.new _ _ _).alloc _
  have k2 : Boxed W5 (w.heap.size + 1) 94 (.slice a zs.length cap) := by rw [← hW5]; exact Blk.new' (vs := [_]) (by simp)
  have hB0 : Below w.heap.size w W5 := by rw [← hW5]; exact chainA (chain0 _ _) _
  have hz : W5.heap.size = w.heap.size + 2 := by rw [← hW5]; simp
  clear hW5
  refine wpIn_rangeFunc_relA rfl h1 (gf := 86) (lb := #[.pointer (some ⟨w.heap.size + 1, 0, none⟩)]) rfl trivial (enters_of Tryz.func86 (by kernel_rfl) rfl)
    (valuesS_rel (m - 1) (by omega) (w.heap.size + 1) w.heap.size _ zs hreach W5 (by omega) k2 (hsv0.below hB0 (Nat.le_refl _))) (fun h k => h.trans k) (fun X o o' h2 h3 h4 => belowK_b (w := w) (Nat.le_refl _) _ _ o o' (by omega) h2 h3 h4) (fun X => Below.refl _ X) (Below.refl _ _) (fun _ => rfl)
    (CatI w.heap.size w zs) (catI_own zs (Nat.le_refl _) (by omega))
    ⟨⟨_, k0, World.ownsRow_nil _ _ _ _, trivial⟩, hB0⟩ (fun _ _ _ _ _ _ h _ _ => h) ?_ ?_ ?_ ?_
  rotate_left
  · intro l k x W K _ hK
    gi_wp2
    exact hK
  · rintro r k x W hlt ⟨⟨v, kv, hown, _⟩, hB⟩ hx
    have ko := kv.cell
    have kf := kv.frozen
    have hNW : w.heap.size ≤ W.heap.size := hB.size
    have hxs := x.2.1.below hB (Nat.le_refl _)
    have hfs := flat_take zs hx
    have hle := flat_prefix zs (k + 1)
    rw [hfs, List.length_append] at hle
    have HF := Lib.hid hfs
    clear hfs hx
    obtain ⟨⟨sx, l⟩, _⟩ := x
    dsimp only at hxs hle HF
    generalize zs.take k = pre at *
    gi_wp2_with (gi_at_builtin; refine wpListIn_append_b _ rfl _ _ 22 rfl w.heap.size 5 i0 (.int .u8 0) Tryz.underlying22 hi hz0 hz1 hz2 rfl v (flat pre).length ((flat pre).map bv) rfl hown sx l rfl hxs (by omega) hNW ?_; intro v' w1 hown' hgrow; obtain ⟨a', c', rfl⟩ := ownsRow_slice hown'; have kv1 := kv.kept hgrow (kv.not_row (by decide) hown); have ko1 := kv1.cell; have kf1 := kv1.frozen)
    have kv3 := kv1.set (.slice a' ((flat pre).length + l.length) c')
    have hrow3 := hown'.kept (grownBy_setCell' w1 w.heap.size (.slice a' ((flat pre).length + l.length) c')) (.inr (kv1.not_row (by decide) hown').symm)
    have hsp : Spares 5 W w1 := (Spares.of_below (Below.refl _ W)).grown hgrow (fun r e => .inr (ownsRow_block hown r e))
    have hbw := ((Below.refl w.heap.size W).grown hgrow hNW (fun j hj => (World.ownsRow.lt hown j hj).1)).setCell (p := ⟨w.heap.size, 0, none⟩) (Nat.le_refl _) (.slice a' ((flat pre).length + l.length) c')
    refine ⟨(hsp.others.trans (KeepsOthers.setCell _ _ _)).from _, hbw, ⟨_, kv3, ?_, trivial⟩, hB.trans hbw⟩
    rw [HF.out, List.map_append, List.length_append]
    exact hrow3
  · rintro D W hD ⟨⟨v, kv, hown, _⟩, hB⟩ hK
    rw [List.take_length] at hown
    have ko := kv.cell
    have HZ := Lib.hid hz
    clear hz
    gi_wp2
    have hB' := hB.trans (belowK_b (w := w) (Nat.le_refl _) _ D _ (.deferred none) (by have := HZ.out; omega) hK rfl rfl)
    have hown3 := ownsRow_putObj hown (.deferred none) hK rfl
    refine ⟨by simp, .inl ⟨_, _, rfl, run_takeDeferred hK, ?_⟩⟩
    refine ⟨v, ?_, ?_⟩
    · simp [results, Tryz.f19, go_sem]
    · exact ⟨v, rfl, BSl.of_own hown3, hB'⟩
theorem cat_any {o : Nat} (sv : Value) (w : World) (zs : List (SX o w.heap.size w)) (hreach : zs.length ≤ 140737488351232) (ho : (flat zs).length ≤ 140737488355328) (hsv : SSl w.heap.size w sv zs) :
    Calls Tryz.prog 19 #[sv] w (ByW (flat zs) w) := callsIn_wide.1 (cat_in 3 (by omega) sv w zs hreach ho hsv)
end Go.Proofs.YtemknjnljciioaaGreat
namespace Go.Proofs.YtemknjnljciioaaGreat
open Go.RowKit
def us (f : Nat → Int) (n : Nat) : List Value := upto (fun k => Value.int .u32 (f k)) n
end Go.Proofs.YtemknjnljciioaaGreat
namespace Go.Proofs.YtemknjnljciioaaGreat
open Go.RowKit Go.Shelf
attribute [local go_sem] Oper.semAt_some
set_option maxRecDepth 100000 in
set_option maxHeartbeats 4000000 in
theorem valuesB1_in (F : Fence) (n : Nat) (h7 : F.fn 141) (hro : F.round = none) (hn : 1 ≤ n) (l Bs n₀ b off cap : Nat) (zs : List UInt8) (hreach : zs.length ≤ 140737488351232) (hb : b < n₀) (J Jx : List UInt8 → World → Prop)
    (W : World)
    (hY : ∀ pre x W, J pre W → pre.length < zs.length → YieldAt F (n - 1) Tryz.prog l #[bv x] W fun e W' =>
      (e = .returned (.bool true) ∧ J (pre ++ [x]) W' ∧ Below n₀ W W') ∨ (e = .returned (.bool false) ∧ Jx (pre ++ [x]) W'))
    (hBs : W.cell? ⟨Bs, 0, none⟩ = some (.slice (some ⟨b, off, none⟩) zs.length cap)) (hc : Octs W b off zs) (h0 : J [] W) :
    CallsIn F n Tryz.prog 141 #[.func (.yield l) #[] #[], .pointer (some ⟨Bs, 0, none⟩)] W fun e W' => (∃ v, e = .returned v) ∧
      ((∃ ys, ys = zs ∧ J ys W') ∨ (∃ pre, True ∧ Jx pre W')) := by
  refine callsIn_of_wp Tryz.func141 rfl h7 ?_ hro
  simp only [Tryz.ntmps141, List.size_toArray, List.length_cons, List.length_nil, Nat.reduceAdd, Nat.reduceSub, Array.replicate_succ, Array.replicate_zero, List.push_toArray, List.append_toArray, List.nil_append, List.cons_append]
  gi_wp2
  gi_loopw [7] (fun i wr => ∃ k : Nat, k ≤ zs.length ∧ i = .int .i64 k ∧ J (zs.take k) wr ∧ Below n₀ W wr) (fun i _ => zs.length - (intOf i).toNat)
  case atStart => exact ⟨0, Nat.zero_le _, rfl, h0, Below.refl _ _⟩
  case round =>
    obtain ⟨k, hk, rfl, hJs, hnx⟩ := hrel
    by_cases hlt : k < zs.length
    · obtain ⟨x, hx⟩ : ∃ x, zs[k]? = some x := ⟨_, List.getElem?_eq_getElem hlt⟩
      have c0 := (hc.below hnx hb) k x hx
      have hk0 : (k : Int) < (zs.length : Int) := by omega
      obtain ⟨fn, tmps, assign, body, hy, hR⟩ := hY (zs.take k) x wr hJs (by simp; omega)
      have ht : zs.take (k + 1) = zs.take k ++ [x] := by rw [List.take_add_one, hx]; rfl
      rw [← ht] at hR
      clear ht
      have HX := Lib.hid hx
      clear hx
      generalize hL : zs.length = len at *
      have HL := Lib.hid hL
      clear hL
      gi_wp2
      refine hR.mono ?_
      rintro e W3 (⟨rfl, hJ3, hk3⟩ | ⟨rfl, hJx3⟩)
      · gi_wp2
        go_roundw
        case rel => exact ⟨k + 1, by omega, by simp, hJ3, hnx.trans hk3⟩
        case measure => simp [intOf]; omega
      · gi_wp2
        refine bodyPost_ret (results_none rfl _ _ _) rfl ?_
        exact ⟨⟨_, rfl⟩, .inr ⟨_, trivial, hJx3⟩⟩
    · obtain rfl : k = zs.length := by omega
      gi_wp2
      go_end0
      rw [List.take_length] at hJs
      exact ⟨⟨_, rfl⟩, .inl ⟨_, rfl, hJs⟩⟩
set_option maxRecDepth 100000 in
set_option maxHeartbeats 1000000 in
theorem valuesB1_nil_in (F : Fence) (n : Nat) (h7 : F.fn 141) (hro : F.round = none) (l Bs : Nat) (a : Option Addr) (cap : Nat) (J : List UInt8 → World → Prop) (W : World) (hBs : W.cell? ⟨Bs, 0, none⟩ = some (.slice a 0 cap)) (h0 : J [] W) :
    CallsIn F n Tryz.prog 141 #[.func (.yield l) #[] #[], .pointer (some ⟨Bs, 0, none⟩)] W fun e W' => (∃ v, e = .returned v) ∧ J [] W' := by
  refine callsIn_of_wp Tryz.func141 rfl h7 ?_ hro
  simp only [Tryz.ntmps141, List.size_toArray, List.length_cons, List.length_nil, Nat.reduceAdd, Nat.reduceSub, Array.replicate_succ, Array.replicate_zero, List.push_toArray, List.append_toArray, List.nil_append, List.cons_append]
  gi_wp2
  gi_loopw [7] (fun i wr => i = .int .i64 0 ∧ J [] wr) (fun _ _ => 0)
  case atStart => exact ⟨rfl, h0⟩
  case round =>
    obtain ⟨rfl, hJs⟩ := hrel
    gi_wp2
    go_end0
    exact ⟨⟨_, rfl⟩, hJs⟩
set_option maxHeartbeats 1000000 in
theorem valuesB_in (F : Fence) (n : Nat) (h5 : F.fn 84) (hro : F.round = none) (a : Option Addr) (len cap : Nat) (w : World) :
    CallsIn F n Tryz.prog 84 #[.slice a len cap] w fun e w' => e = .returned (.func (.func 141) #[] #[.pointer (some ⟨w.heap.size, 0, none⟩)]) ∧ w' = w.alloc (.cells #[.slice a len cap] 22) := by
  refine callsIn_of_wp Tryz.func84 rfl h5 ?_ hro
  simp only [Tryz.ntmps84, List.size_toArray, List.length_cons, List.length_nil, Nat.reduceAdd, Nat.reduceSub, Array.replicate_succ, Array.replicate_zero, List.push_toArray, List.append_toArray, List.nil_append, List.cons_append]
  gi_wp2
  go_ret
  exact ⟨rfl, rfl⟩
theorem valuesB_stops (F : Fence) (n : Nat) (h7 : F.fn 141) (hro : F.round = none) (hn : 1 ≤ n) (Bs n₀ : Nat) (sv : Value) (zs : List UInt8) (hreach : zs.length ≤ 140737488351232) (w : World) (hn₀ : n₀ ≤ w.heap.size)
    (hk : Boxed w Bs 22 sv) (hI : BSl 0 n₀ w sv zs) :
    SeqStopsK F n Tryz.prog 141 #[.pointer (some ⟨Bs, 0, none⟩)] (fun x => #[bv x]) (Below n₀) (fun ys => ys = zs) (fun _ => True) zs.length w := fun l J Jx W hW hJ _ hY h0 => by
  have hc' := (hW.cell (p := ⟨Bs, 0, none⟩) hk.lt).trans hk.cell
  obtain ⟨a, cap, rfl, hcap, rfl | ⟨b, off, rfl, _, hb, hcs⟩⟩ := hI.below hW hn₀
  · exact (valuesB1_nil_in F n h7 hro l Bs a cap J W hc' h0).mono fun e W' ⟨he, hj⟩ => ⟨he, .inl ⟨_, rfl, hj⟩⟩
  · exact valuesB1_in F n h7 hro hn l Bs n₀ b off cap zs hreach hb J Jx W hY hc' hcs h0
end Go.Proofs.YtemknjnljciioaaGreat
namespace Go.Proofs.YtemknjnljciioaaGreat
open Go.RowKit Go.Shelf
attribute [local go_sem] Oper.semAt_some
def IntI (N : Nat) (w : World) (pre : List UInt8) (W : World) : Prop := Boxed W N 3 (.int .i64 (be pre : Nat)) ∧ Below N w W
theorem intI_own {N : Nat} {w : World} {B : Nat} (h : N ≤ w.heap.size) (hB : N ≤ B) : OwnFrom B (IntI N w) :=
  OwnFrom.and (Own.from (fun s X Y row hs hg hr => blk_own N 3 (fun s : List UInt8 => [.int .i64 (be s : Nat)]) s X Y row hs hg hr) _) (ownFrom_below h hB)
theorem BSl.take {lo hi : Nat} {W : World} {a : Option Addr} {cap : Nat} {l : List UInt8} (h : BSl lo hi W (.slice a l.length cap) l) (k : Nat) (hk : k ≤ l.length) : BSl lo hi W (.slice a k cap) (l.take k) := by
  obtain ⟨a', cap', e, hc, h0⟩ := h
  cases e
  refine ⟨a, cap, by rw [List.length_take, Nat.min_eq_left hk], by simp; omega, ?_⟩
  rcases h0 with rfl | ⟨b, off, ha, h1, h2, ho⟩
  · exact .inl (by simp)
  · exact .inr ⟨b, off, ha, h1, h2, fun j x hj => ho j x (by
      have hjk : j < k := by have := (List.getElem?_eq_some_iff.1 hj).1; simp at this; omega
      rwa [List.getElem?_take_of_lt hjk] at hj)⟩
set_option maxRecDepth 100000 in
set_option maxHeartbeats 4000000 in
theorem blobInt_in (m : Nat) (hm : 2 ≤ m) (l : List UInt8) (sv : Value) (w : World) (hreach : l.length ≤ 140737488351232) (hsv : BSl 0 w.heap.size w sv l) :
    CallsIn Fence.wide m Tryz.prog 42 #[sv] w fun e W' => e = .returned (.int .i64 (be (l.take 7) : Nat)) ∧ Below w.heap.size w W' := by
  have h1 : 1 ≤ m := by omega
  have hsv0 := hsv
  obtain ⟨a, cap, rfl, hcap, hcs⟩ := hsv
  clear hcs
  refine callsIn_of_wp_marks Tryz.func42 rfl trivial ?_ rfl
  simp only [Tryz.ntmps42, List.size_toArray, List.length_cons, List.length_nil, Nat.reduceAdd, Nat.reduceSub, Array.replicate_succ, Array.replicate_zero, List.push_toArray, List.append_toArray, List.nil_append, List.cons_append]
  have hN : (l.take 7).length ≤ 7 := by rw [List.length_take]; omega
  have hcase : (((l.length : Nat) : Int) ≤ 7 ∧ BSl 0 w.heap.size w (.slice a l.length cap) (l.take 7)) ∨ (¬ ((l.length : Nat) : Int) ≤ 7 ∧ BSl 0 w.heap.size w (.slice a 7 cap) (l.take 7)) := by
    by_cases h : l.length ≤ 7
    · exact .inl ⟨by omega, by rw [List.take_of_length_le h]; exact hsv0⟩
    · exact .inr ⟨by omega, hsv0.take 7 (by omega)⟩
  clear hsv0
  generalize l.take 7 = z at *
  rcases hcase with ⟨h7, hT⟩ | ⟨h7, hT⟩
  all_goals
    gi_wp2_with (refine ⟨trivial, ?_⟩; gi_at_call 84; refine (valuesB_in Fence.wide (m - 1) trivial rfl _ _ _ _).mono ?_; rintro e w' ⟨rfl, rfl⟩)
    generalize hW5 : World.alloc _ _ = W5
    have k0 : Boxed W5 w.heap.size 3 (.int .i64 (be [] : Nat)) := by rw [← hW5]; exact (Boxed.new _ _ (.int .i64 (be [] : Nat))).alloc _
    have k2 := show Boxed W5 (w.heap.size + 1) 22 (.slice a _ cap) by rw [← hW5]; exact Blk.new' (vs := [_]) (by simp)
    have hB0 : Below w.heap.size w W5 := by rw [← hW5]; exact chainA (chain0 _ _) _
    have hz : W5.heap.size = w.heap.size + 2 := by rw [← hW5]; simp
    clear hW5
    refine wpIn_rangeFunc_ownF (S := fun ys => ys = z) rfl h1 (gf := 141) (lb := #[.pointer (some ⟨w.heap.size + 1, 0, none⟩)]) rfl trivial (enters_of Tryz.func141 (by kernel_rfl) rfl)
      (valuesB_stops Fence.wide (m - 1) trivial rfl (by omega) (w.heap.size + 1) w.heap.size _ z (by omega) W5 (by omega) k2 (hT.below hB0 (Nat.le_refl _))) belowK_t (belowK_b (by omega)) (Below.refl _ _) (fun _ => rfl)
      (IntI w.heap.size w) (fun _ _ _ => False) (intI_own (Nat.le_refl _) (by omega)) (fun _ _ _ _ _ hs _ _ => hs)
      ⟨k0, hB0⟩ ?_ ?_ ?_ ?_ ?_
    rotate_left
    · intro l x W K hK
      gi_wp2
      exact hK
    · rintro r pre x W ⟨k0, hB⟩ hlt
      have co := k0.cell
      have cf := k0.frozen
      have hsn := be_snoc pre x
      have HS := Lib.hid hsn
      have hl1 : be pre ≤ 281474976710655 := by have := be_lt' (l := pre) (k := 6) (by omega); omega
      have hor := or_byte64 (a := be pre) (x := x.toNat) (by omega) x.toNat_lt
      have HO := Lib.hid hor
      clear hor hsn
      generalize be pre = y at *
      have hy : (y : Int) ≤ 281474976710655 := by omega
      have hxl := x.toNat_lt
      have hxl' : (x.toNat : Int) ≤ 255 := by omega
      gi_wp2
      rw [HO.out, ← HS.out]
      have hbw := (Below.refl w.heap.size W).setCell (p := ⟨w.heap.size, 0, none⟩) (Nat.le_refl _) (.int .i64 (be (pre ++ [x]) : Nat))
      exact ⟨KeepsOthers.setCell _ _ _, hbw, k0.set _, hB.trans hbw⟩
    · rintro D ys W hD rfl ⟨k0, hB⟩ hK
      have co := k0.cell
      have HZ := Lib.hid hz
      clear hz
      gi_wp2
      have hB' := hB.trans (belowK_b (w := w) (Nat.le_refl _) _ D _ (.deferred none) (by have := HZ.out; omega) hK rfl rfl)
      refine ⟨by simp, .inl ⟨_, _, rfl, run_takeDeferred hK, ?_⟩⟩
      refine ⟨.int .i64 (be ys : Nat), ?_, ?_⟩
      · simp [results, Tryz.f42, go_sem]
      · exact ⟨rfl, hB'⟩
    · rintro D c pre W _ _ h _
      exact h.elim
theorem blobInt_any (l : List UInt8) (sv : Value) (w : World) (hreach : l.length ≤ 140737488351232) (hsv : BSl 0 w.heap.size w sv l) :
    Calls Tryz.prog 42 #[sv] w fun e W' => e = .returned (.int .i64 (be (l.take 7) : Nat)) ∧ Below w.heap.size w W' := callsIn_wide.1 (blobInt_in 2 (by omega) l sv w hreach hsv)
end Go.Proofs.YtemknjnljciioaaGreat
namespace Go.Proofs.YtemknjnljciioaaGreat
open Go.RowKit
def turns (n : Nat) : Prop := n ∈ [2, 3, 6, 7, 10, 11, 13, 17, 18, 19, 22, 25]
theorem t2 : turns 2 := by unfold turns; simp
end Go.Proofs.YtemknjnljciioaaGreat
namespace Go.Proofs.YtemknjnljciioaaGreat
open Go.RowKit
structure S8 where
  a : Int
  b : Int
  c : Int
  d : Int
  e : Int
  f : Int
  g : Int
  h : Int
def S8.at (s : S8) : Nat → Int
  | 0 => s.a
  | 1 => s.b
  | 2 => s.c
  | 3 => s.d
  | 4 => s.e
  | 5 => s.f
  | 6 => s.g
  | _ => s.h
end Go.Proofs.YtemknjnljciioaaGreat
namespace Go.Proofs.YtemknjnljciioaaGreat
open Go.RowKit Go.Shelf
def blk (p : List UInt8) (n : Nat) : List UInt8 := (p.drop (64 * n)).take 64
end Go.Proofs.YtemknjnljciioaaGreat
namespace Go.Proofs.YtemknjnljciioaaGreat
open Go.RowKit Go.Shelf
attribute [local go_sem] Oper.semAt_some
def ButRows (e : TypeId) (B l : Nat) (W W' : World) : Prop := W.heap.size ≤ W'.heap.size ∧ ∀ (j : Nat) (o : Obj), W.heap[j]? = some o → j ≠ B → j ≠ l → (∀ cur fr, o ≠ .cells cur e fr) → W'.heap[j]? = some o
theorem ButRows.refl (e : TypeId) (B l : Nat) (W : World) : ButRows e B l W W := ⟨Nat.le_refl _, fun _ _ h _ _ _ => h⟩
theorem ButRows.t {e : TypeId} {B l : Nat} {X Y Z : World} (h : ButRows e B l X Y) (k : ButRows e B l Y Z) : ButRows e B l X Z :=
  ⟨Nat.le_trans h.1 k.1, fun j o hj h1 h2 h3 => k.2 j o (h.2 j o hj h1 h2 h3) h1 h2 h3⟩
theorem ButRows.b (e : TypeId) (B l : Nat) (W : World) (o' : Obj) : ButRows e B l W (W.putObj l o') := ⟨by simp, fun j o hj _ h2 _ => (World.putObj_heap_other h2).trans hj⟩
end Go.Proofs.YtemknjnljciioaaGreat
namespace Go.Proofs.YtemknjnljciioaaGreat
open Go.RowKit Go.Shelf
def Pieces (N : Nat) (W : World) (vs : List Value) (bs : List (List UInt8)) : Prop := vs.length = bs.length ∧ ∀ (k : Nat) (v : Value) (b : List UInt8), vs[k]? = some v → bs[k]? = some b → W.ownsRow N 5 1 v b.length (b.map bv)
theorem Pieces.to {N : Nat} {W W' : World} {vs : List Value} {bs : List (List UInt8)} (h : Pieces N W vs bs) (hk : ∀ v b, W.ownsRow N 5 1 v b.length (b.map bv) → W'.ownsRow N 5 1 v (b : List UInt8).length (b.map bv)) : Pieces N W' vs bs :=
  ⟨h.1, fun k v b hv hb => hk v b (h.2 k v b hv hb)⟩
end Go.Proofs.YtemknjnljciioaaGreat
namespace Go.Proofs.YtemknjnljciioaaGreat
open Go.RowKit Go.Shelf
attribute [local go_sem] Oper.semAt_some
def LinkAt (lo hi n : Nat) (W : World) (v : Value) (l : List UInt8) : Prop := BSl lo hi W v l ∨ BSl n W.heap.size W v l
theorem LinkAt.bsl {lo hi n : Nat} {W : World} {v : Value} {l : List UInt8} (h : LinkAt lo hi n W v l) (h1 : lo ≤ n) (h2 : hi ≤ W.heap.size) : BSl lo W.heap.size W v l := by
  rcases h with h | h
  · exact h.mono (Nat.le_refl _) h2
  · exact h.mono h1 (Nat.le_refl _)
end Go.Proofs.YtemknjnljciioaaGreat
namespace Go.Proofs.YtemknjnljciioaaGreat
open Go.RowKit Go.Shelf
attribute [local go_sem] Oper.semAt_some
def TxtAt (lo : Nat) (W : World) (v : Value) (l : List UInt8) : Prop :=
  ∃ (b c : Nat) (cur : Array Value) (fr : Nat × Nat), v = .slice (some ⟨b, 0, none⟩) l.length c ∧ l.length ≤ c ∧ lo ≤ b ∧ W.heap[b]? = some (.cells cur 5 fr) ∧ ∀ (k : Nat) (x : UInt8), l[k]? = some x → cur[k]? = some (bv x)
theorem TxtAt.bsl {lo : Nat} {W : World} {v : Value} {l : List UInt8} (h : TxtAt lo W v l) : BSl lo W.heap.size W v l := by
  obtain ⟨b, c, cur, fr, e, hc, hb, hh, hk⟩ := h
  exact ⟨_, c, e, hc, .inr ⟨b, 0, rfl, hb, (Array.getElem?_eq_some_iff.1 hh).1, fun k x hx => by simp [World.cell?, hh, hk k x hx]⟩⟩
theorem TxtAt.to {lo : Nat} {W W' : World} {v : Value} {l : List UInt8} (h : TxtAt lo W v l) (hk : ∀ (b : Nat) (cur : Array Value) (fr : Nat × Nat), W.heap[b]? = some (.cells cur 5 fr) → W'.heap[b]? = W.heap[b]?) : TxtAt lo W' v l := by
  obtain ⟨b, c, cur, fr, e, hc, hb, hh, hl⟩ := h
  exact ⟨b, c, cur, fr, e, hc, hb, (hk b cur fr hh).trans hh, hl⟩
theorem TxtAt.mono {lo lo' : Nat} {W : World} {v : Value} {l : List UInt8} (h : TxtAt lo W v l) (hl : lo' ≤ lo) : TxtAt lo' W v l := by
  obtain ⟨b, c, cur, fr, e, hc, hb, r⟩ := h
  exact ⟨b, c, cur, fr, e, hc, Nat.le_trans hl hb, r⟩
theorem TxtAt.below {lo : Nat} {W W' : World} {v : Value} {l : List UInt8} (h : TxtAt lo W v l) (hb : Below W.heap.size W W') : TxtAt lo W' v l := h.to fun b _ _ hh => hb.block b (Array.getElem?_eq_some_iff.1 hh).1
theorem TxtAt.set {lo : Nat} {W : World} {v : Value} {l : List UInt8} (h : TxtAt lo W v l) {B : Nat} {t : TypeId} {x : Value} (hb : Boxed W B t x) (hne : 5 ≠ t) (y : Value) : TxtAt lo (W.setCell ⟨B, 0, none⟩ y) v l :=
  h.to fun b cur fr hh => Below.heap_setCell _ _ _ b (fun e => by subst e; rw [show W.heap[b]? = _ from hb] at hh; cases hh; exact hne rfl)
theorem TxtAt.own {lo : Nat} {W W' : World} {v : Value} {l : List UInt8} {row : Option Nat} (h : TxtAt lo W v l) (hg : W.grownBy W' row) (hr : ∀ r, row = some r → ∃ o : Obj, W.heap[r]? = some o ∧ o.isCells = false) : TxtAt lo W' v l :=
  h.to fun b cur fr hh => hg.block b (Array.getElem?_eq_some_iff.1 hh).1 (fun e => by obtain ⟨o, ho, hc⟩ := hr b e.symm; rw [hh] at ho; cases ho; cases hc)
def Txts (lo : Nat) (W : World) (vs : List Value) (zs : List ByteArray) : Prop := vs.length = zs.length ∧ ∀ (k : Nat) (v : Value) (s : ByteArray), vs[k]? = some v → zs[k]? = some s → TxtAt lo W v s.data.toList
theorem Txts.to {lo : Nat} {W W' : World} {vs : List Value} {zs : List ByteArray} (h : Txts lo W vs zs) (hk : ∀ v (l : List UInt8), TxtAt lo W v l → TxtAt lo W' v l) : Txts lo W' vs zs := ⟨h.1, fun k v s hv hs => hk v _ (h.2 k v s hv hs)⟩
end Go.Proofs.YtemknjnljciioaaGreat
namespace Go.Proofs.YtemknjnljciioaaGreat
open Go.RowKit Go.Shelf
def wf (zs : List ByteArray) : Bool := decide (zs.length = 15) && zs.all (fun x => x.size == 8)
end Go.Proofs.YtemknjnljciioaaGreat
namespace Go.Proofs.YtemknjnljciioaaGreat
open Go.RowKit Go.Shelf
abbrev OwnL (b0 : Nat) (W : World) (v : Value) (l : List Lk) : Prop := W.ownsRow b0 322 3 v l.length (flatR lkc l)
theorem OwnL.rsl {b0 : Nat} {W : World} {v : Value} {l : List Lk} (h : OwnL b0 W v l) : RSl lkc b0 W.heap.size W v l := RSl.of_own lkc_len h
theorem OwnL.grown {b0 B : Nat} {w W : World} {v : Value} {l : List Lk} (h : OwnL b0 w v l) (hB : B < b0) (hg : w.grownBy W (some B)) : OwnL b0 W v l := by
  refine h.kept hg ?_
  cases hv : v.ownBlock with
  | none => exact .inl rfl
  | some k =>
    refine .inr fun e => ?_
    cases e
    have := (h.lt _ hv).1
    omega
theorem OwnL.one {b0 : Nat} {W : World} {v : Value} {l : List Lk} (h : OwnL b0 W v l) : v.oneCell' = true ∧ v.cells.toList = [v] := by
  rcases h.2 with ⟨rfl, _⟩ | ⟨g, cap, cur, rfl, _⟩ <;> exact ⟨rfl, rfl⟩
def Turn (b0 B : Nat) (w W : World) : Prop := W.os = w.os ∧ W.tape = w.tape ∧ W.output = w.output ∧ w.heap.size ≤ W.heap.size ∧ ∀ k, k < b0 → k ≠ B → W.heap[k]? = w.heap[k]?
theorem Turn.of {b0 B : Nat} {w W : World} (h : w.grownBy W (some B)) (hb : b0 ≤ w.heap.size) : Turn b0 B w W :=
  ⟨h.os, h.tape, h.output, h.size, fun k hk hne => h.block k (Nat.lt_of_lt_of_le hk hb) (fun e => hne (Option.some.inj e))⟩
theorem Turn.trans {b0 B : Nat} {w W W' : World} (h : Turn b0 B w W) (h' : Turn b0 B W W') : Turn b0 B w W' :=
  ⟨h'.1.trans h.1, h'.2.1.trans h.2.1, h'.2.2.1.trans h.2.2.1, Nat.le_trans h.2.2.2.1 h'.2.2.2.1, fun k hk hne => (h'.2.2.2.2 k hk hne).trans (h.2.2.2.2 k hk hne)⟩
theorem Turn.own {b0 B : Nat} {w W : World} {row : Option Nat} (h : w.grownBy W row) (hb : b0 ≤ w.heap.size) (hr : ∀ k, row = some k → b0 ≤ k) : Turn b0 B w W :=
  ⟨h.os, h.tape, h.output, h.size, fun k hk _ => h.block k (Nat.lt_of_lt_of_le hk hb) (fun e => by have := hr k e.symm; omega)⟩
theorem Turn.blk {b0 B k : Nat} {w W : World} {T : TypeId} {vs : List Value} (h : Turn b0 B w W) (hk : k < b0) (hne : k ≠ B) (hB : Blk w k T vs) : Blk W k T vs := (h.2.2.2.2 k hk hne).trans hB
def EndL (w : World) (B b0 : Nat) (p : Es × Int) (e : Ending) (W' : World) : Prop :=
  Turn b0 B w W' ∧ ((p.2 = 0 ∧ e = .returned (.tuple #[]) ∧ ∃ v', Blk W' B 107 (stc p.1 v') ∧ OwnL b0 W' v' p.1.lk) ∨ (p.2 ≠ 0 ∧ Pan p.2 e ∧ BlkN W' B))
theorem EndL.of {w w0 W : World} {B b0 : Nat} {v : Value} {p q : Es × Int} {e : Ending} (hg : w.grownBy w0 (some B)) (hb : b0 ≤ w.heap.size) (hB : B < b0) (ho : OwnL b0 w v p.1.lk) (h : EndE w0 B v q e W) (hp : p = q) : EndL w B b0 p e W := by
  subst hp
  have hg' := grownBy_trans hg h.1
  refine ⟨Turn.of hg' hb, ?_⟩
  rcases h.2 with ⟨h0, he, h1⟩ | ⟨h0, he, h1⟩
  · exact .inl ⟨h0, he, v, h1, ho.grown hB hg'⟩
  · exact .inr ⟨h0, he, h1⟩
end Go.Proofs.YtemknjnljciioaaGreat
namespace Go.Proofs.YtemknjnljciioaaGreat
open Go.RowKit Go.Shelf
def evB (n m : Nat) : Bk := fun i => if i < m then n else 0
theorem ev_zero (n : Nat) : bkc (evB n 0) = bkc noK := bkc_ext fun j _ => if_neg (Nat.not_lt_zero j)
theorem ev_full (n : Nat) : bkc (evB n 16) = bkc (fun _ => n) := bkc_ext fun _ h => if_pos h
theorem ev_set (n m : Nat) : bkc (updB (evB n m) m n) = bkc (evB n (m + 1)) := bkc_ext fun i _ => by
  unfold evB
  by_cases e : i = m
  · subst e; rw [updB_at, if_pos (by omega)]
  · rw [updB_ne _ _ e]
    by_cases h : i < m
    · rw [if_pos h, if_pos (by omega)]
    · rw [if_neg h, if_neg (by omega)]
set_option maxRecDepth 100000 in
set_option maxHeartbeats 4000000 in
theorem bookEven_any (n : Nat) (hn : n < M) (w : World) :
    Calls Tryz.prog 88 #[.int .u64 (n : Int)] w fun e W' => e = .returned (bkv (fun _ => n)) ∧ Below w.heap.size w W' := by
  have hmx : Tryz.prog.follows .mixedOrders = true := by kernel_rfl
  have kR0 : Blk ((w.alloc (.cells (List.replicate 64 (Value.int .u64 0)).toArray 103)).alloc (.cells (List.replicate 64 (Value.int .u64 0)).toArray 103)) w.heap.size 103 (List.replicate 64 (Value.int .u64 0)) := (Blk.new' rfl).alloc _
  have kB0 : Blk ((w.alloc (.cells (List.replicate 64 (Value.int .u64 0)).toArray 103)).alloc (.cells (List.replicate 64 (Value.int .u64 0)).toArray 103)) (w.heap.size + 1) 103 (List.replicate 64 (Value.int .u64 0)) := Blk.new' (by simp)
  have hB0 := chainA (chain0 w (.cells (List.replicate 64 (Value.int .u64 0)).toArray 103)) (.cells (List.replicate 64 (Value.int .u64 0)).toArray 103)
  have HN := Lib.hid hn
  clear hn
  go_enter Tryz.func88, Tryz.ntmps88
  go_wp2_with ((with_reducible refine wpList_loadIf 103 (.tmp 3) ?_ (some 7) ?_ ?_ (bkv noK) ?_ ?_); (· rfl); (· rfl); (· rfl); (· exact load_book (by rw [bkc_no]; exact kB0)))
  generalize hX : World.alloc (World.alloc _ _) _ = X
  replace kR0 : Blk X w.heap.size 103 (bkc noK) := by rw [bkc_no, ← hX]; exact kR0
  replace kB0 : Blk X (w.heap.size + 1) 103 (bkc (evB n 0)) := by rw [ev_zero, bkc_no, ← hX]; exact kB0
  replace hB0 : Below w.heap.size w X := by rw [← hX]; exact hB0
  clear hX
  go_loopw [8] (fun i wr => ∃ k : Nat, k ≤ 8 ∧ i = .int .i64 k ∧ Blk wr (w.heap.size + 1) 103 (bkc (evB n (2 * k))) ∧ Blk wr w.heap.size 103 (bkc noK) ∧ Below w.heap.size w wr) (fun i _ => 8 - (intOf i).toNat)
  case atStart => exact ⟨0, by omega, rfl, kB0, kR0, hB0⟩
  clear kR0 kB0 hB0
  case round =>
    obtain ⟨k, hk, rfl, kB, kR, hB⟩ := hrel
    by_cases hlt : k < 8
    · have hlt' : (k : Int) < 8 := by omega
      obtain ⟨wo, rfl⟩ : ∃ wo : World, wo = wr := ⟨_, rfl⟩
      have kB1 := kB.alloc (.cells (rowB noK (2 * k) 2).toArray 101)
      have kR1 := kR.alloc (.cells (rowB noK (2 * k) 2).toArray 101)
      have hB1 := chainA hB (.cells (rowB noK (2 * k) 2).toArray 101)
      clear kB kR hB
      go_wp2_with (first
        | ((with_reducible refine wpList_indexTo ?_ 103 (.tmp 7) (.tmp 8) ?_ (some 11) ?_ (.agg (rowB noK (2 * k) 2).toArray) ?_ ?_); (· rfl); (· rfl); (· rfl); (· exact idx_row noK _ hlt))
        | ((with_reducible refine wpList_storeN 101 (.tmp 5) (.tmp 11) (.agg (rowB noK (2 * k) 2).toArray) (rowB noK (2 * k) 2) ?_ ?_ ?_ ?_ ?_ ?_ ?_ ?_ ?_ ?_); (· rfl); (· rfl); (· kernel_rfl); (· exact rowB_one _ _ _); (· rfl); (· rfl); (· rfl); (· rfl); (· rfl)))
      generalize wo.alloc _ = X1 at *
      go_loopw [12] (fun i wr => ∃ j : Nat, j ≤ 2 ∧ i = .int .i64 j ∧ Blk wr (w.heap.size + 1) 103 (bkc (evB n (2 * k + j))) ∧ Blk wr w.heap.size 103 (bkc noK) ∧ Below w.heap.size w wr) (fun i _ => 2 - (intOf i).toNat)
      case atStart => exact ⟨0, by omega, rfl, kB1, kR1, hB1⟩
      clear kB1 kR1 hB1
      case round =>
        obtain ⟨j, hj, rfl, kB, kR, hB⟩ := hrel
        by_cases hjt : j < 2
        · have hjt' : (j : Int) < 2 := by omega
          have HS := Lib.hid (ev_set n (2 * k + j))
          go_wp2_with fail
          refine wp_region_held_drew (S := fun W => True) hmx trivial ?_
          intro hS
          have hd : Below wr.heap.size wr wr.drew := (Below.refl _ wr).drew
          replace kB : Blk wr.drew _ _ _ := kB
          replace kR : Blk wr.drew _ _ _ := kR
          replace hB := hB.drew
          generalize wr.drew = Y at *
          refine' wpAnyH_take (i := 0) (oi := _) (v := _) ?hi1 (by kernel_rfl) (by kernel_rfl) (by kernel_rfl) ?hQ1 (Or.inl ⟨?hw1, ?hy1⟩) hS ?rest1
          case hi1 => simp only [List.getElem?_toArray, List.getElem?_cons_zero]; rfl
          case hQ1 => exact fun _ _ _ h => h
          case hw1 => rfl
          case hy1 => intro W' hS'; go_simp; with_reducible rfl
          try simp only [Act.put, List.setIfInBounds_toArray, List.set_cons_zero, List.set_cons_succ]
          refine' wpAnyH_take (i := 1) (oi := _) (v := _) ?hi2 (by kernel_rfl) (by kernel_rfl) (by kernel_rfl) ?hQ2 (Or.inl ⟨?hw2, ?hy2⟩) hS ?rest2
          case hi2 => simp only [List.getElem?_toArray, List.getElem?_cons_succ, List.getElem?_cons_zero]; rfl
          case hQ2 => exact fun _ _ _ h => h
          case hw2 => rfl
          case hy2 => intro W' hS'; go_simp; with_reducible rfl
          try simp only [Act.put, List.setIfInBounds_toArray, List.set_cons_zero, List.set_cons_succ]
          refine' wpAnyH_take (i := 2) (oi := _) (v := _) ?hi3 (by kernel_rfl) (by kernel_rfl) (by kernel_rfl) ?hQ3 (Or.inl ⟨?hw3, ?hy3⟩) hS ?rest3
          case hi3 => simp only [List.getElem?_toArray, List.getElem?_cons_succ, List.getElem?_cons_zero]; rfl
          case hQ3 => exact fun _ _ _ h => h
          case hw3 => rfl
          case hy3 => intro W' hS'; go_simp; with_reducible rfl
          try simp only [Act.put, List.setIfInBounds_toArray, List.set_cons_zero, List.set_cons_succ]
          refine' wpAnyH_take (i := 4) (oi := _) (v := _) ?hi4 (by kernel_rfl) (by kernel_rfl) (by kernel_rfl) ?hQ4 (Or.inl ⟨?hw4, ?hy4⟩) hS ?rest4
          case hi4 => simp only [List.getElem?_toArray, List.getElem?_cons_succ, List.getElem?_cons_zero]; rfl
          case hQ4 => exact fun _ _ _ h => h
          case hw4 => rfl
          case hy4 => intro W' hS'; go_simp; with_reducible rfl
          try simp only [Act.put, List.setIfInBounds_toArray, List.set_cons_zero, List.set_cons_succ]
          refine wpAnyH_ready (rs := [3]) (by kernel_rfl) (by simp) ?_
          refine' AllReadyH.cons (o := _) ?ho5 (fun K hK => ?st5) AllReadyH.nil
          case ho5 => simp only [List.getElem?_toArray, List.getElem?_cons_succ, List.getElem?_cons_zero]; rfl
          case st5 =>
            go_simp
            refine (ofN_any n HN.out _).mono ?_
            rintro e Y1 ⟨rfl, hb⟩
            replace kB := kB.below hb kB.lt
            replace kR := kR.below hb kR.lt
            replace hB := chain hB hb
            clear hb
            refine hK.out _ _ trivial (fun hS => ?_)
            clear hK K
            try simp only [Act.put, List.setIfInBounds_toArray, List.set_cons_zero, List.set_cons_succ]
            refine' wpAnyH_take (i := 5) (oi := _) (v := _) ?hi6 (by kernel_rfl) (by kernel_rfl) (by kernel_rfl) ?hQ6 (Or.inl ⟨?hw6, ?hy6⟩) hS ?rest6
            case hi6 => simp only [List.getElem?_toArray, List.getElem?_cons_succ, List.getElem?_cons_zero]; rfl
            case hQ6 => exact fun _ _ _ h => h
            case hw6 => rfl
            case hy6 => intro W' hS'; go_simp; with_reducible rfl
            try simp only [Act.put, List.setIfInBounds_toArray, List.set_cons_zero, List.set_cons_succ]
            refine wpAnyH_ready (rs := [6]) (by kernel_rfl) (by simp) ?_
            refine' AllReadyH.cons (o := _) ?ho7 (fun K hK => ?st7) AllReadyH.nil
            case ho7 => simp only [List.getElem?_toArray, List.getElem?_cons_succ, List.getElem?_cons_zero]; rfl
            case st7 =>
              refine wp_store_slot (.tmp 20) (.tmp 18) kB hlt hjt n rfl rfl rfl rfl ?_
              have hB2 := hB.grown (grownBy_row _ (w.heap.size + 1) (bkc (updB (evB n (2 * k + j)) (2 * k + j) n)).toArray) hB.size (fun e he => by cases he; omega)
              have kR2 := kR.rowO (bkc (updB (evB n (2 * k + j)) (2 * k + j) n)).toArray (show w.heap.size ≠ w.heap.size + 1 by omega)
              have kB2 := kB.row (bkc (updB (evB n (2 * k + j)) (2 * k + j) n))
              rw [HS.out] at hB2 kR2 kB2 ⊢
              refine hK.out _ _ trivial (fun hS => ?_)
              clear hK K
              try simp only [Act.put, List.setIfInBounds_toArray, List.set_cons_zero, List.set_cons_succ]
              refine wpAnyH_done (by kernel_rfl) ?_ _
              go_wp2_with fail
              go_roundw
              case rel => exact ⟨j + 1, by omega, by simp, kB2, kR2, hB2⟩
              case measure => simp [intOf]; omega
        · obtain rfl : j = 2 := by omega
          go_wp2_with fail
          go_roundw
          case rel => exact ⟨k + 1, by omega, by simp, kB, kR, hB⟩
          case measure => simp [intOf]; omega
    · obtain rfl : k = 8 := by omega
      rw [show 2 * 8 = 16 from rfl, ev_full] at kB
      go_wp2_with (first
        | ((with_reducible refine wpList_loadIf 103 (.tmp 3) ?_ (some 23) ?_ ?_ (bkv (fun _ => n)) ?_ ?_); (· rfl); (· rfl); (· rfl); (· exact load_book kB))
        | ((refine wpList_store_book (.tmp 2) (.tmp 23) kR (bkc_len noK) (fun _ => n) ?_ ?_ ?_ ?_ ?_ ?_); (· rfl); (· rfl); (· rfl); (· rfl); (· rfl)))
      exact bodyPost_ret (v := bkv (fun _ => n)) (res_bk rfl _ rfl (kR.row _)) rfl ⟨rfl, hB.grown (grownBy_row _ _ _) hB.size (fun e he => by cases he; omega)⟩
end Go.Proofs.YtemknjnljciioaaGreat
namespace Go.Proofs.YtemknjnljciioaaGreat
open Go.RowKit Go.Shelf
theorem OwnL.below {b : Nat} {W W' : World} {v : Value} {l : List Lk} (h : OwnL b W v l) (hb : Below W.heap.size W W') : OwnL b W' v l :=
  h.kept (row := none) ⟨hb.os, hb.tape, hb.output, hb.size, fun k hk _ => hb.block k hk⟩ (by cases v.ownBlock <;> simp)
abbrev nilV : Value := .slice none 0 0
def zS : Es := ⟨0, 0, noK, noK, fun _ => 0, noK, 0, []⟩
theorem res_st {fn : Func} {p : Tmp} (h : fn.results = #[.cell p 107]) (tmps : Array Value) {w : World} {g : Nat} {T : TypeId} {s : Es} {v : Value} (hp : tmps.getD p undef = .pointer (some ⟨g, 0, none⟩)) (hg : Blk w g T (stc s v)) :
    (results fn tmps).run Tryz.prog w = .ok (stv s v) w :=
  results_cell_row h tmps w g T (stc s v).toArray (0, 0) _ hp hg Tryz.underlying107 rfl (by rw [List.size_toArray, stc_len]; exact info_st)
def nearI (n m : Int) : Int := max 0 (min n m)
theorem nearest_any (n m : Int) (w : World) : Calls Tryz.prog 87 #[.int .i64 n, .int .i64 m] w fun e W' => e = .returned (.int .i64 (nearI n m)) ∧ W' = w := by
  by_cases h1 : m < n
  · by_cases h2 : 0 < m
    · have H := Lib.hid (show nearI n m = m by unfold nearI; omega)
      rw [H.out]
      go_enter Tryz.func87, Tryz.ntmps87
      go_wp2
      go_ret
      exact ⟨rfl, rfl⟩
    · have H := Lib.hid (show nearI n m = 0 by unfold nearI; omega)
      rw [H.out]
      go_enter Tryz.func87, Tryz.ntmps87
      go_wp2
      go_ret
      exact ⟨rfl, rfl⟩
  · by_cases h2 : 0 < n
    · have H := Lib.hid (show nearI n m = n by unfold nearI; omega)
      rw [H.out]
      go_enter Tryz.func87, Tryz.ntmps87
      go_wp2
      go_ret
      exact ⟨rfl, rfl⟩
    · have H := Lib.hid (show nearI n m = 0 by unfold nearI; omega)
      rw [H.out]
      go_enter Tryz.func87, Tryz.ntmps87
      go_wp2
      go_ret
      exact ⟨rfl, rfl⟩
def genP (a b : Int) : Es := ⟨nearI a 1, nearI b 1099511627776, fun _ => 1000, noK, fun _ => 0, noK, 0, []⟩
set_option maxRecDepth 100000 in
set_option maxHeartbeats 4000000 in
theorem genesis_any (a b : Int) (w : World) :
    Calls Tryz.prog 48 #[.int .i64 a, .int .i64 b] w fun e W' => e = .returned (stv (genP a b) nilV) ∧ Below w.heap.size w W' := by
  have hM := Mem.start w
  go_enter Tryz.func48, Tryz.ntmps48
  go_upto_region 0 with fail
  refine wp_region_fromM (fun W => Mem w none [] W) hM ?_
  clear hM
  rintro Y1 hM
  refine rF (some 4) (pt Y1.heap.size 0) (Y1.alloc (.cells (stc zS nilV).toArray 107)) ?_
  replace hM := hM.alloc 107 (stc zS nilV)
  generalize World.alloc _ _ = Y2 at *
  generalize hNe : Y1.heap.size = R at *
  clear hNe
  refine dF ?_
  try simp only [Act.put, List.setIfInBounds_toArray, List.set_cons_zero, List.set_cons_succ]
  go_upto_region 1 with fail
  refine wp_region_fromM (fun W => Mem w none [(R, 107, stc zS nilV)] W) hM ?_
  clear hM
  rintro Y3 hM
  refine tF 1 [.val 0 (some 5) (.int .i64 a)] trivial ?_
  refine cF (some 6) 87 #[.int .i64 a, .int .i64 1] ((nearest_any _ _ _).mono ?_)
  rintro e W1 ⟨rfl, rfl⟩
  refine tF 3 [.val 2 (some 7) (.int .i64 b)] trivial ?_
  refine cF (some 8) 87 #[.int .i64 b, .int .i64 1099511627776] ((nearest_any _ _ _).mono ?_)
  rintro e W1 ⟨rfl, rfl⟩
  refine cF (some 9) 88 #[.int .u64 1000] ((bookEven_any 1000 (by unfold M; decide) _).mono ?_)
  rintro e W2 ⟨rfl, hb⟩
  replace hM := hM.below hb
  clear hb
  refine tF 6 [.val 5 (some 10) (stv (genP a b) nilV)] trivial ?_
  refine sF 107 (pt R 0) (stv (genP a b) nilV) (sto_st (hM.at 0 rfl) (stc_len _ _) (genP a b) rfl) ?_
  replace hM := hM.set 0 (cs' := stc (genP a b) nilV) rfl rfl
  generalize World.setRow _ _ _ = Y4 at *
  refine dF ?_
  try simp only [puts, Tk.put, Act.put, List.setIfInBounds_toArray, List.set_cons_zero, List.set_cons_succ]
  go_wp2_with fail
  exact bodyPost_ret (v := stv (genP a b) nilV) (res_st rfl _ rfl (hM.at 0 rfl)) rfl ⟨rfl, hM.b⟩
end Go.Proofs.YtemknjnljciioaaGreat
