/-
  The words of a wide number's 32 octets; What is put of fields, and read again; What is put of a transfer and a side's data that may be, and read again; What is put of a transfer and a side's data that may be, and read again; payloads; ots.digits: a sequence of a number's digits of 2 bits, the highest first; slices.AppendSeq of digits onto a row of ints of the call's own; slices.Collect of digits; 
-/
import Derived.Maps.Range
import Derived.Outline
import Derived.Deep.Cut
import Derived.Laws.BitsLemmas
import Derived.Lib.ConvBytes
import Derived.Laws.AppendOwn
import Derived.OrdersIn
import Derived.WalkKit
import Derived.CallsIn
import Derived.TacticsInMore
import Derived.Test.YtfoemkmoambagaaGreatK06
namespace Go.Proofs.YtfoemkmoambagaaGreat
open Go.RowKit Go.Shelf
theorem wide8_length (a0 a1 a2 a3 : Nat) : (wide8 a0 a1 a2 a3).length = 32 := by simp [wide8, octs_length]
end Go.Proofs.YtfoemkmoambagaaGreat
namespace Go.Proofs.YtfoemkmoambagaaGreat
open Go.RowKit Go.Shelf
theorem add_ok {l x : List UInt8} (h : l.length + x.length ≤ 8192) : addS (l, 0) x = (l ++ x, 0) := by
  unfold addS; rw [if_pos rfl, if_pos h]
theorem num_ok {l : List UInt8} {n : Int} (h0 : 0 ≤ n) (h1 : n ≤ 1099511627776) (h : l.length ≤ 8000) : numS (l, 0) n = (l ++ octs (two n) 6, 0) := by
  unfold numS; rw [if_pos ⟨h0, h1⟩, add_ok (by rw [octs_length]; omega)]
theorem txt_ok {l : List UInt8} {t : ByteArray} (h1 : t.size ≤ 100) (h : l.length ≤ 8000) : txtS (l, 0) t = (l ++ (octs t.size 2 ++ t.data.toList), 0) := by
  have hl : t.data.toList.length = t.size := by rw [Array.length_toList]; rfl
  unfold txtS; rw [if_pos (by omega), add_ok (by rw [List.length_append, octs_length, hl]; omega)]
theorem wide_ok {l : List UInt8} {a0 a1 a2 a3 : Nat} (h : l.length ≤ 8000) : wideS (l, 0) a0 a1 a2 a3 = (l ++ wide8 a0 a1 a2 a3, 0) := by
  unfold wideS; rw [add_ok (by rw [wide8_length]; omega)]
def encT (t : ByteArray) : List UInt8 := octs t.size 2 ++ t.data.toList
theorem encT_length (t : ByteArray) : (encT t).length = t.size + 2 := by
  have hl : t.data.toList.length = t.size := by rw [Array.length_toList]; rfl
  rw [encT, List.length_append, octs_length, hl]; omega
def encN (n : Int) : List UInt8 := octs (two n) 6
theorem encN_length (n : Int) : (encN n).length = 6 := octs_length _ _
end Go.Proofs.YtfoemkmoambagaaGreat
namespace Go.Proofs.YtfoemkmoambagaaGreat
open Go.RowKit Go.Shelf
theorem actB_size : actB.size = 3 := rfl
end Go.Proofs.YtfoemkmoambagaaGreat
namespace Go.Proofs.YtfoemkmoambagaaGreat
open Go.RowKit Go.Shelf
theorem pay_ok {act : Int} {key : ByteArray} (h : 1 ≤ act ∧ act ≤ 2) (hk : key.size = 32) (a0 a1 a2 a3 : Nat) :
    payL act key a0 a1 a2 a3 = (encT actB ++ encN act) ++ (encT key ++ wide8 a0 a1 a2 a3) := by
  have hr : key.data.toList.length = 32 := by rw [Array.length_toList]; exact hk
  rw [payL_yes h hk]
  unfold paySt
  rw [txt_ok (t := actB) (by decide) (by simp)]
  rw [num_ok (by omega) (by omega) (by simp [octs_length, actB])]
  rw [txt_ok (by omega) (by simp [octs_length, actB])]
  rw [wide_ok (by simp only [List.length_append, octs_length, hr]; simp [actB])]
  unfold encT encN
  simp only [List.nil_append, List.append_assoc]
theorem pay_len {act : Int} {key : ByteArray} (h : 1 ≤ act ∧ act ≤ 2) (hk : key.size = 32) (a0 a1 a2 a3 : Nat) : (payL act key a0 a1 a2 a3).length = 77 := by
  rw [pay_ok h hk]
  simp only [List.length_append, encT_length, encN_length, wide8_length, hk, actB_size]
end Go.Proofs.YtfoemkmoambagaaGreat
namespace Go.Proofs.YtfoemkmoambagaaGreat
open Go.RowKit Go.Shelf
attribute [local go_sem] Oper.semAt_some
def dig (x p : Nat) : Nat := x / 2 ^ (p * 2) % 4
def digs (x N : Nat) : List Int := (List.range N).map fun i => (dig x (N - 1 - i) : Int)
theorem digs_length (x N : Nat) : (digs x N).length = N := by simp [digs]
theorem digs_at (x : Nat) {N k : Nat} (h : k < N) : (digs x N)[k]? = some (dig x (N - 1 - k) : Int) := by unfold digs; rw [List.getElem?_map, List.getElem?_range h]; rfl
theorem and3 {a : Nat} (ha : a ≤ 9223372036854775807) : bits .and .i64 (a : Int) 3 = ((a % 4 : Nat) : Int) := by
  have e := (Go.bits_nat .i64 63 (by decide) (fun n h0 h1 => by rw [IntKind.wrap_i64]; omega) a 3 (by simp; omega) (by simp)).1
  have h : a &&& 3 = a % 4 := by
    have := Nat.and_two_pow_sub_one_eq_mod a 2
    simpa using this
  rw [h] at e
  rw [← e]
  rfl
set_option maxRecDepth 100000 in
set_option maxHeartbeats 2000000 in
theorem digits1_rel (m : Nat) (hm : 1 ≤ m) (x N : Nat) (hx : x ≤ 16777215) (hN : N ≤ 16) (Bn Bm : Nat) (w : World) (kn : Boxed w Bn 3 (.int .i64 (x : Nat))) (km : Boxed w Bm 3 (.int .i64 (N : Nat))) :
    SeqRel Fence.wide m Tryz.prog 148 #[.pointer (some ⟨Bm, 0, none⟩), .pointer (some ⟨Bn, 0, none⟩)] N (fun k r _ => ∃ y : Int, (digs x N)[k]? = some y ∧ r = #[iv y]) (fun _ => KeepB2 Bn Bm) w := fun l J W hW _ _ _ hY h0 => by
  have hcn : Boxed W Bn 3 (.int .i64 (x : Nat)) := (hW.block Bn kn.lt).trans kn
  have hcm : Boxed W Bm 3 (.int .i64 (N : Nat)) := (hW.block Bm km.lt).trans km
  refine callsIn_of_wp Tryz.func148 rfl trivial ?_ rfl
  simp only [Tryz.ntmps148, List.size_toArray, List.length_cons, List.length_nil, Nat.reduceAdd, Nat.reduceSub, Array.replicate_succ, Array.replicate_zero, List.push_toArray, List.append_toArray, List.nil_append, List.cons_append]
  have hN' : (N : Int) ≤ 16 := by omega
  have cm := hcm.cell
  gi_wp2
  clear cm
  gi_loopw [7] (fun i wr => ∃ k : Nat, k ≤ N ∧ i = .int .i64 (k : Nat) ∧ (Boxed wr Bn 3 (.int .i64 (x : Nat)) ∧ Boxed wr Bm 3 (.int .i64 (N : Nat))) ∧ J k wr) (fun i _ => N - (intOf i).toNat)
  case atStart => exact ⟨0, by omega, rfl, ⟨hcn, hcm⟩, h0⟩
  clear hcn hcm h0
  case round =>
    obtain ⟨k, hk, rfl, ⟨hbn, hbm⟩, hJ⟩ := hrel
    have cn := hbn.cell
    have cm := hbm.cell
    by_cases hlt : k < N
    · have hlt' : (k : Int) < (N : Int) := by omega
      have hD := digs_at x hlt
      have hp : (N : Int) - 1 - k = ((N - 1 - k : Nat) : Int) := by omega
      have hpl : N - 1 - k ≤ 15 := by omega
      have hpl' : ((N - 1 - k : Nat) : Int) ≤ 15 := by omega
      obtain ⟨fn, tmps, assign, body, hy, hR⟩ := hY k #[iv (dig x (N - 1 - k) : Int)] wr hlt ⟨_, hD, rfl⟩ hJ
      clear hD
      generalize N - 1 - k = p at *
      have hb : bits BinOp.and IntKind.i64 ((x : Int) / 2 ^ (p * 2)) 3 = (dig x p : Int) := by
        have hle : x / 2 ^ (p * 2) ≤ x := Nat.div_le_self _ _
        have h := and3 (a := x / 2 ^ (p * 2)) (by omega)
        rw [show (((x / 2 ^ (p * 2) : Nat)) : Int) = (x : Int) / 2 ^ (p * 2) by simp] at h
        exact h
      simp only [iv] at hy
      gi_wp2
      clear hy hb
      refine hR.mono ?_
      rintro e W3 ⟨rfl, hJ3, hk3⟩
      have hbn3 : Boxed W3 Bn 3 (.int .i64 (x : Nat)) := hk3.1.trans hbn
      have hbm3 : Boxed W3 Bm 3 (.int .i64 (N : Nat)) := hk3.2.trans hbm
      clear cn cm hp
      gi_wp2
      go_roundw
      case rel => exact ⟨k + 1, by omega, by simp, ⟨hbn3, hbm3⟩, hJ3⟩
      case measure => simp [intOf]; omega
    · obtain rfl : k = N := by omega
      gi_wp2
      go_end0
      exact ⟨⟨_, rfl⟩, hJ⟩
set_option maxHeartbeats 1000000 in
theorem digits_in (F : Fence) (m : Nat) (h : F.fn 139) (hro : F.round = none) (x N : Int) (w : World) :
    CallsIn F m Tryz.prog 139 #[.int .i64 x, .int .i64 N] w fun e w' => e = .returned (.func (.func 148) #[] #[.pointer (some ⟨w.heap.size + 1, 0, none⟩), .pointer (some ⟨w.heap.size, 0, none⟩)]) ∧ w' = (w.alloc (.cells #[.int .i64 x] 3)).alloc (.cells #[.int .i64 N] 3) := by
  refine callsIn_of_wp Tryz.func139 rfl h ?_ hro
  simp only [Tryz.ntmps139, List.size_toArray, List.length_cons, List.length_nil, Nat.reduceAdd, Nat.reduceSub, Array.replicate_succ, Array.replicate_zero, List.push_toArray, List.append_toArray, List.nil_append, List.cons_append]
  gi_wp2
  go_ret
  exact ⟨rfl, rfl⟩
end Go.Proofs.YtfoemkmoambagaaGreat
namespace Go.Proofs.YtfoemkmoambagaaGreat
open Go.RowKit Go.Shelf
attribute [local go_sem] Oper.semAt_some
theorem Tryz.infoIntI : (Tryz.prog.info? 3).map (fun i => (i.zero, i.size, i.bytes)) = some (some (.int .i64 0), 1, 8) := by kernel_rfl
def SeqII (n₀ B Bn Bm x N k : Nat) (xs ys : List Value) (w : World) (j : Nat) (W : World) : Prop :=
  (((∃ v, Boxed W B 185 v ∧ W.ownsRow n₀ 3 1 v (k + j) (xs ++ ys.take j) ∧ True) ∧ (Boxed W Bn 3 (.int .i64 (x : Nat)) ∧ Boxed W Bm 3 (.int .i64 (N : Nat)))) ∧ Below n₀ w W) ∧ Spares 3 w W
theorem seqII_own {n₀ Bb Bn Bm x N k : Nat} {xs ys : List Value} {w : World} {B : Nat} (h : n₀ ≤ w.heap.size) (hB : w.heap.size ≤ B) : OwnFrom B (SeqII n₀ Bb Bn Bm x N k xs ys w) :=
  OwnFrom.and (OwnFrom.and (OwnFrom.and (Own.from (holdsRow_own n₀ Bb 185 3 1 (fun j : Nat => k + j) (fun j => xs ++ ys.take j) (fun _ _ => True)) _)
    (OwnFrom.and (Own.from (fun _ X Y row hs hg hr => blk_own Bn 3 (fun (_ : Unit) => [.int .i64 (x : Nat)]) () X Y row hs hg hr) _)
      (Own.from (fun _ X Y row hs hg hr => blk_own Bm 3 (fun (_ : Unit) => [.int .i64 (N : Nat)]) () X Y row hs hg hr) _))) (ownFrom_below h (Nat.le_trans h hB))) (ownFrom_spares hB)
def RowW (n₀ : Nat) (e : TypeId) (k : Nat) (xs : List Value) (w : World) (en : Ending) (W' : World) : Prop :=
  ∃ v', en = .returned v' ∧ W'.ownsRow n₀ e 1 v' k xs ∧ Below n₀ w W'
def RowSW (n₀ : Nat) (e : TypeId) (k : Nat) (xs : List Value) (w : World) (en : Ending) (W' : World) : Prop :=
  ∃ v', en = .returned v' ∧ W'.ownsRow n₀ e 1 v' k xs ∧ Below n₀ w W' ∧ Spares e w W'
set_option maxRecDepth 100000 in
set_option maxHeartbeats 4000000 in
theorem appendSeqI_in (m : Nat) (hm : 3 ≤ m) (n₀ k x N : Nat) (hk : k ≤ 1000000) (hx : x ≤ 16777215) (hN : N ≤ 16) (sv : Value) (xs : List Value) (Bn Bm : Nat) (w : World) (hn₀ : n₀ ≤ w.heap.size) (hrow : w.ownsRow n₀ 3 1 sv k xs)
    (kn : Boxed w Bn 3 (.int .i64 (x : Nat))) (km : Boxed w Bm 3 (.int .i64 (N : Nat))) (hne : (Bn < n₀ ∧ Bm < n₀) ∨ 2 ≤ k) :
    CallsIn Fence.wide m Tryz.prog 141 #[sv, .func (.func 148) #[] #[.pointer (some ⟨Bm, 0, none⟩), .pointer (some ⟨Bn, 0, none⟩)]] w (RowSW n₀ 3 (k + N) (xs ++ (digs x N).map iv) w) := by
  have h1 : 1 ≤ m := by omega
  obtain ⟨a, c, rfl⟩ := ownsRow_slice hrow
  refine callsIn_of_wp_marks Tryz.func141 rfl trivial ?_ rfl
  simp only [Tryz.ntmps141, List.size_toArray, List.length_cons, List.length_nil, Nat.reduceAdd, Nat.reduceSub, Array.replicate_succ, Array.replicate_zero, List.push_toArray, List.append_toArray, List.nil_append, List.cons_append]
  obtain ⟨i0, hi, hz0, hz1, hz2⟩ := info_parts Tryz.infoIntI
  gi_wp2
  generalize hW5 : World.alloc _ _ = W5
  have k0 : Boxed W5 w.heap.size 185 (.slice a k c) := by rw [← hW5]; exact Boxed.new _ _ _
  have k1 : Boxed W5 Bn 3 (.int .i64 (x : Nat)) := by rw [← hW5]; exact kn.alloc _
  have k2 : Boxed W5 Bm 3 (.int .i64 (N : Nat)) := by rw [← hW5]; exact km.alloc _
  have hB0 : Below w.heap.size w W5 := by rw [← hW5]; exact chain0 _ _
  have hrow5 : W5.ownsRow n₀ 3 1 (.slice a k c) k xs := by rw [← hW5]; exact hrow.alloc _
  have hz : W5.heap.size = w.heap.size + 1 := by rw [← hW5]; simp
  have hBnw : Bn < w.heap.size := kn.lt
  have hBmw : Bm < w.heap.size := km.lt
  clear hW5
  refine wpIn_rangeFunc_relA rfl h1 (gf := 148) (lb := #[.pointer (some ⟨Bm, 0, none⟩), .pointer (some ⟨Bn, 0, none⟩)]) rfl trivial (enters_of Tryz.func148 (by kernel_rfl) rfl)
    (digits1_rel (m - 1) (by omega) x N hx hN Bn Bm W5 k1 k2) KeepB2.t (fun X o o' h2 h3 h4 => ⟨World.putObj_heap_other (by omega), World.putObj_heap_other (by omega)⟩) (fun X => ⟨rfl, rfl⟩) (Below.refl _ _) (fun _ => rfl)
    (SeqII n₀ w.heap.size Bn Bm x N k xs ((digs x N).map iv) w) (seqII_own hn₀ (by omega))
    ⟨⟨⟨⟨_, k0, by simpa using hrow5, trivial⟩, k1, k2⟩, hB0.mono hn₀⟩, Spares.of_below hB0⟩ (fun _ _ _ _ _ _ h _ _ => h) ?_ ?_ ?_ ?_
  rotate_left
  · intro l k x W K _ hK
    gi_wp2
    exact hK
  · rintro l j y W hlt ⟨⟨⟨⟨v, kv, hown, _⟩, kn, km⟩, hB⟩, hsp⟩ hy
    have ht : ((digs x N).map iv).take (j + 1) = ((digs x N).map iv).take j ++ [iv y] := by rw [List.take_add_one, List.getElem?_map, hy]; rfl
    have HT := Lib.hid ht
    clear ht hy
    have ko := kv.cell
    have kf := kv.frozen
    have hNW : n₀ ≤ W.heap.size := Nat.le_trans hn₀ hB.size
    have hn1 := own_ne (B := Bn) hown kn (by omega)
    have hn2 := own_ne (B := Bm) hown km (by omega)
    generalize ((digs x N).map iv).take j = zs at *
    gi_wp2_with (gi_at_builtin; refine wpListIn_append_own _ rfl _ _ 185 rfl n₀ 3 i0 (.int .i64 0) 1 8 Tryz.underlying185 hi hz0 hz1 hz2 rfl (by decide) v (k + j) (xs ++ zs) rfl (hown.alloc _) ⟨W.heap.size, 0, none⟩ 1 1 [iv y] rfl rfl (cell_one_new _ _ _) (by simp [Value.oneCell']) (by unfold maxLen; omega) (by omega) (by simp; omega) ?_; intro v' w1 hown' hgrow _; obtain ⟨g, cap, rfl⟩ := ownsRow_succ hown'; obtain ⟨hv1, kv', hrow', hk3, hbw⟩ := kv.appended (by decide) hown hNW hn₀ hown' hgrow; have ko1 := hv1.cell; have kf1 := hv1.frozen)
    have kn1 : Boxed w1 Bn 3 (.int .i64 (x : Nat)) := (kn.alloc _).kept hgrow hn1
    have kn3 := kn1.kept (grownBy_setCell' w1 w.heap.size (.slice (some ⟨g, 0, none⟩) (k + j + 1) cap)) (fun e => by cases e; omega)
    have km1 : Boxed w1 Bm 3 (.int .i64 (N : Nat)) := (km.alloc _).kept hgrow hn2
    have km3 := km1.kept (grownBy_setCell' w1 w.heap.size (.slice (some ⟨g, 0, none⟩) (k + j + 1) cap)) (fun e => by cases e; omega)
    have hsp1 := ((hsp.grown (World.grownBy_alloc W (.cells #[iv y] 3) none) (fun r e => by cases e)).grown hgrow (fun r e => .inr (ownsRow_block (hown.alloc _) r e))).grown (grownBy_setCell' w1 w.heap.size (.slice (some ⟨g, 0, none⟩) (k + j + 1) cap)) (fun r e => by cases e; exact .inl (Nat.le_refl _))
    exact ⟨hk3.from _, ⟨kn3.trans kn.symm, km3.trans km.symm⟩, ⟨⟨⟨_, kv', by rw [HT.out]; simpa [Nat.add_assoc] using hrow', trivial⟩, kn3, km3⟩, hB.trans hbw⟩, hsp1⟩
  · rintro D W hD ⟨⟨⟨⟨v, kv, hown, _⟩, _⟩, hB⟩, hsp⟩ hK
    have ko := kv.cell
    have HZ := Lib.hid hz
    clear hz
    gi_wp2
    have hD' : w.heap.size ≤ D := by have := HZ.out; omega
    have hB' := hB.trans (belowK_b (w := w) hn₀ _ D _ (.deferred none) hD' hK rfl rfl)
    have hown3 := ownsRow_putObj hown (.deferred none) hK rfl
    rw [List.take_of_length_le (by simp [digs_length])] at hown3
    refine ⟨by simp, .inl ⟨_, _, rfl, run_takeDeferred hK, ?_⟩⟩
    refine ⟨v, ?_, ?_⟩
    · simp [results, Tryz.f141, go_sem]
    · exact ⟨v, rfl, hown3, hB', hsp.grown (grownBy_putObj' _ D (.deferred none)) (fun r e => by cases e; exact .inl hD')⟩
theorem collectI_in (m : Nat) (hm : 4 ≤ m) (x N : Nat) (hx : x ≤ 16777215) (hN : N ≤ 16) (Bn Bm : Nat) (w : World)
    (kn : Boxed w Bn 3 (.int .i64 (x : Nat))) (km : Boxed w Bm 3 (.int .i64 (N : Nat))) :
    CallsIn Fence.wide m Tryz.prog 138 #[.func (.func 148) #[] #[.pointer (some ⟨Bm, 0, none⟩), .pointer (some ⟨Bn, 0, none⟩)]] w (RowW w.heap.size 3 N ((digs x N).map iv) w) := by
  have h1 : 1 ≤ m := by omega
  refine callsIn_of_wp Tryz.func138 rfl trivial ?_ rfl
  simp only [Tryz.ntmps138, List.size_toArray, List.length_cons, List.length_nil, Nat.reduceAdd, Nat.reduceSub, Array.replicate_succ, Array.replicate_zero, List.push_toArray, List.append_toArray, List.nil_append, List.cons_append]
  gi_wp2_with (refine ⟨trivial, ?_⟩; gi_at_call 141; refine (appendSeqI_in (m - 1) (by omega) w.heap.size 0 x N (by omega) hx hN _ [] Bn Bm w (Nat.le_refl _) (World.ownsRow_nil _ _ _ _) kn km (.inl ⟨kn.lt, km.lt⟩)).mono ?_; rintro e w' ⟨v, rfl, hown, hb, _⟩; obtain ⟨a, c, rfl⟩ := ownsRow_slice hown)
  go_ret
  exact ⟨_, rfl, by simpa using hown, hb⟩
end Go.Proofs.YtfoemkmoambagaaGreat
namespace Go.Proofs.YtfoemkmoambagaaGreat
open Go.RowKit Go.Shelf
attribute [local go_sem] Oper.semAt_some
theorem Tryz.infoStr : (Tryz.prog.info? 9).map (fun i => (i.zero, i.size, i.bytes)) = some (some (.string ⟨#[]⟩), 1, 16) := by kernel_rfl
def ButRows (e : TypeId) (B l : Nat) (W W' : World) : Prop := W.heap.size ≤ W'.heap.size ∧ ∀ (j : Nat) (o : Obj), W.heap[j]? = some o → j ≠ B → j ≠ l → (∀ cur fr, o ≠ .cells cur e fr) → W'.heap[j]? = some o
theorem ButRows.refl (e : TypeId) (B l : Nat) (W : World) : ButRows e B l W W := ⟨Nat.le_refl _, fun _ _ h _ _ _ => h⟩
theorem ButRows.t {e : TypeId} {B l : Nat} {X Y Z : World} (h : ButRows e B l X Y) (k : ButRows e B l Y Z) : ButRows e B l X Z :=
  ⟨Nat.le_trans h.1 k.1, fun j o hj h1 h2 h3 => k.2 j o (h.2 j o hj h1 h2 h3) h1 h2 h3⟩
theorem ButRows.b (e : TypeId) (B l : Nat) (W : World) (o' : Obj) : ButRows e B l W (W.putObj l o') := ⟨by simp, fun j o hj _ h2 _ => (World.putObj_heap_other h2).trans hj⟩
end Go.Proofs.YtfoemkmoambagaaGreat
namespace Go.Proofs.YtfoemkmoambagaaGreat
open Go.RowKit Go.Shelf
set_option maxRecDepth 100000 in
set_option maxHeartbeats 2000000 in
theorem short_any {o : Nat} (sv : Value) (w : World) (zs : List (SX o w.heap.size w)) (hreach : zs.length ≤ 140737488351232) (hfl : (flat zs).length ≤ 140737488353000) (hsv : SSl w.heap.size w sv zs) :
    Calls Tryz.prog 143 #[sv] w fun e W' => e = .returned (.string ((sumS (flat zs)).extract 0 8)) ∧ Below w.heap.size w W' := by
  have hsv0 := hsv
  obtain ⟨a, cap, rfl, _⟩ := hsv
  go_enter Tryz.func143, Tryz.ntmps143
  go_wp2_with fail
  refine (text_any _ _ zs hreach hfl hsv0).mono ?_
  rintro e w1 ⟨rfl, hb1⟩
  have h8 : 8 ≤ (sumS (flat zs)).size := by rw [sumS_size]; omega
  have h8' : (8 : Int) ≤ ((sumS (flat zs)).size : Int) := by omega
  generalize hs : sumS (flat zs) = s at *
  have HS := Lib.hid hs
  clear hs
  go_wp2_with fail
  go_ret
  exact ⟨by rw [HS.out]; rfl, hb1⟩
end Go.Proofs.YtfoemkmoambagaaGreat
namespace Go.Proofs.YtfoemkmoambagaaGreat
open Go.RowKit Go.Shelf
def shortB (l : List UInt8) : ByteArray := (sumS l).extract 0 8
theorem shortB_list (l : List UInt8) : (shortB l).data.toList = (sumL cb sq l).take 8 := by
  unfold shortB sumS
  simp [ByteArray.extract, ByteArray.copySlice]
theorem shortB_size (l : List UInt8) : (shortB l).size = 8 := by
  show (shortB l).data.size = 8
  rw [← Array.length_toList, shortB_list, List.length_take, show (sumL cb sq l).length = 32 from sumTo_length _ 8]
  rfl
theorem sx_list {o n : Nat} {w : World} : ∀ (vls : List (Value × List UInt8)), (∀ p ∈ vls, BSl 0 n w p.1 p.2 ∧ p.2.length ≤ o) → ∃ zs : List (SX o n w), zs.map (fun x => x.1) = vls
  | [], _ => ⟨[], rfl⟩
  | p :: vls, h => by
    obtain ⟨zs, hz⟩ := sx_list vls (fun q hq => h q (List.mem_cons_of_mem _ hq))
    exact ⟨⟨p, h p List.mem_cons_self⟩ :: zs, by rw [List.map_cons, hz]⟩
theorem flat_of {o n : Nat} {w : World} {zs : List (SX o n w)} {vls : List (Value × List UInt8)} (h : zs.map (fun x => x.1) = vls) : flat zs = (vls.map (·.2)).flatten := by
  rw [← h, List.map_map]; rfl
theorem short_of (W : World) (sv : Value) (vls : List (Value × List UInt8)) (hn : vls.length ≤ 1000000) (h : ∀ p ∈ vls, BSl 0 W.heap.size W p.1 p.2 ∧ p.2.length ≤ 140737488353000) (hfl : (vls.map (·.2)).flatten.length ≤ 140737488353000) (hsv : VSl 0 W.heap.size W sv (vls.map (·.1))) :
    Calls Tryz.prog 143 #[sv] W fun e W' => e = .returned (.string (shortB (vls.map (·.2)).flatten)) ∧ Below W.heap.size W W' := by
  obtain ⟨zs, hz⟩ := sx_list (o := 140737488353000) vls h
  have hl : zs.length = vls.length := by rw [← hz, List.length_map]
  have hf := flat_of hz
  have := short_any sv W zs (by omega) (by rw [hf]; exact hfl) (by
    obtain ⟨a, cap, e, _, h0⟩ := hsv
    refine ⟨a, cap, by rw [e, List.length_map, hl], ?_⟩
    rcases h0 with h0 | ⟨b, off, ha, _, hb, hr⟩
    · left
      apply List.eq_nil_of_length_eq_zero
      rw [hl]
      simpa using congrArg List.length h0
    · refine .inr ⟨b, off, ha, hb, fun k x hx => hr k _ ?_⟩
      rw [List.getElem?_map, ← hz, List.getElem?_map, hx]
      rfl)
  rw [hf] at this
  exact this
theorem short_one (W : World) (v : Value) (l : List UInt8) (h : BSl 0 W.heap.size W v l) (hl : l.length ≤ 140737488353000) :
    Calls Tryz.prog 143 #[.slice (some ⟨W.heap.size, 0, none⟩) 1 1] (W.alloc (.cells #[v] 98)) fun e W' => e = .returned (.string (shortB l)) ∧ Below W.heap.size W W' := by
  have hb : Below W.heap.size W (W.alloc (.cells #[v] 98)) := chain0 _ _
  have hs := short_of (W.alloc (.cells #[v] 98)) (.slice (some ⟨W.heap.size, 0, none⟩) 1 1) [(v, l)] (by simp) (fun p hp => by
    rw [List.mem_singleton] at hp
    subst hp
    exact ⟨(h.below hb (Nat.le_refl _)).mono (Nat.le_refl _) hb.size, hl⟩) (by simpa using hl) ⟨_, 1, rfl, Nat.le_refl _, .inr ⟨_, 0, rfl, Nat.zero_le _, by simp, fun k x hx => by
      have hk : k = 0 := by have := (List.getElem?_eq_some_iff.1 hx).1; simp at this; omega
      subst hk
      cases hx
      exact (Boxed.new W 98 v).cell⟩⟩
  refine hs.mono fun e W' ⟨he, hb2⟩ => ⟨?_, chain hb hb2⟩
  rw [he]
  simp
def linkB (s : ByteArray) : Nat → ByteArray
  | 0 => s
  | k + 1 => shortB (linkB s k).data.toList
theorem linkB_size (s : ByteArray) (k : Nat) : (linkB s k).size ≤ max s.size 8 := by
  cases k with
  | zero => exact Nat.le_max_left _ _
  | succ k => rw [show linkB s (k + 1) = shortB _ from rfl, shortB_size]; exact Nat.le_max_right _ _
end Go.Proofs.YtfoemkmoambagaaGreat
namespace Go.Proofs.YtfoemkmoambagaaGreat
open Go.RowKit Go.Shelf
theorem own_same {W W' : World} {base : Nat} {e : TypeId} {size k : Nat} {v : Value} {xs : List Value} (h : W.ownsRow base e size v k xs) (hk : ∀ g, v.ownBlock = some g → W'.heap[g]? = W.heap[g]?) : W'.ownsRow base e size v k xs := by
  obtain ⟨h1, h2⟩ := h
  refine ⟨h1, ?_⟩
  rcases h2 with h2 | ⟨g, cap, cur, rfl, hb, hh, r⟩
  · exact .inl h2
  · exact .inr ⟨g, cap, cur, rfl, hb, (hk g rfl).trans hh, r⟩
theorem own_below {W W' : World} {base : Nat} {e : TypeId} {size k : Nat} {v : Value} {xs : List Value} (h : W.ownsRow base e size v k xs) (hb : Below W.heap.size W W') : W'.ownsRow base e size v k xs :=
  own_same h fun g hg => hb.block g (World.ownsRow.lt h g hg).2
theorem own_turn {W W' : World} {row : Option Nat} {base : Nat} {e : TypeId} {size k : Nat} {v : Value} {xs : List Value} (h : W.ownsRow base e size v k xs) (hg : W.grownBy W' row) (hrow : ∀ r, row = some r → ∃ o : Obj, W.heap[r]? = some o ∧ o.isCells = false) : W'.ownsRow base e size v k xs :=
  own_same h fun g hgb => hg.block g (World.ownsRow.lt h g hgb).2 (fun e' => by
    obtain ⟨o, ho, hc⟩ := hrow g e'.symm
    obtain ⟨cur, fr, hcc⟩ := ownsRow_block h g hgb
    rw [hcc] at ho; cases ho; cases hc)
theorem own_base {W : World} {base base' : Nat} {e : TypeId} {size k : Nat} {v : Value} {xs : List Value} (h : W.ownsRow base e size v k xs) (hb : base' ≤ base) : W.ownsRow base' e size v k xs := by
  obtain ⟨h1, h2⟩ := h
  refine ⟨h1, ?_⟩
  rcases h2 with h2 | ⟨g, cap, cur, rfl, hg, r⟩
  · exact .inl h2
  · exact .inr ⟨g, cap, cur, rfl, Nat.le_trans hb hg, r⟩
def Pieces (N : Nat) (W : World) (vs : List Value) (bs : List (List UInt8)) : Prop := vs.length = bs.length ∧ ∀ (k : Nat) (v : Value) (b : List UInt8), vs[k]? = some v → bs[k]? = some b → W.ownsRow N 5 1 v b.length (b.map bv)
theorem Pieces.to {N : Nat} {W W' : World} {vs : List Value} {bs : List (List UInt8)} (h : Pieces N W vs bs) (hk : ∀ v b, W.ownsRow N 5 1 v b.length (b.map bv) → W'.ownsRow N 5 1 v (b : List UInt8).length (b.map bv)) : Pieces N W' vs bs :=
  ⟨h.1, fun k v b hv hb => hk v b (h.2 k v b hv hb)⟩
theorem Pieces.snoc {N : Nat} {W : World} {vs : List Value} {bs : List (List UInt8)} (h : Pieces N W vs bs) {v : Value} {b : List UInt8} (hb : W.ownsRow N 5 1 v b.length (b.map bv)) : Pieces N W (vs ++ [v]) (bs ++ [b]) :=
  ⟨by simp [h.1], fun k v' b' hv hb' => by
    by_cases hk : k < vs.length
    · rw [List.getElem?_append_left hk] at hv
      rw [List.getElem?_append_left (by rw [← h.1]; exact hk)] at hb'
      exact h.2 k v' b' hv hb'
    · have hkl : k = vs.length := by have := (List.getElem?_eq_some_iff.1 hv).1; simp at this; omega
      subst hkl
      rw [List.getElem?_append_right (Nat.le_refl _)] at hv
      rw [List.getElem?_append_right (by rw [h.1]; exact Nat.le_refl _), h.1] at hb'
      simp at hv hb'
      rw [← hv, ← hb']; exact hb⟩
end Go.Proofs.YtfoemkmoambagaaGreat
namespace Go.Proofs.YtfoemkmoambagaaGreat
open Go.RowKit Go.Shelf
attribute [local go_sem] Oper.semAt_some
theorem bsl_allBut {lo hi B l : Nat} {W W' : World} {sv : Value} {zs : List UInt8} (h : BSl lo hi W sv zs) (hk : AllBut B l W W') (hh : hi ≤ W.heap.size) (hB : B < lo ∨ hi ≤ B) (hl : l < lo ∨ hi ≤ l) : BSl lo hi W' sv zs := by
  obtain ⟨a, cap, e, hc, h0 | ⟨b, off, ha, h1, h2, ho⟩⟩ := h
  · exact ⟨a, cap, e, hc, .inl h0⟩
  · exact ⟨a, cap, e, hc, .inr ⟨b, off, ha, h1, h2, fun k x hx => (World.cell?_of_block (a := ⟨b, _, none⟩) (hk.2 b (by omega) (by omega) (by omega))).trans (ho k x hx)⟩⟩
theorem bsl_own {lo hi : Nat} {W W' : World} {row : Option Nat} {sv : Value} {zs : List UInt8} (h : BSl lo hi W sv zs) (hh : hi ≤ W.heap.size) (hg : W.grownBy W' row) (hr : ∀ r, row = some r → ∃ o : Obj, W.heap[r]? = some o ∧ o.isCells = false) : BSl lo hi W' sv zs := by
  obtain ⟨a, cap, e, hc, h0 | ⟨b, off, ha, h1, h2, ho⟩⟩ := h
  · exact ⟨a, cap, e, hc, .inl h0⟩
  · refine ⟨a, cap, e, hc, .inr ⟨b, off, ha, h1, h2, fun k x hx => ?_⟩⟩
    have hc := ho k x hx
    refine (World.cell?_of_block (a := ⟨b, _, none⟩) (hg.block b (by omega) (fun e => ?_))).trans hc
    obtain ⟨o, ho', hoc⟩ := hr b e.symm
    simp only [World.cell?, ho'] at hc
    cases o <;> first | (cases hoc; done) | (simp at hc)
def LinkAt (lo hi n : Nat) (W : World) (v : Value) (l : List UInt8) : Prop := BSl lo hi W v l ∨ BSl n W.heap.size W v l
theorem LinkAt.bsl {lo hi n : Nat} {W : World} {v : Value} {l : List UInt8} (h : LinkAt lo hi n W v l) (h1 : lo ≤ n) (h2 : hi ≤ W.heap.size) : BSl lo W.heap.size W v l := by
  rcases h with h | h
  · exact h.mono (Nat.le_refl _) h2
  · exact h.mono h1 (Nat.le_refl _)
theorem LinkAt.allBut {lo hi n B l : Nat} {W W' : World} {v : Value} {zs : List UInt8} (h : LinkAt lo hi n W v zs) (hk : AllBut B l W W') (h2 : hi ≤ W.heap.size) (hlo : lo ≤ n) (hB : B < lo) (hl : hi ≤ l) (hln : l < n) : LinkAt lo hi n W' v zs := by
  rcases h with h | h
  · exact .inl (bsl_allBut h hk h2 (.inl hB) (.inr hl))
  · exact .inr ((bsl_allBut h hk (Nat.le_refl _) (.inl (by omega)) (.inl hln)).mono (Nat.le_refl _) hk.1)
set_option maxRecDepth 100000 in
set_option maxHeartbeats 4000000 in
theorem chain1_rel (m : Nat) (hm : 1 ≤ m) (s : ByteArray) (hs : s.size ≤ 140737488353000) (N : Nat) (hN : N ≤ 3) (B Bl Bk : Nat) (lv : Value) (w : World) (hB : B < w.heap.size) (kl : Boxed w Bl 98 lv) (kk : Boxed w Bk 3 (.int .i64 (N : Nat))) (hl : BSl (B + 1) w.heap.size w lv s.data.toList) :
    SeqRel Fence.wide m Tryz.prog 153 #[.pointer (some ⟨Bl, 0, none⟩), .pointer (some ⟨Bk, 0, none⟩)] (N + 1) (fun k r W => ∃ y : Value, BSl (B + 1) W.heap.size W y (linkB s k).data.toList ∧ r = #[y]) (AllBut B) w := fun l J W hW hl0 hlW hJ hY h0 => by
  have hcl : Boxed W Bl 98 lv := (hW.block Bl kl.lt).trans kl
  have hck : Boxed W Bk 3 (.int .i64 (N : Nat)) := (hW.block Bk kk.lt).trans kk
  replace hl := hl.below hW (Nat.le_refl _)
  have h1 : 1 ≤ m := hm
  have cl := hcl.cell
  have ck := hck.cell
  have hwW := hW.size
  obtain ⟨la, lc, hle⟩ := bsl_slice hl
  subst hle
  refine callsIn_of_wp Tryz.func153 rfl trivial ?_ rfl
  simp only [Tryz.ntmps153, List.size_toArray, List.length_cons, List.length_nil, Nat.reduceAdd, Nat.reduceSub, Array.replicate_succ, Array.replicate_zero, List.push_toArray, List.append_toArray, List.nil_append, List.cons_append]
  have HL : LinkAt (B + 1) w.heap.size W.heap.size W (.slice la s.data.toList.length lc) (linkB s 0).data.toList := .inl hl
  clear hl
  generalize s.data.toList.length = sl at *
  gi_wp2
  clear cl ck
  gi_loopw [4, 7] (fun v i wr => ∃ k : Nat, k ≤ N ∧ i = .int .i64 (k : Nat) ∧ LinkAt (B + 1) w.heap.size W.heap.size wr v (linkB s k).data.toList ∧ J k wr ∧ W.heap.size ≤ wr.heap.size) (fun _ i _ => N - (intOf i).toNat)
  case atStart => exact ⟨0, by omega, rfl, HL, h0, Nat.le_refl _⟩
  clear HL h0 hcl hck
  case round =>
    obtain ⟨k, hk, rfl, hlk, hJk, hsz⟩ := hrel
    have hbs := hlk.bsl (by omega) (by omega)
    obtain ⟨va, vc, hve⟩ := bsl_slice hbs
    subst hve
    obtain ⟨fn, tmps, assign, body, hy, hR⟩ := hY k #[.slice va (linkB s k).data.toList.length vc] wr (by omega) ⟨_, hbs, rfl⟩ hJk
    have hLk : (linkB s k).data.toList.length ≤ 140737488353000 := by
      have := linkB_size s k
      rw [show (linkB s k).data.toList.length = (linkB s k).size from rfl]
      omega
    generalize hL : (linkB s k).data.toList.length = len at *
    have HLn := Lib.hid hL
    clear hL
    by_cases hlt : k < N
    · have hlt' : (k : Int) < (N : Int) := by omega
      gi_wp2
      clear hy
      refine hR.mono ?_
      rintro e W3 ⟨rfl, hJ3, hk3⟩
      replace hlk := hlk.allBut hk3 (by omega) (by omega) (by omega) hl0 hlW
      have hsz3 := Nat.le_trans hsz hk3.1
      replace hbs := hlk.bsl (by omega) (by omega)
      gi_wp2_with fail
      refine ⟨trivial, ?_⟩
      refine (callsIn_wide.2 (short_one W3 _ _ (hbs.mono (Nat.zero_le _) (Nat.le_refl _)) (by rw [HLn.out]; exact hLk))).mono ?_
      rintro e W4 ⟨rfl, hb4⟩
      obtain ⟨c5, W5, hcv, hc5, hb5, hz5, ho5⟩ := conv_bytes W4 (shortB (linkB s k).data.toList)
      have hnew := conv_bsl hc5 hz5 ho5
      have hb35 : Below W3.heap.size W3 W5 := chain hb4 hb5
      have hJ5 := hJ (k + 1) W3 W5 none hJ3 (grown_of_below hb35) (by simp)
      have hsz5 := Nat.le_trans hsz3 hb35.size
      have hsz4 := Nat.le_trans hsz3 hb4.size
      have HN : LinkAt (B + 1) w.heap.size W.heap.size W5 (.slice (some ⟨W4.heap.size, 0, none⟩) (shortB (linkB s k).data.toList).size c5) (linkB s (k + 1)).data.toList := .inr (hnew.mono hsz4 (Nat.le_refl _))
      clear hbs hlk hc5 hz5 ho5 hnew
      generalize hq : (shortB (linkB s k).data.toList).size = q5 at *
      have HQ := Lib.hid hq
      clear hq
      gi_wp2_with fail
      go_roundw
      case rel => exact ⟨k + 1, by omega, by simp, HN, hJ5, hsz5⟩
      case measure => simp [intOf]; omega
    · obtain rfl : k = N := by omega
      gi_wp2
      clear hy
      refine hR.mono ?_
      rintro e W3 ⟨rfl, hJ3, hk3⟩
      gi_wp2
      go_end0
      exact ⟨⟨_, rfl⟩, hJ3⟩
set_option maxHeartbeats 1000000 in
theorem chain_in (F : Fence) (m : Nat) (h : F.fn 152) (hro : F.round = none) (a : Option Addr) (len cap : Nat) (N : Int) (w : World) :
    CallsIn F m Tryz.prog 152 #[.slice a len cap, .int .i64 N] w fun e w' => e = .returned (.func (.func 153) #[] #[.pointer (some ⟨w.heap.size, 0, none⟩), .pointer (some ⟨w.heap.size + 1, 0, none⟩)]) ∧ w' = (w.alloc (.cells #[.slice a len cap] 98)).alloc (.cells #[.int .i64 N] 3) := by
  refine callsIn_of_wp Tryz.func152 rfl h ?_ hro
  simp only [Tryz.ntmps152, List.size_toArray, List.length_cons, List.length_nil, Nat.reduceAdd, Nat.reduceSub, Array.replicate_succ, Array.replicate_zero, List.push_toArray, List.append_toArray, List.nil_append, List.cons_append]
  gi_wp2
  go_ret
  exact ⟨rfl, rfl⟩
def stp (n : Int) : Nat := if n ≤ 0 then 0 else if 3 ≤ n then 3 else n.toNat
theorem stp_le (n : Int) : stp n ≤ 3 := by unfold stp; split <;> (try split) <;> omega
theorem stp_cases (z : Int) : (z < 0 ∧ (stp z : Int) = 0) ∨ (0 ≤ z ∧ z ≤ 3 ∧ (stp z : Int) = z) ∨ (3 < z ∧ (stp z : Int) = 3) := by
  unfold stp
  by_cases h1 : z < 0
  · left; rw [if_pos (by omega)]; exact ⟨h1, rfl⟩
  · by_cases h2 : z ≤ 3
    · right; left
      refine ⟨by omega, h2, ?_⟩
      split <;> (try split) <;> omega
    · right; right
      rw [if_neg (by omega), if_pos (by omega)]; exact ⟨by omega, rfl⟩
def WalkI (B : Nat) (s : ByteArray) (w : World) (k : Nat) (W : World) : Prop := (∃ v, Boxed W B 98 v ∧ (1 ≤ k → BSl (B + 1) W.heap.size W v (linkB s (k - 1)).data.toList)) ∧ Below w.heap.size w W
theorem walkI_own {B : Nat} {s : ByteArray} {w : World} {C : Nat} (hC : w.heap.size ≤ C) : OwnFrom C (WalkI B s w) :=
  OwnFrom.and (fun _ X Y row ⟨v, hv, hb⟩ hg hr => ⟨v, blk_own B 98 (fun _ : Unit => [v]) () X Y row hv hg (fun r e => (hr r e).2), fun hk => (bsl_own (hb hk) (Nat.le_refl _) hg (fun r e => (hr r e).2)).mono (Nat.le_refl _) hg.size⟩) (ownFrom_below (Nat.le_refl _) hC)
set_option maxRecDepth 100000 in
set_option maxHeartbeats 4000000 in
theorem links_in (m : Nat) (hm : 3 ≤ m) (s : ByteArray) (hs : s.size ≤ 140737488353000) (n : Int) (w : World) :
    CallsIn Fence.wide m Tryz.prog 145 #[.string s, .int .i64 n] w fun e W' => e = .returned (.string (linkB s (stp n))) ∧ Below w.heap.size w W' := by
  have h1 : 1 ≤ m := by omega
  refine callsIn_of_wp_marks Tryz.func145 rfl trivial ?_ rfl
  simp only [Tryz.ntmps145, List.size_toArray, List.length_cons, List.length_nil, Nat.reduceAdd, Nat.reduceSub, Array.replicate_succ, Array.replicate_zero, List.push_toArray, List.append_toArray, List.nil_append, List.cons_append]
  obtain ⟨c1, W1, hcv, hc1, hb1, hz1, ho1⟩ := conv_bytes (w.alloc (.cells #[.slice none 0 0] 98)) s
  have hb1' : Below w.heap.size w W1 := chain (chain0 _ _) hb1
  have hz1' : W1.heap.size = w.heap.size + 2 := by rw [hz1]; simp
  have hnew := conv_bsl hc1 hz1 ho1
  have kb : Boxed W1 w.heap.size 98 (.slice none 0 0) := (hb1.block w.heap.size (by simp)).trans (Boxed.new _ _ _)
  have hze : (w.alloc (.cells #[.slice none 0 0] 98)).heap.size = w.heap.size + 1 := by simp
  rw [hze] at hnew hcv
  have h3 := stp_le n
  have hCC := stp_cases n
  have HZ1 := Lib.hid hz1'
  clear hz1 hz1' ho1 hb1 hze
  generalize stp n = N at *
  rcases hCC with ⟨hc0, hC⟩ | ⟨hc0, hc8, hC⟩ | ⟨hc8, hC⟩
  all_goals
    have HC := Lib.hid hC
    clear hC
    gi_wp2_with (refine ⟨trivial, ?_⟩; gi_at_call 152; refine (chain_in Fence.wide (m - 1) trivial rfl _ _ _ _ _).mono ?_; rintro e w' ⟨rfl, rfl⟩)
    generalize hW5 : World.alloc _ _ = W5
    have k0 : Boxed W5 w.heap.size 98 (.slice none 0 0) := by rw [← hW5]; exact (kb.alloc _).alloc _
    have k1 : Boxed W5 W1.heap.size 98 (.slice (some ⟨w.heap.size + 1, 0, none⟩) s.size c1) := by rw [← hW5]; exact (Boxed.new _ _ _).alloc _
    have k2 : Boxed W5 (W1.heap.size + 1) 3 (.int .i64 (N : Nat)) := by rw [HC.out, ← hW5]; exact Blk.new' (vs := [.int .i64 _]) (by simp)
    have hB1 : Below W1.heap.size W1 W5 := by rw [← hW5]; exact chainA (chain0 _ _) _
    have hz : W5.heap.size = W1.heap.size + 2 := by rw [← hW5]; simp
    have hB0 : Below w.heap.size w W5 := chain hb1' hB1
    clear hW5
    refine wpIn_rangeFunc_relA (encs := fun y : Value => #[y]) (R := fun k y W => BSl (w.heap.size + 1) W.heap.size W y (linkB s k).data.toList) rfl h1 (gf := 153) (lb := #[.pointer (some ⟨W1.heap.size, 0, none⟩), .pointer (some ⟨W1.heap.size + 1, 0, none⟩)]) rfl trivial (enters_of Tryz.func153 (by kernel_rfl) rfl)
      (chain1_rel (m - 1) (by omega) s hs N h3 w.heap.size W1.heap.size (W1.heap.size + 1) _ W5 (by have := HZ1.out; omega) k1 k2 ((hnew.below hB1 (Nat.le_refl _)).mono (Nat.le_refl _) hB1.size)) AllBut.t (fun X o o' _ _ _ => AllBut.b _ _ X o') (fun X => AllBut.refl _ _ X) (Below.refl _ _) (fun _ => rfl)
      (WalkI w.heap.size s w) (walkI_own hB0.size) ⟨⟨_, k0, fun h => by omega⟩, hB0⟩ (fun k y _ X Y row h hg hr => (bsl_own h (Nat.le_refl _) hg (fun r e => (hr r e).2)).mono (Nat.le_refl _) hg.size) ?_ ?_ ?_ ?_
    rotate_left
    · intro l k y W K _ hK
      gi_wp2
      exact hK
    · rintro r k y W hlt ⟨⟨v, kv, _⟩, hB⟩ hy
      obtain ⟨ya, yc, hye⟩ := bsl_slice hy
      have ko := kv.cell
      have kf := kv.frozen
      subst hye
      generalize hL : (linkB s k).data.toList.length = len at *
      have HLn := Lib.hid hL
      clear hL
      gi_wp2
      have hA : AllBut w.heap.size (W5.heap.size + 1) W (W.setCell ⟨w.heap.size, 0, none⟩ (.slice ya len yc)) := AllBut.of_grown (grownBy_setCell' W w.heap.size _)
      refine ⟨(KeepsOthers.setCell _ _ _).from _, hA, ⟨_, kv.set _, fun _ => ?_⟩, hB.setCell (p := ⟨w.heap.size, 0, none⟩) (Nat.le_refl _) _⟩
      have := (hy.kept (Nat.le_refl _) (grownBy_setCell' W w.heap.size (.slice ya len yc)) (fun r e => by cases e; omega)).mono (Nat.le_refl _) hA.1
      exact this
    · rintro D W hD ⟨⟨v, kv, hv⟩, hB⟩ hK
      replace hv := hv (by omega)
      rw [show N + 1 - 1 = N from rfl] at hv
      have ko := kv.cell
      have hcs := run_string (P := Tryz.prog) 98 5 9 Tryz.underlying98 Tryz.underlying5 Tryz.underlying9 W hv
      obtain ⟨va, vc, hve⟩ := bsl_slice hv
      subst hve
      generalize hL : (linkB s N).data.toList.length = len at *
      have HLn := Lib.hid hL
      have HZ := Lib.hid hz
      clear hL hz
      gi_wp2_with fail
      have hB' := hB.trans (belowK_b (w := w) (Nat.le_refl _) _ D _ (.deferred none) (by have := HZ.out; have := hb1'.size; omega) hK rfl rfl)
      refine ⟨by simp, .inl ⟨_, _, rfl, run_takeDeferred hK, ?_⟩⟩
      refine ⟨.string (linkB s N), ?_, ?_⟩
      · simp [results, Tryz.f145, go_sem]
      · exact ⟨rfl, hB'⟩
theorem walk_any (s : ByteArray) (hs : s.size ≤ 140737488353000) (n : Int) (w : World) :
    Calls Tryz.prog 145 #[.string s, .int .i64 n] w fun e W' => e = .returned (.string (linkB s (stp n))) ∧ Below w.heap.size w W' := callsIn_wide.1 (links_in 3 (by omega) s hs n w)
end Go.Proofs.YtfoemkmoambagaaGreat
namespace Go.Proofs.YtfoemkmoambagaaGreat
open Go.RowKit Go.Shelf
attribute [local go_sem] Oper.semAt_some
set_option maxRecDepth 100000 in
set_option maxHeartbeats 4000000 in
theorem allT1_in (m : Nat) (hm : 1 ≤ m) (l Bs n₀ b off cap : Nat) (zs : List ByteArray) (hreach : zs.length ≤ 140737488351232) (hb : b < n₀) (J : Nat → World → Prop)
    (W : World)
    (hY : ∀ k x W1, zs[k]? = some x → J k W1 → YieldAt Fence.wide (m - 1) Tryz.prog l #[.int .i64 (k : Int), tv x] W1 fun e W' => e = .returned (.bool true) ∧ J (k + 1) W' ∧ Below n₀ W1 W')
    (hBs : W.cell? ⟨Bs, 0, none⟩ = some (.slice (some ⟨b, off, none⟩) zs.length cap)) (hc : Row W b off (zs.map tv)) (h0 : J 0 W) :
    CallsIn Fence.wide m Tryz.prog 151 #[.func (.yield l) #[] #[], .pointer (some ⟨Bs, 0, none⟩)] W fun e W' => (∃ v, e = .returned v) ∧ J zs.length W' := by
  refine callsIn_of_wp Tryz.func151 rfl trivial ?_ rfl
  simp only [Tryz.ntmps151, List.size_toArray, List.length_cons, List.length_nil, Nat.reduceAdd, Nat.reduceSub, Array.replicate_succ, Array.replicate_zero, List.push_toArray, List.append_toArray, List.nil_append, List.cons_append]
  gi_wp2
  gi_loopw [7] (fun i wr => ∃ k : Nat, k ≤ zs.length ∧ i = .int .i64 k ∧ J k wr ∧ Below n₀ W wr) (fun i _ => zs.length - (intOf i).toNat)
  case atStart => exact ⟨0, Nat.zero_le _, rfl, h0, Below.refl _ _⟩
  case round =>
    obtain ⟨k, hk, rfl, hJs, hnx⟩ := hrel
    by_cases hlt : k < zs.length
    · obtain ⟨x, hx⟩ : ∃ x, zs[k]? = some x := ⟨_, List.getElem?_eq_getElem hlt⟩
      have c0 : wr.cell? ⟨b, off + k, none⟩ = some (tv x) := (hc.below hnx hb) k _ (by rw [List.getElem?_map, hx]; rfl)
      have hk0 : (k : Int) < (zs.length : Int) := by omega
      obtain ⟨fn, tmps, assign, body, hy, hR⟩ := hY k x wr hx hJs
      simp only [tv] at c0 hy
      clear hx
      generalize hL : zs.length = len at *
      have HL := Lib.hid hL
      clear hL
      gi_wp2
      refine hR.mono ?_
      rintro e W3 ⟨rfl, hJ3, hk3⟩
      gi_wp2
      go_roundw
      case rel => exact ⟨k + 1, by omega, by simp, hJ3, hnx.trans hk3⟩
      case measure => simp [intOf]; omega
    · obtain rfl : k = zs.length := by omega
      gi_wp2
      go_end0
      exact ⟨⟨_, rfl⟩, hJs⟩
set_option maxRecDepth 100000 in
set_option maxHeartbeats 1000000 in
theorem allT1_nil_in (m : Nat) (l Bs : Nat) (a : Option Addr) (cap : Nat) (J : World → Prop) (W : World) (hBs : W.cell? ⟨Bs, 0, none⟩ = some (.slice a 0 cap)) (h0 : J W) :
    CallsIn Fence.wide m Tryz.prog 151 #[.func (.yield l) #[] #[], .pointer (some ⟨Bs, 0, none⟩)] W fun e W' => (∃ v, e = .returned v) ∧ J W' := by
  refine callsIn_of_wp Tryz.func151 rfl trivial ?_ rfl
  simp only [Tryz.ntmps151, List.size_toArray, List.length_cons, List.length_nil, Nat.reduceAdd, Nat.reduceSub, Array.replicate_succ, Array.replicate_zero, List.push_toArray, List.append_toArray, List.nil_append, List.cons_append]
  gi_wp2
  gi_loopw [7] (fun i wr => i = .int .i64 0 ∧ J wr) (fun _ _ => 0)
  case atStart => exact ⟨rfl, h0⟩
  case round =>
    obtain ⟨rfl, hJs⟩ := hrel
    gi_wp2
    go_end0
    exact ⟨⟨_, rfl⟩, hJs⟩
set_option maxHeartbeats 1000000 in
theorem allT_in (F : Fence) (n : Nat) (h5 : F.fn 144) (hro : F.round = none) (a : Option Addr) (len cap : Nat) (w : World) :
    CallsIn F n Tryz.prog 144 #[.slice a len cap] w fun e w' => e = .returned (.func (.func 151) #[] #[.pointer (some ⟨w.heap.size, 0, none⟩)]) ∧ w' = w.alloc (.cells #[.slice a len cap] 176) := by
  refine callsIn_of_wp Tryz.func144 rfl h5 ?_ hro
  simp only [Tryz.ntmps144, List.size_toArray, List.length_cons, List.length_nil, Nat.reduceAdd, Nat.reduceSub, Array.replicate_succ, Array.replicate_zero, List.push_toArray, List.append_toArray, List.nil_append, List.cons_append]
  gi_wp2
  go_ret
  exact ⟨rfl, rfl⟩
theorem allT_rel (m : Nat) (hm : 1 ≤ m) (Bs n₀ : Nat) (sv : Value) (zs : List ByteArray) (hreach : zs.length ≤ 140737488351232) (w : World) (hn₀ : n₀ ≤ w.heap.size)
    (hk : Boxed w Bs 176 sv) (hI : VSl 0 n₀ w sv (zs.map tv)) :
    SeqRel Fence.wide m Tryz.prog 151 #[.pointer (some ⟨Bs, 0, none⟩)] zs.length (fun k r _ => ∃ y : Nat × ByteArray, (y.1 = k ∧ zs[k]? = some y.2) ∧ r = #[.int .i64 (y.1 : Int), tv y.2]) (fun _ => Below n₀) w := fun l J W hW _ _ _ hY h0 => by
  have hc' := (hW.cell (p := ⟨Bs, 0, none⟩) hk.lt).trans hk.cell
  obtain ⟨a, cap, rfl, _, h0' | ⟨b, off, rfl, _, hb, hcs⟩⟩ := hI.below hW hn₀
  · rw [List.map_eq_nil_iff] at h0'
    subst h0'
    exact (allT1_nil_in m l Bs a cap (J 0) W hc' h0).mono fun e W' ⟨he, hj⟩ => ⟨he, hj⟩
  · rw [List.length_map] at hc'
    exact allT1_in m hm l Bs n₀ b off cap zs hreach hb J W (fun k x W1 hx hj => hY k _ W1 (List.getElem?_eq_some_iff.1 hx).1 ⟨(k, x), ⟨rfl, hx⟩, rfl⟩ hj) hc' hcs h0
end Go.Proofs.YtfoemkmoambagaaGreat
namespace Go.Proofs.YtfoemkmoambagaaGreat
open Go.RowKit Go.Shelf
attribute [local go_sem] Oper.semAt_some
def walked (zs : List ByteArray) (d : Nat → Int) : List ByteArray := zs.mapIdx fun k x => linkB x (stp (d k))
theorem walked_length (zs : List ByteArray) (d : Nat → Int) : (walked zs d).length = zs.length := by simp [walked]
theorem walked_at {zs : List ByteArray} (d : Nat → Int) {k : Nat} {x : ByteArray} (h : zs[k]? = some x) : (walked zs d)[k]? = some (linkB x (stp (d k))) := by
  unfold walked
  rw [List.getElem?_mapIdx, h]; rfl
def WallI (n₀ B Bf : Nat) (fv : Value) (ys : List Value) (w : World) (k : Nat) (W : World) : Prop :=
  ((∃ v, Boxed W B 176 v ∧ W.ownsRow n₀ 9 1 v k (ys.take k) ∧ True) ∧ Boxed W Bf 63 fv) ∧ Below n₀ w W
theorem wallI_own {n₀ Bb Bf : Nat} {fv : Value} {ys : List Value} {w : World} {B : Nat} (h : n₀ ≤ w.heap.size) (hB : n₀ ≤ B) : OwnFrom B (WallI n₀ Bb Bf fv ys w) :=
  OwnFrom.and (OwnFrom.and (Own.from (holdsRow_own n₀ Bb 176 9 1 (fun j : Nat => j) (fun j => ys.take j) (fun _ _ => True)) _)
    (Own.from (fun _ X Y row hs hg hr => blk_own Bf 63 (fun (_ : Unit) => [fv]) () X Y row hs hg hr) _)) (ownFrom_below h hB)
set_option maxRecDepth 100000 in
set_option maxHeartbeats 8000000 in
theorem walkAll_in (m : Nat) (hm : 3 ≤ m) (zs : List ByteArray) (hn : zs.length ≤ 1000000) (hz : ∀ x ∈ zs, x.size ≤ 140737488353000) (d : Nat → Int) (sv : Value) (w : World) (hsv : VSl 0 w.heap.size w sv (zs.map tv))
    (fid : Nat) (lb : Array Value) (eg : ∀ args w, (callFunc fid args).run Tryz.prog w = .ok (.enter fid args) w)
    (hst : ∀ k W, k < zs.length → Below w.heap.size w W → Calls Tryz.prog fid (#[.int .i64 (k : Int)] ++ lb) W fun e W' => e = .returned (.int .i64 (d k)) ∧ Below W.heap.size W W') :
    CallsIn Fence.wide m Tryz.prog 130 #[sv, .func (.func fid) #[] lb] w (RowW w.heap.size 9 zs.length ((walked zs d).map tv) w) := by
  have h1 : 1 ≤ m := by omega
  have hmx : Tryz.prog.follows .mixedOrders = true := by kernel_rfl
  have hsv0 := hsv
  obtain ⟨a, cap, rfl⟩ := hsv.slice
  rw [List.length_map] at hsv0 ⊢
  clear hsv
  refine callsIn_of_wp_marks Tryz.func130 rfl trivial ?_ rfl
  simp only [Tryz.ntmps130, List.size_toArray, List.length_cons, List.length_nil, Nat.reduceAdd, Nat.reduceSub, Array.replicate_succ, Array.replicate_zero, List.push_toArray, List.append_toArray, List.nil_append, List.cons_append]
  obtain ⟨i0, hi, hz0, hz1, hz2⟩ := info_parts Tryz.infoStr
  gi_wp2_with (refine ⟨trivial, ?_⟩; gi_at_call 144; refine (allT_in Fence.wide (m - 1) trivial rfl _ _ _ _).mono ?_; rintro e w' ⟨rfl, rfl⟩)
  generalize hW5 : World.alloc _ _ = W5
  have kf : Boxed W5 w.heap.size 63 (.func (.func fid) #[] lb) := by rw [← hW5]; exact ((Boxed.new _ _ _).alloc _).alloc _
  have k0 : Boxed W5 (w.heap.size + 1) 176 (.slice none 0 0) := by rw [← hW5]; exact (Blk.new' (vs := [.slice none 0 0]) (by simp)).alloc _
  have k2 : Boxed W5 (w.heap.size + 1 + 1) 176 (.slice a zs.length cap) := by rw [← hW5]; exact Blk.new' (vs := [_]) (by simp)
  have hB0 : Below w.heap.size w W5 := by rw [← hW5]; exact chainA (chainA (chain0 _ _) _) _
  have hz5 : W5.heap.size = w.heap.size + 3 := by rw [← hW5]; simp
  clear hW5
  refine wpIn_rangeFunc_relA (encs := fun y : Nat × ByteArray => #[.int .i64 (y.1 : Int), tv y.2]) (R := fun k y _ => y.1 = k ∧ zs[k]? = some y.2) rfl h1 (gf := 151) (lb := #[.pointer (some ⟨w.heap.size + 1 + 1, 0, none⟩)]) rfl trivial (enters_of Tryz.func151 (by kernel_rfl) rfl)
    (allT_rel (m - 1) (by omega) (w.heap.size + 1 + 1) w.heap.size _ zs (by omega) W5 (by omega) k2 (hsv0.below hB0 (Nat.le_refl _))) (fun h k => h.trans k) (fun X o o' h2 h3 h4 => belowK_b (w := w) (Nat.le_refl _) _ _ o o' (by omega) h2 h3 h4) (fun X => Below.refl _ X) (Below.refl _ _) (fun _ => rfl)
    (WallI w.heap.size (w.heap.size + 1) w.heap.size (.func (.func fid) #[] lb) ((walked zs d).map tv) w) (wallI_own (Nat.le_refl _) (by omega))
    ⟨⟨⟨_, k0, World.ownsRow_nil _ _ _ _, trivial⟩, kf⟩, hB0⟩ (fun _ _ _ _ _ _ h _ _ => h) ?_ ?_ ?_ ?_
  rotate_left
  · intro l k y W K hr hK
    clear hr
    gi_wp2
    exact hK
  · rintro l k' ⟨k, x⟩ W hlt ⟨⟨⟨v, kv, hown, _⟩, kf⟩, hB⟩ ⟨hy1, hx⟩
    dsimp only at hy1 hx
    subst hy1
    have ht : ((walked zs d).map tv).take (k + 1) = ((walked zs d).map tv).take k ++ [tv (linkB x (stp (d k)))] := by rw [List.take_add_one, List.getElem?_map, walked_at d hx]; rfl
    have HT := Lib.hid ht
    have hxs := hz x (List.mem_of_getElem? hx)
    have HL := Lib.hid hlt
    clear ht hx hlt
    generalize ((walked zs d).map tv).take k = ts at *
    obtain ⟨va, vc, rfl⟩ := ownsRow_slice hown
    have HZ5 := Lib.hid hz5
    clear hz5 k0 k2
    gi_wp2_with fail
    refine wpIn_round_any hmx (by kernel_rfl) ?_
    change wpAny _ _ _ _ _ _ _ W.drew
    have hWd : Below W.heap.size W W.drew := (Below.refl _ W).drew
    replace kv : Boxed W.drew (w.heap.size + 1) 176 (.slice va k vc) := kv
    replace kf : Boxed W.drew w.heap.size 63 (.func (.func fid) #[] lb) := kf
    replace hown : W.drew.ownsRow w.heap.size 9 1 (.slice va k vc) k ts := hown
    generalize W.drew = Y at *
    refine' wpAny_take (i := 1) (oi := _) (v := _) ?hi1 (by kernel_rfl) (by kernel_rfl) (by kernel_rfl) ?hQ1 (Or.inl ⟨?hw1, ?hy1⟩) ?rest1
    case hi1 => simp only [List.getElem?_toArray, List.getElem?_cons_succ, List.getElem?_cons_zero]; rfl
    case hQ1 => exact fun _ _ _ h => h
    case hw1 => rfl
    case hy1 => intro W'; go_simp; with_reducible rfl
    try simp only [Act.put, List.setIfInBounds_toArray, List.set_cons_zero, List.set_cons_succ]
    refine' wpAny_take (i := 3) (oi := _) (v := _) ?hi2 (by kernel_rfl) (by kernel_rfl) (by kernel_rfl) ?hQ2 (Or.inl ⟨?hw2, ?hy2⟩) ?rest2
    case hi2 => simp only [List.getElem?_toArray, List.getElem?_cons_succ, List.getElem?_cons_zero]; rfl
    case hQ2 => exact fun _ _ _ h => h
    case hw2 => rfl
    case hy2 => intro W'; go_simp; with_reducible rfl
    try simp only [Act.put, List.setIfInBounds_toArray, List.set_cons_zero, List.set_cons_succ]
    refine wpAny_ready (rs := [0, 2]) (by kernel_rfl) (by simp) ?_
    refine' AllReady.cons (o := _) ?ho4 (fun K hK => ?st4) (AllReady.cons (o := _) ?ho3 (fun K hK => ?st3) AllReady.nil)
    case ho4 => simp only [List.getElem?_toArray, List.getElem?_cons_zero]; rfl
    case ho3 => simp only [List.getElem?_toArray, List.getElem?_cons_succ, List.getElem?_cons_zero]; rfl
    case st4 =>
      have cs := kv.cell
      go_simp
      clear cs
      refine hK _ _ ?_
      clear hK K
      try simp only [Act.put, List.setIfInBounds_toArray, List.set_cons_zero, List.set_cons_succ]
      refine wpAny_ready (rs := [2]) (by kernel_rfl) (by simp) ?_
      refine' AllReady.cons (o := _) ?ho5 (fun K hK => ?st5) AllReady.nil
      case ho5 => simp only [List.getElem?_toArray, List.getElem?_cons_succ, List.getElem?_cons_zero]; rfl
      case st5 =>
        have cs := kf.cell
        go_simp
        clear cs
        refine hK _ _ ?_
        clear hK K
        try simp only [Act.put, List.setIfInBounds_toArray, List.set_cons_zero, List.set_cons_succ]
        refine wpAny_ready (rs := [4]) (by kernel_rfl) (by simp) ?_
        refine' AllReady.cons (o := _) ?ho6 (fun K hK => ?st6) AllReady.nil
        case ho6 => simp only [List.getElem?_toArray, List.getElem?_cons_succ, List.getElem?_cons_zero]; rfl
        case st6 =>
          go_simp
          refine (hst k Y HL.out (hB.trans (hWd.mono hB.size))).mono ?_
          rintro e Y1 ⟨rfl, hb⟩
          refine hK _ _ ?_
          clear hK K
          try simp only [Act.put, List.setIfInBounds_toArray, List.set_cons_zero, List.set_cons_succ]
          replace hWd := chain hWd hb
          replace kv : Boxed Y1 (w.heap.size + 1) 176 (.slice va k vc) := (hb.block _ kv.lt).trans kv
          replace kf : Boxed Y1 w.heap.size 63 (.func (.func fid) #[] lb) := (hb.block _ kf.lt).trans kf
          replace hown := own_below4 hown hb
          clear hb
          refine wpAny_ready (rs := [5]) (by kernel_rfl) (by simp) ?_
          refine' AllReady.cons (o := _) ?ho7 (fun K hK => ?st7) AllReady.nil
          case ho7 => simp only [List.getElem?_toArray, List.getElem?_cons_succ, List.getElem?_cons_zero]; rfl
          case st7 =>
            go_simp
            refine (walk_any x hxs (d k) _).mono ?_
            rintro e Y2 ⟨rfl, hb⟩
            refine hK _ _ ?_
            clear hK K
            try simp only [Act.put, List.setIfInBounds_toArray, List.set_cons_zero, List.set_cons_succ]
            replace hWd := chain hWd hb
            replace kv : Boxed Y2 (w.heap.size + 1) 176 (.slice va k vc) := (hb.block _ kv.lt).trans kv
            replace kf : Boxed Y2 w.heap.size 63 (.func (.func fid) #[] lb) := (hb.block _ kf.lt).trans kf
            replace hown := own_below4 hown hb
            clear hb
            refine wpAny_ready (rs := [6]) (by kernel_rfl) (by simp) ?_
            refine' AllReady.cons (o := _) ?ho8 (fun K hK => ?st8) AllReady.nil
            case ho8 => simp only [List.getElem?_toArray, List.getElem?_cons_succ, List.getElem?_cons_zero]; rfl
            case st8 =>
              go_simp
              refine hK _ _ ?_
              clear hK K
              try simp only [Act.put, List.setIfInBounds_toArray, List.set_cons_zero, List.set_cons_succ]
              have kt := cell_one_new Y2 (tv (linkB x (stp (d k)))) 9
              have hb : Below Y2.heap.size Y2 (Y2.alloc (.cells #[tv (linkB x (stp (d k)))] 9)) := chain0 _ _
              replace hWd := chain hWd hb
              replace kv : Boxed (Y2.alloc (.cells #[tv (linkB x (stp (d k)))] 9)) (w.heap.size + 1) 176 (.slice va k vc) := (hb.block _ kv.lt).trans kv
              replace kf : Boxed (Y2.alloc (.cells #[tv (linkB x (stp (d k)))] 9)) w.heap.size 63 (.func (.func fid) #[] lb) := (hb.block _ kf.lt).trans kf
              replace hown := own_below4 hown hb
              clear hb
              generalize (Y2.alloc (.cells #[tv (linkB x (stp (d k)))] 9)) = Y3 at *
              generalize Y2.heap.size = gt at *
              refine wpAny_ready (rs := [7]) (by kernel_rfl) (by simp) ?_
              refine' AllReady.cons (o := _) ?ho9 (fun K hK => ?st9) AllReady.nil
              case ho9 => simp only [List.getElem?_toArray, List.getElem?_cons_succ, List.getElem?_cons_zero]; rfl
              case st9 =>
                have hsz := hWd.size
                have hNW := Nat.le_trans hB.size hsz
                refine step_append_lies _ rfl (.tmp 12) (.tmp 18) 176 rfl w.heap.size 9 i0 (.string ⟨#[]⟩) 1 16 Tryz.underlying176 hi hz0 hz1 hz2 rfl (by decide) (.slice va k vc) k ts rfl hown ⟨gt, 0, none⟩ 1 1 [tv (linkB x (stp (d k)))] rfl rfl kt (by simp [Value.oneCell']) (by decide) (by have := HL.out; unfold maxLen; omega) (by have := HL.out; omega) hNW _ rfl ?_
                intro g c w1 hown' hgrow _ _
                refine hK _ _ ?_
                clear hK K
                try simp only [Act.put, List.setIfInBounds_toArray, List.set_cons_zero, List.set_cons_succ]
                refine wpAny_ready (rs := [8]) (by kernel_rfl) (by simp) ?_
                refine' AllReady.cons (o := _) ?ho10 (fun K hK => ?st10) AllReady.nil
                case ho10 => simp only [List.getElem?_toArray, List.getElem?_cons_succ, List.getElem?_cons_zero]; rfl
                case st10 =>
                  have kv1 := kv.kept hgrow (kv.not_row (by decide) hown)
                  have ko1 := kv1.cell
                  have kf1 := kv1.frozen
                  go_simp
                  refine hK _ _ ?_
                  clear hK K
                  try simp only [Act.put, List.setIfInBounds_toArray, List.set_cons_zero, List.set_cons_succ]
                  refine wpAny_done (by kernel_rfl) ?_ _
                  have hsp : Spares 9 Y3 w1 := (Spares.of_below (Below.refl _ Y3)).grown hgrow (fun r e => .inr (ownsRow_block hown r e))
                  have hrow3 := hown'.kept (grownBy_setCell' w1 (w.heap.size + 1) (.slice (some ⟨g, 0, none⟩) (k + 1) c)) (.inr (kv1.not_row (by decide) hown').symm)
                  have hbw := (((hWd.mono hB.size).trans ((Below.refl w.heap.size Y3).grown hgrow hNW (fun j hj => (World.ownsRow.lt hown j hj).1)))).setCell (p := ⟨w.heap.size + 1, 0, none⟩) (Nat.le_succ _) (.slice (some ⟨g, 0, none⟩) (k + 1) c)
                  have hko := ((KeepsOthers.of_grownBy (grown_of_below hWd) (by simp)).trans hsp.others).trans (KeepsOthers.setCell w1 ⟨w.heap.size + 1, 0, none⟩ (.slice (some ⟨g, 0, none⟩) (k + 1) c))
                  have kf3 := (kf.kept hgrow (kf.not_row (by decide) hown)).kept (grownBy_setCell' w1 (w.heap.size + 1) (.slice (some ⟨g, 0, none⟩) (k + 1) c)) (by simp)
                  rw [← HT.out] at hrow3
                  exact ⟨hko.from _, hbw, ⟨⟨_, kv1.set _, hrow3, trivial⟩, kf3⟩, hB.trans hbw⟩
    case st3 =>
      have cs := kf.cell
      go_simp
      clear cs
      refine hK _ _ ?_
      clear hK K
      try simp only [Act.put, List.setIfInBounds_toArray, List.set_cons_zero, List.set_cons_succ]
      refine wpAny_ready (rs := [0, 4]) (by kernel_rfl) (by simp) ?_
      refine' AllReady.cons (o := _) ?ho12 (fun K hK => ?st12) (AllReady.cons (o := _) ?ho11 (fun K hK => ?st11) AllReady.nil)
      case ho12 => simp only [List.getElem?_toArray, List.getElem?_cons_zero]; rfl
      case ho11 => simp only [List.getElem?_toArray, List.getElem?_cons_succ, List.getElem?_cons_zero]; rfl
      case st12 =>
        have cs := kv.cell
        go_simp
        clear cs
        refine hK _ _ ?_
        clear hK K
        try simp only [Act.put, List.setIfInBounds_toArray, List.set_cons_zero, List.set_cons_succ]
        refine wpAny_ready (rs := [4]) (by kernel_rfl) (by simp) ?_
        refine' AllReady.cons (o := _) ?ho13 (fun K hK => ?st13) AllReady.nil
        case ho13 => simp only [List.getElem?_toArray, List.getElem?_cons_succ, List.getElem?_cons_zero]; rfl
        case st13 =>
          go_simp
          refine (hst k Y HL.out (hB.trans (hWd.mono hB.size))).mono ?_
          rintro e Y1 ⟨rfl, hb⟩
          refine hK _ _ ?_
          clear hK K
          try simp only [Act.put, List.setIfInBounds_toArray, List.set_cons_zero, List.set_cons_succ]
          replace hWd := chain hWd hb
          replace kv : Boxed Y1 (w.heap.size + 1) 176 (.slice va k vc) := (hb.block _ kv.lt).trans kv
          replace kf : Boxed Y1 w.heap.size 63 (.func (.func fid) #[] lb) := (hb.block _ kf.lt).trans kf
          replace hown := own_below4 hown hb
          clear hb
          refine wpAny_ready (rs := [5]) (by kernel_rfl) (by simp) ?_
          refine' AllReady.cons (o := _) ?ho14 (fun K hK => ?st14) AllReady.nil
          case ho14 => simp only [List.getElem?_toArray, List.getElem?_cons_succ, List.getElem?_cons_zero]; rfl
          case st14 =>
            go_simp
            refine (walk_any x hxs (d k) _).mono ?_
            rintro e Y2 ⟨rfl, hb⟩
            refine hK _ _ ?_
            clear hK K
            try simp only [Act.put, List.setIfInBounds_toArray, List.set_cons_zero, List.set_cons_succ]
            replace hWd := chain hWd hb
            replace kv : Boxed Y2 (w.heap.size + 1) 176 (.slice va k vc) := (hb.block _ kv.lt).trans kv
            replace kf : Boxed Y2 w.heap.size 63 (.func (.func fid) #[] lb) := (hb.block _ kf.lt).trans kf
            replace hown := own_below4 hown hb
            clear hb
            refine wpAny_ready (rs := [6]) (by kernel_rfl) (by simp) ?_
            refine' AllReady.cons (o := _) ?ho15 (fun K hK => ?st15) AllReady.nil
            case ho15 => simp only [List.getElem?_toArray, List.getElem?_cons_succ, List.getElem?_cons_zero]; rfl
            case st15 =>
              go_simp
              refine hK _ _ ?_
              clear hK K
              try simp only [Act.put, List.setIfInBounds_toArray, List.set_cons_zero, List.set_cons_succ]
              have kt := cell_one_new Y2 (tv (linkB x (stp (d k)))) 9
              have hb : Below Y2.heap.size Y2 (Y2.alloc (.cells #[tv (linkB x (stp (d k)))] 9)) := chain0 _ _
              replace hWd := chain hWd hb
              replace kv : Boxed (Y2.alloc (.cells #[tv (linkB x (stp (d k)))] 9)) (w.heap.size + 1) 176 (.slice va k vc) := (hb.block _ kv.lt).trans kv
              replace kf : Boxed (Y2.alloc (.cells #[tv (linkB x (stp (d k)))] 9)) w.heap.size 63 (.func (.func fid) #[] lb) := (hb.block _ kf.lt).trans kf
              replace hown := own_below4 hown hb
              clear hb
              generalize (Y2.alloc (.cells #[tv (linkB x (stp (d k)))] 9)) = Y3 at *
              generalize Y2.heap.size = gt at *
              refine wpAny_ready (rs := [7]) (by kernel_rfl) (by simp) ?_
              refine' AllReady.cons (o := _) ?ho16 (fun K hK => ?st16) AllReady.nil
              case ho16 => simp only [List.getElem?_toArray, List.getElem?_cons_succ, List.getElem?_cons_zero]; rfl
              case st16 =>
                have hsz := hWd.size
                have hNW := Nat.le_trans hB.size hsz
                refine step_append_lies _ rfl (.tmp 12) (.tmp 18) 176 rfl w.heap.size 9 i0 (.string ⟨#[]⟩) 1 16 Tryz.underlying176 hi hz0 hz1 hz2 rfl (by decide) (.slice va k vc) k ts rfl hown ⟨gt, 0, none⟩ 1 1 [tv (linkB x (stp (d k)))] rfl rfl kt (by simp [Value.oneCell']) (by decide) (by have := HL.out; unfold maxLen; omega) (by have := HL.out; omega) hNW _ rfl ?_
                intro g c w1 hown' hgrow _ _
                refine hK _ _ ?_
                clear hK K
                try simp only [Act.put, List.setIfInBounds_toArray, List.set_cons_zero, List.set_cons_succ]
                refine wpAny_ready (rs := [8]) (by kernel_rfl) (by simp) ?_
                refine' AllReady.cons (o := _) ?ho17 (fun K hK => ?st17) AllReady.nil
                case ho17 => simp only [List.getElem?_toArray, List.getElem?_cons_succ, List.getElem?_cons_zero]; rfl
                case st17 =>
                  have kv1 := kv.kept hgrow (kv.not_row (by decide) hown)
                  have ko1 := kv1.cell
                  have kf1 := kv1.frozen
                  go_simp
                  refine hK _ _ ?_
                  clear hK K
                  try simp only [Act.put, List.setIfInBounds_toArray, List.set_cons_zero, List.set_cons_succ]
                  refine wpAny_done (by kernel_rfl) ?_ _
                  have hsp : Spares 9 Y3 w1 := (Spares.of_below (Below.refl _ Y3)).grown hgrow (fun r e => .inr (ownsRow_block hown r e))
                  have hrow3 := hown'.kept (grownBy_setCell' w1 (w.heap.size + 1) (.slice (some ⟨g, 0, none⟩) (k + 1) c)) (.inr (kv1.not_row (by decide) hown').symm)
                  have hbw := (((hWd.mono hB.size).trans ((Below.refl w.heap.size Y3).grown hgrow hNW (fun j hj => (World.ownsRow.lt hown j hj).1)))).setCell (p := ⟨w.heap.size + 1, 0, none⟩) (Nat.le_succ _) (.slice (some ⟨g, 0, none⟩) (k + 1) c)
                  have hko := ((KeepsOthers.of_grownBy (grown_of_below hWd) (by simp)).trans hsp.others).trans (KeepsOthers.setCell w1 ⟨w.heap.size + 1, 0, none⟩ (.slice (some ⟨g, 0, none⟩) (k + 1) c))
                  have kf3 := (kf.kept hgrow (kf.not_row (by decide) hown)).kept (grownBy_setCell' w1 (w.heap.size + 1) (.slice (some ⟨g, 0, none⟩) (k + 1) c)) (by simp)
                  rw [← HT.out] at hrow3
                  exact ⟨hko.from _, hbw, ⟨⟨_, kv1.set _, hrow3, trivial⟩, kf3⟩, hB.trans hbw⟩
      case st11 =>
        go_simp
        refine (hst k Y HL.out (hB.trans (hWd.mono hB.size))).mono ?_
        rintro e Y1 ⟨rfl, hb⟩
        refine hK _ _ ?_
        clear hK K
        try simp only [Act.put, List.setIfInBounds_toArray, List.set_cons_zero, List.set_cons_succ]
        replace hWd := chain hWd hb
        replace kv : Boxed Y1 (w.heap.size + 1) 176 (.slice va k vc) := (hb.block _ kv.lt).trans kv
        replace kf : Boxed Y1 w.heap.size 63 (.func (.func fid) #[] lb) := (hb.block _ kf.lt).trans kf
        replace hown := own_below4 hown hb
        clear hb
        refine wpAny_ready (rs := [0, 5]) (by kernel_rfl) (by simp) ?_
        refine' AllReady.cons (o := _) ?ho19 (fun K hK => ?st19) (AllReady.cons (o := _) ?ho18 (fun K hK => ?st18) AllReady.nil)
        case ho19 => simp only [List.getElem?_toArray, List.getElem?_cons_zero]; rfl
        case ho18 => simp only [List.getElem?_toArray, List.getElem?_cons_succ, List.getElem?_cons_zero]; rfl
        case st19 =>
          have cs := kv.cell
          go_simp
          clear cs
          refine hK _ _ ?_
          clear hK K
          try simp only [Act.put, List.setIfInBounds_toArray, List.set_cons_zero, List.set_cons_succ]
          refine wpAny_ready (rs := [5]) (by kernel_rfl) (by simp) ?_
          refine' AllReady.cons (o := _) ?ho20 (fun K hK => ?st20) AllReady.nil
          case ho20 => simp only [List.getElem?_toArray, List.getElem?_cons_succ, List.getElem?_cons_zero]; rfl
          case st20 =>
            go_simp
            refine (walk_any x hxs (d k) _).mono ?_
            rintro e Y2 ⟨rfl, hb⟩
            refine hK _ _ ?_
            clear hK K
            try simp only [Act.put, List.setIfInBounds_toArray, List.set_cons_zero, List.set_cons_succ]
            replace hWd := chain hWd hb
            replace kv : Boxed Y2 (w.heap.size + 1) 176 (.slice va k vc) := (hb.block _ kv.lt).trans kv
            replace kf : Boxed Y2 w.heap.size 63 (.func (.func fid) #[] lb) := (hb.block _ kf.lt).trans kf
            replace hown := own_below4 hown hb
            clear hb
            refine wpAny_ready (rs := [6]) (by kernel_rfl) (by simp) ?_
            refine' AllReady.cons (o := _) ?ho21 (fun K hK => ?st21) AllReady.nil
            case ho21 => simp only [List.getElem?_toArray, List.getElem?_cons_succ, List.getElem?_cons_zero]; rfl
            case st21 =>
              go_simp
              refine hK _ _ ?_
              clear hK K
              try simp only [Act.put, List.setIfInBounds_toArray, List.set_cons_zero, List.set_cons_succ]
              have kt := cell_one_new Y2 (tv (linkB x (stp (d k)))) 9
              have hb : Below Y2.heap.size Y2 (Y2.alloc (.cells #[tv (linkB x (stp (d k)))] 9)) := chain0 _ _
              replace hWd := chain hWd hb
              replace kv : Boxed (Y2.alloc (.cells #[tv (linkB x (stp (d k)))] 9)) (w.heap.size + 1) 176 (.slice va k vc) := (hb.block _ kv.lt).trans kv
              replace kf : Boxed (Y2.alloc (.cells #[tv (linkB x (stp (d k)))] 9)) w.heap.size 63 (.func (.func fid) #[] lb) := (hb.block _ kf.lt).trans kf
              replace hown := own_below4 hown hb
              clear hb
              generalize (Y2.alloc (.cells #[tv (linkB x (stp (d k)))] 9)) = Y3 at *
              generalize Y2.heap.size = gt at *
              refine wpAny_ready (rs := [7]) (by kernel_rfl) (by simp) ?_
              refine' AllReady.cons (o := _) ?ho22 (fun K hK => ?st22) AllReady.nil
              case ho22 => simp only [List.getElem?_toArray, List.getElem?_cons_succ, List.getElem?_cons_zero]; rfl
              case st22 =>
                have hsz := hWd.size
                have hNW := Nat.le_trans hB.size hsz
                refine step_append_lies _ rfl (.tmp 12) (.tmp 18) 176 rfl w.heap.size 9 i0 (.string ⟨#[]⟩) 1 16 Tryz.underlying176 hi hz0 hz1 hz2 rfl (by decide) (.slice va k vc) k ts rfl hown ⟨gt, 0, none⟩ 1 1 [tv (linkB x (stp (d k)))] rfl rfl kt (by simp [Value.oneCell']) (by decide) (by have := HL.out; unfold maxLen; omega) (by have := HL.out; omega) hNW _ rfl ?_
                intro g c w1 hown' hgrow _ _
                refine hK _ _ ?_
                clear hK K
                try simp only [Act.put, List.setIfInBounds_toArray, List.set_cons_zero, List.set_cons_succ]
                refine wpAny_ready (rs := [8]) (by kernel_rfl) (by simp) ?_
                refine' AllReady.cons (o := _) ?ho23 (fun K hK => ?st23) AllReady.nil
                case ho23 => simp only [List.getElem?_toArray, List.getElem?_cons_succ, List.getElem?_cons_zero]; rfl
                case st23 =>
                  have kv1 := kv.kept hgrow (kv.not_row (by decide) hown)
                  have ko1 := kv1.cell
                  have kf1 := kv1.frozen
                  go_simp
                  refine hK _ _ ?_
                  clear hK K
                  try simp only [Act.put, List.setIfInBounds_toArray, List.set_cons_zero, List.set_cons_succ]
                  refine wpAny_done (by kernel_rfl) ?_ _
                  have hsp : Spares 9 Y3 w1 := (Spares.of_below (Below.refl _ Y3)).grown hgrow (fun r e => .inr (ownsRow_block hown r e))
                  have hrow3 := hown'.kept (grownBy_setCell' w1 (w.heap.size + 1) (.slice (some ⟨g, 0, none⟩) (k + 1) c)) (.inr (kv1.not_row (by decide) hown').symm)
                  have hbw := (((hWd.mono hB.size).trans ((Below.refl w.heap.size Y3).grown hgrow hNW (fun j hj => (World.ownsRow.lt hown j hj).1)))).setCell (p := ⟨w.heap.size + 1, 0, none⟩) (Nat.le_succ _) (.slice (some ⟨g, 0, none⟩) (k + 1) c)
                  have hko := ((KeepsOthers.of_grownBy (grown_of_below hWd) (by simp)).trans hsp.others).trans (KeepsOthers.setCell w1 ⟨w.heap.size + 1, 0, none⟩ (.slice (some ⟨g, 0, none⟩) (k + 1) c))
                  have kf3 := (kf.kept hgrow (kf.not_row (by decide) hown)).kept (grownBy_setCell' w1 (w.heap.size + 1) (.slice (some ⟨g, 0, none⟩) (k + 1) c)) (by simp)
                  rw [← HT.out] at hrow3
                  exact ⟨hko.from _, hbw, ⟨⟨_, kv1.set _, hrow3, trivial⟩, kf3⟩, hB.trans hbw⟩
        case st18 =>
          go_simp
          refine (walk_any x hxs (d k) _).mono ?_
          rintro e Y2 ⟨rfl, hb⟩
          refine hK _ _ ?_
          clear hK K
          try simp only [Act.put, List.setIfInBounds_toArray, List.set_cons_zero, List.set_cons_succ]
          replace hWd := chain hWd hb
          replace kv : Boxed Y2 (w.heap.size + 1) 176 (.slice va k vc) := (hb.block _ kv.lt).trans kv
          replace kf : Boxed Y2 w.heap.size 63 (.func (.func fid) #[] lb) := (hb.block _ kf.lt).trans kf
          replace hown := own_below4 hown hb
          clear hb
          refine wpAny_ready (rs := [0, 6]) (by kernel_rfl) (by simp) ?_
          refine' AllReady.cons (o := _) ?ho25 (fun K hK => ?st25) (AllReady.cons (o := _) ?ho24 (fun K hK => ?st24) AllReady.nil)
          case ho25 => simp only [List.getElem?_toArray, List.getElem?_cons_zero]; rfl
          case ho24 => simp only [List.getElem?_toArray, List.getElem?_cons_succ, List.getElem?_cons_zero]; rfl
          case st25 =>
            have cs := kv.cell
            go_simp
            clear cs
            refine hK _ _ ?_
            clear hK K
            try simp only [Act.put, List.setIfInBounds_toArray, List.set_cons_zero, List.set_cons_succ]
            refine wpAny_ready (rs := [6]) (by kernel_rfl) (by simp) ?_
            refine' AllReady.cons (o := _) ?ho26 (fun K hK => ?st26) AllReady.nil
            case ho26 => simp only [List.getElem?_toArray, List.getElem?_cons_succ, List.getElem?_cons_zero]; rfl
            case st26 =>
              go_simp
              refine hK _ _ ?_
              clear hK K
              try simp only [Act.put, List.setIfInBounds_toArray, List.set_cons_zero, List.set_cons_succ]
              have kt := cell_one_new Y2 (tv (linkB x (stp (d k)))) 9
              have hb : Below Y2.heap.size Y2 (Y2.alloc (.cells #[tv (linkB x (stp (d k)))] 9)) := chain0 _ _
              replace hWd := chain hWd hb
              replace kv : Boxed (Y2.alloc (.cells #[tv (linkB x (stp (d k)))] 9)) (w.heap.size + 1) 176 (.slice va k vc) := (hb.block _ kv.lt).trans kv
              replace kf : Boxed (Y2.alloc (.cells #[tv (linkB x (stp (d k)))] 9)) w.heap.size 63 (.func (.func fid) #[] lb) := (hb.block _ kf.lt).trans kf
              replace hown := own_below4 hown hb
              clear hb
              generalize (Y2.alloc (.cells #[tv (linkB x (stp (d k)))] 9)) = Y3 at *
              generalize Y2.heap.size = gt at *
              refine wpAny_ready (rs := [7]) (by kernel_rfl) (by simp) ?_
              refine' AllReady.cons (o := _) ?ho27 (fun K hK => ?st27) AllReady.nil
              case ho27 => simp only [List.getElem?_toArray, List.getElem?_cons_succ, List.getElem?_cons_zero]; rfl
              case st27 =>
                have hsz := hWd.size
                have hNW := Nat.le_trans hB.size hsz
                refine step_append_lies _ rfl (.tmp 12) (.tmp 18) 176 rfl w.heap.size 9 i0 (.string ⟨#[]⟩) 1 16 Tryz.underlying176 hi hz0 hz1 hz2 rfl (by decide) (.slice va k vc) k ts rfl hown ⟨gt, 0, none⟩ 1 1 [tv (linkB x (stp (d k)))] rfl rfl kt (by simp [Value.oneCell']) (by decide) (by have := HL.out; unfold maxLen; omega) (by have := HL.out; omega) hNW _ rfl ?_
                intro g c w1 hown' hgrow _ _
                refine hK _ _ ?_
                clear hK K
                try simp only [Act.put, List.setIfInBounds_toArray, List.set_cons_zero, List.set_cons_succ]
                refine wpAny_ready (rs := [8]) (by kernel_rfl) (by simp) ?_
                refine' AllReady.cons (o := _) ?ho28 (fun K hK => ?st28) AllReady.nil
                case ho28 => simp only [List.getElem?_toArray, List.getElem?_cons_succ, List.getElem?_cons_zero]; rfl
                case st28 =>
                  have kv1 := kv.kept hgrow (kv.not_row (by decide) hown)
                  have ko1 := kv1.cell
                  have kf1 := kv1.frozen
                  go_simp
                  refine hK _ _ ?_
                  clear hK K
                  try simp only [Act.put, List.setIfInBounds_toArray, List.set_cons_zero, List.set_cons_succ]
                  refine wpAny_done (by kernel_rfl) ?_ _
                  have hsp : Spares 9 Y3 w1 := (Spares.of_below (Below.refl _ Y3)).grown hgrow (fun r e => .inr (ownsRow_block hown r e))
                  have hrow3 := hown'.kept (grownBy_setCell' w1 (w.heap.size + 1) (.slice (some ⟨g, 0, none⟩) (k + 1) c)) (.inr (kv1.not_row (by decide) hown').symm)
                  have hbw := (((hWd.mono hB.size).trans ((Below.refl w.heap.size Y3).grown hgrow hNW (fun j hj => (World.ownsRow.lt hown j hj).1)))).setCell (p := ⟨w.heap.size + 1, 0, none⟩) (Nat.le_succ _) (.slice (some ⟨g, 0, none⟩) (k + 1) c)
                  have hko := ((KeepsOthers.of_grownBy (grown_of_below hWd) (by simp)).trans hsp.others).trans (KeepsOthers.setCell w1 ⟨w.heap.size + 1, 0, none⟩ (.slice (some ⟨g, 0, none⟩) (k + 1) c))
                  have kf3 := (kf.kept hgrow (kf.not_row (by decide) hown)).kept (grownBy_setCell' w1 (w.heap.size + 1) (.slice (some ⟨g, 0, none⟩) (k + 1) c)) (by simp)
                  rw [← HT.out] at hrow3
                  exact ⟨hko.from _, hbw, ⟨⟨_, kv1.set _, hrow3, trivial⟩, kf3⟩, hB.trans hbw⟩
          case st24 =>
            go_simp
            refine hK _ _ ?_
            clear hK K
            try simp only [Act.put, List.setIfInBounds_toArray, List.set_cons_zero, List.set_cons_succ]
            have kt := cell_one_new Y2 (tv (linkB x (stp (d k)))) 9
            have hb : Below Y2.heap.size Y2 (Y2.alloc (.cells #[tv (linkB x (stp (d k)))] 9)) := chain0 _ _
            replace hWd := chain hWd hb
            replace kv : Boxed (Y2.alloc (.cells #[tv (linkB x (stp (d k)))] 9)) (w.heap.size + 1) 176 (.slice va k vc) := (hb.block _ kv.lt).trans kv
            replace kf : Boxed (Y2.alloc (.cells #[tv (linkB x (stp (d k)))] 9)) w.heap.size 63 (.func (.func fid) #[] lb) := (hb.block _ kf.lt).trans kf
            replace hown := own_below4 hown hb
            clear hb
            generalize (Y2.alloc (.cells #[tv (linkB x (stp (d k)))] 9)) = Y3 at *
            generalize Y2.heap.size = gt at *
            refine wpAny_ready (rs := [0]) (by kernel_rfl) (by simp) ?_
            refine' AllReady.cons (o := _) ?ho29 (fun K hK => ?st29) AllReady.nil
            case ho29 => simp only [List.getElem?_toArray, List.getElem?_cons_zero]; rfl
            case st29 =>
              have cs := kv.cell
              go_simp
              clear cs
              refine hK _ _ ?_
              clear hK K
              try simp only [Act.put, List.setIfInBounds_toArray, List.set_cons_zero, List.set_cons_succ]
              refine wpAny_ready (rs := [7]) (by kernel_rfl) (by simp) ?_
              refine' AllReady.cons (o := _) ?ho30 (fun K hK => ?st30) AllReady.nil
              case ho30 => simp only [List.getElem?_toArray, List.getElem?_cons_succ, List.getElem?_cons_zero]; rfl
              case st30 =>
                have hsz := hWd.size
                have hNW := Nat.le_trans hB.size hsz
                refine step_append_lies _ rfl (.tmp 12) (.tmp 18) 176 rfl w.heap.size 9 i0 (.string ⟨#[]⟩) 1 16 Tryz.underlying176 hi hz0 hz1 hz2 rfl (by decide) (.slice va k vc) k ts rfl hown ⟨gt, 0, none⟩ 1 1 [tv (linkB x (stp (d k)))] rfl rfl kt (by simp [Value.oneCell']) (by decide) (by have := HL.out; unfold maxLen; omega) (by have := HL.out; omega) hNW _ rfl ?_
                intro g c w1 hown' hgrow _ _
                refine hK _ _ ?_
                clear hK K
                try simp only [Act.put, List.setIfInBounds_toArray, List.set_cons_zero, List.set_cons_succ]
                refine wpAny_ready (rs := [8]) (by kernel_rfl) (by simp) ?_
                refine' AllReady.cons (o := _) ?ho31 (fun K hK => ?st31) AllReady.nil
                case ho31 => simp only [List.getElem?_toArray, List.getElem?_cons_succ, List.getElem?_cons_zero]; rfl
                case st31 =>
                  have kv1 := kv.kept hgrow (kv.not_row (by decide) hown)
                  have ko1 := kv1.cell
                  have kf1 := kv1.frozen
                  go_simp
                  refine hK _ _ ?_
                  clear hK K
                  try simp only [Act.put, List.setIfInBounds_toArray, List.set_cons_zero, List.set_cons_succ]
                  refine wpAny_done (by kernel_rfl) ?_ _
                  have hsp : Spares 9 Y3 w1 := (Spares.of_below (Below.refl _ Y3)).grown hgrow (fun r e => .inr (ownsRow_block hown r e))
                  have hrow3 := hown'.kept (grownBy_setCell' w1 (w.heap.size + 1) (.slice (some ⟨g, 0, none⟩) (k + 1) c)) (.inr (kv1.not_row (by decide) hown').symm)
                  have hbw := (((hWd.mono hB.size).trans ((Below.refl w.heap.size Y3).grown hgrow hNW (fun j hj => (World.ownsRow.lt hown j hj).1)))).setCell (p := ⟨w.heap.size + 1, 0, none⟩) (Nat.le_succ _) (.slice (some ⟨g, 0, none⟩) (k + 1) c)
                  have hko := ((KeepsOthers.of_grownBy (grown_of_below hWd) (by simp)).trans hsp.others).trans (KeepsOthers.setCell w1 ⟨w.heap.size + 1, 0, none⟩ (.slice (some ⟨g, 0, none⟩) (k + 1) c))
                  have kf3 := (kf.kept hgrow (kf.not_row (by decide) hown)).kept (grownBy_setCell' w1 (w.heap.size + 1) (.slice (some ⟨g, 0, none⟩) (k + 1) c)) (by simp)
                  rw [← HT.out] at hrow3
                  exact ⟨hko.from _, hbw, ⟨⟨_, kv1.set _, hrow3, trivial⟩, kf3⟩, hB.trans hbw⟩
  · rintro D W hD ⟨⟨⟨v, kv, hown, _⟩, _⟩, hB⟩ hK
    have ko := kv.cell
    have HZ := Lib.hid hz5
    rw [List.take_of_length_le (by simp [walked_length])] at hown
    clear hz5
    gi_wp2
    have hB' := hB.trans (belowK_b (w := w) (Nat.le_refl _) _ D _ (.deferred none) (by have := HZ.out; omega) hK rfl rfl)
    have hown3 := ownsRow_putObj hown (.deferred none) hK rfl
    refine ⟨by simp, .inl ⟨_, _, rfl, run_takeDeferred hK, ?_⟩⟩
    refine ⟨v, ?_, ?_⟩
    · simp [results, Tryz.f130, go_sem]
    · exact ⟨v, rfl, hown3, hB'⟩
theorem walkAll_any (zs : List ByteArray) (hn : zs.length ≤ 1000000) (hz : ∀ x ∈ zs, x.size ≤ 140737488353000) (d : Nat → Int) (sv : Value) (w : World) (hsv : VSl 0 w.heap.size w sv (zs.map tv))
    (fid : Nat) (lb : Array Value) (eg : ∀ args w, (callFunc fid args).run Tryz.prog w = .ok (.enter fid args) w)
    (hst : ∀ k W, k < zs.length → Below w.heap.size w W → Calls Tryz.prog fid (#[.int .i64 (k : Int)] ++ lb) W fun e W' => e = .returned (.int .i64 (d k)) ∧ Below W.heap.size W W') :
    Calls Tryz.prog 130 #[sv, .func (.func fid) #[] lb] w (RowW w.heap.size 9 zs.length ((walked zs d).map tv) w) := callsIn_wide.1 (walkAll_in 3 (by omega) zs hn hz d sv w hsv fid lb eg hst)
end Go.Proofs.YtfoemkmoambagaaGreat
namespace Go.Proofs.YtfoemkmoambagaaGreat
open Go.RowKit Go.Shelf
attribute [local go_sem] Oper.semAt_some
set_option maxRecDepth 100000 in
set_option maxHeartbeats 4000000 in
theorem valuesT1_in (m : Nat) (hm : 1 ≤ m) (l Bs n₀ b off cap : Nat) (zs : List ByteArray) (hreach : zs.length ≤ 140737488351232) (hb : b < n₀) (J : Nat → World → Prop)
    (W : World)
    (hY : ∀ k x W1, zs[k]? = some x → J k W1 → YieldAt Fence.wide (m - 1) Tryz.prog l #[tv x] W1 fun e W' => e = .returned (.bool true) ∧ J (k + 1) W' ∧ Below n₀ W1 W')
    (hBs : W.cell? ⟨Bs, 0, none⟩ = some (.slice (some ⟨b, off, none⟩) zs.length cap)) (hc : Row W b off (zs.map tv)) (h0 : J 0 W) :
    CallsIn Fence.wide m Tryz.prog 150 #[.func (.yield l) #[] #[], .pointer (some ⟨Bs, 0, none⟩)] W fun e W' => (∃ v, e = .returned v) ∧ J zs.length W' := by
  refine callsIn_of_wp Tryz.func150 rfl trivial ?_ rfl
  simp only [Tryz.ntmps150, List.size_toArray, List.length_cons, List.length_nil, Nat.reduceAdd, Nat.reduceSub, Array.replicate_succ, Array.replicate_zero, List.push_toArray, List.append_toArray, List.nil_append, List.cons_append]
  gi_wp2
  gi_loopw [7] (fun i wr => ∃ k : Nat, k ≤ zs.length ∧ i = .int .i64 k ∧ J k wr ∧ Below n₀ W wr) (fun i _ => zs.length - (intOf i).toNat)
  case atStart => exact ⟨0, Nat.zero_le _, rfl, h0, Below.refl _ _⟩
  case round =>
    obtain ⟨k, hk, rfl, hJs, hnx⟩ := hrel
    by_cases hlt : k < zs.length
    · obtain ⟨x, hx⟩ : ∃ x, zs[k]? = some x := ⟨_, List.getElem?_eq_getElem hlt⟩
      have c0 : wr.cell? ⟨b, off + k, none⟩ = some (tv x) := (hc.below hnx hb) k _ (by rw [List.getElem?_map, hx]; rfl)
      have hk0 : (k : Int) < (zs.length : Int) := by omega
      obtain ⟨fn, tmps, assign, body, hy, hR⟩ := hY k x wr hx hJs
      simp only [tv] at c0 hy
      clear hx
      generalize hL : zs.length = len at *
      have HL := Lib.hid hL
      clear hL
      gi_wp2
      refine hR.mono ?_
      rintro e W3 ⟨rfl, hJ3, hk3⟩
      gi_wp2
      go_roundw
      case rel => exact ⟨k + 1, by omega, by simp, hJ3, hnx.trans hk3⟩
      case measure => simp [intOf]; omega
    · obtain rfl : k = zs.length := by omega
      gi_wp2
      go_end0
      exact ⟨⟨_, rfl⟩, hJs⟩
set_option maxRecDepth 100000 in
set_option maxHeartbeats 1000000 in
theorem valuesT1_nil_in (m : Nat) (l Bs : Nat) (a : Option Addr) (cap : Nat) (J : World → Prop) (W : World) (hBs : W.cell? ⟨Bs, 0, none⟩ = some (.slice a 0 cap)) (h0 : J W) :
    CallsIn Fence.wide m Tryz.prog 150 #[.func (.yield l) #[] #[], .pointer (some ⟨Bs, 0, none⟩)] W fun e W' => (∃ v, e = .returned v) ∧ J W' := by
  refine callsIn_of_wp Tryz.func150 rfl trivial ?_ rfl
  simp only [Tryz.ntmps150, List.size_toArray, List.length_cons, List.length_nil, Nat.reduceAdd, Nat.reduceSub, Array.replicate_succ, Array.replicate_zero, List.push_toArray, List.append_toArray, List.nil_append, List.cons_append]
  gi_wp2
  gi_loopw [7] (fun i wr => i = .int .i64 0 ∧ J wr) (fun _ _ => 0)
  case atStart => exact ⟨rfl, h0⟩
  case round =>
    obtain ⟨rfl, hJs⟩ := hrel
    gi_wp2
    go_end0
    exact ⟨⟨_, rfl⟩, hJs⟩
set_option maxHeartbeats 1000000 in
theorem valuesT_in (F : Fence) (n : Nat) (h5 : F.fn 142) (hro : F.round = none) (a : Option Addr) (len cap : Nat) (w : World) :
    CallsIn F n Tryz.prog 142 #[.slice a len cap] w fun e w' => e = .returned (.func (.func 150) #[] #[.pointer (some ⟨w.heap.size, 0, none⟩)]) ∧ w' = w.alloc (.cells #[.slice a len cap] 176) := by
  refine callsIn_of_wp Tryz.func142 rfl h5 ?_ hro
  simp only [Tryz.ntmps142, List.size_toArray, List.length_cons, List.length_nil, Nat.reduceAdd, Nat.reduceSub, Array.replicate_succ, Array.replicate_zero, List.push_toArray, List.append_toArray, List.nil_append, List.cons_append]
  gi_wp2
  go_ret
  exact ⟨rfl, rfl⟩
theorem valuesT_rel (m : Nat) (hm : 1 ≤ m) (Bs n₀ : Nat) (sv : Value) (zs : List ByteArray) (hreach : zs.length ≤ 140737488351232) (w : World) (hn₀ : n₀ ≤ w.heap.size)
    (hk : Boxed w Bs 176 sv) (hI : VSl 0 n₀ w sv (zs.map tv)) :
    SeqRel Fence.wide m Tryz.prog 150 #[.pointer (some ⟨Bs, 0, none⟩)] zs.length (fun k r _ => ∃ x, zs[k]? = some x ∧ r = #[tv x]) (fun _ => Below n₀) w := fun l J W hW _ _ _ hY h0 => by
  have hc' := (hW.cell (p := ⟨Bs, 0, none⟩) hk.lt).trans hk.cell
  obtain ⟨a, cap, rfl, _, h0' | ⟨b, off, rfl, _, hb, hcs⟩⟩ := hI.below hW hn₀
  · rw [List.map_eq_nil_iff] at h0'
    subst h0'
    exact (valuesT1_nil_in m l Bs a cap (J 0) W hc' h0).mono fun e W' ⟨he, hj⟩ => ⟨he, hj⟩
  · rw [List.length_map] at hc'
    exact valuesT1_in m hm l Bs n₀ b off cap zs hreach hb J W (fun k x W1 hx hj => hY k _ W1 (List.getElem?_eq_some_iff.1 hx).1 ⟨x, hx, rfl⟩ hj) hc' hcs h0
end Go.Proofs.YtfoemkmoambagaaGreat
namespace Go.Proofs.YtfoemkmoambagaaGreat
open Go.RowKit Go.Shelf
attribute [local go_sem] Oper.semAt_some
def TxtAt (lo : Nat) (W : World) (v : Value) (l : List UInt8) : Prop :=
  ∃ (b c : Nat) (cur : Array Value) (fr : Nat × Nat), v = .slice (some ⟨b, 0, none⟩) l.length c ∧ l.length ≤ c ∧ lo ≤ b ∧ W.heap[b]? = some (.cells cur 5 fr) ∧ ∀ (k : Nat) (x : UInt8), l[k]? = some x → cur[k]? = some (bv x)
theorem TxtAt.bsl {lo : Nat} {W : World} {v : Value} {l : List UInt8} (h : TxtAt lo W v l) : BSl lo W.heap.size W v l := by
  obtain ⟨b, c, cur, fr, e, hc, hb, hh, hk⟩ := h
  exact ⟨_, c, e, hc, .inr ⟨b, 0, rfl, hb, (Array.getElem?_eq_some_iff.1 hh).1, fun k x hx => by simp [World.cell?, hh, hk k x hx]⟩⟩
theorem TxtAt.to {lo : Nat} {W W' : World} {v : Value} {l : List UInt8} (h : TxtAt lo W v l) (hk : ∀ (b : Nat) (cur : Array Value) (fr : Nat × Nat), W.heap[b]? = some (.cells cur 5 fr) → W'.heap[b]? = W.heap[b]?) : TxtAt lo W' v l := by
  obtain ⟨b, c, cur, fr, e, hc, hb, hh, hl⟩ := h
  exact ⟨b, c, cur, fr, e, hc, hb, (hk b cur fr hh).trans hh, hl⟩
theorem TxtAt.mono {lo lo' : Nat} {W : World} {v : Value} {l : List UInt8} (h : TxtAt lo W v l) (hl : lo' ≤ lo) : TxtAt lo' W v l := by
  obtain ⟨b, c, cur, fr, e, hc, hb, r⟩ := h
  exact ⟨b, c, cur, fr, e, hc, Nat.le_trans hl hb, r⟩
theorem TxtAt.below {lo : Nat} {W W' : World} {v : Value} {l : List UInt8} (h : TxtAt lo W v l) (hb : Below W.heap.size W W') : TxtAt lo W' v l := h.to fun b _ _ hh => hb.block b (Array.getElem?_eq_some_iff.1 hh).1
theorem TxtAt.spares {lo : Nat} {W W' : World} {v : Value} {l : List UInt8} {e : TypeId} (h : TxtAt lo W v l) (hs : Spares e W W') (hne : 5 ≠ e) : TxtAt lo W' v l :=
  h.to fun b cur fr hh => (hs.2 b _ hh (fun _ _ e' => by cases e'; exact hne rfl)).trans hh.symm
theorem TxtAt.set {lo : Nat} {W : World} {v : Value} {l : List UInt8} (h : TxtAt lo W v l) {B : Nat} {t : TypeId} {x : Value} (hb : Boxed W B t x) (hne : 5 ≠ t) (y : Value) : TxtAt lo (W.setCell ⟨B, 0, none⟩ y) v l :=
  h.to fun b cur fr hh => Below.heap_setCell _ _ _ b (fun e => by subst e; rw [show W.heap[b]? = _ from hb] at hh; cases hh; exact hne rfl)
theorem TxtAt.own {lo : Nat} {W W' : World} {v : Value} {l : List UInt8} {row : Option Nat} (h : TxtAt lo W v l) (hg : W.grownBy W' row) (hr : ∀ r, row = some r → ∃ o : Obj, W.heap[r]? = some o ∧ o.isCells = false) : TxtAt lo W' v l :=
  h.to fun b cur fr hh => hg.block b (Array.getElem?_eq_some_iff.1 hh).1 (fun e => by obtain ⟨o, ho, hc⟩ := hr b e.symm; rw [hh] at ho; cases ho; cases hc)
theorem conv_txt (w : World) (s : ByteArray) : ∃ c W', (convert 9 98 (.string s)).run Tryz.prog w = .ok (.slice (some ⟨w.heap.size, 0, none⟩) s.size c) W' ∧ Below w.heap.size w W' ∧ W'.heap.size = w.heap.size + 1 ∧ TxtAt w.heap.size W' (.slice (some ⟨w.heap.size, 0, none⟩) s.size c) s.data.toList := by
  refine ⟨_, _, Lib.run_convert_string_bytes w 9 98 5 s Tryz.underlying9 Tryz.underlying98 Tryz.underlying5, ?_, Lib.bytesWorld_size _ _ _, ?_⟩
  · exact ⟨rfl, rfl, rfl, by rw [Lib.bytesWorld_size]; omega, fun k hk => Lib.bytesWorld_at_old _ _ _ k hk⟩
  · refine ⟨_, _, _, _, rfl, grownCap_ge _ _ _ _, Nat.le_refl _, Lib.bytesWorld_at_new _ _ _, fun k x hx => ?_⟩
    have hk : k < s.size := (List.getElem?_eq_some_iff.1 hx).1
    have h := Lib.bytesWorld_cell w 5 s k hk
    simp only [World.cell?, Lib.bytesWorld_at_new] at h
    rw [show s.data.toList.getD k 0 = x by simp only [List.getD, hx, Option.getD_some]] at h
    exact h
def Txts (lo : Nat) (W : World) (vs : List Value) (zs : List ByteArray) : Prop := vs.length = zs.length ∧ ∀ (k : Nat) (v : Value) (s : ByteArray), vs[k]? = some v → zs[k]? = some s → TxtAt lo W v s.data.toList
theorem Txts.to {lo : Nat} {W W' : World} {vs : List Value} {zs : List ByteArray} (h : Txts lo W vs zs) (hk : ∀ v (l : List UInt8), TxtAt lo W v l → TxtAt lo W' v l) : Txts lo W' vs zs := ⟨h.1, fun k v s hv hs => hk v _ (h.2 k v s hv hs)⟩
theorem Txts.snoc {lo : Nat} {W : World} {vs : List Value} {zs : List ByteArray} (h : Txts lo W vs zs) {v : Value} {s : ByteArray} (ht : TxtAt lo W v s.data.toList) : Txts lo W (vs ++ [v]) (zs ++ [s]) :=
  ⟨by simp [h.1], fun k v' s' hv hs => by
    by_cases hk : k < vs.length
    · rw [List.getElem?_append_left hk] at hv
      rw [List.getElem?_append_left (by rw [← h.1]; exact hk)] at hs
      exact h.2 k v' s' hv hs
    · have hkl : k = vs.length := by have := (List.getElem?_eq_some_iff.1 hv).1; simp at this; omega
      subst hkl
      rw [List.getElem?_append_right (Nat.le_refl _)] at hv
      rw [List.getElem?_append_right (by rw [h.1]; exact Nat.le_refl _), h.1] at hs
      simp at hv hs
      rw [← hv, ← hs]; exact ht⟩
theorem Tryz.infoSl : (Tryz.prog.info? 98).map (fun i => (i.zero, i.size, i.bytes)) = some (some (.slice none 0 0), 1, 24) := by kernel_rfl
def JoinI (N B : Nat) (zs : List ByteArray) (w : World) (k : Nat) (W : World) : Prop :=
  ∃ v vs, Boxed W B 122 v ∧ W.ownsRow N 98 1 v k vs ∧ Txts N W vs (zs.take k) ∧ Below N w W
theorem joinI_own {N B : Nat} {zs : List ByteArray} {w : World} {C : Nat} (h : N ≤ w.heap.size) (hC : N ≤ C) : OwnFrom C (JoinI N B zs w) := fun _ X Y row ⟨v, vs, hb, hown, ht, hB⟩ hg hr =>
  ⟨v, vs, blk_own B 122 (fun _ : Unit => [v]) () X Y row hb hg (fun r e => (hr r e).2), own_turn hown hg (fun r e => (hr r e).2), ht.to (fun _ _ h => h.own hg (fun r e => (hr r e).2)), ownFrom_below h hC () X Y row hB hg hr⟩
def joinB (zs : List ByteArray) : ByteArray := shortB (zs.map fun s => s.data.toList).flatten
theorem flatten_le (f : ByteArray → List UInt8) (m : Nat) : ∀ (zs : List ByteArray), (∀ x ∈ zs, (f x).length ≤ m) → (zs.map f).flatten.length ≤ zs.length * m
  | [], _ => by simp
  | x :: zs, h => by
    have h1 := h x List.mem_cons_self
    have h2 := flatten_le f m zs (fun y hy => h y (List.mem_cons_of_mem _ hy))
    rw [List.map_cons, List.flatten_cons, List.length_append, List.length_cons, Nat.add_mul, Nat.one_mul]
    omega
set_option maxRecDepth 100000 in
set_option maxHeartbeats 4000000 in
theorem join_in (m : Nat) (hm : 3 ≤ m) (zs : List ByteArray) (hn : zs.length ≤ 1000) (hz : ∀ x ∈ zs, x.size ≤ 1000000) (sv : Value) (w : World) (hsv : VSl 0 w.heap.size w sv (zs.map tv)) :
    CallsIn Fence.wide m Tryz.prog 129 #[sv] w fun e W' => e = .returned (.string (joinB zs)) ∧ Below w.heap.size w W' := by
  have h1 : 1 ≤ m := by omega
  have hsv0 := hsv
  obtain ⟨a, cap, rfl⟩ := hsv.slice
  rw [List.length_map] at hsv0 ⊢
  clear hsv
  refine callsIn_of_wp_marks Tryz.func129 rfl trivial ?_ rfl
  simp only [Tryz.ntmps129, List.size_toArray, List.length_cons, List.length_nil, Nat.reduceAdd, Nat.reduceSub, Array.replicate_succ, Array.replicate_zero, List.push_toArray, List.append_toArray, List.nil_append, List.cons_append]
  obtain ⟨i0, hi, hz0, hz1, hz2⟩ := info_parts Tryz.infoSl
  gi_wp2_with (refine ⟨trivial, ?_⟩; gi_at_call 142; refine (valuesT_in Fence.wide (m - 1) trivial rfl _ _ _ _).mono ?_; rintro e w' ⟨rfl, rfl⟩)
  generalize hW5 : World.alloc _ _ = W5
  have k0 : Boxed W5 w.heap.size 122 (.slice none 0 0) := by rw [← hW5]; exact (Boxed.new _ _ _).alloc _
  have k2 : Boxed W5 (w.heap.size + 1) 176 (.slice a zs.length cap) := by rw [← hW5]; exact Blk.new' (vs := [_]) (by simp)
  have hB0 : Below w.heap.size w W5 := by rw [← hW5]; exact chainA (chain0 _ _) _
  have hz5 : W5.heap.size = w.heap.size + 2 := by rw [← hW5]; simp
  clear hW5
  refine wpIn_rangeFunc_relA (encs := fun y : ByteArray => #[tv y]) rfl h1 (gf := 150) (lb := #[.pointer (some ⟨w.heap.size + 1, 0, none⟩)]) rfl trivial (enters_of Tryz.func150 (by kernel_rfl) rfl)
    (valuesT_rel (m - 1) (by omega) (w.heap.size + 1) w.heap.size _ zs (by omega) W5 (by omega) k2 (hsv0.below hB0 (Nat.le_refl _))) (fun h k => h.trans k) (fun X o o' h2 h3 h4 => belowK_b (w := w) (Nat.le_refl _) _ _ o o' (by omega) h2 h3 h4) (fun X => Below.refl _ X) (Below.refl _ _) (fun _ => rfl)
    (JoinI w.heap.size w.heap.size zs w) (joinI_own (Nat.le_refl _) (by omega))
    ⟨_, [], k0, World.ownsRow_nil _ _ _ _, ⟨by simp, fun k v s h => by simp at h⟩, hB0⟩ (fun _ _ _ _ _ _ h _ _ => h) ?_ ?_ ?_ ?_
  rotate_left
  · intro l k y W K hr hK
    clear hr
    gi_wp2
    exact hK
  · rintro l k x W hlt ⟨v, vs, kv, hown, htx, hB⟩ hx
    have ht : zs.take (k + 1) = zs.take k ++ [x] := by rw [List.take_add_one, hx]; rfl
    have HT := Lib.hid ht
    clear ht hx
    obtain ⟨va, vc, rfl⟩ := ownsRow_slice hown
    have ko := kv.cell
    have kf := kv.frozen
    have hNW := hB.size
    obtain ⟨c1, W1, hcv, hb1, hz1', hta⟩ := conv_txt W x
    have HL := Lib.hid hlt
    have kv1' : Boxed W1 w.heap.size 122 (.slice va k vc) := (hb1.block _ kv.lt).trans kv
    have ko1 := kv1'.cell
    have kf1 := kv1'.frozen
    have hown1 := own_below hown hb1
    have htx1 := htx.to (fun _ _ h => h.below hb1)
    have HZ := Lib.hid hz5
    have HZ1 := Lib.hid hz1'
    clear hlt hz5 hz1'
    gi_wp2_with (gi_at_builtin; refine wpListIn_append_own _ rfl _ _ 122 rfl w.heap.size 98 i0 (.slice none 0 0) 1 24 Tryz.underlying122 hi hz0 hz1 hz2 rfl (by decide) (.slice va k vc) k vs rfl (hown1.alloc _) ⟨W1.heap.size, 0, none⟩ 1 1 [.slice (some ⟨W.heap.size, 0, none⟩) x.size c1] rfl rfl (cell_one_new _ _ _) (by simp [Value.oneCell']) (by have := HL.out; unfold maxLen; omega) (by have := HL.out; omega) (by have := HZ1.out; simp; omega) ?_; intro v' w1 hown' hgrow _; obtain ⟨g, cap', rfl⟩ := ownsRow_succ hown'; obtain ⟨hv1, kv', hrow', hk3, hbw⟩ := kv1'.appended (by decide) hown1 (Nat.le_trans hNW hb1.size) (Nat.le_refl _) hown' hgrow; have ko2 := hv1.cell; have kf2 := hv1.frozen)
    have hspW : Spares 98 W1 w1 := ((Spares.of_below (Below.refl _ W1)).grown (World.grownBy_alloc W1 (.cells #[.slice (some ⟨W.heap.size, 0, none⟩) x.size c1] 98) none) (fun r e => by cases e)).grown hgrow (fun r e => .inr (ownsRow_block (hown1.alloc _) r e))
    have hko := (KeepsOthers.of_grownBy (grown_of_below hb1) (by simp)).trans hk3
    refine ⟨hko.from _, (hb1.mono hNW).trans hbw, _, vs ++ [.slice (some ⟨W.heap.size, 0, none⟩) x.size c1], kv', hrow', ?_, hB.trans ((hb1.mono hNW).trans hbw)⟩
    rw [HT.out]
    exact (htx1.snoc (hta.mono hNW)).to (fun v l h => (h.spares hspW (by decide)).set hv1 (by decide) _)
  · rintro D W hD ⟨v, vs, kv, hown, htx, hB⟩ hK
    rw [List.take_length] at htx
    obtain ⟨va, vc, rfl⟩ := ownsRow_slice hown
    have ko := kv.cell
    have hvl := htx.1
    have hV := VSl.of_own (vs := vs) (by rw [hvl]; exact hown)
    have hnn : zs.length ≤ 1000 := hn
    have hDW := (Array.getElem?_eq_some_iff.1 hK).1
    have hmap1 : (vs.zip (zs.map fun s => s.data.toList)).map (·.1) = vs := by
      rw [List.map_fst_zip]; simp [hvl]
    have hmap2 : (vs.zip (zs.map fun s => s.data.toList)).map (·.2) = zs.map fun s => s.data.toList := by
      rw [List.map_snd_zip]; simp [hvl]
    have hS := short_of W (.slice va zs.length vc) (vs.zip (zs.map fun s => s.data.toList)) (by simp; omega) (fun p hp => by
      obtain ⟨k, hk⟩ := List.mem_iff_getElem?.1 hp
      rw [List.getElem?_zip_eq_some] at hk
      obtain ⟨hk1, hk2⟩ := hk
      rw [List.getElem?_map] at hk2
      obtain ⟨s, hs, he⟩ := Option.map_eq_some_iff.1 hk2
      have h2 := htx.2 k p.1 s hk1 hs
      have h3 := hz s (List.mem_of_getElem? hs)
      rw [← he]
      refine ⟨h2.bsl.mono (Nat.zero_le _) (Nat.le_refl _), ?_⟩
      show s.size ≤ _
      omega) (by
      rw [hmap2]
      have := flatten_le (fun s => s.data.toList) 1000000 zs (fun x hx => hz x hx)
      have h4 : zs.length * 1000000 ≤ 1000 * 1000000 := Nat.mul_le_mul_right _ hn
      omega) (by rw [hmap1]; exact hV.mono (Nat.zero_le _) (Nat.le_refl _))
    rw [hmap2] at hS
    have HZ := Lib.hid hz5
    clear hmap1 hmap2 hV htx hvl hz5
    gi_wp2_with fail
    refine ⟨trivial, (callsIn_wide.2 hS).mono ?_⟩
    rintro e w2 ⟨rfl, hb2⟩
    gi_wp2_with fail
    have hK2 : w2.heap[D]? = some (.deferred (some [])) := (hb2.block D hDW).trans hK
    have hB' := (hB.trans (hb2.mono hB.size)).trans (belowK_b (w := w) (Nat.le_refl _) _ D _ (.deferred none) (by have := HZ.out; omega) hK2 rfl rfl)
    refine ⟨by simp, .inl ⟨_, _, rfl, run_takeDeferred hK2, ?_⟩⟩
    refine ⟨.string (joinB zs), ?_, ?_⟩
    · simp [results, Tryz.f129, go_sem, joinB]
    · exact ⟨rfl, hB'⟩
theorem join_any (zs : List ByteArray) (hn : zs.length ≤ 1000) (hz : ∀ x ∈ zs, x.size ≤ 1000000) (sv : Value) (w : World) (hsv : VSl 0 w.heap.size w sv (zs.map tv)) :
    Calls Tryz.prog 129 #[sv] w fun e W' => e = .returned (.string (joinB zs)) ∧ Below w.heap.size w W' := callsIn_wide.1 (join_in 3 (by omega) zs hn hz sv w hsv)
end Go.Proofs.YtfoemkmoambagaaGreat
