/-
  slices.Values over strings: each; ots.join: Short of all parts; slices.Values over ints: each; ots.Digits: 12 digits of a text's sum, and 3 of what they leave; The digits, each; ots' closures; whether parts are well-formed; ots.Public, ots.Sign, ots.Open; mss: a node of a key's tree; join; a key's lowest row; mss: the row above; the root
-/
import Derived.Outline
import Derived.Deep.AppendLies
import Derived.Test.YtechcdkakgpnkaaGreatK10
namespace Go.Proofs.YtechcdkakgpnkaaGreat
open Go.RowKit Go.Shelf
attribute [local go_sem] Oper.semAt_some
set_option maxRecDepth 100000 in
set_option maxHeartbeats 4000000 in
theorem valuesT1_in (m : Nat) (hm : 1 ≤ m) (l Bs n₀ b off cap : Nat) (zs : List ByteArray) (hreach : zs.length ≤ 140737488351232) (hb : b < n₀) (J : Nat → World → Prop)
    (W : World)
    (hY : ∀ k x W1, zs[k]? = some x → J k W1 → YieldAt Fence.wide (m - 1) Tryz.prog l #[tv x] W1 fun e W' => e = .returned (.bool true) ∧ J (k + 1) W' ∧ Below n₀ W1 W')
    (hBs : W.cell? ⟨Bs, 0, none⟩ = some (.slice (some ⟨b, off, none⟩) zs.length cap)) (hc : Row W b off (zs.map tv)) (h0 : J 0 W) :
    CallsIn Fence.wide m Tryz.prog 221 #[.func (.yield l) #[] #[], .pointer (some ⟨Bs, 0, none⟩)] W fun e W' => (∃ v, e = .returned v) ∧ J zs.length W' := by
  refine callsIn_of_wp Tryz.func221 rfl trivial ?_ rfl
  simp only [Tryz.ntmps221, List.size_toArray, List.length_cons, List.length_nil, Nat.reduceAdd, Nat.reduceSub, Array.replicate_succ, Array.replicate_zero, List.push_toArray, List.append_toArray, List.nil_append, List.cons_append]
  gi_wp2
  gi_loopw [7] (fun i wr => ∃ k : Nat, k ≤ zs.length ∧ i = .int .i64 k ∧ J k wr ∧ Below n₀ W wr) (fun i _ => zs.length - (intOf i).toNat)
  case atStart => exact ⟨0, Nat.zero_le _, rfl, h0, Below.refl _ _⟩
  case round =>
    obtain ⟨k, hk, rfl, hJs, hnx⟩ := hrel
    by_cases hlt : k < zs.length
    · obtain ⟨x, hx⟩ : ∃ x, zs[k]? = some x := ⟨_, List.getElem?_eq_getElem hlt⟩
      have c0 : wr.cell? ⟨b, off + k, none⟩ = some (tv x) := (hc.below hnx hb) k _ (by rw [List.getElem?_map, hx]; rfl)
      have hk0 : (k : Int) < (zs.length : Int) := by omega
      obtain ⟨fn, tmps, assign, body, hy, hR⟩ := hY k x wr hx hJs
      simp only [tv] at c0 hy
      clear hx
      generalize hL : zs.length = len at *
      have HL := Lib.hid hL
      clear hL
      gi_wp2
      refine hR.mono ?_
      rintro e W3 ⟨rfl, hJ3, hk3⟩
      gi_wp2
      go_roundw
      case rel => exact ⟨k + 1, by omega, by simp, hJ3, hnx.trans hk3⟩
      case measure => simp [intOf]; omega
    · obtain rfl : k = zs.length := by omega
      gi_wp2
      go_end0
      exact ⟨⟨_, rfl⟩, hJs⟩
set_option maxRecDepth 100000 in
set_option maxHeartbeats 1000000 in
theorem valuesT1_nil_in (m : Nat) (l Bs : Nat) (a : Option Addr) (cap : Nat) (J : World → Prop) (W : World) (hBs : W.cell? ⟨Bs, 0, none⟩ = some (.slice a 0 cap)) (h0 : J W) :
    CallsIn Fence.wide m Tryz.prog 221 #[.func (.yield l) #[] #[], .pointer (some ⟨Bs, 0, none⟩)] W fun e W' => (∃ v, e = .returned v) ∧ J W' := by
  refine callsIn_of_wp Tryz.func221 rfl trivial ?_ rfl
  simp only [Tryz.ntmps221, List.size_toArray, List.length_cons, List.length_nil, Nat.reduceAdd, Nat.reduceSub, Array.replicate_succ, Array.replicate_zero, List.push_toArray, List.append_toArray, List.nil_append, List.cons_append]
  gi_wp2
  gi_loopw [7] (fun i wr => i = .int .i64 0 ∧ J wr) (fun _ _ => 0)
  case atStart => exact ⟨rfl, h0⟩
  case round =>
    obtain ⟨rfl, hJs⟩ := hrel
    gi_wp2
    go_end0
    exact ⟨⟨_, rfl⟩, hJs⟩
set_option maxHeartbeats 1000000 in
theorem valuesT_in (F : Fence) (n : Nat) (h5 : F.fn 205) (hro : F.round = none) (a : Option Addr) (len cap : Nat) (w : World) :
    CallsIn F n Tryz.prog 205 #[.slice a len cap] w fun e w' => e = .returned (.func (.func 221) #[] #[.pointer (some ⟨w.heap.size, 0, none⟩)]) ∧ w' = w.alloc (.cells #[.slice a len cap] 157) := by
  refine callsIn_of_wp Tryz.func205 rfl h5 ?_ hro
  simp only [Tryz.ntmps205, List.size_toArray, List.length_cons, List.length_nil, Nat.reduceAdd, Nat.reduceSub, Array.replicate_succ, Array.replicate_zero, List.push_toArray, List.append_toArray, List.nil_append, List.cons_append]
  gi_wp2
  go_ret
  exact ⟨rfl, rfl⟩
theorem valuesT_rel (m : Nat) (hm : 1 ≤ m) (Bs n₀ : Nat) (sv : Value) (zs : List ByteArray) (hreach : zs.length ≤ 140737488351232) (w : World) (hn₀ : n₀ ≤ w.heap.size)
    (hk : Boxed w Bs 157 sv) (hI : VSl 0 n₀ w sv (zs.map tv)) :
    SeqRel Fence.wide m Tryz.prog 221 #[.pointer (some ⟨Bs, 0, none⟩)] zs.length (fun k r _ => ∃ x, zs[k]? = some x ∧ r = #[tv x]) (fun _ => Below n₀) w := fun l J W hW _ _ _ hY h0 => by
  have hc' := (hW.cell (p := ⟨Bs, 0, none⟩) hk.lt).trans hk.cell
  obtain ⟨a, cap, rfl, _, h0' | ⟨b, off, rfl, _, hb, hcs⟩⟩ := hI.below hW hn₀
  · rw [List.map_eq_nil_iff] at h0'
    subst h0'
    exact (valuesT1_nil_in m l Bs a cap (J 0) W hc' h0).mono fun e W' ⟨he, hj⟩ => ⟨he, hj⟩
  · rw [List.length_map] at hc'
    exact valuesT1_in m hm l Bs n₀ b off cap zs hreach hb J W (fun k x W1 hx hj => hY k _ W1 (List.getElem?_eq_some_iff.1 hx).1 ⟨x, hx, rfl⟩ hj) hc' hcs h0
end Go.Proofs.YtechcdkakgpnkaaGreat
namespace Go.Proofs.YtechcdkakgpnkaaGreat
open Go.RowKit Go.Shelf
attribute [local go_sem] Oper.semAt_some
def TxtAt (lo : Nat) (W : World) (v : Value) (l : List UInt8) : Prop :=
  ∃ (b c : Nat) (cur : Array Value) (fr : Nat × Nat), v = .slice (some ⟨b, 0, none⟩) l.length c ∧ l.length ≤ c ∧ lo ≤ b ∧ W.heap[b]? = some (.cells cur 5 fr) ∧ ∀ (k : Nat) (x : UInt8), l[k]? = some x → cur[k]? = some (bv x)
theorem TxtAt.bsl {lo : Nat} {W : World} {v : Value} {l : List UInt8} (h : TxtAt lo W v l) : BSl lo W.heap.size W v l := by
  obtain ⟨b, c, cur, fr, e, hc, hb, hh, hk⟩ := h
  exact ⟨_, c, e, hc, .inr ⟨b, 0, rfl, hb, (Array.getElem?_eq_some_iff.1 hh).1, fun k x hx => by simp [World.cell?, hh, hk k x hx]⟩⟩
theorem TxtAt.to {lo : Nat} {W W' : World} {v : Value} {l : List UInt8} (h : TxtAt lo W v l) (hk : ∀ (b : Nat) (cur : Array Value) (fr : Nat × Nat), W.heap[b]? = some (.cells cur 5 fr) → W'.heap[b]? = W.heap[b]?) : TxtAt lo W' v l := by
  obtain ⟨b, c, cur, fr, e, hc, hb, hh, hl⟩ := h
  exact ⟨b, c, cur, fr, e, hc, hb, (hk b cur fr hh).trans hh, hl⟩
theorem TxtAt.mono {lo lo' : Nat} {W : World} {v : Value} {l : List UInt8} (h : TxtAt lo W v l) (hl : lo' ≤ lo) : TxtAt lo' W v l := by
  obtain ⟨b, c, cur, fr, e, hc, hb, r⟩ := h
  exact ⟨b, c, cur, fr, e, hc, Nat.le_trans hl hb, r⟩
theorem TxtAt.below {lo : Nat} {W W' : World} {v : Value} {l : List UInt8} (h : TxtAt lo W v l) (hb : Below W.heap.size W W') : TxtAt lo W' v l := h.to fun b _ _ hh => hb.block b (Array.getElem?_eq_some_iff.1 hh).1
theorem TxtAt.spares {lo : Nat} {W W' : World} {v : Value} {l : List UInt8} {e : TypeId} (h : TxtAt lo W v l) (hs : Spares e W W') (hne : 5 ≠ e) : TxtAt lo W' v l :=
  h.to fun b cur fr hh => (hs.2 b _ hh (fun _ _ e' => by cases e'; exact hne rfl)).trans hh.symm
theorem TxtAt.set {lo : Nat} {W : World} {v : Value} {l : List UInt8} (h : TxtAt lo W v l) {B : Nat} {t : TypeId} {x : Value} (hb : Boxed W B t x) (hne : 5 ≠ t) (y : Value) : TxtAt lo (W.setCell ⟨B, 0, none⟩ y) v l :=
  h.to fun b cur fr hh => Below.heap_setCell _ _ _ b (fun e => by subst e; rw [show W.heap[b]? = _ from hb] at hh; cases hh; exact hne rfl)
theorem TxtAt.own {lo : Nat} {W W' : World} {v : Value} {l : List UInt8} {row : Option Nat} (h : TxtAt lo W v l) (hg : W.grownBy W' row) (hr : ∀ r, row = some r → ∃ o : Obj, W.heap[r]? = some o ∧ o.isCells = false) : TxtAt lo W' v l :=
  h.to fun b cur fr hh => hg.block b (Array.getElem?_eq_some_iff.1 hh).1 (fun e => by obtain ⟨o, ho, hc⟩ := hr b e.symm; rw [hh] at ho; cases ho; cases hc)
theorem conv_txt (w : World) (s : ByteArray) : ∃ c W', (convert 9 35 (.string s)).run Tryz.prog w = .ok (.slice (some ⟨w.heap.size, 0, none⟩) s.size c) W' ∧ Below w.heap.size w W' ∧ W'.heap.size = w.heap.size + 1 ∧ TxtAt w.heap.size W' (.slice (some ⟨w.heap.size, 0, none⟩) s.size c) s.data.toList := by
  refine ⟨_, _, Lib.run_convert_string_bytes w 9 35 5 s Tryz.underlying9 Tryz.underlying35 Tryz.underlying5, ?_, Lib.bytesWorld_size _ _ _, ?_⟩
  · exact ⟨rfl, rfl, rfl, by rw [Lib.bytesWorld_size]; omega, fun k hk => Lib.bytesWorld_at_old _ _ _ k hk⟩
  · refine ⟨_, _, _, _, rfl, grownCap_ge _ _ _ _, Nat.le_refl _, Lib.bytesWorld_at_new _ _ _, fun k x hx => ?_⟩
    have hk : k < s.size := (List.getElem?_eq_some_iff.1 hx).1
    have h := Lib.bytesWorld_cell w 5 s k hk
    simp only [World.cell?, Lib.bytesWorld_at_new] at h
    rw [show s.data.toList.getD k 0 = x by simp only [List.getD, hx, Option.getD_some]] at h
    exact h
def Txts (lo : Nat) (W : World) (vs : List Value) (zs : List ByteArray) : Prop := vs.length = zs.length ∧ ∀ (k : Nat) (v : Value) (s : ByteArray), vs[k]? = some v → zs[k]? = some s → TxtAt lo W v s.data.toList
theorem Txts.to {lo : Nat} {W W' : World} {vs : List Value} {zs : List ByteArray} (h : Txts lo W vs zs) (hk : ∀ v (l : List UInt8), TxtAt lo W v l → TxtAt lo W' v l) : Txts lo W' vs zs := ⟨h.1, fun k v s hv hs => hk v _ (h.2 k v s hv hs)⟩
theorem Txts.snoc {lo : Nat} {W : World} {vs : List Value} {zs : List ByteArray} (h : Txts lo W vs zs) {v : Value} {s : ByteArray} (ht : TxtAt lo W v s.data.toList) : Txts lo W (vs ++ [v]) (zs ++ [s]) :=
  ⟨by simp [h.1], fun k v' s' hv hs => by
    by_cases hk : k < vs.length
    · rw [List.getElem?_append_left hk] at hv
      rw [List.getElem?_append_left (by rw [← h.1]; exact hk)] at hs
      exact h.2 k v' s' hv hs
    · have hkl : k = vs.length := by have := (List.getElem?_eq_some_iff.1 hv).1; simp at this; omega
      subst hkl
      rw [List.getElem?_append_right (Nat.le_refl _)] at hv
      rw [List.getElem?_append_right (by rw [h.1]; exact Nat.le_refl _), h.1] at hs
      simp at hv hs
      rw [← hv, ← hs]; exact ht⟩
theorem Tryz.infoSl : (Tryz.prog.info? 35).map (fun i => (i.zero, i.size, i.bytes)) = some (some (.slice none 0 0), 1, 24) := by kernel_rfl
def JoinI (N B : Nat) (zs : List ByteArray) (w : World) (k : Nat) (W : World) : Prop :=
  ∃ v vs, Boxed W B 179 v ∧ W.ownsRow N 35 1 v k vs ∧ Txts N W vs (zs.take k) ∧ Below N w W
theorem joinI_own {N B : Nat} {zs : List ByteArray} {w : World} {C : Nat} (h : N ≤ w.heap.size) (hC : N ≤ C) : OwnFrom C (JoinI N B zs w) := fun _ X Y row ⟨v, vs, hb, hown, ht, hB⟩ hg hr =>
  ⟨v, vs, blk_own B 179 (fun _ : Unit => [v]) () X Y row hb hg (fun r e => (hr r e).2), own_turn hown hg (fun r e => (hr r e).2), ht.to (fun _ _ h => h.own hg (fun r e => (hr r e).2)), ownFrom_below h hC () X Y row hB hg hr⟩
def joinB (zs : List ByteArray) : ByteArray := shortB (zs.map fun s => s.data.toList).flatten
theorem flatten_le (f : ByteArray → List UInt8) (m : Nat) : ∀ (zs : List ByteArray), (∀ x ∈ zs, (f x).length ≤ m) → (zs.map f).flatten.length ≤ zs.length * m
  | [], _ => by simp
  | x :: zs, h => by
    have h1 := h x List.mem_cons_self
    have h2 := flatten_le f m zs (fun y hy => h y (List.mem_cons_of_mem _ hy))
    rw [List.map_cons, List.flatten_cons, List.length_append, List.length_cons, Nat.add_mul, Nat.one_mul]
    omega
set_option maxRecDepth 100000 in
set_option maxHeartbeats 4000000 in
theorem join_in (m : Nat) (hm : 3 ≤ m) (zs : List ByteArray) (hn : zs.length ≤ 1000) (hz : ∀ x ∈ zs, x.size ≤ 1000000) (sv : Value) (w : World) (hsv : VSl 0 w.heap.size w sv (zs.map tv)) :
    CallsIn Fence.wide m Tryz.prog 169 #[sv] w fun e W' => e = .returned (.string (joinB zs)) ∧ Below w.heap.size w W' := by
  have h1 : 1 ≤ m := by omega
  have hsv0 := hsv
  obtain ⟨a, cap, rfl⟩ := hsv.slice
  rw [List.length_map] at hsv0 ⊢
  clear hsv
  refine callsIn_of_wp_marks Tryz.func169 rfl trivial ?_ rfl
  simp only [Tryz.ntmps169, List.size_toArray, List.length_cons, List.length_nil, Nat.reduceAdd, Nat.reduceSub, Array.replicate_succ, Array.replicate_zero, List.push_toArray, List.append_toArray, List.nil_append, List.cons_append]
  obtain ⟨i0, hi, hz0, hz1, hz2⟩ := info_parts Tryz.infoSl
  gi_wp2_with (refine ⟨trivial, ?_⟩; gi_at_call 205; refine (valuesT_in Fence.wide (m - 1) trivial rfl _ _ _ _).mono ?_; rintro e w' ⟨rfl, rfl⟩)
  generalize hW5 : World.alloc _ _ = W5
  have k0 : Boxed W5 w.heap.size 179 (.slice none 0 0) := by rw [← hW5]; exact (Boxed.new _ _ _).alloc _
  have k2 : Boxed W5 (w.heap.size + 1) 157 (.slice a zs.length cap) := by rw [← hW5]; exact Blk.new' (vs := [_]) (by simp)
  have hB0 : Below w.heap.size w W5 := by rw [← hW5]; exact chainA (chain0 _ _) _
  have hz5 : W5.heap.size = w.heap.size + 2 := by rw [← hW5]; simp
  clear hW5
  refine wpIn_rangeFunc_relA (encs := fun y : ByteArray => #[tv y]) rfl h1 (gf := 221) (lb := #[.pointer (some ⟨w.heap.size + 1, 0, none⟩)]) rfl trivial (enters_of Tryz.func221 (by kernel_rfl) rfl)
    (valuesT_rel (m - 1) (by omega) (w.heap.size + 1) w.heap.size _ zs (by omega) W5 (by omega) k2 (hsv0.below hB0 (Nat.le_refl _))) (fun h k => h.trans k) (fun X o o' h2 h3 h4 => belowK_b (w := w) (Nat.le_refl _) _ _ o o' (by omega) h2 h3 h4) (fun X => Below.refl _ X) (Below.refl _ _) (fun _ => rfl)
    (JoinI w.heap.size w.heap.size zs w) (joinI_own (Nat.le_refl _) (by omega))
    ⟨_, [], k0, World.ownsRow_nil _ _ _ _, ⟨by simp, fun k v s h => by simp at h⟩, hB0⟩ (fun _ _ _ _ _ _ h _ _ => h) ?_ ?_ ?_ ?_
  rotate_left
  · intro l k y W K hr hK
    clear hr
    gi_wp2
    exact hK
  · rintro l k x W hlt ⟨v, vs, kv, hown, htx, hB⟩ hx
    have ht : zs.take (k + 1) = zs.take k ++ [x] := by rw [List.take_add_one, hx]; rfl
    have HT := Lib.hid ht
    clear ht hx
    obtain ⟨va, vc, rfl⟩ := ownsRow_slice hown
    have ko := kv.cell
    have kf := kv.frozen
    have hNW := hB.size
    obtain ⟨c1, W1, hcv, hb1, hz1', hta⟩ := conv_txt W x
    have HL := Lib.hid hlt
    have kv1' : Boxed W1 w.heap.size 179 (.slice va k vc) := (hb1.block _ kv.lt).trans kv
    have ko1 := kv1'.cell
    have kf1 := kv1'.frozen
    have hown1 := own_below hown hb1
    have htx1 := htx.to (fun _ _ h => h.below hb1)
    have HZ := Lib.hid hz5
    have HZ1 := Lib.hid hz1'
    clear hlt hz5 hz1'
    gi_wp2_with (gi_at_builtin; refine wpListIn_append_own _ rfl _ _ 179 rfl w.heap.size 35 i0 (.slice none 0 0) 1 24 Tryz.underlying179 hi hz0 hz1 hz2 rfl (by decide) (.slice va k vc) k vs rfl (hown1.alloc _) ⟨W1.heap.size, 0, none⟩ 1 1 [.slice (some ⟨W.heap.size, 0, none⟩) x.size c1] rfl rfl (cell_one_new _ _ _) (by simp [Value.oneCell']) (by have := HL.out; unfold maxLen; omega) (by have := HL.out; omega) (by have := HZ1.out; simp; omega) ?_; intro v' w1 hown' hgrow _; obtain ⟨g, cap', rfl⟩ := ownsRow_succ hown'; obtain ⟨hv1, kv', hrow', hk3, hbw⟩ := kv1'.appended (by decide) hown1 (Nat.le_trans hNW hb1.size) (Nat.le_refl _) hown' hgrow; have ko2 := hv1.cell; have kf2 := hv1.frozen)
    have hspW : Spares 35 W1 w1 := ((Spares.of_below (Below.refl _ W1)).grown (World.grownBy_alloc W1 (.cells #[.slice (some ⟨W.heap.size, 0, none⟩) x.size c1] 35) none) (fun r e => by cases e)).grown hgrow (fun r e => .inr (ownsRow_block (hown1.alloc _) r e))
    have hko := (KeepsOthers.of_grownBy (grown_of_below hb1) (by simp)).trans hk3
    refine ⟨hko.from _, (hb1.mono hNW).trans hbw, _, vs ++ [.slice (some ⟨W.heap.size, 0, none⟩) x.size c1], kv', hrow', ?_, hB.trans ((hb1.mono hNW).trans hbw)⟩
    rw [HT.out]
    exact (htx1.snoc (hta.mono hNW)).to (fun v l h => (h.spares hspW (by decide)).set hv1 (by decide) _)
  · rintro D W hD ⟨v, vs, kv, hown, htx, hB⟩ hK
    rw [List.take_length] at htx
    obtain ⟨va, vc, rfl⟩ := ownsRow_slice hown
    have ko := kv.cell
    have hvl := htx.1
    have hV := VSl.of_own (vs := vs) (by rw [hvl]; exact hown)
    have hnn : zs.length ≤ 1000 := hn
    have hDW := (Array.getElem?_eq_some_iff.1 hK).1
    have hmap1 : (vs.zip (zs.map fun s => s.data.toList)).map (·.1) = vs := by
      rw [List.map_fst_zip]; simp [hvl]
    have hmap2 : (vs.zip (zs.map fun s => s.data.toList)).map (·.2) = zs.map fun s => s.data.toList := by
      rw [List.map_snd_zip]; simp [hvl]
    have hS := short_of W (.slice va zs.length vc) (vs.zip (zs.map fun s => s.data.toList)) (by simp; omega) (fun p hp => by
      obtain ⟨k, hk⟩ := List.mem_iff_getElem?.1 hp
      rw [List.getElem?_zip_eq_some] at hk
      obtain ⟨hk1, hk2⟩ := hk
      rw [List.getElem?_map] at hk2
      obtain ⟨s, hs, he⟩ := Option.map_eq_some_iff.1 hk2
      have h2 := htx.2 k p.1 s hk1 hs
      have h3 := hz s (List.mem_of_getElem? hs)
      rw [← he]
      refine ⟨h2.bsl.mono (Nat.zero_le _) (Nat.le_refl _), ?_⟩
      show s.size ≤ _
      omega) (by
      rw [hmap2]
      have := flatten_le (fun s => s.data.toList) 1000000 zs (fun x hx => hz x hx)
      have h4 : zs.length * 1000000 ≤ 1000 * 1000000 := Nat.mul_le_mul_right _ hn
      omega) (by rw [hmap1]; exact hV.mono (Nat.zero_le _) (Nat.le_refl _))
    rw [hmap2] at hS
    have HZ := Lib.hid hz5
    clear hmap1 hmap2 hV htx hvl hz5
    gi_wp2_with fail
    refine ⟨trivial, (callsIn_wide.2 hS).mono ?_⟩
    rintro e w2 ⟨rfl, hb2⟩
    gi_wp2_with fail
    have hK2 : w2.heap[D]? = some (.deferred (some [])) := (hb2.block D hDW).trans hK
    have hB' := (hB.trans (hb2.mono hB.size)).trans (belowK_b (w := w) (Nat.le_refl _) _ D _ (.deferred none) (by have := HZ.out; omega) hK2 rfl rfl)
    refine ⟨by simp, .inl ⟨_, _, rfl, run_takeDeferred hK2, ?_⟩⟩
    refine ⟨.string (joinB zs), ?_, ?_⟩
    · simp [results, Tryz.f169, go_sem, joinB]
    · exact ⟨rfl, hB'⟩
theorem join_any (zs : List ByteArray) (hn : zs.length ≤ 1000) (hz : ∀ x ∈ zs, x.size ≤ 1000000) (sv : Value) (w : World) (hsv : VSl 0 w.heap.size w sv (zs.map tv)) :
    Calls Tryz.prog 169 #[sv] w fun e W' => e = .returned (.string (joinB zs)) ∧ Below w.heap.size w W' := callsIn_wide.1 (join_in 3 (by omega) zs hn hz sv w hsv)
end Go.Proofs.YtechcdkakgpnkaaGreat
namespace Go.Proofs.YtechcdkakgpnkaaGreat
open Go.RowKit Go.Shelf
attribute [local go_sem] Oper.semAt_some
set_option maxRecDepth 100000 in
set_option maxHeartbeats 4000000 in
theorem valuesI1_in (m : Nat) (hm : 1 ≤ m) (l Bs n₀ b off cap : Nat) (zs : List Int) (hreach : zs.length ≤ 140737488351232) (hb : b < n₀) (J : Nat → World → Prop)
    (W : World)
    (hY : ∀ k x W1, zs[k]? = some x → J k W1 → YieldAt Fence.wide (m - 1) Tryz.prog l #[iv x] W1 fun e W' => e = .returned (.bool true) ∧ J (k + 1) W' ∧ Below n₀ W1 W')
    (hBs : W.cell? ⟨Bs, 0, none⟩ = some (.slice (some ⟨b, off, none⟩) zs.length cap)) (hc : Row W b off (zs.map iv)) (h0 : J 0 W) :
    CallsIn Fence.wide m Tryz.prog 209 #[.func (.yield l) #[] #[], .pointer (some ⟨Bs, 0, none⟩)] W fun e W' => (∃ v, e = .returned v) ∧ J zs.length W' := by
  refine callsIn_of_wp Tryz.func209 rfl trivial ?_ rfl
  simp only [Tryz.ntmps209, List.size_toArray, List.length_cons, List.length_nil, Nat.reduceAdd, Nat.reduceSub, Array.replicate_succ, Array.replicate_zero, List.push_toArray, List.append_toArray, List.nil_append, List.cons_append]
  gi_wp2
  gi_loopw [7] (fun i wr => ∃ k : Nat, k ≤ zs.length ∧ i = .int .i64 k ∧ J k wr ∧ Below n₀ W wr) (fun i _ => zs.length - (intOf i).toNat)
  case atStart => exact ⟨0, Nat.zero_le _, rfl, h0, Below.refl _ _⟩
  case round =>
    obtain ⟨k, hk, rfl, hJs, hnx⟩ := hrel
    by_cases hlt : k < zs.length
    · obtain ⟨x, hx⟩ : ∃ x, zs[k]? = some x := ⟨_, List.getElem?_eq_getElem hlt⟩
      have c0 : wr.cell? ⟨b, off + k, none⟩ = some (iv x) := (hc.below hnx hb) k _ (by rw [List.getElem?_map, hx]; rfl)
      have hk0 : (k : Int) < (zs.length : Int) := by omega
      obtain ⟨fn, tmps, assign, body, hy, hR⟩ := hY k x wr hx hJs
      simp only [iv] at c0 hy
      clear hx
      generalize hL : zs.length = len at *
      have HL := Lib.hid hL
      clear hL
      gi_wp2
      refine hR.mono ?_
      rintro e W3 ⟨rfl, hJ3, hk3⟩
      gi_wp2
      go_roundw
      case rel => exact ⟨k + 1, by omega, by simp, hJ3, hnx.trans hk3⟩
      case measure => simp [intOf]; omega
    · obtain rfl : k = zs.length := by omega
      gi_wp2
      go_end0
      exact ⟨⟨_, rfl⟩, hJs⟩
set_option maxRecDepth 100000 in
set_option maxHeartbeats 1000000 in
theorem valuesI1_nil_in (m : Nat) (l Bs : Nat) (a : Option Addr) (cap : Nat) (J : World → Prop) (W : World) (hBs : W.cell? ⟨Bs, 0, none⟩ = some (.slice a 0 cap)) (h0 : J W) :
    CallsIn Fence.wide m Tryz.prog 209 #[.func (.yield l) #[] #[], .pointer (some ⟨Bs, 0, none⟩)] W fun e W' => (∃ v, e = .returned v) ∧ J W' := by
  refine callsIn_of_wp Tryz.func209 rfl trivial ?_ rfl
  simp only [Tryz.ntmps209, List.size_toArray, List.length_cons, List.length_nil, Nat.reduceAdd, Nat.reduceSub, Array.replicate_succ, Array.replicate_zero, List.push_toArray, List.append_toArray, List.nil_append, List.cons_append]
  gi_wp2
  gi_loopw [7] (fun i wr => i = .int .i64 0 ∧ J wr) (fun _ _ => 0)
  case atStart => exact ⟨rfl, h0⟩
  case round =>
    obtain ⟨rfl, hJs⟩ := hrel
    gi_wp2
    go_end0
    exact ⟨⟨_, rfl⟩, hJs⟩
set_option maxHeartbeats 1000000 in
theorem valuesI_in (F : Fence) (n : Nat) (h5 : F.fn 186) (hro : F.round = none) (a : Option Addr) (len cap : Nat) (w : World) :
    CallsIn F n Tryz.prog 186 #[.slice a len cap] w fun e w' => e = .returned (.func (.func 209) #[] #[.pointer (some ⟨w.heap.size, 0, none⟩)]) ∧ w' = w.alloc (.cells #[.slice a len cap] 220) := by
  refine callsIn_of_wp Tryz.func186 rfl h5 ?_ hro
  simp only [Tryz.ntmps186, List.size_toArray, List.length_cons, List.length_nil, Nat.reduceAdd, Nat.reduceSub, Array.replicate_succ, Array.replicate_zero, List.push_toArray, List.append_toArray, List.nil_append, List.cons_append]
  gi_wp2
  go_ret
  exact ⟨rfl, rfl⟩
theorem valuesI_rel (m : Nat) (hm : 1 ≤ m) (Bs n₀ : Nat) (sv : Value) (zs : List Int) (hreach : zs.length ≤ 140737488351232) (w : World) (hn₀ : n₀ ≤ w.heap.size)
    (hk : Boxed w Bs 220 sv) (hI : VSl 0 n₀ w sv (zs.map iv)) :
    SeqRel Fence.wide m Tryz.prog 209 #[.pointer (some ⟨Bs, 0, none⟩)] zs.length (fun k r _ => ∃ x, zs[k]? = some x ∧ r = #[iv x]) (fun _ => Below n₀) w := fun l J W hW _ _ _ hY h0 => by
  have hc' := (hW.cell (p := ⟨Bs, 0, none⟩) hk.lt).trans hk.cell
  obtain ⟨a, cap, rfl, _, h0' | ⟨b, off, rfl, _, hb, hcs⟩⟩ := hI.below hW hn₀
  · rw [List.map_eq_nil_iff] at h0'
    subst h0'
    exact (valuesI1_nil_in m l Bs a cap (J 0) W hc' h0).mono fun e W' ⟨he, hj⟩ => ⟨he, hj⟩
  · rw [List.length_map] at hc'
    exact valuesI1_in m hm l Bs n₀ b off cap zs hreach hb J W (fun k x W1 hx hj => hY k _ W1 (List.getElem?_eq_some_iff.1 hx).1 ⟨x, hx, rfl⟩ hj) hc' hcs h0
end Go.Proofs.YtechcdkakgpnkaaGreat
namespace Go.Proofs.YtechcdkakgpnkaaGreat
open Go.RowKit Go.Shelf
attribute [local go_sem] Oper.semAt_some
def headN (l : List UInt8) : Nat := be ((sumL cb sq l).take 3)
theorem headN_le (l : List UInt8) : headN l ≤ 16777215 := by
  have := be_lt' (l := (sumL cb sq l).take 3) (k := 3) (by rw [List.length_take]; omega)
  unfold headN; omega
def sumTo12 (x k : Nat) : Nat := ((List.range k).map fun i => dig x (11 - i)).sum
theorem sumTo12_succ (x k : Nat) : sumTo12 x (k + 1) = sumTo12 x k + dig x (11 - k) := by simp [sumTo12, List.range_succ]
theorem dig_le (x p : Nat) : dig x p ≤ 3 := by unfold dig; omega
theorem sumTo12_le (x k : Nat) : sumTo12 x k ≤ 3 * k := by
  induction k with
  | zero => simp [sumTo12]
  | succ k ih => rw [sumTo12_succ]; have := dig_le x (11 - k); omega
def restN (l : List UInt8) : Nat := 36 - sumTo12 (headN l) 12
def digL (l : List UInt8) : List Int := digs (headN l) 12 ++ digs (restN l) 3
theorem digL_length (l : List UInt8) : (digL l).length = 15 := by simp [digL, digs_length]
def RestI (B x : Nat) (w : World) (k : Nat) (W : World) : Prop := Boxed W B 3 (.int .i64 (36 - (sumTo12 x k : Int))) ∧ Below w.heap.size w W
theorem restI_own {B x : Nat} {w : World} {C : Nat} (hC : w.heap.size ≤ C) : OwnFrom C (RestI B x w) :=
  OwnFrom.and (Own.from (fun s X Y row hs hg hr => blk_own B 3 (fun s : Nat => [.int .i64 (36 - (sumTo12 x s : Int))]) s X Y row hs hg hr) _) (ownFrom_below (Nat.le_refl _) hC)
set_option maxRecDepth 100000 in
set_option maxHeartbeats 8000000 in
theorem digitsOf_in (m : Nat) (hm : 12 ≤ m) (l : List UInt8) (sv : Value) (w : World) (hreach : l.length ≤ 140737488353000) (hsv : BSl 0 w.heap.size w sv l) :
    CallsIn Fence.wide m Tryz.prog 149 #[sv] w (RowW w.heap.size 3 15 ((digL l).map iv) w) := by
  have h1 : 1 ≤ m := by omega
  have hsv0 := hsv
  obtain ⟨a, cap, rfl, hcap, hcs⟩ := hsv
  clear hcs
  refine callsIn_of_wp_marks Tryz.func149 rfl trivial ?_ rfl
  simp only [Tryz.ntmps149, List.size_toArray, List.length_cons, List.length_nil, Nat.reduceAdd, Nat.reduceSub, Array.replicate_succ, Array.replicate_zero, List.push_toArray, List.append_toArray, List.nil_append, List.cons_append]
  have hl32 : (sumL cb sq l).length = 32 := sumTo_length _ 8
  have hH : Hid (headN l = be ((sumL cb sq l).take 3)) := Lib.hid rfl
  have hD : Hid (digL l = digs (headN l) 12 ++ digs (restN l) 3) := Lib.hid rfl
  have hR : Hid (restN l = 36 - sumTo12 (headN l) 12) := Lib.hid rfl
  have hx := headN_le l
  gi_wp2_with (first
    | (refine ⟨trivial, ?_⟩; gi_at_call 110; refine (sum_in (m - 1) (by omega) l _ w hreach hsv0).mono ?_; rintro e w1 ⟨v1, rfl, hown1, hb1⟩; rw [hl32] at hown1; obtain ⟨g, c, rfl⟩ := ownsRow_succ hown1; have hq1 := BSl.of_own (l := sumL cb sq l) (by rw [hl32]; exact hown1); have hcc := (show 32 ≤ c by obtain ⟨_, c', e, h, _⟩ := hq1; rw [hl32] at h; cases e; exact h))
    | (refine ⟨trivial, ?_⟩; gi_at_call 166; refine (blobInt_in (m - 1) (by omega) ((sumL cb sq l).take 3) _ w1 (by rw [List.length_take]; omega) ((BSl.take (l := sumL cb sq l) (by rw [hl32]; exact hq1) 3 (by omega)).mono (Nat.zero_le _) (Nat.le_refl _))).mono ?_; rintro e w2 ⟨rfl, hb2⟩; rw [List.take_of_length_le (by rw [List.length_take]; omega), ← hH.out])
    | (refine ⟨trivial, ?_⟩; gi_at_call 185; refine (digits_in Fence.wide (m - 1) trivial rfl _ _ _).mono ?_; rintro e w3 ⟨rfl, hw3⟩; have kn : Boxed w3 w2.heap.size 3 (.int .i64 (headN l : Nat)) := (by rw [hw3]; exact (Boxed.new _ _ _).alloc _); have km : Boxed w3 (w2.heap.size + 1) 3 (.int .i64 ((12 : Nat) : Int)) := (by rw [hw3]; exact Blk.new' (vs := [.int .i64 12]) (by simp)); have hb3 : Below w2.heap.size w2 w3 := (by rw [hw3]; exact chainA (chain0 _ _) _); clear hw3)
    | (refine ⟨trivial, ?_⟩; gi_at_call 184; refine (collectI_in (m - 1) (by omega) (headN l) 12 hx (by omega) _ _ w3 kn km).mono ?_; rintro e w4 ⟨v4, rfl, hown4, hb4⟩; obtain ⟨g4, c4, rfl⟩ := ownsRow_succ hown4)
    | (refine ⟨trivial, ?_⟩; gi_at_call 186; refine (valuesI_in Fence.wide (m - 1) trivial rfl _ _ _ _).mono ?_; rintro e w5 ⟨rfl, hw5⟩))
  clear hw5
  have hq4 := VSl.of_own (vs := (digs (headN l) 12).map iv) (by rw [List.length_map, digs_length]; exact hown4)
  have hb14 : Below w.heap.size w w4 := chain (chain (chain hb1 hb2) hb3) hb4
  replace hown4 : w4.ownsRow w.heap.size 3 1 (.slice (some ⟨g4, 0, none⟩) (11 + 1) c4) 12 ((digs (headN l) 12).map iv) := own_base hown4 (chain (chain hb1 hb2) hb3).size
  clear hown1 hq1 hb1 hb2 hb3 hb4 kn km hcc
  generalize headN l = x at *
  generalize hW5 : World.alloc _ _ = W5
  have k0 : Boxed W5 w4.heap.size 3 (.int .i64 (36 - (sumTo12 x 0 : Int))) := by rw [← hW5]; exact (Boxed.new _ _ _).alloc _
  have k2 : Boxed W5 (w4.heap.size + 1) 220 (.slice (some ⟨g4, 0, none⟩) 12 c4) := by rw [← hW5]; exact Blk.new' (vs := [_]) (by simp)
  have hB0 : Below w4.heap.size w4 W5 := by rw [← hW5]; exact chainA (chain0 _ _) _
  have hz : W5.heap.size = w4.heap.size + 2 := by rw [← hW5]; simp
  clear hW5
  refine wpIn_rangeFunc_relA rfl h1 (gf := 209) (lb := #[.pointer (some ⟨w4.heap.size + 1, 0, none⟩)]) rfl trivial (enters_of Tryz.func209 (by kernel_rfl) rfl)
    (valuesI_rel (m - 1) (by omega) (w4.heap.size + 1) w4.heap.size _ (digs x 12) (by rw [digs_length]; omega) W5 (by omega) k2 ((hq4.mono (Nat.zero_le _) (Nat.le_refl _)).below hB0 (Nat.le_refl _))) (fun h k => h.trans k) (fun X o o' h2 h3 h4 => belowK_b (w := w4) (Nat.le_refl _) _ _ o o' (by omega) h2 h3 h4) (fun X => Below.refl _ X) (Below.refl _ _) (fun _ => rfl)
    (RestI w4.heap.size x w4) (restI_own (by omega)) ⟨k0, hB0⟩ (fun _ _ _ _ _ _ h _ _ => h) ?_ ?_ ?_ ?_
  rotate_left
  · intro l k y W K _ hK
    gi_wp2
    exact hK
  · rintro r k y W hlt ⟨kr, hB⟩ hy
    rw [digs_length] at hlt
    rw [digs_at x hlt] at hy
    obtain rfl := (Option.some.inj hy).symm
    have hs := sumTo12_succ x k
    have h3 := dig_le x (11 - k)
    have hle := sumTo12_le x k
    have kc := kr.cell
    have kf := kr.frozen
    have HS := Lib.hid hs
    clear hs hy
    have b1 : (sumTo12 x k : Int) ≤ 36 := by omega
    have b2 : (dig x (12 - 1 - k) : Int) ≤ 3 := by have := dig_le x (12 - 1 - k); omega
    have h11 : 12 - 1 - k = 11 - k := by omega
    rw [h11] at b2 ⊢
    generalize dig x (11 - k) = d at *
    generalize hS : sumTo12 x k = S at *
    have HS2 := Lib.hid hS
    clear hS h11
    gi_wp2
    refine ⟨(KeepsOthers.setCell _ _ _).from _, (Below.refl w4.heap.size W).setCell (p := ⟨w4.heap.size, 0, none⟩) (Nat.le_refl _) _, ?_, hB.setCell (p := ⟨w4.heap.size, 0, none⟩) (Nat.le_refl _) _⟩
    rw [HS.out, show (36 - ((S + d : Nat) : Int)) = 36 - (S : Int) - (d : Int) by omega]
    exact kr.set _
  · rintro D W hD ⟨kr, hB⟩ hK
    rw [digs_length] at kr
    have hle := sumTo12_le x 12
    have hr : (36 - (sumTo12 x 12 : Int)) = ((restN l : Nat) : Int) := by rw [hR.out]; omega
    rw [hr] at kr
    have hr36 : restN l ≤ 36 := by rw [hR.out]; omega
    have kc := kr.cell
    have hown5 := own_below hown4 hB
    have hB5 : Below w.heap.size w W := chain hb14 hB
    clear hown4 hr hle hR k0 k2 hB0
    generalize restN l = q at *
    have hDW := (Array.getElem?_eq_some_iff.1 hK).1
    have hsz := hB5.size
    have HZ := Lib.hid hz
    clear hz
    gi_wp2_with (first
      | (refine ⟨trivial, ?_⟩; gi_at_call 185; refine (digits_in Fence.wide (m - 1) trivial rfl _ _ _).mono ?_; rintro e w6 ⟨rfl, hw6⟩; have kn : Boxed w6 W.heap.size 3 (.int .i64 (q : Nat)) := (by rw [hw6]; exact (Boxed.new _ _ _).alloc _); have km : Boxed w6 (W.heap.size + 1) 3 (.int .i64 ((3 : Nat) : Int)) := (by rw [hw6]; exact Blk.new' (vs := [.int .i64 3]) (by simp)); have hb6 : Below W.heap.size W w6 := (by rw [hw6]; exact chainA (chain0 _ _) _); clear hw6)
      | (refine ⟨trivial, ?_⟩; gi_at_call 187; refine (appendSeqI_in (m - 1) (by omega) w.heap.size 12 q 3 (by omega) (by omega) (by omega) _ _ _ _ w6 (Nat.le_trans hsz hb6.size) (own_below hown5 hb6) kn km (.inr (by omega))).mono ?_; rintro e w7 ⟨v7, rfl, hown7, hb7, hsp7⟩; obtain ⟨g7, c7, rfl⟩ := ownsRow_succ hown7))
    have hK7 : w7.heap[D]? = some (.deferred (some [])) := hsp7.others.same _ _ ((hb6.block D hDW).trans hK) rfl
    have hB' := ((hB5.trans (hb6.mono hsz)).trans hb7).trans (belowK_b (w := w) (Nat.le_refl _) _ D _ (.deferred none) (by have := HZ.out; have := hb14.size; omega) hK7 rfl rfl)
    have hown3 := ownsRow_putObj hown7 (.deferred none) hK7 rfl
    rw [← List.map_append, ← hD.out] at hown3
    refine ⟨by simp, .inl ⟨_, _, rfl, run_takeDeferred hK7, ?_⟩⟩
    refine ⟨.slice (some ⟨g7, 0, none⟩) 15 c7, ?_, ?_⟩
    · simp [results, Tryz.f149, go_sem]
    · exact ⟨_, rfl, hown3, hB'⟩
theorem digitsOf_any (l : List UInt8) (sv : Value) (w : World) (hreach : l.length ≤ 140737488353000) (hsv : BSl 0 w.heap.size w sv l) :
    Calls Tryz.prog 149 #[sv] w (RowW w.heap.size 3 15 ((digL l).map iv) w) := callsIn_wide.1 (digitsOf_in 12 (by omega) l sv w hreach hsv)
end Go.Proofs.YtechcdkakgpnkaaGreat
namespace Go.Proofs.YtechcdkakgpnkaaGreat
open Go.RowKit Go.Shelf
def digF (l : List UInt8) (k : Nat) : Nat := if k < 12 then dig (headN l) (11 - k) else dig (restN l) (14 - k)
theorem digL_at (l : List UInt8) {k : Nat} (h : k < 15) : (digL l)[k]? = some (digF l k : Int) := by
  unfold digL digF
  by_cases h12 : k < 12
  · rw [List.getElem?_append_left (by rw [digs_length]; exact h12), digs_at _ h12, if_pos h12]
  · rw [List.getElem?_append_right (by rw [digs_length]; omega), digs_length, digs_at _ (by omega), if_neg h12]
    congr 3; omega
theorem digRow {lo : Nat} {W : World} {v : Value} {l : List UInt8} (h : W.ownsRow lo 3 1 v 15 ((digL l).map iv)) :
    ∃ g c, v = .slice (some ⟨g, 0, none⟩) 15 c ∧ g < W.heap.size ∧ 15 ≤ c ∧ ∀ k, k < 15 → W.cell? ⟨g, k, none⟩ = some (.int .i64 (digF l k : Int)) := by
  have hq := VSl.of_own (vs := (digL l).map iv) (by rw [List.length_map, digL_length]; exact h)
  obtain ⟨g, c, rfl⟩ := ownsRow_succ h
  obtain ⟨a', c', e, hc, h0 | ⟨b, off, ha, _, hb, hr⟩⟩ := hq
  · have := congrArg List.length h0
    rw [List.length_map, digL_length] at this
    simp at this
  · rw [List.length_map, digL_length] at e hc
    cases e
    cases ha
    exact ⟨g, c, rfl, hb, hc, fun k hk => by
      have := hr k (.int .i64 (digF l k : Int)) (by rw [List.getElem?_map, digL_at l hk]; rfl)
      rwa [Nat.zero_add] at this⟩
end Go.Proofs.YtechcdkakgpnkaaGreat
namespace Go.Proofs.YtechcdkakgpnkaaGreat
open Go.RowKit Go.Shelf
set_option maxHeartbeats 1000000 in
theorem toEnd_any (k : Int) (w : World) : Calls Tryz.prog 172 #[.int .i64 k] w fun e W' => e = .returned (.int .i64 3) ∧ w = W' := by
  go_enter Tryz.func172, Tryz.ntmps172
  go_wp2
  go_ret
  exact ⟨rfl, rfl⟩
set_option maxHeartbeats 1000000 in
theorem signAt_any (k d : Nat) (hk : k < 15) (g c B : Nat) (w : World) (kb : Boxed w B 220 (.slice (some ⟨g, 0, none⟩) 15 c)) (hd : w.cell? ⟨g, k, none⟩ = some (.int .i64 (d : Int))) :
    Calls Tryz.prog 152 #[.int .i64 (k : Int), .pointer (some ⟨B, 0, none⟩)] w fun e W' => e = .returned (.int .i64 (d : Int)) ∧ w = W' := by
  have cb := kb.cell
  have hk' : (k : Int) < 15 := by omega
  go_enter Tryz.func152, Tryz.ntmps152
  go_wp2
  go_ret
  exact ⟨rfl, rfl⟩
def wf (zs : List ByteArray) : Bool := decide (zs.length = 15) && zs.all (fun x => x.size == 8)
end Go.Proofs.YtechcdkakgpnkaaGreat
namespace Go.Proofs.YtechcdkakgpnkaaGreat
open Go.RowKit Go.Shelf
theorem begs_mem {s : ByteArray} {f : Nat} {x : ByteArray} (h : x ∈ begs s f) : x.size = 8 := by
  obtain ⟨j, _, rfl⟩ := List.mem_map.1 h
  exact shortB_size _
theorem walked_mem {zs : List ByteArray} {d : Nat → Int} {m : Nat} (hz : ∀ x ∈ zs, x.size ≤ m) {y : ByteArray} (h : y ∈ walked zs d) : y.size ≤ max m 8 := by
  unfold walked at h
  obtain ⟨i, hi, rfl⟩ := List.mem_mapIdx.1 h
  have := linkB_size zs[i] (stp (d i))
  have := hz zs[i] (List.getElem_mem hi)
  omega
def publicB (s : ByteArray) (f : Nat) : ByteArray := joinB (walked (begs s f) fun _ => 3)
def signL (s : ByteArray) (f : Nat) (l : List UInt8) : List ByteArray := walked (begs s f) fun k => (digF l k : Int)
set_option maxRecDepth 100000 in
set_option maxHeartbeats 2000000 in
theorem public_any (s : ByteArray) (hs : s.size ≤ 140737488352000) (z : Int) (w : World) :
    Calls Tryz.prog 133 #[.string s, .int .i64 z] w fun e W' => e = .returned (.string (publicB s (lfN z))) ∧ Below w.heap.size w W' := by
  have hp : Hid (publicB s (lfN z) = joinB (walked (begs s (lfN z)) fun _ => 3)) := Lib.hid rfl
  go_enter Tryz.func133, Tryz.ntmps133
  go_wp2_with fail
  refine (begin_any s hs z _).mono ?_
  rintro e w1 ⟨v1, rfl, hown1, hb1⟩
  have hbl := begs_length s (lfN z)
  have hV1 := VSl.of_own (vs := (begs s (lfN z)).map tv) (by rw [List.length_map, hbl]; exact hown1)
  obtain ⟨g1, c1, rfl⟩ := ownsRow_succ hown1
  have hm : ∀ x ∈ begs s (lfN z), x.size ≤ 8 := fun x hx => by rw [begs_mem hx]; omega
  have HM := Lib.hid hm
  have HBL := Lib.hid hbl
  clear hm hbl hown1
  generalize begs s (lfN z) = bs at *
  go_wp2_with fail
  refine (walkAll_any bs (by have := HBL.out; omega) (fun x hx => by have := HM.out x hx; omega) (fun _ => 3) _ _ (hV1.mono (Nat.zero_le _) (Nat.le_refl _)) 172 #[] (enters_of Tryz.func172 (by kernel_rfl) rfl) (fun k W _ _ => (toEnd_any (k : Int) W).mono fun e W' ⟨he, hw⟩ => ⟨he, by rw [hw]; exact Below.refl _ _⟩)).mono ?_
  rintro e w2 ⟨v2, rfl, hown2, hb2⟩
  have hV2 := VSl.of_own (vs := (walked bs fun _ => 3).map tv) (by rw [List.length_map, walked_length]; exact hown2)
  obtain ⟨a2, c2, rfl⟩ := ownsRow_slice hown2
  go_wp2_with fail
  refine (join_any (walked bs fun _ => 3) (by rw [walked_length, HBL.out]; omega) (fun x hx => by have := walked_mem HM.out hx; omega) _ _ (hV2.mono (Nat.zero_le _) (Nat.le_refl _))).mono ?_
  rintro e w3 ⟨rfl, hb3⟩
  go_wp2_with fail
  go_ret
  exact ⟨by rw [hp.out]; rfl, chain (chain hb1 hb2) hb3⟩
set_option maxRecDepth 100000 in
set_option maxHeartbeats 2000000 in
theorem sign_any (s : ByteArray) (hs : s.size ≤ 140737488352000) (z : Int) (l : List UInt8) (tx : Value) (w : World) (hreach : l.length ≤ 140737488353000) (htx : BSl 0 w.heap.size w tx l) :
    Calls Tryz.prog 103 #[.string s, .int .i64 z, tx] w (RowW w.heap.size 9 15 ((signL s (lfN z) l).map tv) w) := by
  have hp : Hid (signL s (lfN z) l = walked (begs s (lfN z)) fun k => (digF l k : Int)) := Lib.hid rfl
  have htx0 := htx
  obtain ⟨ta, tc, rfl⟩ := bsl_slice htx
  clear htx
  go_enter Tryz.func103, Tryz.ntmps103
  go_wp2_with fail
  refine (digitsOf_any l _ _ hreach htx0).mono ?_
  rintro e w1 ⟨v1, rfl, hown1, hb1⟩
  obtain ⟨g, c, rfl, hgw, hcap, hcell⟩ := digRow hown1
  have HC := Lib.hid hcell
  clear hown1 hcell htx0
  go_wp2_with fail
  generalize hW2 : World.alloc _ _ = w2
  have kb : Boxed w2 w1.heap.size 220 (.slice (some ⟨g, 0, none⟩) 15 c) := by rw [← hW2]; exact Boxed.new _ _ _
  have hb2 : Below w1.heap.size w1 w2 := by rw [← hW2]; exact chain0 _ _
  clear hW2
  refine (begin_any s hs z _).mono ?_
  rintro e w3 ⟨v3, rfl, hown3, hb3⟩
  have hbl := begs_length s (lfN z)
  have hV3 := VSl.of_own (vs := (begs s (lfN z)).map tv) (by rw [List.length_map, hbl]; exact hown3)
  obtain ⟨g3, c3, rfl⟩ := ownsRow_succ hown3
  have hm : ∀ x ∈ begs s (lfN z), x.size ≤ 8 := fun x hx => by rw [begs_mem hx]; omega
  have HM := Lib.hid hm
  have HBL := Lib.hid hbl
  clear hm hbl hown3
  generalize begs s (lfN z) = bs at *
  go_wp2_with fail
  refine (walkAll_any bs (by have := HBL.out; omega) (fun x hx => by have := HM.out x hx; omega) (fun k => (digF l k : Int)) _ _ (hV3.mono (Nat.zero_le _) (Nat.le_refl _)) 152 #[.pointer (some ⟨w1.heap.size, 0, none⟩)] (enters_of Tryz.func152 (by kernel_rfl) rfl) (fun k W hk hW => by
    have hk15 : k < 15 := by have := HBL.out; omega
    have hb1W : Below w2.heap.size w2 W := chain hb3 hW
    exact (signAt_any k (digF l k) hk15 g c w1.heap.size W ((hb1W.block _ kb.lt).trans kb) ((hb1W.cell (p := ⟨g, k, none⟩) (Nat.lt_of_lt_of_le hgw hb2.size)).trans ((hb2.cell (p := ⟨g, k, none⟩) hgw).trans (HC.out k hk15)))).mono fun e W' ⟨he, hw⟩ => ⟨he, by rw [hw]; exact Below.refl _ _⟩)).mono ?_
  rintro e w4 ⟨v4, rfl, hown4, hb4⟩
  obtain ⟨a4, c4, rfl⟩ := ownsRow_slice hown4
  rw [HBL.out] at hown4
  have hb14 : Below w.heap.size w w3 := chain (chain hb1 hb2) hb3
  go_wp2_with fail
  rw [HBL.out]
  go_ret
  exact ⟨_, rfl, by rw [hp.out]; exact own_base hown4 hb14.size, chain hb14 hb4⟩
end Go.Proofs.YtechcdkakgpnkaaGreat
namespace Go.Proofs.YtechcdkakgpnkaaGreat
open Go.RowKit Go.Shelf
def joinM (a b : ByteArray) : ByteArray := shortB (a.data.toList ++ b.data.toList)
theorem joinM_size (a b : ByteArray) : (joinM a b).size = 8 := shortB_size _
theorem publicB_size (s : ByteArray) (f : Nat) : (publicB s f).size = 8 := shortB_size _
def nodeB (s : ByteArray) : Nat → Nat → ByteArray
  | 0, i => publicB s i
  | h + 1, i => joinM (nodeB s h (2 * i)) (nodeB s h (2 * i + 1))
theorem nodeB_size (s : ByteArray) (h i : Nat) : (nodeB s h i).size = 8 := by
  cases h with
  | zero => exact publicB_size s i
  | succ h => exact joinM_size _ _
def cnt (h : Nat) : Nat := 2 ^ (3 - h)
theorem cnt_succ {h : Nat} (hh : h < 3) : cnt h = 2 * cnt (h + 1) := by
  have : h = 0 ∨ h = 1 ∨ h = 2 := by omega
  rcases this with rfl | rfl | rfl <;> rfl
theorem cnt_le (h : Nat) : cnt h ≤ 8 := by
  have h1 : 2 ^ (3 - h) ≤ 2 ^ 3 := Nat.pow_le_pow_right (by omega) (by omega)
  exact h1
theorem short_two (W : World) (v1 v2 : Value) (l1 l2 : List UInt8) (h1 : BSl 0 W.heap.size W v1 l1) (h2 : BSl 0 W.heap.size W v2 l2) (hl : l1.length + l2.length ≤ 140737488353000) :
    Calls Tryz.prog 173 #[.slice (some ⟨W.heap.size, 0, none⟩) 2 2] (W.alloc (.cells #[v1, v2] 35)) fun e W' => e = .returned (.string (shortB (l1 ++ l2))) ∧ Below W.heap.size W W' := by
  have hb : Below W.heap.size W (W.alloc (.cells #[v1, v2] 35)) := chain0 _ _
  have up : ∀ {v : Value} {l : List UInt8}, BSl 0 W.heap.size W v l → BSl 0 (W.alloc (.cells #[v1, v2] 35)).heap.size (W.alloc (.cells #[v1, v2] 35)) v l := fun h => (h.below hb (Nat.le_refl _)).mono (Nat.le_refl _) hb.size
  have hs := short_of (W.alloc (.cells #[v1, v2] 35)) (.slice (some ⟨W.heap.size, 0, none⟩) 2 2) [(v1, l1), (v2, l2)] (by simp) (fun p hp => by
    simp only [List.mem_cons, List.not_mem_nil, or_false] at hp
    rcases hp with rfl | rfl
    · exact ⟨up h1, by show l1.length ≤ _; omega⟩
    · exact ⟨up h2, by show l2.length ≤ _; omega⟩) (by simp; omega) ⟨_, 2, rfl, Nat.le_refl _, .inr ⟨_, 0, rfl, Nat.zero_le _, by simp, fun k x hx => by
      have hB : Blk (W.alloc (.cells #[v1, v2] 35)) W.heap.size 35 [v1, v2] := Blk.new W _ [v1, v2]
      rw [Nat.zero_add, hB.cell]
      exact hx⟩⟩
  refine hs.mono fun e W' ⟨he, hb2⟩ => ⟨?_, chain hb hb2⟩
  rw [he]
  simp
set_option maxRecDepth 100000 in
set_option maxHeartbeats 2000000 in
theorem joinM_any (a b : ByteArray) (hs : a.size + b.size ≤ 140737488353000) (w : World) :
    Calls Tryz.prog 134 #[.string a, .string b] w fun e W' => e = .returned (.string (joinM a b)) ∧ Below w.heap.size w W' := by
  obtain ⟨c1, W1, hcv1, hb1, hz1, ht1⟩ := conv_txt w a
  obtain ⟨c2, W2, hcv2, hb2, hz2, ht2⟩ := conv_txt W1 b
  have h1 := (ht1.below hb2).bsl.mono (Nat.zero_le _) (Nat.le_refl _)
  have h2 := ht2.bsl.mono (Nat.zero_le _) (Nat.le_refl _)
  have hp : Hid (joinM a b = shortB (a.data.toList ++ b.data.toList)) := Lib.hid rfl
  have HS := Lib.hid (show a.data.toList.length + b.data.toList.length ≤ 140737488353000 from hs)
  clear hz1 hz2 ht1 ht2 hs
  go_enter Tryz.func134, Tryz.ntmps134
  go_wp2_with fail
  refine (short_two _ _ _ _ _ h1 h2 HS.out).mono ?_
  rintro e w3 ⟨rfl, hb3⟩
  go_wp2_with fail
  go_ret
  exact ⟨by rw [hp.out]; rfl, chain (chain hb1 hb2) hb3⟩
theorem cell_new1 (w : World) (t : TypeId) (v : Value) : ∀ (j : Nat) (u : Value), [v][j]? = some u → (w.alloc (.cells #[v] t)).cell? ((⟨w.heap.size, 0, none⟩ : Addr).add j) = some u := fun j u hu => by
  have hp : (⟨w.heap.size, 0, none⟩ : Addr).add j = ⟨w.heap.size, j, none⟩ := by cases j <;> simp [Addr.add]
  rw [hp, (Blk.new w t [v]).cell]
  exact hu
theorem upto_snoc {α : Type} (f : Nat → ByteArray) (k : Nat) (g : ByteArray → α) : (upto f (k + 1)).map g = (upto f k).map g ++ [g (f k)] := by rw [upto_succ, List.map_append]; rfl
set_option maxRecDepth 100000 in
set_option maxHeartbeats 2000000 in
theorem lowest_any (s : ByteArray) (hs : s.size ≤ 140737488352000) (w : World) :
    Calls Tryz.prog 90 #[.string s] w (RowW w.heap.size 9 8 ((upto (nodeB s 0) 8).map tv) w) := by
  obtain ⟨i0, hi, hz0, hz1, hz2⟩ := info_parts Tryz.infoStr
  go_enter Tryz.func90, Tryz.ntmps90
  go_wp2
  go_loopw [3, 5] (fun v i wr => ∃ k : Nat, k ≤ 8 ∧ i = .int .i64 (k : Nat) ∧ wr.ownsRow w.heap.size 9 1 v k ((upto (nodeB s 0) k).map tv) ∧ Below w.heap.size w wr) (fun _ i _ => 8 - (intOf i).toNat)
  case atStart => exact ⟨0, by omega, rfl, World.ownsRow_nil _ _ _ _, Below.refl _ _⟩
  case round =>
    obtain ⟨k, hk, rfl, hown, hB⟩ := hrel
    obtain ⟨va, vc, rfl⟩ := ownsRow_slice hown
    by_cases hlt : k < 8
    · have HT := Lib.hid (upto_snoc (nodeB s 0) k tv)
      have hf : lfN (k : Int) = k := by have := lfN_cases (k : Int); omega
      have HF : Hid (nodeB s 0 k = publicB s (lfN (k : Int))) := Lib.hid (by rw [hf]; rfl)
      have hlt' : (k : Int) < 8 := by omega
      have HLT := Lib.hid hlt
      clear hlt hk hf
      generalize (upto (nodeB s 0) k).map tv = ts at *
      go_wp2_with fail
      refine (public_any s hs (k : Int) _).mono ?_
      rw [← HF.out]
      rintro e w2 ⟨rfl, hb2⟩
      have hown2 := own_below hown hb2
      have hB2 := hB.trans (hb2.mono hB.size)
      have hNW := hB2.size
      generalize nodeB s 0 k = x at *
      clear hown hB hb2
      go_wp2_with (at_builtin; refine wpList_append_own _ rfl _ _ 157 rfl w.heap.size 9 i0 (.string ⟨#[]⟩) 1 16 Tryz.underlying157 hi hz0 hz1 hz2 rfl (by decide) (.slice va k vc) k ts rfl (hown2.alloc _) ⟨w2.heap.size, 0, none⟩ 1 1 [tv x] rfl rfl (cell_new1 _ _ _) (by simp [Value.oneCell']) (by have := HLT.out; unfold maxLen; omega) (by have := HLT.out; omega) (by simp; omega) ?_; intro v' w3 hown' hgrow _; obtain ⟨g2, c2, rfl⟩ := ownsRow_succ hown')
      have hB3 : Below w.heap.size w w3 := (hB2.alloc hNW _).grown hgrow (Nat.le_trans hNW (by simp)) (fun j hj => (World.ownsRow.lt hown2 j hj).1)
      go_roundw
      case rel => exact ⟨k + 1, HLT.out, by simp, by rw [HT.out]; exact hown', hB3⟩
      case measure => have := HLT.out; simp [intOf]; omega
    · obtain rfl : k = 8 := by omega
      go_wp2
      go_ret
      exact ⟨_, rfl, hown, hB⟩
end Go.Proofs.YtechcdkakgpnkaaGreat
namespace Go.Proofs.YtechcdkakgpnkaaGreat
open Go.RowKit Go.Shelf
theorem upto_at (f : Nat → ByteArray) {n k : Nat} (h : k < n) : ((upto f n).map tv)[k]? = some (.string (f k)) := by
  unfold upto
  rw [List.getElem?_map, List.getElem?_map, List.getElem?_range h]
  rfl
theorem upto_row {lo hi : Nat} {W : World} {f : Nat → ByteArray} {n : Nat} {a : Option Addr} {len cap : Nat} (h : VSl lo hi W (.slice a len cap) ((upto f n).map tv)) (hn : 0 < n) :
    len = n ∧ ∃ b off, a = some ⟨b, off, none⟩ ∧ b < hi ∧ ∀ k, k < n → W.cell? ⟨b, off + k, none⟩ = some (.string (f k)) := by
  obtain ⟨a', c', e, hc, h0⟩ := h
  have hl : ((upto f n).map tv).length = n := by rw [List.length_map, upto_length]
  cases e
  refine ⟨hl, ?_⟩
  rcases h0 with h0 | ⟨b, off, ha, _, hb, hr⟩
  · rw [h0] at hl
    simp at hl
    omega
  · exact ⟨b, off, ha, hb, fun k hk => hr k _ (upto_at f hk)⟩
def overF (f : Nat → ByteArray) (k : Nat) : ByteArray := joinM (f (2 * k)) (f (2 * k + 1))
set_option maxRecDepth 100000 in
set_option maxHeartbeats 8000000 in
theorem above_any (f : Nat → ByteArray) (hf : ∀ i, (f i).size ≤ 1000) (n : Nat) (h0 : 0 < n) (hn : n ≤ 1000) (a : Option Addr) (len cap : Nat) (w : World) (hsv : VSl 0 w.heap.size w (.slice a len cap) ((upto f (2 * n)).map tv)) :
    Calls Tryz.prog 91 #[.slice a len cap] w (RowW w.heap.size 9 n ((upto (overF f) n).map tv) w) := by
  have hmx : Tryz.prog.follows .mixedOrders = true := by kernel_rfl
  obtain ⟨i0, hi, hz0, hz1, hz2⟩ := info_parts Tryz.infoStr
  obtain ⟨rfl, b, off, rfl, hbw, hcell⟩ := upto_row hsv (by omega)
  have HC := Lib.hid hcell
  have HF := Lib.hid hf
  clear hcell hf hsv
  have hdiv : ((2 * n : Nat) : Int) / 2 = (n : Int) := by omega
  generalize hL : 2 * n = L at *
  have HL := Lib.hid hL
  have hL2 : L ≤ 2000 := by omega
  clear hL
  go_enter Tryz.func91, Tryz.ntmps91
  go_wp2
  clear hdiv
  go_loopw [3, 8] (fun v i wr => ∃ k : Nat, k ≤ n ∧ i = .int .i64 (k : Nat) ∧ wr.ownsRow w.heap.size 9 1 v k ((upto (overF f) k).map tv) ∧ Below w.heap.size w wr) (fun _ i _ => n - (intOf i).toNat)
  case atStart => exact ⟨0, by omega, rfl, World.ownsRow_nil _ _ _ _, Below.refl _ _⟩
  case round =>
    obtain ⟨k, hk, rfl, hown, hB⟩ := hrel
    obtain ⟨va, vc, rfl⟩ := ownsRow_slice hown
    by_cases hlt : k < n
    · have HT := Lib.hid (upto_snoc (overF f) k tv)
      have c0 := HC.out (2 * k) (by have := HL.out; omega)
      have c1 := HC.out (2 * k + 1) (by have := HL.out; omega)
      have s0 := HF.out (2 * k)
      have s1 := HF.out (2 * k + 1)
      have HO : Hid (overF f k = joinM (f (2 * k)) (f (2 * k + 1))) := Lib.hid rfl
      have hlt' : (k : Int) < (n : Int) := by omega
      have HLT := Lib.hid hlt
      have e0 : IntKind.i64.wrap (2 * (k : Int)) = ((2 * k : Nat) : Int) := by rw [IntKind.wrap_i64]; omega
      have e1 : IntKind.i64.wrap (((2 * k : Nat) : Int) + 1) = ((2 * k + 1 : Nat) : Int) := by rw [IntKind.wrap_i64]; omega
      have i1 : 2 * k < L := by have := HL.out; omega
      have i2 : 2 * k + 1 < L := by have := HL.out; omega
      clear hlt hk
      generalize (upto (overF f) k).map tv = ts at *
      generalize f (2 * k) = x at *
      generalize f (2 * k + 1) = y at *
      generalize hp0 : 2 * k + 1 = q1 at *
      generalize hp1 : 2 * k = q0 at *
      have HP0 := Lib.hid hp0
      clear hp0 hp1
      go_wp2_with fail
      refine wp_region_held_drew (S := fun W => Below w.heap.size w W) hmx hB.drew ?_
      intro hS
      have hWd : Below wr.heap.size wr wr.drew := (Below.refl _ wr).drew
      replace hown : wr.drew.ownsRow w.heap.size 9 1 (.slice va k vc) k ts := hown
      generalize wr.drew = Y at *
      refine' wpAnyH_take (i := 0) (oi := _) (v := _) ?hi1 (by kernel_rfl) (by kernel_rfl) (by kernel_rfl) ?hQ1 (Or.inl ⟨?hw1, ?hy1⟩) hS ?rest1
      case hi1 => simp only [List.getElem?_toArray, List.getElem?_cons_zero]; rfl
      case hQ1 => exact fun _ _ _ h => h
      case hw1 => rfl
      case hy1 => intro W' hS'; go_simp; with_reducible rfl
      try simp only [Act.put, List.setIfInBounds_toArray, List.set_cons_zero, List.set_cons_succ]
      refine' wpAnyH_take (i := 1) (oi := _) (v := _) ?hi2 (by kernel_rfl) (by kernel_rfl) (by kernel_rfl) ?hQ2 (Or.inl ⟨?hw2, ?hy2⟩) hS ?rest2
      case hi2 => simp only [List.getElem?_toArray, List.getElem?_cons_succ, List.getElem?_cons_zero]; rfl
      case hQ2 => exact fun _ _ _ h => h
      case hw2 => rfl
      case hy2 => intro W' hS'; go_simp; with_reducible rfl
      try simp only [Act.put, List.setIfInBounds_toArray, List.set_cons_zero, List.set_cons_succ]
      refine' wpAnyH_take (i := 2) (oi := _) (v := _) ?hi3 (by kernel_rfl) (by kernel_rfl) (by kernel_rfl) ?hQ3 (Or.inl ⟨?hw3, ?hy3⟩) hS ?rest3
      case hi3 => simp only [List.getElem?_toArray, List.getElem?_cons_succ, List.getElem?_cons_zero]; rfl
      case hQ3 => exact fun _ _ _ h => h
      case hw3 => rfl
      case hy3 => intro W' hS'; go_simp; with_reducible rfl
      try simp only [Act.put, List.setIfInBounds_toArray, List.set_cons_zero, List.set_cons_succ]
      refine' wpAnyH_take (i := 3) (oi := _) (v := _) ?hi4 (by kernel_rfl) (by kernel_rfl) (by kernel_rfl) ?hQ4 (Or.inl ⟨?hw4, ?hy4⟩) hS ?rest4
      case hi4 => simp only [List.getElem?_toArray, List.getElem?_cons_succ, List.getElem?_cons_zero]; rfl
      case hQ4 => exact fun _ _ _ h => h
      case hw4 => rfl
      case hy4 => intro W' hS'; go_simp; with_reducible rfl
      try simp only [Act.put, List.setIfInBounds_toArray, List.set_cons_zero, List.set_cons_succ]
      refine' wpAnyH_take (i := 4) (oi := _) (v := _) ?hi5 (by kernel_rfl) (by kernel_rfl) (by kernel_rfl) ?hQ5 (Or.inl ⟨?hw5, ?hy5⟩) hS ?rest5
      case hi5 => simp only [List.getElem?_toArray, List.getElem?_cons_succ, List.getElem?_cons_zero]; rfl
      case hQ5 => exact fun _ _ _ h => h
      case hw5 => rfl
      case hy5 => intro W' hS'; go_simp; with_reducible rfl
      try simp only [Act.put, List.setIfInBounds_toArray, List.set_cons_zero, List.set_cons_succ]
      refine' wpAnyH_take (i := 5) (oi := _) (v := _) ?hi6 (by kernel_rfl) (by kernel_rfl) (by kernel_rfl) ?hQ6 (Or.inl ⟨?hw6, ?hy6⟩) hS ?rest6
      case hi6 => simp only [List.getElem?_toArray, List.getElem?_cons_succ, List.getElem?_cons_zero]; rfl
      case hQ6 => exact fun _ _ _ h => h
      case hw6 => rfl
      case hy6 => intro W' hS'; have hc := (hS'.cell (p := ⟨b, off + q0, none⟩) hbw).trans c0; go_simp; with_reducible rfl
      try simp only [Act.put, List.setIfInBounds_toArray, List.set_cons_zero, List.set_cons_succ]
      refine' wpAnyH_take (i := 6) (oi := _) (v := _) ?hi7 (by kernel_rfl) (by kernel_rfl) (by kernel_rfl) ?hQ7 (Or.inl ⟨?hw7, ?hy7⟩) hS ?rest7
      case hi7 => simp only [List.getElem?_toArray, List.getElem?_cons_succ, List.getElem?_cons_zero]; rfl
      case hQ7 => exact fun _ _ _ h => h
      case hw7 => rfl
      case hy7 => intro W' hS'; go_simp; with_reducible rfl
      try simp only [Act.put, List.setIfInBounds_toArray, List.set_cons_zero, List.set_cons_succ]
      refine' wpAnyH_take (i := 7) (oi := _) (v := _) ?hi8 (by kernel_rfl) (by kernel_rfl) (by kernel_rfl) ?hQ8 (Or.inl ⟨?hw8, ?hy8⟩) hS ?rest8
      case hi8 => simp only [List.getElem?_toArray, List.getElem?_cons_succ, List.getElem?_cons_zero]; rfl
      case hQ8 => exact fun _ _ _ h => h
      case hw8 => rfl
      case hy8 => intro W' hS'; go_simp; with_reducible rfl
      try simp only [Act.put, List.setIfInBounds_toArray, List.set_cons_zero, List.set_cons_succ]
      refine' wpAnyH_take (i := 8) (oi := _) (v := _) ?hi9 (by kernel_rfl) (by kernel_rfl) (by kernel_rfl) ?hQ9 (Or.inl ⟨?hw9, ?hy9⟩) hS ?rest9
      case hi9 => simp only [List.getElem?_toArray, List.getElem?_cons_succ, List.getElem?_cons_zero]; rfl
      case hQ9 => exact fun _ _ _ h => h
      case hw9 => rfl
      case hy9 => intro W' hS'; go_simp; with_reducible rfl
      try simp only [Act.put, List.setIfInBounds_toArray, List.set_cons_zero, List.set_cons_succ]
      refine' wpAnyH_take (i := 9) (oi := _) (v := _) ?hi10 (by kernel_rfl) (by kernel_rfl) (by kernel_rfl) ?hQ10 (Or.inl ⟨?hw10, ?hy10⟩) hS ?rest10
      case hi10 => simp only [List.getElem?_toArray, List.getElem?_cons_succ, List.getElem?_cons_zero]; rfl
      case hQ10 => exact fun _ _ _ h => h
      case hw10 => rfl
      case hy10 => intro W' hS'; go_simp; with_reducible rfl
      try simp only [Act.put, List.setIfInBounds_toArray, List.set_cons_zero, List.set_cons_succ]
      refine' wpAnyH_take (i := 10) (oi := _) (v := _) ?hi11 (by kernel_rfl) (by kernel_rfl) (by kernel_rfl) ?hQ11 (Or.inl ⟨?hw11, ?hy11⟩) hS ?rest11
      case hi11 => simp only [List.getElem?_toArray, List.getElem?_cons_succ, List.getElem?_cons_zero]; rfl
      case hQ11 => exact fun _ _ _ h => h
      case hw11 => rfl
      case hy11 => intro W' hS'; go_simp; with_reducible rfl
      try simp only [Act.put, List.setIfInBounds_toArray, List.set_cons_zero, List.set_cons_succ]
      refine' wpAnyH_take (i := 11) (oi := _) (v := _) ?hi12 (by kernel_rfl) (by kernel_rfl) (by kernel_rfl) ?hQ12 (Or.inl ⟨?hw12, ?hy12⟩) hS ?rest12
      case hi12 => simp only [List.getElem?_toArray, List.getElem?_cons_succ, List.getElem?_cons_zero]; rfl
      case hQ12 => exact fun _ _ _ h => h
      case hw12 => rfl
      case hy12 => intro W' hS'; have hc := (hS'.cell (p := ⟨b, off + q1, none⟩) hbw).trans c1; go_simp; with_reducible rfl
      try simp only [Act.put, List.setIfInBounds_toArray, List.set_cons_zero, List.set_cons_succ]
      refine wpAnyH_ready (rs := [12]) (by kernel_rfl) (by simp) ?_
      refine' AllReadyH.cons (o := _) ?ho13 (fun K hK => ?st13) AllReadyH.nil
      case ho13 => simp only [List.getElem?_toArray, List.getElem?_cons_succ, List.getElem?_cons_zero]; rfl
      case st13 =>
        go_simp
        refine (joinM_any x y (by omega) _).mono ?_
        rintro e Y1 ⟨rfl, hb⟩
        refine hK.out _ _ (hS.trans (hb.mono hS.size)) (fun hS => ?_)
        clear hK K
        try simp only [Act.put, List.setIfInBounds_toArray, List.set_cons_zero, List.set_cons_succ]
        replace hown := own_below hown hb
        clear hb
        refine wpAnyH_ready (rs := [13]) (by kernel_rfl) (by simp) ?_
        refine' AllReadyH.cons (o := _) ?ho14 (fun K hK => ?st14) AllReadyH.nil
        case ho14 => simp only [List.getElem?_toArray, List.getElem?_cons_succ, List.getElem?_cons_zero]; rfl
        case st14 =>
          go_simp
          refine hK.out _ _ (hS.alloc hS.size _) (fun hS => ?_)
          clear hK K
          try simp only [Act.put, List.setIfInBounds_toArray, List.set_cons_zero, List.set_cons_succ]
          have kt := cell_new1 Y1 9 (tv (joinM x y))
          replace hown := hown.alloc (.cells #[tv (joinM x y)] 9)
          generalize (Y1.alloc (.cells #[tv (joinM x y)] 9)) = Y2 at *
          generalize Y1.heap.size = gt at *
          refine wpAnyH_ready (rs := [14]) (by kernel_rfl) (by simp) ?_
          refine' AllReadyH.cons (o := _) ?ho15 (fun K hK => ?st15) AllReadyH.nil
          case ho15 => simp only [List.getElem?_toArray, List.getElem?_cons_succ, List.getElem?_cons_zero]; rfl
          case st15 =>
            refine step_append_lies _ rfl (.tmp 11) (.tmp 24) 157 rfl w.heap.size 9 i0 (.string ⟨#[]⟩) 1 16 Tryz.underlying157 hi hz0 hz1 hz2 rfl (by decide) (.slice va k vc) k ts rfl hown ⟨gt, 0, none⟩ 1 1 [tv (joinM x y)] rfl rfl kt (by simp [Value.oneCell']) (by decide) (by have := HLT.out; unfold maxLen; omega) (by have := HLT.out; omega) hS.size _ rfl ?_
            intro g c w1 hown' hgrow _ _
            have hS1 : Below w.heap.size w w1 := hS.grown hgrow hS.size (fun j hj => (World.ownsRow.lt hown j hj).1)
            refine hK.out _ _ hS1 (fun _ => ?_)
            clear hK K
            try simp only [Act.put, List.setIfInBounds_toArray, List.set_cons_zero, List.set_cons_succ]
            refine wpAnyH_ready (rs := [15]) (by kernel_rfl) (by simp) ?_
            refine' AllReadyH.cons (o := _) ?ho16 (fun K hK => ?st16) AllReadyH.nil
            case ho16 => simp only [List.getElem?_toArray, List.getElem?_cons_succ, List.getElem?_cons_zero]; rfl
            case st16 =>
              go_simp
              refine hK.out _ _ hS1 (fun _ => ?_)
              clear hK K
              try simp only [Act.put, List.setIfInBounds_toArray, List.set_cons_zero, List.set_cons_succ]
              refine wpAnyH_done (by kernel_rfl) ?_ _
              clear hown kt hS hB hWd
              go_wp2_with fail
              go_roundw
              case rel => exact ⟨k + 1, HLT.out, by simp, by rw [HT.out, HO.out]; exact hown', hS1⟩
              case measure => have := HLT.out; simp [intOf]; omega
    · obtain rfl : k = n := by omega
      go_wp2
      go_ret
      exact ⟨_, rfl, hown, hB⟩
end Go.Proofs.YtechcdkakgpnkaaGreat
