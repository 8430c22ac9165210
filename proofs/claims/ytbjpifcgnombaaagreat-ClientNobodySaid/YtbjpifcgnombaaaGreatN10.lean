/-
  slices.Values over strings: each; ots.join: Short of all parts
-/
import Derived.Outline
import Derived.Test.YtbjpifcgnombaaaGreatN09
namespace Go.Proofs.YtbjpifcgnombaaaGreat
open Go.RowKit Go.Shelf
attribute [local go_sem] Oper.semAt_some
set_option maxRecDepth 100000 in
set_option maxHeartbeats 4000000 in
theorem valuesT1_in (m : Nat) (hm : 1 ≤ m) (l Bs n₀ b off cap : Nat) (zs : List ByteArray) (hreach : zs.length ≤ 140737488351232) (hb : b < n₀) (J : Nat → World → Prop)
    (W : World)
    (hY : ∀ k x W1, zs[k]? = some x → J k W1 → YieldAt Fence.wide (m - 1) Tryz.prog l #[tv x] W1 fun e W' => e = .returned (.bool true) ∧ J (k + 1) W' ∧ Below n₀ W1 W')
    (hBs : W.cell? ⟨Bs, 0, none⟩ = some (.slice (some ⟨b, off, none⟩) zs.length cap)) (hc : Row W b off (zs.map tv)) (h0 : J 0 W) :
    CallsIn Fence.wide m Tryz.prog 320 #[.func (.yield l) #[] #[], .pointer (some ⟨Bs, 0, none⟩)] W fun e W' => (∃ v, e = .returned v) ∧ J zs.length W' := by
  refine callsIn_of_wp Tryz.func320 rfl trivial ?_ rfl
  simp only [Tryz.ntmps320, List.size_toArray, List.length_cons, List.length_nil, Nat.reduceAdd, Nat.reduceSub, Array.replicate_succ, Array.replicate_zero, List.push_toArray, List.append_toArray, List.nil_append, List.cons_append]
  gi_wp2
  gi_loopw [7] (fun i wr => ∃ k : Nat, k ≤ zs.length ∧ i = .int .i64 k ∧ J k wr ∧ Below n₀ W wr) (fun i _ => zs.length - (intOf i).toNat)
  case atStart => exact ⟨0, Nat.zero_le _, rfl, h0, Below.refl _ _⟩
  case round =>
    obtain ⟨k, hk, rfl, hJs, hnx⟩ := hrel
    by_cases hlt : k < zs.length
    · obtain ⟨x, hx⟩ : ∃ x, zs[k]? = some x := ⟨_, List.getElem?_eq_getElem hlt⟩
      have c0 : wr.cell? ⟨b, off + k, none⟩ = some (tv x) := (hc.below hnx hb) k _ (by rw [List.getElem?_map, hx]; rfl)
      have hk0 : (k : Int) < (zs.length : Int) := by omega
      obtain ⟨fn, tmps, assign, body, hy, hR⟩ := hY k x wr hx hJs
      simp only [tv] at c0 hy
      clear hx
      generalize hL : zs.length = len at *
      have HL := Lib.hid hL
      clear hL
      gi_wp2
      refine hR.mono ?_
      rintro e W3 ⟨rfl, hJ3, hk3⟩
      gi_wp2
      go_roundw
      case rel => exact ⟨k + 1, by omega, by simp, hJ3, hnx.trans hk3⟩
      case measure => simp [intOf]; omega
    · obtain rfl : k = zs.length := by omega
      gi_wp2
      go_end0
      exact ⟨⟨_, rfl⟩, hJs⟩
set_option maxRecDepth 100000 in
set_option maxHeartbeats 1000000 in
theorem valuesT1_nil_in (m : Nat) (l Bs : Nat) (a : Option Addr) (cap : Nat) (J : World → Prop) (W : World) (hBs : W.cell? ⟨Bs, 0, none⟩ = some (.slice a 0 cap)) (h0 : J W) :
    CallsIn Fence.wide m Tryz.prog 320 #[.func (.yield l) #[] #[], .pointer (some ⟨Bs, 0, none⟩)] W fun e W' => (∃ v, e = .returned v) ∧ J W' := by
  refine callsIn_of_wp Tryz.func320 rfl trivial ?_ rfl
  simp only [Tryz.ntmps320, List.size_toArray, List.length_cons, List.length_nil, Nat.reduceAdd, Nat.reduceSub, Array.replicate_succ, Array.replicate_zero, List.push_toArray, List.append_toArray, List.nil_append, List.cons_append]
  gi_wp2
  gi_loopw [7] (fun i wr => i = .int .i64 0 ∧ J wr) (fun _ _ => 0)
  case atStart => exact ⟨rfl, h0⟩
  case round =>
    obtain ⟨rfl, hJs⟩ := hrel
    gi_wp2
    go_end0
    exact ⟨⟨_, rfl⟩, hJs⟩
set_option maxHeartbeats 1000000 in
theorem valuesT_in (F : Fence) (n : Nat) (h5 : F.fn 286) (hro : F.round = none) (a : Option Addr) (len cap : Nat) (w : World) :
    CallsIn F n Tryz.prog 286 #[.slice a len cap] w fun e w' => e = .returned (.func (.func 320) #[] #[.pointer (some ⟨w.heap.size, 0, none⟩)]) ∧ w' = w.alloc (.cells #[.slice a len cap] 61) := by
  refine callsIn_of_wp Tryz.func286 rfl h5 ?_ hro
  simp only [Tryz.ntmps286, List.size_toArray, List.length_cons, List.length_nil, Nat.reduceAdd, Nat.reduceSub, Array.replicate_succ, Array.replicate_zero, List.push_toArray, List.append_toArray, List.nil_append, List.cons_append]
  gi_wp2
  go_ret
  exact ⟨rfl, rfl⟩
theorem valuesT_rel (m : Nat) (hm : 1 ≤ m) (Bs n₀ : Nat) (sv : Value) (zs : List ByteArray) (hreach : zs.length ≤ 140737488351232) (w : World) (hn₀ : n₀ ≤ w.heap.size)
    (hk : Boxed w Bs 61 sv) (hI : VSl 0 n₀ w sv (zs.map tv)) :
    SeqRel Fence.wide m Tryz.prog 320 #[.pointer (some ⟨Bs, 0, none⟩)] zs.length (fun k r _ => ∃ x, zs[k]? = some x ∧ r = #[tv x]) (fun _ => Below n₀) w := fun l J W hW _ _ _ hY h0 => by
  have hc' := (hW.cell (p := ⟨Bs, 0, none⟩) hk.lt).trans hk.cell
  obtain ⟨a, cap, rfl, _, h0' | ⟨b, off, rfl, _, hb, hcs⟩⟩ := hI.below hW hn₀
  · rw [List.map_eq_nil_iff] at h0'
    subst h0'
    exact (valuesT1_nil_in m l Bs a cap (J 0) W hc' h0).mono fun e W' ⟨he, hj⟩ => ⟨he, hj⟩
  · rw [List.length_map] at hc'
    exact valuesT1_in m hm l Bs n₀ b off cap zs hreach hb J W (fun k x W1 hx hj => hY k _ W1 (List.getElem?_eq_some_iff.1 hx).1 ⟨x, hx, rfl⟩ hj) hc' hcs h0
end Go.Proofs.YtbjpifcgnombaaaGreat
namespace Go.Proofs.YtbjpifcgnombaaaGreat
open Go.RowKit Go.Shelf
attribute [local go_sem] Oper.semAt_some
def TxtAt (lo : Nat) (W : World) (v : Value) (l : List UInt8) : Prop :=
  ∃ (b c : Nat) (cur : Array Value) (fr : Nat × Nat), v = .slice (some ⟨b, 0, none⟩) l.length c ∧ l.length ≤ c ∧ lo ≤ b ∧ W.heap[b]? = some (.cells cur 5 fr) ∧ ∀ (k : Nat) (x : UInt8), l[k]? = some x → cur[k]? = some (bv x)
theorem TxtAt.bsl {lo : Nat} {W : World} {v : Value} {l : List UInt8} (h : TxtAt lo W v l) : BSl lo W.heap.size W v l := by
  obtain ⟨b, c, cur, fr, e, hc, hb, hh, hk⟩ := h
  exact ⟨_, c, e, hc, .inr ⟨b, 0, rfl, hb, (Array.getElem?_eq_some_iff.1 hh).1, fun k x hx => by simp [World.cell?, hh, hk k x hx]⟩⟩
theorem TxtAt.to {lo : Nat} {W W' : World} {v : Value} {l : List UInt8} (h : TxtAt lo W v l) (hk : ∀ (b : Nat) (cur : Array Value) (fr : Nat × Nat), W.heap[b]? = some (.cells cur 5 fr) → W'.heap[b]? = W.heap[b]?) : TxtAt lo W' v l := by
  obtain ⟨b, c, cur, fr, e, hc, hb, hh, hl⟩ := h
  exact ⟨b, c, cur, fr, e, hc, hb, (hk b cur fr hh).trans hh, hl⟩
theorem TxtAt.mono {lo lo' : Nat} {W : World} {v : Value} {l : List UInt8} (h : TxtAt lo W v l) (hl : lo' ≤ lo) : TxtAt lo' W v l := by
  obtain ⟨b, c, cur, fr, e, hc, hb, r⟩ := h
  exact ⟨b, c, cur, fr, e, hc, Nat.le_trans hl hb, r⟩
theorem TxtAt.below {lo : Nat} {W W' : World} {v : Value} {l : List UInt8} (h : TxtAt lo W v l) (hb : Below W.heap.size W W') : TxtAt lo W' v l := h.to fun b _ _ hh => hb.block b (Array.getElem?_eq_some_iff.1 hh).1
theorem TxtAt.spares {lo : Nat} {W W' : World} {v : Value} {l : List UInt8} {e : TypeId} (h : TxtAt lo W v l) (hs : Spares e W W') (hne : 5 ≠ e) : TxtAt lo W' v l :=
  h.to fun b cur fr hh => (hs.2 b _ hh (fun _ _ e' => by cases e'; exact hne rfl)).trans hh.symm
theorem TxtAt.set {lo : Nat} {W : World} {v : Value} {l : List UInt8} (h : TxtAt lo W v l) {B : Nat} {t : TypeId} {x : Value} (hb : Boxed W B t x) (hne : 5 ≠ t) (y : Value) : TxtAt lo (W.setCell ⟨B, 0, none⟩ y) v l :=
  h.to fun b cur fr hh => Below.heap_setCell _ _ _ b (fun e => by subst e; rw [show W.heap[b]? = _ from hb] at hh; cases hh; exact hne rfl)
theorem TxtAt.own {lo : Nat} {W W' : World} {v : Value} {l : List UInt8} {row : Option Nat} (h : TxtAt lo W v l) (hg : W.grownBy W' row) (hr : ∀ r, row = some r → ∃ o : Obj, W.heap[r]? = some o ∧ o.isCells = false) : TxtAt lo W' v l :=
  h.to fun b cur fr hh => hg.block b (Array.getElem?_eq_some_iff.1 hh).1 (fun e => by obtain ⟨o, ho, hc⟩ := hr b e.symm; rw [hh] at ho; cases ho; cases hc)
theorem conv_txt (w : World) (s : ByteArray) : ∃ c W', (convert 9 80 (.string s)).run Tryz.prog w = .ok (.slice (some ⟨w.heap.size, 0, none⟩) s.size c) W' ∧ Below w.heap.size w W' ∧ W'.heap.size = w.heap.size + 1 ∧ TxtAt w.heap.size W' (.slice (some ⟨w.heap.size, 0, none⟩) s.size c) s.data.toList := by
  refine ⟨_, _, Lib.run_convert_string_bytes w 9 80 5 s Tryz.underlying9 Tryz.underlying80 Tryz.underlying5, ?_, Lib.bytesWorld_size _ _ _, ?_⟩
  · exact ⟨rfl, rfl, rfl, by rw [Lib.bytesWorld_size]; omega, fun k hk => Lib.bytesWorld_at_old _ _ _ k hk⟩
  · refine ⟨_, _, _, _, rfl, grownCap_ge _ _ _ _, Nat.le_refl _, Lib.bytesWorld_at_new _ _ _, fun k x hx => ?_⟩
    have hk : k < s.size := (List.getElem?_eq_some_iff.1 hx).1
    have h := Lib.bytesWorld_cell w 5 s k hk
    simp only [World.cell?, Lib.bytesWorld_at_new] at h
    rw [show s.data.toList.getD k 0 = x by simp only [List.getD, hx, Option.getD_some]] at h
    exact h
def Txts (lo : Nat) (W : World) (vs : List Value) (zs : List ByteArray) : Prop := vs.length = zs.length ∧ ∀ (k : Nat) (v : Value) (s : ByteArray), vs[k]? = some v → zs[k]? = some s → TxtAt lo W v s.data.toList
theorem Txts.to {lo : Nat} {W W' : World} {vs : List Value} {zs : List ByteArray} (h : Txts lo W vs zs) (hk : ∀ v (l : List UInt8), TxtAt lo W v l → TxtAt lo W' v l) : Txts lo W' vs zs := ⟨h.1, fun k v s hv hs => hk v _ (h.2 k v s hv hs)⟩
theorem Txts.snoc {lo : Nat} {W : World} {vs : List Value} {zs : List ByteArray} (h : Txts lo W vs zs) {v : Value} {s : ByteArray} (ht : TxtAt lo W v s.data.toList) : Txts lo W (vs ++ [v]) (zs ++ [s]) :=
  ⟨by simp [h.1], fun k v' s' hv hs => by
    by_cases hk : k < vs.length
    · rw [List.getElem?_append_left hk] at hv
      rw [List.getElem?_append_left (by rw [← h.1]; exact hk)] at hs
      exact h.2 k v' s' hv hs
    · have hkl : k = vs.length := by have := (List.getElem?_eq_some_iff.1 hv).1; simp at this; omega
      subst hkl
      rw [List.getElem?_append_right (Nat.le_refl _)] at hv
      rw [List.getElem?_append_right (by rw [h.1]; exact Nat.le_refl _), h.1] at hs
      simp at hv hs
      rw [← hv, ← hs]; exact ht⟩
theorem Tryz.infoSl : (Tryz.prog.info? 80).map (fun i => (i.zero, i.size, i.bytes)) = some (some (.slice none 0 0), 1, 24) := by kernel_rfl
def JoinI (N B : Nat) (zs : List ByteArray) (w : World) (k : Nat) (W : World) : Prop :=
  ∃ v vs, Boxed W B 139 v ∧ W.ownsRow N 80 1 v k vs ∧ Txts N W vs (zs.take k) ∧ Below N w W
theorem joinI_own {N B : Nat} {zs : List ByteArray} {w : World} {C : Nat} (h : N ≤ w.heap.size) (hC : N ≤ C) : OwnFrom C (JoinI N B zs w) := fun _ X Y row ⟨v, vs, hb, hown, ht, hB⟩ hg hr =>
  ⟨v, vs, blk_own B 139 (fun _ : Unit => [v]) () X Y row hb hg (fun r e => (hr r e).2), own_turn hown hg (fun r e => (hr r e).2), ht.to (fun _ _ h => h.own hg (fun r e => (hr r e).2)), ownFrom_below h hC () X Y row hB hg hr⟩
def joinB (zs : List ByteArray) : ByteArray := shortB (zs.map fun s => s.data.toList).flatten
theorem flatten_le (f : ByteArray → List UInt8) (m : Nat) : ∀ (zs : List ByteArray), (∀ x ∈ zs, (f x).length ≤ m) → (zs.map f).flatten.length ≤ zs.length * m
  | [], _ => by simp
  | x :: zs, h => by
    have h1 := h x List.mem_cons_self
    have h2 := flatten_le f m zs (fun y hy => h y (List.mem_cons_of_mem _ hy))
    rw [List.map_cons, List.flatten_cons, List.length_append, List.length_cons, Nat.add_mul, Nat.one_mul]
    omega
set_option maxRecDepth 100000 in
set_option maxHeartbeats 4000000 in
theorem join_in (m : Nat) (hm : 3 ≤ m) (zs : List ByteArray) (hn : zs.length ≤ 1000) (hz : ∀ x ∈ zs, x.size ≤ 1000000) (sv : Value) (w : World) (hsv : VSl 0 w.heap.size w sv (zs.map tv)) :
    CallsIn Fence.wide m Tryz.prog 225 #[sv] w fun e W' => e = .returned (.string (joinB zs)) ∧ Below w.heap.size w W' := by
  have h1 : 1 ≤ m := by omega
  have hsv0 := hsv
  obtain ⟨a, cap, rfl⟩ := hsv.slice
  rw [List.length_map] at hsv0 ⊢
  clear hsv
  refine callsIn_of_wp_marks Tryz.func225 rfl trivial ?_ rfl
  simp only [Tryz.ntmps225, List.size_toArray, List.length_cons, List.length_nil, Nat.reduceAdd, Nat.reduceSub, Array.replicate_succ, Array.replicate_zero, List.push_toArray, List.append_toArray, List.nil_append, List.cons_append]
  obtain ⟨i0, hi, hz0, hz1, hz2⟩ := info_parts Tryz.infoSl
  gi_wp2_with (refine ⟨trivial, ?_⟩; gi_at_call 286; refine (valuesT_in Fence.wide (m - 1) trivial rfl _ _ _ _).mono ?_; rintro e w' ⟨rfl, rfl⟩)
  generalize hW5 : World.alloc _ _ = W5
  have k0 : Boxed W5 w.heap.size 139 (.slice none 0 0) := by rw [← hW5]; exact (Boxed.new _ _ _).alloc _
  have k2 : Boxed W5 (w.heap.size + 1) 61 (.slice a zs.length cap) := by rw [← hW5]; exact Blk.new' (vs := [_]) (by simp)
  have hB0 : Below w.heap.size w W5 := by rw [← hW5]; exact chainA (chain0 _ _) _
  have hz5 : W5.heap.size = w.heap.size + 2 := by rw [← hW5]; simp
  clear hW5
  refine wpIn_rangeFunc_relA (encs := fun y : ByteArray => #[tv y]) rfl h1 (gf := 320) (lb := #[.pointer (some ⟨w.heap.size + 1, 0, none⟩)]) rfl trivial (enters_of Tryz.func320 (by kernel_rfl) rfl)
    (valuesT_rel (m - 1) (by omega) (w.heap.size + 1) w.heap.size _ zs (by omega) W5 (by omega) k2 (hsv0.below hB0 (Nat.le_refl _))) (fun h k => h.trans k) (fun X o o' h2 h3 h4 => belowK_b (w := w) (Nat.le_refl _) _ _ o o' (by omega) h2 h3 h4) (fun X => Below.refl _ X) (Below.refl _ _) (fun _ => rfl)
    (JoinI w.heap.size w.heap.size zs w) (joinI_own (Nat.le_refl _) (by omega))
    ⟨_, [], k0, World.ownsRow_nil _ _ _ _, ⟨by simp, fun k v s h => by simp at h⟩, hB0⟩ (fun _ _ _ _ _ _ h _ _ => h) ?_ ?_ ?_ ?_
  rotate_left
  · intro l k y W K hr hK
    clear hr
    gi_wp2
    exact hK
  · rintro l k x W hlt ⟨v, vs, kv, hown, htx, hB⟩ hx
    have ht : zs.take (k + 1) = zs.take k ++ [x] := by rw [List.take_add_one, hx]; rfl
    have HT := Lib.hid ht
    clear ht hx
    obtain ⟨va, vc, rfl⟩ := ownsRow_slice hown
    have ko := kv.cell
    have kf := kv.frozen
    have hNW := hB.size
    obtain ⟨c1, W1, hcv, hb1, hz1', hta⟩ := conv_txt W x
    have HL := Lib.hid hlt
    have kv1' : Boxed W1 w.heap.size 139 (.slice va k vc) := (hb1.block _ kv.lt).trans kv
    have ko1 := kv1'.cell
    have kf1 := kv1'.frozen
    have hown1 := own_below hown hb1
    have htx1 := htx.to (fun _ _ h => h.below hb1)
    have HZ := Lib.hid hz5
    have HZ1 := Lib.hid hz1'
    clear hlt hz5 hz1'
    gi_wp2_with (gi_at_builtin; refine wpListIn_append_own _ rfl _ _ 139 rfl w.heap.size 80 i0 (.slice none 0 0) 1 24 Tryz.underlying139 hi hz0 hz1 hz2 rfl (by decide) (.slice va k vc) k vs rfl (hown1.alloc _) ⟨W1.heap.size, 0, none⟩ 1 1 [.slice (some ⟨W.heap.size, 0, none⟩) x.size c1] rfl rfl (cell_one_new _ _ _) (by simp [Value.oneCell']) (by have := HL.out; unfold maxLen; omega) (by have := HL.out; omega) (by have := HZ1.out; simp; omega) ?_; intro v' w1 hown' hgrow _; obtain ⟨g, cap', rfl⟩ := ownsRow_succ hown'; obtain ⟨hv1, kv', hrow', hk3, hbw⟩ := kv1'.appended (by decide) hown1 (Nat.le_trans hNW hb1.size) (Nat.le_refl _) hown' hgrow; have ko2 := hv1.cell; have kf2 := hv1.frozen)
    have hspW : Spares 80 W1 w1 := ((Spares.of_below (Below.refl _ W1)).grown (World.grownBy_alloc W1 (.cells #[.slice (some ⟨W.heap.size, 0, none⟩) x.size c1] 80) none) (fun r e => by cases e)).grown hgrow (fun r e => .inr (ownsRow_block (hown1.alloc _) r e))
    have hko := (KeepsOthers.of_grownBy (grown_of_below hb1) (by simp)).trans hk3
    refine ⟨hko.from _, (hb1.mono hNW).trans hbw, _, vs ++ [.slice (some ⟨W.heap.size, 0, none⟩) x.size c1], kv', hrow', ?_, hB.trans ((hb1.mono hNW).trans hbw)⟩
    rw [HT.out]
    exact (htx1.snoc (hta.mono hNW)).to (fun v l h => (h.spares hspW (by decide)).set hv1 (by decide) _)
  · rintro D W hD ⟨v, vs, kv, hown, htx, hB⟩ hK
    rw [List.take_length] at htx
    obtain ⟨va, vc, rfl⟩ := ownsRow_slice hown
    have ko := kv.cell
    have hvl := htx.1
    have hV := VSl.of_own (vs := vs) (by rw [hvl]; exact hown)
    have hnn : zs.length ≤ 1000 := hn
    have hDW := (Array.getElem?_eq_some_iff.1 hK).1
    have hmap1 : (vs.zip (zs.map fun s => s.data.toList)).map (·.1) = vs := by
      rw [List.map_fst_zip]; simp [hvl]
    have hmap2 : (vs.zip (zs.map fun s => s.data.toList)).map (·.2) = zs.map fun s => s.data.toList := by
      rw [List.map_snd_zip]; simp [hvl]
    have hS := short_of W (.slice va zs.length vc) (vs.zip (zs.map fun s => s.data.toList)) (by simp; omega) (fun p hp => by
      obtain ⟨k, hk⟩ := List.mem_iff_getElem?.1 hp
      rw [List.getElem?_zip_eq_some] at hk
      obtain ⟨hk1, hk2⟩ := hk
      rw [List.getElem?_map] at hk2
      obtain ⟨s, hs, he⟩ := Option.map_eq_some_iff.1 hk2
      have h2 := htx.2 k p.1 s hk1 hs
      have h3 := hz s (List.mem_of_getElem? hs)
      rw [← he]
      refine ⟨h2.bsl.mono (Nat.zero_le _) (Nat.le_refl _), ?_⟩
      show s.size ≤ _
      omega) (by
      rw [hmap2]
      have := flatten_le (fun s => s.data.toList) 1000000 zs (fun x hx => hz x hx)
      have h4 : zs.length * 1000000 ≤ 1000 * 1000000 := Nat.mul_le_mul_right _ hn
      omega) (by rw [hmap1]; exact hV.mono (Nat.zero_le _) (Nat.le_refl _))
    rw [hmap2] at hS
    have HZ := Lib.hid hz5
    clear hmap1 hmap2 hV htx hvl hz5
    gi_wp2_with fail
    refine ⟨trivial, (callsIn_wide.2 hS).mono ?_⟩
    rintro e w2 ⟨rfl, hb2⟩
    gi_wp2_with fail
    have hK2 : w2.heap[D]? = some (.deferred (some [])) := (hb2.block D hDW).trans hK
    have hB' := (hB.trans (hb2.mono hB.size)).trans (belowK_b (w := w) (Nat.le_refl _) _ D _ (.deferred none) (by have := HZ.out; omega) hK2 rfl rfl)
    refine ⟨by simp, .inl ⟨_, _, rfl, run_takeDeferred hK2, ?_⟩⟩
    refine ⟨.string (joinB zs), ?_, ?_⟩
    · simp [results, Tryz.f225, go_sem, joinB]
    · exact ⟨rfl, hB'⟩
theorem join_any (zs : List ByteArray) (hn : zs.length ≤ 1000) (hz : ∀ x ∈ zs, x.size ≤ 1000000) (sv : Value) (w : World) (hsv : VSl 0 w.heap.size w sv (zs.map tv)) :
    Calls Tryz.prog 225 #[sv] w fun e W' => e = .returned (.string (joinB zs)) ∧ Below w.heap.size w W' := callsIn_wide.1 (join_in 3 (by omega) zs hn hz sv w hsv)
end Go.Proofs.YtbjpifcgnombaaaGreat
