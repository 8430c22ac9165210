/-
  blob.Cut: pieces of a size, each in memory of its own.
-/
import Derived.Test.YtamoemoclklhdaaChunk
import Derived.Test.YtamoemoclklhdaaClone
import Derived.Test.YtamoemoclklhdaaAppendSeq
import Derived.Test.YtamoemoclklhdaaRound
namespace Go.Proofs.Ytamoemoclklhdaa
open Go.RowKit Go.Shelf
attribute [local go_sem] Oper.semAt_some

theorem Try.infoBytes : (Try.prog.info? 22).map (fun i => (i.zero, i.size, i.bytes)) = some (some (.slice none 0 0), 1, 24) := by kernel_rfl

/-- A row stays where its own block stays. -/
theorem own_same {W W' : World} {base : Nat} {e : TypeId} {size k : Nat} {v : Value} {xs : List Value} (h : W.ownsRow base e size v k xs) (hk : ∀ g, v.ownBlock = some g → W'.heap[g]? = W.heap[g]?) : W'.ownsRow base e size v k xs := by
  obtain ⟨h1, h2⟩ := h
  refine ⟨h1, ?_⟩
  rcases h2 with h2 | ⟨g, cap, cur, rfl, hb, hh, r⟩
  · exact .inl h2
  · exact .inr ⟨g, cap, cur, rfl, hb, (hk g rfl).trans hh, r⟩
theorem own_below {W W' : World} {base : Nat} {e : TypeId} {size k : Nat} {v : Value} {xs : List Value} (h : W.ownsRow base e size v k xs) (hb : Below W.heap.size W W') : W'.ownsRow base e size v k xs :=
  own_same h fun g hg => hb.block g (World.ownsRow.lt h g hg).2
theorem own_spares {W W' : World} {base : Nat} {e e' : TypeId} {size k : Nat} {v : Value} {xs : List Value} (h : W.ownsRow base e size v k xs) (hs : Spares e' W W') (hne : e ≠ e') : W'.ownsRow base e size v k xs :=
  own_same h fun g hg => by
    obtain ⟨cur, fr, hc⟩ := ownsRow_block h g hg
    rw [hs.2 g _ hc (fun cur' fr' e => by cases e; exact hne rfl), hc]
theorem own_turn {W W' : World} {row : Option Nat} {base : Nat} {e : TypeId} {size k : Nat} {v : Value} {xs : List Value} (h : W.ownsRow base e size v k xs) (hg : W.grownBy W' row) (hrow : ∀ r, row = some r → ∃ o : Obj, W.heap[r]? = some o ∧ o.isCells = false) : W'.ownsRow base e size v k xs :=
  own_same h fun g hgb => hg.block g (World.ownsRow.lt h g hgb).2 (fun e' => by
    obtain ⟨o, ho, hc⟩ := hrow g e'.symm
    obtain ⟨cur, fr, hcc⟩ := ownsRow_block h g hgb
    rw [hcc] at ho; cases ho; cases hc)

theorem own_base {W : World} {base base' : Nat} {e : TypeId} {size k : Nat} {v : Value} {xs : List Value} (h : W.ownsRow base e size v k xs) (hb : base' ≤ base) : W.ownsRow base' e size v k xs := by
  obtain ⟨h1, h2⟩ := h
  refine ⟨h1, ?_⟩
  rcases h2 with h2 | ⟨g, cap, cur, rfl, hg, r⟩
  · exact .inl h2
  · exact .inr ⟨g, cap, cur, rfl, Nat.le_trans hb hg, r⟩

/-- The slices vs are these texts, each a row of the call's own. -/
def Pieces (N : Nat) (W : World) (vs : List Value) (bs : List (List UInt8)) : Prop := vs.length = bs.length ∧ ∀ (k : Nat) (v : Value) (b : List UInt8), vs[k]? = some v → bs[k]? = some b → W.ownsRow N 5 1 v b.length (b.map bv)
theorem Pieces.to {N : Nat} {W W' : World} {vs : List Value} {bs : List (List UInt8)} (h : Pieces N W vs bs) (hk : ∀ v b, W.ownsRow N 5 1 v b.length (b.map bv) → W'.ownsRow N 5 1 v (b : List UInt8).length (b.map bv)) : Pieces N W' vs bs :=
  ⟨h.1, fun k v b hv hb => hk v b (h.2 k v b hv hb)⟩
theorem Pieces.snoc {N : Nat} {W : World} {vs : List Value} {bs : List (List UInt8)} (h : Pieces N W vs bs) {v : Value} {b : List UInt8} (hb : W.ownsRow N 5 1 v b.length (b.map bv)) : Pieces N W (vs ++ [v]) (bs ++ [b]) :=
  ⟨by simp [h.1], fun k v' b' hv hb' => by
    by_cases hk : k < vs.length
    · rw [List.getElem?_append_left hk] at hv
      rw [List.getElem?_append_left (by rw [← h.1]; exact hk)] at hb'
      exact h.2 k v' b' hv hb'
    · have hkl : k = vs.length := by have := (List.getElem?_eq_some_iff.1 hv).1; simp at this; omega
      subst hkl
      rw [List.getElem?_append_right (Nat.le_refl _)] at hv
      rw [List.getElem?_append_right (by rw [h.1]; exact Nat.le_refl _), h.1] at hb'
      simp at hv hb'
      rw [← hv, ← hb']; exact hb⟩

/-- A piece's octets. -/
def piece (l : List UInt8) {L : Nat} (p : CP L) : List UInt8 := (l.drop p.1.1).take p.1.2
theorem piece_length {l : List UInt8} {L : Nat} (hL : l.length = L) (p : CP L) : (piece l p).length = p.1.2 := by
  have := p.2
  unfold piece
  rw [List.length_take, List.length_drop]
  omega
theorem piece_bsl {W : World} {hi b off L : Nat} {l : List UInt8} (hL : l.length = L) (h : L = 0 ∨ (b < hi ∧ Octs W b off l)) (p : CP L) : BSl 0 hi W (.slice (some ⟨b, off + p.1.1, none⟩) p.1.2 p.1.2) (piece l p) := by
  refine ⟨_, _, by rw [piece_length hL], by rw [piece_length hL]; exact Nat.le_refl _, ?_⟩
  rcases h with h0 | ⟨h1, h2⟩
  · left
    apply List.eq_nil_of_length_eq_zero
    rw [piece_length hL]
    have := p.2
    omega
  · refine .inr ⟨b, _, rfl, Nat.zero_le _, h1, fun k x hx => ?_⟩
    rw [Nat.add_assoc]
    refine h2 _ x ?_
    unfold piece at hx
    have hk : k < p.1.2 := by
      have := (List.getElem?_eq_some_iff.1 hx).1
      rw [List.length_take] at this
      omega
    rw [List.getElem?_take_of_lt hk, List.getElem?_drop] at hx
    exact hx

/-- Between two rounds. -/
def CutI {L : Nat} (N : Nat) (l : List UInt8) (B1 B2 : Nat) (v1 v2 : Value) (w : World) (pre : List (CP L)) (W : World) : Prop :=
  ((∃ v vs, Boxed W N 35 v ∧ W.ownsRow (N + 3) 22 1 v pre.length vs ∧ Pieces N W vs (pre.map (piece l))) ∧ Boxed W B1 22 v1 ∧ Boxed W B2 3 v2) ∧ Below N w W
theorem cutI_own {L N B1 B2 : Nat} {l : List UInt8} {v1 v2 : Value} {w : World} {B : Nat} (h : N ≤ w.heap.size) (hB : N ≤ B) : OwnFrom B (CutI (L := L) N l B1 B2 v1 v2 w) :=
  OwnFrom.and (Own.from (fun pre X Y row hs hg hr => by
    obtain ⟨⟨v, vs, hv, hrow, hp⟩, h1, h2⟩ := hs
    exact ⟨⟨v, vs, blk_own N 35 (fun (_ : Unit) => [v]) () X Y row hv hg hr, own_turn hrow hg hr, hp.to fun v b ho => own_turn ho hg hr⟩, blk_own B1 22 (fun (_ : Unit) => [v1]) () X Y row h1 hg hr, blk_own B2 3 (fun (_ : Unit) => [v2]) () X Y row h2 hg hr⟩) _) (ownFrom_below h hB)
/-- What Cut hands back. -/
def CutW (l : List UInt8) (L s : Nat) (w : World) (e : Ending) (W' : World) : Prop :=
  ∃ v vs, e = .returned v ∧ W'.ownsRow w.heap.size 22 1 v (chc L s) vs ∧ Pieces w.heap.size W' vs ((chs L s).map (piece l)) ∧ Below w.heap.size w W'

set_option maxRecDepth 100000 in
set_option maxHeartbeats 8000000 in
theorem cut_in (m : Nat) (hm : 4 ≤ m) (l : List UInt8) (L : Nat) (hL : l.length = L) (a : Option Addr) (cap : Nat) (size : Int) (hsize : size ≤ 9223372036854775807) (s : Nat) (hs : (1 ≤ size ∧ (s : Int) = size) ∨ (size < 1 ∧ 1 ≤ L ∧ (s : Int) = (L : Int)) ∨ (size < 1 ∧ L = 0 ∧ (s : Int) = 1))
    (hreach : L ≤ 140737488351232) (hcnt : chc L s * 24 ≤ 140737488355328) (hcap' : cap ≤ 9223372036854775807) (w : World) (hsv : BSl 0 w.heap.size w (.slice a L cap) l) :
    CallsIn Fence.wide m Try.prog 16 #[.slice a L cap, .int .i64 size] w (CutW l L s w) := by
  have h1 : 1 ≤ m := by omega
  have hs1 : 1 ≤ s := by omega
  have hs2 : s ≤ 9223372036854775807 := by omega
  obtain ⟨b, off, hab, ho, hcap⟩ : ∃ b off, (L = 0 ∨ a = some ⟨b, off, none⟩) ∧ (L = 0 ∨ (b < w.heap.size ∧ Octs w b off l)) ∧ L ≤ cap := by
    obtain ⟨a', cap', e, hc, h0⟩ := hsv
    cases e
    rcases h0 with rfl | ⟨b, off, ha, _, h2, h3⟩
    · exact ⟨0, 0, .inl rfl, .inl rfl, hc⟩
    · exact ⟨b, off, .inr ha, .inr ⟨h2, h3⟩, hc⟩
  have HL := Lib.hid hL
  have HO := Lib.hid ho
  have HA := Lib.hid hab
  clear hL hsv ho hab
  obtain ⟨i0, hi, hz0, hz1, hz2⟩ := info_parts Try.infoBytes
  refine callsIn_of_wp_marks Try.func16 rfl trivial ?_ rfl
  simp only [Try.ntmps16, List.size_toArray, List.length_cons, List.length_nil, Nat.reduceAdd, Nat.reduceSub, Array.replicate_succ, Array.replicate_zero, List.push_toArray, List.append_toArray, List.nil_append, List.cons_append]
  have hmx : Try.prog.follows .mixedOrders = true := by kernel_rfl
  have hcase : (1 ≤ size ∧ Hid ((s : Int) = size)) ∨ (size < 1 ∧ 1 ≤ (L : Int) ∧ Hid ((s : Int) = (L : Int))) ∨ (size < 1 ∧ (L : Int) < 1 ∧ Hid ((s : Int) = 1)) := by
    rcases hs with ⟨h, e⟩ | ⟨h, h', e⟩ | ⟨h, h', e⟩
    · exact .inl ⟨h, Lib.hid e⟩
    · exact .inr (.inl ⟨h, by omega, Lib.hid e⟩)
    · exact .inr (.inr ⟨h, by omega, Lib.hid e⟩)
  clear hs
  rcases hcase with ⟨hc1, HZ⟩ | ⟨hc1, hc2, HZ⟩ | ⟨hc1, hc2, HZ⟩
  all_goals
    gi_wp2_with (refine ⟨trivial, ?_⟩; gi_at_call 25; refine (chunk_in Fence.wide (m - 1) trivial rfl _ _ _ _ (by omega) _).mono ?_; rintro e w' ⟨rfl, rfl⟩)
    generalize hW5 : World.alloc _ _ = W5
    have k0 : Boxed W5 w.heap.size 35 (.slice none 0 0) := by rw [← hW5]; exact ((Boxed.new _ _ _).alloc _).alloc _
    have k1 : Boxed W5 (w.heap.size + 1) 22 (.slice a L cap) := by rw [← hW5]; exact (Blk.new' (vs := [_]) (by simp)).alloc _
    have k2 : Boxed W5 (w.heap.size + 1 + 1) 3 (.int .i64 (s : Nat)) := by rw [HZ.out, ← hW5]; exact Blk.new' (vs := [.int .i64 _]) (by simp)
    have hB0 : Below w.heap.size w W5 := by rw [← hW5]; exact chainA (chainA (chain0 _ _) _) _
    have hz : W5.heap.size = w.heap.size + 3 := by rw [← hW5]; simp
    clear hW5
    refine wpIn_rangeFunc_ownF (S := fun ys => ys = chs L s) rfl h1 (gf := 32) (lb := #[.pointer (some ⟨w.heap.size + 1, 0, none⟩), .pointer (some ⟨w.heap.size + 1 + 1, 0, none⟩)]) rfl trivial (enters_of Try.func32 (by kernel_rfl) rfl)
      (chunk_stops Fence.wide (m - 1) trivial rfl (by omega) (w.heap.size + 1) (w.heap.size + 1 + 1) b off cap L s a HA.out hreach hcap hcap' hs1 hs2 W5 k1 k2) KeepB2.t (KeepB2.b k1.lt k2.lt) (Below.refl _ _) (fun _ => rfl)
      (CutI w.heap.size l (w.heap.size + 1) (w.heap.size + 1 + 1) (.slice a L cap) (.int .i64 (s : Nat)) w) (fun _ _ _ => False) (cutI_own (Nat.le_refl _) (by omega)) (fun _ _ _ _ _ hs _ _ => hs)
      ⟨⟨⟨_, [], k0, World.ownsRow_nil _ _ _ _, rfl, fun k v b h => by simp at h⟩, k1, k2⟩, hB0⟩ ?_ ?_ ?_ ?_ ?_
    rotate_left
    · intro l x W K hK
      gi_wp2
      exact hK
    · rintro r pre x W ⟨⟨⟨v, vs, kv, hown, hp⟩, k1, k2⟩, hB⟩ hlt
      have ko := kv.cell
      have kf := kv.frozen
      have l3 := kv.lt
      have hNW : w.heap.size ≤ W.heap.size := hB.size
      have hpb : BSl 0 W.heap.size W.drew (.slice (some ⟨b, off + x.1.1, none⟩) x.1.2 x.1.2) (piece l x) := ((piece_bsl HL.out HO.out x).below hB.drew (Nat.le_refl _)).mono (Nat.le_refl _) hNW
      have hpl : (piece l x).length ≤ 140737488355328 := by rw [piece_length HL.out]; have := x.2; omega
      gi_wp2_with fail
      refine wpIn_round_any hmx (by kernel_rfl) ?_
      refine wpAny_take (i := 1) (v := ?_) rfl (by kernel_rfl) (by kernel_rfl) (by kernel_rfl) (fun _ _ _ h => h) (Or.inl ⟨rfl, ?_⟩) ?_
      rotate_left
      · intro w'; go_simp; with_reducible rfl
      refine wpAny_ready (rs := [0, 2]) (by kernel_rfl) (by simp) ?_
      refine AllReady.cons rfl (fun K hK => ?_) (AllReady.cons rfl (fun K hK => ?_) AllReady.nil)
      go_simp
      refine hK _ _ ?_
      clear hK K
      refine wpAny_ready (rs := [2]) (by kernel_rfl) (by simp) ?_
      refine AllReady.cons rfl (fun K hK => ?_) AllReady.nil
      go_simp
      refine (clone_any _ _ _ hpl hpb (by simp)).mono ?_
      rintro e w2 ⟨sv, rfl, hsv, hb2⟩
      obtain ⟨sa, sc, rfl⟩ := ownsRow_slice hsv
      refine hK _ _ ?_
      clear hK K
      rotate_left
      go_simp
      refine (clone_any _ _ _ hpl hpb (by simp)).mono ?_
      rintro e w2 ⟨sv, rfl, hsv, hb2⟩
      obtain ⟨sa, sc, rfl⟩ := ownsRow_slice hsv
      refine hK _ _ ?_
      clear hK K
      have ko2 : w2.cell? ⟨w.heap.size, 0, none⟩ = some v := (hb2.cell (p := ⟨w.heap.size, 0, none⟩) (by simpa using l3)).trans ko
      have l2 : w.heap.size < w2.heap.size := Nat.lt_of_lt_of_le (by simpa using l3) hb2.size
      refine wpAny_ready (rs := [0, 3]) (by kernel_rfl) (by simp) ?_
      refine AllReady.cons rfl (fun K hK => ?_) (AllReady.cons rfl (fun K hK => ?_) AllReady.nil)
      go_simp
      refine hK _ _ ?_
      clear hK K ko2
      refine wpAny_ready (rs := [3]) (by kernel_rfl) (by simp) ?_
      refine AllReady.cons rfl (fun K hK => ?_) AllReady.nil
      go_simp
      refine hK _ _ ?_
      clear hK K l2
      rotate_left
      go_simp
      refine hK _ _ ?_
      clear hK K
      refine wpAny_ready (rs := [0]) (by kernel_rfl) (by simp) ?_
      refine AllReady.cons rfl (fun K hK => ?_) AllReady.nil
      go_simp
      refine hK _ _ ?_
      clear hK K ko2 l2
      rotate_left
      refine wpAny_ready (rs := [3]) (by kernel_rfl) (by simp) ?_
      refine AllReady.cons rfl (fun K hK => ?_) AllReady.nil
      go_simp
      refine hK _ _ ?_
      clear hK K
      all_goals
        have hbW : Below W.heap.size W w2 := (Below.refl _ W).drew.trans hb2
        have hW3 : w.heap.size + 3 ≤ W.heap.size := k2.lt
        have hzw2 : w.heap.size + 3 ≤ w2.heap.size := Nat.le_trans hW3 hbW.size
        have hown2 := own_below hown hbW
        have kv2 : Boxed w2 w.heap.size 35 v := (hbW.block _ l3).trans kv
        refine wpAny_ready (rs := [4]) (by kernel_rfl) (by simp) ?_
        refine AllReady.cons rfl (fun K hK => ?_) AllReady.nil
        rw [if_pos (by kernel_rfl)]
        refine wp_append_own _ _ _ 35 rfl (w.heap.size + 3) 22 i0 (.slice none 0 0) 1 24 Try.underlying35 hi hz0 hz1 hz2 rfl (by decide) v pre.length vs rfl (hown2.alloc _) ⟨w2.heap.size, 0, none⟩ 1 1 [.slice sa (piece l x).length sc] rfl rfl (cell_one_new _ _ _) (by simp [Value.oneCell']) (by unfold maxLen; omega) (by omega) (by simp; omega) ?_
        intro v' w4 hown' hgrow _
        obtain ⟨g, c', rfl⟩ := ownsRow_succ hown'
        refine hK _ _ ?_
        clear hK K
        have kv4 : Boxed w4 w.heap.size 35 v := (kv2.alloc _).kept hgrow (kv2.not_row (by decide) hown2)
        have ko4 := kv4.cell
        have kf4 := kv4.frozen
        refine wpAny_ready (rs := [5]) (by kernel_rfl) (by simp) ?_
        refine AllReady.cons rfl (fun K hK => ?_) AllReady.nil
        go_simp
        refine hK _ _ ?_
        clear hK K
        refine wpAny_done (by kernel_rfl) ?_ _
        have hsp2 : Spares 22 w2 w4 := (Spares.of_below (chain0 w2 (.cells #[.slice sa (piece l x).length sc] 22))).grown hgrow (fun r e => .inr (ownsRow_block (hown2.alloc _) r e))
        have hspW : Spares 22 W w4 := (Spares.of_below hbW).t hsp2
        have hb4 : Below w.heap.size W w4 := (hbW.mono hNW).trans (((Below.refl w.heap.size w2).alloc (by omega) (.cells #[.slice sa (piece l x).length sc] 22)).grown hgrow (by simp; omega) (fun j hj => by have := (World.ownsRow.lt hown2 j hj).1; omega))
        have hgS := grownBy_setCell' w4 w.heap.size (.slice (some ⟨g, 0, none⟩) (pre.length + 1) c')
        have k12 : Boxed w2 (w.heap.size + 1) 22 (.slice a L cap) := (hbW.block _ k1.lt).trans k1
        have k14 : Boxed w4 (w.heap.size + 1) 22 (.slice a L cap) := (k12.alloc _).kept hgrow (fun e => by have := (World.ownsRow.lt hown2 _ e.symm).1; omega)
        have q1 := k14.kept hgS (by simp)
        have q2 := (hspW.boxed k2 (by decide) : Boxed w4 (w.heap.size + 1 + 1) 3 (.int .i64 (s : Nat))).kept hgS (by simp; omega)
        have qv := kv4.set (.slice (some ⟨g, 0, none⟩) (pre.length + 1) c')
        have qo := hown'.kept hgS (.inr (kv4.not_row (by decide) hown').symm)
        have rp : Pieces w.heap.size w4 (vs ++ [.slice sa (piece l x).length sc]) (pre.map (piece l) ++ [piece l x]) := (hp.to fun v b ho => own_spares ho hspW (by decide)).snoc (own_spares (own_base hsv (by simpa using hNW)) hsp2 (by decide))
        have rq : Pieces w.heap.size (w4.setCell ⟨w.heap.size, 0, none⟩ (.slice (some ⟨g, 0, none⟩) (pre.length + 1) c')) (vs ++ [.slice sa (piece l x).length sc]) ((pre ++ [x]).map (piece l)) := by
          rw [List.map_append]
          exact rp.to fun v b ho => ho.kept hgS (.inr (kv4.not_row (by decide) ho).symm)
        refine ⟨hspW.others.trans (KeepsOthers.setCell _ _ _), ⟨q1.trans k1.symm, q2.trans k2.symm⟩, ⟨⟨_, _, qv, ?_, rq⟩, q1, q2⟩, hB.trans (hb4.setCell (p := ⟨w.heap.size, 0, none⟩) (Nat.le_refl _) _)⟩
        simpa using qo
    · rintro D ys W hD rfl ⟨⟨⟨v, vs, kv, hown, hp⟩, k1, k2⟩, hB⟩ hK
      have ko := kv.cell
      have HZ' := Lib.hid hz
      clear hz
      gi_wp2
      have hB' := hB.trans (belowK_b (w := w) (Nat.le_refl _) _ D _ (.deferred none) (by have := HZ'.out; omega) hK rfl rfl)
      have hown3 := ownsRow_putObj hown (.deferred none) hK rfl
      rw [chs_length] at hown3
      refine ⟨by simp, .inl ⟨_, _, rfl, run_takeDeferred hK, ?_⟩⟩
      refine ⟨v, ?_, ?_⟩
      · simp [results, Try.f16, go_sem]
      · exact ⟨v, vs, rfl, own_base hown3 (by omega), hp.to fun v b ho => ownsRow_putObj ho (.deferred none) hK rfl, hB'⟩
    · rintro D c pre W _ _ h _
      exact h.elim

theorem cut_any (l : List UInt8) (L : Nat) (hL : l.length = L) (a : Option Addr) (cap : Nat) (size : Int) (hsize : size ≤ 9223372036854775807) (s : Nat) (hs : (1 ≤ size ∧ (s : Int) = size) ∨ (size < 1 ∧ 1 ≤ L ∧ (s : Int) = (L : Int)) ∨ (size < 1 ∧ L = 0 ∧ (s : Int) = 1))
    (hreach : L ≤ 140737488351232) (hcnt : chc L s * 24 ≤ 140737488355328) (hcap' : cap ≤ 9223372036854775807) (w : World) (hsv : BSl 0 w.heap.size w (.slice a L cap) l) :
    Calls Try.prog 16 #[.slice a L cap, .int .i64 size] w (CutW l L s w) := callsIn_wide.1 (cut_in 4 (by omega) l L hL a cap size hsize s hs hreach hcnt hcap' w hsv)

end Go.Proofs.Ytamoemoclklhdaa
