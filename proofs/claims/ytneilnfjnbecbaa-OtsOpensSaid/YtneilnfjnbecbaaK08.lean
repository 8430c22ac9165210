/-
  '[]byte(s)'; the beginning of a sum as a string.
  Pieces of a text.
  A region that draws, inside a fence of activations: operation by operation.
  ots.beginnings: what a leaf's chains begin with, one by one; ots.Begin.
-/
import Derived.Lib.ConvBytes
import Derived.Laws.AppendOwn
import Derived.OrdersIn
import Derived.WalkKit
import Derived.CallsIn
import Derived.TacticsInMore
import Derived.Outline
import Derived.Test.YtneilnfjnbecbaaK07
namespace Go.Proofs.Ytneilnfjnbecbaa
open Go.RowKit Go.Shelf

/-- '[]byte(s)': a new row of the string's octets. -/
theorem conv_bytes (w : World) (s : ByteArray) : ∃ c W', (convert 9 22 (.string s)).run Try.prog w = .ok (.slice (some ⟨w.heap.size, 0, none⟩) s.size c) W' ∧ s.size ≤ c ∧ Below w.heap.size w W' ∧ W'.heap.size = w.heap.size + 1 ∧ Octs W' w.heap.size 0 s.data.toList := by
  refine ⟨_, _, Lib.run_convert_string_bytes w 9 22 5 s Try.underlying9 Try.underlying22 Try.underlying5, grownCap_ge _ _ _ _, ?_, Lib.bytesWorld_size _ _ _, fun k x hx => ?_⟩
  · refine ⟨rfl, rfl, rfl, by rw [Lib.bytesWorld_size]; omega, fun k hk => Lib.bytesWorld_at_old _ _ _ k hk⟩
  · have hk : k < s.size := (List.getElem?_eq_some_iff.1 hx).1
    rw [Nat.zero_add, Lib.bytesWorld_cell w _ s k hk]
    simp only [List.getD, hx, Option.getD_some]
theorem conv_bsl {w W : World} {s : ByteArray} {c : Nat} (hc : s.size ≤ c) (hz : W.heap.size = w.heap.size + 1) (ho : Octs W w.heap.size 0 s.data.toList) : BSl w.heap.size W.heap.size W (.slice (some ⟨w.heap.size, 0, none⟩) s.size c) s.data.toList :=
  ⟨_, c, rfl, hc, .inr ⟨_, 0, rfl, Nat.le_refl _, by omega, ho⟩⟩

/-- The first eight octets of a text's sum, as a string. -/
def shortB (l : List UInt8) : ByteArray := (sumS l).extract 0 8
theorem shortB_list (l : List UInt8) : (shortB l).data.toList = (sumL cb sq l).take 8 := by
  unfold shortB sumS
  simp [ByteArray.extract, ByteArray.copySlice]
theorem shortB_size (l : List UInt8) : (shortB l).size = 8 := by
  show (shortB l).data.size = 8
  rw [← Array.length_toList, shortB_list, List.length_take, show (sumL cb sq l).length = 32 from sumTo_length _ 8]
  rfl
theorem sx_list {o n : Nat} {w : World} : ∀ (vls : List (Value × List UInt8)), (∀ p ∈ vls, BSl 0 n w p.1 p.2 ∧ p.2.length ≤ o) → ∃ zs : List (SX o n w), zs.map (fun x => x.1) = vls
  | [], _ => ⟨[], rfl⟩
  | p :: vls, h => by
    obtain ⟨zs, hz⟩ := sx_list vls (fun q hq => h q (List.mem_cons_of_mem _ hq))
    exact ⟨⟨p, h p List.mem_cons_self⟩ :: zs, by rw [List.map_cons, hz]⟩
theorem flat_of {o n : Nat} {w : World} {zs : List (SX o n w)} {vls : List (Value × List UInt8)} (h : zs.map (fun x => x.1) = vls) : flat zs = (vls.map (·.2)).flatten := by
  rw [← h, List.map_map]; rfl
/-- Short of a row of texts. -/
theorem short_of (W : World) (sv : Value) (vls : List (Value × List UInt8)) (hn : vls.length ≤ 1000000) (h : ∀ p ∈ vls, BSl 0 W.heap.size W p.1 p.2 ∧ p.2.length ≤ 140737488353000) (hfl : (vls.map (·.2)).flatten.length ≤ 140737488353000) (hsv : VSl 0 W.heap.size W sv (vls.map (·.1))) :
    Calls Try.prog 52 #[sv] W fun e W' => e = .returned (.string (shortB (vls.map (·.2)).flatten)) ∧ Below W.heap.size W W' := by
  obtain ⟨zs, hz⟩ := sx_list (o := 140737488353000) vls h
  have hl : zs.length = vls.length := by rw [← hz, List.length_map]
  have hf := flat_of hz
  have := short_any sv W zs (by omega) (by rw [hf]; exact hfl) (by
    obtain ⟨a, cap, e, _, h0⟩ := hsv
    refine ⟨a, cap, by rw [e, List.length_map, hl], ?_⟩
    rcases h0 with h0 | ⟨b, off, ha, _, hb, hr⟩
    · left
      apply List.eq_nil_of_length_eq_zero
      rw [hl]
      simpa using congrArg List.length h0
    · refine .inr ⟨b, off, ha, hb, fun k x hx => hr k _ ?_⟩
      rw [List.getElem?_map, ← hz, List.getElem?_map, hx]
      rfl)
  rw [hf] at this
  exact this
/-- Short of one text, of a row just laid. -/
theorem short_one (W : World) (v : Value) (l : List UInt8) (h : BSl 0 W.heap.size W v l) (hl : l.length ≤ 140737488353000) :
    Calls Try.prog 52 #[.slice (some ⟨W.heap.size, 0, none⟩) 1 1] (W.alloc (.cells #[v] 22)) fun e W' => e = .returned (.string (shortB l)) ∧ Below W.heap.size W W' := by
  have hb : Below W.heap.size W (W.alloc (.cells #[v] 22)) := chain0 _ _
  have hs := short_of (W.alloc (.cells #[v] 22)) (.slice (some ⟨W.heap.size, 0, none⟩) 1 1) [(v, l)] (by simp) (fun p hp => by
    rw [List.mem_singleton] at hp
    subst hp
    exact ⟨(h.below hb (Nat.le_refl _)).mono (Nat.le_refl _) hb.size, hl⟩) (by simpa using hl) ⟨_, 1, rfl, Nat.le_refl _, .inr ⟨_, 0, rfl, Nat.zero_le _, by simp, fun k x hx => by
      have hk : k = 0 := by have := (List.getElem?_eq_some_iff.1 hx).1; simp at this; omega
      subst hk
      cases hx
      exact (Boxed.new W 22 v).cell⟩⟩
  refine hs.mono fun e W' ⟨he, hb2⟩ => ⟨?_, chain hb hb2⟩
  rw [he]
  simp
/-- The link behind k links. -/
def linkB (s : ByteArray) : Nat → ByteArray
  | 0 => s
  | k + 1 => shortB (linkB s k).data.toList
theorem linkB_size (s : ByteArray) (k : Nat) : (linkB s k).size ≤ max s.size 8 := by
  cases k with
  | zero => exact Nat.le_max_left _ _
  | succ k => rw [show linkB s (k + 1) = shortB _ from rfl, shortB_size]; exact Nat.le_max_right _ _
end Go.Proofs.Ytneilnfjnbecbaa

namespace Go.Proofs.Ytneilnfjnbecbaa
open Go.RowKit Go.Shelf

/-- A row stays where its own block stays. -/
theorem own_same {W W' : World} {base : Nat} {e : TypeId} {size k : Nat} {v : Value} {xs : List Value} (h : W.ownsRow base e size v k xs) (hk : ∀ g, v.ownBlock = some g → W'.heap[g]? = W.heap[g]?) : W'.ownsRow base e size v k xs := by
  obtain ⟨h1, h2⟩ := h
  refine ⟨h1, ?_⟩
  rcases h2 with h2 | ⟨g, cap, cur, rfl, hb, hh, r⟩
  · exact .inl h2
  · exact .inr ⟨g, cap, cur, rfl, hb, (hk g rfl).trans hh, r⟩
theorem own_below {W W' : World} {base : Nat} {e : TypeId} {size k : Nat} {v : Value} {xs : List Value} (h : W.ownsRow base e size v k xs) (hb : Below W.heap.size W W') : W'.ownsRow base e size v k xs :=
  own_same h fun g hg => hb.block g (World.ownsRow.lt h g hg).2
theorem own_spares {W W' : World} {base : Nat} {e e' : TypeId} {size k : Nat} {v : Value} {xs : List Value} (h : W.ownsRow base e size v k xs) (hs : Spares e' W W') (hne : e ≠ e') : W'.ownsRow base e size v k xs :=
  own_same h fun g hg => by
    obtain ⟨cur, fr, hc⟩ := ownsRow_block h g hg
    rw [hs.2 g _ hc (fun cur' fr' e => by cases e; exact hne rfl), hc]
theorem own_turn {W W' : World} {row : Option Nat} {base : Nat} {e : TypeId} {size k : Nat} {v : Value} {xs : List Value} (h : W.ownsRow base e size v k xs) (hg : W.grownBy W' row) (hrow : ∀ r, row = some r → ∃ o : Obj, W.heap[r]? = some o ∧ o.isCells = false) : W'.ownsRow base e size v k xs :=
  own_same h fun g hgb => hg.block g (World.ownsRow.lt h g hgb).2 (fun e' => by
    obtain ⟨o, ho, hc⟩ := hrow g e'.symm
    obtain ⟨cur, fr, hcc⟩ := ownsRow_block h g hgb
    rw [hcc] at ho; cases ho; cases hc)

theorem own_base {W : World} {base base' : Nat} {e : TypeId} {size k : Nat} {v : Value} {xs : List Value} (h : W.ownsRow base e size v k xs) (hb : base' ≤ base) : W.ownsRow base' e size v k xs := by
  obtain ⟨h1, h2⟩ := h
  refine ⟨h1, ?_⟩
  rcases h2 with h2 | ⟨g, cap, cur, rfl, hg, r⟩
  · exact .inl h2
  · exact .inr ⟨g, cap, cur, rfl, Nat.le_trans hb hg, r⟩

/-- The slices vs are these texts, each a row of the call's own. -/
def Pieces (N : Nat) (W : World) (vs : List Value) (bs : List (List UInt8)) : Prop := vs.length = bs.length ∧ ∀ (k : Nat) (v : Value) (b : List UInt8), vs[k]? = some v → bs[k]? = some b → W.ownsRow N 5 1 v b.length (b.map bv)
theorem Pieces.to {N : Nat} {W W' : World} {vs : List Value} {bs : List (List UInt8)} (h : Pieces N W vs bs) (hk : ∀ v b, W.ownsRow N 5 1 v b.length (b.map bv) → W'.ownsRow N 5 1 v (b : List UInt8).length (b.map bv)) : Pieces N W' vs bs :=
  ⟨h.1, fun k v b hv hb => hk v b (h.2 k v b hv hb)⟩
theorem Pieces.snoc {N : Nat} {W : World} {vs : List Value} {bs : List (List UInt8)} (h : Pieces N W vs bs) {v : Value} {b : List UInt8} (hb : W.ownsRow N 5 1 v b.length (b.map bv)) : Pieces N W (vs ++ [v]) (bs ++ [b]) :=
  ⟨by simp [h.1], fun k v' b' hv hb' => by
    by_cases hk : k < vs.length
    · rw [List.getElem?_append_left hk] at hv
      rw [List.getElem?_append_left (by rw [← h.1]; exact hk)] at hb'
      exact h.2 k v' b' hv hb'
    · have hkl : k = vs.length := by have := (List.getElem?_eq_some_iff.1 hv).1; simp at this; omega
      subst hkl
      rw [List.getElem?_append_right (Nat.le_refl _)] at hv
      rw [List.getElem?_append_right (by rw [h.1]; exact Nat.le_refl _), h.1] at hb'
      simp at hv hb'
      rw [← hv, ← hb']; exact hb⟩

/-- A piece's octets. -/
def piece (l : List UInt8) {L : Nat} (p : CP L) : List UInt8 := (l.drop p.1.1).take p.1.2
theorem piece_length {l : List UInt8} {L : Nat} (hL : l.length = L) (p : CP L) : (piece l p).length = p.1.2 := by
  have := p.2
  unfold piece
  rw [List.length_take, List.length_drop]
  omega
theorem piece_bsl {W : World} {hi b off L : Nat} {l : List UInt8} (hL : l.length = L) (h : L = 0 ∨ (b < hi ∧ Octs W b off l)) (p : CP L) : BSl 0 hi W (.slice (some ⟨b, off + p.1.1, none⟩) p.1.2 p.1.2) (piece l p) := by
  refine ⟨_, _, by rw [piece_length hL], by rw [piece_length hL]; exact Nat.le_refl _, ?_⟩
  rcases h with h0 | ⟨h1, h2⟩
  · left
    apply List.eq_nil_of_length_eq_zero
    rw [piece_length hL]
    have := p.2
    omega
  · refine .inr ⟨b, _, rfl, Nat.zero_le _, h1, fun k x hx => ?_⟩
    rw [Nat.add_assoc]
    refine h2 _ x ?_
    unfold piece at hx
    have hk : k < p.1.2 := by
      have := (List.getElem?_eq_some_iff.1 hx).1
      rw [List.length_take] at this
      omega
    rw [List.getElem?_take_of_lt hk, List.getElem?_drop] at hx
    exact hx

end Go.Proofs.Ytneilnfjnbecbaa

namespace Go.Proofs.Ytneilnfjnbecbaa
open Go.RowKit

theorem wpIn_fence_any {F : Fence} {n id : Nat} {P : Program} {Q : Exit → Act → World → Prop} {a : Act} {w : World} {l : List Oper} (hm : P.follows .mixedOrders = true)
    (h : wpAnyIn F n P .any l.toArray (Exit.then (fun a w => Q .normal a w) (fun _ _ _ => False)) l.length (Array.replicate l.length false) a w.drew) : (Code.region id l.toArray true).wpIn F n P Q a w := by
  refine wpIn_mono (wpIn_region_any (Q := Exit.then (fun a w => Q .normal a w) (fun _ _ _ => False)) hm (by simpa using h)) ?_
  intro e a w hq
  cases e <;> first | exact hq | exact hq.elim
end Go.Proofs.Ytneilnfjnbecbaa

namespace Go.Proofs.Ytneilnfjnbecbaa
open Go.RowKit Go.Shelf
attribute [local go_sem] Oper.semAt_some

/-- Short of three texts, of a row just laid. -/
theorem short_three (W : World) (v1 v2 v3 : Value) (l1 l2 l3 : List UInt8) (h1 : BSl 0 W.heap.size W v1 l1) (h2 : BSl 0 W.heap.size W v2 l2) (h3 : BSl 0 W.heap.size W v3 l3) (hl : l1.length + l2.length + l3.length ≤ 140737488353000) :
    Calls Try.prog 52 #[.slice (some ⟨W.heap.size, 0, none⟩) 3 3] (W.alloc (.cells #[v1, v2, v3] 22)) fun e W' => e = .returned (.string (shortB (l1 ++ (l2 ++ l3)))) ∧ Below W.heap.size W W' := by
  have hb : Below W.heap.size W (W.alloc (.cells #[v1, v2, v3] 22)) := chain0 _ _
  have up : ∀ {v : Value} {l : List UInt8}, BSl 0 W.heap.size W v l → BSl 0 (W.alloc (.cells #[v1, v2, v3] 22)).heap.size (W.alloc (.cells #[v1, v2, v3] 22)) v l := fun h => (h.below hb (Nat.le_refl _)).mono (Nat.le_refl _) hb.size
  have hs := short_of (W.alloc (.cells #[v1, v2, v3] 22)) (.slice (some ⟨W.heap.size, 0, none⟩) 3 3) [(v1, l1), (v2, l2), (v3, l3)] (by simp) (fun p hp => by
    simp only [List.mem_cons, List.not_mem_nil, or_false] at hp
    rcases hp with rfl | rfl | rfl
    · exact ⟨up h1, by show l1.length ≤ _; omega⟩
    · exact ⟨up h2, by show l2.length ≤ _; omega⟩
    · exact ⟨up h3, by show l3.length ≤ _; omega⟩) (by simp; omega) ⟨_, 3, rfl, Nat.le_refl _, .inr ⟨_, 0, rfl, Nat.zero_le _, by simp, fun k x hx => by
      have hB : Blk (W.alloc (.cells #[v1, v2, v3] 22)) W.heap.size 22 [v1, v2, v3] := Blk.new W _ [v1, v2, v3]
      rw [Nat.zero_add, hB.cell]
      exact hx⟩⟩
  refine hs.mono fun e W' ⟨he, hb2⟩ => ⟨?_, chain hb hb2⟩
  rw [he]
  simp

/-- From 0 to 65535, else the nearest. -/
def lfN (z : Int) : Nat := if z ≤ 0 then 0 else if 65535 ≤ z then 65535 else z.toNat
theorem lfN_cases (z : Int) : (z < 0 ∧ (lfN z : Int) = 0) ∨ (0 ≤ z ∧ z ≤ 65535 ∧ (lfN z : Int) = z) ∨ (65535 < z ∧ (lfN z : Int) = 65535) := by
  unfold lfN
  by_cases h1 : z < 0
  · left; rw [if_pos (by omega)]; exact ⟨h1, rfl⟩
  · by_cases h2 : z ≤ 65535
    · right; left
      refine ⟨by omega, h2, ?_⟩
      split <;> (try split) <;> omega
    · right; right
      rw [if_neg (by omega), if_pos (by omega)]; exact ⟨by omega, rfl⟩
theorem lfN_le (z : Int) : lfN z ≤ 65535 := by unfold lfN; split <;> (try split) <;> omega
/-- What the chain at place j of leaf f begins with. -/
def begB (s : ByteArray) (f j : Nat) : ByteArray := shortB (s.data.toList ++ (octs (two (f : Int)) 2 ++ octs (two (j : Int)) 1))
def begs (s : ByteArray) (f : Nat) : List ByteArray := (List.range 15).map (begB s f)
theorem begs_length (s : ByteArray) (f : Nat) : (begs s f).length = 15 := by simp [begs]
theorem begs_at (s : ByteArray) (f : Nat) {k : Nat} (h : k < 15) : (begs s f)[k]? = some (begB s f k) := by unfold begs; rw [List.getElem?_map, List.getElem?_range h]; rfl

set_option maxRecDepth 100000 in
set_option maxHeartbeats 8000000 in
theorem beginnings1_rel (m : Nat) (hm : 1 ≤ m) (s : ByteArray) (hs : s.size ≤ 140737488352000) (z : Int) (n₀ B Bs Bl : Nat) (w : World) (hB : B < w.heap.size) (hBs : Bs < n₀)
    (ks : Boxed w Bs 9 (.string s)) (kl : Boxed w Bl 3 (.int .i64 z)) :
    SeqRel Fence.wide m Try.prog 54 #[.pointer (some ⟨Bl, 0, none⟩), .pointer (some ⟨Bs, 0, none⟩)] 15 (fun k r _ => ∃ y : ByteArray, (begs s (lfN z))[k]? = some y ∧ r = #[tv y]) (fun l A B' => Below n₀ A B' ∧ ButRows 9 B l A B') w := fun l J W hW hl0 hlW hJ hY h0 => by
  have hmx : Try.prog.follows .mixedOrders = true := by kernel_rfl
  have hcs : Boxed W Bs 9 (.string s) := (hW.block Bs ks.lt).trans ks
  have hcl : Boxed W Bl 3 (.int .i64 z) := (hW.block Bl kl.lt).trans kl
  have hwW := hW.size
  have h1 : 1 ≤ m := hm
  have cl := hcl.cell
  have cs := hcs.cell
  have hCC := lfN_cases z
  have hf5 := lfN_le z
  generalize lfN z = f at *
  refine callsIn_of_wp Try.func54 rfl trivial ?_ rfl
  simp only [Try.ntmps54, List.size_toArray, List.length_cons, List.length_nil, Nat.reduceAdd, Nat.reduceSub, Array.replicate_succ, Array.replicate_zero, List.push_toArray, List.append_toArray, List.nil_append, List.cons_append]
  obtain ⟨u, hq1, hq2⟩ : ∃ u : Int, (if z < 0 then (0 : Int) else z) = u ∧ (if 65535 < u then (65535 : Int) else u) = (f : Int) := by
    refine ⟨_, rfl, ?_⟩
    rcases hCC with ⟨hc0, hC⟩ | ⟨hc0, hc8, hC⟩ | ⟨hc8, hC⟩
    · rw [hC, if_pos hc0]; rfl
    · rw [hC, if_neg (show ¬ z < 0 by omega), if_neg (by omega)]
    · rw [hC, if_neg (show ¬ z < 0 by omega), if_pos (by omega)]
  clear hCC
  clear hf5
  have HQ1 := Lib.hid hq1
  gi_wp2_with fail
  refine ⟨trivial, ?_⟩
  refine (callsIn_wide.2 (numO_any (f : Int) 2 (by omega) (by omega) _)).mono ?_
  rintro e w2 ⟨v2, rfl, hown2, hb2⟩
  rw [show clamp 2 = 2 from rfl, octs_length] at hown2
  obtain ⟨g2, c2, rfl⟩ := ownsRow_succ hown2
  clear cl cs hq1 hq2 HQ1
  gi_wp2_with fail
  gi_loopw [10] (fun i wr => ∃ k : Nat, k ≤ 15 ∧ i = .int .i64 (k : Nat) ∧ J k wr ∧ Boxed wr Bs 9 (.string s) ∧ wr.ownsRow W.heap.size 5 1 (.slice (some ⟨g2, 0, none⟩) (1 + 1) c2) 2 ((octs (two (f : Int)) 2).map bv) ∧ W.heap.size ≤ wr.heap.size) (fun i _ => 15 - (intOf i).toNat)
  case atStart => exact ⟨0, by omega, rfl, hJ 0 W w2 none h0 (grown_of_below hb2) (by simp), (hb2.block Bs hcs.lt).trans hcs, hown2, hb2.size⟩
  clear h0 hcs hcl hown2 hb2
  case round =>
    obtain ⟨k, hk, rfl, hJk, hbs, hown2, hsz⟩ := hrel
    by_cases hlt : k < 15
    · have hlt' : (k : Int) < 15 := by omega
      gi_wp2_with fail
      refine wpIn_fence_any hmx ?_
      change wpAnyIn _ _ _ _ _ _ _ _ _ wr.drew
      replace hJk := hJ k wr wr.drew none hJk ⟨rfl, rfl, rfl, Nat.le_refl _, fun _ _ _ => rfl⟩ (by simp)
      replace hbs : Boxed wr.drew Bs 9 (.string s) := hbs
      replace hown2 : wr.drew.ownsRow W.heap.size 5 1 (.slice (some ⟨g2, 0, none⟩) (1 + 1) c2) 2 ((octs (two (f : Int)) 2).map bv) := hown2
      replace hsz : W.heap.size ≤ wr.drew.heap.size := hsz
      generalize wr.drew = Y at *
      refine' wpAnyIn_take (i := 0) (oi := _) (v := _) rfl ?hi1 (by kernel_rfl) (by kernel_rfl) (by kernel_rfl) ?hQ1 ⟨Or.inl ⟨?hw1, ?hy1⟩, ?ha1⟩ ?rest1
      case hi1 => simp only [List.getElem?_toArray, List.getElem?_cons_zero]; rfl
      case hQ1 => exact fun _ _ _ h => h
      case hw1 => rfl
      case hy1 => intro W'; go_simp; with_reducible rfl
      case ha1 => intro W'; rfl
      try simp only [Act.put, List.setIfInBounds_toArray, List.set_cons_zero, List.set_cons_succ]
      refine' wpAnyIn_take (i := 3) (oi := _) (v := _) rfl ?hi2 (by kernel_rfl) (by kernel_rfl) (by kernel_rfl) ?hQ2 ⟨Or.inl ⟨?hw2, ?hy2⟩, ?ha2⟩ ?rest2
      case hi2 => simp only [List.getElem?_toArray, List.getElem?_cons_succ, List.getElem?_cons_zero]; rfl
      case hQ2 => exact fun _ _ _ h => h
      case hw2 => rfl
      case hy2 => intro W'; go_simp; with_reducible rfl
      case ha2 => intro W'; rfl
      try simp only [Act.put, List.setIfInBounds_toArray, List.set_cons_zero, List.set_cons_succ]
      refine' wpAnyIn_take (i := 4) (oi := _) (v := _) rfl ?hi3 (by kernel_rfl) (by kernel_rfl) (by kernel_rfl) ?hQ3 ⟨Or.inl ⟨?hw3, ?hy3⟩, ?ha3⟩ ?rest3
      case hi3 => simp only [List.getElem?_toArray, List.getElem?_cons_succ, List.getElem?_cons_zero]; rfl
      case hQ3 => exact fun _ _ _ h => h
      case hw3 => rfl
      case hy3 => intro W'; go_simp; with_reducible rfl
      case ha3 => intro W'; rfl
      try simp only [Act.put, List.setIfInBounds_toArray, List.set_cons_zero, List.set_cons_succ]
      refine wpAnyIn_ready (rs := [1, 5]) (by kernel_rfl) (by simp) ?_
      refine' AllReadyIn.cons (o := _) ?ho5 (fun K hK => ?st5) (AllReadyIn.cons (o := _) ?ho4 (fun K hK => ?st4) AllReadyIn.nil)
      case ho5 => simp only [List.getElem?_toArray, List.getElem?_cons_succ, List.getElem?_cons_zero]; rfl
      case ho4 => simp only [List.getElem?_toArray, List.getElem?_cons_succ, List.getElem?_cons_zero]; rfl
      case st5 =>
        have cs := hbs.cell
        go_simp
        clear cs
        refine hK _ _ ?_
        clear hK K
        try simp only [Act.put, List.setIfInBounds_toArray, List.set_cons_zero, List.set_cons_succ]
        refine wpAnyIn_ready (rs := [2, 5]) (by kernel_rfl) (by simp) ?_
        refine' AllReadyIn.cons (o := _) ?ho7 (fun K hK => ?st7) (AllReadyIn.cons (o := _) ?ho6 (fun K hK => ?st6) AllReadyIn.nil)
        case ho7 => simp only [List.getElem?_toArray, List.getElem?_cons_succ, List.getElem?_cons_zero]; rfl
        case ho6 => simp only [List.getElem?_toArray, List.getElem?_cons_succ, List.getElem?_cons_zero]; rfl
        case st7 =>
          obtain ⟨c1, Y1, hcv, hc1, hb, hz1, ho1⟩ := conv_bytes Y s
          go_simp
          clear hcv
          refine hK _ _ ?_
          clear hK K
          try simp only [Act.put, List.setIfInBounds_toArray, List.set_cons_zero, List.set_cons_succ]
          have hv1 := (conv_bsl hc1 hz1 ho1).mono (Nat.zero_le _) (Nat.le_refl _)
          clear hc1 hz1 ho1
          replace hJk := hJ k Y Y1 none hJk (grown_of_below hb) (by simp)
          replace hbs : Boxed Y1 Bs 9 (.string s) := (hb.block Bs hbs.lt).trans hbs
          replace hown2 := own_below4 hown2 hb
          replace hsz := Nat.le_trans hsz hb.size
          clear hb
          refine wpAnyIn_ready (rs := [5]) (by kernel_rfl) (by simp) ?_
          refine' AllReadyIn.cons (o := _) ?ho8 (fun K hK => ?st8) AllReadyIn.nil
          case ho8 => simp only [List.getElem?_toArray, List.getElem?_cons_succ, List.getElem?_cons_zero]; rfl
          case st8 =>
            go_simp
            refine ⟨trivial, ?_⟩
            refine (callsIn_wide.2 (num_any (k : Int) 1 (by omega) (by omega) _)).mono ?_
            rintro e Y2 ⟨v3, rfl, hv3, hb⟩
            rw [show clamp 1 = 1 from rfl] at hv3
            replace hv3 := hv3.mono (Nat.zero_le _) (Nat.le_refl _)
            obtain ⟨a3, c3, rfl⟩ := bsl_slice hv3
            refine hK _ _ ?_
            clear hK K
            try simp only [Act.put, List.setIfInBounds_toArray, List.set_cons_zero, List.set_cons_succ]
            replace hJk := hJ k Y1 Y2 none hJk (grown_of_below hb) (by simp)
            replace hbs : Boxed Y2 Bs 9 (.string s) := (hb.block Bs hbs.lt).trans hbs
            replace hown2 := own_below4 hown2 hb
            replace hsz := Nat.le_trans hsz hb.size
            replace hv1 := (hv1.below hb (Nat.le_refl _)).mono (Nat.le_refl _) hb.size
            clear hb
            refine wpAnyIn_ready (rs := [6]) (by kernel_rfl) (by simp) ?_
            refine' AllReadyIn.cons (o := _) ?ho9 (fun K hK => ?st9) AllReadyIn.nil
            case ho9 => simp only [List.getElem?_toArray, List.getElem?_cons_succ, List.getElem?_cons_zero]; rfl
            case st9 =>
              go_simp
              refine hK _ _ ?_
              clear hK K
              try simp only [Act.put, List.setIfInBounds_toArray, List.set_cons_zero, List.set_cons_succ]
              refine wpAnyIn_ready (rs := [7]) (by kernel_rfl) (by simp) ?_
              refine' AllReadyIn.cons (o := _) ?ho10 (fun K hK => ?st10) AllReadyIn.nil
              case ho10 => simp only [List.getElem?_toArray, List.getElem?_cons_succ, List.getElem?_cons_zero]; rfl
              case st10 =>
                go_simp
                refine ⟨trivial, ?_⟩
                have hv2 := (BSl.of_own (l := octs (two (f : Int)) 2) (by rw [octs_length]; exact hown2)).mono (Nat.zero_le _) (Nat.le_refl _)
                refine (callsIn_wide.2 (short_three Y2 _ _ _ s.data.toList (octs (two (f : Int)) 2) (octs (two (k : Int)) 1) hv1 hv2 hv3 (by rw [octs_length, octs_length]; have : s.data.toList.length = s.size := rfl; omega))).mono ?_
                clear hv2
                rintro e Y3 ⟨rfl, hb⟩
                refine hK _ _ ?_
                clear hK K
                try simp only [Act.put, List.setIfInBounds_toArray, List.set_cons_zero, List.set_cons_succ]
                replace hJk := hJ k Y2 Y3 none hJk (grown_of_below hb) (by simp)
                replace hbs : Boxed Y3 Bs 9 (.string s) := (hb.block Bs hbs.lt).trans hbs
                replace hown2 := own_below4 hown2 hb
                replace hsz := Nat.le_trans hsz hb.size
                clear hb hv1 hv3
                refine wpAnyIn_ready (rs := [8]) (by kernel_rfl) (by simp) ?_
                refine' AllReadyIn.cons (o := _) ?ho11 (fun K hK => ?st11) AllReadyIn.nil
                case ho11 => simp only [List.getElem?_toArray, List.getElem?_cons_succ, List.getElem?_cons_zero]; rfl
                case st11 =>
                  obtain ⟨fn, tmps, assign, body, hy, hR⟩ := hY k #[tv (begB s f k)] Y3 hlt ⟨_, begs_at s f hlt, rfl⟩ hJk
                  simp only [tv, begB] at hy
                  go_simp
                  clear hy
                  refine hR.mono ?_
                  rintro e Y4 ⟨rfl, hJ4, hkp1, hkp2⟩
                  refine hK _ _ ?_
                  clear hK K
                  try simp only [Act.put, List.setIfInBounds_toArray, List.set_cons_zero, List.set_cons_succ]
                  refine wpAnyIn_ready (rs := [9]) (by kernel_rfl) (by simp) ?_
                  refine' AllReadyIn.cons (o := _) ?ho12 (fun K hK => ?st12) AllReadyIn.nil
                  case ho12 => simp only [List.getElem?_toArray, List.getElem?_cons_succ, List.getElem?_cons_zero]; rfl
                  case st12 =>
                    go_simp
                    refine hK _ _ ?_
                    clear hK K
                    try simp only [Act.put, List.setIfInBounds_toArray, List.set_cons_zero, List.set_cons_succ]
                    refine wpAnyIn_done (by kernel_rfl) ?_ _
                    replace hbs : Boxed Y4 Bs 9 (.string s) := (hkp1.block Bs hBs).trans hbs
                    replace hown2 := own_butRows hown2 hkp2 (by decide) (by omega) (by omega)
                    replace hsz := Nat.le_trans hsz hkp1.size
                    clear hR hkp1 hkp2
                    gi_wp2_with fail
                    go_roundw
                    case rel => exact ⟨k + 1, by omega, by simp, hJ4, hbs, hown2, hsz⟩
                    case measure => simp [intOf]; omega
        case st6 =>
          go_simp
          refine ⟨trivial, ?_⟩
          refine (callsIn_wide.2 (num_any (k : Int) 1 (by omega) (by omega) _)).mono ?_
          rintro e Y1 ⟨v3, rfl, hv3, hb⟩
          rw [show clamp 1 = 1 from rfl] at hv3
          replace hv3 := hv3.mono (Nat.zero_le _) (Nat.le_refl _)
          obtain ⟨a3, c3, rfl⟩ := bsl_slice hv3
          refine hK _ _ ?_
          clear hK K
          try simp only [Act.put, List.setIfInBounds_toArray, List.set_cons_zero, List.set_cons_succ]
          replace hJk := hJ k Y Y1 none hJk (grown_of_below hb) (by simp)
          replace hbs : Boxed Y1 Bs 9 (.string s) := (hb.block Bs hbs.lt).trans hbs
          replace hown2 := own_below4 hown2 hb
          replace hsz := Nat.le_trans hsz hb.size
          clear hb
          refine wpAnyIn_ready (rs := [2]) (by kernel_rfl) (by simp) ?_
          refine' AllReadyIn.cons (o := _) ?ho13 (fun K hK => ?st13) AllReadyIn.nil
          case ho13 => simp only [List.getElem?_toArray, List.getElem?_cons_succ, List.getElem?_cons_zero]; rfl
          case st13 =>
            obtain ⟨c1, Y2, hcv, hc1, hb, hz1, ho1⟩ := conv_bytes Y1 s
            go_simp
            clear hcv
            refine hK _ _ ?_
            clear hK K
            try simp only [Act.put, List.setIfInBounds_toArray, List.set_cons_zero, List.set_cons_succ]
            have hv1 := (conv_bsl hc1 hz1 ho1).mono (Nat.zero_le _) (Nat.le_refl _)
            clear hc1 hz1 ho1
            replace hJk := hJ k Y1 Y2 none hJk (grown_of_below hb) (by simp)
            replace hbs : Boxed Y2 Bs 9 (.string s) := (hb.block Bs hbs.lt).trans hbs
            replace hown2 := own_below4 hown2 hb
            replace hsz := Nat.le_trans hsz hb.size
            replace hv3 := (hv3.below hb (Nat.le_refl _)).mono (Nat.le_refl _) hb.size
            clear hb
            refine wpAnyIn_ready (rs := [6]) (by kernel_rfl) (by simp) ?_
            refine' AllReadyIn.cons (o := _) ?ho14 (fun K hK => ?st14) AllReadyIn.nil
            case ho14 => simp only [List.getElem?_toArray, List.getElem?_cons_succ, List.getElem?_cons_zero]; rfl
            case st14 =>
              go_simp
              refine hK _ _ ?_
              clear hK K
              try simp only [Act.put, List.setIfInBounds_toArray, List.set_cons_zero, List.set_cons_succ]
              refine wpAnyIn_ready (rs := [7]) (by kernel_rfl) (by simp) ?_
              refine' AllReadyIn.cons (o := _) ?ho15 (fun K hK => ?st15) AllReadyIn.nil
              case ho15 => simp only [List.getElem?_toArray, List.getElem?_cons_succ, List.getElem?_cons_zero]; rfl
              case st15 =>
                go_simp
                refine ⟨trivial, ?_⟩
                have hv2 := (BSl.of_own (l := octs (two (f : Int)) 2) (by rw [octs_length]; exact hown2)).mono (Nat.zero_le _) (Nat.le_refl _)
                refine (callsIn_wide.2 (short_three Y2 _ _ _ s.data.toList (octs (two (f : Int)) 2) (octs (two (k : Int)) 1) hv1 hv2 hv3 (by rw [octs_length, octs_length]; have : s.data.toList.length = s.size := rfl; omega))).mono ?_
                clear hv2
                rintro e Y3 ⟨rfl, hb⟩
                refine hK _ _ ?_
                clear hK K
                try simp only [Act.put, List.setIfInBounds_toArray, List.set_cons_zero, List.set_cons_succ]
                replace hJk := hJ k Y2 Y3 none hJk (grown_of_below hb) (by simp)
                replace hbs : Boxed Y3 Bs 9 (.string s) := (hb.block Bs hbs.lt).trans hbs
                replace hown2 := own_below4 hown2 hb
                replace hsz := Nat.le_trans hsz hb.size
                clear hb hv1 hv3
                refine wpAnyIn_ready (rs := [8]) (by kernel_rfl) (by simp) ?_
                refine' AllReadyIn.cons (o := _) ?ho16 (fun K hK => ?st16) AllReadyIn.nil
                case ho16 => simp only [List.getElem?_toArray, List.getElem?_cons_succ, List.getElem?_cons_zero]; rfl
                case st16 =>
                  obtain ⟨fn, tmps, assign, body, hy, hR⟩ := hY k #[tv (begB s f k)] Y3 hlt ⟨_, begs_at s f hlt, rfl⟩ hJk
                  simp only [tv, begB] at hy
                  go_simp
                  clear hy
                  refine hR.mono ?_
                  rintro e Y4 ⟨rfl, hJ4, hkp1, hkp2⟩
                  refine hK _ _ ?_
                  clear hK K
                  try simp only [Act.put, List.setIfInBounds_toArray, List.set_cons_zero, List.set_cons_succ]
                  refine wpAnyIn_ready (rs := [9]) (by kernel_rfl) (by simp) ?_
                  refine' AllReadyIn.cons (o := _) ?ho17 (fun K hK => ?st17) AllReadyIn.nil
                  case ho17 => simp only [List.getElem?_toArray, List.getElem?_cons_succ, List.getElem?_cons_zero]; rfl
                  case st17 =>
                    go_simp
                    refine hK _ _ ?_
                    clear hK K
                    try simp only [Act.put, List.setIfInBounds_toArray, List.set_cons_zero, List.set_cons_succ]
                    refine wpAnyIn_done (by kernel_rfl) ?_ _
                    replace hbs : Boxed Y4 Bs 9 (.string s) := (hkp1.block Bs hBs).trans hbs
                    replace hown2 := own_butRows hown2 hkp2 (by decide) (by omega) (by omega)
                    replace hsz := Nat.le_trans hsz hkp1.size
                    clear hR hkp1 hkp2
                    gi_wp2_with fail
                    go_roundw
                    case rel => exact ⟨k + 1, by omega, by simp, hJ4, hbs, hown2, hsz⟩
                    case measure => simp [intOf]; omega
      case st4 =>
        go_simp
        refine ⟨trivial, ?_⟩
        refine (callsIn_wide.2 (num_any (k : Int) 1 (by omega) (by omega) _)).mono ?_
        rintro e Y1 ⟨v3, rfl, hv3, hb⟩
        rw [show clamp 1 = 1 from rfl] at hv3
        replace hv3 := hv3.mono (Nat.zero_le _) (Nat.le_refl _)
        obtain ⟨a3, c3, rfl⟩ := bsl_slice hv3
        refine hK _ _ ?_
        clear hK K
        try simp only [Act.put, List.setIfInBounds_toArray, List.set_cons_zero, List.set_cons_succ]
        replace hJk := hJ k Y Y1 none hJk (grown_of_below hb) (by simp)
        replace hbs : Boxed Y1 Bs 9 (.string s) := (hb.block Bs hbs.lt).trans hbs
        replace hown2 := own_below4 hown2 hb
        replace hsz := Nat.le_trans hsz hb.size
        clear hb
        refine wpAnyIn_ready (rs := [1]) (by kernel_rfl) (by simp) ?_
        refine' AllReadyIn.cons (o := _) ?ho18 (fun K hK => ?st18) AllReadyIn.nil
        case ho18 => simp only [List.getElem?_toArray, List.getElem?_cons_succ, List.getElem?_cons_zero]; rfl
        case st18 =>
          have cs := hbs.cell
          go_simp
          clear cs
          refine hK _ _ ?_
          clear hK K
          try simp only [Act.put, List.setIfInBounds_toArray, List.set_cons_zero, List.set_cons_succ]
          refine wpAnyIn_ready (rs := [2]) (by kernel_rfl) (by simp) ?_
          refine' AllReadyIn.cons (o := _) ?ho19 (fun K hK => ?st19) AllReadyIn.nil
          case ho19 => simp only [List.getElem?_toArray, List.getElem?_cons_succ, List.getElem?_cons_zero]; rfl
          case st19 =>
            obtain ⟨c1, Y2, hcv, hc1, hb, hz1, ho1⟩ := conv_bytes Y1 s
            go_simp
            clear hcv
            refine hK _ _ ?_
            clear hK K
            try simp only [Act.put, List.setIfInBounds_toArray, List.set_cons_zero, List.set_cons_succ]
            have hv1 := (conv_bsl hc1 hz1 ho1).mono (Nat.zero_le _) (Nat.le_refl _)
            clear hc1 hz1 ho1
            replace hJk := hJ k Y1 Y2 none hJk (grown_of_below hb) (by simp)
            replace hbs : Boxed Y2 Bs 9 (.string s) := (hb.block Bs hbs.lt).trans hbs
            replace hown2 := own_below4 hown2 hb
            replace hsz := Nat.le_trans hsz hb.size
            replace hv3 := (hv3.below hb (Nat.le_refl _)).mono (Nat.le_refl _) hb.size
            clear hb
            refine wpAnyIn_ready (rs := [6]) (by kernel_rfl) (by simp) ?_
            refine' AllReadyIn.cons (o := _) ?ho20 (fun K hK => ?st20) AllReadyIn.nil
            case ho20 => simp only [List.getElem?_toArray, List.getElem?_cons_succ, List.getElem?_cons_zero]; rfl
            case st20 =>
              go_simp
              refine hK _ _ ?_
              clear hK K
              try simp only [Act.put, List.setIfInBounds_toArray, List.set_cons_zero, List.set_cons_succ]
              refine wpAnyIn_ready (rs := [7]) (by kernel_rfl) (by simp) ?_
              refine' AllReadyIn.cons (o := _) ?ho21 (fun K hK => ?st21) AllReadyIn.nil
              case ho21 => simp only [List.getElem?_toArray, List.getElem?_cons_succ, List.getElem?_cons_zero]; rfl
              case st21 =>
                go_simp
                refine ⟨trivial, ?_⟩
                have hv2 := (BSl.of_own (l := octs (two (f : Int)) 2) (by rw [octs_length]; exact hown2)).mono (Nat.zero_le _) (Nat.le_refl _)
                refine (callsIn_wide.2 (short_three Y2 _ _ _ s.data.toList (octs (two (f : Int)) 2) (octs (two (k : Int)) 1) hv1 hv2 hv3 (by rw [octs_length, octs_length]; have : s.data.toList.length = s.size := rfl; omega))).mono ?_
                clear hv2
                rintro e Y3 ⟨rfl, hb⟩
                refine hK _ _ ?_
                clear hK K
                try simp only [Act.put, List.setIfInBounds_toArray, List.set_cons_zero, List.set_cons_succ]
                replace hJk := hJ k Y2 Y3 none hJk (grown_of_below hb) (by simp)
                replace hbs : Boxed Y3 Bs 9 (.string s) := (hb.block Bs hbs.lt).trans hbs
                replace hown2 := own_below4 hown2 hb
                replace hsz := Nat.le_trans hsz hb.size
                clear hb hv1 hv3
                refine wpAnyIn_ready (rs := [8]) (by kernel_rfl) (by simp) ?_
                refine' AllReadyIn.cons (o := _) ?ho22 (fun K hK => ?st22) AllReadyIn.nil
                case ho22 => simp only [List.getElem?_toArray, List.getElem?_cons_succ, List.getElem?_cons_zero]; rfl
                case st22 =>
                  obtain ⟨fn, tmps, assign, body, hy, hR⟩ := hY k #[tv (begB s f k)] Y3 hlt ⟨_, begs_at s f hlt, rfl⟩ hJk
                  simp only [tv, begB] at hy
                  go_simp
                  clear hy
                  refine hR.mono ?_
                  rintro e Y4 ⟨rfl, hJ4, hkp1, hkp2⟩
                  refine hK _ _ ?_
                  clear hK K
                  try simp only [Act.put, List.setIfInBounds_toArray, List.set_cons_zero, List.set_cons_succ]
                  refine wpAnyIn_ready (rs := [9]) (by kernel_rfl) (by simp) ?_
                  refine' AllReadyIn.cons (o := _) ?ho23 (fun K hK => ?st23) AllReadyIn.nil
                  case ho23 => simp only [List.getElem?_toArray, List.getElem?_cons_succ, List.getElem?_cons_zero]; rfl
                  case st23 =>
                    go_simp
                    refine hK _ _ ?_
                    clear hK K
                    try simp only [Act.put, List.setIfInBounds_toArray, List.set_cons_zero, List.set_cons_succ]
                    refine wpAnyIn_done (by kernel_rfl) ?_ _
                    replace hbs : Boxed Y4 Bs 9 (.string s) := (hkp1.block Bs hBs).trans hbs
                    replace hown2 := own_butRows hown2 hkp2 (by decide) (by omega) (by omega)
                    replace hsz := Nat.le_trans hsz hkp1.size
                    clear hR hkp1 hkp2
                    gi_wp2_with fail
                    go_roundw
                    case rel => exact ⟨k + 1, by omega, by simp, hJ4, hbs, hown2, hsz⟩
                    case measure => simp [intOf]; omega
    · obtain rfl : k = 15 := by omega
      gi_wp2_with fail
      go_end0
      exact ⟨⟨_, rfl⟩, hJk⟩

set_option maxHeartbeats 1000000 in
theorem beginnings_in (F : Fence) (m : Nat) (h : F.fn 32) (hro : F.round = none) (s : ByteArray) (z : Int) (w : World) :
    CallsIn F m Try.prog 32 #[.string s, .int .i64 z] w fun e w' => e = .returned (.func (.func 54) #[] #[.pointer (some ⟨w.heap.size + 1, 0, none⟩), .pointer (some ⟨w.heap.size, 0, none⟩)]) ∧ w' = (w.alloc (.cells #[.string s] 9)).alloc (.cells #[.int .i64 z] 3) := by
  refine callsIn_of_wp Try.func32 rfl h ?_ hro
  simp only [Try.ntmps32, List.size_toArray, List.length_cons, List.length_nil, Nat.reduceAdd, Nat.reduceSub, Array.replicate_succ, Array.replicate_zero, List.push_toArray, List.append_toArray, List.nil_append, List.cons_append]
  gi_wp2
  go_ret
  exact ⟨rfl, rfl⟩

set_option maxHeartbeats 2000000 in
theorem begin_in (m : Nat) (hm : 7 ≤ m) (s : ByteArray) (hs : s.size ≤ 140737488352000) (z : Int) (w : World) :
    CallsIn Fence.wide m Try.prog 14 #[.string s, .int .i64 z] w (RowW w.heap.size 9 15 ((begs s (lfN z)).map tv) w) := by
  have h1 : 1 ≤ m := by omega
  refine callsIn_of_wp Try.func14 rfl trivial ?_ rfl
  simp only [Try.ntmps14, List.size_toArray, List.length_cons, List.length_nil, Nat.reduceAdd, Nat.reduceSub, Array.replicate_succ, Array.replicate_zero, List.push_toArray, List.append_toArray, List.nil_append, List.cons_append]
  have hbl : (begs s (lfN z)).length ≤ 1000000 := by rw [begs_length]; omega
  gi_wp2_with (first
    | (refine ⟨trivial, ?_⟩; gi_at_call 32; refine (beginnings_in Fence.wide (m - 1) trivial rfl _ _ _).mono ?_; rintro e w1 ⟨rfl, hw1⟩; have ks : Boxed w1 w.heap.size 9 (.string s) := (by rw [hw1]; exact (Boxed.new _ _ _).alloc _); have kl : Boxed w1 (w.heap.size + 1) 3 (.int .i64 z) := (by rw [hw1]; exact Blk.new' (vs := [.int .i64 z]) (by simp)); have hb1 : Below w.heap.size w w1 := (by rw [hw1]; exact chainA (chain0 _ _) _); clear hw1)
    | (refine ⟨trivial, ?_⟩; gi_at_call 31; refine (collectT_in (m - 1) (by omega) (begs s (lfN z)) hbl w1 _ _ (enters_of Try.func54 (by kernel_rfl) rfl) (fun W hW hlt => by
        rw [begs_length]
        exact beginnings1_rel (m - 1 - 1 - 1) (by omega) s hs z w1.heap.size w1.heap.size w.heap.size (w.heap.size + 1) W hlt ks.lt ((hW.block _ ks.lt).trans ks) ((hW.block _ kl.lt).trans kl))).mono ?_; rintro e w2 ⟨v2, rfl, hown2, hb2⟩; rw [begs_length] at hown2; obtain ⟨g2, c2, rfl⟩ := ownsRow_succ hown2))
  go_ret
  exact ⟨_, rfl, own_base hown2 hb1.size, chain hb1 hb2⟩

theorem begin_any (s : ByteArray) (hs : s.size ≤ 140737488352000) (z : Int) (w : World) :
    Calls Try.prog 14 #[.string s, .int .i64 z] w (RowW w.heap.size 9 15 ((begs s (lfN z)).map tv) w) := callsIn_wide.1 (begin_in 7 (by omega) s hs z w)
end Go.Proofs.Ytneilnfjnbecbaa
