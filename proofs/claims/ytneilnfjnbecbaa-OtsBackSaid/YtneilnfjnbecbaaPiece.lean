/-
  Pieces of a text.
-/
import Derived.Test.YtneilnfjnbecbaaChunk
import Derived.Test.YtneilnfjnbecbaaSpares
namespace Go.Proofs.Ytneilnfjnbecbaa
open Go.RowKit Go.Shelf

/-- A row stays where its own block stays. -/
theorem own_same {W W' : World} {base : Nat} {e : TypeId} {size k : Nat} {v : Value} {xs : List Value} (h : W.ownsRow base e size v k xs) (hk : ∀ g, v.ownBlock = some g → W'.heap[g]? = W.heap[g]?) : W'.ownsRow base e size v k xs := by
  obtain ⟨h1, h2⟩ := h
  refine ⟨h1, ?_⟩
  rcases h2 with h2 | ⟨g, cap, cur, rfl, hb, hh, r⟩
  · exact .inl h2
  · exact .inr ⟨g, cap, cur, rfl, hb, (hk g rfl).trans hh, r⟩
theorem own_below {W W' : World} {base : Nat} {e : TypeId} {size k : Nat} {v : Value} {xs : List Value} (h : W.ownsRow base e size v k xs) (hb : Below W.heap.size W W') : W'.ownsRow base e size v k xs :=
  own_same h fun g hg => hb.block g (World.ownsRow.lt h g hg).2
theorem own_spares {W W' : World} {base : Nat} {e e' : TypeId} {size k : Nat} {v : Value} {xs : List Value} (h : W.ownsRow base e size v k xs) (hs : Spares e' W W') (hne : e ≠ e') : W'.ownsRow base e size v k xs :=
  own_same h fun g hg => by
    obtain ⟨cur, fr, hc⟩ := ownsRow_block h g hg
    rw [hs.2 g _ hc (fun cur' fr' e => by cases e; exact hne rfl), hc]
theorem own_turn {W W' : World} {row : Option Nat} {base : Nat} {e : TypeId} {size k : Nat} {v : Value} {xs : List Value} (h : W.ownsRow base e size v k xs) (hg : W.grownBy W' row) (hrow : ∀ r, row = some r → ∃ o : Obj, W.heap[r]? = some o ∧ o.isCells = false) : W'.ownsRow base e size v k xs :=
  own_same h fun g hgb => hg.block g (World.ownsRow.lt h g hgb).2 (fun e' => by
    obtain ⟨o, ho, hc⟩ := hrow g e'.symm
    obtain ⟨cur, fr, hcc⟩ := ownsRow_block h g hgb
    rw [hcc] at ho; cases ho; cases hc)

theorem own_base {W : World} {base base' : Nat} {e : TypeId} {size k : Nat} {v : Value} {xs : List Value} (h : W.ownsRow base e size v k xs) (hb : base' ≤ base) : W.ownsRow base' e size v k xs := by
  obtain ⟨h1, h2⟩ := h
  refine ⟨h1, ?_⟩
  rcases h2 with h2 | ⟨g, cap, cur, rfl, hg, r⟩
  · exact .inl h2
  · exact .inr ⟨g, cap, cur, rfl, Nat.le_trans hb hg, r⟩

/-- The slices vs are these texts, each a row of the call's own. -/
def Pieces (N : Nat) (W : World) (vs : List Value) (bs : List (List UInt8)) : Prop := vs.length = bs.length ∧ ∀ (k : Nat) (v : Value) (b : List UInt8), vs[k]? = some v → bs[k]? = some b → W.ownsRow N 5 1 v b.length (b.map bv)
theorem Pieces.to {N : Nat} {W W' : World} {vs : List Value} {bs : List (List UInt8)} (h : Pieces N W vs bs) (hk : ∀ v b, W.ownsRow N 5 1 v b.length (b.map bv) → W'.ownsRow N 5 1 v (b : List UInt8).length (b.map bv)) : Pieces N W' vs bs :=
  ⟨h.1, fun k v b hv hb => hk v b (h.2 k v b hv hb)⟩
theorem Pieces.snoc {N : Nat} {W : World} {vs : List Value} {bs : List (List UInt8)} (h : Pieces N W vs bs) {v : Value} {b : List UInt8} (hb : W.ownsRow N 5 1 v b.length (b.map bv)) : Pieces N W (vs ++ [v]) (bs ++ [b]) :=
  ⟨by simp [h.1], fun k v' b' hv hb' => by
    by_cases hk : k < vs.length
    · rw [List.getElem?_append_left hk] at hv
      rw [List.getElem?_append_left (by rw [← h.1]; exact hk)] at hb'
      exact h.2 k v' b' hv hb'
    · have hkl : k = vs.length := by have := (List.getElem?_eq_some_iff.1 hv).1; simp at this; omega
      subst hkl
      rw [List.getElem?_append_right (Nat.le_refl _)] at hv
      rw [List.getElem?_append_right (by rw [h.1]; exact Nat.le_refl _), h.1] at hb'
      simp at hv hb'
      rw [← hv, ← hb']; exact hb⟩

/-- A piece's octets. -/
def piece (l : List UInt8) {L : Nat} (p : CP L) : List UInt8 := (l.drop p.1.1).take p.1.2
theorem piece_length {l : List UInt8} {L : Nat} (hL : l.length = L) (p : CP L) : (piece l p).length = p.1.2 := by
  have := p.2
  unfold piece
  rw [List.length_take, List.length_drop]
  omega
theorem piece_bsl {W : World} {hi b off L : Nat} {l : List UInt8} (hL : l.length = L) (h : L = 0 ∨ (b < hi ∧ Octs W b off l)) (p : CP L) : BSl 0 hi W (.slice (some ⟨b, off + p.1.1, none⟩) p.1.2 p.1.2) (piece l p) := by
  refine ⟨_, _, by rw [piece_length hL], by rw [piece_length hL]; exact Nat.le_refl _, ?_⟩
  rcases h with h0 | ⟨h1, h2⟩
  · left
    apply List.eq_nil_of_length_eq_zero
    rw [piece_length hL]
    have := p.2
    omega
  · refine .inr ⟨b, _, rfl, Nat.zero_le _, h1, fun k x hx => ?_⟩
    rw [Nat.add_assoc]
    refine h2 _ x ?_
    unfold piece at hx
    have hk : k < p.1.2 := by
      have := (List.getElem?_eq_some_iff.1 hx).1
      rw [List.length_take] at this
      omega
    rw [List.getElem?_take_of_lt hk, List.getElem?_drop] at hx
    exact hx

end Go.Proofs.Ytneilnfjnbecbaa
