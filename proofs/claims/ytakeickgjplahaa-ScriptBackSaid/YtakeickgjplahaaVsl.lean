/-
  Slices of values of one cell each that are read.
-/
import Derived.Test.YtakeickgjplahaaBytes
import Derived.Test.YtakeickgjplahaaSpares
namespace Go.Proofs.Ytakeickgjplahaa
open Go.RowKit Go.Shelf

/-- An int, a string, as values. -/
abbrev iv (x : Int) : Value := .int .i64 x
abbrev tv (s : ByteArray) : Value := .string s
/-- The row at b, off holds these values. -/
def Row (W : World) (b off : Nat) (vs : List Value) : Prop := ∀ k v, vs[k]? = some v → W.cell? ⟨b, off + k, none⟩ = some v
theorem Row.below {W W' : World} {n b off : Nat} {vs : List Value} (h : Row W b off vs) (hb : Below n W W') (hlt : b < n) : Row W' b off vs := fun k x hx => (hb.cell (p := ⟨b, _, none⟩) hlt).trans (h k x hx)
theorem Row.kept {W W' : World} {row : Option Nat} {b off : Nat} {vs : List Value} (h : Row W b off vs) (hb : b < W.heap.size) (hg : W.grownBy W' row) (hne : some b ≠ row) : Row W' b off vs := fun k x hx =>
  (World.cell?_of_block (a := ⟨b, _, none⟩) (hg.block b hb hne)).trans (h k x hx)
theorem Row.own {W W' : World} {row : Option Nat} {b off : Nat} {vs : List Value} (h : Row W b off vs) (hb : b < W.heap.size) (hg : W.grownBy W' row) (hr : ∀ r, row = some r → ∃ o : Obj, W.heap[r]? = some o ∧ o.isCells = false) : Row W' b off vs := fun k x hx => by
  have hc := h k x hx
  refine (World.cell?_of_block (a := ⟨b, _, none⟩) (hg.block b hb (fun e => ?_))).trans hc
  obtain ⟨o, ho, hoc⟩ := hr b e.symm
  simp only [World.cell?, ho] at hc
  cases o <;> first | (cases hoc; done) | (simp at hc)
theorem Row.part {W : World} {b off : Nat} {vs : List Value} (h : Row W b off vs) (i n : Nat) : Row W b (off + i) ((vs.drop i).take n) := fun k x hx => by
  rw [Nat.add_assoc]
  refine h _ x ?_
  have hk : k < n := by
    have := (List.getElem?_eq_some_iff.1 hx).1
    rw [List.length_take] at this
    omega
  rwa [List.getElem?_take_of_lt hk, List.getElem?_drop] at hx
/-- sv is a slice of these values, in a block from lo on, below hi; or there are none. -/
def VSl (lo hi : Nat) (W : World) (sv : Value) (vs : List Value) : Prop :=
  ∃ a cap, sv = .slice a vs.length cap ∧ vs.length ≤ cap ∧ (vs = [] ∨ ∃ b off, a = some ⟨b, off, none⟩ ∧ lo ≤ b ∧ b < hi ∧ Row W b off vs)
theorem VSl.mono {lo hi lo' hi' : Nat} {W : World} {sv : Value} {vs : List Value} (h : VSl lo hi W sv vs) (h1 : lo' ≤ lo) (h2 : hi ≤ hi') : VSl lo' hi' W sv vs := by
  obtain ⟨a, cap, e, hc, h0 | ⟨b, off, ha, hl, hh, ho⟩⟩ := h
  · exact ⟨a, cap, e, hc, .inl h0⟩
  · exact ⟨a, cap, e, hc, .inr ⟨b, off, ha, by omega, by omega, ho⟩⟩
theorem VSl.below {lo hi m : Nat} {W W' : World} {sv : Value} {vs : List Value} (h : VSl lo hi W sv vs) (hb : Below m W W') (hm : hi ≤ m) : VSl lo hi W' sv vs := by
  obtain ⟨a, cap, e, hc, h0 | ⟨b, off, ha, hl, hh, ho⟩⟩ := h
  · exact ⟨a, cap, e, hc, .inl h0⟩
  · exact ⟨a, cap, e, hc, .inr ⟨b, off, ha, hl, hh, ho.below hb (by omega)⟩⟩
theorem VSl.nil (lo hi : Nat) (W : World) : VSl lo hi W (.slice none 0 0) [] := ⟨none, 0, rfl, Nat.le_refl _, .inl rfl⟩
/-- What a row of the call's own is as a slice. -/
theorem VSl.of_own {W : World} {lo : Nat} {e : TypeId} {v : Value} {vs : List Value} (h : W.ownsRow lo e 1 v vs.length vs) : VSl lo W.heap.size W v vs := by
  rcases Nat.eq_zero_or_pos vs.length with h0 | h0
  · have hl : vs = [] := List.eq_nil_of_length_eq_zero h0
    subst hl
    rcases h.2 with ⟨rfl, _⟩ | ⟨g, cap, cur, rfl, _, _, hnc, _⟩
    · exact VSl.nil _ _ _
    · exact ⟨_, cap, rfl, hnc, .inl rfl⟩
  · obtain ⟨hl, ⟨_, h1⟩ | ⟨g, cap, cur, rfl, hg, hb, hnc, hcm, hsz, htake⟩⟩ := h
    · omega
    · refine ⟨_, cap, rfl, hnc, .inr ⟨g, 0, rfl, hg, (Array.getElem?_eq_some_iff.1 hb).1, fun k x hk => ?_⟩⟩
      have hkl : k < vs.length := (List.getElem?_eq_some_iff.1 hk).1
      have e' : cur[k]? = (cur.toList.take (vs.length * 1))[k]? := by
        rw [List.getElem?_take_of_lt (by omega)]
        simp
      simp only [World.cell?, hb, Nat.zero_add]
      rw [show (if (none : Option Nat).isSome = true then (none : Option Value) else cur[k]?) = cur[k]? from rfl, e', htake]
      exact hk
theorem VSl.slice {lo hi : Nat} {W : World} {sv : Value} {vs : List Value} (h : VSl lo hi W sv vs) : ∃ a c, sv = .slice a vs.length c := by
  obtain ⟨a, c, e, _⟩ := h
  exact ⟨a, c, e⟩
/-- A row of two and more is no box; a row from a base on is none below it. -/
theorem own_ne {W : World} {base : Nat} {e t : TypeId} {v x : Value} {n : Nat} {xs : List Value} {B : Nat} (h : W.ownsRow base e 1 v n xs) (hb : Boxed W B t x) (hne : B < base ∨ 2 ≤ n) : some B ≠ v.ownBlock := fun e' => by
  rcases h.2 with ⟨rfl, _⟩ | ⟨g, cap, cur, rfl, hg, hc, hnc, _, hsz, _⟩
  · simp [Value.ownBlock] at e'
  · obtain rfl : B = g := by simpa [Value.ownBlock] using e'
    rw [show W.heap[B]? = _ from hb] at hc
    cases hc
    simp at hsz
    omega

end Go.Proofs.Ytakeickgjplahaa
