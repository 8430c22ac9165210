/-
  A slice of structs among the arguments.
-/
import Derived.Test.YtakeickgjplahaaRsl
import Derived.Test.YtakeickgjplahaaOpen
import Derived.Test.YtakeickgjplahaaSized
import Derived.ChangeMaps5
import Derived.Lib.SmallJoins
import Derived.JoinedCond
import Derived.Deep.Slices
import Derived.Deep.Fields
import Derived.SizedLaws
namespace Go.Proofs.Ytakeickgjplahaa
open Go.ChangeShapes Go.WideShapes Go.ChangeAt Go.RowKit Go.Deep

theorem open_rsl {α : Type} {f : α → List Value} {n : Nat} {T E : TypeId} {P : α → Prop} (hn : ∀ x, (f x).length = n) (h0n : 0 < n) (hu : Try.prog.underlying T = some (.slice E)) (hc : Try.prog.cellsOf E = n)
    {H : Type} {enc : TypeId × Value → H} {W : World} {base : Nat} {spare : Nat → Bool} {held : Bool} {a : Option Addr} {len cap : Nat} {d : DataW H} {p : List MemPlace}
    (hopen : ∀ (fuel : Nat) (cs : List Value) (x : DataW H × List MemPlace), DataW.trod enc Try.prog W base spare held fuel E cs = some x → (∀ m ∈ x.1.weights Try.prog E, m ≤ 140737488351232) → ∃ y, P y ∧ cs = f y)
    (h : DataW.Trod enc Try.prog W base spare held T (.slice a len cap) d p) (hw : ∀ m ∈ d.weights Try.prog T, m ≤ 140737488351232) :
    ∃ l : List α, RSl f 0 W.heap.size W (.slice a len cap) l ∧ ∀ x ∈ l, P x := by
  obtain ⟨fuel, hf⟩ := h
  rcases open_slice hu hf with h0 | ⟨ad, l, c, m, q, D, Pl, hcs, hb, hl, hm, hmm, hx, hi⟩
  · obtain ⟨hcs, _⟩ := h0
    simp [Value.cells] at hcs
    obtain ⟨rfl, rfl, rfl⟩ := hcs
    exact ⟨[], RSl.nil _ _ _, fun x hx => by simp at hx⟩
  · simp [Value.cells] at hcs
    obtain ⟨rfl, rfl, rfl⟩ := hcs
    have hlm : len ≤ m := by rw [hmm]; split <;> omega
    have hd : d = .slice ((List.range len).map D) ((List.range (m - len)).map fun j => D (len + j)) := (Prod.mk.inj hx).1
    have hwe : ∀ i, i < len → ∀ k ∈ (D i).weights Try.prog E, k ≤ 140737488351232 := fun i hil k hk => by
      refine hw k ?_
      rw [hd]
      simp only [DataW.weights, hu, List.mem_cons, List.mem_append]
      exact .inr (.inl (weightsAll_mem (List.mem_map.2 ⟨i, List.mem_range.2 hil, rfl⟩) k hk))
    have key : ∀ i, i < len → ∃ y : α, P y ∧ ∀ j v, (f y)[j]? = some v → W.cell? (ad.add (i * n + j)) = some v := fun i hil => by
      obtain ⟨cs', hcc, ht⟩ := hi i (by omega)
      rw [hc] at hcc
      obtain ⟨y, hy, rfl⟩ := hopen _ _ _ ht (hwe i hil)
      obtain ⟨_, hcl, hat⟩ := World.cells?_some hcc
      refine ⟨y, hy, fun j v hv => ?_⟩
      have hj : j < n := by have := (List.getElem?_eq_some_iff.1 hv).1; rwa [hn] at this
      have := hat j hj
      rw [add_add] at this
      rw [this, hv]
    obtain ⟨l, hl', hp⟩ := list_of key
    subst hl'
    refine ⟨l, ?_, fun x hx => ?_⟩
    · refine ⟨some ad, cap, rfl, hl, hm, ?_⟩
      by_cases hl0 : l = []
      · exact .inl hl0
      · obtain ⟨y0, l', rfl⟩ := List.exists_cons_of_ne_nil hl0
        obtain ⟨v0, hv0⟩ : ∃ v0, (f y0)[0]? = some v0 := ⟨_, List.getElem?_eq_getElem (by rw [hn]; exact h0n)⟩
        have h0 := (hp 0 y0 rfl).2 0 _ hv0
        obtain ⟨b, off, sp⟩ := ad
        have hsp : sp = none := by
          cases sp with
          | none => rfl
          | some _ => simp [Addr.add, World.cell?] at h0; split at h0 <;> simp at h0
        subst hsp
        rw [Nat.zero_mul, Nat.zero_add, add_plain] at h0
        refine .inr ⟨b, off, rfl, Nat.zero_le _, World.block_lt_of_cell? W _ h0, fun k v hk => ?_⟩
        have hkl : k < (y0 :: l').length * n := by have := (List.getElem?_eq_some_iff.1 hk).1; rwa [flat_len hn] at this
        have hq : k / n < (y0 :: l').length := Nat.div_lt_of_lt_mul (by rw [Nat.mul_comm]; exact hkl)
        have hy := List.getElem?_eq_getElem hq
        have hmod : k % n < n := Nat.mod_lt _ h0n
        have hcell := flat_cell hn hy hmod
        rw [show k / n * n + k % n = k by rw [Nat.mul_comm]; exact Nat.div_add_mod k n, hk] at hcell
        have := (hp (k / n) _ hy).2 (k % n) v hcell.symm
        rw [add_plain, show k / n * n + k % n = k by rw [Nat.mul_comm]; exact Nat.div_add_mod k n] at this
        exact this
    · obtain ⟨i, hi'⟩ := List.mem_iff_getElem?.1 hx
      exact (hp i x hi').1
theorem open_rslU {α : Type} {f : α → List Value} {n : Nat} {T E : TypeId} {P : α → Prop} (hn : ∀ x, (f x).length = n) (h0n : 0 < n) (hu : Try.prog.underlying T = some (.slice E)) (hc : Try.prog.cellsOf E = n)
    {H : Type} {enc : TypeId × Value → H} {W : World} {base : Nat} {spare : Nat → Bool} {held : Bool} {a : Option Addr} {len cap : Nat} {d : DataW H} {p : List MemPlace}
    (hopen : ∀ (fuel : Nat) (cs : List Value) (x : DataW H × List MemPlace), DataW.trod enc Try.prog W base spare held fuel E cs = some x → ∃ y, P y ∧ cs = f y)
    (h : DataW.Trod enc Try.prog W base spare held T (.slice a len cap) d p):
    ∃ l : List α, RSl f 0 W.heap.size W (.slice a len cap) l ∧ (∀ x ∈ l, P x) ∧ ∃ el sp, (d = .nil ∧ el = [] ∨ d = .slice el sp) ∧ l.length ≤ el.length := by
  obtain ⟨fuel, hf⟩ := h
  rcases open_slice hu hf with h0 | ⟨ad, l, c, m, q, D, Pl, hcs, hb, hl, hm, hmm, hx, hi⟩
  · obtain ⟨hcs, _⟩ := h0
    simp [Value.cells] at hcs
    obtain ⟨rfl, rfl, rfl⟩ := hcs
    exact ⟨[], RSl.nil _ _ _, (fun x hx => by simp at hx), [], [], .inl ⟨(Prod.mk.inj ‹_›).1, rfl⟩, Nat.le_refl _⟩
  · simp [Value.cells] at hcs
    obtain ⟨rfl, rfl, rfl⟩ := hcs
    have hlm : len ≤ m := by rw [hmm]; split <;> omega
    have hd : d = .slice ((List.range len).map D) ((List.range (m - len)).map fun j => D (len + j)) := (Prod.mk.inj hx).1
    have key : ∀ i, i < len → ∃ y : α, P y ∧ ∀ j v, (f y)[j]? = some v → W.cell? (ad.add (i * n + j)) = some v := fun i hil => by
      obtain ⟨cs', hcc, ht⟩ := hi i (by omega)
      rw [hc] at hcc
      obtain ⟨y, hy, rfl⟩ := hopen _ _ _ ht
      obtain ⟨_, hcl, hat⟩ := World.cells?_some hcc
      refine ⟨y, hy, fun j v hv => ?_⟩
      have hj : j < n := by have := (List.getElem?_eq_some_iff.1 hv).1; rwa [hn] at this
      have := hat j hj
      rw [add_add] at this
      rw [this, hv]
    obtain ⟨l, hl', hp⟩ := list_of key
    subst hl'
    refine ⟨l, ?_, fun x hx => ?_, _, _, .inr hd, by simp⟩
    · refine ⟨some ad, cap, rfl, hl, hm, ?_⟩
      by_cases hl0 : l = []
      · exact .inl hl0
      · obtain ⟨y0, l', rfl⟩ := List.exists_cons_of_ne_nil hl0
        obtain ⟨v0, hv0⟩ : ∃ v0, (f y0)[0]? = some v0 := ⟨_, List.getElem?_eq_getElem (by rw [hn]; exact h0n)⟩
        have h0 := (hp 0 y0 rfl).2 0 _ hv0
        obtain ⟨b, off, sp⟩ := ad
        have hsp : sp = none := by
          cases sp with
          | none => rfl
          | some _ => simp [Addr.add, World.cell?] at h0; split at h0 <;> simp at h0
        subst hsp
        rw [Nat.zero_mul, Nat.zero_add, add_plain] at h0
        refine .inr ⟨b, off, rfl, Nat.zero_le _, World.block_lt_of_cell? W _ h0, fun k v hk => ?_⟩
        have hkl : k < (y0 :: l').length * n := by have := (List.getElem?_eq_some_iff.1 hk).1; rwa [flat_len hn] at this
        have hq : k / n < (y0 :: l').length := Nat.div_lt_of_lt_mul (by rw [Nat.mul_comm]; exact hkl)
        have hy := List.getElem?_eq_getElem hq
        have hmod : k % n < n := Nat.mod_lt _ h0n
        have hcell := flat_cell hn hy hmod
        rw [show k / n * n + k % n = k by rw [Nat.mul_comm]; exact Nat.div_add_mod k n, hk] at hcell
        have := (hp (k / n) _ hy).2 (k % n) v hcell.symm
        rw [add_plain, show k / n * n + k % n = k by rw [Nat.mul_comm]; exact Nat.div_add_mod k n] at this
        exact this
    · obtain ⟨i, hi'⟩ := List.mem_iff_getElem?.1 hx
      exact (hp i x hi').1
set_option maxRecDepth 100000 in
/-- A slice of structs, wherever it stands. -/
theorem open_cells {α : Type} {f : α → List Value} {n : Nat} {T E : TypeId} {P : α → Prop} (hn : ∀ x, (f x).length = n) (h0n : 0 < n) (hu : Try.prog.underlying T = some (.slice E)) (hc : Try.prog.cellsOf E = n)
    {H : Type} {enc : TypeId × Value → H} {W : World} {base : Nat} {spare : Nat → Bool} {held : Bool} {fuel : Nat} {cs : List Value} {x : DataW H × List MemPlace}
    (hopen : ∀ (fuel : Nat) (cs : List Value) (x : DataW H × List MemPlace), DataW.trod enc Try.prog W base spare held fuel E cs = some x → (∀ m ∈ x.1.weights Try.prog E, m ≤ 140737488351232) → ∃ y, P y ∧ cs = f y)
    (h : DataW.trod enc Try.prog W base spare held fuel T cs = some x) (hw : ∀ m ∈ x.1.weights Try.prog T, m ≤ 140737488351232) :
    ∃ (sv : Value) (l : List α), cs = [sv] ∧ RSl f 0 W.heap.size W sv l ∧ (∀ x ∈ l, P x) ∧ l.length * Try.prog.bytesOf E ≤ 140737488351232 := by
  rcases open_slice hu h with ⟨rfl, rfl⟩ | ⟨ad, len, c, m, q, D, Pl, rfl, _, _, _, hmm, hx, _⟩
  · exact ⟨_, [], rfl, RSl.nil _ _ _, fun x hx => by simp at hx, by simp⟩
  · obtain ⟨l, hl, hp⟩ := open_rsl (d := x.1) (p := x.2) hn h0n hu hc hopen ⟨fuel, h⟩ hw
    have hlen : len = l.length := by
      have := hl.slice
      obtain ⟨a', c', e'⟩ := this
      cases e'
      rfl
    refine ⟨_, l, rfl, hl, hp, ?_⟩
    have := hw ((len + (m - len)) * Try.prog.bytesOf E) (by
      rw [hx]
      simp [DataW.weights, hu])
    rw [← hlen]
    exact Nat.le_trans (Nat.mul_le_mul_right _ (Nat.le_add_right _ _)) this
end Go.Proofs.Ytakeickgjplahaa
