/-
  A slice of fields among the arguments.
-/
import Derived.Test.YtjhfchjffiliaaaBytesOpen
import Derived.Test.YtjhfchjffiliaaaWideOpen
import Derived.Test.YtjhfchjffiliaaaFieldL
import Derived.Test.YtjhfchjffiliaaaSized
import Derived.ChangeMaps5
import Derived.Lib.SmallJoins
import Derived.JoinedCond
import Derived.Deep.Slices
import Derived.Deep.Fields
namespace Go.Proofs.Ytjhfchjffiliaaa
open Go.ChangeShapes Go.WideShapes Go.ChangeAt Go.RowKit Go.Deep

theorem Try.cellsField : Try.prog.cellsOf 42 = 7 := by kernel_rfl
theorem Try.cellsInt : Try.prog.cellsOf 3 = 1 := by kernel_rfl
theorem Try.cellsStr : Try.prog.cellsOf 9 = 1 := by kernel_rfl
set_option maxRecDepth 100000 in
theorem open_field {H : Type} {enc : TypeId × Value → H} {w : World} {base : Nat} {spare : Nat → Bool} {held : Bool} {fuel : Nat} {cs : List Value} {x : DataW H × List MemPlace}
    (h : DataW.trod enc Try.prog w base spare held fuel 42 cs = some x) :
    ∃ f : Fld, cs = fcells f ∧ -9223372036854775808 ≤ f.k ∧ f.k ≤ 9223372036854775807 ∧ -9223372036854775808 ≤ f.n ∧ f.n ≤ 9223372036854775807 ∧ Ok4 f.a0 f.a1 f.a2 f.a3 ∧ f.t.data.toList.length ∈ x.1.weights Try.prog 42 := by
  obtain ⟨xs, n, _, hx, hcl, hlen, hg⟩ := DataW.trod_struct Try.underlying42 h
  rw [Try.cellsField] at hcl
  match cs, hcl with
  | [c0, c1, c2, c3, c4, c5, c6], _ =>
  match xs, hlen with
  | [y0, y1, y2, y3], _ =>
  have h0 := hg 0 ⟨ "Kind", 3, 0, false, "", "", 0⟩ rfl
  have h1 := hg 1 ⟨ "N", 3, 1, false, "", "", 8⟩ rfl
  have h2 := hg 2 ⟨ "S", 9, 2, false, "", "", 16⟩ rfl
  have h3 := hg 3 ⟨ "A", 40, 3, false, "", "", 32⟩ rfl
  dsimp only at h0 h1 h2 h3
  rw [Try.cellsInt] at h0 h1
  rw [Try.cellsStr] at h2
  rw [Try.cells24] at h3
  simp only [List.drop_succ_cons, List.drop_zero, List.take_succ_cons, List.take_zero, List.getElem?_cons_zero, List.getElem?_cons_succ] at h0 h1 h2 h3
  obtain ⟨z0, e0, hx0, wf0⟩ := DataW.trod_int Try.underlying3 h0
  obtain ⟨z1, e1, hx1, wf1⟩ := DataW.trod_int Try.underlying3 h1
  obtain ⟨s, e2, hx2, _⟩ := DataW.trod_string Try.underlying9 h2
  obtain ⟨u0, u1, u2, u3, m, hx3, g0, g1, g2, g3⟩ := trod_array4 Try.underlying40 Try.cells22 h3
  obtain ⟨v0, k0, _, wg0⟩ := DataW.trod_int Try.underlying38 g0
  obtain ⟨v1, k1, _, wg1⟩ := DataW.trod_int Try.underlying38 g1
  obtain ⟨v2, k2, _, wg2⟩ := DataW.trod_int Try.underlying38 g2
  obtain ⟨v3, k3, _, wg3⟩ := DataW.trod_int Try.underlying38 g3
  obtain ⟨a0, rfl, q0⟩ := wf_u64 wg0
  obtain ⟨a1, rfl, q1⟩ := wf_u64 wg1
  obtain ⟨a2, rfl, q2⟩ := wf_u64 wg2
  obtain ⟨a3, rfl, q3⟩ := wf_u64 wg3
  obtain ⟨l0, l1⟩ := wf_i64 wf0
  obtain ⟨l2, l3⟩ := wf_i64 wf1
  simp at e0 e1 e2 k0 k1 k2 k3
  subst e0 e1 e2 k0 k1 k2 k3
  refine ⟨⟨z0, z1, s, a0, a1, a2, a3⟩, rfl, l0, l1, l2, l3, ⟨q0, q1, q2, q3⟩, ?_⟩
  rw [hx]
  have : y2.1 = .lit (.string s.data.toList) := by rw [hx2]
  simp [DataW.weights, DataW.weightsEach, Try.underlying42, this]

theorem open_fields {H : Type} {enc : TypeId × Value → H} {W : World} {base : Nat} {spare : Nat → Bool} {held : Bool} {a : Option Addr} {len cap : Nat} {d : DataW H} {p : List MemPlace}
    (h : DataW.Trod enc Try.prog W base spare held 22 (.slice a len cap) d p) (hw : ∀ n ∈ d.weights Try.prog 22, n ≤ 140737488351232) :
    ∃ l : List Fld, FSl W (.slice a len cap) l := by
  obtain ⟨fuel, hf⟩ := h
  rcases open_slice Try.underlying22 hf with h0 | ⟨ad, l, c, m, n, D, Pl, hcs, hb, hl, hm, hmm, hx, hi⟩
  · obtain ⟨hcs, _⟩ := h0
    simp [Value.cells] at hcs
    obtain ⟨rfl, rfl, rfl⟩ := hcs
    exact ⟨[], none, 0, rfl, by simp, fun f hf => by simp at hf, .inl rfl⟩
  · simp [Value.cells] at hcs
    obtain ⟨rfl, rfl, rfl⟩ := hcs
    have hlm : len ≤ m := by rw [hmm]; split <;> omega
    have hd : d = .slice ((List.range len).map D) ((List.range (m - len)).map fun j => D (len + j)) := (Prod.mk.inj hx).1
    have hwe : ∀ i, i < len → ∀ n ∈ (D i).weights Try.prog 42, n ≤ 140737488351232 := fun i hil n hn => by
      refine hw n ?_
      rw [hd]
      simp only [DataW.weights, Try.underlying22, List.mem_cons, List.mem_append]
      exact .inr (.inl (weightsAll_mem (List.mem_map.2 ⟨i, List.mem_range.2 hil, rfl⟩) n hn))
    have key : ∀ i, i < len → ∃ f : Fld, OkF f ∧ ∀ j v, (fcells f)[j]? = some v → W.cell? (ad.add (i * 7 + j)) = some v := fun i hil => by
      obtain ⟨cs', hc, ht⟩ := hi i (by omega)
      rw [Try.cellsField] at hc
      obtain ⟨f, rfl, l0, l1, l2, l3, q4, hwt⟩ := open_field ht
      obtain ⟨_, hcl, hat⟩ := World.cells?_some hc
      have hsz := hwe i hil _ hwt
      refine ⟨f, ⟨l0, l1, l2, l3, by rw [Array.length_toList] at hsz; exact hsz, q4⟩, fun j v hv => ?_⟩
      have hj : j < 7 := (List.getElem?_eq_some_iff.1 hv).1
      have := hat j hj
      rw [add_add] at this
      rw [this, hv]
    obtain ⟨l, hl', hp⟩ := list_of key
    subst hl'
    refine ⟨l, some ad, cap, rfl, by unfold maxLen at hm; omega, fun f hf => ?_, ?_⟩
    · obtain ⟨i, hi'⟩ := List.mem_iff_getElem?.1 hf
      exact (hp i f hi').1
    · by_cases hl0 : l = []
      · exact .inl hl0
      · obtain ⟨f0, l', rfl⟩ := List.exists_cons_of_ne_nil hl0
        have h0 := (hp 0 f0 rfl).2 0 _ rfl
        obtain ⟨b, off, sp⟩ := ad
        have hsp : sp = none := by
          cases sp with
          | none => rfl
          | some _ => simp [Addr.add, World.cell?] at h0; split at h0 <;> simp at h0
        subst hsp
        refine .inr ⟨b, off, rfl, World.block_lt_of_cell? W _ h0, fun i f hf j v hv => ?_⟩
        have := (hp i f hf).2 j v hv
        rw [add_plain, ← Nat.add_assoc] at this
        exact this
end Go.Proofs.Ytjhfchjffiliaaa
