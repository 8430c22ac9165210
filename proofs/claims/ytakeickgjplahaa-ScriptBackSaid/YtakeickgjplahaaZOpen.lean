/-
  Octets within something that is handed in.
-/
import Derived.Test.YtakeickgjplahaaSlcR
import Derived.Test.YtakeickgjplahaaBytesOpen
import Derived.Test.YtakeickgjplahaaRslOpen
import Derived.Test.YtakeickgjplahaaCellsOne
import Derived.ChangeMaps5
namespace Go.Proofs.Ytakeickgjplahaa
open Go.ChangeShapes Go.WideShapes Go.ChangeAt Go.RowKit Go.Deep

theorem cellsOctN : Try.prog.cellsOf 23 = 1 := by kernel_rfl
/-- Octets within something, with how many they are. -/
theorem trod_z {H : Type} {enc : TypeId × Value → H} {w : World} {base : Nat} {spare : Nat → Bool} {held : Bool} {fuel : Nat} {v : Value} {x : DataW H × List MemPlace}
    (h : DataW.trod enc Try.prog w base spare held fuel 23 [v] = some x) (hw : ∀ m ∈ x.1.weights Try.prog 23, m ≤ 140737488351232) :
    ∃ z : Zs, BSl 0 w.heap.size w (.slice z.a z.l.length z.c) z.l ∧ z.l.length ≤ 140737488351232 ∧ v = .slice z.a z.l.length z.c := by
  obtain ⟨a', l', c', e'⟩ := Joins.slice_form Try.underlying23 h
  have hv : v = .slice a' l' c' := by simpa using e'
  subst hv
  obtain ⟨d, p⟩ := x
  obtain ⟨zs, hl', hz, hq⟩ := open_bytes (a := a') (len := l') (cap := c') (d := d) (p := p) ⟨fuel, by simpa [Value.cells] using h⟩
  subst hl'
  refine ⟨⟨a', c', zs⟩, hz, ?_, rfl⟩
  rcases hq with rfl | ⟨el, sp, e2, hel⟩
  · simp
  · have := hw ((el.length + sp.length) * Try.prog.bytesOf 5) (by rw [e2]; simp [DataW.weights, Try.underlying23])
    rw [Try.bytes8] at this
    dsimp only
    omega
theorem trod_zs {H : Type} {enc : TypeId × Value → H} {w : World} {base : Nat} {spare : Nat → Bool} {held : Bool} {fuel : Nat} {cs : List Value} {x : DataW H × List MemPlace}
    (h : DataW.trod enc Try.prog w base spare held fuel 23 cs = some x) (hw : ∀ m ∈ x.1.weights Try.prog 23, m ≤ 140737488351232) :
    ∃ z : Zs, (BSl 0 w.heap.size w z.v z.l ∧ z.l.length ≤ 140737488351232) ∧ cs = zsc z := by
  obtain ⟨a', l', c', e'⟩ := Joins.slice_form Try.underlying23 h
  subst e'
  obtain ⟨z, h1, h2, h3⟩ := trod_z h hw
  exact ⟨z, ⟨h1, h2⟩, by rw [h3]; rfl⟩
-- HERE
end Go.Proofs.Ytakeickgjplahaa
