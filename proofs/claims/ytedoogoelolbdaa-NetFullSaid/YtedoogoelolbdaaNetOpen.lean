/-
  Mail, slices of octets, numbers among the arguments.
-/
import Derived.Test.YtedoogoelolbdaaNetM
import Derived.Test.YtedoogoelolbdaaBytesOpen
import Derived.Test.YtedoogoelolbdaaRslOpen
import Derived.Test.YtedoogoelolbdaaCellsOne
import Derived.ChangeMaps5
namespace Go.Proofs.Ytedoogoelolbdaa
open Go.ChangeShapes Go.WideShapes Go.ChangeAt Go.RowKit Go.Deep

theorem cellsOctN : Try.prog.cellsOf 25 = 1 := by kernel_rfl
theorem cellsMl : Try.prog.cellsOf 27 = 2 := by kernel_rfl
/-- Octets within something, with how many they are. -/
theorem trod_z {H : Type} {enc : TypeId × Value → H} {w : World} {base : Nat} {spare : Nat → Bool} {held : Bool} {fuel : Nat} {v : Value} {x : DataW H × List MemPlace}
    (h : DataW.trod enc Try.prog w base spare held fuel 25 [v] = some x) (hw : ∀ m ∈ x.1.weights Try.prog 25, m ≤ 140737488351232) :
    ∃ z : Zs, BSl 0 w.heap.size w (.slice z.a z.l.length z.c) z.l ∧ z.l.length ≤ 140737488351232 ∧ v = .slice z.a z.l.length z.c := by
  obtain ⟨a', l', c', e'⟩ := Joins.slice_form Try.underlying25 h
  have hv : v = .slice a' l' c' := by simpa using e'
  subst hv
  obtain ⟨d, p⟩ := x
  obtain ⟨zs, hl', hz, hq⟩ := open_bytes (a := a') (len := l') (cap := c') (d := d) (p := p) ⟨fuel, by simpa [Value.cells] using h⟩
  subst hl'
  refine ⟨⟨a', c', zs⟩, hz, ?_, rfl⟩
  rcases hq with rfl | ⟨el, sp, e2, hel⟩
  · simp
  · have := hw ((el.length + sp.length) * Try.prog.bytesOf 5) (by rw [e2]; simp [DataW.weights, Try.underlying25])
    rw [Try.bytes8] at this
    dsimp only
    omega
theorem trod_zs {H : Type} {enc : TypeId × Value → H} {w : World} {base : Nat} {spare : Nat → Bool} {held : Bool} {fuel : Nat} {cs : List Value} {x : DataW H × List MemPlace}
    (h : DataW.trod enc Try.prog w base spare held fuel 25 cs = some x) (hw : ∀ m ∈ x.1.weights Try.prog 25, m ≤ 140737488351232) :
    ∃ z : Zs, (BSl 0 w.heap.size w z.v z.l ∧ z.l.length ≤ 140737488351232) ∧ cs = zsc z := by
  obtain ⟨a', l', c', e'⟩ := Joins.slice_form Try.underlying25 h
  subst e'
  obtain ⟨z, h1, h2, h3⟩ := trod_z h hw
  exact ⟨z, ⟨h1, h2⟩, by rw [h3]; rfl⟩
/-- A row of slices of octets. -/
theorem open_zsn {H : Type} {enc : TypeId × Value → H} {W : World} {base : Nat} {spare : Nat → Bool} {held : Bool} {a : Option Addr} {len cap : Nat} {d : DataW H} {p : List MemPlace}
    (h : DataW.Trod enc Try.prog W base spare held 23 (.slice a len cap) d p) (hw : ∀ m ∈ d.weights Try.prog 23, m ≤ 140737488351232) :
    ∃ l : List Zs, RSl zsc 0 W.heap.size W (.slice a len cap) l ∧ Holds W.heap.size W l ∧ BZ l := by
  obtain ⟨l, h1, h2⟩ := open_rsl (n := 1) (P := fun z : Zs => BSl 0 W.heap.size W z.v z.l ∧ z.l.length ≤ 140737488351232) zsc_len (by omega) Try.underlying23 cellsOctN (fun _ _ _ hq hw' => trod_zs hq hw') h hw
  exact ⟨l, h1, fun z hz => (h2 z hz).1, fun z hz => (h2 z hz).2⟩
set_option maxRecDepth 100000 in
theorem trod_ml {H : Type} {enc : TypeId × Value → H} {w : World} {base : Nat} {spare : Nat → Bool} {held : Bool} {fuel : Nat} {cs : List Value} {x : DataW H × List MemPlace}
    (h : DataW.trod enc Try.prog w base spare held fuel 27 cs = some x) (hw : ∀ m ∈ x.1.weights Try.prog 27, m ≤ 140737488351232) :
    ∃ y : Ml, (BSl 0 w.heap.size w (.slice y.a y.l.length y.c) y.l ∧ y.l.length ≤ 140737488351232) ∧ cs = mlc y := by
  obtain ⟨xs, n, _, hx, hcl, hlen, hg⟩ := DataW.trod_struct Try.underlying27 h
  rw [cellsMl] at hcl
  match cs, hcl with
  | [c0, c1], _ =>
  match xs, hlen with
  | [y0, y1], _ =>
  have h0 := hg 0 ⟨ "To", 3, 0, false, "", "", 0⟩ rfl
  have h1 := hg 1 ⟨ "Data", 25, 1, false, "", "", 8⟩ rfl
  dsimp only at h0 h1
  rw [Try.cellsInt] at h0
  rw [cellsOctN] at h1
  simp only [List.drop_succ_cons, List.drop_zero, List.take_succ_cons, List.take_zero, List.getElem?_cons_zero, List.getElem?_cons_succ] at h0 h1
  obtain ⟨z0, e0, _, _⟩ := DataW.trod_int Try.underlying3 h0
  simp at e0
  subst e0
  obtain ⟨z, g1, g2, rfl⟩ := trod_z h1 fun m hm => hw m (by rw [hx]; simp [DataW.weights, DataW.weightsEach, Try.underlying27, hm])
  exact ⟨⟨z0, z.a, z.c, z.l⟩, ⟨g1, g2⟩, rfl⟩
/-- A row of mail. -/
theorem open_mls {H : Type} {enc : TypeId × Value → H} {W : World} {base : Nat} {spare : Nat → Bool} {held : Bool} {a : Option Addr} {len cap : Nat} {d : DataW H} {p : List MemPlace}
    (h : DataW.Trod enc Try.prog W base spare held 22 (.slice a len cap) d p) (hw : ∀ m ∈ d.weights Try.prog 22, m ≤ 140737488351232) :
    ∃ l : List Ml, RSl mlc 0 W.heap.size W (.slice a len cap) l ∧ Holds W.heap.size W (zsM l) ∧ BP (l.map plM) := by
  obtain ⟨l, h1, h2⟩ := open_rsl (n := 2) (P := fun y : Ml => BSl 0 W.heap.size W (.slice y.a y.l.length y.c) y.l ∧ y.l.length ≤ 140737488351232) mlc_len (by omega) Try.underlying22 cellsMl (fun _ _ _ hq hw' => trod_ml hq hw') h hw
  refine ⟨l, h1, fun z hz => ?_, fun q hq => ?_⟩
  · obtain ⟨y, hy, rfl⟩ := List.mem_map.1 hz
    exact (h2 y hy).1
  · obtain ⟨y, hy, rfl⟩ := List.mem_map.1 hq
    exact (h2 y hy).2
/-- A row of numbers. -/
theorem open_intsN {H : Type} {enc : TypeId × Value → H} {W : World} {base : Nat} {spare : Nat → Bool} {held : Bool} {a : Option Addr} {len cap : Nat} {d : DataW H} {p : List MemPlace}
    (h : DataW.Trod enc Try.prog W base spare held 37 (.slice a len cap) d p) (hw : ∀ m ∈ d.weights Try.prog 37, m ≤ 140737488351232) :
    ∃ l : List Int, RSl (fun y : Int => [Value.int .i64 y]) 0 W.heap.size W (.slice a len cap) l := by
  obtain ⟨l, h1, _⟩ := open_rsl (n := 1) (P := fun _ : Int => True) (fun _ => rfl) (by omega) Try.underlying37 Try.cellsInt (fun _ _ _ hq _ => by obtain ⟨z, e, _, _⟩ := DataW.trod_int Try.underlying3 hq; exact ⟨z, trivial, e⟩) h hw
  exact ⟨l, h1⟩
end Go.Proofs.Ytedoogoelolbdaa
