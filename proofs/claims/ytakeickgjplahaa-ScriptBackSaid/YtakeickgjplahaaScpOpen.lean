/-
  Steps among the arguments.
-/
import Derived.Test.YtakeickgjplahaaScpM
import Derived.Test.YtakeickgjplahaaZOpen
namespace Go.Proofs.Ytakeickgjplahaa
open Go.ChangeShapes Go.WideShapes Go.ChangeAt Go.RowKit Go.Deep

theorem cellsSp : Try.prog.cellsOf 33 = 5 := by kernel_rfl
set_option maxRecDepth 100000 in
theorem trod_sp {H : Type} {enc : TypeId × Value → H} {w : World} {base : Nat} {spare : Nat → Bool} {held : Bool} {fuel : Nat} {cs : List Value} {x : DataW H × List MemPlace}
    (h : DataW.trod enc Try.prog w base spare held fuel 33 cs = some x) (hw : ∀ m ∈ x.1.weights Try.prog 33, m ≤ 140737488351232) :
    ∃ y : Sp, (BSl 0 w.heap.size w (.slice y.ad y.l.length y.cp) y.l ∧ y.l.length ≤ 140737488351232) ∧ cs = spc y := by
  obtain ⟨xs, n, _, hx, hcl, hlen, hg⟩ := DataW.trod_struct Try.underlying33 h
  rw [cellsSp] at hcl
  match cs, hcl with
  | [c0, c1, c2, c3, c4], _ =>
  match xs, hlen with
  | [y0, y1, y2, y3, y4], _ =>
  have h0 := hg 0 ⟨ "Kind", 3, 0, false, "", "", 0⟩ rfl
  have h1 := hg 1 ⟨ "A", 3, 1, false, "", "", 8⟩ rfl
  have h2 := hg 2 ⟨ "B", 3, 2, false, "", "", 16⟩ rfl
  have h3 := hg 3 ⟨ "C", 3, 3, false, "", "", 24⟩ rfl
  have h4 := hg 4 ⟨ "Data", 23, 4, false, "", "", 32⟩ rfl
  dsimp only at h0 h1 h2 h3 h4
  rw [Try.cellsInt] at h0 h1 h2 h3
  rw [cellsOctN] at h4
  simp only [List.drop_succ_cons, List.drop_zero, List.take_succ_cons, List.take_zero, List.getElem?_cons_zero, List.getElem?_cons_succ] at h0 h1 h2 h3 h4
  obtain ⟨z0, e0, _, _⟩ := DataW.trod_int Try.underlying3 h0
  obtain ⟨z1, e1, _, _⟩ := DataW.trod_int Try.underlying3 h1
  obtain ⟨z2, e2, _, _⟩ := DataW.trod_int Try.underlying3 h2
  obtain ⟨z3, e3, _, _⟩ := DataW.trod_int Try.underlying3 h3
  simp at e0 e1 e2 e3
  subst e0 e1 e2 e3
  obtain ⟨z, g1, g2, rfl⟩ := trod_z h4 fun m hm => hw m (by rw [hx]; simp [DataW.weights, DataW.weightsEach, Try.underlying33, hm])
  exact ⟨⟨z0, z1, z2, z3, z.a, z.c, z.l⟩, ⟨g1, g2⟩, rfl⟩
/-- A row of steps. -/
theorem open_sps {H : Type} {enc : TypeId × Value → H} {W : World} {base : Nat} {spare : Nat → Bool} {held : Bool} {a : Option Addr} {len cap : Nat} {d : DataW H} {p : List MemPlace}
    (h : DataW.Trod enc Try.prog W base spare held 22 (.slice a len cap) d p) (hw : ∀ m ∈ d.weights Try.prog 22, m ≤ 140737488351232) :
    ∃ l : List Sp, RSl spc 0 W.heap.size W (.slice a len cap) l ∧ Holds W.heap.size W (zsP l) := by
  obtain ⟨l, h1, h2⟩ := open_rsl (n := 5) (P := fun y : Sp => BSl 0 W.heap.size W (.slice y.ad y.l.length y.cp) y.l ∧ y.l.length ≤ 140737488351232) spc_len (by omega) Try.underlying22 cellsSp (fun _ _ _ hq hw' => trod_sp hq hw') h hw
  refine ⟨l, h1, fun z hz => ?_⟩
  obtain ⟨y, hy, rfl⟩ := List.mem_map.1 hz
  exact (h2 y hy).1
/-- One step. -/
theorem open_sp {H : Type} {enc : TypeId × Value → H} {W : World} {base : Nat} {spare : Nat → Bool} {held : Bool} {v : Value} {d : DataW H} {p : List MemPlace}
    (hv : ∃ cs : List Value, v = .agg cs.toArray ∧ cs.length = 5)
    (h : DataW.Trod enc Try.prog W base spare held 33 v d p) (hw : ∀ m ∈ d.weights Try.prog 33, m ≤ 140737488351232) :
    ∃ y : Sp, BSl 0 W.heap.size W (.slice y.ad y.l.length y.cp) y.l ∧ y.l.length ≤ 140737488351232 ∧ v = spv y := by
  obtain ⟨cs, rfl, _⟩ := hv
  obtain ⟨fuel, hf⟩ := h
  obtain ⟨y, h1, h2⟩ := trod_sp (cs := cs) (x := (d, p)) (by simpa [Value.cells] using hf) hw
  exact ⟨y, h1.1, h1.2, by rw [h2]⟩
end Go.Proofs.Ytakeickgjplahaa
