/-
  Calls of a disk among the arguments.
-/
import Derived.Test.YtcgiidpngkhhdaaDskOp
import Derived.Test.YtcgiidpngkhhdaaBytesOpen
import Derived.Test.YtcgiidpngkhhdaaRslOpen
import Derived.ChangeMaps5
namespace Go.Proofs.Ytcgiidpngkhhdaa
open Go.ChangeShapes Go.WideShapes Go.ChangeAt Go.RowKit Go.Deep

theorem cellsInt15 : Try.prog.cellsOf 3 = 1 := by kernel_rfl
theorem cellsOct15 : Try.prog.cellsOf 26 = 1 := by kernel_rfl
theorem cellsOp15 : Try.prog.cellsOf 28 = 3 := by kernel_rfl
theorem trod_octs {H : Type} {enc : TypeId × Value → H} {W : World} {base : Nat} {spare : Nat → Bool} {held : Bool} {fuel : Nat} {v : Value} {x : DataW H × List MemPlace}
    (hf : DataW.trod enc Try.prog W base spare held fuel 26 [v] = some x) : ∃ zs : List UInt8, BSl 0 W.heap.size W v zs := by
  rcases open_slice1 Try.underlying26 Try.cells8 hf with h0 | ⟨ad, len, cap, m, n, V, D, Pl, hcs, hb, hl, hm, hmm, hx, hi⟩
  · obtain ⟨hcs, _⟩ := h0
    cases hcs
    exact ⟨[], BSl.nil _ _ _⟩
  · cases hcs
    have hlm : len ≤ m := by rw [hmm]; split <;> omega
    have key : ∀ i, i < len → ∃ x : UInt8, W.cell? (ad.add i) = some (bv x) := fun i hil => by
      obtain ⟨hc, ht⟩ := hi i (by omega)
      obtain ⟨x, e, _, w0⟩ := DataW.trod_int Try.underlying5 ht
      simp at e
      obtain ⟨b, rfl⟩ := wf_u8 w0
      exact ⟨b, by rw [hc, e]⟩
    obtain ⟨zs, hz, hq⟩ := list_of key
    refine ⟨zs, some ad, cap, by rw [hz], by rw [hz]; exact hl, ?_⟩
    by_cases hlen : len = 0
    · exact .inl (List.length_eq_zero_iff.1 (by omega))
    · obtain ⟨x, h0⟩ := key 0 (by omega)
      obtain ⟨b, off, sp⟩ := ad
      have hsp : sp = none := by
        cases sp with
        | none => rfl
        | some _ => simp [Addr.add, World.cell?] at h0; split at h0 <;> simp at h0
      subst hsp
      refine .inr ⟨b, off, rfl, Nat.zero_le _, World.block_lt_of_cell? W _ h0, fun k x hx => ?_⟩
      have := hq k x hx
      rwa [add_plain] at this
set_option maxRecDepth 100000 in
theorem trod_dop {H : Type} {enc : TypeId × Value → H} {w : World} {base : Nat} {spare : Nat → Bool} {held : Bool} {fuel : Nat} {cs : List Value} {x : DataW H × List MemPlace}
    (h : DataW.trod enc Try.prog w base spare held fuel 28 cs = some x) :
    ∃ y : Dop, cs = opc y ∧ BSl 0 w.heap.size w y.da y.ld := by
  obtain ⟨xs, n, _, hx, hcl, hlen, hg⟩ := DataW.trod_struct Try.underlying28 h
  rw [cellsOp15] at hcl
  match cs, hcl with
  | [c0, c1, c2], _ =>
  match xs, hlen with
  | [y0, y1, y2], _ =>
  have h0 := hg 0 ⟨ "Kind", 3, 0, false, "", "", 0⟩ rfl
  have h1 := hg 1 ⟨ "N", 3, 1, false, "", "", 8⟩ rfl
  have h2 := hg 2 ⟨ "Data", 26, 2, false, "", "", 16⟩ rfl
  dsimp only at h0 h1 h2
  rw [cellsInt15] at h0 h1
  rw [cellsOct15] at h2
  simp only [List.drop_succ_cons, List.drop_zero, List.take_succ_cons, List.take_zero, List.getElem?_cons_zero, List.getElem?_cons_succ] at h0 h1 h2
  obtain ⟨z0, e0, _, _⟩ := DataW.trod_int Try.underlying3 h0
  obtain ⟨z1, e1, _, _⟩ := DataW.trod_int Try.underlying3 h1
  obtain ⟨zs, hz⟩ := trod_octs h2
  simp at e0 e1
  subst e0 e1
  exact ⟨⟨z0, z1, c2, zs⟩, rfl, hz⟩
set_option maxRecDepth 100000 in
/-- A row of calls. -/
theorem open_dops {H : Type} {enc : TypeId × Value → H} {W : World} {base : Nat} {spare : Nat → Bool} {held : Bool} {a : Option Addr} {len cap : Nat} {d : DataW H} {p : List MemPlace}
    (h : DataW.Trod enc Try.prog W base spare held 22 (.slice a len cap) d p) (hw : ∀ m ∈ d.weights Try.prog 22, m ≤ 140737488351232) :
    ∃ l : List Dop, RSl opc 0 W.heap.size W (.slice a len cap) l ∧ ∀ x ∈ l, BSl 0 W.heap.size W x.da x.ld :=
  open_rsl (n := 3) (P := fun x : Dop => BSl 0 W.heap.size W x.da x.ld) opc_len (by omega) Try.underlying22 cellsOp15 (fun _ _ _ hq _ => by obtain ⟨t, e, hk⟩ := trod_dop hq; exact ⟨t, hk, e⟩) h hw
end Go.Proofs.Ytcgiidpngkhhdaa
