/-
  A book among the arguments: sixteen numbers; a wide number as a number.
-/
import Derived.Test.YtcgfnppknldhbaaWideOpen
import Derived.Test.YtcgfnppknldhbaaPurseRow
namespace Go.Proofs.Ytcgfnppknldhbaa
open Go.ChangeShapes Go.WideShapes Go.ChangeAt Go.RowKit

theorem open_widen {H : Type} {enc : TypeId × Value → H} {r : Reach} {w : World} {b0 base : Nat} {spare : Nat → Bool} {held : Bool} {v : Value} {d : DataW H} {p : List MemPlace}
    (hv : Value.okWide Try.prog w r b0 24 v) (h : DataW.Trod enc Try.prog w base spare held 24 v d p) : ∃ n : Nat, n < M4 ∧ v = wn n := by
  obtain ⟨a0, a1, a2, a3, hk, rfl⟩ := open_wide hv h
  exact ⟨_, val_lt hk, wn_of hk rfl⟩
theorem trod_wn {H : Type} {enc : TypeId × Value → H} {w : World} {base : Nat} {spare : Nat → Bool} {held : Bool} {fuel : Nat} {l : List Value} {x : DataW H × List MemPlace}
    (h : DataW.trod enc Try.prog w base spare held fuel 24 l = some x) : ∃ n : Nat, n < M4 ∧ l = ws (nw n) := by
  obtain ⟨xs, m, rfl, _, hl, _, _⟩ := DataW.trod_array Try.underlying24 h
  rw [Try.cells24] at hl
  obtain ⟨c0, c1, c2, c3, rfl⟩ : ∃ c0 c1 c2 c3, l = [c0, c1, c2, c3] := by
    match l, hl with
    | [c0, c1, c2, c3], _ => exact ⟨c0, c1, c2, c3, rfl⟩
  obtain ⟨y0, y1, y2, y3, m, hx, hy0, hy1, hy2, hy3⟩ := trod_array4 Try.underlying24 Try.cells22 h
  obtain ⟨x0, e0, rfl, w0⟩ := DataW.trod_int Try.underlying22 hy0
  obtain ⟨x1, e1, rfl, w1⟩ := DataW.trod_int Try.underlying22 hy1
  obtain ⟨x2, e2, rfl, w2⟩ := DataW.trod_int Try.underlying22 hy2
  obtain ⟨x3, e3, rfl, w3⟩ := DataW.trod_int Try.underlying22 hy3
  simp at e0 e1 e2 e3
  subst e0 e1 e2 e3
  obtain ⟨a0, rfl, l0⟩ := wf_u64 w0
  obtain ⟨a1, rfl, l1⟩ := wf_u64 w1
  obtain ⟨a2, rfl, l2⟩ := wf_u64 w2
  obtain ⟨a3, rfl, l3⟩ := wf_u64 w3
  have hk : Ok4 a0 a1 a2 a3 := ⟨l0, l1, l2, l3⟩
  refine ⟨_, val_lt hk, ?_⟩
  obtain ⟨q0, q1, q2, q3⟩ := nw_of hk rfl
  unfold ws
  rw [← q0, ← q1, ← q2, ← q3]
theorem rowB_of (b : Bk) : ∀ (n s : Nat) (l : List Value), l.length = 4 * n → (∀ j, j < n → (l.drop (4 * j)).take 4 = ws (nw (b (s + j)))) → l = rowB b s n
  | 0, _, l, hl, _ => List.length_eq_zero_iff.1 (by omega)
  | n + 1, s, l, hl, h => by
    have h0 := h 0 (by omega)
    rw [Nat.mul_zero, List.drop_zero, Nat.add_zero] at h0
    rw [rowB, ← h0, ← rowB_of b n (s + 1) (l.drop 4) (by rw [List.length_drop]; omega) (fun j hj => by
      have hh := h (j + 1) (by omega)
      rw [List.drop_drop, show 4 + 4 * j = 4 * (j + 1) by omega, hh, show s + 1 + j = s + (j + 1) by omega])]
    exact (List.take_append_drop 4 l).symm
theorem Try.cellsRow : Try.prog.cellsOf 25 = 8 := by kernel_rfl
theorem Try.cellsBook : Try.prog.cellsOf 27 = 64 := by kernel_rfl
theorem trod_book {H : Type} {enc : TypeId × Value → H} {w : World} {base : Nat} {spare : Nat → Bool} {held : Bool} {fuel : Nat} {l : List Value} {x : DataW H × List MemPlace}
    (h : DataW.trod enc Try.prog w base spare held fuel 27 l = some x) : ∃ b : Bk, OkK b ∧ l = bkc b := by
  obtain ⟨xs, m, rfl, _, hl, hn, hi⟩ := DataW.trod_array Try.underlying27 h
  rw [Try.cellsBook] at hl
  rw [Try.cellsRow] at hi
  have hs : ∀ j, j < 16 → ∃ n : Nat, n < M4 ∧ (l.drop (4 * j)).take 4 = ws (nw n) := fun j hj => by
    have h1 := hi (j / 2) (by omega)
    obtain ⟨x1, e1⟩ : ∃ x1, xs[j / 2]? = some x1 := ⟨_, List.getElem?_eq_getElem (by omega)⟩
    rw [e1] at h1
    obtain ⟨ys, m2, rfl, _, hl2, hn2, hi2⟩ := DataW.trod_array Try.underlying25 h1
    rw [Try.cells24] at hi2
    have h2 := hi2 (j % 2) (by omega)
    obtain ⟨x2, e2⟩ : ∃ x2, ys[j % 2]? = some x2 := ⟨_, List.getElem?_eq_getElem (by omega)⟩
    rw [e2] at h2
    obtain ⟨n, hn, e⟩ := trod_wn h2
    refine ⟨n, hn, ?_⟩
    rw [← e, List.drop_take, List.drop_drop, List.take_take, show min 4 (8 - j % 2 * 4) = 4 by omega, show j / 2 * 8 + j % 2 * 4 = 4 * j by omega]
  refine ⟨fun j => if hj : j < 16 then Classical.choose (hs j hj) else 0, fun j hj => ?_, ?_⟩
  · show (if hj : j < 16 then Classical.choose (hs j hj) else 0) < M4
    rw [dif_pos hj]
    exact (Classical.choose_spec (hs j hj)).1
  · refine rowB_of _ 16 0 l (by omega) (fun j hj => ?_)
    rw [Nat.zero_add]
    show _ = ws (nw (if hj : j < 16 then Classical.choose (hs j hj) else 0))
    rw [dif_pos hj]
    exact (Classical.choose_spec (hs j hj)).2
set_option maxRecDepth 100000 in
theorem open_book {H : Type} {enc : TypeId × Value → H} {r : Reach} {w : World} {b0 base : Nat} {spare : Nat → Bool} {held : Bool} {v : Value} {d : DataW H} {p : List MemPlace}
    (hv : Value.okWide Try.prog w r b0 27 v) (h : DataW.Trod enc Try.prog w base spare held 27 v d p) : ∃ b : Bk, OkK b ∧ v = bkv b := by
  obtain ⟨cs, rfl, hsz, _⟩ : ∃ cs, v = .agg cs ∧ cs.size = Try.prog.cellsOf 27 ∧ Row.okWide Try.prog w r b0 27 cs := by
    simpa [Value.okWide, Try.underlying27] using hv
  obtain ⟨fuel, hf⟩ := h
  obtain ⟨b, hb, e⟩ := trod_book hf
  refine ⟨b, hb, ?_⟩
  have e2 : cs.toList = bkc b := e
  show Value.agg cs = Value.agg (bkc b).toArray
  rw [← e2]
end Go.Proofs.Ytcgfnppknldhbaa
