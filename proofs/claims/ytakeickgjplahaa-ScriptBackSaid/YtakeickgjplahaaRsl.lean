/-
  Slices of elements of n cells each: what is read of them, what the call's own are.
-/
import Derived.Test.YtakeickgjplahaaVsl
import Derived.Test.YtakeickgjplahaaLaid
import Derived.Laws.OwnMore
namespace Go.Proofs.Ytakeickgjplahaa
open Go.RowKit Go.Shelf

section
variable {α : Type} {f : α → List Value} {n : Nat}
/-- The elements' cells, one behind the other. -/
def flatR (f : α → List Value) (l : List α) : List Value := l.flatMap f
theorem flat_nil : flatR f [] = [] := rfl
theorem flat_cons (x : α) (l : List α) : flatR f (x :: l) = f x ++ flatR f l := rfl
theorem flat_app (l m : List α) : flatR f (l ++ m) = flatR f l ++ flatR f m := List.flatMap_append
theorem flat_one (x : α) : flatR f [x] = f x := by rw [flat_cons, flat_nil, List.append_nil]
theorem flat_len (hn : ∀ x, (f x).length = n) (l : List α) : (flatR f l).length = l.length * n := by
  induction l with
  | nil => simp [flatR]
  | cons x l ih => rw [flat_cons, List.length_append, ih, hn, List.length_cons, Nat.succ_mul]; omega
theorem flat_drop (hn : ∀ x, (f x).length = n) (l : List α) (k : Nat) : (flatR f l).drop (k * n) = flatR f (l.drop k) := by
  induction l generalizing k with
  | nil => simp [flatR]
  | cons x l ih =>
    cases k with
    | zero => simp
    | succ k => rw [flat_cons, Nat.succ_mul, Nat.add_comm, ← List.drop_drop, List.drop_left' (hn x), ih, List.drop_succ_cons]
theorem flat_at (hn : ∀ x, (f x).length = n) {l : List α} {k : Nat} {x : α} (hx : l[k]? = some x) : ((flatR f l).drop (k * n)).take n = f x := by
  obtain ⟨hk, rfl⟩ := List.getElem?_eq_some_iff.1 hx
  rw [flat_drop hn, ← List.getElem_cons_drop hk, flat_cons, List.take_left' (hn _)]
theorem flat_cell (hn : ∀ x, (f x).length = n) {l : List α} {k j : Nat} {x : α} (hx : l[k]? = some x) (hj : j < n) : (flatR f l)[k * n + j]? = (f x)[j]? := by
  rw [← flat_at hn hx, List.getElem?_take_of_lt hj, List.getElem?_drop]
theorem flatR_take (hn : ∀ x, (f x).length = n) (l : List α) (k : Nat) : (flatR f l).take (k * n) = flatR f (l.take k) := by
  induction l generalizing k with
  | nil => simp [flatR]
  | cons x l ih =>
    cases k with
    | zero => simp [flatR]
    | succ k => rw [flat_cons, Nat.succ_mul, Nat.add_comm, show n + k * n = (f x).length + k * n by rw [hn], List.take_length_add_append, ih, List.take_succ_cons, flat_cons]
/-- One cell of an element is set. -/
theorem flat_set (hn : ∀ x, (f x).length = n) {l : List α} {k j : Nat} {x y : α} {v : Value} (hx : l[k]? = some x) (hj : j < n) (hy : f y = (f x).set j v) : (flatR f l).set (k * n + j) v = flatR f (l.set k y) := by
  induction l generalizing k with
  | nil => simp at hx
  | cons z l ih =>
    cases k with
    | zero =>
      obtain rfl : z = x := by simpa using hx
      rw [Nat.zero_mul, Nat.zero_add, flat_cons, List.set_cons_zero, flat_cons, hy, List.set_append_left _ _ (by rw [hn]; exact hj)]
    | succ k =>
      rw [flat_cons, List.set_cons_succ, flat_cons, ← ih (by simpa using hx), List.set_append_right _ _ (by rw [hn, Nat.succ_mul]; omega), hn]
      congr 2
      rw [Nat.succ_mul]
      omega
/-- A slice of these elements, in a block from lo on, below hi; or there are none. -/
def RSl (f : α → List Value) (lo hi : Nat) (W : World) (sv : Value) (l : List α) : Prop :=
  ∃ a cap, sv = .slice a l.length cap ∧ l.length ≤ cap ∧ cap ≤ maxLen ∧ (l = [] ∨ ∃ b off, a = some ⟨b, off, none⟩ ∧ lo ≤ b ∧ b < hi ∧ Row W b off (flatR f l))
theorem RSl.mono {lo hi lo' hi' : Nat} {W : World} {sv : Value} {l : List α} (h : RSl f lo hi W sv l) (h1 : lo' ≤ lo) (h2 : hi ≤ hi') : RSl f lo' hi' W sv l := by
  obtain ⟨a, cap, e, hc, hm, h0 | ⟨b, off, ha, hl, hh, ho⟩⟩ := h
  · exact ⟨a, cap, e, hc, hm, .inl h0⟩
  · exact ⟨a, cap, e, hc, hm, .inr ⟨b, off, ha, by omega, by omega, ho⟩⟩
theorem RSl.below {lo hi m : Nat} {W W' : World} {sv : Value} {l : List α} (h : RSl f lo hi W sv l) (hb : Below m W W') (hm : hi ≤ m) : RSl f lo hi W' sv l := by
  obtain ⟨a, cap, e, hc, hx, h0 | ⟨b, off, ha, hl, hh, ho⟩⟩ := h
  · exact ⟨a, cap, e, hc, hx, .inl h0⟩
  · exact ⟨a, cap, e, hc, hx, .inr ⟨b, off, ha, hl, hh, ho.below hb (by omega)⟩⟩
/-- Whatever is made anew. -/
theorem RSl.up {W W' : World} {sv : Value} {l : List α} (h : RSl f 0 W.heap.size W sv l) (hb : Below W.heap.size W W') : RSl f 0 W'.heap.size W' sv l := (h.below hb (Nat.le_refl _)).mono (Nat.le_refl _) hb.size
theorem RSl.kept {lo hi : Nat} {W W' : World} {row : Option Nat} {sv : Value} {l : List α} (h : RSl f lo hi W sv l) (hi' : hi ≤ W.heap.size) (hg : W.grownBy W' row) (hne : ∀ r, row = some r → r < lo ∨ hi ≤ r) : RSl f lo hi W' sv l := by
  obtain ⟨a, cap, e, hc, hx, h0 | ⟨b, off, ha, hl, hh, ho⟩⟩ := h
  · exact ⟨a, cap, e, hc, hx, .inl h0⟩
  · exact ⟨a, cap, e, hc, hx, .inr ⟨b, off, ha, hl, hh, ho.kept (by omega) hg (fun e => by have := hne b e.symm; omega)⟩⟩
theorem RSl.nil (lo hi : Nat) (W : World) : RSl f lo hi W (.slice none 0 0) [] := ⟨none, 0, rfl, Nat.le_refl _, Nat.zero_le _, .inl rfl⟩
theorem RSl.slice {lo hi : Nat} {W : World} {sv : Value} {l : List α} (h : RSl f lo hi W sv l) : ∃ a c, sv = .slice a l.length c := by
  obtain ⟨a, c, e, _⟩ := h
  exact ⟨a, c, e⟩
theorem RSl.len {lo hi : Nat} {W : World} {sv : Value} {l : List α} (h : RSl f lo hi W sv l) : l.length ≤ maxLen := by
  obtain ⟨a, c, _, h1, h2, _⟩ := h
  exact Nat.le_trans h1 h2
/-- Where an element lies. -/
theorem RSl.at {lo hi : Nat} {W : World} {a : Option Addr} {len cap : Nat} {l : List α} (h : RSl f lo hi W (.slice a len cap) l) (hl : l ≠ []) : len = l.length ∧ len ≤ cap ∧ ∃ b off, a = some ⟨b, off, none⟩ ∧ lo ≤ b ∧ b < hi ∧ Row W b off (flatR f l) := by
  obtain ⟨a', c', e, hc, _, h0 | ⟨b, off, ha, h1, h2, h3⟩⟩ := h
  · exact absurd h0 hl
  · cases e
    exact ⟨rfl, hc, b, off, ha, h1, h2, h3⟩
theorem Row.elem {W : World} {b off : Nat} {l : List α} (h : Row W b off (flatR f l)) (hn : ∀ x, (f x).length = n) {k j : Nat} {x : α} (hx : l[k]? = some x) (hj : j < n) : W.cell? ⟨b, off + k * n + j, none⟩ = (f x)[j]? := by
  have hl : j < (f x).length := by rw [hn]; exact hj
  have h1 := flat_cell hn hx hj
  rw [List.getElem?_eq_getElem hl] at h1 ⊢
  rw [Nat.add_assoc]
  exact h _ _ h1
/-- An element is loaded whole. -/
theorem load_elem {W : World} {b off : Nat} {l : List α} (h : Row W b off (flatR f l)) (hn : ∀ x, (f x).length = n) {k : Nat} {x : α} (hx : l[k]? = some x) (ty : TypeId) (d : TypeDesc) (hu : Try.prog.underlying ty = some d)
    (hd : (match d with | .struct _ | .array _ _ => true | _ => false) = true) (hi : (Try.prog.info? ty).map (·.size) = some n) :
    (Instr.loadAt ty (.pointer (some ⟨b, off + k * n, none⟩))).run Try.prog W = .ok (.agg (f x).toArray) W := by
  have hl : (loadCells ⟨b, off + k * n, none⟩ (f x).length).run Try.prog W = .ok (f x).toArray W :=
    run_loadCells_list (P := Try.prog) W ⟨b, off + k * n, none⟩ (f x) (fun j v hv => by
      have hj : j < n := by have := (List.getElem?_eq_some_iff.1 hv).1; rwa [hn] at this
      rw [addr_add, h.elem hn hx hj]
      exact hv)
  cases hq : Try.prog.info? ty with
  | none => simp [hq] at hi
  | some i =>
    have hs : i.size = (f x).length := by rw [hn]; simpa [hq] using hi
    have hagg : (isAgg ty).run Try.prog W = .ok true W := by
      unfold isAgg
      rw [Sem.run_bind, run_underlying hu W]
      cases d <;> simp_all
    simp [Instr.loadAt, Instr.sureAddr, loadVar, Sem.run_bind, hagg, sizeOf, typeInfo, hq, hs, hl]
/-- A row of the call's own, as a slice of elements. -/
theorem RSl.of_own {W : World} {lo : Nat} {e : TypeId} {v : Value} {l : List α} (hn : ∀ x, (f x).length = n) (h : W.ownsRow lo e n v l.length (flatR f l)) : RSl f lo W.heap.size W v l := by
  rcases h.2 with ⟨rfl, h0⟩ | ⟨g, cap, cur, rfl, hg, hb, hnc, hcm, hsz, htake⟩
  · have hl : l = [] := List.eq_nil_of_length_eq_zero h0
    subst hl
    exact RSl.nil _ _ _
  · refine ⟨_, cap, rfl, hnc, hcm, .inr ⟨g, 0, rfl, hg, (Array.getElem?_eq_some_iff.1 hb).1, fun k x hk => ?_⟩⟩
    have hkl : k < (flatR f l).length := (List.getElem?_eq_some_iff.1 hk).1
    rw [flat_len hn] at hkl
    have e' : cur[k]? = (cur.toList.take (l.length * n))[k]? := by
      rw [List.getElem?_take_of_lt hkl]
      simp
    simp only [World.cell?, hb, Nat.zero_add]
    rw [show (if (none : Option Nat).isSome = true then (none : Option Value) else cur[k]?) = cur[k]? from rfl, e', htake]
    exact hk
/-- What an append of all elements of a slice reads. -/
theorem RSl.cells {lo hi : Nat} {W : World} {a : Addr} {len cap : Nat} {l : List α} (h : RSl f lo hi W (.slice (some a) len cap) l) : ∀ j u, (flatR f l)[j]? = some u → W.cell? (a.add j) = some u := by
  obtain ⟨a', c', e, _, _, h0 | ⟨b, off, ha, _, _, hr⟩⟩ := h
  · subst h0; intro j u hj; simp [flatR] at hj
  · cases e
    obtain rfl := Option.some.inj ha
    intro j u hj
    rw [addr_add]
    exact hr j u hj
end
end Go.Proofs.Ytakeickgjplahaa
