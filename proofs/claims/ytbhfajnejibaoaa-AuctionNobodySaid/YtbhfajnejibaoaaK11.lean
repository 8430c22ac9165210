/-
  Frames with many slots: what is forgotten at a cut or a loop is ONE function of the slot's number (not a variable a slot): the kernel's work is linear in the number of slots
-/
import Derived.Deep.Cut
import Derived.Deep.CutBlock
import Derived.LoopTactic
import Derived.Test.YtbhfajnejibaoaaK10
namespace Go.Proofs.Ytbhfajnejibaoaa
open Go.RowKit Go.Shelf
inductive Sl where
  | k (v : Value)
  | s (i : Nat)
def fillS : List Sl → (Nat → Value) → List Value
  | [], _ => []
  | .k v :: p, s => v :: fillS p s
  | .s i :: p, s => s i :: fillS p s
def fillZ : List Sl → List Value → List Value
  | [], _ => []
  | _ :: _, [] => [undef]
  | .k v :: p, _ :: l => v :: fillZ p l
  | .s _ :: p, u :: l => u :: fillZ p l
def numb : List Sl → Nat → Bool
  | [], _ => true
  | .k _ :: p, n => numb p (n + 1)
  | .s i :: p, n => Nat.beq i n && numb p (n + 1)
def nth (l : List Value) (i : Nat) : Value := (l[i]?).getD undef
theorem nth_at (pre : List Value) (u : Value) (l : List Value) : nth (pre ++ u :: l) pre.length = u := by
  unfold nth
  rw [List.getElem?_append_right (Nat.le_refl _), Nat.sub_self]
  rfl
theorem fill_nth : ∀ {p : List Sl} {n : Nat}, numb p n = true → ∀ {pre l : List Value}, pre.length = n → fillZ p l = l → fillS p (nth (pre ++ l)) = l
  | [], _, _, _, _, _, h => h
  | q :: p, _, _, _, [], _, h => by cases q <;> cases h
  | .k v :: p, n, hn, pre, u :: l, hp, h => by
    have h1 : v :: fillZ p l = u :: l := h
    obtain ⟨rfl, h2⟩ := List.cons.inj h1
    have := fill_nth (p := p) (n := n + 1) hn (pre := pre ++ [v]) (l := l) (by rw [List.length_append, hp]; rfl) h2
    rw [List.append_assoc] at this
    exact congrArg (v :: ·) this
  | .s i :: p, n, hn, pre, u :: l, hp, h => by
    have h1 : u :: fillZ p l = u :: l := h
    obtain ⟨_, h2⟩ := List.cons.inj h1
    have hn' : (Nat.beq i n && numb p (n + 1)) = true := hn
    rw [Bool.and_eq_true] at hn'
    obtain rfl : i = n := Nat.eq_of_beq_eq_true hn'.1
    have := fill_nth (p := p) (n := i + 1) hn'.2 (pre := pre ++ [u]) (l := l) (by rw [List.length_append, hp]; rfl) h2
    rw [List.append_assoc] at this
    show nth (pre ++ u :: l) i :: fillS p (nth (pre ++ u :: l)) = u :: l
    rw [← hp, nth_at]
    exact congrArg (u :: ·) this
theorem fill_all {p : List Sl} {l : List Value} (hn : numb p 0 = true) (h : fillZ p l = l) : fillS p (nth l) = l := fill_nth hn (pre := []) rfl h
section
variable {P : Program} {c : Code} {W : World} {l : List Value}
theorem wp_loop_fit {Q : Exit → Act → World → Prop} (p : List Sl) (R : (Nat → Value) → World → Prop) (mu : (Nat → Value) → World → Nat) (hn : numb p 0 = true) (hl : fillZ p l = l) (h0 : R (nth l) W)
    (round : ∀ s w, R s w → ∀ (J K : Act → World → Prop), (∀ l' w', fillZ p l' = l' → R (nth l') w' → mu (nth l') w' < mu s w → J ⟨l'.toArray, []⟩ w') → (∀ a' w', Met J a' w' → K a' w') → c.wp P (Exit.then K Q) ⟨(fillS p s).toArray, []⟩ w) : (Code.loop c).wp P Q ⟨l.toArray, []⟩ W := by
  classical
  let g : Act → World → Nat := fun a w => if h : ∃ s, R s w ∧ a = ⟨(fillS p s).toArray, []⟩ then leastOf (fun n => ∃ s, R s w ∧ a = ⟨(fillS p s).toArray, []⟩ ∧ mu s w = n) else 0
  refine wp_loop (fun a w => ∃ s, R s w ∧ a = ⟨(fillS p s).toArray, []⟩) g ⟨nth l, h0, by rw [fill_all hn hl]⟩ ?_
  intro a w hI
  have hex : ∃ n, ∃ s, R s w ∧ a = ⟨(fillS p s).toArray, []⟩ ∧ mu s w = n := by
    obtain ⟨s, h1, h2⟩ := hI
    exact ⟨_, s, h1, h2, rfl⟩
  have hga : g a w = leastOf (fun n => ∃ s, R s w ∧ a = ⟨(fillS p s).toArray, []⟩ ∧ mu s w = n) := dif_pos hI
  obtain ⟨⟨s, h1, h2, h3⟩, _⟩ := leastOf_spec hex
  rw [hga, ← h3]
  subst h2
  refine round s w h1 _ _ (fun l' w' e1 e2 e3 => ?_) (fun _ _ h => h)
  have hI' : ∃ s, R s w' ∧ (⟨l'.toArray, []⟩ : Act) = ⟨(fillS p s).toArray, []⟩ := ⟨nth l', e2, by rw [fill_all hn e1]⟩
  refine ⟨hI', ?_⟩
  have hgb : g ⟨l'.toArray, []⟩ w' = leastOf (fun n => ∃ s, R s w' ∧ (⟨l'.toArray, []⟩ : Act) = ⟨(fillS p s).toArray, []⟩ ∧ mu s w' = n) := dif_pos hI'
  rw [hgb]
  exact Nat.lt_of_le_of_lt ((leastOf_spec ⟨mu (nth l') w', nth l', e2, by rw [fill_all hn e1], rfl⟩).2 _ ⟨nth l', e2, by rw [fill_all hn e1], rfl⟩) e3
end
end Go.Proofs.Ytbhfajnejibaoaa
