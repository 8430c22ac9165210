/-
  Slices of octets that are read; octets of a number.
-/
import Derived.Laws.BytesArg
import Derived.Maps.AppendAt
import Derived.Deep.AppendLies
import Derived.Test.YtakeickgjplahaaBase
namespace Go.Proofs.Ytakeickgjplahaa
open Go.RowKit Go.Shelf

/-- An octet as a value. -/
abbrev bv (x : UInt8) : Value := .int .u8 (x.toNat : Int)
/-- The row at b, off holds these octets. -/
def Octs (W : World) (b off : Nat) (l : List UInt8) : Prop := ∀ k x, l[k]? = some x → W.cell? ⟨b, off + k, none⟩ = some (bv x)
theorem Octs.below {W W' : World} {n b off : Nat} {l : List UInt8} (h : Octs W b off l) (hb : Below n W W') (hlt : b < n) : Octs W' b off l := fun k x hx => (hb.cell (p := ⟨b, _, none⟩) hlt).trans (h k x hx)
theorem Octs.kept {W W' : World} {row : Option Nat} {b off : Nat} {l : List UInt8} (h : Octs W b off l) (hb : b < W.heap.size) (hg : W.grownBy W' row) (hne : some b ≠ row) : Octs W' b off l := fun k x hx =>
  (World.cell?_of_block (a := ⟨b, _, none⟩) (hg.block b hb hne)).trans (h k x hx)
/-- sv is a slice of the octets l, in a block from lo on, below hi; or there are none. -/
def BSl (lo hi : Nat) (W : World) (sv : Value) (l : List UInt8) : Prop :=
  ∃ a cap, sv = .slice a l.length cap ∧ l.length ≤ cap ∧ (l = [] ∨ ∃ b off, a = some ⟨b, off, none⟩ ∧ lo ≤ b ∧ b < hi ∧ Octs W b off l)
theorem BSl.mono {lo hi lo' hi' : Nat} {W : World} {sv : Value} {l : List UInt8} (h : BSl lo hi W sv l) (h1 : lo' ≤ lo) (h2 : hi ≤ hi') : BSl lo' hi' W sv l := by
  obtain ⟨a, cap, e, hc, h0 | ⟨b, off, ha, hl, hh, ho⟩⟩ := h
  · exact ⟨a, cap, e, hc, .inl h0⟩
  · exact ⟨a, cap, e, hc, .inr ⟨b, off, ha, by omega, by omega, ho⟩⟩
theorem BSl.below {lo hi m : Nat} {W W' : World} {sv : Value} {l : List UInt8} (h : BSl lo hi W sv l) (hb : Below m W W') (hm : hi ≤ m) : BSl lo hi W' sv l := by
  obtain ⟨a, cap, e, hc, h0 | ⟨b, off, ha, hl, hh, ho⟩⟩ := h
  · exact ⟨a, cap, e, hc, .inl h0⟩
  · exact ⟨a, cap, e, hc, .inr ⟨b, off, ha, hl, hh, ho.below hb (by omega)⟩⟩
theorem BSl.kept {lo hi : Nat} {W W' : World} {row : Option Nat} {sv : Value} {l : List UInt8} (h : BSl lo hi W sv l) (hh' : hi ≤ W.heap.size) (hg : W.grownBy W' row) (hne : ∀ r, row = some r → r < lo ∨ hi ≤ r) : BSl lo hi W' sv l := by
  obtain ⟨a, cap, e, hc, h0 | ⟨b, off, ha, hl, hh, ho⟩⟩ := h
  · exact ⟨a, cap, e, hc, .inl h0⟩
  · exact ⟨a, cap, e, hc, .inr ⟨b, off, ha, hl, hh, ho.kept (by omega) hg (fun e' => by have := hne b e'.symm; omega)⟩⟩
theorem BSl.nil (lo hi : Nat) (W : World) : BSl lo hi W (.slice none 0 0) [] := ⟨none, 0, rfl, Nat.le_refl _, .inl rfl⟩
/-- What a row of the call's own is as a slice. -/
theorem BSl.of_own {W : World} {lo : Nat} {e : TypeId} {v : Value} {l : List UInt8} (h : W.ownsRow lo e 1 v l.length (l.map bv)) : BSl lo W.heap.size W v l := by
  rcases Nat.eq_zero_or_pos l.length with h0 | h0
  · have hl : l = [] := List.eq_nil_of_length_eq_zero h0
    subst hl
    rcases h.2 with ⟨rfl, _⟩ | ⟨g, cap, cur, rfl, _, _, hnc, _⟩
    · exact BSl.nil _ _ _
    · exact ⟨_, cap, rfl, hnc, .inl rfl⟩
  · obtain ⟨hl, ⟨_, h1⟩ | ⟨g, cap, cur, rfl, hg, hb, hnc, hcm, hsz, htake⟩⟩ := h
    · omega
    · refine ⟨_, cap, rfl, hnc, .inr ⟨g, 0, rfl, hg, (Array.getElem?_eq_some_iff.1 hb).1, fun k x hk => ?_⟩⟩
      have hkl : k < l.length := (List.getElem?_eq_some_iff.1 hk).1
      have e' : cur[k]? = (cur.toList.take (l.length * 1))[k]? := by
        rw [List.getElem?_take_of_lt (by omega)]
        simp
      simp only [World.cell?, hb, Nat.zero_add]
      rw [show (if (none : Option Nat).isSome = true then (none : Option Value) else cur[k]?) = cur[k]? from rfl, e', htake]
      simp [hk]

theorem mapBv_byte (l : List UInt8) : (l.map fun x => (x.toNat : Int)).map (fun n => UInt8.ofNat n.toNat) = l := by
  rw [List.map_map]
  have : ((fun n : Int => UInt8.ofNat n.toNat) ∘ fun x : UInt8 => (x.toNat : Int)) = id := by funext x; simp
  rw [this, List.map_id]

/-- 'string(b)'. -/
theorem run_string {P : Program} (src e dst : TypeId) (hs : P.underlying src = some (.slice e)) (he : P.underlying e = some (.int .u8)) (hd : P.underlying dst = some .string) (W : World) {lo hi : Nat} {sv : Value} {l : List UInt8} (h : BSl lo hi W sv l) :
    (convert src dst sv).run P W = .ok (.string ⟨l.toArray⟩) W := by
  obtain ⟨a, cap, rfl, _, h0⟩ := h
  rcases a with _ | ⟨b, off, sp⟩
  · have : l = [] := by
      rcases h0 with h0 | ⟨_, _, h, _⟩
      · exact h0
      · cases h
    subst this
    rw [run_convert_bytes_nil (P := P) W src e hs he _ _ dst hd]
    rfl
  · rcases h0 with rfl | ⟨b', off', ha, _, _, ho⟩
    · have hl : (loadCells ⟨b, off, sp⟩ 0).run P W = .ok (([] : List Int).map (Value.int .u8)).toArray W := by
        have := run_loadCells_list (P := P) W ⟨b, off, sp⟩ [] (fun j v hj => by simp at hj)
        simpa using this
      rw [run_convert_bytes_string W src dst e _ _ cap hs he hd]
      rw [show ([] : List UInt8).length = 0 from rfl, run_bytesToString W _ 0 cap [] hl]
      rfl
    · cases ha
      rw [run_convert_bytes_arg (P := P) W src e hs he b off l.length cap (l.map fun x => (x.toNat : Int)) (by simp) (fun i hi => by
        obtain ⟨x, hx⟩ : ∃ x, l[i]? = some x := ⟨_, List.getElem?_eq_getElem hi⟩
        rw [ho i x hx]
        simp [List.getD, hx]) dst hd]
      unfold strOfNums
      rw [mapBv_byte]

/-- The octet at place p of n, counted from the lowest one. -/
def oct (n p : Nat) : UInt8 := UInt8.ofNat (n / 2 ^ (p * 8))
/-- The lowest s octets, the highest first. -/
def octs (n : Nat) : Nat → List UInt8
  | 0 => []
  | s + 1 => oct n s :: octs n s
theorem octs_length (n s : Nat) : (octs n s).length = s := by induction s with | zero => rfl | succ s ih => simp [octs, ih]
theorem octs_at (n s k : Nat) (hk : k < s) : (octs n s)[k]? = some (oct n (s - 1 - k)) := by
  induction s generalizing k with
  | zero => omega
  | succ s ih =>
    cases k with
    | zero => simp [octs]
    | succ k => simp only [octs, List.getElem?_cons_succ]; rw [ih k (by omega)]; congr 2; omega

end Go.Proofs.Ytakeickgjplahaa
