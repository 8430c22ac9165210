/-
  Numbers as octets, octets as numbers, three slices of octets put together.
-/
import Derived.Test.YtakeickgjplahaaSlcR
import Derived.Test.YtakeickgjplahaaNum
import Derived.Test.YtakeickgjplahaaCat
import Derived.Test.YtakeickgjplahaaBlobInt
namespace Go.Proofs.Ytakeickgjplahaa
open Go.RowKit Go.Shelf

theorem numL_any (n : Nat) (hn : n ≤ 140737488355328) (w : World) : Calls Try.prog 16 #[.int .i64 (n : Int), .int .i64 2] w (ByW (octs n 2) w) := by
  have h := num_any (n : Int) 2 (by decide) (by decide) w
  rw [show clamp 2 = 2 from rfl, show two (n : Int) = n by unfold two; omega] at h
  exact h
theorem intB_any (l : List UInt8) {q : Nat} (hq : be l = q) (sv : Value) (w : World) (hl : l.length ≤ 7) (hsv : BSl 0 w.heap.size w sv l) : Calls Try.prog 19 #[sv] w fun e W' => e = .returned (.int .i64 (q : Int)) ∧ Below w.heap.size w W' := by
  subst hq
  have h := blobInt_any l sv w (by omega) hsv
  rw [List.take_of_length_le hl] at h
  exact h
/-- Cat of three that lie side by side. -/
theorem cat3_any {N : Nat} {T : TypeId} (l1 l2 l3 : List UInt8) (s1 s2 s3 : Value) (W : World) (hl : l1.length + l2.length + l3.length ≤ 140737488355328) (h1 : BSl 0 W.heap.size W s1 l1) (h2 : BSl 0 W.heap.size W s2 l2) (h3 : BSl 0 W.heap.size W s3 l3) (k : Blk W N T [s1, s2, s3]) :
    Calls Try.prog 17 #[.slice (some ⟨N, 0, none⟩) 3 3] W (ByW (l1 ++ (l2 ++ l3)) W) := by
  let zs : List (SX 140737488355328 W.heap.size W) := [⟨(s1, l1), h1, by simp only; omega⟩, ⟨(s2, l2), h2, by simp only; omega⟩, ⟨(s3, l3), h3, by simp only; omega⟩]
  have hfl : flat zs = l1 ++ (l2 ++ l3) := by simp [flat, zs]
  have := cat_any (.slice (some ⟨N, 0, none⟩) 3 3) W zs (by simp [zs]) (by rw [hfl, List.length_append, List.length_append]; omega)
    ⟨_, _, rfl, .inr ⟨N, 0, rfl, k.lt, fun i x hx => by
      rw [Nat.zero_add, k.cell i]
      match i, hx with
      | 0, hx => simp only [zs, List.getElem?_cons_zero, Option.some.injEq] at hx; rw [← hx]; rfl
      | 1, hx => simp only [zs, List.getElem?_cons_zero, List.getElem?_cons_succ, Option.some.injEq] at hx; rw [← hx]; rfl
      | 2, hx => simp only [zs, List.getElem?_cons_zero, List.getElem?_cons_succ, Option.some.injEq] at hx; rw [← hx]; rfl
      | i + 3, hx => simp [zs] at hx⟩⟩
  rw [hfl] at this
  exact this
/-- Octets of one's own lie in what was made since. -/
theorem oct_own {w W : World} {L : List Res} (h : Sep w [] L W) (i : Nat) {v : Value} {l : List UInt8} (hi : L[i]? = some (.oct v l)) : BSl w.heap.size W.heap.size W v l := by
  have ho := h.oka i hi
  have hn := h.new _ (List.mem_of_getElem? hi)
  obtain ⟨hi', a, cap, e, hc, h0⟩ := ho.h
  subst e
  cases l with
  | nil => exact ⟨a, cap, rfl, hc, .inl rfl⟩
  | cons x l =>
    rcases h0 with h0 | ⟨b, off, ha, _, _, hx⟩
    · cases h0
    · subst ha
      have hb : b ∈ (Res.oct (.slice (some ⟨b, off, none⟩) (x :: l).length cap) (x :: l)).foot := by simp [Res.oct, Value.ownBlock]
      exact ⟨_, cap, rfl, hc, .inr ⟨b, off, rfl, (hn b hb).elim (fun e => (List.not_mem_nil e).elim) id, ho.lt b hb, hx⟩⟩
/-- A number of octets has these octets. -/
theorem octs_beJ (l : List UInt8) : octs (be l) l.length = l := by
  have h : ∀ (n : Nat) (l : List UInt8), l.length = n → octs (be l) n = l := by
    intro n
    induction n with
    | zero => intro l hl; rw [List.length_eq_zero_iff.1 hl]; rfl
    | succ n ih =>
      intro l hl
      have hne : l ≠ [] := fun e => by rw [e] at hl; simp at hl
      obtain ⟨r, x, rfl⟩ : ∃ r x, l = r ++ [x] := ⟨l.dropLast, l.getLast hne, (List.dropLast_concat_getLast hne).symm⟩
      have hr : r.length = n := by simpa using hl
      have hx := x.toNat_lt
      rw [octs_snoc, be_snoc]
      have h1 : (be r * 256 + x.toNat) / 256 = be r := by omega
      have h2 : oct (be r * 256 + x.toNat) 0 = x := by
        unfold oct
        rw [show (be r * 256 + x.toNat) / 2 ^ (0 * 8) = be r * 256 + x.toNat by simp]
        apply UInt8.toNat_inj.1
        rw [UInt8.toNat_ofNat']
        omega
      rw [h1, h2, ih r hr]
  exact h l.length l rfl
-- HERE
end Go.Proofs.Ytakeickgjplahaa
