/-
  What is signed opens to the public one: the plain side.
-/
import Derived.Test.YtalmoaggancdjaaK10
namespace Go.Proofs.Ytalmoaggancdjaa
open Go.RowKit Go.Shelf

theorem linkB_add (s : ByteArray) (a b : Nat) : linkB (linkB s a) b = linkB s (a + b) := by
  induction b with
  | zero => rfl
  | succ b ih => rw [show a + (b + 1) = (a + b) + 1 by omega, linkB, linkB, ih]
theorem walked_get (zs : List ByteArray) (d : Nat → Int) (k : Nat) : (walked zs d)[k]? = zs[k]?.map fun x => linkB x (stp (d k)) := by
  unfold walked; rw [List.getElem?_mapIdx]
theorem walked_back (zs : List ByteArray) (d : Nat → Nat) (h : ∀ k, d k ≤ 3) : walked (walked zs fun k => (d k : Int)) (fun k => 3 - (d k : Int)) = walked zs fun _ => 3 := by
  apply List.ext_getElem?
  intro k
  have h3 := h k
  have e1 : stp (d k : Int) = d k := stp_of h3
  have e2 : stp (3 - (d k : Int)) = 3 - d k := by
    have h : (3 - (d k : Int)) = ((3 - d k : Nat) : Int) := by omega
    rw [h]
    exact stp_of (by omega)
  have e3 : stp 3 = 3 := by unfold stp; simp
  have e4 : d k + (3 - d k) = 3 := by omega
  have e5 : ∀ x, linkB (linkB x (stp (d k : Int))) (stp (3 - (d k : Int))) = linkB x (stp 3) := fun x => by
    rw [e1, e2, e3, linkB_add, e4]
  rw [walked_get, walked_get, walked_get, Option.map_map]
  exact congrArg (fun g => Option.map g zs[k]?) (funext e5)
theorem linkB_eight {s : ByteArray} (h : s.size = 8) (k : Nat) : (linkB s k).size = 8 := by
  cases k with
  | zero => exact h
  | succ k => exact shortB_size _
theorem signL_wf (s : ByteArray) (f : Nat) (l : List UInt8) : wf (signL s f l) = true := by
  unfold wf signL
  rw [walked_length, begs_length]
  simp only [decide_true, Bool.true_and, List.all_eq_true, beq_iff_eq]
  intro x hx
  unfold walked at hx
  obtain ⟨i, hi, rfl⟩ := List.mem_mapIdx.1 hx
  exact linkB_eight (begs_mem (List.getElem_mem hi)) _
theorem open_sign (s : ByteArray) (f : Nat) (l : List UInt8) : openB l (signL s f l) = publicB s f := by
  unfold openB
  rw [if_pos (signL_wf s f l)]
  unfold signL publicB
  rw [walked_back _ _ (digF_le l)]
end Go.Proofs.Ytalmoaggancdjaa
