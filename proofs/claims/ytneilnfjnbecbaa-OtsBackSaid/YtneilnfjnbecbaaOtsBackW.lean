/-
  The walk of OtsBack: what is signed opens to the public one.
-/
import Derived.Test.YtneilnfjnbecbaaOtsOpen
import Derived.Outline
namespace Go.Proofs.Ytneilnfjnbecbaa
open Go.RowKit Go.Shelf

theorem linkB_add (s : ByteArray) (a b : Nat) : linkB (linkB s a) b = linkB s (a + b) := by
  induction b with
  | zero => rfl
  | succ b ih => rw [show a + (b + 1) = (a + b) + 1 by omega, linkB, linkB, ih]
theorem walked_get (zs : List ByteArray) (d : Nat → Int) (k : Nat) : (walked zs d)[k]? = zs[k]?.map fun x => linkB x (stp (d k)) := by
  unfold walked; rw [List.getElem?_mapIdx]
theorem walked_back (zs : List ByteArray) (d : Nat → Nat) (h : ∀ k, d k ≤ 3) : walked (walked zs fun k => (d k : Int)) (fun k => 3 - (d k : Int)) = walked zs fun _ => 3 := by
  apply List.ext_getElem?
  intro k
  have h3 := h k
  have e1 : stp (d k : Int) = d k := stp_of h3
  have e2 : stp (3 - (d k : Int)) = 3 - d k := by
    have h : (3 - (d k : Int)) = ((3 - d k : Nat) : Int) := by omega
    rw [h]
    exact stp_of (by omega)
  have e3 : stp 3 = 3 := by unfold stp; simp
  have e4 : d k + (3 - d k) = 3 := by omega
  have e5 : ∀ x, linkB (linkB x (stp (d k : Int))) (stp (3 - (d k : Int))) = linkB x (stp 3) := fun x => by
    rw [e1, e2, e3, linkB_add, e4]
  rw [walked_get, walked_get, walked_get, Option.map_map]
  exact congrArg (fun g => Option.map g zs[k]?) (funext e5)
theorem linkB_eight {s : ByteArray} (h : s.size = 8) (k : Nat) : (linkB s k).size = 8 := by
  cases k with
  | zero => exact h
  | succ k => exact shortB_size _
theorem signL_wf (s : ByteArray) (f : Nat) (l : List UInt8) : wf (signL s f l) = true := by
  unfold wf signL
  rw [walked_length, begs_length]
  simp only [decide_true, Bool.true_and, List.all_eq_true, beq_iff_eq]
  intro x hx
  unfold walked at hx
  obtain ⟨i, hi, rfl⟩ := List.mem_mapIdx.1 hx
  exact linkB_eight (begs_mem (List.getElem_mem hi)) _
theorem open_sign (s : ByteArray) (f : Nat) (l : List UInt8) : openB l (signL s f l) = publicB s f := by
  unfold openB
  rw [if_pos (signL_wf s f l)]
  unfold signL publicB
  rw [walked_back _ _ (digF_le l)]

set_option maxRecDepth 100000 in
set_option maxHeartbeats 2000000 in
theorem otsBack_any (s : ByteArray) (hs : s.size ≤ 140737488352000) (z : Int) (a : Option Addr) (cap : Nat) (l : List UInt8) (hreach : l.length ≤ 140737488351232) (w : World) (hsb : BSl 0 w.heap.size w (.slice a l.length cap) l) :
    Calls Try.prog 5 #[.string s, .int .i64 z, .slice a l.length cap] w fun e W' => e = .returned (.bool true) ∧ Below w.heap.size w W' := by
  have hp := Lib.hid (open_sign s (lfN z) l)
  go_enter Try.func5, Try.ntmps5
  go_wp2_with fail
  refine (otsAlive_any _).mono ?_
  rintro e w1 ⟨rfl, hb1⟩
  have hsb1 := (hsb.below hb1 (Nat.le_refl _)).mono (Nat.le_refl _) hb1.size
  clear hsb
  go_wp2_with fail
  refine (sign_any s hs z l _ _ (by omega) hsb1).mono ?_
  rintro e w2 ⟨v2, rfl, hown2, hb2⟩
  have hlen : (signL s (lfN z) l).length = 15 := by unfold signL; rw [walked_length, begs_length]
  have hV2 := VSl.of_own (vs := (signL s (lfN z) l).map tv) (by rw [List.length_map, hlen]; exact hown2)
  obtain ⟨g2, c2, rfl⟩ := ownsRow_succ hown2
  have hsb2 := (hsb1.below hb2 (Nat.le_refl _)).mono (Nat.le_refl _) hb2.size
  have hz : ∀ x ∈ signL s (lfN z) l, x.size ≤ 9223372036854775807 := fun x hx => by
    have := walked_mem (m := 8) (fun y hy => by rw [begs_mem hy]; omega) hx
    omega
  have HZ := Lib.hid hz
  clear hz hsb1 hown2 hlen
  generalize signL s (lfN z) l = sg at *
  go_wp2_with fail
  refine (open_any l _ sg _ _ (by omega) HZ.out hsb2 (hV2.mono (Nat.zero_le _) (Nat.le_refl _))).mono ?_
  rintro e w3 ⟨rfl, hb3⟩
  rw [hp.out]
  go_wp2_with fail
  refine (public_any s hs z _).mono ?_
  rintro e w4 ⟨rfl, hb4⟩
  generalize publicB s (lfN z) = pb at *
  go_wp2_with fail
  go_ret
  exact ⟨rfl, chain (chain (chain hb1 hb2) hb3) hb4⟩
end Go.Proofs.Ytneilnfjnbecbaa
