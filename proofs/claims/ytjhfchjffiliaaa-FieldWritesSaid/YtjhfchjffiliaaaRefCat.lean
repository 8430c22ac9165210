/-
  The reference's Cat.
-/
import Derived.Test.YtjhfchjffiliaaaAppendB
namespace Go.Proofs.Ytjhfchjffiliaaa
open Go.RowKit Go.Shelf

set_option maxRecDepth 100000 in
set_option maxHeartbeats 2000000 in
theorem refCat_any (l1 l2 : List UInt8) (s1 s2 : Value) (w : World) {lo1 lo2 : Nat} (hreach : l1.length + l2.length ≤ 140737488355328) (h1 : BSl lo1 w.heap.size w s1 l1) (h2 : BSl lo2 w.heap.size w s2 l2) :
    Calls Try.prog 49 #[s1, s2] w (ByO (l1 ++ l2) w) := by
  obtain ⟨i0, hi, hz0, hz1, hz2⟩ := info_parts Try.infoByte
  have h1' := h1
  have h2' := h2
  obtain ⟨a1, c1, rfl, _⟩ := h1'
  obtain ⟨a2, c2, rfl, _⟩ := h2'
  generalize hn1 : l1.length = n1 at *
  generalize hn2 : l2.length = n2 at *
  have HN1 := Lib.hid hn1
  have HN2 := Lib.hid hn2
  clear hn1 hn2
  go_enter Try.func49, Try.ntmps49
  go_wp2_with (first
    | (at_builtin; refine wpList_append_b _ rfl _ _ 23 rfl w.heap.size 5 i0 (.int .u8 0) Try.underlying23 hi hz0 hz1 hz2 rfl _ 0 [] rfl (World.ownsRow_lit w #[] 0 (Nat.le_refl _) (by unfold maxLen; omega) rfl) _ l1 rfl (h1.below ((Below.refl w.heap.size w).alloc (Nat.le_refl _) _) (Nat.le_refl _)) (by rw [HN1.out]; omega) (by simp) ?_; intro v' w1 hown' hgrow; (have hb1 : Below w.heap.size w w1 := (chain0 w _).grown hgrow (by simp) (fun k e => by have : w.heap.size = k := Option.some.inj e; omega)); have h21 := h2.below hb1 (Nat.le_refl _); rw [Nat.zero_add, List.nil_append] at hown')
    | (at_builtin; refine wpList_append_b _ rfl _ _ 23 rfl w.heap.size 5 i0 (.int .u8 0) Try.underlying23 hi hz0 hz1 hz2 rfl _ l1.length (l1.map bv) rfl hown' _ l2 rfl h21 (by rw [HN1.out, HN2.out]; omega) hb1.size ?_; intro v2 w2 hown2 hgrow2))
  go_ret
  refine ⟨_, rfl, ?_, hb1.grown hgrow2 hb1.size (fun j hj => (World.ownsRow.lt hown' j hj).1)⟩
  rw [List.length_append, List.map_append]
  exact hown2
end Go.Proofs.Ytjhfchjffiliaaa
