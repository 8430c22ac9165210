/-
  Sums and differences told by numbers alone: of the program, and of the plain digits.
-/
import Derived.Test.YtefbkchledfoiaaPurseM
import Derived.Test.YtefbkchledfoiaaWideCalls
import Derived.Test.YtefbkchledfoiaaRefAdd
import Derived.Test.YtefbkchledfoiaaRefSub
namespace Go.Proofs.Ytefbkchledfoiaa
open Go.RowKit Go.Shelf

/-- The sum, or nothing. -/
def addN (x y : Nat) : Nat := if x + y < M4 then x + y else 0
def fitB (x y : Nat) : Bool := decide (x + y < M4)
def lessB (x y : Nat) : Bool := decide (y ≤ x)
theorem addN_lt {x y : Nat} : addN x y < M4 := by
  unfold addN; split
  · assumption
  · unfold M4 M; decide
theorem wn_zero : wn 0 = wv 0 0 0 0 := by show wv (nw 0 0) (nw 0 1) (nw 0 2) (nw 0 3) = _; rw [nw_zero, nw_zero, nw_zero, nw_zero]
def RetN (n : Nat) (b : Bool) (w : World) (e : Ending) (W' : World) : Prop := e = .returned (.tuple #[wn n, .bool b]) ∧ Below w.heap.size w W'
theorem retN_of_add {x y : Nat} {w : World} {e : Ending} {W' : World} (h : AddW (x + y) w e W') : RetN (addN x y) (fitB x y) w e W' := by
  rcases h with ⟨hl, s0, s1, s2, s3, hs, hv, rfl, hb⟩ | ⟨hg, rfl, hb⟩
  · refine ⟨?_, hb⟩
    rw [wn_of hs hv, show addN x y = x + y from if_pos hl, show fitB x y = true from decide_eq_true hl]
  · refine ⟨?_, hb⟩
    rw [show addN x y = 0 from if_neg (by omega), show fitB x y = false from decide_eq_false (by omega), wn_zero]
theorem retN_of_sub {x y : Nat} {w : World} {e : Ending} {W' : World} (h : SubW x y w e W') : RetN (x - y) (lessB x y) w e W' := by
  rcases h with ⟨hl, s0, s1, s2, s3, hs, hv, rfl, hb⟩ | ⟨hg, rfl, hb⟩
  · refine ⟨?_, hb⟩
    rw [wn_of hs hv, show lessB x y = true from decide_eq_true hl]
  · refine ⟨?_, hb⟩
    rw [show x - y = 0 by omega, show lessB x y = false from decide_eq_false (by omega), wn_zero]
theorem addN_any {x y : Nat} (hx : x < M4) (hy : y < M4) (w : World) :
    Calls Try.prog 20 #[wn x, wn y] w (RetN (addN x y) (fitB x y) w) :=
  (add_any (nw_ok x) (nw_ok y) w).mono fun _ _ h => retN_of_add (by rw [nw_val hx, nw_val hy] at h; exact h)
theorem subN_any {x y : Nat} (hx : x < M4) (hy : y < M4) (w : World) :
    Calls Try.prog 19 #[wn x, wn y] w (RetN (x - y) (lessB x y) w) :=
  (sub_any (nw_ok x) (nw_ok y) w).mono fun _ _ h => retN_of_sub (by rw [nw_val hx, nw_val hy] at h; exact h)
theorem refAddN_any {x y : Nat} (hx : x < M4) (hy : y < M4) (w : World) :
    Calls Try.prog 10 #[wn x, wn y] w (RetN (addN x y) (fitB x y) w) :=
  (refAdd_any (nw_ok x) (nw_ok y) w).mono fun _ _ h => retN_of_add (by rw [nw_val hx, nw_val hy] at h; exact h)
theorem refSubN_any {x y : Nat} (hx : x < M4) (hy : y < M4) (w : World) :
    Calls Try.prog 14 #[wn x, wn y] w (RetN (x - y) (lessB x y) w) :=
  (refSub_any (nw_ok x) (nw_ok y) w).mono fun _ _ h => retN_of_sub (by rw [nw_val hx, nw_val hy] at h; exact h)
-- HERE
end Go.Proofs.Ytefbkchledfoiaa
