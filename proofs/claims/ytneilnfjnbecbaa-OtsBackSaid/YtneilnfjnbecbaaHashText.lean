/-
  hash.Text and hash.Short.
-/
import Derived.Test.YtneilnfjnbecbaaHashSum
import Derived.Test.YtneilnfjnbecbaaCat
import Derived.Outline
namespace Go.Proofs.Ytneilnfjnbecbaa
open Go.RowKit Go.Shelf

/-- The sum of a text, as a string. -/
def sumS (l : List UInt8) : ByteArray := ⟨(sumL cb sq l).toArray⟩
theorem sumS_size (l : List UInt8) : (sumS l).size = 32 := by
  show (sumL cb sq l).toArray.size = 32
  rw [List.size_toArray]
  exact sumTo_length _ 8

set_option maxRecDepth 100000 in
set_option maxHeartbeats 2000000 in
theorem text_any {o : Nat} (sv : Value) (w : World) (zs : List (SX o w.heap.size w)) (hreach : zs.length ≤ 140737488351232) (hfl : (flat zs).length ≤ 140737488353000) (hsv : SSl w.heap.size w sv zs) :
    Calls Try.prog 69 #[sv] w fun e W' => e = .returned (.string (sumS (flat zs))) ∧ Below w.heap.size w W' := by
  have hsv0 := hsv
  obtain ⟨a, cap, rfl, _⟩ := hsv
  go_enter Try.func69, Try.ntmps69
  go_wp2_with fail
  refine (cat_any _ _ zs hreach (by omega) hsv0).mono ?_
  rintro e w1 ⟨cv, rfl, hc, hb1⟩
  go_wp2_with fail
  refine (sum_any (flat zs) _ _ hfl (hc.mono (Nat.zero_le _) (Nat.le_refl _))).mono ?_
  rintro e w2 ⟨sv2, rfl, hown, hb2⟩
  have hcv := run_string (P := Try.prog) 22 5 9 Try.underlying22 Try.underlying5 Try.underlying9 w2 (BSl.of_own hown)
  go_wp2_with fail
  go_ret
  exact ⟨rfl, chain hb1 hb2⟩

set_option maxRecDepth 100000 in
set_option maxHeartbeats 2000000 in
theorem short_any {o : Nat} (sv : Value) (w : World) (zs : List (SX o w.heap.size w)) (hreach : zs.length ≤ 140737488351232) (hfl : (flat zs).length ≤ 140737488353000) (hsv : SSl w.heap.size w sv zs) :
    Calls Try.prog 52 #[sv] w fun e W' => e = .returned (.string ((sumS (flat zs)).extract 0 8)) ∧ Below w.heap.size w W' := by
  have hsv0 := hsv
  obtain ⟨a, cap, rfl, _⟩ := hsv
  go_enter Try.func52, Try.ntmps52
  go_wp2_with fail
  refine (text_any _ _ zs hreach hfl hsv0).mono ?_
  rintro e w1 ⟨rfl, hb1⟩
  have h8 : 8 ≤ (sumS (flat zs)).size := by rw [sumS_size]; omega
  have h8' : (8 : Int) ≤ ((sumS (flat zs)).size : Int) := by omega
  generalize hs : sumS (flat zs) = s at *
  have HS := Lib.hid hs
  clear hs
  go_wp2_with fail
  go_ret
  exact ⟨by rw [HS.out]; rfl, hb1⟩
end Go.Proofs.Ytneilnfjnbecbaa
