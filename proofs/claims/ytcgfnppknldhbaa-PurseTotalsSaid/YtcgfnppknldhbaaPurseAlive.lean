/-
  The law's own example; is there such a place.
-/
import Derived.Test.YtcgfnppknldhbaaPurseTotal
import Derived.Test.YtcgfnppknldhbaaPurseEven
import Derived.Test.YtcgfnppknldhbaaPurseEq
import Derived.Outline
namespace Go.Proofs.Ytcgfnppknldhbaa
open Go.RowKit Go.Shelf

theorem at_any (a s : Int) (w : World) :
    Calls Try.prog 9 #[.int .i64 a, .int .i64 s] w fun e W' => e = .returned (.bool (placeB a s)) ∧ w = W' := by
  by_cases h1 : 0 ≤ a
  · by_cases h2 : a < 8
    · by_cases h3 : 0 ≤ s
      · by_cases h4 : s < 2
        · rw [show placeB a s = true from decide_eq_true (by unfold atS; omega)]
          go_enter Try.func9, Try.ntmps9
          go_wp2
          go_ret
          exact ⟨rfl, rfl⟩
        · rw [show placeB a s = false from decide_eq_false (by unfold atS; omega)]
          go_enter Try.func9, Try.ntmps9
          go_wp2
          go_ret
          exact ⟨rfl, rfl⟩
      · rw [show placeB a s = false from decide_eq_false (by unfold atS; omega)]
        go_enter Try.func9, Try.ntmps9
        go_wp2
        go_ret
        exact ⟨rfl, rfl⟩
    · rw [show placeB a s = false from decide_eq_false (by unfold atS; omega)]
      go_enter Try.func9, Try.ntmps9
      go_wp2
      go_ret
      exact ⟨rfl, rfl⟩
  · rw [show placeB a s = false from decide_eq_false (by unfold atS; omega)]
    go_enter Try.func9, Try.ntmps9
    go_wp2
    go_ret
    exact ⟨rfl, rfl⟩
theorem tot5 : totB (fun _ => 5) 0 = (40, true) := by
  unfold totB
  rw [if_pos ⟨by omega, by unfold sumB M4 M; decide⟩]
  rfl
theorem wn40 : wn 40 = wv 40 0 0 0 := by
  obtain ⟨a, b, c, d⟩ := nw_word (n := 40) (by unfold M; omega)
  show wv (nw 40 0) (nw 40 1) (nw 40 2) (nw 40 3) = _
  rw [a, b, c, d]
set_option maxRecDepth 100000 in
set_option maxHeartbeats 2000000 in
theorem purseAlive_any (w : World) : Calls Try.prog 6 #[] w fun e W' => e = .returned (.bool true) ∧ Below w.heap.size w W' := by
  have HE := Lib.hid (bookEven_any 5 (by unfold M; omega))
  have HT : Hid (∀ W, Calls Try.prog 15 #[bkv (fun _ => 5), .int .i64 0] W fun e W' => e = .returned (.tuple #[wv 40 0 0 0, .bool true]) ∧ Below W.heap.size W W') := Lib.hid fun W =>
    (bookTotal_any (fun _ => 5) (fun _ _ => by show 5 < M4; unfold M4 M; decide) 0 W).mono fun e W' h => by
      rw [tot5] at h
      obtain ⟨he, hb⟩ := h
      exact ⟨by rw [he, ← wn40], hb⟩
  have heq := run_equalIn_wide
  have hrefl := wEq_refl
  go_enter Try.func6, Try.ntmps6
  go_wp2_with (first
    | (go_at_call 12; refine (HE.out _).mono ?_; rintro e w1 ⟨rfl, hb1⟩)
    | (go_at_call 15; refine (HT.out _).mono ?_; rintro e w2 ⟨rfl, hb2⟩))
  go_ret
  exact ⟨rfl, chainA (chain hb1 hb2) _⟩
end Go.Proofs.Ytcgfnppknldhbaa
