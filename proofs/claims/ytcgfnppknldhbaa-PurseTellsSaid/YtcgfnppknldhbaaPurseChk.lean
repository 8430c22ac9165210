/-
  purse: is there such an asset, such a place; how much lies there.
-/
import Derived.Test.YtcgfnppknldhbaaPurseLoad
import Derived.Outline
namespace Go.Proofs.Ytcgfnppknldhbaa
open Go.RowKit Go.Shelf

/-- There is such an asset. -/
def assetB (s : Int) : Bool := decide (0 ≤ s ∧ s < 2)
def placeB (a s : Int) : Bool := decide (atS a s)
theorem isAsset_any (s : Int) (w : World) :
    Calls Try.prog 23 #[.int .i64 s] w fun e W' => e = .returned (.bool (assetB s)) ∧ w = W' := by
  by_cases h1 : 0 ≤ s
  · by_cases h2 : s < 2
    · rw [show assetB s = true from decide_eq_true ⟨h1, h2⟩]
      go_enter Try.func23, Try.ntmps23
      go_wp2
      go_ret
      exact ⟨rfl, rfl⟩
    · rw [show assetB s = false from decide_eq_false (by omega)]
      go_enter Try.func23, Try.ntmps23
      go_wp2
      go_ret
      exact ⟨rfl, rfl⟩
  · rw [show assetB s = false from decide_eq_false (by omega)]
    go_enter Try.func23, Try.ntmps23
    go_wp2
    go_ret
    exact ⟨rfl, rfl⟩

theorem isPlace_any (a s : Int) (w : World) :
    Calls Try.prog 16 #[.int .i64 a, .int .i64 s] w fun e W' => e = .returned (.bool (placeB a s)) ∧ w = W' := by
  by_cases h1 : 0 ≤ a
  · by_cases h2 : a < 8
    · have hp : placeB a s = assetB s := by unfold placeB assetB atS; simp [h1, h2]
      rw [hp]
      clear hp
      go_enter Try.func16, Try.ntmps16
      go_wp2_with (go_at_call 23; refine (isAsset_any _ _).mono ?_; rintro e w1 ⟨rfl, rfl⟩)
      go_ret
      exact ⟨rfl, rfl⟩
    · rw [show placeB a s = false from decide_eq_false (by unfold atS; omega)]
      go_enter Try.func16, Try.ntmps16
      go_wp2
      go_ret
      exact ⟨rfl, rfl⟩
  · rw [show placeB a s = false from decide_eq_false (by unfold atS; omega)]
    go_enter Try.func16, Try.ntmps16
    go_wp2
    go_ret
    exact ⟨rfl, rfl⟩
/-- What a function hands back that lies in a cell. -/
theorem res_wn {fn : Func} {p : Tmp} (h : fn.results = #[.cell p 24]) (tmps : Array Value) {w : World} {g : Nat} {T : TypeId} {n : Nat} (hp : tmps.getD p undef = .pointer (some ⟨g, 0, none⟩)) (hg : Blk w g T (ws (nw n))) :
    (results fn tmps).run Try.prog w = .ok (wn n) w :=
  results_cell_row h tmps w g T (ws (nw n)).toArray (0, 0) _ hp hg Try.underlying24 rfl (by kernel_rfl)
set_option maxHeartbeats 2000000 in
theorem ofBook_any (b : Bk) (a s : Int) (w : World) :
    Calls Try.prog 13 #[bkv b, .int .i64 a, .int .i64 s] w fun e W' => e = .returned (wn (ofB b a s)) ∧ Below w.heap.size w W' := by
  have kB := (Blk.new w 27 (bkc b)).alloc (.cells #[.int .u64 0, .int .u64 0, .int .u64 0, .int .u64 0] 24)
  have kR : ∀ n, Blk ((w.alloc (.cells (bkc b).toArray 27)).alloc (.cells (ws (nw n)).toArray 24)) (w.heap.size + 1) 24 (ws (nw n)) := fun n => Blk.new' (by simp)
  have hB := fun n => chainA (chain0 w (.cells (bkc b).toArray 27)) (.cells (ws (nw n)).toArray 24)
  by_cases h : atS a s
  · have HP : Hid (placeB a s = true) := Lib.hid (decide_eq_true h)
    have HO : Hid (ofB b a s = b (slotS a s)) := Lib.hid (if_pos h)
    obtain ⟨⟨h1, h2⟩, h3, h4⟩ := h
    obtain ⟨i, rfl⟩ : ∃ i : Nat, a = i := ⟨a.toNat, by omega⟩
    obtain ⟨j, rfl⟩ : ∃ j : Nat, s = j := ⟨s.toNat, by omega⟩
    have hi : i < 8 := by omega
    have hj : j < 2 := by omega
    go_enter Try.func13, Try.ntmps13
    go_wp2_with (first
      | (go_at_call 16; refine (isPlace_any _ _ _).mono ?_; rw [HP.out]; rintro e w1 ⟨rfl, rfl⟩)
      | ((with_reducible refine wpList_loadIf 24 (.tmp 15) ?_ (some 16) ?_ ?_ (wn (b (2 * i + j))) ?_ ?_); (· rfl); (· rfl); (· rfl); (· exact load_slot kB hi hj)))
    exact bodyPost_ret (res_wn (n := b (2 * i + j)) rfl _ rfl (kR _)) rfl ⟨by rw [HO.out]; rfl, hB _⟩
  · have HP : Hid (placeB a s = false) := Lib.hid (decide_eq_false h)
    have HO : Hid (ofB b a s = 0) := Lib.hid (if_neg h)
    clear h
    have kR0 := kR 0
    have hB0 := hB 0
    rw [ws_no] at kR0 hB0
    go_enter Try.func13, Try.ntmps13
    go_wp2_with (go_at_call 16; refine (isPlace_any _ _ _).mono ?_; rw [HP.out]; rintro e w1 ⟨rfl, rfl⟩)
    exact bodyPost_ret (res_wn (n := 0) rfl _ rfl (by rw [ws_no]; exact kR0)) rfl ⟨by rw [HO.out], hB0⟩
end Go.Proofs.Ytcgfnppknldhbaa
