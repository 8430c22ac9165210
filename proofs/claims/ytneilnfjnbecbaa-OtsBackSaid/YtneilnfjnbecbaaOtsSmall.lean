/-
  ots' closures; whether parts are well-formed.
-/
import Derived.Test.YtneilnfjnbecbaaOtsAlive
import Derived.Outline
namespace Go.Proofs.Ytneilnfjnbecbaa
open Go.RowKit Go.Shelf

set_option maxHeartbeats 1000000 in
theorem toEnd_any (k : Int) (w : World) : Calls Try.prog 34 #[.int .i64 k] w fun e W' => e = .returned (.int .i64 3) ∧ w = W' := by
  go_enter Try.func34, Try.ntmps34
  go_wp2
  go_ret
  exact ⟨rfl, rfl⟩

set_option maxHeartbeats 1000000 in
theorem signAt_any (k d : Nat) (hk : k < 15) (g c B : Nat) (w : World) (kb : Boxed w B 25 (.slice (some ⟨g, 0, none⟩) 15 c)) (hd : w.cell? ⟨g, k, none⟩ = some (.int .i64 (d : Int))) :
    Calls Try.prog 37 #[.int .i64 (k : Int), .pointer (some ⟨B, 0, none⟩)] w fun e W' => e = .returned (.int .i64 (d : Int)) ∧ w = W' := by
  have cb := kb.cell
  have hk' : (k : Int) < 15 := by omega
  go_enter Try.func37, Try.ntmps37
  go_wp2
  go_ret
  exact ⟨rfl, rfl⟩

set_option maxHeartbeats 1000000 in
theorem openAt_any (k d : Nat) (hk : k < 15) (h3 : d ≤ 3) (g c B : Nat) (w : World) (kb : Boxed w B 25 (.slice (some ⟨g, 0, none⟩) 15 c)) (hd : w.cell? ⟨g, k, none⟩ = some (.int .i64 (d : Int))) :
    Calls Try.prog 39 #[.int .i64 (k : Int), .pointer (some ⟨B, 0, none⟩)] w fun e W' => e = .returned (.int .i64 (3 - (d : Int))) ∧ w = W' := by
  have cb := kb.cell
  have hk' : (k : Int) < 15 := by omega
  have h3' : (d : Int) ≤ 3 := by omega
  go_enter Try.func39, Try.ntmps39
  go_wp2
  go_ret
  exact ⟨rfl, rfl⟩

set_option maxHeartbeats 1000000 in
theorem wrong_any (s : ByteArray) (hs : s.size ≤ 9223372036854775807) (w : World) : Calls Try.prog 57 #[.string s] w fun e W' => e = .returned (.bool (decide (s.size ≠ 8))) ∧ w = W' := by
  have hs' : (s.size : Int) ≤ 9223372036854775807 := by omega
  by_cases h8 : s.size = 8
  · have hb : ((s.size : Int) != 8) = false := by simp; omega
    have H8 := Lib.hid h8
    clear h8
    go_enter Try.func57, Try.ntmps57
    go_wp2
    go_ret
    exact ⟨by simp [H8.out], rfl⟩
  · have hb : ((s.size : Int) != 8) = true := by simp; omega
    have H8 := Lib.hid h8
    clear h8
    go_enter Try.func57, Try.ntmps57
    go_wp2
    go_ret
    exact ⟨by simp [H8.out], rfl⟩

/-- The first that is wrong, or -1. -/
def IdxW (zs : List ByteArray) (w : World) (e : Ending) (W' : World) : Prop := ∃ i : Int, e = .returned (.int .i64 i) ∧ ((zs.all (fun x => x.size == 8) = true ∧ i = -1) ∨ (zs.all (fun x => x.size == 8) = false ∧ 0 ≤ i ∧ i ≤ 1000000)) ∧ w = W'

set_option maxRecDepth 100000 in
set_option maxHeartbeats 2000000 in
theorem indexFunc_any (zs : List ByteArray) (hn : zs.length ≤ 1000000) (hz : ∀ x ∈ zs, x.size ≤ 9223372036854775807) (sv : Value) (w : World) (hsv : VSl 0 w.heap.size w sv (zs.map tv)) :
    Calls Try.prog 72 #[sv, .func (.func 57) #[] #[]] w (IdxW zs w) := by
  obtain ⟨a, cap, rfl, _, h0⟩ := hsv
  rw [List.length_map]
  have hcell : ∀ k x, zs[k]? = some x → ∃ b off, a = some ⟨b, off, none⟩ ∧ w.cell? ⟨b, off + k, none⟩ = some (.string x) := fun k x hx => by
    rcases h0 with h0 | ⟨b, off, ha, _, _, hr⟩
    · rw [List.map_eq_nil_iff] at h0; subst h0; simp at hx
    · exact ⟨b, off, ha, hr k _ (by rw [List.getElem?_map, hx]; rfl)⟩
  have HC := Lib.hid hcell
  clear hcell h0
  go_enter Try.func72, Try.ntmps72
  go_wp2
  go_loop [5, 8] (fun _ i => ∃ k : Nat, k ≤ zs.length ∧ i = .int .i64 (k : Nat) ∧ (zs.take k).all (fun x => x.size == 8) = true) (fun _ i => zs.length - (intOf i).toNat)
  case atStart => exact ⟨0, by omega, rfl, rfl⟩
  case round =>
    obtain ⟨k, hk, rfl, hall⟩ := hrel
    have HA := Lib.hid hall
    clear hall
    by_cases hlt : k < zs.length
    · obtain ⟨x, hx⟩ : ∃ x, zs[k]? = some x := ⟨_, List.getElem?_eq_getElem hlt⟩
      obtain ⟨b, off, rfl, c0⟩ := HC.out k x hx
      have hxs := hz x (List.mem_of_getElem? hx)
      have HX := Lib.hid hx
      have HZ := Lib.hid hz
      clear hx hz
      have hlt' : (k : Int) < (zs.length : Int) := by omega
      generalize hL : zs.length = len at *
      have HLn := Lib.hid hL
      clear hL
      by_cases h8 : x.size = 8
      · have hd : decide (x.size ≠ 8) = false := by simp [h8]
        have HD := Lib.hid hd
        have H8 := Lib.hid h8
        clear hd h8
        go_wp2_with (go_at_call 57; refine (wrong_any x hxs _).mono ?_; rintro e w' ⟨rfl, rfl⟩; rw [HD.out])
        go_round
        case rel =>
          refine ⟨k + 1, by omega, by simp, ?_⟩
          rw [List.take_add_one, HX.out, List.all_append, HA.out]
          simp [H8.out]
        case measure => simp [intOf]; omega
      · have hd : decide (x.size ≠ 8) = true := by simp [h8]
        have HD := Lib.hid hd
        have H8 := Lib.hid h8
        clear hd h8
        go_wp2_with (go_at_call 57; refine (wrong_any x hxs _).mono ?_; rintro e w' ⟨rfl, rfl⟩; rw [HD.out])
        go_ret
        refine ⟨_, rfl, .inr ⟨?_, by omega, by omega⟩, rfl⟩
        rw [List.all_eq_false]
        exact ⟨x, List.mem_of_getElem? HX.out, by simp [H8.out]⟩
    · obtain rfl : k = zs.length := by omega
      go_wp2
      go_ret
      refine ⟨_, rfl, .inl ⟨?_, rfl⟩, rfl⟩
      have := HA.out
      rwa [List.take_length] at this

set_option maxHeartbeats 1000000 in
theorem containsFunc_any (zs : List ByteArray) (hn : zs.length ≤ 1000000) (hz : ∀ x ∈ zs, x.size ≤ 9223372036854775807) (sv : Value) (w : World) (hsv : VSl 0 w.heap.size w sv (zs.map tv)) :
    Calls Try.prog 58 #[sv, .func (.func 57) #[] #[]] w fun e W' => e = .returned (.bool (!zs.all (fun x => x.size == 8))) ∧ w = W' := by
  have hsv0 := hsv
  obtain ⟨a, c, rfl⟩ := hsv0.slice
  rw [List.length_map] at hsv ⊢
  clear hsv0
  go_enter Try.func58, Try.ntmps58
  go_wp2_with fail
  refine (indexFunc_any zs hn hz _ _ hsv).mono ?_
  rintro e w' ⟨i, rfl, h, rfl⟩
  rcases h with h | h
  · obtain ⟨ha, rfl⟩ := h
    have HA := Lib.hid ha
    clear ha
    go_wp2
    go_ret
    exact ⟨by rw [HA.out]; rfl, rfl⟩
  · obtain ⟨ha, h0, h1⟩ := h
    have HA := Lib.hid ha
    clear ha
    go_wp2
    go_ret
    exact ⟨by rw [HA.out]; rfl, rfl⟩

/-- Fifteen parts of eight octets. -/
def wf (zs : List ByteArray) : Bool := decide (zs.length = 15) && zs.all (fun x => x.size == 8)

set_option maxHeartbeats 2000000 in
theorem wellFormed_any (zs : List ByteArray) (hz : ∀ x ∈ zs, x.size ≤ 9223372036854775807) (sv : Value) (w : World) (hsv : VSl 0 w.heap.size w sv (zs.map tv)) :
    Calls Try.prog 38 #[sv] w fun e W' => e = .returned (.bool (wf zs)) ∧ w = W' := by
  have hsv0 := hsv
  obtain ⟨a, c, rfl⟩ := hsv0.slice
  rw [List.length_map] at hsv ⊢
  by_cases h15 : zs.length = 15
  · have hwf : wf zs = zs.all (fun x => x.size == 8) := by unfold wf; simp [h15]
    have HW := Lib.hid hwf
    clear hwf
    have hn' : zs.length ≤ 1000000 := by omega
    rw [h15] at hsv ⊢
    clear h15
    go_enter Try.func38, Try.ntmps38
    go_wp2_with fail
    refine (containsFunc_any zs hn' hz _ _ hsv).mono ?_
    rintro e w' ⟨rfl, rfl⟩
    go_wp2_with fail
    go_ret
    exact ⟨by rw [HW.out]; simp, rfl⟩
  · have hwf : wf zs = false := by unfold wf; simp [h15]
    have HW := Lib.hid hwf
    clear hwf
    have h15' : ((zs.length : Int) == 15) = false := by simp; omega
    clear h15
    go_enter Try.func38, Try.ntmps38
    go_wp2
    go_ret
    exact ⟨by rw [HW.out]; rfl, rfl⟩
end Go.Proofs.Ytneilnfjnbecbaa
