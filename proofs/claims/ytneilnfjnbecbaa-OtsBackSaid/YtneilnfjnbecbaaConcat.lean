/-
  slices.Grow of the nil slice; slices.Concat of octets.
-/
import Derived.Test.YtneilnfjnbecbaaCat
import Derived.Test.YtneilnfjnbecbaaAppendB
import Derived.Test.YtneilnfjnbecbaaSpares
import Derived.Lib.AppendZeros
import Derived.Outline
namespace Go.Proofs.Ytneilnfjnbecbaa
open Go.RowKit Go.Shelf

/-- None of a row with room. -/
def NoneW (w : World) (e : Ending) (W' : World) : Prop := ∃ v, e = .returned v ∧ W'.ownsRow w.heap.size 5 1 v 0 [] ∧ Below w.heap.size w W'

set_option maxRecDepth 100000 in
set_option maxHeartbeats 1000000 in
theorem grow_any (n : Nat) (hn : n ≤ 140737488355328) (w : World) : Calls Try.prog 74 #[.slice none 0 0, .int .i64 (n : Int)] w (NoneW w) := by
  obtain ⟨i0, hi, hz0, hz1, hz2⟩ := info_parts Try.infoByte
  have hn' : (n : Int) ≤ 140737488355328 := by omega
  by_cases h0 : n = 0
  · subst h0
    go_enter Try.func74, Try.ntmps74
    go_wp2
    go_ret
    exact ⟨_, rfl, World.ownsRow_nil _ _ _ _, Below.refl _ _⟩
  · have h1 : 0 < n := by omega
    have h2 : 0 < (n : Int) := by omega
    have hr := Lib.run_append_nil_zeros (P := Try.prog) w 22 3 22 5 i0 (.int .u8 0) .i64 .i64 Try.underlying22 Try.underlying3 hi hz0 n h1 (by omega) (by omega) (by rw [hz2]; omega)
    have hg : n ≤ grownCap w n 0 5 ∧ grownCap w n 0 5 ≤ maxLen := ⟨grownCap_ge _ _ _ _, grownCap_le_maxLen _ _ _ _ (by unfold maxLen; omega)⟩
    obtain ⟨hg1, hg2⟩ := hg
    generalize grownCap w n 0 5 = c at *
    go_enter Try.func74, Try.ntmps74
    go_wp2_with (at_builtin; refine Lib.wpList_append_run w rfl _ _ 22 3 rfl _ _ rfl rfl _ _ hr ?_)
    go_ret
    have hz : ∀ n, (Builtin.zeroCells #[Value.int .u8 0] n).size = n := fun n => by simp [Builtin.zeroCells]
    refine ⟨_, rfl, ⟨rfl, .inr ⟨w.heap.size, c, _, rfl, Nat.le_refl _, World.alloc_heap_new _ _, by omega, hg2, by rw [Array.size_append, hz, hz]; omega, by simp⟩⟩, ?_⟩
    exact ((Below.refl _ w).drew).alloc (by simp) _

set_option maxRecDepth 100000 in
set_option maxHeartbeats 4000000 in
theorem concat_any {o : Nat} (sv : Value) (w : World) (zs : List (SX o w.heap.size w)) (hreach : zs.length ≤ 140737488351232) (ho : (flat zs).length ≤ 140737488355328) (hsv : SSl w.heap.size w sv zs) :
    Calls Try.prog 62 #[sv] w (ByO (flat zs) w) := by
  obtain ⟨i0, hi, hz0, hz1, hz2⟩ := info_parts Try.infoByte
  obtain ⟨a, cap, rfl, hcs⟩ := hsv
  have hc : zs = [] ∨ ∃ b off, a = some ⟨b, off, none⟩ ∧ b < w.heap.size ∧ SRow w b off zs := hcs
  clear hcs
  have hfl : ∀ k, (flat (zs.take k)).length ≤ 140737488355328 := fun k => by
    have := flat_prefix zs k
    omega
  have HF := Lib.hid hfl
  clear hfl
  have hrow : ∀ k x, zs[k]? = some x → ∃ b off, a = some ⟨b, off, none⟩ ∧ b < w.heap.size ∧ w.cell? ⟨b, off + k, none⟩ = some x.1.1 := fun k x hx => by
    rcases hc with rfl | ⟨b, off, ha, hb, hr⟩
    · simp at hx
    · exact ⟨b, off, ha, hb, hr k x hx⟩
  have HR := Lib.hid hrow
  clear hrow hc
  go_enter Try.func62, Try.ntmps62
  go_wp2
  go_loop [3, 11] (fun s i => ∃ k : Nat, k ≤ zs.length ∧ i = .int .i64 k ∧ s = .int .i64 ((flat (zs.take k)).length : Nat)) (fun _ i => zs.length - (intOf i).toNat)
  case atStart => exact ⟨0, by omega, rfl, by simp [flat]⟩
  case round =>
    obtain ⟨k, hk, rfl, rfl⟩ := hrel
    by_cases hlt : k < zs.length
    · obtain ⟨x, hx⟩ : ∃ x, zs[k]? = some x := ⟨_, List.getElem?_eq_getElem hlt⟩
      obtain ⟨b, off, rfl, hb, c0⟩ := HR.out k x hx
      obtain ⟨⟨xa, xc, hxe, _⟩, _⟩ := x.2
      rw [hxe] at c0
      have HS := Lib.hid (flat_take zs hx)
      have h1 := HF.out k
      have h2 := HF.out (k + 1)
      rw [HS.out, List.length_append] at h2
      have hk0 : (k : Int) < (zs.length : Int) := by omega
      clear hxe hx
      have HL : Hid ((flat (zs.take (k + 1))).length = (flat (zs.take k)).length + x.1.2.length) := Lib.hid (by rw [HS.out, List.length_append])
      generalize hq : (flat (zs.take k)).length = q at *
      generalize x.1.2.length = xl at *
      generalize hLn : zs.length = len at *
      have HLn := Lib.hid hLn
      have HQ := Lib.hid hq
      clear hLn hq
      have h2' : (q : Int) + (xl : Int) ≤ 140737488355328 := by omega
      go_wp2
      exact ⟨⟨k + 1, by omega, by simp, by rw [HL.out]; simp⟩, by simp [intOf]; omega⟩
    · obtain rfl : k = zs.length := by omega
      have hall : zs.take zs.length = zs := List.take_length
      have hq := HF.out zs.length
      rw [hall] at hq ⊢
      clear hlt hk hall
      go_wp2_with (go_at_call 74; refine (grow_any _ hq _).mono ?_; rintro e w1 ⟨v, rfl, hown, hb1⟩)
      go_loopw [6, 27] (fun v i wr => ∃ k : Nat, k ≤ zs.length ∧ i = .int .i64 k ∧ wr.ownsRow w.heap.size 5 1 v (flat (zs.take k)).length ((flat (zs.take k)).map bv) ∧ Below w.heap.size w wr) (fun _ i _ => zs.length - (intOf i).toNat)
      case atStart => exact ⟨0, by omega, rfl, hown, hb1⟩
      case round =>
        obtain ⟨k, hk, rfl, hown, hB⟩ := hrel
        by_cases hlt : k < zs.length
        · obtain ⟨x, hx⟩ : ∃ x, zs[k]? = some x := ⟨_, List.getElem?_eq_getElem hlt⟩
          obtain ⟨b, off, rfl, hb, c0⟩ := HR.out k x hx
          replace c0 := (hB.cell (p := ⟨b, off + k, none⟩) hb).trans c0
          have hxs := x.2.1.below hB (Nat.le_refl _)
          have hxs' := hxs
          obtain ⟨xa, xc, hxe, _⟩ := hxs
          rw [hxe] at c0 hxs'
          have HS := Lib.hid (flat_take zs hx)
          have h2 := HF.out (k + 1)
          rw [HS.out, List.length_append] at h2
          have hk0 : (k : Int) < (zs.length : Int) := by omega
          have hNW : w.heap.size ≤ wr.heap.size := hB.size
          clear hxe hx hq
          have HL : Hid ((flat (zs.take (k + 1))).length = (flat (zs.take k)).length + x.1.2.length) := Lib.hid (by rw [HS.out, List.length_append])
          go_wp2_with (at_builtin; refine wpList_append_b _ rfl _ _ 22 rfl w.heap.size 5 i0 (.int .u8 0) Try.underlying22 hi hz0 hz1 hz2 rfl _ (flat (zs.take k)).length ((flat (zs.take k)).map bv) rfl hown _ x.1.2 rfl hxs' h2 hNW ?_; intro v' w1 hown' hgrow)
          refine ⟨⟨k + 1, by omega, by simp, ?_, hB.grown hgrow hNW (fun j hj => (World.ownsRow.lt hown j hj).1)⟩, by simp [intOf]; omega⟩
          rw [HS.out, List.map_append, List.length_append]
          exact hown'
        · obtain rfl : k = zs.length := by omega
          rw [List.take_length] at hown
          go_wp2
          go_ret
          exact ⟨_, rfl, hown, hB⟩
end Go.Proofs.Ytneilnfjnbecbaa
