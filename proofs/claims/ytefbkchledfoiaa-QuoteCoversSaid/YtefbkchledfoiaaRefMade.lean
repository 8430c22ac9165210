/-
  The reference's Made: a wide number of digits, or none.
-/
import Derived.Test.YtefbkchledfoiaaRefMadeMath
namespace Go.Proofs.Ytefbkchledfoiaa
open Go.RowKit

/-- The number of n digits, or none. -/
def MadeW (n : Nat) (f : Nat → Nat) (w : World) (e : Ending) (W' : World) : Prop :=
  ((∃ i, 16 ≤ i ∧ i < n ∧ f i ≠ 0) ∧ NoW w e W') ∨
  ((∀ i, 16 ≤ i → i < n → f i = 0) ∧ e = .returned (.tuple #[wv (wdg f n 0) (wdg f n 1) (wdg f n 2) (wdg f n 3), .bool true]) ∧ Below w.heap.size w W')

set_option maxRecDepth 100000 in
set_option maxHeartbeats 4000000 in
theorem made_any (n cap g : Nat) (f : Nat → Nat) (hn : n ≤ 32) (hf : ∀ k, k < n → f k < 65536) (w : World) (hg : g < w.heap.size) (hl : Nums w g n f) :
    Calls Try.prog 16 #[.slice (some ⟨g, 0, none⟩) n cap] w (MadeW n f w) := by
  go_enter Try.func16, Try.ntmps16
  go_wp2
  go_loopw [5] (fun i wr => ∃ k : Nat, k ≤ n ∧ i = .int .i64 k ∧ (∀ t, 16 ≤ t → t < k → f t = 0) ∧ Blk wr w.heap.size 24 (ws fun _ => 0) ∧ Blk wr (w.heap.size + 1) 24 (ws (wdg f k)) ∧ Below w.heap.size w wr) (fun i _ => n - (intOf i).toNat)
  case atStart => exact ⟨0, by omega, rfl, fun t _ h => by omega, (Blk.new _ _ _).alloc _, by rw [wdg_zero]; exact Blk.new' (by simp), chainA (chain0 _ _) _⟩
  case round =>
    obtain ⟨k, hk, rfl, hz, k0, k1, hbel⟩ := hrel
    by_cases hlt : k < n
    · have hc := hl.below hbel hg k hlt
      have hfk := hf k hlt
      by_cases h16 : k < 16
      · have HZ := Lib.hid hz
        clear hz
        have h16' : (k : Int) < 16 := by omega
        go_wp2
        obtain ⟨wo, rfl⟩ : ∃ wo : World, wo = wr := ⟨_, rfl⟩
        go_loopw [6, 7] (fun x j wr => ∃ t : Nat, t ≤ k % 4 ∧ j = .int .i64 t ∧ x = .int .u64 (f k * p16 t : Nat) ∧ wr = wo) (fun _ j _ => k % 4 - (intOf j).toNat)
        case atStart => exact ⟨0, by omega, rfl, by rw [p16_0, Nat.mul_one], rfl⟩
        case round =>
          obtain ⟨t, ht, rfl, rfl, rfl⟩ := hrel
          by_cases htl : t < k % 4
          · have hp := p16_step (r := t) (by omega)
            have hle := p16_le2 (r := t) (by omega)
            have hm : f k * p16 t ≤ 65535 * 4294967296 := Nat.mul_le_mul (by omega) hle
            have HP : Hid (f k * p16 (t + 1) = f k * p16 t * 65536) := Lib.hid (by rw [hp, Nat.mul_assoc])
            clear hp
            generalize f k * p16 t = y at *
            have htl' : (t : Int) < (k : Int) % 4 := by omega
            go_wp2
            exact ⟨⟨t + 1, by omega, by simp, by rw [HP.out]; simp, trivial⟩, by simp [intOf]; omega⟩
          · obtain rfl : t = k % 4 := by omega
            have hlt4 : k / 4 < 4 := by omega
            have hs := wdg_lt (f := f) (i := k) (fun j hj => hf j (by omega))
            have hst := wdg_step f k
            have HS := Lib.hid hst
            clear hst
            have cc := k1.cell (k / 4)
            rw [ws_at _ hlt4] at cc
            have fc := k1.frozen (k / 4)
            generalize f k * p16 (k % 4) = y at *
            generalize hv : wdg f k (k / 4) = v at *
            clear hv
            go_wp2
            have kk := k1.set (k / 4) (.int .u64 ((v + y : Nat) : Int))
            rw [ws_set _ hlt4, ← HS.out, show ((v + y : Nat) : Int) = (v : Int) + (y : Int) by omega] at kk
            exact ⟨⟨k + 1, by omega, by simp, fun t h1 h2 => by omega, k0.other _ _ (by omega), kk, hbel.setCell (p := ⟨w.heap.size + 1, k / 4, none⟩) (by simp) _⟩, by simp [intOf]; omega⟩
      · have h16' : ¬ (k : Int) < 16 := by omega
        by_cases hz0 : f k = 0
        · have HZ := Lib.hid hz
          have HZ0 := Lib.hid hz0
          rw [hz0] at hc
          clear hz hz0
          go_wp2
          exact ⟨⟨k + 1, by omega, by simp, fun t h1 h2 => by
            by_cases e : t = k
            · rw [e]; exact HZ0.out
            · exact HZ.out t h1 (by omega), k0, by rw [wdg_high f (by omega)]; exact k1, hbel⟩, by simp [intOf]; omega⟩
        · have hne : ((f k : Nat) : Int) ≠ 0 := by omega
          have hb : (((f k : Nat) : Int) == 0) = false := by simp; omega
          have HZ := Lib.hid hz
          have HZ0 := Lib.hid hz0
          clear hz hz0
          have c00 : wr.cell? ⟨w.heap.size, 0, none⟩ = some (.int .u64 ((0 : Nat) : Int)) := k0.cell 0
          have f00 := k0.frozen 0
          have c01 : wr.cell? ⟨w.heap.size, 1, none⟩ = some (.int .u64 ((0 : Nat) : Int)) := k0.cell 1
          have f01 := k0.frozen 1
          have c02 : wr.cell? ⟨w.heap.size, 2, none⟩ = some (.int .u64 ((0 : Nat) : Int)) := k0.cell 2
          have f02 := k0.frozen 2
          have c03 : wr.cell? ⟨w.heap.size, 3, none⟩ = some (.int .u64 ((0 : Nat) : Int)) := k0.cell 3
          have f03 := k0.frozen 3
          go_wp2
          have k0' := (((k0.set 0 (.int .u64 0)).set 1 (.int .u64 0)).set 2 (.int .u64 0)).set 3 (.int .u64 0)
          have r0 := k0'.cell 0
          have r1 := k0'.cell 1
          have r2 := k0'.cell 2
          have r3 := k0'.cell 3
          simp only [ws, List.set_cons_zero, List.set_cons_succ, List.getElem?_cons_zero, List.getElem?_cons_succ] at r0 r1 r2 r3
          have hB' := (((hbel.setCell (p := ⟨w.heap.size, 0, none⟩) (Nat.le_refl _) (.int .u64 0)).setCell (p := ⟨w.heap.size, 1, none⟩) (Nat.le_refl _) (.int .u64 0)).setCell (p := ⟨w.heap.size, 2, none⟩) (Nat.le_refl _) (.int .u64 0)).setCell (p := ⟨w.heap.size, 3, none⟩) (Nat.le_refl _) (.int .u64 0)
          exact bodyPost_ret (v := .tuple #[wv 0 0 0 0, .bool false]) (by simp [results, Try.f16, go_sem, r0, r1, r2, r3]) rfl (.inl ⟨⟨k, by omega, hlt, HZ0.out⟩, rfl, hB'⟩)
    · obtain rfl : k = n := by omega
      have HZ := Lib.hid hz
      clear hz
      have c00 : wr.cell? ⟨w.heap.size, 0, none⟩ = some (.int .u64 ((0 : Nat) : Int)) := k0.cell 0
      have f00 := k0.frozen 0
      have c01 : wr.cell? ⟨w.heap.size, 1, none⟩ = some (.int .u64 ((0 : Nat) : Int)) := k0.cell 1
      have f01 := k0.frozen 1
      have c02 : wr.cell? ⟨w.heap.size, 2, none⟩ = some (.int .u64 ((0 : Nat) : Int)) := k0.cell 2
      have f02 := k0.frozen 2
      have c03 : wr.cell? ⟨w.heap.size, 3, none⟩ = some (.int .u64 ((0 : Nat) : Int)) := k0.cell 3
      have f03 := k0.frozen 3
      have c10 : wr.cell? ⟨w.heap.size + 1, 0, none⟩ = some (.int .u64 ((wdg f k 0 : Nat) : Int)) := k1.cell 0
      have c11 : wr.cell? ⟨w.heap.size + 1, 1, none⟩ = some (.int .u64 ((wdg f k 1 : Nat) : Int)) := k1.cell 1
      have c12 : wr.cell? ⟨w.heap.size + 1, 2, none⟩ = some (.int .u64 ((wdg f k 2 : Nat) : Int)) := k1.cell 2
      have c13 : wr.cell? ⟨w.heap.size + 1, 3, none⟩ = some (.int .u64 ((wdg f k 3 : Nat) : Int)) := k1.cell 3
      go_wp2
      have k0' := (((k0.set 0 (.int .u64 (wdg f k 0 : Nat))).set 1 (.int .u64 (wdg f k 1 : Nat))).set 2 (.int .u64 (wdg f k 2 : Nat))).set 3 (.int .u64 (wdg f k 3 : Nat))
      have r0 := k0'.cell 0
      have r1 := k0'.cell 1
      have r2 := k0'.cell 2
      have r3 := k0'.cell 3
      simp only [ws, List.set_cons_zero, List.set_cons_succ, List.getElem?_cons_zero, List.getElem?_cons_succ] at r0 r1 r2 r3
      have hB' := (((hbel.setCell (p := ⟨w.heap.size, 0, none⟩) (Nat.le_refl _) (.int .u64 (wdg f k 0 : Nat))).setCell (p := ⟨w.heap.size, 1, none⟩) (Nat.le_refl _) (.int .u64 (wdg f k 1 : Nat))).setCell (p := ⟨w.heap.size, 2, none⟩) (Nat.le_refl _) (.int .u64 (wdg f k 2 : Nat))).setCell (p := ⟨w.heap.size, 3, none⟩) (Nat.le_refl _) (.int .u64 (wdg f k 3 : Nat))
      exact bodyPost_ret (v := .tuple #[wv (wdg f k 0) (wdg f k 1) (wdg f k 2) (wdg f k 3), .bool true]) (by simp [results, Try.f16, go_sem, r0, r1, r2, r3]) rfl (.inr ⟨HZ.out, rfl, hB'⟩)

end Go.Proofs.Ytefbkchledfoiaa
