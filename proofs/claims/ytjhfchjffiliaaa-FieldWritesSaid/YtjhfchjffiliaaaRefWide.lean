/-
  The reference's Wide: two octets a digit, the highest first.
-/
import Derived.Test.YtjhfchjffiliaaaNum
import Derived.Test.YtjhfchjffiliaaaBlobWide
import Derived.Test.YtjhfchjffiliaaaRefDigits
import Derived.Test.YtjhfchjffiliaaaBytesMath
import Derived.Deep.RegionHeld3
namespace Go.Proofs.Ytjhfchjffiliaaa
open Go.RowKit

/-- The octets of the k highest of sixteen digits. -/
def dO (f : Nat → Nat) : Nat → List UInt8
  | 0 => []
  | k + 1 => dO f k ++ [UInt8.ofNat (f (15 - k) / 256), UInt8.ofNat (f (15 - k))]
theorem dO_length (f : Nat → Nat) (k : Nat) : (dO f k).length = 2 * k := by
  induction k with
  | zero => rfl
  | succ k ih => simp [dO, ih]; omega
theorem octs8 (a : Nat) : octs a 8 = [UInt8.ofNat (sh a 3 % 65536 / 256), UInt8.ofNat (sh a 3 % 65536), UInt8.ofNat (sh a 2 % 65536 / 256), UInt8.ofNat (sh a 2 % 65536), UInt8.ofNat (sh a 1 % 65536 / 256), UInt8.ofNat (sh a 1 % 65536), UInt8.ofNat (sh a 0 % 65536 / 256), UInt8.ofNat (sh a 0 % 65536)] := by
  have e : ∀ {m n : Nat}, m % 256 = n % 256 → UInt8.ofNat m = UInt8.ofNat n := fun h => UInt8.toNat_inj.1 (by rw [UInt8.toNat_ofNat', UInt8.toNat_ofNat']; simpa using h)
  simp only [octs, oct, sh, List.cons.injEq, and_true]
  refine ⟨e ?_, e ?_, e ?_, e ?_, e ?_, e ?_, e ?_, e ?_⟩ <;> omega
theorem dO_all (a0 a1 a2 a3 : Nat) : dO (dg a0 a1 a2 a3) 16 = wide8 a0 a1 a2 a3 := by
  unfold wide8
  rw [octs8 a3, octs8 a2, octs8 a1, octs8 a0]
  rfl

theorem byte_hi {y : Nat} (h : y ≤ 65535) : IntKind.u8.wrap (IntKind.i64.wrap ((y : Int) / 256)) = (((UInt8.ofNat (y / 256)).toNat : Nat) : Int) := by
  rw [wr_i64 _ (by omega) (by omega), UInt8.toNat_ofNat']
  simp [IntKind.wrap, IntKind.bits, IntKind.signed]
theorem byte_lo {y : Nat} (h : y ≤ 65535) : IntKind.u8.wrap (Int.tmod (y : Int) 256) = (((UInt8.ofNat y).toNat : Nat) : Int) := by
  rw [UInt8.toNat_ofNat', Int.tmod_eq_emod_of_nonneg (by omega)]
  simp [IntKind.wrap, IntKind.bits, IntKind.signed]

set_option maxRecDepth 100000 in
set_option maxHeartbeats 4000000 in
theorem refWide_any {a0 a1 a2 a3 : Nat} (ha : Ok4 a0 a1 a2 a3) (w : World) :
    Calls Try.prog 50 #[wv a0 a1 a2 a3] w (ByW (wide8 a0 a1 a2 a3) w) := by
  have hmx : Try.prog.follows .mixedOrders = true := by kernel_rfl
  obtain ⟨i0, hi, hz0, hz1, hz2⟩ := info_parts Try.infoByte
  rw [← dO_all]
  go_enter Try.func50, Try.ntmps50
  go_wp2_with fail
  refine (digits_any ha _).mono ?_
  rintro e w1 ⟨g, cap, rfl, hg, hg1, hnums, hb1⟩
  have hd1 := chain (chain0 w _) hb1
  have hf : ∀ k, dg a0 a1 a2 a3 k ≤ 65535 := fun k => by unfold dg; omega
  clear hb1
  generalize dg a0 a1 a2 a3 = f at *
  go_wp2
  go_loopw [4, 5] (fun v i wr => ∃ k : Nat, k ≤ 16 ∧ i = .int .i64 (15 - (k : Int)) ∧ wr.ownsRow w1.heap.size 5 1 v (2 * k) ((dO f k).map bv) ∧ Below w1.heap.size w1 wr) (fun _ i _ => ((intOf i) + 1).toNat)
  case atStart => exact ⟨0, by omega, rfl, World.ownsRow_nil _ _ _ _, Below.refl _ _⟩
  case round =>
    obtain ⟨k, hk, rfl, hown, hB⟩ := hrel
    by_cases hlt : k < 16
    · have hp : (15 : Int) - k = ((15 - k : Nat) : Int) := by omega
      have hpl : 15 - k ≤ 15 := by omega
      have hc := hnums.below hB hg1 (15 - k) (by omega)
      have hfk := hf (15 - k)
      have hst : dO f (k + 1) = dO f k ++ [UInt8.ofNat (f (15 - k) / 256), UInt8.ofNat (f (15 - k))] := rfl
      have HS := Lib.hid hst
      have HP := Lib.hid hp
      rw [hp]
      clear hp hst
      generalize f (15 - k) = y at *
      generalize 15 - k = p at *
      have hy : (y : Int) ≤ 65535 := by omega
      have hp16 : (p : Int) < 16 := by omega
      go_wp2_with fail
      refine wp_region_held_drew (S := fun w' => w'.cell? ⟨g, p, none⟩ = some (.int .i64 (y : Int)) ∧ w'.heap.size > g) hmx ⟨hc, Nat.lt_of_lt_of_le hg1 hB.size⟩ ?_
      intro hS
      generalize hw2 : wr.drew = w2 at *
      refine wpAnyH_take (i := 0) (v := ?_) rfl (by kernel_rfl) (by kernel_rfl) (by kernel_rfl) (fun _ _ _ h => h) (Or.inl ⟨rfl, ?_⟩) hS ?_
      rotate_left
      · intro w' hS'; go_simp; with_reducible rfl
      refine wpAnyH_take (i := 1) (v := ?_) rfl (by kernel_rfl) (by kernel_rfl) (by kernel_rfl) (fun _ _ _ h => h) (Or.inl ⟨rfl, ?_⟩) hS ?_
      rotate_left
      · intro w' hS'; go_simp; with_reducible rfl
      refine wpAnyH_take (i := 2) (v := ?_) rfl (by kernel_rfl) (by kernel_rfl) (by kernel_rfl) (fun _ _ _ h => h) (Or.inl ⟨rfl, ?_⟩) hS ?_
      rotate_left
      · intro w' hS'; go_simp; with_reducible rfl
      refine wpAnyH_take (i := 3) (v := ?_) rfl (by kernel_rfl) (by kernel_rfl) (by kernel_rfl) (fun _ _ _ h => h) (Or.inl ⟨rfl, ?_⟩) hS ?_
      rotate_left
      · intro w' hS'; go_simp; with_reducible rfl
      refine wpAnyH_take (i := 4) (v := ?_) rfl (by kernel_rfl) (by kernel_rfl) (by kernel_rfl) (fun _ _ _ h => h) (Or.inl ⟨rfl, ?_⟩) hS ?_
      rotate_left
      · intro w' hS'; go_simp; with_reducible rfl
      refine wpAnyH_take (i := 5) (v := ?_) rfl (by kernel_rfl) (by kernel_rfl) (by kernel_rfl) (fun _ _ _ h => h) (Or.inl ⟨rfl, ?_⟩) hS ?_
      rotate_left
      · intro w' hS'; go_simp; with_reducible rfl
      refine wpAnyH_take (i := 6) (v := ?_) rfl (by kernel_rfl) (by kernel_rfl) (by kernel_rfl) (fun _ _ _ h => h) (Or.inl ⟨rfl, ?_⟩) hS ?_
      rotate_left
      · intro w' hS'; go_simp; with_reducible rfl
      refine wpAnyH_take (i := 7) (v := ?_) rfl (by kernel_rfl) (by kernel_rfl) (by kernel_rfl) (fun _ _ _ h => h) (Or.inl ⟨rfl, ?_⟩) hS ?_
      rotate_left
      · intro w' hS'; go_simp; with_reducible rfl
      refine wpAnyH_take (i := 8) (v := ?_) rfl (by kernel_rfl) (by kernel_rfl) (by kernel_rfl) (fun _ _ _ h => h) (Or.inl ⟨rfl, ?_⟩) hS ?_
      rotate_left
      · intro w' hS'; go_simp; with_reducible rfl
      refine wpAnyH_take (i := 9) (v := ?_) rfl (by kernel_rfl) (by kernel_rfl) (by kernel_rfl) (fun _ _ _ h => h) (Or.inl ⟨rfl, ?_⟩) hS ?_
      rotate_left
      · intro w' hS'; go_simp; with_reducible rfl
      refine wpAnyH_take (i := 10) (v := ?_) rfl (by kernel_rfl) (by kernel_rfl) (by kernel_rfl) (fun _ _ _ h => h) (Or.inl ⟨rfl, ?_⟩) hS ?_
      rotate_left
      · intro w' hS'; go_simp; with_reducible rfl
      refine wpAnyH_take (i := 11) (v := ?_) rfl (by kernel_rfl) (by kernel_rfl) (by kernel_rfl) (fun _ _ _ h => h) (Or.inl ⟨rfl, ?_⟩) hS ?_
      rotate_left
      · intro w' hS'; go_simp; with_reducible rfl
      refine wpAnyH_take (i := 12) (v := ?_) rfl (by kernel_rfl) (by kernel_rfl) (by kernel_rfl) (fun _ _ _ h => h) (Or.inl ⟨rfl, ?_⟩) hS ?_
      rotate_left
      · intro w' hS'; go_simp; with_reducible rfl
      have hB2 : Below w1.heap.size w1 w2 := by rw [← hw2]; exact hB.drew
      have hown2 : w2.ownsRow w1.heap.size 5 1 u4 (2 * k) ((dO f k).map bv) := by rw [← hw2]; exact hown
      have hz2' : w1.heap.size ≤ w2.heap.size := hB2.size
      rw [byte_hi hfk, byte_lo hfk]
      clear hw2 hc hB hown
      generalize UInt8.ofNat (y / 256) = x1 at *
      generalize UInt8.ofNat y = x0 at *
      refine wpAnyH_ready (rs := [13]) (by kernel_rfl) (by simp) ?_
      refine AllReadyH.cons rfl (fun K hK => ?_) AllReadyH.nil
      go_simp
      refine hK.out _ _ ⟨(World.cell?_alloc_lt _ _ _ hS.2).trans hS.1, by simp; have := hS.2; omega⟩ (fun hS3 => ?_)
      clear hK K
      refine wpAnyH_ready (rs := [14]) (by kernel_rfl) (by simp) ?_
      refine AllReadyH.cons rfl (fun K hK => ?_) AllReadyH.nil
      rw [if_pos (by kernel_rfl)]
      refine wp_append_own _ _ _ 23 rfl w1.heap.size 5 i0 (.int .u8 0) 1 1 Try.underlying23 hi hz0 hz1 hz2 rfl (by decide) u4 (2 * k) ((dO f k).map bv) rfl (hown2.alloc _) ⟨w2.heap.size, 0, none⟩ 2 2 [bv x1, bv x0] rfl rfl (World.news_of_block (cs := #[bv x1, bv x0]) (World.alloc_heap_new w2 _)) (by simp [Value.oneCell']) (by unfold maxLen; omega) (by omega) (by simp; omega) ?_
      intro v' w3 hown' hgrow _
      have hB3 : Below w1.heap.size w2 w3 := ((Below.refl _ w2).alloc hz2' (.cells #[bv x1, bv x0] 5)).grown hgrow (by simp; omega) (fun j hj => (World.ownsRow.lt hown2 j hj).1)
      refine hK.out _ _ ⟨(hB3.cell (p := ⟨g, p, none⟩) hg1).trans hS.1, by have := hB3.size; have := hS.2; omega⟩ (fun hS4 => ?_)
      clear hK K
      refine wpAnyH_take (i := 15) (v := ?_) rfl (by kernel_rfl) (by kernel_rfl) (by kernel_rfl) (fun _ _ _ h => h) (Or.inl ⟨rfl, ?_⟩) hS4 ?_
      rotate_left
      · intro w' hS'; go_simp; with_reducible rfl
      refine wpAnyH_done (by kernel_rfl) ?_ _
      go_wp2
      have hq : (p : Int) - 1 = 15 - ((k + 1 : Nat) : Int) := by have := HP.out; omega
      exact ⟨⟨k + 1, by omega, by rw [hq], by rw [HS.out, List.map_append, Nat.mul_add]; exact hown', hB2.trans hB3⟩, by simp [intOf]⟩
    · obtain rfl : k = 16 := by omega
      have hq : (15 : Int) - ((16 : Nat) : Int) = -1 := by omega
      rw [hq]
      go_wp2
      go_ret
      refine ⟨_, rfl, (BSl.of_own (e := 5) (l := dO f 16) (lo := w1.heap.size) ?_).mono hd1.size (Nat.le_refl _), hd1.trans (hB.mono hd1.size)⟩
      rw [dO_length]
      exact hown

end Go.Proofs.Ytjhfchjffiliaaa
