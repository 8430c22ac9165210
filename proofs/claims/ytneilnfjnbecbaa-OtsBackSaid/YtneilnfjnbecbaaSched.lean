/-
  hash.schedule: a block's words, then those made of earlier ones.
-/
import Derived.Test.YtneilnfjnbecbaaWords
import Derived.Test.YtneilnfjnbecbaaArr
import Derived.IntWalk
import Derived.Outline
import Derived.Deep.QuietTactic
import Derived.BigQuiet
import Derived.StillTailTactics
import Derived.RegionTactic
namespace Go.Proofs.Ytneilnfjnbecbaa
open Go.RowKit

/-- What is made of an early word, and of a late one. -/
def sg0 (x : Int) : Int := bits .xor .u32 (bits .xor .u32 (rot x 7) (rot x 18)) (x / 8)
def sg1 (x : Int) : Int := bits .xor .u32 (bits .xor .u32 (rot x 17) (rot x 19)) (x / 1024)
/-- The word at place t, of earlier ones. -/
def nw (f : Nat → Int) (t : Nat) : Int := (sg1 (f (t - 2)) + f (t - 7) + sg0 (f (t - 15)) + f (t - 16)) % 4294967296
/-- Behind k rounds. -/
def sch (f : Nat → Int) : Nat → Nat → Int
  | 0 => fun t => if t < 16 then f t else 0
  | k + 1 => updI (sch f k) (k + 16) (nw (sch f k) (k + 16))

set_option maxRecDepth 100000 in
set_option maxHeartbeats 4000000 in
theorem schedule_any (f : Nat → Int) (w : World) : Calls Try.prog 45 #[uv f 16] w fun e W' => e = .returned (uv (sch f 48) 64) ∧ Below w.heap.size w W' := by
  have hmx : Try.prog.follows .mixedOrders = true := by kernel_rfl
  go_enter Try.func45, Try.ntmps45
  go_wp2
  generalize hW0 : World.alloc _ _ = W0
  have kS : Blk W0 w.heap.size 68 (us f 16) := by rw [← hW0]; exact ((Blk.new' rfl).alloc _).alloc _
  have kR : Blk W0 (w.heap.size + 1) 70 (us (fun _ => 0) 64) := by rw [← hW0, us0_64]; exact (Blk.new' (by simp)).alloc _
  have kW : Blk W0 (w.heap.size + 1 + 1) 70 (us (fun _ => 0) 64) := by rw [← hW0, us0_64]; exact Blk.new' (by simp)
  have d0 : Below w.heap.size w W0 := by rw [← hW0]; exact chainA (chainA (chain0 _ _) _) _
  clear hW0
  refine wp_region_any hmx ?_
  change wpAny _ _ _ _ _ _ _ (World.drew _)
  refine wpAny_take (i := 0) (v := ?_) rfl (by kernel_rfl) (by kernel_rfl) (by kernel_rfl) (fun _ _ _ h => h) (Or.inl ⟨rfl, ?_⟩) ?_
  rotate_left
  · intro w'; go_simp; with_reducible rfl
  refine wpAny_take (i := 1) (v := ?_) rfl (by kernel_rfl) (by kernel_rfl) (by kernel_rfl) (fun _ _ _ h => h) (Or.inl ⟨rfl, ?_⟩) ?_
  rotate_left
  · intro w'; go_simp; with_reducible rfl
  refine wpAny_ready (rs := [2]) (by kernel_rfl) (by simp) ?_
  refine AllReady.cons rfl (fun K hK => ?_) AllReady.nil
  refine step_copy_splice rfl (.tmp 8) (.tmp 9) 89 89 rfl 62 (by kernel_rfl) (by kernel_rfl) (some ⟨w.heap.size + 1 + 1, 0, none⟩) (some ⟨w.heap.size, 0, none⟩) 64 64 16 16 rfl rfl (w.heap.size + 1 + 1) 0 (us (fun _ => 0) 64) 70 kW (us f 16) (by rw [us_length]; rfl)
    (fun _ => ⟨rfl, _, rfl, fun j v hj => ?_⟩) (by rw [us_length, us_length]; omega) (us_one _ _) (w.heap.size + 1 + 1) W0 ((Below.refl _ _).drew) (Nat.le_refl _) ?_
  · have h16 : j < 16 := by have := (List.getElem?_eq_some_iff.1 hj).1; rwa [us_length] at this
    have hc : W0.cell? ⟨w.heap.size, 0 + j, none⟩ = some v := by rw [Nat.zero_add]; exact (kS.cell j).trans hj
    cases j <;> exact hc
  intro w4 hg4 hb4
  refine hK _ _ ?_
  clear hK K
  refine wpAny_done (by kernel_rfl) ?_ _
  have hg5 := hg4.out
  rw [us_splice _ _ (by omega)] at hg5
  have k4 : Blk w4 (w.heap.size + 1 + 1) 70 (us (sch f 0) 64) := hg5
  have kR4 := kR.below hb4 (by omega)
  have d4 : Below w.heap.size w w4 := d0.trans (hb4.mono (by omega))
  clear hg4 hg5 hb4 kS kR kW d0
  go_wp2
  go_loopw [11] (fun i wr => ∃ k : Nat, k ≤ 48 ∧ i = .int .i64 k ∧ Blk wr (w.heap.size + 1 + 1) 70 (us (sch f k) 64) ∧ Blk wr (w.heap.size + 1) 70 (us (fun _ => 0) 64) ∧ Below w.heap.size w wr) (fun i _ => 48 - (intOf i).toNat)
  case atStart => exact ⟨0, by omega, rfl, k4, kR4, d4⟩
  case round =>
    obtain ⟨k, hk, rfl, kW, kR, hB⟩ := hrel
    by_cases hlt : k < 48
    · obtain ⟨T, hT⟩ : ∃ T, T = k + 16 := ⟨_, rfl⟩
      have c2 := (kW.cell (T - 2)).trans (us_at _ (by omega))
      have c15 := (kW.cell (T - 15)).trans (us_at _ (by omega))
      have c7 := (kW.cell (T - 7)).trans (us_at _ (by omega))
      have c16 := (kW.cell (T - 16)).trans (us_at _ (by omega))
      have hf := kW.frozen T
      have cT := (kW.cell T).trans (us_at _ (by omega))
      have hk0 : (k : Int) < 48 := by omega
      have hT2 : (T : Int) < 64 := by omega
      have hT3 : 16 ≤ (T : Int) := by omega
      have HT := Lib.hid hT
      clear hT
      go_wp2
      rw [show (k : Int) + 16 = (T : Int) by have := HT.out; omega]
      have l2 : IntKind.i64.wrap ((T : Int) - 2) = (T : Int) - 2 := IntWalk.i64_in _ (by omega)
      have l15 : IntKind.i64.wrap ((T : Int) - 15) = (T : Int) - 15 := IntWalk.i64_in _ (by omega)
      have b2 : 0 ≤ (T : Int) - 2 := by omega
      have b2' : (T : Int) - 2 < 64 := by omega
      have b15 : 0 ≤ (T : Int) - 15 := by omega
      have b15' : (T : Int) - 15 < 64 := by omega
      have n2 : ((T : Int) - 2).toNat = T - 2 := by omega
      have n15 : ((T : Int) - 15).toNat = T - 15 := by omega
      go_quiet (fail)
      clear l2 l15 b2 b2' b15 b15' n2 n15 c2 c15
      replace kW : Blk (wr.drewN nq) (w.heap.size + 1 + 1) 70 (us (sch f k) 64) := kW
      replace kR : Blk (wr.drewN nq) (w.heap.size + 1) 70 (us (fun _ => 0) 64) := kR
      replace hB : Below w.heap.size w (wr.drewN nq) := hB.trans ⟨rfl, rfl, rfl, Nat.le_refl _, fun _ _ => rfl⟩
      replace hf : (wr.drewN nq).frozen? ⟨w.heap.size + 1 + 1, T, none⟩ = false := hf
      replace c7 : (wr.drewN nq).cell? ⟨w.heap.size + 1 + 1, T - 7, none⟩ = some (.int .u32 (sch f k (T - 7))) := c7
      replace c16 : (wr.drewN nq).cell? ⟨w.heap.size + 1 + 1, T - 16, none⟩ = some (.int .u32 (sch f k (T - 16))) := c16
      replace cT : (wr.drewN nq).cell? ⟨w.heap.size + 1 + 1, T, none⟩ = some (.int .u32 (sch f k T)) := cT
      generalize wr.drewN nq = wq at *
      have HN := Lib.hid (show nw (sch f k) T = (bits .xor .u32 (bits .xor .u32 (rot (sch f k (T - 2)) 17) (rot (sch f k (T - 2)) 19)) (sch f k (T - 2) / 1024) + sch f k (T - 7) + bits .xor .u32 (bits .xor .u32 (rot (sch f k (T - 15)) 7) (rot (sch f k (T - 15)) 18)) (sch f k (T - 15) / 8) + sch f k (T - 16)) % 4294967296 from rfl)
      generalize sch f k T = xT at *
      generalize sch f k (T - 2) = x2 at *
      generalize sch f k (T - 15) = x15 at *
      generalize sch f k (T - 7) = x7 at *
      generalize sch f k (T - 16) = x16 at *
      go_wp2
      have l7 : IntKind.i64.wrap ((T : Int) - 7) = (T : Int) - 7 := IntWalk.i64_in _ (by omega)
      have l16 : IntKind.i64.wrap ((T : Int) - 16) = (T : Int) - 16 := IntWalk.i64_in _ (by omega)
      have b7 : 0 ≤ (T : Int) - 7 := by omega
      have b7' : (T : Int) - 7 < 64 := by omega
      have b16 : 0 ≤ (T : Int) - 16 := by omega
      have b16' : (T : Int) - 16 < 64 := by omega
      have b7n : 7 ≤ (T : Int) := by omega
      have n7 : ((T : Int) - 7).toNat = T - 7 := by omega
      have n16 : ((T : Int) - 16).toNat = T - 16 := by omega
      go_still_tail 29, (by kernel_rfl)
      still_call (rotr_still _ _ 17 t17 rfl _)
      repeat still_step
      still_call (rotr_still _ _ 19 t19 rfl _)
      repeat still_step
      still_call (rotr_still _ _ 7 t7 rfl _)
      repeat still_step
      still_call (rotr_still _ _ 18 t18 rfl _)
      repeat still_step
      refine wpStill_nil ?_
      change wpList _ _ _ _ _ wq.drew
      clear l7 l16
      go_wp2
      rw [← HN.out]
      have hT := HT.out
      subst hT
      have kW' := kW.set (k + 16) (.int .u32 (nw (sch f k) (k + 16)))
      rw [us_set] at kW'
      exact ⟨⟨k + 1, by omega, by simp, kW', kR.other _ _ (by omega), (hB.setCell (p := ⟨w.heap.size + 1 + 1, _, none⟩) (by simp; omega) _).drew⟩, by simp [intOf]; omega⟩
    · obtain rfl : k = 48 := by omega
      go_wp2_with (first | (with_reducible refine arr_load arr64 rfl (.tmp 3) rfl (w.heap.size + 1 + 1) rfl 70 (sch f 48) kW ?_) | (with_reducible refine arr_store arr64 rfl (.tmp 2) (.tmp 54) rfl (w.heap.size + 1) rfl (sch f 48) rfl 70 (fun _ => 0) kR ?_; intro w5 kR5 hg5))
      exact bodyPost_ret (v := uv (sch f 48) 64) (arr_result arr64 rfl _ _ (w.heap.size + 1) 70 (sch f 48) rfl kR5) rfl ⟨rfl, hB.grown hg5 hB.size (fun k e => by have : w.heap.size + 1 = k := Option.some.inj e; omega)⟩
end Go.Proofs.Ytneilnfjnbecbaa
