/-
  hash.mix: the state behind all rounds.
-/
import Derived.Test.YtneilnfjnbecbaaRnd
import Derived.IntWalk
import Derived.Outline
import Derived.Deep.QuietTactic
import Derived.BigQuiet
import Derived.StillTactics
namespace Go.Proofs.Ytneilnfjnbecbaa
open Go.RowKit

set_option maxRecDepth 100000 in
set_option maxHeartbeats 8000000 in
theorem mix_any (f m : Nat → Int) (w : World) : Calls Try.prog 44 #[uv f 8, uv m 64] w fun e W' => e = .returned (uv (mixed cb m f) 8) ∧ Below w.heap.size w W' := by
  go_enter Try.func44, Try.ntmps44
  go_wp2
  generalize hW0 : World.alloc _ _ = W0
  have kS : Blk W0 w.heap.size 63 (us f 8) := by rw [← hW0]; exact ((Blk.new' rfl).alloc _).alloc _
  have kM : Blk W0 (w.heap.size + 1) 70 (us m 64) := by rw [← hW0]; exact (Blk.new' (by simp)).alloc _
  have kR : Blk W0 (w.heap.size + 1 + 1) 63 (us (fun _ => 0) 8) := by rw [← hW0, us0_8]; exact Blk.new' (by simp)
  have d0 : Below w.heap.size w W0 := by rw [← hW0]; exact chainA (chainA (chain0 _ _) _) _
  clear hW0
  have q0 := (kS.cell 0).trans (us_at _ (by omega))
  have q1 := (kS.cell 1).trans (us_at _ (by omega))
  have q2 := (kS.cell 2).trans (us_at _ (by omega))
  have q3 := (kS.cell 3).trans (us_at _ (by omega))
  have q4 := (kS.cell 4).trans (us_at _ (by omega))
  have q5 := (kS.cell 5).trans (us_at _ (by omega))
  have q6 := (kS.cell 6).trans (us_at _ (by omega))
  have q7 := (kS.cell 7).trans (us_at _ (by omega))
  go_quiet (fail)
  go_wp2
  go_quiet (fail)
  go_wp2_with (go_at_call 63; refine (cubeRoots_any _).mono ?_; rintro e w1 ⟨rfl, hb1⟩)
  replace hb1 : Below W0.heap.size W0 w1 := (below_drewN W0 _).trans hb1
  have d1 : Below w.heap.size w w1 := chain d0 hb1
  have kS1 : Blk w1 w.heap.size 63 (us f 8) := Blk.below (n := W0.heap.size) kS hb1 kS.lt
  have kM1 : Blk w1 (w.heap.size + 1) 70 (us m 64) := Blk.below (n := W0.heap.size) kM hb1 kM.lt
  have kR1 : Blk w1 (w.heap.size + 1 + 1) 63 (us (fun _ => 0) 8) := Blk.below (n := W0.heap.size) kR hb1 kR.lt
  clear kS kM kR q0 q1 q2 q3 q4 q5 q6 q7 hb1 d0
  go_loopw [5, 6, 7, 8, 9, 10, 11, 12, 36] (fun a b c d e f' g h i wr => ∃ (k : Nat) (s : S8), k ≤ 64 ∧ Hid (s = rds cb m (s8 f) k) ∧ i = .int .i64 k ∧ a = .int .u32 s.a ∧ b = .int .u32 s.b ∧ c = .int .u32 s.c ∧ d = .int .u32 s.d ∧ e = .int .u32 s.e ∧ f' = .int .u32 s.f ∧ g = .int .u32 s.g ∧ h = .int .u32 s.h ∧
    Blk wr w.heap.size 63 (us f 8) ∧ Blk wr (w.heap.size + 1) 70 (us m 64) ∧ Blk wr (w.heap.size + 1 + 1) 63 (us (fun _ => 0) 8) ∧ Below w.heap.size w wr) (fun _ _ _ _ _ _ _ _ i _ => 64 - (intOf i).toNat)
  case atStart => exact ⟨0, s8 f, by omega, Lib.hid rfl, rfl, rfl, rfl, rfl, rfl, rfl, rfl, rfl, rfl, kS1, kM1, kR1, d1⟩
  clear kS1 kM1 kR1 d1
  case round =>
    obtain ⟨k, ⟨a, b, c, d, e, f', g, h⟩, hk, HS, rfl, rfl, rfl, rfl, rfl, rfl, rfl, rfl, rfl, kS, kM, kR, hB⟩ := hrel
    dsimp only
    by_cases hlt : k < 64
    · have hix := run_index_us 70 64 und64 cb k hlt
      have cM := (kM.cell k).trans (us_at _ hlt)
      have hk0 : (k : Int) < 64 := by omega
      go_wp2_with fail
      have L3 : (0 : Int) ≤ (k : Int) := by omega
      have hsg : (if IntKind.u32.signed = true then (-1 : Int) else IntKind.u32.max) = 4294967295 := by decide
      refine wp_region_still_lit (by kernel_rfl) (by kernel_rfl) ?_
      repeat still_step
      still_call (rotr_still _ _ 6 t6 rfl _)
      repeat still_step
      still_call (rotr_still _ _ 11 t11 rfl _)
      repeat still_step
      still_call (rotr_still _ _ 25 t25 rfl _)
      repeat still_step
      refine wpStill_nil ?_
      generalize hx1 : IntKind.u32.wrap (IntKind.u32.wrap (IntKind.u32.wrap (IntKind.u32.wrap (h + _) + _) + cb k) + m k) = x1
      have HX1 : Hid (tmp1 ⟨a, b, c, d, e, f', g, h⟩ (cb k) (m k) = x1) := Lib.hid (by
        rw [← hx1]; simp only [tmp1, bs1, chs3, IntKind.wrap_u32, Int.emod_add_emod])
      clear hx1
      replace kS : Blk wr.drew w.heap.size 63 (us f 8) := kS
      replace kM : Blk wr.drew (w.heap.size + 1) 70 (us m 64) := kM
      replace kR : Blk wr.drew (w.heap.size + 1 + 1) 63 (us (fun _ => 0) 8) := kR
      replace hB : Below w.heap.size w wr.drew := hB.drew
      change Exit.then _ _ _ _ wr.drew
      generalize wr.drew = wq at *
      clear cM hix hsg
      go_wp2_with fail
      refine (rotr_still _ _ 2 t2 rfl _).mono ?_
      rintro e' w' ⟨rfl, rfl⟩
      go_wp2_with fail
      refine (rotr_still _ _ 13 t13 rfl _).mono ?_
      rintro e' w' ⟨rfl, rfl⟩
      go_wp2_with fail
      refine (rotr_still _ _ 22 t22 rfl _).mono ?_
      rintro e' w' ⟨rfl, rfl⟩
      go_wp2_with fail
      exact ⟨⟨k + 1, rnd ⟨a, b, c, d, e, f', g, h⟩ (cb k) (m k), by omega, Lib.hid (by rw [HS.out]; rfl), by simp, by rw [← HX1.out]; rfl, rfl, rfl, rfl, by rw [← HX1.out]; rfl, rfl, rfl, rfl, kS, kM, kR, hB⟩, by simp [intOf]; omega⟩
    · obtain rfl : k = 64 := by omega
      clear hk hlt
      go_wp2
      go_loopw [107] (fun i wr => ∃ k : Nat, k ≤ 8 ∧ i = .int .i64 k ∧ Blk wr w.heap.size 63 (us (fun t => if t < k then mixed cb m f t else f t) 8) ∧ Blk wr (w.heap.size + 1 + 1) 63 (us (fun _ => 0) 8) ∧ Below w.heap.size w wr) (fun i _ => 8 - (intOf i).toNat)
      case atStart => exact ⟨0, by omega, rfl, kS, kR, hB⟩
      case round =>
        obtain ⟨k, hk, rfl, kS, kR, hB⟩ := hrel
        by_cases hlt : k < 8
        · have hix : ∀ w, (Instr.index 63 (.agg #[.int .u32 a, .int .u32 b, .int .u32 c, .int .u32 d, .int .u32 e, .int .u32 f', .int .u32 g, .int .u32 h]) (.int .i64 (k : Int))).run Try.prog w = .ok (.int .u32 (S8.at ⟨a, b, c, d, e, f', g, h⟩ k)) w := run_index_us 63 8 und8 (S8.at ⟨a, b, c, d, e, f', g, h⟩) k hlt
          have cS := (kS.cell k).trans (us_at _ hlt)
          rw [if_neg (by omega)] at cS
          have hf := kS.frozen k
          have hk0 : (k : Int) < 8 := by omega
          have HM : Hid (mixed cb m f k = (f k + S8.at ⟨a, b, c, d, e, f', g, h⟩ k) % 4294967296) := Lib.hid (by unfold mixed; rw [← HS.out])
          generalize S8.at ⟨a, b, c, d, e, f', g, h⟩ k = z at *
          go_wp2_with fail
          rw [← HM.out]
          have kS' := kS.set k (.int .u32 (mixed cb m f k))
          rw [us_set, us_congr (g := fun t => if t < k + 1 then mixed cb m f t else f t) (fun t ht => by
            unfold updI
            by_cases e1 : t = k
            · subst e1; rw [if_pos rfl, if_pos (by omega)]
            · rw [if_neg e1]
              show (if t < k then mixed cb m f t else f t) = _
              by_cases e2 : t < k
              · rw [if_pos e2, if_pos (by omega)]
              · rw [if_neg e2, if_neg (by omega)])] at kS'
          exact ⟨⟨k + 1, by omega, by simp, kS', kR.other _ _ (by omega), hB.setCell (p := ⟨w.heap.size, _, none⟩) (by simp) _⟩, by simp [intOf]; omega⟩
        · obtain rfl : k = 8 := by omega
          rw [us_congr (g := mixed cb m f) (fun t ht => if_pos ht)] at kS
          go_wp2_with (first | (with_reducible refine arr_load arr8 rfl (.tmp 2) rfl w.heap.size rfl 63 (mixed cb m f) kS ?_) | (with_reducible refine arr_store arr8 rfl (.tmp 4) (.tmp 118) rfl (w.heap.size + 1 + 1) rfl (mixed cb m f) rfl 63 (fun _ => 0) kR ?_; intro w5 kR5 hg5))
          exact bodyPost_ret (v := uv (mixed cb m f) 8) (arr_result arr8 rfl _ _ (w.heap.size + 1 + 1) 63 (mixed cb m f) rfl kR5) rfl ⟨rfl, hB.grown hg5 hB.size (fun k e => by have : w.heap.size + 1 + 1 = k := Option.some.inj e; omega)⟩
end Go.Proofs.Ytneilnfjnbecbaa
