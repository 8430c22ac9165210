/-
  The reference's block: the state behind a block; slices.Grow of the nil slice; slices.Concat of octets; hash.Pad: a text, the end's mark, zeros, its length in bits; The reference's Pad; The reference's Over and Sum; hash.blocks: a padded text block by block, each as its words
-/
import Derived.IntWalk
import Derived.Outline
import Derived.Deep.QuietTactic
import Derived.BigQuiet
import Derived.StillTailTactics
import Derived.Lib.AppendZeros
import Derived.OwnWalkIn
import Derived.Test.YtbjpifcgnombaaaK06
namespace Go.Proofs.Ytbjpifcgnombaaa
open Go.RowKit
def wd (l : List UInt8) (t : Nat) : Int := (be ((l.drop (4 * t)).take 4) : Nat)
def wst (f : Nat → Int) (t : Nat) : Nat → Int := if t ≤ 16 then (fun i => if i < t then f i else 0) else sch f (t - 16)
theorem wst_low {f : Nat → Int} {t : Nat} (h : t < 16) : us (updI (wst f t) t (f t)) 64 = us (wst f (t + 1)) 64 := us_congr fun k _ => by
  unfold wst updI
  rw [if_pos (show t ≤ 16 by omega), if_pos (show t + 1 ≤ 16 by omega)]
  by_cases e : k = t
  · subst e; simp
  · rw [if_neg e]
    show (if k < t then f k else 0) = if k < t + 1 then f k else 0
    by_cases e2 : k < t
    · rw [if_pos e2, if_pos (by omega)]
    · rw [if_neg e2, if_neg (by omega)]
theorem wst_high {f : Nat → Int} {t : Nat} (h : 16 ≤ t) : wst f t = sch f (t - 16) := by
  unfold wst
  by_cases e : t ≤ 16
  · have : t = 16 := by omega
    subst this
    rfl
  · rw [if_neg e]
theorem sch_succ {f : Nat → Int} {t : Nat} (h : 16 ≤ t) : sch f (t + 1 - 16) = updI (sch f (t - 16)) t (nwS (sch f (t - 16)) t) := by
  obtain ⟨k, rfl⟩ : ∃ k, t = k + 16 := ⟨t - 16, by omega⟩
  rw [show k + 16 + 1 - 16 = k + 1 by omega, show k + 16 - 16 = k by omega]
  rfl
theorem sub_octs {W : World} {b off : Nat} {l : List UInt8} (h : Octs W b off l) (i n : Nat) : Octs W b (off + i) ((l.drop i).take n) := fun k x hx => by
  have hk : k < n := by
    have := (List.getElem?_eq_some_iff.1 hx).1
    rw [List.length_take] at this
    omega
  rw [List.getElem?_take_of_lt hk, List.getElem?_drop] at hx
  rw [Nat.add_assoc]
  exact h _ x hx
theorem sub_bsl {W : World} {b off cap hi : Nat} {l : List UInt8} (h : Octs W b off l) (hb : b < hi) (i n : Nat) (hl : i + n ≤ l.length) (hc : n ≤ cap) : BSl 0 hi W (.slice (some ⟨b, off + i, none⟩) n cap) ((l.drop i).take n) :=
  ⟨_, cap, by rw [show ((l.drop i).take n).length = n by simp; omega], by simp; omega, .inr ⟨b, _, rfl, Nat.zero_le _, hb, sub_octs h i n⟩⟩
theorem wd_be {l : List UInt8} (t : Nat) : ((be (((l.drop (4 * t)).take 4).take 7) : Nat) : Int) = wd l t ∧ 0 ≤ wd l t ∧ wd l t ≤ 4294967295 := by
  have hle : ((l.drop (4 * t)).take 4).length ≤ 4 := by simp; omega
  have := be_lt' hle
  rw [List.take_of_length_le (by omega)]
  unfold wd
  omega
theorem us8 (g : Nat → Int) : us g 8 = [.int .u32 (g 0), .int .u32 (g 1), .int .u32 (g 2), .int .u32 (g 3), .int .u32 (g 4), .int .u32 (g 5), .int .u32 (g 6), .int .u32 (g 7)] := rfl
set_option maxRecDepth 100000 in
set_option maxHeartbeats 8000000 in
theorem refBlock_any (f kk : Nat → Int) (l : List UInt8) (hl : l.length = 64) (b off cap : Nat) (hcap : 64 ≤ cap) (hcap' : cap ≤ 9223372036854775807) (w : World) (hb : b < w.heap.size) (ho : Octs w b off l) :
    Calls Try.prog 68 #[uv f 8, uv kk 64, .slice (some ⟨b, off, none⟩) 64 cap] w fun e W' => e = .returned (uv (mixed kk (sch (wd l) 48) f) 8) ∧ Below w.heap.size w W' := by
  have HL := Lib.hid hl
  clear hl
  go_enter Try.func68, Try.ntmps68
  go_wp2
  generalize hW0 : World.alloc _ _ = W0
  have kS : Blk W0 w.heap.size 119 (us f 8) := by rw [← hW0]; exact (((Blk.new' rfl).alloc _).alloc _).alloc _
  have kK : Blk W0 (w.heap.size + 1) 120 (us kk 64) := by rw [← hW0]; exact ((Blk.new' (by simp)).alloc _).alloc _
  have kR : Blk W0 (w.heap.size + 1 + 1) 119 (us (fun _ => 0) 8) := by rw [← hW0, us0_8]; exact (Blk.new' (by simp)).alloc _
  have kW : Blk W0 (w.heap.size + 1 + 1 + 1) 120 (us (fun _ => 0) 64) := by rw [← hW0, us0_64]; exact Blk.new' (by simp)
  have d0 : Below w.heap.size w W0 := by rw [← hW0]; exact chainA (chainA (chainA (chain0 _ _) _) _) _
  clear hW0
  go_loopw [8] (fun i wr => ∃ t : Nat, t ≤ 64 ∧ i = .int .i64 t ∧ Blk wr w.heap.size 119 (us f 8) ∧ Blk wr (w.heap.size + 1) 120 (us kk 64) ∧ Blk wr (w.heap.size + 1 + 1) 119 (us (fun _ => 0) 8) ∧
    Blk wr (w.heap.size + 1 + 1 + 1) 120 (us (wst (wd l) t) 64) ∧ Below w.heap.size w wr) (fun i _ => 64 - (intOf i).toNat)
  case atStart => exact ⟨0, by omega, rfl, kS, kK, kR, kW, d0⟩
  case round =>
    obtain ⟨t, ht, rfl, kS, kK, kR, kW, hB⟩ := hrel
    by_cases hlt : t < 64
    · by_cases h16 : t < 16
      · have hf := kW.frozen t
        have cT := (kW.cell t).trans (us_at _ (by omega))
        have i1 : (t : Int) < 64 := by omega
        have i2 : (t : Int) < 16 := by omega
        have i3 : (0 : Int) ≤ 4 * (t : Int) := by omega
        have i4 : 4 * (t : Int) + 4 ≤ (cap : Int) := by omega
        have i5 : 4 * (t : Int) ≤ 4 * (t : Int) + 4 := by omega
        have hne : ¬ cap = 4 * t := by omega
        have n1 : (4 * (t : Int)).toNat = 4 * t := by omega
        go_wp2_with fail
        refine (refInt_any ((l.drop (4 * t)).take 4) _ _ (by simp; omega) (sub_bsl (ho.below hB hb) (Nat.lt_of_lt_of_le hb hB.size) (4 * t) 4 (by rw [HL.out]; omega) (by omega))).mono ?_
        rintro e w' ⟨rfl, rfl⟩
        obtain ⟨hw, hw0, hw1⟩ := wd_be (l := l) t
        rw [hw]
        have HW := Lib.hid (wst_low (f := wd l) h16)
        clear hw
        generalize hx : wd l t = x at *
        have HX := Lib.hid hx
        clear hx i3 i4 i5 n1 hne
        go_wp2_with fail
        have kW' := kW.set t (.int .u32 x)
        rw [us_set, HW.out] at kW'
        exact ⟨⟨t + 1, by omega, by simp, kS.other _ _ (by omega), kK.other _ _ (by omega), kR.other _ _ (by omega), kW', hB.setCell (p := ⟨w.heap.size + 1 + 1 + 1, _, none⟩) (by simp; omega) _⟩, by simp [intOf]; omega⟩
      · have HS := Lib.hid (sch_succ (f := wd l) (t := t) (by omega))
        have HW := Lib.hid (wst_high (f := wd l) (t := t + 1) (by omega))
        rw [wst_high (by omega)] at kW
        generalize hF : sch (wd l) (t - 16) = F at *
        have HF := Lib.hid hF
        clear hF
        have c2 := (kW.cell (t - 2)).trans (us_at _ (by omega))
        have c15 := (kW.cell (t - 15)).trans (us_at _ (by omega))
        have c7 := (kW.cell (t - 7)).trans (us_at _ (by omega))
        have c16 := (kW.cell (t - 16)).trans (us_at _ (by omega))
        have cT := (kW.cell t).trans (us_at _ (by omega))
        have hf := kW.frozen t
        have hT2 : (t : Int) < 64 := by omega
        have hT3 : 16 ≤ (t : Int) := by omega
        have hT4 : ¬ (t : Int) < 16 := by omega
        go_wp2_with fail
        have l2 : IntKind.i64.wrap ((t : Int) - 2) = (t : Int) - 2 := IntWalk.i64_in _ (by omega)
        have l15 : IntKind.i64.wrap ((t : Int) - 15) = (t : Int) - 15 := IntWalk.i64_in _ (by omega)
        have b2 : 0 ≤ (t : Int) - 2 := by omega
        have b2' : (t : Int) - 2 < 64 := by omega
        have b15 : 0 ≤ (t : Int) - 15 := by omega
        have b15' : (t : Int) - 15 < 64 := by omega
        have n2 : ((t : Int) - 2).toNat = t - 2 := by omega
        have n15 : ((t : Int) - 15).toNat = t - 15 := by omega
        go_quiet (fail)
        clear l2 l15 b2 b2' b15 b15' n2 n15 c2 c15
        replace kS : Blk (wr.drewN nq) w.heap.size 119 (us f 8) := kS
        replace kK : Blk (wr.drewN nq) (w.heap.size + 1) 120 (us kk 64) := kK
        replace kW : Blk (wr.drewN nq) (w.heap.size + 1 + 1 + 1) 120 (us F 64) := kW
        replace kR : Blk (wr.drewN nq) (w.heap.size + 1 + 1) 119 (us (fun _ => 0) 8) := kR
        replace hB : Below w.heap.size w (wr.drewN nq) := hB.trans (below_drewN _ _)
        replace hf : (wr.drewN nq).frozen? ⟨w.heap.size + 1 + 1 + 1, t, none⟩ = false := hf
        replace c7 : (wr.drewN nq).cell? ⟨w.heap.size + 1 + 1 + 1, t - 7, none⟩ = some (.int .u32 (F (t - 7))) := c7
        replace c16 : (wr.drewN nq).cell? ⟨w.heap.size + 1 + 1 + 1, t - 16, none⟩ = some (.int .u32 (F (t - 16))) := c16
        replace cT : (wr.drewN nq).cell? ⟨w.heap.size + 1 + 1 + 1, t, none⟩ = some (.int .u32 (F t)) := cT
        generalize wr.drewN nq = wq at *
        have HN := Lib.hid (show nwS F t = (bits .xor .u32 (bits .xor .u32 (rot (F (t - 2)) 17) (rot (F (t - 2)) 19)) (F (t - 2) / 1024) + F (t - 7) + bits .xor .u32 (bits .xor .u32 (rot (F (t - 15)) 7) (rot (F (t - 15)) 18)) (F (t - 15) / 8) + F (t - 16)) % 4294967296 from rfl)
        generalize F t = xT at *
        generalize F (t - 2) = x2 at *
        generalize F (t - 15) = x15 at *
        generalize F (t - 7) = x7 at *
        generalize F (t - 16) = x16 at *
        go_wp2
        have l7 : IntKind.i64.wrap ((t : Int) - 7) = (t : Int) - 7 := IntWalk.i64_in _ (by omega)
        have l16 : IntKind.i64.wrap ((t : Int) - 16) = (t : Int) - 16 := IntWalk.i64_in _ (by omega)
        have b7 : 0 ≤ (t : Int) - 7 := by omega
        have b7' : (t : Int) - 7 < 64 := by omega
        have b16 : 0 ≤ (t : Int) - 16 := by omega
        have b16' : (t : Int) - 16 < 64 := by omega
        have b7n : 7 ≤ (t : Int) := by omega
        have n7 : ((t : Int) - 7).toNat = t - 7 := by omega
        have n16 : ((t : Int) - 16).toNat = t - 16 := by omega
        go_still_tail 29, (by kernel_rfl)
        still_call (turn_still _ _ 17 t17 rfl _)
        repeat still_step
        still_call (turn_still _ _ 19 t19 rfl _)
        repeat still_step
        still_call (turn_still _ _ 7 t7 rfl _)
        repeat still_step
        still_call (turn_still _ _ 18 t18 rfl _)
        repeat still_step
        refine wpStill_nil ?_
        change wpList _ _ _ _ _ wq.drew
        clear l7 l16
        go_wp2
        rw [← HN.out]
        have kW' := kW.set t (.int .u32 (nwS F t))
        rw [us_set, ← HS.out, ← HW.out] at kW'
        exact ⟨⟨t + 1, by omega, by simp, kS.other _ _ (by omega), kK.other _ _ (by omega), kR.other _ _ (by omega), kW', (hB.setCell (p := ⟨w.heap.size + 1 + 1 + 1, _, none⟩) (by simp; omega) _).drew⟩, by simp [intOf]; omega⟩
    · have hT : ¬ (t : Int) < 64 := by omega
      have ht' : t - 16 = 48 := by omega
      rw [wst_high (by omega), ht'] at kW
      generalize hm : sch (wd l) 48 = m at *
      have HMM := Lib.hid hm
      clear hm ht hlt ht'
      have q0 := (kS.cell 0).trans (us_at _ (by omega))
      have q1 := (kS.cell 1).trans (us_at _ (by omega))
      have q2 := (kS.cell 2).trans (us_at _ (by omega))
      have q3 := (kS.cell 3).trans (us_at _ (by omega))
      have q4 := (kS.cell 4).trans (us_at _ (by omega))
      have q5 := (kS.cell 5).trans (us_at _ (by omega))
      have q6 := (kS.cell 6).trans (us_at _ (by omega))
      have q7 := (kS.cell 7).trans (us_at _ (by omega))
      go_wp2_with fail
      go_quiet (fail)
      replace kS : Blk (wr.drewN nq) w.heap.size 119 (us f 8) := kS
      replace kK : Blk (wr.drewN nq) (w.heap.size + 1) 120 (us kk 64) := kK
      replace kW : Blk (wr.drewN nq) (w.heap.size + 1 + 1 + 1) 120 (us m 64) := kW
      replace kR : Blk (wr.drewN nq) (w.heap.size + 1 + 1) 119 (us (fun _ => 0) 8) := kR
      replace hB : Below w.heap.size w (wr.drewN nq) := hB.trans (below_drewN _ _)
      clear q0 q1 q2 q3 q4 q5 q6 q7
      generalize wr.drewN nq = wq at *
      go_wp2_with fail
      go_loopw [11, 12, 13, 14, 15, 16, 17, 18, 19] (fun a b c d e f' g h i wr => ∃ (k : Nat) (s : S8), k ≤ 64 ∧ Hid (s = rds kk m (s8 f) k) ∧ i = .int .i64 k ∧ a = .int .u32 s.a ∧ b = .int .u32 s.b ∧ c = .int .u32 s.c ∧ d = .int .u32 s.d ∧ e = .int .u32 s.e ∧ f' = .int .u32 s.f ∧ g = .int .u32 s.g ∧ h = .int .u32 s.h ∧
        Blk wr w.heap.size 119 (us f 8) ∧ Blk wr (w.heap.size + 1) 120 (us kk 64) ∧ Blk wr (w.heap.size + 1 + 1) 119 (us (fun _ => 0) 8) ∧ Blk wr (w.heap.size + 1 + 1 + 1) 120 (us m 64) ∧ Below w.heap.size w wr) (fun _ _ _ _ _ _ _ _ i _ => 64 - (intOf i).toNat)
      case atStart => exact ⟨0, s8 f, by omega, Lib.hid rfl, rfl, rfl, rfl, rfl, rfl, rfl, rfl, rfl, rfl, kS, kK, kR, kW, hB⟩
      clear kS kK kW kR hB
      case round =>
        obtain ⟨k, ⟨a, b', c, d, e, f', g, h⟩, hk, HS, rfl, rfl, rfl, rfl, rfl, rfl, rfl, rfl, rfl, kS, kK, kR, kW, hB⟩ := hrel
        dsimp only
        by_cases hlt : k < 64
        · have cM := (kW.cell k).trans (us_at _ hlt)
          have cK := (kK.cell k).trans (us_at _ hlt)
          have hk0 : (k : Int) < 64 := by omega
          go_wp2_with fail
          refine wp_region_still_lit (by kernel_rfl) (by kernel_rfl) ?_
          repeat still_step
          still_call (turn_still _ _ 6 t6 rfl _)
          repeat still_step
          still_call (turn_still _ _ 11 t11 rfl _)
          repeat still_step
          still_call (turn_still _ _ 25 t25 rfl _)
          repeat still_step
          refine wpStill_nil ?_
          generalize hx1 : IntKind.u32.wrap (IntKind.u32.wrap (IntKind.u32.wrap (IntKind.u32.wrap (h + _) + _) + kk k) + m k) = x1
          have HX1 : Hid (tmp1 ⟨a, b', c, d, e, f', g, h⟩ (kk k) (m k) = x1) := Lib.hid (by
            rw [← hx1]; simp only [tmp1, bs1, chs3, IntKind.wrap_u32, Int.emod_add_emod])
          clear hx1
          replace kS : Blk wr.drew w.heap.size 119 (us f 8) := kS
          replace kK : Blk wr.drew (w.heap.size + 1) 120 (us kk 64) := kK
          replace kR : Blk wr.drew (w.heap.size + 1 + 1) 119 (us (fun _ => 0) 8) := kR
          replace kW : Blk wr.drew (w.heap.size + 1 + 1 + 1) 120 (us m 64) := kW
          replace hB : Below w.heap.size w wr.drew := hB.drew
          change Exit.then _ _ _ _ wr.drew
          generalize wr.drew = wq at *
          clear cM cK
          go_wp2_with fail
          refine (turn_still _ _ 2 t2 rfl _).mono ?_
          rintro e' w' ⟨rfl, rfl⟩
          go_wp2_with fail
          refine (turn_still _ _ 13 t13 rfl _).mono ?_
          rintro e' w' ⟨rfl, rfl⟩
          go_wp2_with fail
          refine (turn_still _ _ 22 t22 rfl _).mono ?_
          rintro e' w' ⟨rfl, rfl⟩
          go_wp2_with fail
          exact ⟨⟨k + 1, rnd ⟨a, b', c, d, e, f', g, h⟩ (kk k) (m k), by omega, Lib.hid (by rw [HS.out]; rfl), by simp, by rw [← HX1.out]; rfl, rfl, rfl, rfl, by rw [← HX1.out]; rfl, rfl, rfl, rfl, kS, kK, kR, kW, hB⟩, by simp [intOf]; omega⟩
        · obtain rfl : k = 64 := by omega
          have q0 := (kS.cell 0).trans (us_at _ (by omega))
          have q1 := (kS.cell 1).trans (us_at _ (by omega))
          have q2 := (kS.cell 2).trans (us_at _ (by omega))
          have q3 := (kS.cell 3).trans (us_at _ (by omega))
          have q4 := (kS.cell 4).trans (us_at _ (by omega))
          have q5 := (kS.cell 5).trans (us_at _ (by omega))
          have q6 := (kS.cell 6).trans (us_at _ (by omega))
          have q7 := (kS.cell 7).trans (us_at _ (by omega))
          have hM : mixed kk m f = fun i => (f i + S8.at ⟨a, b', c, d, e, f', g, h⟩ i) % 4294967296 := by unfold mixed; rw [← HS.out]
          have HM := Lib.hid hM
          clear hM
          obtain ⟨r0, r1, r2, r3, r4, r5, r6, r7⟩ : wr.cell? ⟨w.heap.size + 1 + 1, 0, none⟩ = some (.int .u32 0) ∧ wr.cell? ⟨w.heap.size + 1 + 1, 1, none⟩ = some (.int .u32 0) ∧ wr.cell? ⟨w.heap.size + 1 + 1, 2, none⟩ = some (.int .u32 0) ∧ wr.cell? ⟨w.heap.size + 1 + 1, 3, none⟩ = some (.int .u32 0) ∧ wr.cell? ⟨w.heap.size + 1 + 1, 4, none⟩ = some (.int .u32 0) ∧ wr.cell? ⟨w.heap.size + 1 + 1, 5, none⟩ = some (.int .u32 0) ∧ wr.cell? ⟨w.heap.size + 1 + 1, 6, none⟩ = some (.int .u32 0) ∧ wr.cell? ⟨w.heap.size + 1 + 1, 7, none⟩ = some (.int .u32 0) :=
            ⟨kR.cell 0, kR.cell 1, kR.cell 2, kR.cell 3, kR.cell 4, kR.cell 5, kR.cell 6, kR.cell 7⟩
          have f0 := kR.frozen 0
          have f1 := kR.frozen 1
          have f2 := kR.frozen 2
          have f3 := kR.frozen 3
          have f4 := kR.frozen 4
          have f5 := kR.frozen 5
          have f6 := kR.frozen 6
          have f7 := kR.frozen 7
          go_wp2_with fail
          have kR5 := (((((((kR.set 0 (.int .u32 ((f 0 + a) % 4294967296))).set 1 (.int .u32 ((f 1 + b') % 4294967296))).set 2 (.int .u32 ((f 2 + c) % 4294967296))).set 3 (.int .u32 ((f 3 + d) % 4294967296))).set 4 (.int .u32 ((f 4 + e) % 4294967296))).set 5 (.int .u32 ((f 5 + f') % 4294967296))).set 6 (.int .u32 ((f 6 + g) % 4294967296))).set 7 (.int .u32 ((f 7 + h) % 4294967296))
          rw [us0_8] at kR5
          simp only [List.set_cons_zero, List.set_cons_succ] at kR5
          have hlist : [.int .u32 ((f 0 + a) % 4294967296), .int .u32 ((f 1 + b') % 4294967296), .int .u32 ((f 2 + c) % 4294967296), .int .u32 ((f 3 + d) % 4294967296), .int .u32 ((f 4 + e) % 4294967296), .int .u32 ((f 5 + f') % 4294967296), .int .u32 ((f 6 + g) % 4294967296), .int .u32 ((f 7 + h) % 4294967296)] = us (mixed kk m f) 8 := by rw [HM.out, us8]; simp only [S8.at]
          rw [hlist] at kR5
          have hB5 := (((((((hB.setCell (p := ⟨w.heap.size + 1 + 1, 0, none⟩) (by simp; omega) (.int .u32 ((f 0 + a) % 4294967296))).setCell (p := ⟨w.heap.size + 1 + 1, 1, none⟩) (by simp; omega) (.int .u32 ((f 1 + b') % 4294967296))).setCell (p := ⟨w.heap.size + 1 + 1, 2, none⟩) (by simp; omega) (.int .u32 ((f 2 + c) % 4294967296))).setCell (p := ⟨w.heap.size + 1 + 1, 3, none⟩) (by simp; omega) (.int .u32 ((f 3 + d) % 4294967296))).setCell (p := ⟨w.heap.size + 1 + 1, 4, none⟩) (by simp; omega) (.int .u32 ((f 4 + e) % 4294967296))).setCell (p := ⟨w.heap.size + 1 + 1, 5, none⟩) (by simp; omega) (.int .u32 ((f 5 + f') % 4294967296))).setCell (p := ⟨w.heap.size + 1 + 1, 6, none⟩) (by simp; omega) (.int .u32 ((f 6 + g) % 4294967296))).setCell (p := ⟨w.heap.size + 1 + 1, 7, none⟩) (by simp; omega) (.int .u32 ((f 7 + h) % 4294967296))
          exact bodyPost_ret (v := uv (mixed kk m f) 8) (arr_result arr8 rfl _ _ (w.heap.size + 1 + 1) 119 (mixed kk m f) rfl kR5) rfl ⟨by rw [HMM.out], hB5⟩
end Go.Proofs.Ytbjpifcgnombaaa
namespace Go.Proofs.Ytbjpifcgnombaaa
open Go.RowKit Go.Shelf
def NoneW (w : World) (e : Ending) (W' : World) : Prop := ∃ v, e = .returned v ∧ W'.ownsRow w.heap.size 5 1 v 0 [] ∧ Below w.heap.size w W'
set_option maxRecDepth 100000 in
set_option maxHeartbeats 1000000 in
theorem grow_any (n : Nat) (hn : n ≤ 140737488355328) (w : World) : Calls Try.prog 95 #[.slice none 0 0, .int .i64 (n : Int)] w (NoneW w) := by
  obtain ⟨i0, hi, hz0, hz1, hz2⟩ := info_parts Try.infoByte
  have hn' : (n : Int) ≤ 140737488355328 := by omega
  by_cases h0 : n = 0
  · subst h0
    go_enter Try.func95, Try.ntmps95
    go_wp2
    go_ret
    exact ⟨_, rfl, World.ownsRow_nil _ _ _ _, Below.refl _ _⟩
  · have h1 : 0 < n := by omega
    have h2 : 0 < (n : Int) := by omega
    have hr := Lib.run_append_nil_zeros (P := Try.prog) w 68 3 68 5 i0 (.int .u8 0) .i64 .i64 Try.underlying68 Try.underlying3 hi hz0 n h1 (by omega) (by omega) (by rw [hz2]; omega)
    have hg : n ≤ grownCap w n 0 5 ∧ grownCap w n 0 5 ≤ maxLen := ⟨grownCap_ge _ _ _ _, grownCap_le_maxLen _ _ _ _ (by unfold maxLen; omega)⟩
    obtain ⟨hg1, hg2⟩ := hg
    generalize grownCap w n 0 5 = c at *
    go_enter Try.func95, Try.ntmps95
    go_wp2_with (at_builtin; refine Lib.wpList_append_run w rfl _ _ 68 3 rfl _ _ rfl rfl _ _ hr ?_)
    go_ret
    have hz : ∀ n, (Builtin.zeroCells #[Value.int .u8 0] n).size = n := fun n => by simp [Builtin.zeroCells]
    refine ⟨_, rfl, ⟨rfl, .inr ⟨w.heap.size, c, _, rfl, Nat.le_refl _, World.alloc_heap_new _ _, by omega, hg2, by rw [Array.size_append, hz, hz]; omega, by simp⟩⟩, ?_⟩
    exact ((Below.refl _ w).drew).alloc (by simp) _
set_option maxRecDepth 100000 in
set_option maxHeartbeats 4000000 in
theorem concat_any {o : Nat} (sv : Value) (w : World) (zs : List (SX o w.heap.size w)) (hreach : zs.length ≤ 140737488351232) (ho : (flat zs).length ≤ 140737488355328) (hsv : SSl w.heap.size w sv zs) :
    Calls Try.prog 89 #[sv] w (ByO (flat zs) w) := by
  obtain ⟨i0, hi, hz0, hz1, hz2⟩ := info_parts Try.infoByte
  obtain ⟨a, cap, rfl, hcs⟩ := hsv
  have hc : zs = [] ∨ ∃ b off, a = some ⟨b, off, none⟩ ∧ b < w.heap.size ∧ SRow w b off zs := hcs
  clear hcs
  have hfl : ∀ k, (flat (zs.take k)).length ≤ 140737488355328 := fun k => by
    have := flat_prefix zs k
    omega
  have HF := Lib.hid hfl
  clear hfl
  have hrow : ∀ k x, zs[k]? = some x → ∃ b off, a = some ⟨b, off, none⟩ ∧ b < w.heap.size ∧ w.cell? ⟨b, off + k, none⟩ = some x.1.1 := fun k x hx => by
    rcases hc with rfl | ⟨b, off, ha, hb, hr⟩
    · simp at hx
    · exact ⟨b, off, ha, hb, hr k x hx⟩
  have HR := Lib.hid hrow
  clear hrow hc
  go_enter Try.func89, Try.ntmps89
  go_wp2
  go_loop [3, 11] (fun s i => ∃ k : Nat, k ≤ zs.length ∧ i = .int .i64 k ∧ s = .int .i64 ((flat (zs.take k)).length : Nat)) (fun _ i => zs.length - (intOf i).toNat)
  case atStart => exact ⟨0, by omega, rfl, by simp [flat]⟩
  case round =>
    obtain ⟨k, hk, rfl, rfl⟩ := hrel
    by_cases hlt : k < zs.length
    · obtain ⟨x, hx⟩ : ∃ x, zs[k]? = some x := ⟨_, List.getElem?_eq_getElem hlt⟩
      obtain ⟨b, off, rfl, hb, c0⟩ := HR.out k x hx
      obtain ⟨⟨xa, xc, hxe, _⟩, _⟩ := x.2
      rw [hxe] at c0
      have HS := Lib.hid (flat_take zs hx)
      have h1 := HF.out k
      have h2 := HF.out (k + 1)
      rw [HS.out, List.length_append] at h2
      have hk0 : (k : Int) < (zs.length : Int) := by omega
      clear hxe hx
      have HL : Hid ((flat (zs.take (k + 1))).length = (flat (zs.take k)).length + x.1.2.length) := Lib.hid (by rw [HS.out, List.length_append])
      generalize hq : (flat (zs.take k)).length = q at *
      generalize x.1.2.length = xl at *
      generalize hLn : zs.length = len at *
      have HLn := Lib.hid hLn
      have HQ := Lib.hid hq
      clear hLn hq
      have h2' : (q : Int) + (xl : Int) ≤ 140737488355328 := by omega
      go_wp2
      exact ⟨⟨k + 1, by omega, by simp, by rw [HL.out]; simp⟩, by simp [intOf]; omega⟩
    · obtain rfl : k = zs.length := by omega
      have hall : zs.take zs.length = zs := List.take_length
      have hq := HF.out zs.length
      rw [hall] at hq ⊢
      clear hlt hk hall
      go_wp2_with (go_at_call 95; refine (grow_any _ hq _).mono ?_; rintro e w1 ⟨v, rfl, hown, hb1⟩)
      go_loopw [6, 27] (fun v i wr => ∃ k : Nat, k ≤ zs.length ∧ i = .int .i64 k ∧ wr.ownsRow w.heap.size 5 1 v (flat (zs.take k)).length ((flat (zs.take k)).map bv) ∧ Below w.heap.size w wr) (fun _ i _ => zs.length - (intOf i).toNat)
      case atStart => exact ⟨0, by omega, rfl, hown, hb1⟩
      case round =>
        obtain ⟨k, hk, rfl, hown, hB⟩ := hrel
        by_cases hlt : k < zs.length
        · obtain ⟨x, hx⟩ : ∃ x, zs[k]? = some x := ⟨_, List.getElem?_eq_getElem hlt⟩
          obtain ⟨b, off, rfl, hb, c0⟩ := HR.out k x hx
          replace c0 := (hB.cell (p := ⟨b, off + k, none⟩) hb).trans c0
          have hxs := x.2.1.below hB (Nat.le_refl _)
          have hxs' := hxs
          obtain ⟨xa, xc, hxe, _⟩ := hxs
          rw [hxe] at c0 hxs'
          have HS := Lib.hid (flat_take zs hx)
          have h2 := HF.out (k + 1)
          rw [HS.out, List.length_append] at h2
          have hk0 : (k : Int) < (zs.length : Int) := by omega
          have hNW : w.heap.size ≤ wr.heap.size := hB.size
          clear hxe hx hq
          have HL : Hid ((flat (zs.take (k + 1))).length = (flat (zs.take k)).length + x.1.2.length) := Lib.hid (by rw [HS.out, List.length_append])
          go_wp2_with (at_builtin; refine wpList_append_b _ rfl _ _ 68 rfl w.heap.size 5 i0 (.int .u8 0) Try.underlying68 hi hz0 hz1 hz2 rfl _ (flat (zs.take k)).length ((flat (zs.take k)).map bv) rfl hown _ x.1.2 rfl hxs' h2 hNW ?_; intro v' w1 hown' hgrow)
          refine ⟨⟨k + 1, by omega, by simp, ?_, hB.grown hgrow hNW (fun j hj => (World.ownsRow.lt hown j hj).1)⟩, by simp [intOf]; omega⟩
          rw [HS.out, List.map_append, List.length_append]
          exact hown'
        · obtain rfl : k = zs.length := by omega
          rw [List.take_length] at hown
          go_wp2
          go_ret
          exact ⟨_, rfl, hown, hB⟩
end Go.Proofs.Ytbjpifcgnombaaa
namespace Go.Proofs.Ytbjpifcgnombaaa
open Go.RowKit Go.Shelf
def padL (l : List UInt8) : List UInt8 := l ++ [128] ++ List.replicate (63 - (l.length + 8) % 64) 0 ++ octs (two (l.length * 8 : Nat)) 8
theorem padL_length (l : List UInt8) : (padL l).length = l.length + 72 - (l.length + 8) % 64 := by
  unfold padL
  simp [octs_length]
  omega
theorem own_base4 {W : World} {base base' : Nat} {e : TypeId} {size k : Nat} {v : Value} {xs : List Value} (h : W.ownsRow base e size v k xs) (hb : base' ≤ base) : W.ownsRow base' e size v k xs := by
  obtain ⟨h1, h2⟩ := h
  refine ⟨h1, ?_⟩
  rcases h2 with h2 | ⟨g, cap, cur, rfl, hg, r⟩
  · exact .inl h2
  · exact .inr ⟨g, cap, cur, rfl, Nat.le_trans hb hg, r⟩
set_option maxRecDepth 100000 in
set_option maxHeartbeats 2000000 in
theorem pad_any (l : List UInt8) (sv : Value) (w : World) (hreach : l.length ≤ 140737488353000) (hsv : BSl 0 w.heap.size w sv l) :
    Calls Try.prog 82 #[sv] w (ByO (padL l) w) := by
  obtain ⟨i0, hi, hz0, hz1, hz2⟩ := info_parts Try.infoByte
  have hsv0 := hsv
  obtain ⟨a, cap, rfl, hcap, hcs⟩ := hsv
  clear hcs
  have hz : (63 : Int) - ((l.length : Int) + 8) % 64 = ((63 - (l.length + 8) % 64 : Nat) : Int) := by omega
  have h8 : (l.length : Int) * 8 = ((l.length * 8 : Nat) : Int) := by omega
  have hP : Hid (padL l = l ++ [128] ++ List.replicate (63 - (l.length + 8) % 64) 0 ++ octs (two (l.length * 8 : Nat)) 8) := Lib.hid rfl
  have hzn : 63 - (l.length + 8) % 64 ≤ 63 := by omega
  generalize hZ : 63 - (l.length + 8) % 64 = z at *
  generalize hE : l.length * 8 = e8 at *
  have he8 : (e8 : Int) ≤ 1125899906824000 := by omega
  have hl' : (l.length : Int) ≤ 140737488353000 := by omega
  clear hZ hE
  go_enter Try.func82, Try.ntmps82
  go_wp2_with fail
  clear hz h8
  refine (num_any e8 8 (by omega) (by omega) _).mono ?_
  rintro e w1 ⟨s4, rfl, hs4, hb1⟩
  rw [show clamp 8 = 8 from rfl] at hs4
  obtain ⟨a4, c4, rfl, hc4, _⟩ := id hs4
  generalize hO : octs (two e8) 8 = o8 at *
  have ho8 : o8.length = 8 := by rw [← hO]; exact octs_length _ _
  clear hO
  rw [ho8] at hs4
  have HO := Lib.hid ho8
  rw [ho8]
  clear ho8
  go_wp2_with (at_make; refine wpList_make_full _ rfl _ _ 68 rfl (w1.heap.size + 1) 5 i0 (.int .u8 0) 1 Try.underlying68 hi hz0 hz1 .i64 .i64 _ _ z rfl rfl rfl rfl (by rw [hz2]; omega) (by unfold maxLen; omega) (by simp) ?_; intro w2 hown hgrow)
  have hz1a : (w1.alloc (.cells #[.int .u8 128] 5)).heap.size = w1.heap.size + 1 := by simp
  have hB1 : Below (w1.heap.size + 1) (w1.alloc (.cells #[.int .u8 128] 5)) w2 := (Below.refl _ _).grown hgrow (by rw [hz1a]; exact Nat.le_refl _) (fun k e => by cases e)
  have hw2 : w1.heap.size + 1 ≤ w2.heap.size := by rw [← hz1a]; exact hB1.size
  have hw1 : w.heap.size ≤ w1.heap.size := hb1.size
  rw [hz1a] at hown
  have hown' : w2.ownsRow (w1.heap.size + 1) 5 1 (.slice (some ⟨w1.heap.size + 1, 0, none⟩) z z) (List.replicate z (0 : UInt8)).length ((List.replicate z (0 : UInt8)).map bv) := by
    have e : (madeCells (Value.int .u8 0).cells (z * 1)).toList = (List.replicate z (0 : UInt8)).map bv := by
      rw [Nat.mul_one]
      refine (toList_madeCells_one (.int .u8 0) z).trans ?_
      simp
    rw [← e, List.length_replicate]; exact hown
  clear hown
  have h8 : BSl 0 w2.heap.size w2 (.slice (some ⟨w1.heap.size, 0, none⟩) 1 1) [128] := ⟨_, 1, rfl, Nat.le_refl _, .inr ⟨_, 0, rfl, Nat.zero_le _, by omega, fun k x hx => by
    have hk : k = 0 := by have := (List.getElem?_eq_some_iff.1 hx).1; simp at this; omega
    subst hk
    have hc := (Blk.new' (t := 5) (vs := [.int .u8 128]) (rfl : w1.heap.size = w1.heap.size)).cell 0
    refine (hB1.cell (p := ⟨w1.heap.size, 0 + 0, none⟩) (by simp)).trans (hc.trans ?_)
    simp at hx
    subst hx
    rfl⟩⟩
  have hbs : Below w1.heap.size w1 w2 := (chain0 w1 (.cells #[.int .u8 128] 5)).trans (hB1.mono (by omega))
  have hbw : Below w.heap.size w w2 := chain hb1 hbs
  have hL0 := (hsv0.below hbw (Nat.le_refl _)).mono (Nat.le_refl _) hbw.size
  have hL4 := (hs4.below hbs (Nat.le_refl _)).mono (Nat.zero_le _) hbs.size
  have hLz := (BSl.of_own hown').mono (Nat.zero_le _) (Nat.le_refl _)
  generalize hW3 : World.alloc _ _ = W3
  have kB : Blk W3 w2.heap.size 68 [.slice a l.length cap, .slice (some ⟨w1.heap.size, 0, none⟩) 1 1, .slice (some ⟨w1.heap.size + 1, 0, none⟩) z z, .slice a4 8 c4] := by rw [← hW3]; exact Blk.new' rfl
  have hb3 : Below w2.heap.size w2 W3 := by rw [← hW3]; exact chain0 _ _
  clear hW3
  have hle3 := hb3.size
  have up : ∀ {sv : Value} {l : List UInt8}, BSl 0 w2.heap.size w2 sv l → BSl 0 W3.heap.size W3 sv l := fun h => (h.below hb3 (Nat.le_refl _)).mono (Nat.le_refl _) hle3
  have hHO := HO.out
  let zs : List (SX (l.length + 72) W3.heap.size W3) := [⟨(_, l), up hL0, by dsimp only; omega⟩, ⟨(_, [128]), up h8, by simp⟩, ⟨(_, List.replicate z 0), up hLz, by simp; omega⟩, ⟨(_, o8), up hL4, by dsimp only; omega⟩]
  have hfl : flat zs = l ++ [128] ++ List.replicate z 0 ++ o8 := by simp [zs, flat]
  refine (concat_any (.slice (some ⟨w2.heap.size, 0, none⟩) 4 4) W3 zs (by simp [zs]) (by rw [hfl]; simp [hHO]; omega) ⟨_, 4, rfl, .inr ⟨_, 0, rfl, kB.lt, fun k x hx => ?_⟩⟩).mono ?_
  · rw [Nat.zero_add, kB.cell k]
    have hk : k < 4 := (List.getElem?_eq_some_iff.1 hx).1
    have : k = 0 ∨ k = 1 ∨ k = 2 ∨ k = 3 := by omega
    rcases this with rfl | rfl | rfl | rfl <;> (cases hx; rfl)
  · rintro e w4 ⟨sv, rfl, hown4, hb4⟩
    rw [hfl, ← hP.out] at hown4
    go_wp2
    go_ret
    exact ⟨sv, rfl, own_base4 hown4 (by omega), (chain hbw hb3).trans (hb4.mono (by omega))⟩
end Go.Proofs.Ytbjpifcgnombaaa
namespace Go.Proofs.Ytbjpifcgnombaaa
open Go.RowKit Go.Shelf
def slLen : Value → Nat
  | .slice _ n _ => n
  | _ => 0
def midL (l : List UInt8) (j : Nat) : List UInt8 := l ++ [128] ++ List.replicate j 0
theorem midL_length (l : List UInt8) (j : Nat) : (midL l j).length = l.length + 1 + j := by simp [midL]; omega
theorem midL_succ (l : List UInt8) (j : Nat) : midL l (j + 1) = midL l j ++ [0] := by
  unfold midL; rw [List.replicate_succ', ← List.append_assoc]
theorem own_below4 {W W' : World} {base : Nat} {e : TypeId} {size k : Nat} {v : Value} {xs : List Value} (h : W.ownsRow base e size v k xs) (hb : Below W.heap.size W W') : W'.ownsRow base e size v k xs := by
  obtain ⟨h1, h2⟩ := h
  refine ⟨h1, ?_⟩
  rcases h2 with h2 | ⟨g, cap, cur, rfl, hg, hh, r⟩
  · exact .inl h2
  · exact .inr ⟨g, cap, cur, rfl, hg, (hb.block g (Array.getElem?_eq_some_iff.1 hh).1).trans hh, r⟩
set_option maxRecDepth 100000 in
set_option maxHeartbeats 2000000 in
theorem refPad_any (l : List UInt8) (sv : Value) (w : World) (hreach : l.length ≤ 140737488353000) (hsv : BSl 0 w.heap.size w sv l) :
    Calls Try.prog 67 #[sv] w (ByO (padL l) w) := by
  obtain ⟨i0, hi, hz0, hz1, hz2⟩ := info_parts Try.infoByte
  have hsv0 := hsv
  obtain ⟨a, cap, rfl, hcap, hcs⟩ := hsv
  clear hcs
  go_enter Try.func67, Try.ntmps67
  go_wp2_with fail
  have hb0 : Below w.heap.size w (w.alloc (.cells #[.int .u8 128] 5)) := chain0 _ _
  have hm : BSl 0 (w.alloc (.cells #[.int .u8 128] 5)).heap.size (w.alloc (.cells #[.int .u8 128] 5)) (.slice (some ⟨w.heap.size, 0, none⟩) 1 1) [128] := ⟨_, 1, rfl, Nat.le_refl _, .inr ⟨_, 0, rfl, Nat.zero_le _, by simp, fun k x hx => by
    have hk : k = 0 := by have := (List.getElem?_eq_some_iff.1 hx).1; simp at this; omega
    subst hk
    have hc := (Blk.new' (t := 5) (vs := [.int .u8 128]) (rfl : w.heap.size = w.heap.size)).cell 0
    refine hc.trans ?_
    simp at hx
    subst hx
    rfl⟩⟩
  refine (refCat_any l [128] _ _ _ (by simp; omega) ((hsv0.below hb0 (Nat.le_refl _)).mono (Nat.le_refl _) hb0.size) hm).mono ?_
  rintro e w1 ⟨v, rfl, hown, hb1⟩
  replace hb1 := chain hb0 hb1
  replace hown := own_base4 (base' := w.heap.size) hown (by simp)
  clear hm hb0
  go_wp2_with fail
  go_loopw [3] (fun v wr => ∃ j : Nat, j ≤ 63 - (l.length + 8) % 64 ∧ wr.ownsRow w.heap.size 5 1 v (l.length + 1 + j) ((midL l j).map bv) ∧ Below w.heap.size w wr) (fun v _ => l.length + 65 - slLen v)
  case atStart => exact ⟨0, by omega, by simpa [midL] using hown, hb1⟩
  clear hown hb1
  case round =>
    obtain ⟨j, hj, hown, hB⟩ := hrel
    obtain ⟨va, vc, rfl⟩ := ownsRow_slice hown
    have hNW : w.heap.size ≤ wr.heap.size := hB.size
    have HM := Lib.hid (midL_succ l j)
    generalize hn : l.length + 1 + j = n at *
    have hn63 : (n : Int) ≤ 9223372036854775807 := by omega
    by_cases hlt : j < 63 - (l.length + 8) % 64
    · have h56 : ¬ ((n : Int) % 64 = 56) := by omega
      have h56' : ((n : Int) % 64 == 56) = false := by simpa using h56
      have HN := Lib.hid hn
      clear hn
      go_wp2_with (at_builtin; refine wpList_append_own _ rfl _ _ 68 rfl w.heap.size 5 i0 (.int .u8 0) 1 1 Try.underlying68 hi hz0 hz1 hz2 rfl (by decide) _ n ((midL l j).map bv) rfl (hown.alloc _) ⟨wr.heap.size, 0, none⟩ 1 1 [bv 0] rfl rfl (cell_one_new _ _ _) (by simp [Value.oneCell']) (by unfold maxLen; have := HN.out; omega) (by have := HN.out; omega) (by simp; omega) ?_; intro v' w1 hown' hgrow _)
      have hbw : Below w.heap.size wr w1 := ((Below.refl w.heap.size wr).alloc hNW _).grown hgrow (by simp; omega) (fun k e => (World.ownsRow.lt hown k e).1)
      refine ⟨⟨j + 1, by omega, ?_, hB.trans hbw⟩, by have := HN.out; show l.length + 65 - slLen v' < l.length + 65 - n; obtain ⟨_, _, rfl⟩ := ownsRow_slice hown'; show l.length + 65 - (n + 1) < _; omega⟩
      rw [HM.out, List.map_append, show l.length + 1 + (j + 1) = n + 1 by have := HN.out; omega]
      exact hown'
    · obtain rfl : j = 63 - (l.length + 8) % 64 := by omega
      have h56 : (n : Int) % 64 = 56 := by omega
      have H56 := Lib.hid h56
      have h56' : ((n : Int) % 64 == 56) = true := by simpa using h56
      have HN := Lib.hid hn
      clear hn h56
      go_wp2_with fail
      refine (refNum_any (8 * (l.length : Int)) 8 (by omega) (by omega) _).mono ?_
      rintro e w2 ⟨s4, rfl, hs4, hb2⟩
      rw [show clamp 8 = 8 from rfl, show (8 * (l.length : Int)) = ((l.length * 8 : Nat) : Int) by omega] at hs4
      have hown2 := own_below4 hown hb2
      have hbs : BSl 0 w2.heap.size w2 (.slice va n vc) (midL l (63 - (l.length + 8) % 64)) := by
        have hq := hown2
        rw [show n = (midL l (63 - (l.length + 8) % 64)).length by rw [midL_length]; exact HN.out.symm] at hq ⊢
        exact (BSl.of_own hq).mono (Nat.zero_le _) (Nat.le_refl _)
      have hL4 := hs4.mono (Nat.zero_le _) (Nat.le_refl _)
      obtain ⟨a4, c4, rfl, _⟩ := hs4
      have hlen : (midL l (63 - (l.length + 8) % 64)).length + (octs (two ((l.length * 8 : Nat) : Int)) 8).length ≤ 140737488355328 := by
        rw [midL_length, octs_length]; omega
      go_wp2_with fail
      refine (refCat_any _ _ _ _ _ hlen hbs hL4).mono ?_
      rintro e w3 ⟨sv, rfl, hown3, hb3⟩
      go_wp2_with fail
      go_ret
      exact ⟨sv, rfl, own_base4 hown3 (Nat.le_trans hNW hb2.size), hB.trans ((hb2.mono hNW).trans (hb3.mono (Nat.le_trans hNW hb2.size)))⟩
end Go.Proofs.Ytbjpifcgnombaaa
namespace Go.Proofs.Ytbjpifcgnombaaa
open Go.RowKit Go.Shelf
def blk (p : List UInt8) (n : Nat) : List UInt8 := (p.drop (64 * n)).take 64
def sts (kk : Nat → Int) (p : List UInt8) (f : Nat → Int) : Nat → Nat → Int
  | 0 => f
  | n + 1 => mixed kk (sch (wd (blk p n)) 48) (sts kk p f n)
def sumTo (st : Nat → Int) : Nat → List UInt8
  | 0 => []
  | k + 1 => sumTo st k ++ octs (two (wrap64 (st k))) 4
theorem sumTo_length (st : Nat → Int) (k : Nat) : (sumTo st k).length = 4 * k := by
  induction k with
  | zero => rfl
  | succ k ih => simp [sumTo, ih, octs_length]; omega
def sumL (kk f : Nat → Int) (l : List UInt8) : List UInt8 := sumTo (sts kk (padL l) f ((padL l).length / 64)) 8
set_option maxRecDepth 100000 in
set_option maxHeartbeats 4000000 in
theorem refOver_any (l : List UInt8) (sv : Value) (f kk : Nat → Int) (w : World) (hreach : l.length ≤ 140737488353000) (hsv : BSl 0 w.heap.size w sv l) :
    Calls Try.prog 59 #[sv, uv f 8, uv kk 64] w (ByO (sumL kk f l) w) := by
  have hsv0 := hsv
  obtain ⟨a, cap, rfl, hcap, hcs⟩ := hsv
  clear hcs
  have hpl := padL_length l
  have hS : Hid (sumL kk f l = sumTo (sts kk (padL l) f ((padL l).length / 64)) 8) := Lib.hid rfl
  generalize hp : padL l = p at *
  have HP := Lib.hid hp
  clear hp
  go_enter Try.func59, Try.ntmps59
  go_wp2_with fail
  generalize hW0 : World.alloc _ _ = W0
  have kS : Blk W0 w.heap.size 119 (us f 8) := by rw [← hW0]; exact (Blk.new' rfl).alloc _
  have kK : Blk W0 (w.heap.size + 1) 120 (us kk 64) := by rw [← hW0]; exact Blk.new' (by simp)
  have d0 : Below w.heap.size w W0 := by rw [← hW0]; exact chainA (chain0 _ _) _
  have hz0 : W0.heap.size = w.heap.size + 2 := by rw [← hW0]; simp
  clear hW0
  refine (refPad_any l _ _ hreach ((hsv0.below d0 (Nat.le_refl _)).mono (Nat.le_refl _) d0.size)).mono ?_
  rintro e w1 ⟨pv, rfl, hown, hb1⟩
  rw [HP.out] at hown
  have hpb := BSl.of_own hown
  have hd1 := chain d0 hb1
  replace kS := kS.below hb1 kS.lt
  replace kK := kK.below hb1 kK.lt
  obtain ⟨pa, pc, rfl⟩ := ownsRow_slice hown
  obtain ⟨pa', pc', hpe, hpc, hp0⟩ := hpb
  cases hpe
  have hnz : p ≠ [] := fun e => by rw [e] at hpl; simp at hpl; omega
  obtain ⟨pb, po, rfl, hpl0, hpb, hpo⟩ := hp0.resolve_left hnz
  have hpw : w.heap.size < pb := by omega
  clear hz0 hpl0
  have hcm : pc ≤ maxLen := by
    rcases hown.2 with ⟨e, _⟩ | ⟨g, c, cur, e, _, _, _, hcm, _⟩
    · cases e
    · cases e; exact hcm
  unfold maxLen at hcm
  clear hown
  have hl64 : p.length = 64 * (p.length / 64) := by omega
  generalize hN : p.length / 64 = N at *
  clear hpl hN hnz hp0 d0 hb1
  generalize hq : p.length = q at *
  have HQ := Lib.hid hq
  clear hq
  have hq63 : (q : Int) ≤ 9223372036854775807 := by omega
  have HL64 := Lib.hid hl64
  clear hl64
  go_wp2_with fail
  go_loopw [8] (fun i wr => ∃ n : Nat, n ≤ N ∧ i = .int .i64 ((64 * n : Nat) : Int) ∧ Blk wr w.heap.size 119 (us (sts kk p f n) 8) ∧ Blk wr (w.heap.size + 1) 120 (us kk 64) ∧ Octs wr pb po p ∧ Below w.heap.size w wr ∧ pb < wr.heap.size) (fun i _ => 64 * N - (intOf i).toNat)
  case atStart => exact ⟨0, by omega, rfl, kS, kK, hpo, hd1, hpb⟩
  case round =>
    obtain ⟨n, hn, rfl, kS, kK, hpo, hB, hpb⟩ := hrel
    by_cases hlt : n < N
    · have hlen : (blk p n).length = 64 := by unfold blk; simp; have := HQ.out; have := HL64.out; omega
      have hob : Octs wr.drew pb (po + 64 * n) (blk p n) := sub_octs hpo (64 * n) 64
      have hE : ((64 * n : Nat) : Int) + 64 = ((64 * (n + 1) : Nat) : Int) := by omega
      have HE := Lib.hid hE
      clear hE
      have hi1 : ((64 * n : Nat) : Int) < (q : Int) := by have := HL64.out; omega
      have hst : Hid (sts kk p f (n + 1) = mixed kk (sch (wd (blk p n)) 48) (sts kk p f n)) := Lib.hid rfl
      generalize hI : 64 * n = i at *
      have hi2 : (i : Int) + 64 ≤ (pc : Int) := by have := HL64.out; omega
      have hne : ¬ pc = i := by have := HL64.out; omega
      have hi3 : (i : Int) ≤ (i : Int) + 64 := by omega
      have hi4 : (0 : Int) ≤ (i : Int) + 64 := by omega
      have li : IntKind.i64.wrap ((i : Int) + 64) = (i : Int) + 64 := by rw [IntKind.wrap_i64]; omega
      have HI := Lib.hid hI
      clear hI
      go_wp2_with fail
      refine wp_region_still_tail 7 (by kernel_rfl) (by kernel_rfl) ?_
      simp only [List.take_succ_cons, List.take_zero, List.drop_succ_cons, List.drop_zero]
      rw [show ({ heap := wr.heap, tape := wr.tape, drawn := wr.drawn + 1, os := wr.os, output := wr.output } : World) = wr.drew from rfl]
      replace kS : Blk wr.drew w.heap.size 119 (us (sts kk p f n) 8) := kS
      replace kK : Blk wr.drew (w.heap.size + 1) 120 (us kk 64) := kK
      replace hB : Below w.heap.size w wr.drew := hB.drew
      replace hpo : Octs wr.drew pb po p := hpo
      replace hpb : pb < wr.drew.heap.size := hpb
      generalize wr.drew = wq at *
      refine still_load arr8 rfl (.tmp 4) rfl w.heap.size rfl 119 (sts kk p f n) kS ?_
      refine still_load arr64 rfl (.tmp 5) rfl (w.heap.size + 1) rfl 120 kk kK ?_
      repeat still_step
      refine wpStill_nil ?_
      clear li
      go_wp2_with fail
      rw [show i + 64 - i = 64 by omega]
      refine (refBlock_any _ _ (blk p n) hlen pb (po + i) (pc - i) (by omega) (by omega) _ hpb hob).mono ?_
      rintro e w2 ⟨rfl, hb2⟩
      rw [← hst.out]
      have kS2 := kS.below hb2 kS.lt
      have kK2 := kK.below hb2 kK.lt
      have hpo2 := hpo.below hb2 hpb
      have hB2 := chain hB hb2
      go_wp2_with ((with_reducible refine arr_store arr8 rfl (.tmp 4) (.tmp 26) rfl w.heap.size rfl (sts kk p f (n + 1)) rfl 119 (sts kk p f n) kS2 ?_); intro w5 kS5 hg5)
      exact ⟨⟨n + 1, by omega, by rw [HE.out], kS5, kK2.kept hg5 (by simp), hpo2.kept (Nat.lt_of_lt_of_le hpb hb2.size) hg5 (fun e => by have := Option.some.inj e; omega), hB2.grown hg5 hB2.size (fun k e => by have : w.heap.size = k := Option.some.inj e; omega), Nat.lt_of_lt_of_le (Nat.lt_of_lt_of_le hpb hb2.size) hg5.size⟩, by simp [intOf]; have := HI.out; omega⟩
    · obtain rfl : n = N := by omega
      have hi1 : ¬ ((64 * n : Nat) : Int) < (q : Int) := by have := HL64.out; omega
      generalize hst : sts kk p f n = st at *
      have HST := Lib.hid hst
      clear hst hlt hn
      go_wp2_with fail
      go_loopw [9, 10] (fun v i wr => ∃ k : Nat, k ≤ 8 ∧ i = .int .i64 k ∧ wr.ownsRow w.heap.size 5 1 v (4 * k) ((sumTo st k).map bv) ∧ Blk wr w.heap.size 119 (us st 8) ∧ Below w.heap.size w wr) (fun _ i _ => 8 - (intOf i).toNat)
      case atStart => exact ⟨0, by omega, rfl, World.ownsRow_nil _ _ _ _, kS, hB⟩
      clear kS hB hpb hpo kK
      case round =>
        obtain ⟨k, hk, rfl, hown, kS, hB⟩ := hrel
        obtain ⟨va, vc, rfl⟩ := ownsRow_slice hown
        have hNW := hB.size
        by_cases hlt : k < 8
        · have cS := (kS.cell k).trans (us_at _ hlt)
          have hk0 : (k : Int) < 8 := by omega
          go_wp2_with fail
          refine (refNum_any _ 4 (by omega) (by omega) _).mono ?_
          rintro e w2 ⟨s4, rfl, hs4, hb2⟩
          rw [show clamp 4 = 4 from rfl] at hs4
          have hown2 := own_below4 hown hb2
          have hbs : BSl 0 w2.heap.size w2 (.slice va (4 * k) vc) (sumTo st k) := by
            have hq := hown2
            rw [← sumTo_length st k] at hq ⊢
            exact (BSl.of_own hq).mono (Nat.zero_le _) (Nat.le_refl _)
          have hL4 := hs4.mono (Nat.zero_le _) (Nat.le_refl _)
          obtain ⟨a4, c4, rfl, _⟩ := hs4
          go_wp2_with fail
          refine (refCat_any _ _ _ _ _ (by rw [sumTo_length, octs_length]; omega) hbs hL4).mono ?_
          rintro e w3 ⟨sv3, rfl, hown3, hb3⟩
          go_wp2_with fail
          have hown4 := own_base4 (base' := w.heap.size) hown3 (Nat.le_trans hNW hb2.size)
          change w3.ownsRow w.heap.size 5 1 sv3 (sumTo st (k + 1)).length ((sumTo st (k + 1)).map bv) at hown4
          rw [sumTo_length] at hown4
          have hb23 := chain hb2 hb3
          exact ⟨⟨k + 1, by omega, by simp, hown4, kS.below hb23 kS.lt, chain hB hb23⟩, by simp [intOf]; omega⟩
        · obtain rfl : k = 8 := by omega
          go_wp2_with fail
          go_ret
          exact ⟨_, rfl, by rw [hS.out, sumTo_length]; exact hown, hB⟩
end Go.Proofs.Ytbjpifcgnombaaa
namespace Go.Proofs.Ytbjpifcgnombaaa
open Go.RowKit Go.Shelf
attribute [local go_sem] Oper.semAt_some
theorem chunk_all (m : Nat) (hm : 1 ≤ m) (Bs Bn b off cap L s : Nat) (hL : L ≤ 140737488354000) (hcap : L ≤ cap) (hcap' : cap ≤ 9223372036854775807) (hs : 1 ≤ s) (hs' : s ≤ 9223372036854775807)
    (w : World) (k1 : Boxed w Bs 68 (.slice (some ⟨b, off, none⟩) L cap)) (k2 : Boxed w Bn 3 (.int .i64 (s : Nat))) :
    SeqAll Fence.wide m Try.prog 93 #[.pointer (some ⟨Bs, 0, none⟩), .pointer (some ⟨Bn, 0, none⟩)] (cpEnc b off) (fun _ => KeepB2 Bs Bn) (chs L s) w := fun l J W hW _ _ hJ hY h0 => by
  have q1 : Boxed W Bs 68 (.slice (some ⟨b, off, none⟩) L cap) := (hW.block Bs k1.lt).trans k1
  have q2 : Boxed W Bn 3 (.int .i64 (s : Nat)) := (hW.block Bn k2.lt).trans k2
  refine (chunk1_in Fence.wide m trivial rfl hm l Bs Bn b off cap L s hL hcap hcap' hs hs' J (fun _ _ => False) W (fun k X hX => hJ k X X.drew none hX ⟨rfl, rfl, rfl, Nat.le_refl _, fun _ _ _ => rfl⟩ (by simp)) (fun k W1 hj hk => (hY k (chn L s k) W1 (chs_at hk) hj).mono (fun e W' h => .inl h)) q1 q2 h0).mono ?_
  rintro e W' ⟨he, hj | ⟨_, _, h⟩⟩
  · exact ⟨he, by rw [chs_length]; exact hj⟩
  · exact h.elim
def blkWords (p : List UInt8) (N : Nat) : List (Nat → Int) := (List.range N).map fun n => wd (blk p n)
theorem blkWords_at (p : List UInt8) {N k : Nat} (h : k < N) : (blkWords p N)[k]? = some (wd (blk p k)) := by unfold blkWords; rw [List.getElem?_map, List.getElem?_range h]; rfl
set_option maxHeartbeats 1000000 in
theorem blocks_in (F : Fence) (m : Nat) (h5 : F.fn 81) (hro : F.round = none) (a : Option Addr) (len cap : Nat) (w : World) :
    CallsIn F m Try.prog 81 #[.slice a len cap] w fun e w' => e = .returned (.func (.func 86) #[] #[.pointer (some ⟨w.heap.size, 0, none⟩)]) ∧ w' = w.alloc (.cells #[.slice a len cap] 68) := by
  refine callsIn_of_wp Try.func81 rfl h5 ?_ hro
  simp only [Try.ntmps81, List.size_toArray, List.length_cons, List.length_nil, Nat.reduceAdd, Nat.reduceSub, Array.replicate_succ, Array.replicate_zero, List.push_toArray, List.append_toArray, List.nil_append, List.cons_append]
  gi_wp2
  go_ret
  exact ⟨rfl, rfl⟩
theorem us0_16 : us (fun _ => 0) 16 = [.int .u32 0, .int .u32 0, .int .u32 0, .int .u32 0, .int .u32 0, .int .u32 0, .int .u32 0, .int .u32 0, .int .u32 0, .int .u32 0, .int .u32 0, .int .u32 0, .int .u32 0, .int .u32 0, .int .u32 0, .int .u32 0] := rfl
set_option maxRecDepth 100000 in
set_option maxHeartbeats 8000000 in
theorem blocks1_all (m : Nat) (hm : 6 ≤ m) (B Bp pb po cap N : Nat) (p : List UInt8) (hp : p.length = 64 * N) (hN : 1 ≤ N) (hreach : p.length ≤ 140737488354000) (hcap : p.length ≤ cap) (hcap' : cap ≤ 9223372036854775807)
    (w : World) (hB : B < w.heap.size) (hpB : pb ≠ B) (hpb : pb < w.heap.size) (hpo : Octs w pb po p) (k1 : Boxed w Bp 68 (.slice (some ⟨pb, po, none⟩) p.length cap)) :
    SeqAll Fence.wide m Try.prog 86 #[.pointer (some ⟨Bp, 0, none⟩)] (fun f => #[uv f 16]) (AllBut B) (blkWords p N) w := fun l J W hW hl0 hl hJ hY h0 => by
  have kp : Boxed W Bp 68 (.slice (some ⟨pb, po, none⟩) p.length cap) := (hW.block Bp k1.lt).trans k1
  replace hpo := hpo.below hW hpb
  have hWs := hW.size
  have hpc := kp.cell
  have h1 : 1 ≤ m := by omega
  generalize hq : p.length = q at *
  have HQ := Lib.hid hq
  have HP := Lib.hid hp
  clear hq hp
  have hBpl := kp.lt
  refine callsIn_of_wp_marks Try.func86 rfl trivial ?_ rfl
  simp only [Try.ntmps86, List.size_toArray, List.length_cons, List.length_nil, Nat.reduceAdd, Nat.reduceSub, Array.replicate_succ, Array.replicate_zero, List.push_toArray, List.append_toArray, List.nil_append, List.cons_append]
  gi_wp2_with (refine ⟨trivial, ?_⟩; gi_at_call 87; refine (chunk_in Fence.wide (m - 1) trivial rfl _ _ _ _ (by omega) _).mono ?_; rintro e w' ⟨rfl, rfl⟩)
  generalize hW5 : World.alloc _ _ = W5
  have kY : Boxed W5 W.heap.size 152 (.func (.yield l) #[] #[]) := by rw [← hW5]; exact ((Boxed.new _ _ _).alloc _).alloc _
  have c1 : Boxed W5 (W.heap.size + 1) 68 (.slice (some ⟨pb, po, none⟩) q cap) := by rw [← hW5]; exact (Blk.new' (vs := [_]) (by simp)).alloc _
  have c2 : Boxed W5 (W.heap.size + 1 + 1) 3 (.int .i64 ((64 : Nat) : Int)) := by rw [← hW5]; exact Blk.new' (vs := [.int .i64 64]) (by simp)
  have hB5 : Below W.heap.size W W5 := by rw [← hW5]; exact chainA (chainA (chain0 _ _) _) _
  have hz5 : W5.heap.size = W.heap.size + 3 := by rw [← hW5]; simp
  clear hW5
  have hpbW : pb < W.heap.size := Nat.lt_of_lt_of_le hpb hWs
  have hq64 : chc q 64 = N := by unfold chc; have := HP.out; omega
  obtain ⟨cur, ct, cfr, hcells⟩ : ∃ cur ct cfr, W.heap[pb]? = some (.cells cur ct cfr) := by
    obtain ⟨x, hx⟩ : ∃ x, p[0]? = some x := ⟨_, List.getElem?_eq_getElem (by have := HQ.out; have := HP.out; omega)⟩
    have hc := hpo 0 x hx
    simp only [World.cell?] at hc
    cases hh : W.heap[pb]? with
    | none => rw [hh] at hc; simp at hc
    | some o =>
      rw [hh] at hc
      cases o <;> first | exact ⟨_, _, _, rfl⟩ | (simp at hc)
  refine wpIn_rangeFunc_allA (ys := chs q 64) rfl h1 (gf := 93) (lb := #[.pointer (some ⟨W.heap.size + 1, 0, none⟩), .pointer (some ⟨W.heap.size + 1 + 1, 0, none⟩)]) rfl trivial (enters_of Try.func93 (by kernel_rfl) rfl)
    (chunk_all (m - 1) (by omega) (W.heap.size + 1) (W.heap.size + 1 + 1) pb po cap q 64 (by omega) hcap hcap' (by omega) (by omega) W5 c1 c2) KeepB2.t (fun X o o' h2 h3 h4 => ⟨World.putObj_heap_other (by omega), World.putObj_heap_other (by omega)⟩) (fun X => ⟨rfl, rfl⟩) (Below.refl _ _) (fun _ => rfl)
    (fun k X => (J k X ∧ KeepB pb W X) ∧ (Boxed X W.heap.size 152 (.func (.yield l) #[] #[]) ∧ Boxed X (W.heap.size + 1) 68 (.slice (some ⟨pb, po, none⟩) q cap) ∧ Boxed X (W.heap.size + 1 + 1) 3 (.int .i64 ((64 : Nat) : Int))) ∧ W5.heap.size ≤ X.heap.size)
    (fun k X Y row ⟨⟨hj, hk⟩, ⟨hy, hc1, hc2⟩, hsz⟩ hg hr => ⟨⟨hJ k X Y row hj hg (fun r e => ⟨by have := (hr r e).1; omega, (hr r e).2⟩), (hg.block pb (by omega) (fun e => by have := (hr _ e.symm).1; omega)).trans hk⟩, ⟨boxed_own _ _ (fun _ : Unit => _) () X Y row hy hg (fun r e => (hr r e).2), boxed_own _ _ (fun _ : Unit => _) () X Y row hc1 hg (fun r e => (hr r e).2), boxed_own _ _ (fun _ : Unit => _) () X Y row hc2 hg (fun r e => (hr r e).2)⟩, Nat.le_trans hsz hg.size⟩)
    ⟨⟨hJ 0 W W5 none h0 (grown_of_below hB5) (by simp), hB5.block pb hpbW⟩, ⟨kY, c1, c2⟩, Nat.le_refl _⟩ ?_ ?_ ?_ ?_
  rotate_left
  · intro l' x X K hK
    gi_wp2
    exact hK
  · rintro l' k x X hx ⟨⟨hj, hkp⟩, ⟨hy, hc1, hc2⟩, hsz⟩
    have hk : k < N := by have := (List.getElem?_eq_some_iff.1 hx).1; rw [chs_length, hq64] at this; exact this
    rw [chs_at (by rw [hq64]; exact hk)] at hx
    obtain rfl := (Option.some.inj hx).symm
    have hlp : 64 * k + 64 ≤ p.length := by rw [HQ.out, HP.out]; omega
    have hchn : chn q 64 k = ⟨(64 * k, 64), by rw [← HQ.out]; exact hlp⟩ := by
      rw [chn_of (by rw [HP.out]; omega)]
      apply Subtype.ext
      show (k * 64, min 64 (q - k * 64)) = _
      rw [Nat.mul_comm k 64, Nat.min_eq_left (by rw [HP.out]; omega)]
    rw [hchn]
    have hoX : Octs X pb (po + 64 * k) (blk p k) := sub_octs (fun j z hz => (World.cell?_of_block (a := ⟨pb, _, none⟩) hkp).trans (hpo j z hz)) (64 * k) 64
    have hlb : (blk p k).length = 64 := by unfold blk; simp; omega
    have hpX : pb < X.heap.size := by omega
    clear hchn
    gi_wp2_with fail
    gi_loopw [9] (fun i wr => ∃ t : Nat, t ≤ 16 ∧ i = .int .i64 t ∧ Blk wr X.heap.size 148 (us (fun j => if j < t then wd (blk p k) j else 0) 16) ∧ Below X.heap.size X wr) (fun i _ => 16 - (intOf i).toNat)
    case atStart => exact ⟨0, by omega, rfl, by rw [us_congr (g := fun _ => 0) (fun t _ => if_neg (by omega)), us0_16]; exact Blk.new' rfl, chain0 _ _⟩
    case round =>
      obtain ⟨t, ht, rfl, kA, hbel⟩ := hrel
      by_cases hlt : t < 16
      · have cA := (kA.cell t).trans (us_at _ hlt)
        have fA := kA.frozen t
        have i1 : (t : Int) < 16 := by omega
        have i2 : (0 : Int) ≤ (t : Int) * 4 := by omega
        have i3 : (t : Int) * 4 ≤ 64 := by omega
        have i4 : ¬ 64 = t * 4 := by omega
        have n1 : ((t : Int) * 4).toNat = t * 4 := by omega
        gi_wp2_with fail
        rw [Nat.mul_comm t 4]
        have hpw : pb < wr.heap.size := Nat.lt_of_lt_of_le hpX hbel.size
        have hbsl := sub_bsl (hoX.below hbel hpX) hpw (4 * t) 4 (by rw [hlb]; omega) (show 4 ≤ 64 - 4 * t by omega)
        refine ⟨trivial, fun h => (by cases h), ?_⟩
        refine (CallsIn.inRound l' (callsIn_wide.2 (blobInt_any (((blk p k).drop (4 * t)).take 4) _ wr (by simp; omega) hbsl))).mono ?_
        rintro e w2 ⟨rfl, hb2⟩
        obtain ⟨hw, hw0, hw1⟩ := wd_be (l := blk p k) t
        rw [hw]
        have kA2 := kA.below hb2 kA.lt
        have hX2 : Below X.heap.size X w2 := chain hbel hb2
        have cA2 := (kA2.cell t).trans (us_at _ hlt)
        have fA2 := kA2.frozen t
        have HU : Hid (us (updI (fun j => if j < t then wd (blk p k) j else 0) t (wd (blk p k) t)) 16 = us (fun j => if j < t + 1 then wd (blk p k) j else 0) 16) := Lib.hid (us_congr fun j _ => by
          unfold updI
          by_cases e1 : j = t
          · subst e1; rw [if_pos rfl, if_pos (by omega)]
          · rw [if_neg e1]
            show (if j < t then wd (blk p k) j else 0) = _
            by_cases e2 : j < t
            · rw [if_pos e2, if_pos (by omega)]
            · rw [if_neg e2, if_neg (by omega)])
        clear hw cA fA i2 i3 i4 n1
        generalize hx : wd (blk p k) t = x at *
        gi_wp2_with fail
        have kA' := kA2.set t (.int .u32 x)
        rw [us_set, HU.out] at kA'
        go_roundw
        case rel => exact ⟨t + 1, by omega, by simp, kA', hX2.setCell (p := ⟨X.heap.size, _, none⟩) (by simp) _⟩
        case measure => simp [intOf]; omega
      · obtain rfl : t = 16 := by omega
        rw [us_congr (g := wd (blk p k)) (fun j hj => if_pos hj)] at kA
        obtain ⟨fn, tmps, assign, body, hyr, hR⟩ := hY k (wd (blk p k)) wr (blkWords_at p hk) (hJ k X wr none hj (grown_of_below hbel) (by simp))
        have hyc : wr.cell? ⟨W.heap.size, 0, none⟩ = some (.func (.yield l) #[] #[]) := (hbel.cell (p := ⟨W.heap.size, 0, none⟩) hy.lt).trans hy.cell
        gi_wp2_with (with_reducible refine arrIn_load arr16 rfl (.tmp 4) rfl X.heap.size rfl 148 (wd (blk p k)) kA ?_)
        refine ⟨fun h => (by cases h), ?_⟩
        refine (roundIn_any hR).mono ?_
        rintro e W3 ⟨rfl, hJ3, hk3⟩
        clear hyr
        gi_wp2_with fail
        have hXW : AllBut B l X W3 := (AllBut.of_below hbel).t hk3
        have ly := hy.lt
        have l1 := hc1.lt
        have l2 := hc2.lt
        refine ⟨⟨hXW.1, fun j o hBj hj ho => (hXW.2 j (Array.getElem?_eq_some_iff.1 hj).1 (by omega) (by omega)).trans hj⟩, ⟨hXW.2 _ l1 (by omega) (by omega), hXW.2 _ l2 (by omega) (by omega)⟩, ⟨hJ3, (hXW.2 pb hpX hpB (by omega)).trans hkp⟩, ⟨(hXW.2 _ ly (by omega) (by omega)).trans hy, (hXW.2 _ l1 (by omega) (by omega)).trans hc1, (hXW.2 _ l2 (by omega) (by omega)).trans hc2⟩, Nat.le_trans hsz hXW.1⟩
  · rintro D X hD ⟨⟨hj, _⟩, _, _⟩ hK
    rw [chs_length, hq64] at hj
    gi_wp2_with fail
    refine ⟨by simp, .inl ⟨_, _, rfl, run_takeDeferred hK, ?_⟩⟩
    refine ⟨_, results_none rfl _ _ _, ⟨_, rfl⟩, ?_⟩
    rw [show (blkWords p N).length = N by simp [blkWords]]
    exact hJ.putObj _ hj (by omega) hK rfl
end Go.Proofs.Ytbjpifcgnombaaa
