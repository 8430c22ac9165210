/-
  The reference's block: the state behind a block.
-/
import Derived.Test.YtneilnfjnbecbaaRnd
import Derived.Test.YtneilnfjnbecbaaSched
import Derived.Test.YtneilnfjnbecbaaRefNum
import Derived.IntWalk
import Derived.Outline
import Derived.Deep.QuietTactic
import Derived.BigQuiet
import Derived.StillTailTactics
namespace Go.Proofs.Ytneilnfjnbecbaa
open Go.RowKit

/-- The words of a text, of four octets each. -/
def wd (l : List UInt8) (t : Nat) : Int := (be ((l.drop (4 * t)).take 4) : Nat)
/-- The reference's words behind t rounds. -/
def wst (f : Nat → Int) (t : Nat) : Nat → Int := if t ≤ 16 then (fun i => if i < t then f i else 0) else sch f (t - 16)
theorem wst_low {f : Nat → Int} {t : Nat} (h : t < 16) : us (updI (wst f t) t (f t)) 64 = us (wst f (t + 1)) 64 := us_congr fun k _ => by
  unfold wst updI
  rw [if_pos (show t ≤ 16 by omega), if_pos (show t + 1 ≤ 16 by omega)]
  by_cases e : k = t
  · subst e; simp
  · rw [if_neg e]
    show (if k < t then f k else 0) = if k < t + 1 then f k else 0
    by_cases e2 : k < t
    · rw [if_pos e2, if_pos (by omega)]
    · rw [if_neg e2, if_neg (by omega)]
theorem wst_high {f : Nat → Int} {t : Nat} (h : 16 ≤ t) : wst f t = sch f (t - 16) := by
  unfold wst
  by_cases e : t ≤ 16
  · have : t = 16 := by omega
    subst this
    rfl
  · rw [if_neg e]
theorem sch_succ {f : Nat → Int} {t : Nat} (h : 16 ≤ t) : sch f (t + 1 - 16) = updI (sch f (t - 16)) t (nw (sch f (t - 16)) t) := by
  obtain ⟨k, rfl⟩ : ∃ k, t = k + 16 := ⟨t - 16, by omega⟩
  rw [show k + 16 + 1 - 16 = k + 1 by omega, show k + 16 - 16 = k by omega]
  rfl

theorem sub_octs {W : World} {b off : Nat} {l : List UInt8} (h : Octs W b off l) (i n : Nat) : Octs W b (off + i) ((l.drop i).take n) := fun k x hx => by
  have hk : k < n := by
    have := (List.getElem?_eq_some_iff.1 hx).1
    rw [List.length_take] at this
    omega
  rw [List.getElem?_take_of_lt hk, List.getElem?_drop] at hx
  rw [Nat.add_assoc]
  exact h _ x hx
theorem sub_bsl {W : World} {b off cap hi : Nat} {l : List UInt8} (h : Octs W b off l) (hb : b < hi) (i n : Nat) (hl : i + n ≤ l.length) (hc : n ≤ cap) : BSl 0 hi W (.slice (some ⟨b, off + i, none⟩) n cap) ((l.drop i).take n) :=
  ⟨_, cap, by rw [show ((l.drop i).take n).length = n by simp; omega], by simp; omega, .inr ⟨b, _, rfl, Nat.zero_le _, hb, sub_octs h i n⟩⟩
theorem wd_be {l : List UInt8} (t : Nat) : ((be (((l.drop (4 * t)).take 4).take 7) : Nat) : Int) = wd l t ∧ 0 ≤ wd l t ∧ wd l t ≤ 4294967295 := by
  have hle : ((l.drop (4 * t)).take 4).length ≤ 4 := by simp; omega
  have := be_lt' hle
  rw [List.take_of_length_le (by omega)]
  unfold wd
  omega

theorem us8 (g : Nat → Int) : us g 8 = [.int .u32 (g 0), .int .u32 (g 1), .int .u32 (g 2), .int .u32 (g 3), .int .u32 (g 4), .int .u32 (g 5), .int .u32 (g 6), .int .u32 (g 7)] := rfl

set_option maxRecDepth 100000 in
set_option maxHeartbeats 8000000 in
theorem refBlock_any (f kk : Nat → Int) (l : List UInt8) (hl : l.length = 64) (b off cap : Nat) (hcap : 64 ≤ cap) (hcap' : cap ≤ 9223372036854775807) (w : World) (hb : b < w.heap.size) (ho : Octs w b off l) :
    Calls Try.prog 67 #[uv f 8, uv kk 64, .slice (some ⟨b, off, none⟩) 64 cap] w fun e W' => e = .returned (uv (mixed kk (sch (wd l) 48) f) 8) ∧ Below w.heap.size w W' := by
  have HL := Lib.hid hl
  clear hl
  go_enter Try.func67, Try.ntmps67
  go_wp2
  generalize hW0 : World.alloc _ _ = W0
  have kS : Blk W0 w.heap.size 63 (us f 8) := by rw [← hW0]; exact (((Blk.new' rfl).alloc _).alloc _).alloc _
  have kK : Blk W0 (w.heap.size + 1) 70 (us kk 64) := by rw [← hW0]; exact ((Blk.new' (by simp)).alloc _).alloc _
  have kR : Blk W0 (w.heap.size + 1 + 1) 63 (us (fun _ => 0) 8) := by rw [← hW0, us0_8]; exact (Blk.new' (by simp)).alloc _
  have kW : Blk W0 (w.heap.size + 1 + 1 + 1) 70 (us (fun _ => 0) 64) := by rw [← hW0, us0_64]; exact Blk.new' (by simp)
  have d0 : Below w.heap.size w W0 := by rw [← hW0]; exact chainA (chainA (chainA (chain0 _ _) _) _) _
  clear hW0
  go_loopw [8] (fun i wr => ∃ t : Nat, t ≤ 64 ∧ i = .int .i64 t ∧ Blk wr w.heap.size 63 (us f 8) ∧ Blk wr (w.heap.size + 1) 70 (us kk 64) ∧ Blk wr (w.heap.size + 1 + 1) 63 (us (fun _ => 0) 8) ∧
    Blk wr (w.heap.size + 1 + 1 + 1) 70 (us (wst (wd l) t) 64) ∧ Below w.heap.size w wr) (fun i _ => 64 - (intOf i).toNat)
  case atStart => exact ⟨0, by omega, rfl, kS, kK, kR, kW, d0⟩
  case round =>
    obtain ⟨t, ht, rfl, kS, kK, kR, kW, hB⟩ := hrel
    by_cases hlt : t < 64
    · by_cases h16 : t < 16
      · have hf := kW.frozen t
        have cT := (kW.cell t).trans (us_at _ (by omega))
        have i1 : (t : Int) < 64 := by omega
        have i2 : (t : Int) < 16 := by omega
        have i3 : (0 : Int) ≤ 4 * (t : Int) := by omega
        have i4 : 4 * (t : Int) + 4 ≤ (cap : Int) := by omega
        have i5 : 4 * (t : Int) ≤ 4 * (t : Int) + 4 := by omega
        have hne : ¬ cap = 4 * t := by omega
        have n1 : (4 * (t : Int)).toNat = 4 * t := by omega
        go_wp2_with fail
        refine (refInt_any ((l.drop (4 * t)).take 4) _ _ (by simp; omega) (sub_bsl (ho.below hB hb) (Nat.lt_of_lt_of_le hb hB.size) (4 * t) 4 (by rw [HL.out]; omega) (by omega))).mono ?_
        rintro e w' ⟨rfl, rfl⟩
        obtain ⟨hw, hw0, hw1⟩ := wd_be (l := l) t
        rw [hw]
        have HW := Lib.hid (wst_low (f := wd l) h16)
        clear hw
        generalize hx : wd l t = x at *
        have HX := Lib.hid hx
        clear hx i3 i4 i5 n1 hne
        go_wp2_with fail
        have kW' := kW.set t (.int .u32 x)
        rw [us_set, HW.out] at kW'
        exact ⟨⟨t + 1, by omega, by simp, kS.other _ _ (by omega), kK.other _ _ (by omega), kR.other _ _ (by omega), kW', hB.setCell (p := ⟨w.heap.size + 1 + 1 + 1, _, none⟩) (by simp; omega) _⟩, by simp [intOf]; omega⟩
      · have HS := Lib.hid (sch_succ (f := wd l) (t := t) (by omega))
        have HW := Lib.hid (wst_high (f := wd l) (t := t + 1) (by omega))
        rw [wst_high (by omega)] at kW
        generalize hF : sch (wd l) (t - 16) = F at *
        have HF := Lib.hid hF
        clear hF
        have c2 := (kW.cell (t - 2)).trans (us_at _ (by omega))
        have c15 := (kW.cell (t - 15)).trans (us_at _ (by omega))
        have c7 := (kW.cell (t - 7)).trans (us_at _ (by omega))
        have c16 := (kW.cell (t - 16)).trans (us_at _ (by omega))
        have cT := (kW.cell t).trans (us_at _ (by omega))
        have hf := kW.frozen t
        have hT2 : (t : Int) < 64 := by omega
        have hT3 : 16 ≤ (t : Int) := by omega
        have hT4 : ¬ (t : Int) < 16 := by omega
        go_wp2_with fail
        have l2 : IntKind.i64.wrap ((t : Int) - 2) = (t : Int) - 2 := IntWalk.i64_in _ (by omega)
        have l15 : IntKind.i64.wrap ((t : Int) - 15) = (t : Int) - 15 := IntWalk.i64_in _ (by omega)
        have b2 : 0 ≤ (t : Int) - 2 := by omega
        have b2' : (t : Int) - 2 < 64 := by omega
        have b15 : 0 ≤ (t : Int) - 15 := by omega
        have b15' : (t : Int) - 15 < 64 := by omega
        have n2 : ((t : Int) - 2).toNat = t - 2 := by omega
        have n15 : ((t : Int) - 15).toNat = t - 15 := by omega
        go_quiet (fail)
        clear l2 l15 b2 b2' b15 b15' n2 n15 c2 c15
        replace kS : Blk (wr.drewN nq) w.heap.size 63 (us f 8) := kS
        replace kK : Blk (wr.drewN nq) (w.heap.size + 1) 70 (us kk 64) := kK
        replace kW : Blk (wr.drewN nq) (w.heap.size + 1 + 1 + 1) 70 (us F 64) := kW
        replace kR : Blk (wr.drewN nq) (w.heap.size + 1 + 1) 63 (us (fun _ => 0) 8) := kR
        replace hB : Below w.heap.size w (wr.drewN nq) := hB.trans (below_drewN _ _)
        replace hf : (wr.drewN nq).frozen? ⟨w.heap.size + 1 + 1 + 1, t, none⟩ = false := hf
        replace c7 : (wr.drewN nq).cell? ⟨w.heap.size + 1 + 1 + 1, t - 7, none⟩ = some (.int .u32 (F (t - 7))) := c7
        replace c16 : (wr.drewN nq).cell? ⟨w.heap.size + 1 + 1 + 1, t - 16, none⟩ = some (.int .u32 (F (t - 16))) := c16
        replace cT : (wr.drewN nq).cell? ⟨w.heap.size + 1 + 1 + 1, t, none⟩ = some (.int .u32 (F t)) := cT
        generalize wr.drewN nq = wq at *
        have HN := Lib.hid (show nw F t = (bits .xor .u32 (bits .xor .u32 (rot (F (t - 2)) 17) (rot (F (t - 2)) 19)) (F (t - 2) / 1024) + F (t - 7) + bits .xor .u32 (bits .xor .u32 (rot (F (t - 15)) 7) (rot (F (t - 15)) 18)) (F (t - 15) / 8) + F (t - 16)) % 4294967296 from rfl)
        generalize F t = xT at *
        generalize F (t - 2) = x2 at *
        generalize F (t - 15) = x15 at *
        generalize F (t - 7) = x7 at *
        generalize F (t - 16) = x16 at *
        go_wp2
        have l7 : IntKind.i64.wrap ((t : Int) - 7) = (t : Int) - 7 := IntWalk.i64_in _ (by omega)
        have l16 : IntKind.i64.wrap ((t : Int) - 16) = (t : Int) - 16 := IntWalk.i64_in _ (by omega)
        have b7 : 0 ≤ (t : Int) - 7 := by omega
        have b7' : (t : Int) - 7 < 64 := by omega
        have b16 : 0 ≤ (t : Int) - 16 := by omega
        have b16' : (t : Int) - 16 < 64 := by omega
        have b7n : 7 ≤ (t : Int) := by omega
        have n7 : ((t : Int) - 7).toNat = t - 7 := by omega
        have n16 : ((t : Int) - 16).toNat = t - 16 := by omega
        go_still_tail 29, (by kernel_rfl)
        still_call (turn_still _ _ 17 t17 rfl _)
        repeat still_step
        still_call (turn_still _ _ 19 t19 rfl _)
        repeat still_step
        still_call (turn_still _ _ 7 t7 rfl _)
        repeat still_step
        still_call (turn_still _ _ 18 t18 rfl _)
        repeat still_step
        refine wpStill_nil ?_
        change wpList _ _ _ _ _ wq.drew
        clear l7 l16
        go_wp2
        rw [← HN.out]
        have kW' := kW.set t (.int .u32 (nw F t))
        rw [us_set, ← HS.out, ← HW.out] at kW'
        exact ⟨⟨t + 1, by omega, by simp, kS.other _ _ (by omega), kK.other _ _ (by omega), kR.other _ _ (by omega), kW', (hB.setCell (p := ⟨w.heap.size + 1 + 1 + 1, _, none⟩) (by simp; omega) _).drew⟩, by simp [intOf]; omega⟩
    · have hT : ¬ (t : Int) < 64 := by omega
      have ht' : t - 16 = 48 := by omega
      rw [wst_high (by omega), ht'] at kW
      generalize hm : sch (wd l) 48 = m at *
      have HMM := Lib.hid hm
      clear hm ht hlt ht'
      have q0 := (kS.cell 0).trans (us_at _ (by omega))
      have q1 := (kS.cell 1).trans (us_at _ (by omega))
      have q2 := (kS.cell 2).trans (us_at _ (by omega))
      have q3 := (kS.cell 3).trans (us_at _ (by omega))
      have q4 := (kS.cell 4).trans (us_at _ (by omega))
      have q5 := (kS.cell 5).trans (us_at _ (by omega))
      have q6 := (kS.cell 6).trans (us_at _ (by omega))
      have q7 := (kS.cell 7).trans (us_at _ (by omega))
      go_wp2_with fail
      go_quiet (fail)
      replace kS : Blk (wr.drewN nq) w.heap.size 63 (us f 8) := kS
      replace kK : Blk (wr.drewN nq) (w.heap.size + 1) 70 (us kk 64) := kK
      replace kW : Blk (wr.drewN nq) (w.heap.size + 1 + 1 + 1) 70 (us m 64) := kW
      replace kR : Blk (wr.drewN nq) (w.heap.size + 1 + 1) 63 (us (fun _ => 0) 8) := kR
      replace hB : Below w.heap.size w (wr.drewN nq) := hB.trans (below_drewN _ _)
      clear q0 q1 q2 q3 q4 q5 q6 q7
      generalize wr.drewN nq = wq at *
      go_wp2_with fail
      go_loopw [11, 12, 13, 14, 15, 16, 17, 18, 19] (fun a b c d e f' g h i wr => ∃ (k : Nat) (s : S8), k ≤ 64 ∧ Hid (s = rds kk m (s8 f) k) ∧ i = .int .i64 k ∧ a = .int .u32 s.a ∧ b = .int .u32 s.b ∧ c = .int .u32 s.c ∧ d = .int .u32 s.d ∧ e = .int .u32 s.e ∧ f' = .int .u32 s.f ∧ g = .int .u32 s.g ∧ h = .int .u32 s.h ∧
        Blk wr w.heap.size 63 (us f 8) ∧ Blk wr (w.heap.size + 1) 70 (us kk 64) ∧ Blk wr (w.heap.size + 1 + 1) 63 (us (fun _ => 0) 8) ∧ Blk wr (w.heap.size + 1 + 1 + 1) 70 (us m 64) ∧ Below w.heap.size w wr) (fun _ _ _ _ _ _ _ _ i _ => 64 - (intOf i).toNat)
      case atStart => exact ⟨0, s8 f, by omega, Lib.hid rfl, rfl, rfl, rfl, rfl, rfl, rfl, rfl, rfl, rfl, kS, kK, kR, kW, hB⟩
      clear kS kK kW kR hB
      case round =>
        obtain ⟨k, ⟨a, b', c, d, e, f', g, h⟩, hk, HS, rfl, rfl, rfl, rfl, rfl, rfl, rfl, rfl, rfl, kS, kK, kR, kW, hB⟩ := hrel
        dsimp only
        by_cases hlt : k < 64
        · have cM := (kW.cell k).trans (us_at _ hlt)
          have cK := (kK.cell k).trans (us_at _ hlt)
          have hk0 : (k : Int) < 64 := by omega
          go_wp2_with fail
          refine wp_region_still_lit (by kernel_rfl) (by kernel_rfl) ?_
          repeat still_step
          still_call (turn_still _ _ 6 t6 rfl _)
          repeat still_step
          still_call (turn_still _ _ 11 t11 rfl _)
          repeat still_step
          still_call (turn_still _ _ 25 t25 rfl _)
          repeat still_step
          refine wpStill_nil ?_
          generalize hx1 : IntKind.u32.wrap (IntKind.u32.wrap (IntKind.u32.wrap (IntKind.u32.wrap (h + _) + _) + kk k) + m k) = x1
          have HX1 : Hid (tmp1 ⟨a, b', c, d, e, f', g, h⟩ (kk k) (m k) = x1) := Lib.hid (by
            rw [← hx1]; simp only [tmp1, bs1, chs3, IntKind.wrap_u32, Int.emod_add_emod])
          clear hx1
          replace kS : Blk wr.drew w.heap.size 63 (us f 8) := kS
          replace kK : Blk wr.drew (w.heap.size + 1) 70 (us kk 64) := kK
          replace kR : Blk wr.drew (w.heap.size + 1 + 1) 63 (us (fun _ => 0) 8) := kR
          replace kW : Blk wr.drew (w.heap.size + 1 + 1 + 1) 70 (us m 64) := kW
          replace hB : Below w.heap.size w wr.drew := hB.drew
          change Exit.then _ _ _ _ wr.drew
          generalize wr.drew = wq at *
          clear cM cK
          go_wp2_with fail
          refine (turn_still _ _ 2 t2 rfl _).mono ?_
          rintro e' w' ⟨rfl, rfl⟩
          go_wp2_with fail
          refine (turn_still _ _ 13 t13 rfl _).mono ?_
          rintro e' w' ⟨rfl, rfl⟩
          go_wp2_with fail
          refine (turn_still _ _ 22 t22 rfl _).mono ?_
          rintro e' w' ⟨rfl, rfl⟩
          go_wp2_with fail
          exact ⟨⟨k + 1, rnd ⟨a, b', c, d, e, f', g, h⟩ (kk k) (m k), by omega, Lib.hid (by rw [HS.out]; rfl), by simp, by rw [← HX1.out]; rfl, rfl, rfl, rfl, by rw [← HX1.out]; rfl, rfl, rfl, rfl, kS, kK, kR, kW, hB⟩, by simp [intOf]; omega⟩
        · obtain rfl : k = 64 := by omega
          have q0 := (kS.cell 0).trans (us_at _ (by omega))
          have q1 := (kS.cell 1).trans (us_at _ (by omega))
          have q2 := (kS.cell 2).trans (us_at _ (by omega))
          have q3 := (kS.cell 3).trans (us_at _ (by omega))
          have q4 := (kS.cell 4).trans (us_at _ (by omega))
          have q5 := (kS.cell 5).trans (us_at _ (by omega))
          have q6 := (kS.cell 6).trans (us_at _ (by omega))
          have q7 := (kS.cell 7).trans (us_at _ (by omega))
          have hM : mixed kk m f = fun i => (f i + S8.at ⟨a, b', c, d, e, f', g, h⟩ i) % 4294967296 := by unfold mixed; rw [← HS.out]
          have HM := Lib.hid hM
          clear hM
          obtain ⟨r0, r1, r2, r3, r4, r5, r6, r7⟩ : wr.cell? ⟨w.heap.size + 1 + 1, 0, none⟩ = some (.int .u32 0) ∧ wr.cell? ⟨w.heap.size + 1 + 1, 1, none⟩ = some (.int .u32 0) ∧ wr.cell? ⟨w.heap.size + 1 + 1, 2, none⟩ = some (.int .u32 0) ∧ wr.cell? ⟨w.heap.size + 1 + 1, 3, none⟩ = some (.int .u32 0) ∧ wr.cell? ⟨w.heap.size + 1 + 1, 4, none⟩ = some (.int .u32 0) ∧ wr.cell? ⟨w.heap.size + 1 + 1, 5, none⟩ = some (.int .u32 0) ∧ wr.cell? ⟨w.heap.size + 1 + 1, 6, none⟩ = some (.int .u32 0) ∧ wr.cell? ⟨w.heap.size + 1 + 1, 7, none⟩ = some (.int .u32 0) :=
            ⟨kR.cell 0, kR.cell 1, kR.cell 2, kR.cell 3, kR.cell 4, kR.cell 5, kR.cell 6, kR.cell 7⟩
          have f0 := kR.frozen 0
          have f1 := kR.frozen 1
          have f2 := kR.frozen 2
          have f3 := kR.frozen 3
          have f4 := kR.frozen 4
          have f5 := kR.frozen 5
          have f6 := kR.frozen 6
          have f7 := kR.frozen 7
          go_wp2_with fail
          have kR5 := (((((((kR.set 0 (.int .u32 ((f 0 + a) % 4294967296))).set 1 (.int .u32 ((f 1 + b') % 4294967296))).set 2 (.int .u32 ((f 2 + c) % 4294967296))).set 3 (.int .u32 ((f 3 + d) % 4294967296))).set 4 (.int .u32 ((f 4 + e) % 4294967296))).set 5 (.int .u32 ((f 5 + f') % 4294967296))).set 6 (.int .u32 ((f 6 + g) % 4294967296))).set 7 (.int .u32 ((f 7 + h) % 4294967296))
          rw [us0_8] at kR5
          simp only [List.set_cons_zero, List.set_cons_succ] at kR5
          have hlist : [.int .u32 ((f 0 + a) % 4294967296), .int .u32 ((f 1 + b') % 4294967296), .int .u32 ((f 2 + c) % 4294967296), .int .u32 ((f 3 + d) % 4294967296), .int .u32 ((f 4 + e) % 4294967296), .int .u32 ((f 5 + f') % 4294967296), .int .u32 ((f 6 + g) % 4294967296), .int .u32 ((f 7 + h) % 4294967296)] = us (mixed kk m f) 8 := by rw [HM.out, us8]; simp only [S8.at]
          rw [hlist] at kR5
          have hB5 := (((((((hB.setCell (p := ⟨w.heap.size + 1 + 1, 0, none⟩) (by simp; omega) (.int .u32 ((f 0 + a) % 4294967296))).setCell (p := ⟨w.heap.size + 1 + 1, 1, none⟩) (by simp; omega) (.int .u32 ((f 1 + b') % 4294967296))).setCell (p := ⟨w.heap.size + 1 + 1, 2, none⟩) (by simp; omega) (.int .u32 ((f 2 + c) % 4294967296))).setCell (p := ⟨w.heap.size + 1 + 1, 3, none⟩) (by simp; omega) (.int .u32 ((f 3 + d) % 4294967296))).setCell (p := ⟨w.heap.size + 1 + 1, 4, none⟩) (by simp; omega) (.int .u32 ((f 4 + e) % 4294967296))).setCell (p := ⟨w.heap.size + 1 + 1, 5, none⟩) (by simp; omega) (.int .u32 ((f 5 + f') % 4294967296))).setCell (p := ⟨w.heap.size + 1 + 1, 6, none⟩) (by simp; omega) (.int .u32 ((f 6 + g) % 4294967296))).setCell (p := ⟨w.heap.size + 1 + 1, 7, none⟩) (by simp; omega) (.int .u32 ((f 7 + h) % 4294967296))
          exact bodyPost_ret (v := uv (mixed kk m f) 8) (arr_result arr8 rfl _ _ (w.heap.size + 1 + 1) 63 (mixed kk m f) rfl kR5) rfl ⟨by rw [HMM.out], hB5⟩
end Go.Proofs.Ytneilnfjnbecbaa
