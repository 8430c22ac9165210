/-
  The reference's Mul multiplies digit by digit.
-/
import Derived.Test.YtefbkchledfoiaaBlkW
import Derived.Test.YtefbkchledfoiaaRefDigits
import Derived.Test.YtefbkchledfoiaaRefMade
import Derived.Test.YtefbkchledfoiaaRefMath
import Derived.Maps.AppendAt
import Derived.IntWalk
import Derived.Deep.QuietTactic
import Derived.Deep.RegionHeld3
import Derived.BigQuiet
namespace Go.Proofs.Ytefbkchledfoiaa
open Go.RowKit

theorem run_make21 (w : World) : (Instr.makeSlice 36 (.int .i64 21) (.int .i64 21)).run Try.prog w = .ok (.slice (some ⟨w.heap.size, 0, none⟩) 21 21) (w.alloc (.cells (ds (fun _ => 0) 21).toArray 3)) := by
  kernel_rfl

theorem nv_upd (o : Nat → Nat) (p v : Nat) : ∀ n, p < n → nv (upd o p v) n + o p * 65536 ^ p = nv o n + v * 65536 ^ p
  | 0, h => by omega
  | n + 1, h => by
    show nv (upd o p v) n + upd o p v n * 65536 ^ n + o p * 65536 ^ p = nv o n + o n * 65536 ^ n + v * 65536 ^ p
    by_cases e : n = p
    · subst e
      rw [nv_congr (f := upd o n v) (g := o) (fun k hk => by unfold upd; rw [if_neg (by omega)])]
      rw [show upd o n v n = v by unfold upd; rw [if_pos rfl]]
      omega
    · have ih := nv_upd o p v n (by omega)
      rw [show upd o p v n = o n by unfold upd; rw [if_neg e]]
      omega
theorem upd_lt {o : Nat → Nat} {p v : Nat} (h : ∀ t, o t < 65536) (hv : v < 65536) (t : Nat) : upd o p v t < 65536 := by
  unfold upd; split
  · exact hv
  · exact h t
theorem mul_digit {o yy : Nat → Nat} {N X i k c : Nat} (hp : i + k < 21) (h : nv o 21 + c * 65536 ^ (i + k) = N + X * nv yy k * 65536 ^ i) :
    nv (upd o (i + k) ((c + o (i + k) + X * yy k) % 65536)) 21 + (c + o (i + k) + X * yy k) / 65536 * 65536 ^ (i + k + 1) = N + X * nv yy (k + 1) * 65536 ^ i := by
  have e : (c + o (i + k) + X * yy k) % 65536 + 65536 * ((c + o (i + k) + X * yy k) / 65536) = c + o (i + k) + X * yy k := Nat.mod_add_div _ _
  have hu := nv_upd o (i + k) ((c + o (i + k) + X * yy k) % 65536) 21 hp
  generalize (c + o (i + k) + X * yy k) % 65536 = r at *
  generalize (c + o (i + k) + X * yy k) / 65536 = q at *
  have e2 : (r + 65536 * q) * 65536 ^ (i + k) = (c + o (i + k) + X * yy k) * 65536 ^ (i + k) := by rw [e]
  rw [Nat.add_mul, Nat.add_mul, Nat.add_mul] at e2
  have e3 : X * nv yy (k + 1) * 65536 ^ i = X * nv yy k * 65536 ^ i + X * yy k * 65536 ^ (i + k) := by
    show X * (nv yy k + yy k * 65536 ^ k) * 65536 ^ i = _
    rw [Nat.mul_add, Nat.add_mul, Nat.pow_add, Nat.mul_comm (65536 ^ i) (65536 ^ k), ← Nat.mul_assoc, ← Nat.mul_assoc]
  rw [e3, Nat.pow_succ]
  rw [show 65536 * q * 65536 ^ (i + k) = q * (65536 ^ (i + k) * 65536) by rw [Nat.mul_comm 65536 q, Nat.mul_assoc, Nat.mul_comm 65536 (65536 ^ (i + k))]] at e2
  omega
/-- The factor's digits: four, and 0. -/
def y5 (ys : Nat → Nat) (k : Nat) : Nat := if k < 4 then ys k else 0
theorem nv_y5 {m : Nat} (hm : m < M) : nv (y5 (dg m 0 0 0)) 5 = m := by
  show nv (y5 (dg m 0 0 0)) 4 + y5 (dg m 0 0 0) 4 * 65536 ^ 4 = m
  rw [nv_congr (f := y5 (dg m 0 0 0)) (g := dg m 0 0 0) (fun k hk => by unfold y5; rw [if_pos hk])]
  rw [show y5 (dg m 0 0 0) 4 = 0 from rfl, Nat.zero_mul, Nat.add_zero]
  have h4 := nv4 (dg m 0 0 0) 0
  rw [Nat.zero_add] at h4
  rw [h4, show nv (dg m 0 0 0) 0 = 0 from rfl, Nat.pow_zero, Nat.mul_one, Nat.zero_add]
  have e0 : dg m 0 0 0 0 = sh m 0 % 65536 := rfl
  have e1 : dg m 0 0 0 1 = sh m 1 % 65536 := rfl
  have e2 : dg m 0 0 0 2 = sh m 2 % 65536 := rfl
  have e3 : dg m 0 0 0 3 = sh m 3 % 65536 := rfl
  rw [Nat.zero_add, Nat.zero_add, Nat.zero_add, e0, e1, e2, e3]
  exact (word_digits hm).symm
theorem nv_none (n : Nat) : nv (fun _ => 0) n = 0 := by
  induction n with
  | zero => rfl
  | succ n ih => show nv (fun _ => 0) n + 0 * 65536 ^ n = 0; rw [ih, Nat.zero_mul]
theorem nv_part (f : Nat → Nat) {i : Nat} : ∀ n, i < n → f i * 65536 ^ i ≤ nv f n
  | 0, h => by omega
  | n + 1, h => by
    show f i * 65536 ^ i ≤ nv f n + f n * 65536 ^ n
    by_cases e : i = n
    · subst e; omega
    · have := nv_part f n (i := i) (by omega); omega
theorem nv_high {f : Nat → Nat} {i n : Nat} (h1 : 16 ≤ i) (h2 : i < n) (h3 : f i ≠ 0) : M4 ≤ nv f n := by
  have h := nv_part f n h2
  have hp : 65536 ^ 16 ≤ 65536 ^ i := Nat.pow_le_pow_right (by omega) h1
  rw [pow_M4] at hp
  have hm : 1 * 65536 ^ i ≤ f i * 65536 ^ i := Nat.mul_le_mul_right _ (by omega)
  omega
theorem nv_cut {f : Nat → Nat} : ∀ n, (∀ k, 16 ≤ k → k < 16 + n → f k = 0) → nv f (16 + n) = nv f 16
  | 0, _ => rfl
  | n + 1, h => by
    show nv f (16 + n) + f (16 + n) * 65536 ^ (16 + n) = nv f 16
    rw [nv_cut n (fun k h1 h2 => h k h1 (by omega)), h (16 + n) (by omega) (by omega), Nat.zero_mul, Nat.add_zero]
theorem mul_carry {c o x d : Nat} (hc : c < 65536) (ho : o < 65536) (hx : x < 65536) (hd : d < 65536) : x * d ≤ 4294836225 ∧ (c + o + x * d) / 65536 < 65536 := by
  have h : x * d ≤ 65535 * 65535 := Nat.mul_le_mul (by omega) (by omega)
  omega

set_option maxRecDepth 100000 in
set_option maxHeartbeats 4000000 in
theorem refMul_any {a0 a1 a2 a3 m : Nat} (ha : Ok4 a0 a1 a2 a3) (hm : m < M) (w : World) :
    Calls Try.prog 7 #[wv a0 a1 a2 a3, .int .u64 (m : Int)] w (AddW (val a0 a1 a2 a3 * m) w) := by
  have hmk := run_make21
  have hb : Ok4 m 0 0 0 := ⟨hm, M_pos, M_pos, M_pos⟩
  go_enter Try.func7, Try.ntmps7
  go_wp2_with fail
  refine (digits_any ha _).mono ?_
  rintro e W0 ⟨g0, p0, rfl, hg0, hl0, hn0, hb0⟩
  go_wp2_with (refine (digits_any hb _).mono ?_; rintro e W1 ⟨g1, p1, rfl, hg1, hl1, hn1, hb1⟩)
  have d1 : Below w.heap.size w W1 := chain (chain (chainA (chain0 _ _) _) hb0) hb1
  have kR : BlkW W1 (w.heap.size + 1) 0 0 0 0 := (Blk.below (Blk.new' (by simp)) hb0 (by simp)).below hb1 (by have := hb0.size; simp at this; omega)
  have nx := hn0.below hb1 hl0
  have ny := hn1
  have hz' : w.heap.size + 1 < W1.heap.size := kR.lt
  have hg0' : g0 < W1.heap.size := by have := hb1.size; omega
  have nA := nv_dg ha
  have nB := nv_y5 hm
  clear hn0 hn1 hb0 hb1
  generalize hA : dg a0 a1 a2 a3 = xs at *
  generalize hB : dg m 0 0 0 = ys at *
  have HA := Lib.hid hA
  have HB := Lib.hid hB
  have NA := Lib.hid nA
  have NB := Lib.hid nB
  clear hA hB nA nB
  have hxs : ∀ k, xs k < 65536 := fun k => by rw [← HA.out]; exact dg_lt _ _ _ _ k
  have hys : ∀ k, ys k < 65536 := fun k => by rw [← HB.out]; exact dg_lt _ _ _ _ k
  have kO : Blk (W1.alloc (.cells (ds (fun _ => 0) 21).toArray 3)) W1.heap.size 3 (ds (fun _ => 0) 21) := Blk.new' rfl
  have dO : Below W1.heap.size W1 (W1.alloc (.cells (ds (fun _ => 0) 21).toArray 3)) := chain0 _ _
  generalize W1.alloc (.cells (ds (fun _ => 0) 21).toArray 3) = W2 at *
  go_wp2
  go_loopw [9] (fun iv wr => ∃ (i : Nat) (o : Nat → Nat), i ≤ 16 ∧ iv = .int .i64 i ∧ Blk wr W1.heap.size 3 (ds o 21) ∧ (∀ t, o t < 65536) ∧ (∀ t, i + 4 ≤ t → o t = 0) ∧ nv o 21 = nv xs i * m ∧ Below W1.heap.size W1 wr) (fun i _ => 16 - (intOf i).toNat)
  case atStart => exact ⟨0, fun _ => 0, by omega, rfl, kO, fun _ => Nat.zero_lt_succ _, fun _ _ => rfl, by rw [nv_none]; exact (Nat.zero_mul m).symm, dO⟩
  case round =>
    obtain ⟨i, o, hi, rfl, kO, hol, hoz, hval, hbel⟩ := hrel
    by_cases hlt : i < 16
    · have hi' : (i : Int) < 16 := by omega
      have HV := Lib.hid hval
      have HZ := Lib.hid hoz
      clear hval hoz
      go_wp2
      obtain ⟨wo, rfl⟩ : ∃ wo : World, wo = wr := ⟨_, rfl⟩
      go_loopw [10, 11] (fun cv kv wr => ∃ (k c : Nat) (o : Nat → Nat), k ≤ 5 ∧ kv = .int .i64 k ∧ cv = .int .i64 c ∧ Blk wr W1.heap.size 3 (ds o 21) ∧ (∀ t, o t < 65536) ∧ (∀ t, i + 5 ≤ t → o t = 0) ∧ (k ≤ 4 → o (i + 4) = 0) ∧ c < 65536 ∧ (k = 5 → c = 0) ∧ nv o 21 + c * 65536 ^ (i + k) = nv xs i * m + xs i * nv (y5 ys) k * 65536 ^ i ∧ Below W1.heap.size W1 wr) (fun _ k _ => 5 - (intOf k).toNat)
      case atStart => exact ⟨0, 0, o, by omega, rfl, rfl, kO, hol, fun t h => HZ.out t (by omega), fun _ => HZ.out _ (by omega), by omega, fun h => by omega, by rw [HV.out]; simp [nv], hbel⟩
      case round =>
        clear kO hol hbel HV HZ
        obtain ⟨k, c, o, hk, rfl, rfl, kO, hol, hoz, hoz4, hcl, hc0, hval, hbel⟩ := hrel
        have HV := Lib.hid hval
        have HZ := Lib.hid hoz
        have HZ4 := Lib.hid hoz4
        have HC0 := Lib.hid hc0
        clear hval hoz hoz4 hc0
        by_cases hlk : k < 5
        · have hk5 : (k : Int) < 5 := by omega
          have hox : wr.cell? ⟨W1.heap.size, i + k, none⟩ = some (.int .i64 (o (i + k) : Nat)) := kO.numsOf (i + k) (by omega)
          have hof := kO.frozen (i + k)
          have hx := (nx.below hbel hg0') i hlt
          have bx := hxs i
          have bo := hol (i + k)
          have hik : ((i : Int) + (k : Int)).toNat = i + k := by omega
          have hstep := mul_digit (o := o) (yy := y5 ys) (N := nv xs i * m) (X := xs i) (i := i) (k := k) (c := c) (by omega) HV.out
          have HST := Lib.hid hstep
          clear hstep
          have l0 : IntKind.i64.wrap ((i : Int) + (k : Int)) = (i : Int) + (k : Int) := IntWalk.i64_in _ (by omega)
          by_cases hk4 : k < 4
          · have hk4' : (k : Int) < 4 := by omega
            have hy := (ny.below hbel hl1) k (by omega)
            have bY := hys k
            have ey : y5 ys k = ys k := by unfold y5; rw [if_pos hk4]
            rw [ey] at HST
            obtain ⟨hm1, hm2⟩ := mul_carry hcl bo bx bY
            generalize hov : o (i + k) = ov at *
            generalize xs i = x at *
            generalize ys k = y at *
            have hp0 : (0 : Int) ≤ (i : Int) + (k : Int) := by omega
            have hp1 : (i : Int) + (k : Int) < 21 := by omega
            have hi0 : (0 : Int) ≤ (i : Int) := by omega
            have hm1' : (x : Int) * (y : Int) ≤ 4294836225 := by rw [← Int.natCast_mul]; omega
            have hm0' : 0 ≤ (x : Int) * (y : Int) := by rw [← Int.natCast_mul]; omega
            have l1 : IntKind.i64.wrap ((c : Int) + (ov : Int)) = (c : Int) + (ov : Int) := IntWalk.i64_in _ (by omega)
            have l2 : IntKind.i64.wrap ((x : Int) * (y : Int)) = (x : Int) * (y : Int) := IntWalk.i64_in _ (by omega)
            have l3 : IntKind.i64.wrap ((c : Int) + (ov : Int) + (x : Int) * (y : Int)) = (c : Int) + (ov : Int) + (x : Int) * (y : Int) := IntWalk.i64_in _ (by omega)
            go_wp2_with fail
            go_quiet (fail)
            clear l1 l2 l3 hx hy hox
            replace kO : Blk (wr.drewN nq) W1.heap.size 3 (ds o 21) := kO
            replace hbel : Below W1.heap.size W1 (wr.drewN nq) := hbel.trans ⟨rfl, rfl, rfl, Nat.le_refl _, fun _ _ => rfl⟩
            replace hof : (wr.drewN nq).frozen? ⟨W1.heap.size, i + k, none⟩ = false := hof
            generalize wr.drewN nq = wq at *
            have hox : wq.cell? ⟨W1.heap.size, i + k, none⟩ = some (.int .i64 (o (i + k) : Nat)) := kO.numsOf (i + k) (by omega)
            have hT : (c : Int) + (ov : Int) + (x : Int) * (y : Int) = ((c + ov + x * y : Nat) : Int) := by simp
            rw [hT]
            have hTl : c + ov + x * y < 4294967296 := by omega
            clear hT
            generalize c + ov + x * y = T at *
            clear hm1 hm1' hm0' HC0
            go_wp2_with fail
            have kO' := kO.set (i + k) (.int .i64 ((T : Int) % 65536))
            rw [show (T : Int) % 65536 = ((T % 65536 : Nat) : Int) by simp, ds_set] at kO'
            refine ⟨⟨k + 1, T / 65536, upd o (i + k) (T % 65536), by omega, by simp, by simp, by rw [show (T : Int) % 65536 = ((T % 65536 : Nat) : Int) by simp]; exact kO', upd_lt hol (Nat.mod_lt _ (by omega)), fun t ht => ?_, fun _ => ?_, by omega, fun h => by omega, HST.out, hbel.setCell (p := ⟨W1.heap.size, i + k, none⟩) (Nat.le_refl _) _⟩, by simp [intOf]; omega⟩
            · unfold upd; rw [if_neg (by omega)]; exact HZ.out t ht
            · unfold upd; rw [if_neg (by omega)]; exact HZ4.out (by omega)
          · obtain rfl : k = 4 := by omega
            have ez : o (i + 4) = 0 := HZ4.out (by omega)
            rw [show y5 ys 4 = 0 from rfl, Nat.mul_zero, Nat.add_zero] at HST
            rw [ez] at hox HST bo
            rw [Nat.add_zero] at HST
            have hp0 : (0 : Int) ≤ (i : Int) + 4 := by omega
            have hp1 : (i : Int) + 4 < 21 := by omega
            have hi0 : (0 : Int) ≤ (i : Int) := by omega
            have hik' : ((i : Int) + 4).toNat = i + 4 := by omega
            have l0' : IntKind.i64.wrap ((i : Int) + 4) = (i : Int) + 4 := IntWalk.i64_in _ (by omega)
            have l1 : IntKind.i64.wrap (c : Int) = (c : Int) := IntWalk.i64_in _ (by omega)
            generalize xs i = x at *
            go_wp2_with fail
            go_quiet (fail)
            clear l1 hx hox
            replace kO : Blk (wr.drewN nq) W1.heap.size 3 (ds o 21) := kO
            replace hbel : Below W1.heap.size W1 (wr.drewN nq) := hbel.trans ⟨rfl, rfl, rfl, Nat.le_refl _, fun _ _ => rfl⟩
            replace hof : (wr.drewN nq).frozen? ⟨W1.heap.size, i + 4, none⟩ = false := hof
            generalize wr.drewN nq = wq at *
            have hox : wq.cell? ⟨W1.heap.size, i + 4, none⟩ = some (.int .i64 (o (i + 4) : Nat)) := kO.numsOf (i + 4) (by omega)
            clear HC0
            go_wp2_with fail
            have kO' := kO.set (i + 4) (.int .i64 ((c : Int) % 65536))
            rw [show (c : Int) % 65536 = ((c % 65536 : Nat) : Int) by simp, ds_set] at kO'
            refine ⟨⟨5, c / 65536, upd o (i + 4) (c % 65536), by omega, by simp, by simp, by rw [show (c : Int) % 65536 = ((c % 65536 : Nat) : Int) by simp]; exact kO', upd_lt hol (Nat.mod_lt _ (by omega)), fun t ht => ?_, fun _ => by omega, by omega, fun h => by omega, HST.out, hbel.setCell (p := ⟨W1.heap.size, i + 4, none⟩) (Nat.le_refl _) _⟩, by simp [intOf]⟩
            unfold upd; rw [if_neg (by omega)]; exact HZ.out t ht
        · obtain rfl : k = 5 := by omega
          obtain rfl : c = 0 := HC0.out rfl
          go_wp2
          refine ⟨⟨i + 1, o, by omega, by simp, kO, hol, fun t ht => HZ.out t (by omega), ?_, hbel⟩, by simp [intOf]; omega⟩
          have e := HV.out
          rw [NB.out, Nat.zero_mul, Nat.add_zero] at e
          rw [e]
          show nv xs i * m + xs i * m * 65536 ^ i = (nv xs i + xs i * 65536 ^ i) * m
          rw [Nat.add_mul, Nat.mul_assoc, Nat.mul_assoc, Nat.mul_comm m (65536 ^ i)]
    · obtain rfl : i = 16 := by omega
      rw [NA.out] at hval
      have HM := Lib.hid hval
      clear hval hoz
      go_wp2_with fail
      refine (made_any 21 21 W1.heap.size o (by omega) (fun k _ => hol k) _ kO.lt kO.numsOf).mono ?_
      rintro e w2 (⟨⟨i, hi1, hi2, hi3⟩, rfl, hb2⟩ | ⟨hall, rfl, hb2⟩)
      · have kR2 : BlkW w2 (w.heap.size + 1) 0 0 0 0 := (kR.below hbel (by omega)).below hb2 (by have := hbel.size; omega)
        have d2 : Below w.heap.size w w2 := chain (d1.trans (hbel.mono d1.size)) hb2
        have c20 : w2.cell? ⟨w.heap.size + 1, 0, none⟩ = some (.int .u64 ((0 : Nat) : Int)) := kR2.cell 0
        have f20 := kR2.frozen 0
        have c21 : w2.cell? ⟨w.heap.size + 1, 1, none⟩ = some (.int .u64 ((0 : Nat) : Int)) := kR2.cell 1
        have f21 := kR2.frozen 1
        have c22 : w2.cell? ⟨w.heap.size + 1, 2, none⟩ = some (.int .u64 ((0 : Nat) : Int)) := kR2.cell 2
        have f22 := kR2.frozen 2
        have c23 : w2.cell? ⟨w.heap.size + 1, 3, none⟩ = some (.int .u64 ((0 : Nat) : Int)) := kR2.cell 3
        have f23 := kR2.frozen 3
        have H3 := Lib.hid (nv_high (n := 21) hi1 hi2 hi3)
        clear hi1 hi2 hi3
        go_wp2_with fail
        have kR' := (((kR2.set 0 (.int .u64 0)).set 1 (.int .u64 0)).set 2 (.int .u64 0)).set 3 (.int .u64 0)
        have r0 := kR'.cell 0
        have r1 := kR'.cell 1
        have r2 := kR'.cell 2
        have r3 := kR'.cell 3
        simp only [List.set_cons_zero, List.set_cons_succ, List.getElem?_cons_zero, List.getElem?_cons_succ] at r0 r1 r2 r3
        have hB' := (((d2.setCell (p := ⟨w.heap.size + 1, 0, none⟩) (by simp) (.int .u64 0)).setCell (p := ⟨w.heap.size + 1, 1, none⟩) (by simp) (.int .u64 0)).setCell (p := ⟨w.heap.size + 1, 2, none⟩) (by simp) (.int .u64 0)).setCell (p := ⟨w.heap.size + 1, 3, none⟩) (by simp) (.int .u64 0)
        exact bodyPost_ret (v := .tuple #[wv 0 0 0 0, .bool false]) (by simp [results, Try.f7, go_sem, r0, r1, r2, r3]) rfl (.inr ⟨by rw [← HM.out]; exact H3.out, rfl, hB'⟩)
      · have kR2 : BlkW w2 (w.heap.size + 1) 0 0 0 0 := (kR.below hbel (by omega)).below hb2 (by have := hbel.size; omega)
        have d2 : Below w.heap.size w w2 := chain (d1.trans (hbel.mono d1.size)) hb2
        have c20 : w2.cell? ⟨w.heap.size + 1, 0, none⟩ = some (.int .u64 ((0 : Nat) : Int)) := kR2.cell 0
        have f20 := kR2.frozen 0
        have c21 : w2.cell? ⟨w.heap.size + 1, 1, none⟩ = some (.int .u64 ((0 : Nat) : Int)) := kR2.cell 1
        have f21 := kR2.frozen 1
        have c22 : w2.cell? ⟨w.heap.size + 1, 2, none⟩ = some (.int .u64 ((0 : Nat) : Int)) := kR2.cell 2
        have f22 := kR2.frozen 2
        have c23 : w2.cell? ⟨w.heap.size + 1, 3, none⟩ = some (.int .u64 ((0 : Nat) : Int)) := kR2.cell 3
        have f23 := kR2.frozen 3
        have hcut := nv_cut (f := o) 5 hall
        have hok := wdg_ok (f := o) (n := 21) (by omega) (fun k hk => hol k)
        have hnv := nv_val o (n := 21) (by omega)
        have hfin : val (wdg o 21 0) (wdg o 21 1) (wdg o 21 2) (wdg o 21 3) = val a0 a1 a2 a3 * m := by
          rw [hnv, ← HM.out]; exact hcut.symm
        have HF := Lib.hid hfin
        clear hfin hnv hcut hall
        generalize wdg o 21 0 = s0 at *
        generalize wdg o 21 1 = s1 at *
        generalize wdg o 21 2 = s2 at *
        generalize wdg o 21 3 = s3 at *
        go_wp2_with fail
        have kR' := (((kR2.set 0 (.int .u64 (s0 : Nat))).set 1 (.int .u64 (s1 : Nat))).set 2 (.int .u64 (s2 : Nat))).set 3 (.int .u64 (s3 : Nat))
        have r0 := kR'.cell 0
        have r1 := kR'.cell 1
        have r2 := kR'.cell 2
        have r3 := kR'.cell 3
        simp only [List.set_cons_zero, List.set_cons_succ, List.getElem?_cons_zero, List.getElem?_cons_succ] at r0 r1 r2 r3
        have hB' := (((d2.setCell (p := ⟨w.heap.size + 1, 0, none⟩) (by simp) (.int .u64 (s0 : Nat))).setCell (p := ⟨w.heap.size + 1, 1, none⟩) (by simp) (.int .u64 (s1 : Nat))).setCell (p := ⟨w.heap.size + 1, 2, none⟩) (by simp) (.int .u64 (s2 : Nat))).setCell (p := ⟨w.heap.size + 1, 3, none⟩) (by simp) (.int .u64 (s3 : Nat))
        exact bodyPost_ret (v := .tuple #[wv s0 s1 s2 s3, .bool true]) (by simp [results, Try.f7, go_sem, r0, r1, r2, r3]) rfl (by have e1 := HF.out; have hv := val_lt hok; exact .inl ⟨by omega, s0, s1, s2, s3, hok, e1, rfl, hB'⟩)
end Go.Proofs.Ytefbkchledfoiaa
