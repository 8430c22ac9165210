/-
  The reference's Over and Sum.
-/
import Derived.Test.YtneilnfjnbecbaaRefPad
import Derived.Test.YtneilnfjnbecbaaRefBlock
import Derived.Test.YtneilnfjnbecbaaArrIn
import Derived.StillTailTactics
import Derived.Outline
namespace Go.Proofs.Ytneilnfjnbecbaa
open Go.RowKit Go.Shelf

/-- A text's block n. -/
def blk (p : List UInt8) (n : Nat) : List UInt8 := (p.drop (64 * n)).take 64
/-- The state behind n blocks. -/
def sts (kk : Nat → Int) (p : List UInt8) (f : Nat → Int) : Nat → Nat → Int
  | 0 => f
  | n + 1 => mixed kk (sch (wd (blk p n)) 48) (sts kk p f n)
/-- The octets of the first words of a state. -/
def sumTo (st : Nat → Int) : Nat → List UInt8
  | 0 => []
  | k + 1 => sumTo st k ++ octs (two (wrap64 (st k))) 4
theorem sumTo_length (st : Nat → Int) (k : Nat) : (sumTo st k).length = 4 * k := by
  induction k with
  | zero => rfl
  | succ k ih => simp [sumTo, ih, octs_length]; omega
def sumL (kk f : Nat → Int) (l : List UInt8) : List UInt8 := sumTo (sts kk (padL l) f ((padL l).length / 64)) 8

set_option maxRecDepth 100000 in
set_option maxHeartbeats 4000000 in
theorem refOver_any (l : List UInt8) (sv : Value) (f kk : Nat → Int) (w : World) (hreach : l.length ≤ 140737488353000) (hsv : BSl 0 w.heap.size w sv l) :
    Calls Try.prog 49 #[sv, uv f 8, uv kk 64] w (ByO (sumL kk f l) w) := by
  have hsv0 := hsv
  obtain ⟨a, cap, rfl, hcap, hcs⟩ := hsv
  clear hcs
  have hpl := padL_length l
  have hS : Hid (sumL kk f l = sumTo (sts kk (padL l) f ((padL l).length / 64)) 8) := Lib.hid rfl
  generalize hp : padL l = p at *
  have HP := Lib.hid hp
  clear hp
  go_enter Try.func49, Try.ntmps49
  go_wp2_with fail
  generalize hW0 : World.alloc _ _ = W0
  have kS : Blk W0 w.heap.size 63 (us f 8) := by rw [← hW0]; exact (Blk.new' rfl).alloc _
  have kK : Blk W0 (w.heap.size + 1) 70 (us kk 64) := by rw [← hW0]; exact Blk.new' (by simp)
  have d0 : Below w.heap.size w W0 := by rw [← hW0]; exact chainA (chain0 _ _) _
  have hz0 : W0.heap.size = w.heap.size + 2 := by rw [← hW0]; simp
  clear hW0
  refine (refPad_any l _ _ hreach ((hsv0.below d0 (Nat.le_refl _)).mono (Nat.le_refl _) d0.size)).mono ?_
  rintro e w1 ⟨pv, rfl, hown, hb1⟩
  rw [HP.out] at hown
  have hpb := BSl.of_own hown
  have hd1 := chain d0 hb1
  replace kS := kS.below hb1 kS.lt
  replace kK := kK.below hb1 kK.lt
  obtain ⟨pa, pc, rfl⟩ := ownsRow_slice hown
  obtain ⟨pa', pc', hpe, hpc, hp0⟩ := hpb
  cases hpe
  have hnz : p ≠ [] := fun e => by rw [e] at hpl; simp at hpl; omega
  obtain ⟨pb, po, rfl, hpl0, hpb, hpo⟩ := hp0.resolve_left hnz
  have hpw : w.heap.size < pb := by omega
  clear hz0 hpl0
  have hcm : pc ≤ maxLen := by
    rcases hown.2 with ⟨e, _⟩ | ⟨g, c, cur, e, _, _, _, hcm, _⟩
    · cases e
    · cases e; exact hcm
  unfold maxLen at hcm
  clear hown
  have hl64 : p.length = 64 * (p.length / 64) := by omega
  generalize hN : p.length / 64 = N at *
  clear hpl hN hnz hp0 d0 hb1
  generalize hq : p.length = q at *
  have HQ := Lib.hid hq
  clear hq
  have hq63 : (q : Int) ≤ 9223372036854775807 := by omega
  have HL64 := Lib.hid hl64
  clear hl64
  go_wp2_with fail
  go_loopw [8] (fun i wr => ∃ n : Nat, n ≤ N ∧ i = .int .i64 ((64 * n : Nat) : Int) ∧ Blk wr w.heap.size 63 (us (sts kk p f n) 8) ∧ Blk wr (w.heap.size + 1) 70 (us kk 64) ∧ Octs wr pb po p ∧ Below w.heap.size w wr ∧ pb < wr.heap.size) (fun i _ => 64 * N - (intOf i).toNat)
  case atStart => exact ⟨0, by omega, rfl, kS, kK, hpo, hd1, hpb⟩
  case round =>
    obtain ⟨n, hn, rfl, kS, kK, hpo, hB, hpb⟩ := hrel
    by_cases hlt : n < N
    · have hlen : (blk p n).length = 64 := by unfold blk; simp; have := HQ.out; have := HL64.out; omega
      have hob : Octs wr.drew pb (po + 64 * n) (blk p n) := sub_octs hpo (64 * n) 64
      have hE : ((64 * n : Nat) : Int) + 64 = ((64 * (n + 1) : Nat) : Int) := by omega
      have HE := Lib.hid hE
      clear hE
      have hi1 : ((64 * n : Nat) : Int) < (q : Int) := by have := HL64.out; omega
      have hst : Hid (sts kk p f (n + 1) = mixed kk (sch (wd (blk p n)) 48) (sts kk p f n)) := Lib.hid rfl
      generalize hI : 64 * n = i at *
      have hi2 : (i : Int) + 64 ≤ (pc : Int) := by have := HL64.out; omega
      have hne : ¬ pc = i := by have := HL64.out; omega
      have hi3 : (i : Int) ≤ (i : Int) + 64 := by omega
      have hi4 : (0 : Int) ≤ (i : Int) + 64 := by omega
      have li : IntKind.i64.wrap ((i : Int) + 64) = (i : Int) + 64 := by rw [IntKind.wrap_i64]; omega
      have HI := Lib.hid hI
      clear hI
      go_wp2_with fail
      refine wp_region_still_tail 7 (by kernel_rfl) (by kernel_rfl) ?_
      simp only [List.take_succ_cons, List.take_zero, List.drop_succ_cons, List.drop_zero]
      rw [show ({ heap := wr.heap, tape := wr.tape, drawn := wr.drawn + 1, os := wr.os, output := wr.output } : World) = wr.drew from rfl]
      replace kS : Blk wr.drew w.heap.size 63 (us (sts kk p f n) 8) := kS
      replace kK : Blk wr.drew (w.heap.size + 1) 70 (us kk 64) := kK
      replace hB : Below w.heap.size w wr.drew := hB.drew
      replace hpo : Octs wr.drew pb po p := hpo
      replace hpb : pb < wr.drew.heap.size := hpb
      generalize wr.drew = wq at *
      refine still_load arr8 rfl (.tmp 4) rfl w.heap.size rfl 63 (sts kk p f n) kS ?_
      refine still_load arr64 rfl (.tmp 5) rfl (w.heap.size + 1) rfl 70 kk kK ?_
      repeat still_step
      refine wpStill_nil ?_
      clear li
      go_wp2_with fail
      rw [show i + 64 - i = 64 by omega]
      refine (refBlock_any _ _ (blk p n) hlen pb (po + i) (pc - i) (by omega) (by omega) _ hpb hob).mono ?_
      rintro e w2 ⟨rfl, hb2⟩
      rw [← hst.out]
      have kS2 := kS.below hb2 kS.lt
      have kK2 := kK.below hb2 kK.lt
      have hpo2 := hpo.below hb2 hpb
      have hB2 := chain hB hb2
      go_wp2_with ((with_reducible refine arr_store arr8 rfl (.tmp 4) (.tmp 26) rfl w.heap.size rfl (sts kk p f (n + 1)) rfl 63 (sts kk p f n) kS2 ?_); intro w5 kS5 hg5)
      exact ⟨⟨n + 1, by omega, by rw [HE.out], kS5, kK2.kept hg5 (by simp), hpo2.kept (Nat.lt_of_lt_of_le hpb hb2.size) hg5 (fun e => by have := Option.some.inj e; omega), hB2.grown hg5 hB2.size (fun k e => by have : w.heap.size = k := Option.some.inj e; omega), Nat.lt_of_lt_of_le (Nat.lt_of_lt_of_le hpb hb2.size) hg5.size⟩, by simp [intOf]; have := HI.out; omega⟩
    · obtain rfl : n = N := by omega
      have hi1 : ¬ ((64 * n : Nat) : Int) < (q : Int) := by have := HL64.out; omega
      generalize hst : sts kk p f n = st at *
      have HST := Lib.hid hst
      clear hst hlt hn
      go_wp2_with fail
      go_loopw [9, 10] (fun v i wr => ∃ k : Nat, k ≤ 8 ∧ i = .int .i64 k ∧ wr.ownsRow w.heap.size 5 1 v (4 * k) ((sumTo st k).map bv) ∧ Blk wr w.heap.size 63 (us st 8) ∧ Below w.heap.size w wr) (fun _ i _ => 8 - (intOf i).toNat)
      case atStart => exact ⟨0, by omega, rfl, World.ownsRow_nil _ _ _ _, kS, hB⟩
      clear kS hB hpb hpo kK
      case round =>
        obtain ⟨k, hk, rfl, hown, kS, hB⟩ := hrel
        obtain ⟨va, vc, rfl⟩ := ownsRow_slice hown
        have hNW := hB.size
        by_cases hlt : k < 8
        · have cS := (kS.cell k).trans (us_at _ hlt)
          have hk0 : (k : Int) < 8 := by omega
          go_wp2_with fail
          refine (refNum_any _ 4 (by omega) (by omega) _).mono ?_
          rintro e w2 ⟨s4, rfl, hs4, hb2⟩
          rw [show clamp 4 = 4 from rfl] at hs4
          have hown2 := own_below4 hown hb2
          have hbs : BSl 0 w2.heap.size w2 (.slice va (4 * k) vc) (sumTo st k) := by
            have hq := hown2
            rw [← sumTo_length st k] at hq ⊢
            exact (BSl.of_own hq).mono (Nat.zero_le _) (Nat.le_refl _)
          have hL4 := hs4.mono (Nat.zero_le _) (Nat.le_refl _)
          obtain ⟨a4, c4, rfl, _⟩ := hs4
          go_wp2_with fail
          refine (refCat_any _ _ _ _ _ (by rw [sumTo_length, octs_length]; omega) hbs hL4).mono ?_
          rintro e w3 ⟨sv3, rfl, hown3, hb3⟩
          go_wp2_with fail
          have hown4 := own_base4 (base' := w.heap.size) hown3 (Nat.le_trans hNW hb2.size)
          change w3.ownsRow w.heap.size 5 1 sv3 (sumTo st (k + 1)).length ((sumTo st (k + 1)).map bv) at hown4
          rw [sumTo_length] at hown4
          have hb23 := chain hb2 hb3
          exact ⟨⟨k + 1, by omega, by simp, hown4, kS.below hb23 kS.lt, chain hB hb23⟩, by simp [intOf]; omega⟩
        · obtain rfl : k = 8 := by omega
          go_wp2_with fail
          go_ret
          exact ⟨_, rfl, by rw [hS.out, sumTo_length]; exact hown, hB⟩
end Go.Proofs.Ytneilnfjnbecbaa
