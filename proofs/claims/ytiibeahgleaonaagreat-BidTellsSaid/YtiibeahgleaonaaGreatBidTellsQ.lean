/-
  BidTells answers true at every input, and leaves its arguments as they are.
  The walk of BidTells: which asks and bids may be, a bid's text, whether it is valid, and which one is better, are as the reference's.
-/
import Derived.Deep.Cut
import Derived.Deep.CutBlock
import Derived.Deep.DeepCutAuto
import Derived.Deep.QuietTactic
import Derived.BigQuiet
import Derived.ChangeMaps5
import Derived.Test.YtiibeahgleaonaaGreatK14
namespace Go.Proofs.YtiibeahgleaonaaGreat
open Go.RowKit Go.Shelf

/-- Word t of a bid's Amount. -/
def wdB (b : Bd) (t : Nat) : Nat := match t with | 0 => b.b0 | 1 => b.b1 | 2 => b.b2 | _ => b.b3
def vB (b : Bd) : Nat := val b.b0 b.b1 b.b2 b.b3
theorem wdB_at (b : Bd) {j : Nat} (hj : j < 4) : (bdc b)[10 + j]? = some (.int .u64 (wdB b j : Nat)) := by
  obtain rfl | rfl | rfl | rfl : j = 0 ∨ j = 1 ∨ j = 2 ∨ j = 3 := by omega
  all_goals rfl
theorem words_gt {a b : Bd} (ha : Ok4 a.b0 a.b1 a.b2 a.b3) (hb : Ok4 b.b0 b.b1 b.b2 b.b3) {j : Nat} (hj : j < 4) (he : ∀ t, t < 4 → j < t → wdB a t = wdB b t) (h : wdB b j < wdB a j) : vB b < vB a := by
  obtain ⟨a0, a1, a2, a3⟩ := ha
  obtain ⟨b0, b1, b2, b3⟩ := hb
  have e1 : j < 1 → a.b1 = b.b1 := he 1 (by omega)
  have e2 : j < 2 → a.b2 = b.b2 := he 2 (by omega)
  have e3 : j < 3 → a.b3 = b.b3 := he 3 (by omega)
  clear he
  unfold vB val M at *
  obtain rfl | rfl | rfl | rfl : j = 0 ∨ j = 1 ∨ j = 2 ∨ j = 3 := by omega
  · have h' : b.b0 < a.b0 := h
    omega
  · have h' : b.b1 < a.b1 := h
    omega
  · have h' : b.b2 < a.b2 := h
    omega
  · have h' : b.b3 < a.b3 := h
    omega
theorem words_eq {a b : Bd} (he : ∀ t, t < 4 → wdB a t = wdB b t) : vB a = vB b := by
  have e0 : a.b0 = b.b0 := he 0 (by omega)
  have e1 : a.b1 = b.b1 := he 1 (by omega)
  have e2 : a.b2 = b.b2 := he 2 (by omega)
  have e3 : a.b3 = b.b3 := he 3 (by omega)
  unfold vB; rw [e0, e1, e2, e3]
/-- Behind k rounds: more, or all words looked at are the same. -/
def GtK (a b : Bd) (k : Nat) (m : Bool) : Prop := (m = true → vB b < vB a) ∧ (m = false → ∀ t, t < 4 → 4 ≤ t + k → wdB a t = wdB b t)
theorem below_two {h : Nat} {w W : World} {p q : Nat} (hb : Below h w W) : Below h w ((W.drewN p).drewN q) := hb.trans ⟨rfl, rfl, rfl, Nat.le_refl _, fun _ _ => rfl⟩
theorem below_one {h : Nat} {w W : World} {p : Nat} (hb : Below h w W) : Below h w (W.drewN p) := hb.trans ⟨rfl, rfl, rfl, Nat.le_refl _, fun _ _ => rfl⟩
theorem betB_vB (a b : Bd) : betB a b = decide (vB b < vB a ∨ (vB a = vB b ∧ a.ro < b.ro)) := rfl
theorem vB_words {a b : Bd} (ha : Ok4 a.b0 a.b1 a.b2 a.b3) (hb : Ok4 b.b0 b.b1 b.b2 b.b3) : (vB a = vB b) ↔ ((a.b0 : Int) = b.b0 ∧ (a.b1 : Int) = b.b1 ∧ (a.b2 : Int) = b.b2 ∧ (a.b3 : Int) = b.b3) := by
  constructor
  · intro h
    obtain ⟨h0, h1, h2, h3⟩ := val_inj ha hb h
    rw [h0, h1, h2, h3]; exact ⟨rfl, rfl, rfl, rfl⟩
  · rintro ⟨h0, h1, h2, h3⟩
    unfold vB
    rw [show a.b0 = b.b0 by omega, show a.b1 = b.b1 by omega, show a.b2 = b.b2 by omega, show a.b3 = b.b3 by omega]

set_option maxRecDepth 100000 in
set_option maxHeartbeats 8000000 in
theorem bidTells_any (a b : Bd) (ha : OkB a) (hb4 : OkB b) (root : ByteArray) (w : World) :
    Calls Tryz.prog 3 #[bdv a, bdv b, .string root] w fun e W' => e = .returned (.bool true) ∧ Below w.heap.size w W' := by
  have hmx : Tryz.prog.follows .mixedOrders = true := by kernel_rfl
  have A1 := Lib.hid (checkAsk_any a.k)
  have A2 := Lib.hid (refAsk_any a.k)
  have B1 := Lib.hid (check_any a ha)
  have B2 := Lib.hid (refBid_any a ha)
  have T1 := Lib.hid (text8_any a ha)
  have T2 := Lib.hid (refText8_any a ha)
  have V1 := Lib.hid (valid8_any a ha root)
  have V2 := Lib.hid (refValid8_any a ha root)
  have G1 := Lib.hid (better_any a b ha hb4)
  have HGT := Lib.hid (fun j (hj : j < 4) he h => words_gt (a := a) (b := b) ha.b hb4.b hj he h)
  have HLT := Lib.hid (fun j (hj : j < 4) he h => words_gt (a := b) (b := a) hb4.b ha.b hj he h)
  have HEQ := Lib.hid (fun he => words_eq (a := a) (b := b) he)
  have HWD := Lib.hid (vB_words (a := a) (b := b) ha.b hb4.b)
  have HBT := Lib.hid (betB_vB a b)
  generalize errA a.k = ea at *
  generalize errB a = eb at *
  generalize textL a = tl at *
  generalize validB a root = vv at *
  generalize betB a b = bt at *
  go_enter Tryz.func3, Tryz.ntmps3
  go_upto_block 0 with fail
  generalize hW0 : World.alloc _ _ = W0
  have kA : Blk W0 w.heap.size 28 (bdc a) := by rw [← hW0]; exact (Blk.new w 28 (bdc a)).alloc _
  have kB : Blk W0 (w.heap.size + 1) 28 (bdc b) := by rw [← hW0]; exact Blk.new' (vs := bdc b) (by simp)
  have hB : Below w.heap.size w W0 := by rw [← hW0]; exact chainA (chain0 w _) _
  clear hW0
  go_cut [7] (fun s wc => s = .bool (decide (vB b < vB a)) ∧ Blk wc w.heap.size 28 (bdc a) ∧ Blk wc (w.heap.size + 1) 28 (bdc b) ∧ Below w.heap.size w wc)
  case first =>
    clear A1 A2 B1 B2 T1 T2 V1 V2 G1 HBT HWD
    go_wp2_with fail
    go_loopw [7, 8] (fun m i wr => ∃ (k : Nat) (mb : Bool), k ≤ 4 ∧ i = .int .i64 (3 - (k : Int)) ∧ m = .bool mb ∧ GtK a b k mb ∧ Blk wr w.heap.size 28 (bdc a) ∧ Blk wr (w.heap.size + 1) 28 (bdc b) ∧ Below w.heap.size w wr) (fun _ i _ => ((intOf i) + 1).toNat)
    case atStart => exact ⟨0, false, by omega, rfl, rfl, ⟨fun h => (by cases h), fun _ t h1 h2 => by omega⟩, kA, kB, hB⟩
    case round =>
      clear kA kB hB
      obtain ⟨k, mb, hk, rfl, rfl, ⟨hg1, hg2⟩, kA, kB, hB⟩ := hrel
      cases mb with
      | true =>
        have HX := Lib.hid (decide_eq_true (hg1 rfl))
        clear hg1 hg2 HGT HLT HEQ
        by_cases hlt : k < 4
        · have h0 : (0 : Int) ≤ 3 - (k : Int) := by omega
          go_wp2_with fail
          go_meet
          exact ⟨by rw [HX.out], kA, kB, hB⟩
        · have h0 : ¬ (0 : Int) ≤ 3 - (k : Int) := by omega
          go_wp2_with fail
          go_meet
          exact ⟨by rw [HX.out], kA, kB, hB⟩
      | false =>
        have HE := Lib.hid (hg2 rfl)
        clear hg1 hg2
        by_cases hlt : k < 4
        · obtain ⟨j, hj⟩ : ∃ j, j + k = 3 := ⟨3 - k, by omega⟩
          have hj4 : j < 4 := by omega
          have hji : (3 : Int) - (k : Int) = (j : Int) := by omega
          have HJ := Lib.hid hji
          have hx : wr.cell? ⟨w.heap.size, 10 + j, none⟩ = some (.int .u64 (wdB a j : Nat)) := (kA.cell _).trans (wdB_at a hj4)
          have hy : wr.cell? ⟨w.heap.size + 1, 10 + j, none⟩ = some (.int .u64 (wdB b j : Nat)) := (kB.cell _).trans (wdB_at b hj4)
          rw [hji]
          have hj0 : (0 : Int) ≤ (j : Int) := by omega
          have hj1 : (j : Int) < 4 := by omega
          have HG := Lib.hid (fun h => HGT.out j hj4 (fun t h1 h2 => HE.out t h1 (by omega)) h)
          have HL := Lib.hid (fun h => HLT.out j hj4 (fun t h1 h2 => (HE.out t h1 (by omega)).symm) h)
          have HN : Hid (wdB a j = wdB b j → ∀ t, t < 4 → 4 ≤ t + (k + 1) → wdB a t = wdB b t) := Lib.hid (fun e t h1 h2 => by
            by_cases ht : t = j
            · rw [ht]; exact e
            · exact HE.out t h1 (by omega))
          clear hji HGT HLT HEQ
          generalize wdB a j = x at *
          generalize wdB b j = y at *
          have HK := Lib.hid (And.intro kA (And.intro kB hB))
          clear kA kB hB
          rcases Nat.lt_trichotomy x y with hxy | hxy | hxy
          · have h1 : ¬ (y : Int) < (x : Int) := by omega
            have h2 : (x : Int) < (y : Int) := by omega
            have HX := Lib.hid (HL.out hxy)
            clear hxy
            go_wp2_with fail
            go_quiet (fail)
            go_wp2_with fail
            go_quiet (fail)
            go_wp2_with fail
            go_meet
            exact ⟨congrArg Value.bool (by rw [decide_eq_false (by omega), decide_eq_false (by have := HX.out; omega)]), HK.out.1, HK.out.2.1, below_two HK.out.2.2⟩
          · have h1 : ¬ (y : Int) < (x : Int) := by omega
            have h2 : ¬ (x : Int) < (y : Int) := by omega
            have HX := Lib.hid (HN.out hxy)
            have HV := Lib.hid hxy
            clear hxy
            go_wp2_with fail
            go_quiet (fail)
            go_wp2_with fail
            go_quiet (fail)
            go_wp2_with fail
            go_roundw
            case rel => exact ⟨k + 1, false, by omega, by rw [show (j : Int) - 1 = 3 - ((k + 1 : Nat) : Int) by omega], (by first | rfl | exact congrArg Value.bool (decide_eq_false (by have := HV.out; omega))), ⟨fun h => (by cases h), fun _ => HX.out⟩, HK.out.1, HK.out.2.1, below_one HK.out.2.2⟩
            case measure => simp [intOf]
          · have h1 : (y : Int) < (x : Int) := by omega
            have h2 : ¬ (x : Int) < (y : Int) := by omega
            have HX := Lib.hid (HG.out hxy)
            have HV := Lib.hid hxy
            clear hxy
            go_wp2_with fail
            go_quiet (fail)
            go_wp2_with fail
            go_quiet (fail)
            go_wp2_with fail
            go_roundw
            case rel => exact ⟨k + 1, true, by omega, by rw [show (j : Int) - 1 = 3 - ((k + 1 : Nat) : Int) by omega], (by first | rfl | exact congrArg Value.bool (decide_eq_true (by have := HV.out; omega))), ⟨fun _ => HX.out, fun h => (by cases h)⟩, HK.out.1, HK.out.2.1, below_one HK.out.2.2⟩
            case measure => simp [intOf]
        · have h0 : ¬ (0 : Int) ≤ 3 - (k : Int) := by omega
          have HX := Lib.hid (HEQ.out (fun t h1 => HE.out t h1 (by omega)))
          go_wp2_with fail
          go_meet
          exact ⟨congrArg Value.bool (decide_eq_false (by have := HX.out; omega)).symm, kA, kB, hB⟩
  case rest =>
    clear HGT HLT HEQ kA kB hB
    obtain ⟨rfl, kA, kB, hB⟩ := hcut
    generalize hgd : decide (vB b < vB a) = gt at *
    have HGD := Lib.hid hgd
    clear hgd
    go_upto_region 7 with fail
    go_cut [9] (fun s wd => s = .bool bt ∧ wd = wc)
    case first =>
      clear A1 A2 B1 B2 T1 T2 V1 V2 G1
      have hweq := @run_equalIn_wide
      have a10 := (kA.cell 10).trans rfl
      have a11 := (kA.cell 11).trans rfl
      have a12 := (kA.cell 12).trans rfl
      have a13 := (kA.cell 13).trans rfl
      have a0 := (kA.cell 0).trans rfl
      have b10 := (kB.cell 10).trans rfl
      have b11 := (kB.cell 11).trans rfl
      have b12 := (kB.cell 12).trans rfl
      have b13 := (kB.cell 13).trans rfl
      have b0 := (kB.cell 0).trans rfl
      cases gt with
      | true =>
        have hgt : vB b < vB a := of_decide_eq_true HGD.out
        have HX := Lib.hid (decide_eq_true (p := vB b < vB a ∨ (vB a = vB b ∧ a.ro < b.ro)) (.inl hgt))
        clear hgt HWD HGD
        go_wp2_with fail
        go_meet
        exact ⟨by rw [HBT.out, HX.out], rfl⟩
      | false =>
        have hgt : ¬ vB b < vB a := of_decide_eq_false HGD.out
        clear HGD
        by_cases heq : vB a = vB b
        · have hq : wEq (a.b0 : Int) (a.b1 : Int) (a.b2 : Int) (a.b3 : Int) (b.b0 : Int) (b.b1 : Int) (b.b2 : Int) (b.b3 : Int) = true := wEq_of (HWD.out.1 heq)
          have HX : Hid (decide (vB b < vB a ∨ (vB a = vB b ∧ a.ro < b.ro)) = decide (a.ro < b.ro)) := Lib.hid (by
            by_cases hr : a.ro < b.ro
            · rw [decide_eq_true hr, decide_eq_true (.inr ⟨heq, hr⟩)]
            · rw [decide_eq_false hr, decide_eq_false (by omega)])
          clear hgt heq HWD
          go_wp2_with fail
          go_meet
          exact ⟨by rw [HBT.out, HX.out], rfl⟩
        · have hq : wEq (a.b0 : Int) (a.b1 : Int) (a.b2 : Int) (a.b3 : Int) (b.b0 : Int) (b.b1 : Int) (b.b2 : Int) (b.b3 : Int) = false := wEq_not (fun h => heq (HWD.out.2 h))
          have HX := Lib.hid (decide_eq_false (p := vB b < vB a ∨ (vB a = vB b ∧ a.ro < b.ro)) (by omega))
          clear hgt heq HWD
          go_wp2_with fail
          go_meet
          exact ⟨by rw [HBT.out, HX.out], rfl⟩
    case rest =>
      clear HBT HWD HGD
      obtain ⟨rfl, rfl⟩ := hcut
      go_upto_region 8 with fail
      refine wp_region_held_drew (S := fun W => Blk W w.heap.size 28 (bdc a) ∧ Blk W (w.heap.size + 1) 28 (bdc b)) hmx ⟨kA, kB⟩ ?_
      intro hS
      replace hB := hB.drew
      clear kA kB
      generalize World.drew _ = Y at *
      refine' wpAnyH_take (i := 0) (oi := _) (v := _) ?hi1 (by kernel_rfl) (by kernel_rfl) (by kernel_rfl) ?hQ1 (Or.inl ⟨?hw1, ?hy1⟩) hS ?rest1
      case hi1 => simp only [List.getElem?_toArray, List.getElem?_cons_zero]; rfl
      case hQ1 => exact fun _ _ _ h => h
      case hw1 => rfl
      case hy1 => intro W' hS'; go_simp; with_reducible rfl
      try simp only [Act.put, List.setIfInBounds_toArray, List.set_cons_zero, List.set_cons_succ]
      refine' wpAnyH_take (i := 1) (oi := _) (v := _) ?hi2 (by kernel_rfl) (by kernel_rfl) (by kernel_rfl) ?hQ2 (Or.inl ⟨?hw2, ?hy2⟩) hS ?rest2
      case hi2 => simp only [List.getElem?_toArray, List.getElem?_cons_succ, List.getElem?_cons_zero]; rfl
      case hQ2 => exact fun _ _ _ h => h
      case hw2 => rfl
      case hy2 => intro W' hS'; have c1 := (hS'.1.cell 1).trans rfl; have c2 := (hS'.1.cell 2).trans rfl; have c3 := (hS'.1.cell 3).trans rfl; have c4 := (hS'.1.cell 4).trans rfl; have c5 := (hS'.1.cell 5).trans rfl; have c6 := (hS'.1.cell 6).trans rfl; have c7 := (hS'.1.cell 7).trans rfl; have c8 := (hS'.1.cell 8).trans rfl; have c9 := (hS'.1.cell 9).trans rfl; go_simp; with_reducible rfl
      try simp only [Act.put, List.setIfInBounds_toArray, List.set_cons_zero, List.set_cons_succ]
      refine' wpAnyH_take (i := 4) (oi := _) (v := _) ?hi3 (by kernel_rfl) (by kernel_rfl) (by kernel_rfl) ?hQ3 (Or.inl ⟨?hw3, ?hy3⟩) hS ?rest3
      case hi3 => simp only [List.getElem?_toArray, List.getElem?_cons_succ, List.getElem?_cons_zero]; rfl
      case hQ3 => exact fun _ _ _ h => h
      case hw3 => rfl
      case hy3 => intro W' hS'; go_simp; with_reducible rfl
      try simp only [Act.put, List.setIfInBounds_toArray, List.set_cons_zero, List.set_cons_succ]
      refine' wpAnyH_take (i := 5) (oi := _) (v := _) ?hi4 (by kernel_rfl) (by kernel_rfl) (by kernel_rfl) ?hQ4 (Or.inl ⟨?hw4, ?hy4⟩) hS ?rest4
      case hi4 => simp only [List.getElem?_toArray, List.getElem?_cons_succ, List.getElem?_cons_zero]; rfl
      case hQ4 => exact fun _ _ _ h => h
      case hw4 => rfl
      case hy4 => intro W' hS'; have c1 := (hS'.1.cell 1).trans rfl; have c2 := (hS'.1.cell 2).trans rfl; have c3 := (hS'.1.cell 3).trans rfl; have c4 := (hS'.1.cell 4).trans rfl; have c5 := (hS'.1.cell 5).trans rfl; have c6 := (hS'.1.cell 6).trans rfl; have c7 := (hS'.1.cell 7).trans rfl; have c8 := (hS'.1.cell 8).trans rfl; have c9 := (hS'.1.cell 9).trans rfl; go_simp; with_reducible rfl
      try simp only [Act.put, List.setIfInBounds_toArray, List.set_cons_zero, List.set_cons_succ]
      refine wpAnyH_ready (rs := [2]) (by kernel_rfl) (by simp) ?_
      refine' AllReadyH.cons (o := _) ?ho5 (fun K hK => ?st5) AllReadyH.nil
      case ho5 => simp only [List.getElem?_toArray, List.getElem?_cons_succ, List.getElem?_cons_zero]; rfl
      case st5 =>
        go_simp
        refine (A1.out _).mono ?_
        rintro e Y1 ⟨rfl, hb⟩
        refine hK.out _ _ ⟨hS.1.below hb hS.1.lt, hS.2.below hb hS.2.lt⟩ (fun hS => ?_)
        clear hK K
        try simp only [Act.put, List.setIfInBounds_toArray, List.set_cons_zero, List.set_cons_succ]
        replace hB := chain hB hb
        clear hb
        refine wpAnyH_ready (rs := [3]) (by kernel_rfl) (by simp) ?_
        refine' AllReadyH.cons (o := _) ?ho6 (fun K hK => ?st6) AllReadyH.nil
        case ho6 => simp only [List.getElem?_toArray, List.getElem?_cons_succ, List.getElem?_cons_zero]; rfl
        case st6 =>
          go_simp
          refine (num8_any _ _).mono ?_
          rintro e Y1 ⟨rfl, rfl⟩
          refine hK.out _ _ hS (fun hS => ?_)
          clear hK K
          try simp only [Act.put, List.setIfInBounds_toArray, List.set_cons_zero, List.set_cons_succ]
          refine wpAnyH_ready (rs := [6]) (by kernel_rfl) (by simp) ?_
          refine' AllReadyH.cons (o := _) ?ho7 (fun K hK => ?st7) AllReadyH.nil
          case ho7 => simp only [List.getElem?_toArray, List.getElem?_cons_succ, List.getElem?_cons_zero]; rfl
          case st7 =>
            go_simp
            refine (A2.out _).mono ?_
            rintro e Y1 ⟨rfl, hb⟩
            refine hK.out _ _ ⟨hS.1.below hb hS.1.lt, hS.2.below hb hS.2.lt⟩ (fun hS => ?_)
            clear hK K
            try simp only [Act.put, List.setIfInBounds_toArray, List.set_cons_zero, List.set_cons_succ]
            replace hB := chain hB hb
            clear hb
            refine' wpAnyH_take (i := 7) (oi := _) (v := _) ?hi8 (by kernel_rfl) (by kernel_rfl) (by kernel_rfl) ?hQ8 (Or.inl ⟨?hw8, ?hy8⟩) hS ?rest8
            case hi8 => simp only [List.getElem?_toArray, List.getElem?_cons_succ, List.getElem?_cons_zero]; rfl
            case hQ8 => exact fun _ _ _ h => h
            case hw8 => rfl
            case hy8 => intro W' hS'; go_simp; with_reducible rfl
            try simp only [Act.put, List.setIfInBounds_toArray, List.set_cons_zero, List.set_cons_succ]
            refine' wpAnyH_take (i := 8) (oi := _) (v := _) ?hi9 (by kernel_rfl) (by kernel_rfl) (by kernel_rfl) ?hQ9 (Or.inl ⟨?hw9, ?hy9⟩) hS ?rest9
            case hi9 => simp only [List.getElem?_toArray, List.getElem?_cons_succ, List.getElem?_cons_zero]; rfl
            case hQ9 => exact fun _ _ _ h => h
            case hw9 => rfl
            case hy9 => intro W' hS'; go_simp; with_reducible rfl
            try simp only [Act.put, List.setIfInBounds_toArray, List.set_cons_zero, List.set_cons_succ]
            refine' wpAnyH_take (i := 9) (oi := _) (v := bdv a) ?hi10 (by kernel_rfl) (by kernel_rfl) (by kernel_rfl) ?hQ10 (Or.inl ⟨?hw10, ?hy10⟩) hS ?rest10
            case hi10 => simp only [List.getElem?_toArray, List.getElem?_cons_succ, List.getElem?_cons_zero]; rfl
            case hQ10 => exact fun _ _ _ h => h
            case hw10 => rfl
            case hy10 => exact fun W' hS' => exec_load 28 (.tmp 3) rfl _ W' (load_bid hS'.1)
            try simp only [Act.put, List.setIfInBounds_toArray, List.set_cons_zero, List.set_cons_succ]
            refine' wpAnyH_take (i := 12) (oi := _) (v := bdv a) ?hi11 (by kernel_rfl) (by kernel_rfl) (by kernel_rfl) ?hQ11 (Or.inl ⟨?hw11, ?hy11⟩) hS ?rest11
            case hi11 => simp only [List.getElem?_toArray, List.getElem?_cons_succ, List.getElem?_cons_zero]; rfl
            case hQ11 => exact fun _ _ _ h => h
            case hw11 => rfl
            case hy11 => exact fun W' hS' => exec_load 28 (.tmp 3) rfl _ W' (load_bid hS'.1)
            try simp only [Act.put, List.setIfInBounds_toArray, List.set_cons_zero, List.set_cons_succ]
            refine wpAnyH_ready (rs := [10]) (by kernel_rfl) (by simp) ?_
            refine' AllReadyH.cons (o := _) ?ho12 (fun K hK => ?st12) AllReadyH.nil
            case ho12 => simp only [List.getElem?_toArray, List.getElem?_cons_succ, List.getElem?_cons_zero]; rfl
            case st12 =>
              go_simp
              refine (B1.out _).mono ?_
              rintro e Y1 ⟨rfl, hb⟩
              refine hK.out _ _ ⟨hS.1.below hb hS.1.lt, hS.2.below hb hS.2.lt⟩ (fun hS => ?_)
              clear hK K
              try simp only [Act.put, List.setIfInBounds_toArray, List.set_cons_zero, List.set_cons_succ]
              replace hB := chain hB hb
              clear hb
              refine wpAnyH_ready (rs := [11]) (by kernel_rfl) (by simp) ?_
              refine' AllReadyH.cons (o := _) ?ho13 (fun K hK => ?st13) AllReadyH.nil
              case ho13 => simp only [List.getElem?_toArray, List.getElem?_cons_succ, List.getElem?_cons_zero]; rfl
              case st13 =>
                go_simp
                refine (num8_any _ _).mono ?_
                rintro e Y1 ⟨rfl, rfl⟩
                refine hK.out _ _ hS (fun hS => ?_)
                clear hK K
                try simp only [Act.put, List.setIfInBounds_toArray, List.set_cons_zero, List.set_cons_succ]
                refine wpAnyH_ready (rs := [13]) (by kernel_rfl) (by simp) ?_
                refine' AllReadyH.cons (o := _) ?ho14 (fun K hK => ?st14) AllReadyH.nil
                case ho14 => simp only [List.getElem?_toArray, List.getElem?_cons_succ, List.getElem?_cons_zero]; rfl
                case st14 =>
                  go_simp
                  refine (B2.out _).mono ?_
                  rintro e Y1 ⟨rfl, hb⟩
                  refine hK.out _ _ ⟨hS.1.below hb hS.1.lt, hS.2.below hb hS.2.lt⟩ (fun hS => ?_)
                  clear hK K
                  try simp only [Act.put, List.setIfInBounds_toArray, List.set_cons_zero, List.set_cons_succ]
                  replace hB := chain hB hb
                  clear hb
                  refine' wpAnyH_take (i := 14) (oi := _) (v := _) ?hi15 (by kernel_rfl) (by kernel_rfl) (by kernel_rfl) ?hQ15 (Or.inl ⟨?hw15, ?hy15⟩) hS ?rest15
                  case hi15 => simp only [List.getElem?_toArray, List.getElem?_cons_succ, List.getElem?_cons_zero]; rfl
                  case hQ15 => exact fun _ _ _ h => h
                  case hw15 => rfl
                  case hy15 => intro W' hS'; go_simp; with_reducible rfl
                  try simp only [Act.put, List.setIfInBounds_toArray, List.set_cons_zero, List.set_cons_succ]
                  refine' wpAnyH_take (i := 15) (oi := _) (v := _) ?hi16 (by kernel_rfl) (by kernel_rfl) (by kernel_rfl) ?hQ16 (Or.inl ⟨?hw16, ?hy16⟩) hS ?rest16
                  case hi16 => simp only [List.getElem?_toArray, List.getElem?_cons_succ, List.getElem?_cons_zero]; rfl
                  case hQ16 => exact fun _ _ _ h => h
                  case hw16 => rfl
                  case hy16 => intro W' hS'; go_simp; with_reducible rfl
                  try simp only [Act.put, List.setIfInBounds_toArray, List.set_cons_zero, List.set_cons_succ]
                  refine' wpAnyH_take (i := 16) (oi := _) (v := _) ?hi17 (by kernel_rfl) (by kernel_rfl) (by kernel_rfl) ?hQ17 (Or.inl ⟨?hw17, ?hy17⟩) hS ?rest17
                  case hi17 => simp only [List.getElem?_toArray, List.getElem?_cons_succ, List.getElem?_cons_zero]; rfl
                  case hQ17 => exact fun _ _ _ h => h
                  case hw17 => rfl
                  case hy17 => intro W' hS'; go_simp; with_reducible rfl
                  try simp only [Act.put, List.setIfInBounds_toArray, List.set_cons_zero, List.set_cons_succ]
                  refine' wpAnyH_take (i := 17) (oi := _) (v := bdv a) ?hi18 (by kernel_rfl) (by kernel_rfl) (by kernel_rfl) ?hQ18 (Or.inl ⟨?hw18, ?hy18⟩) hS ?rest18
                  case hi18 => simp only [List.getElem?_toArray, List.getElem?_cons_succ, List.getElem?_cons_zero]; rfl
                  case hQ18 => exact fun _ _ _ h => h
                  case hw18 => rfl
                  case hy18 => exact fun W' hS' => exec_load 28 (.tmp 3) rfl _ W' (load_bid hS'.1)
                  try simp only [Act.put, List.setIfInBounds_toArray, List.set_cons_zero, List.set_cons_succ]
                  refine' wpAnyH_take (i := 20) (oi := _) (v := bdv a) ?hi19 (by kernel_rfl) (by kernel_rfl) (by kernel_rfl) ?hQ19 (Or.inl ⟨?hw19, ?hy19⟩) hS ?rest19
                  case hi19 => simp only [List.getElem?_toArray, List.getElem?_cons_succ, List.getElem?_cons_zero]; rfl
                  case hQ19 => exact fun _ _ _ h => h
                  case hw19 => rfl
                  case hy19 => exact fun W' hS' => exec_load 28 (.tmp 3) rfl _ W' (load_bid hS'.1)
                  try simp only [Act.put, List.setIfInBounds_toArray, List.set_cons_zero, List.set_cons_succ]
                  refine wpAnyH_ready (rs := [18]) (by kernel_rfl) (by simp) ?_
                  refine' AllReadyH.cons (o := _) ?ho20 (fun K hK => ?st20) AllReadyH.nil
                  case ho20 => simp only [List.getElem?_toArray, List.getElem?_cons_succ, List.getElem?_cons_zero]; rfl
                  case st20 =>
                    go_simp
                    refine (T1.out _).mono ?_
                    rintro e Y1 ⟨p1, rfl, hp1, hb⟩
                    refine hK.out _ _ ⟨hS.1.below hb hS.1.lt, hS.2.below hb hS.2.lt⟩ (fun hS => ?_)
                    clear hK K
                    try simp only [Act.put, List.setIfInBounds_toArray, List.set_cons_zero, List.set_cons_succ]
                    replace hB := chain hB hb
                    have hp := hp1
                    have hA1 := hS.1
                    have hB1 := hS.2
                    refine wpAnyH_mono (S' := fun W => Below Y1.heap.size Y1 W) (fun W h => ⟨hS.1.below h hS.1.lt, hS.2.below h hS.2.lt⟩) _ _ _ _ ?_
                    replace hS : Below Y1.heap.size Y1 Y1 := Below.refl _ _
                    clear hb
                    refine' wpAnyH_take (i := 19) (oi := _) (v := _) ?hi21 (by kernel_rfl) (by kernel_rfl) (by kernel_rfl) ?hQ21 (Or.inl ⟨?hw21, ?hy21⟩) hS ?rest21
                    case hi21 => simp only [List.getElem?_toArray, List.getElem?_cons_succ, List.getElem?_cons_zero]; rfl
                    case hQ21 => exact fun _ _ _ h => h
                    case hw21 => rfl
                    case hy21 => intro W' hS'; have hcv := str_of W' (hp.below hS' (Nat.le_refl _)); go_simp; with_reducible rfl
                    try simp only [Act.put, List.setIfInBounds_toArray, List.set_cons_zero, List.set_cons_succ]
                    refine wpAnyH_ready (rs := [21]) (by kernel_rfl) (by simp) ?_
                    refine' AllReadyH.cons (o := _) ?ho22 (fun K hK => ?st22) AllReadyH.nil
                    case ho22 => simp only [List.getElem?_toArray, List.getElem?_cons_succ, List.getElem?_cons_zero]; rfl
                    case st22 =>
                      go_simp
                      refine (T2.out _).mono ?_
                      rintro e Y1 ⟨p2, rfl, hp2, hb⟩
                      refine hK.out _ _ hb (fun hS => ?_)
                      clear hK K
                      try simp only [Act.put, List.setIfInBounds_toArray, List.set_cons_zero, List.set_cons_succ]
                      replace hB := chain hB hb
                      clear hb
                      refine wpAnyH_ready (rs := [22]) (by kernel_rfl) (by simp) ?_
                      refine' AllReadyH.cons (o := _) ?ho23 (fun K hK => ?st23) AllReadyH.nil
                      case ho23 => simp only [List.getElem?_toArray, List.getElem?_cons_succ, List.getElem?_cons_zero]; rfl
                      case st23 =>
                        have hcv := str_of _ hp2
                        go_simp
                        refine hK.out _ _ hS (fun hS => ?_)
                        clear hK K
                        try simp only [Act.put, List.setIfInBounds_toArray, List.set_cons_zero, List.set_cons_succ]
                        refine' wpAnyH_take (i := 23) (oi := _) (v := _) ?hi24 (by kernel_rfl) (by kernel_rfl) (by kernel_rfl) ?hQ24 (Or.inl ⟨?hw24, ?hy24⟩) hS ?rest24
                        case hi24 => simp only [List.getElem?_toArray, List.getElem?_cons_succ, List.getElem?_cons_zero]; rfl
                        case hQ24 => exact fun _ _ _ h => h
                        case hw24 => rfl
                        case hy24 => intro W' hS'; go_simp; with_reducible rfl
                        try simp only [Act.put, List.setIfInBounds_toArray, List.set_cons_zero, List.set_cons_succ]
                        refine' wpAnyH_take (i := 24) (oi := _) (v := _) ?hi25 (by kernel_rfl) (by kernel_rfl) (by kernel_rfl) ?hQ25 (Or.inl ⟨?hw25, ?hy25⟩) hS ?rest25
                        case hi25 => simp only [List.getElem?_toArray, List.getElem?_cons_succ, List.getElem?_cons_zero]; rfl
                        case hQ25 => exact fun _ _ _ h => h
                        case hw25 => rfl
                        case hy25 => intro W' hS'; go_simp; with_reducible rfl
                        try simp only [Act.put, List.setIfInBounds_toArray, List.set_cons_zero, List.set_cons_succ]
                        refine' wpAnyH_take (i := 25) (oi := _) (v := _) ?hi26 (by kernel_rfl) (by kernel_rfl) (by kernel_rfl) ?hQ26 (Or.inl ⟨?hw26, ?hy26⟩) hS ?rest26
                        case hi26 => simp only [List.getElem?_toArray, List.getElem?_cons_succ, List.getElem?_cons_zero]; rfl
                        case hQ26 => exact fun _ _ _ h => h
                        case hw26 => rfl
                        case hy26 => intro W' hS'; go_simp; with_reducible rfl
                        try simp only [Act.put, List.setIfInBounds_toArray, List.set_cons_zero, List.set_cons_succ]
                        refine' wpAnyH_take (i := 26) (oi := _) (v := bdv a) ?hi27 (by kernel_rfl) (by kernel_rfl) (by kernel_rfl) ?hQ27 (Or.inl ⟨?hw27, ?hy27⟩) hS ?rest27
                        case hi27 => simp only [List.getElem?_toArray, List.getElem?_cons_succ, List.getElem?_cons_zero]; rfl
                        case hQ27 => exact fun _ _ _ h => h
                        case hw27 => rfl
                        case hy27 => exact fun W' hS' => exec_load 28 (.tmp 3) rfl _ W' (load_bid (hA1.below hS' hA1.lt))
                        try simp only [Act.put, List.setIfInBounds_toArray, List.set_cons_zero, List.set_cons_succ]
                        refine' wpAnyH_take (i := 27) (oi := _) (v := _) ?hi28 (by kernel_rfl) (by kernel_rfl) (by kernel_rfl) ?hQ28 (Or.inl ⟨?hw28, ?hy28⟩) hS ?rest28
                        case hi28 => simp only [List.getElem?_toArray, List.getElem?_cons_succ, List.getElem?_cons_zero]; rfl
                        case hQ28 => exact fun _ _ _ h => h
                        case hw28 => rfl
                        case hy28 => intro W' hS'; go_simp; with_reducible rfl
                        try simp only [Act.put, List.setIfInBounds_toArray, List.set_cons_zero, List.set_cons_succ]
                        refine' wpAnyH_take (i := 29) (oi := _) (v := bdv a) ?hi29 (by kernel_rfl) (by kernel_rfl) (by kernel_rfl) ?hQ29 (Or.inl ⟨?hw29, ?hy29⟩) hS ?rest29
                        case hi29 => simp only [List.getElem?_toArray, List.getElem?_cons_succ, List.getElem?_cons_zero]; rfl
                        case hQ29 => exact fun _ _ _ h => h
                        case hw29 => rfl
                        case hy29 => exact fun W' hS' => exec_load 28 (.tmp 3) rfl _ W' (load_bid (hA1.below hS' hA1.lt))
                        try simp only [Act.put, List.setIfInBounds_toArray, List.set_cons_zero, List.set_cons_succ]
                        refine' wpAnyH_take (i := 30) (oi := _) (v := _) ?hi30 (by kernel_rfl) (by kernel_rfl) (by kernel_rfl) ?hQ30 (Or.inl ⟨?hw30, ?hy30⟩) hS ?rest30
                        case hi30 => simp only [List.getElem?_toArray, List.getElem?_cons_succ, List.getElem?_cons_zero]; rfl
                        case hQ30 => exact fun _ _ _ h => h
                        case hw30 => rfl
                        case hy30 => intro W' hS'; go_simp; with_reducible rfl
                        try simp only [Act.put, List.setIfInBounds_toArray, List.set_cons_zero, List.set_cons_succ]
                        refine wpAnyH_ready (rs := [28]) (by kernel_rfl) (by simp) ?_
                        refine' AllReadyH.cons (o := _) ?ho31 (fun K hK => ?st31) AllReadyH.nil
                        case ho31 => simp only [List.getElem?_toArray, List.getElem?_cons_succ, List.getElem?_cons_zero]; rfl
                        case st31 =>
                          go_simp
                          refine (V1.out _).mono ?_
                          rintro e Y1 ⟨rfl, hb⟩
                          refine hK.out _ _ (chain hS hb) (fun hS => ?_)
                          clear hK K
                          try simp only [Act.put, List.setIfInBounds_toArray, List.set_cons_zero, List.set_cons_succ]
                          replace hB := chain hB hb
                          clear hb
                          refine wpAnyH_ready (rs := [31]) (by kernel_rfl) (by simp) ?_
                          refine' AllReadyH.cons (o := _) ?ho32 (fun K hK => ?st32) AllReadyH.nil
                          case ho32 => simp only [List.getElem?_toArray, List.getElem?_cons_succ, List.getElem?_cons_zero]; rfl
                          case st32 =>
                            go_simp
                            refine (V2.out _).mono ?_
                            rintro e Y1 ⟨rfl, hb⟩
                            refine hK.out _ _ (chain hS hb) (fun hS => ?_)
                            clear hK K
                            try simp only [Act.put, List.setIfInBounds_toArray, List.set_cons_zero, List.set_cons_succ]
                            replace hB := chain hB hb
                            clear hb
                            refine' wpAnyH_take (i := 32) (oi := _) (v := _) ?hi33 (by kernel_rfl) (by kernel_rfl) (by kernel_rfl) ?hQ33 (Or.inl ⟨?hw33, ?hy33⟩) hS ?rest33
                            case hi33 => simp only [List.getElem?_toArray, List.getElem?_cons_succ, List.getElem?_cons_zero]; rfl
                            case hQ33 => exact fun _ _ _ h => h
                            case hw33 => rfl
                            case hy33 => intro W' hS'; go_simp; with_reducible rfl
                            try simp only [Act.put, List.setIfInBounds_toArray, List.set_cons_zero, List.set_cons_succ]
                            refine' wpAnyH_take (i := 33) (oi := _) (v := _) ?hi34 (by kernel_rfl) (by kernel_rfl) (by kernel_rfl) ?hQ34 (Or.inl ⟨?hw34, ?hy34⟩) hS ?rest34
                            case hi34 => simp only [List.getElem?_toArray, List.getElem?_cons_succ, List.getElem?_cons_zero]; rfl
                            case hQ34 => exact fun _ _ _ h => h
                            case hw34 => rfl
                            case hy34 => intro W' hS'; go_simp; with_reducible rfl
                            try simp only [Act.put, List.setIfInBounds_toArray, List.set_cons_zero, List.set_cons_succ]
                            refine' wpAnyH_take (i := 34) (oi := _) (v := _) ?hi35 (by kernel_rfl) (by kernel_rfl) (by kernel_rfl) ?hQ35 (Or.inl ⟨?hw35, ?hy35⟩) hS ?rest35
                            case hi35 => simp only [List.getElem?_toArray, List.getElem?_cons_succ, List.getElem?_cons_zero]; rfl
                            case hQ35 => exact fun _ _ _ h => h
                            case hw35 => rfl
                            case hy35 => intro W' hS'; go_simp; with_reducible rfl
                            try simp only [Act.put, List.setIfInBounds_toArray, List.set_cons_zero, List.set_cons_succ]
                            refine' wpAnyH_take (i := 35) (oi := _) (v := bdv a) ?hi36 (by kernel_rfl) (by kernel_rfl) (by kernel_rfl) ?hQ36 (Or.inl ⟨?hw36, ?hy36⟩) hS ?rest36
                            case hi36 => simp only [List.getElem?_toArray, List.getElem?_cons_succ, List.getElem?_cons_zero]; rfl
                            case hQ36 => exact fun _ _ _ h => h
                            case hw36 => rfl
                            case hy36 => exact fun W' hS' => exec_load 28 (.tmp 3) rfl _ W' (load_bid (hA1.below hS' hA1.lt))
                            try simp only [Act.put, List.setIfInBounds_toArray, List.set_cons_zero, List.set_cons_succ]
                            refine' wpAnyH_take (i := 36) (oi := _) (v := bdv b) ?hi37 (by kernel_rfl) (by kernel_rfl) (by kernel_rfl) ?hQ37 (Or.inl ⟨?hw37, ?hy37⟩) hS ?rest37
                            case hi37 => simp only [List.getElem?_toArray, List.getElem?_cons_succ, List.getElem?_cons_zero]; rfl
                            case hQ37 => exact fun _ _ _ h => h
                            case hw37 => rfl
                            case hy37 => exact fun W' hS' => exec_load 28 (.tmp 4) rfl _ W' (load_bid (hB1.below hS' hB1.lt))
                            try simp only [Act.put, List.setIfInBounds_toArray, List.set_cons_zero, List.set_cons_succ]
                            refine' wpAnyH_take (i := 38) (oi := _) (v := _) ?hi38 (by kernel_rfl) (by kernel_rfl) (by kernel_rfl) ?hQ38 (Or.inl ⟨?hw38, ?hy38⟩) hS ?rest38
                            case hi38 => simp only [List.getElem?_toArray, List.getElem?_cons_succ, List.getElem?_cons_zero]; rfl
                            case hQ38 => exact fun _ _ _ h => h
                            case hw38 => rfl
                            case hy38 => intro W' hS'; go_simp; with_reducible rfl
                            try simp only [Act.put, List.setIfInBounds_toArray, List.set_cons_zero, List.set_cons_succ]
                            refine wpAnyH_ready (rs := [37]) (by kernel_rfl) (by simp) ?_
                            refine' AllReadyH.cons (o := _) ?ho39 (fun K hK => ?st39) AllReadyH.nil
                            case ho39 => simp only [List.getElem?_toArray, List.getElem?_cons_succ, List.getElem?_cons_zero]; rfl
                            case st39 =>
                              go_simp
                              refine (G1.out _).mono ?_
                              rintro e Y1 ⟨rfl, hb⟩
                              refine hK.out _ _ (chain hS hb) (fun hS => ?_)
                              clear hK K
                              try simp only [Act.put, List.setIfInBounds_toArray, List.set_cons_zero, List.set_cons_succ]
                              replace hB := chain hB hb
                              clear hb
                              refine' wpAnyH_take (i := 39) (oi := _) (v := _) ?hi40 (by kernel_rfl) (by kernel_rfl) (by kernel_rfl) ?hQ40 (Or.inl ⟨?hw40, ?hy40⟩) hS ?rest40
                              case hi40 => simp only [List.getElem?_toArray, List.getElem?_cons_succ, List.getElem?_cons_zero]; rfl
                              case hQ40 => exact fun _ _ _ h => h
                              case hw40 => rfl
                              case hy40 => intro W' hS'; go_simp; with_reducible rfl
                              try simp only [Act.put, List.setIfInBounds_toArray, List.set_cons_zero, List.set_cons_succ]
                              refine' wpAnyH_take (i := 40) (oi := _) (v := _) ?hi41 (by kernel_rfl) (by kernel_rfl) (by kernel_rfl) ?hQ41 (Or.inl ⟨?hw41, ?hy41⟩) hS ?rest41
                              case hi41 => simp only [List.getElem?_toArray, List.getElem?_cons_succ, List.getElem?_cons_zero]; rfl
                              case hQ41 => exact fun _ _ _ h => h
                              case hw41 => rfl
                              case hy41 => intro W' hS'; go_simp; with_reducible rfl
                              try simp only [Act.put, List.setIfInBounds_toArray, List.set_cons_zero, List.set_cons_succ]
                              refine' wpAnyH_take (i := 41) (oi := _) (v := _) ?hi42 (by kernel_rfl) (by kernel_rfl) (by kernel_rfl) ?hQ42 (Or.inl ⟨?hw42, ?hy42⟩) hS ?rest42
                              case hi42 => simp only [List.getElem?_toArray, List.getElem?_cons_succ, List.getElem?_cons_zero]; rfl
                              case hQ42 => exact fun _ _ _ h => h
                              case hw42 => rfl
                              case hy42 => intro W' hS'; go_simp; with_reducible rfl
                              try simp only [Act.put, List.setIfInBounds_toArray, List.set_cons_zero, List.set_cons_succ]
                              refine wpAnyH_ready (rs := [42]) (by kernel_rfl) (by simp) ?_
                              refine' AllReadyH.cons (o := _) ?ho43 (fun K hK => ?st43) AllReadyH.nil
                              case ho43 => simp only [List.getElem?_toArray, List.getElem?_cons_succ, List.getElem?_cons_zero]; rfl
                              case st43 =>
                                go_simp
                                refine (alive8_any _).mono ?_
                                rintro e Y1 ⟨rfl, hb⟩
                                refine hK.out _ _ (chain hS hb) (fun hS => ?_)
                                clear hK K
                                try simp only [Act.put, List.setIfInBounds_toArray, List.set_cons_zero, List.set_cons_succ]
                                replace hB := chain hB hb
                                clear hb
                                refine' wpAnyH_take (i := 43) (oi := _) (v := _) ?hi44 (by kernel_rfl) (by kernel_rfl) (by kernel_rfl) ?hQ44 (Or.inl ⟨?hw44, ?hy44⟩) hS ?rest44
                                case hi44 => simp only [List.getElem?_toArray, List.getElem?_cons_succ, List.getElem?_cons_zero]; rfl
                                case hQ44 => exact fun _ _ _ h => h
                                case hw44 => rfl
                                case hy44 => intro W' hS'; go_simp; with_reducible rfl
                                try simp only [Act.put, List.setIfInBounds_toArray, List.set_cons_zero, List.set_cons_succ]
                                refine' wpAnyH_take (i := 44) (oi := _) (v := _) ?hi45 (by kernel_rfl) (by kernel_rfl) (by kernel_rfl) ?hQ45 (Or.inl ⟨?hw45, ?hy45⟩) hS ?rest45
                                case hi45 => simp only [List.getElem?_toArray, List.getElem?_cons_succ, List.getElem?_cons_zero]; rfl
                                case hQ45 => exact fun _ _ _ h => h
                                case hw45 => rfl
                                case hy45 => intro W' hS'; go_simp; with_reducible rfl
                                try simp only [Act.put, List.setIfInBounds_toArray, List.set_cons_zero, List.set_cons_succ]
                                refine wpAnyH_done (by kernel_rfl) ?_ _
                                go_wp2_with fail
                                go_ret
                                exact ⟨rfl, hB⟩
end Go.Proofs.YtiibeahgleaonaaGreat

namespace Go.Proofs.YtiibeahgleaonaaGreat
open Go.ChangeShapes Go.WideShapes Go.ChangeAt Go.RowKit Go.Deep
open Go.ChangeMaps (open_string)

set_option maxRecDepth 100000 in
theorem bidTells_lifted (os : Os) (started : os.Started) (H : Type) (enc : TypeId × Value → H) :
    ReturnsInHanded {} Tryz.checked os 3 .any (Rows.bidTellsSpec.pre6 enc Tryz.prog Tryz.f3 Rows.bidTellsRow.domain false) (Rows.bidTellsSpec.post enc Tryz.prog Tryz.f3 false true false false) := by
  refine returnsInHanded_of_change_sized (C := Tryz.checked) Tryz.own started (by kernel_rfl) Tryz.func3
    (ChangeSpec.witness6 (enc := enc) (C := Tryz.checked) false ⟨#[], #[.agg #[.int .i64 0, .int .i64 0, .int .i64 0, .int .i64 0, .int .i64 0, .int .u64 0, .int .u64 0, .int .u64 0, .int .u64 0, .string ⟨#[]⟩, .int .u64 0, .int .u64 0, .int .u64 0, .int .u64 0, .int .i64 0, .string ⟨#[]⟩], .agg #[.int .i64 0, .int .i64 0, .int .i64 0, .int .i64 0, .int .i64 0, .int .u64 0, .int .u64 0, .int .u64 0, .int .u64 0, .string ⟨#[]⟩, .int .u64 0, .int .u64 0, .int .u64 0, .int .u64 0, .int .i64 0, .string ⟨#[]⟩], .string ⟨#[]⟩], []⟩ 8 (by kernel_rfl) (by kernel_rfl) (by kernel_rfl) (by kernel_rfl)) ?_
  intro W base args ds gs before hval0 hW hcnd hsz0 _
  have hval : ∀ (j : Nat) t v, Tryz.f3.params[j]? = some t → args[j]? = some v → Value.okWide Tryz.prog W .any base t v := hval0
  have hW' := hW
  obtain ⟨p, q, hA0, hV, rfl, hfz, hnd⟩ := hW
  have hA : DataW.TrodAll enc Tryz.prog W 0 (fun _ => true) true Tryz.f3.params.toList args.toList ds p := hA0
  have hsz : (DataW.weightsEach Tryz.prog (Tryz.f3.params.toList ++ Rows.bidTellsSpec.plain.varTypes Tryz.prog) (ds ++ gs)).all (· ≤ reachBytes) = true := hsz0
  rw [Tryz.params3] at hA hval hsz
  obtain ⟨v0, v1, v2, d0, d1, d2, p0, p1, p2, rfl, rfl, rfl, h0, h1, h2⟩ := trodAll_three hA
  obtain ⟨rfl, rfl⟩ := trodVars_none hV
  have k0 := h0
  have k1 := h1
  have k2 := h2
  have lt0 : ∀ x ∈ p0, x.block < W.heap.size := by obtain ⟨m, hm⟩ := k0; exact DataW.trod_lt m _ _ _ hm
  have lt1 : ∀ x ∈ p1, x.block < W.heap.size := by obtain ⟨m, hm⟩ := k1; exact DataW.trod_lt m _ _ _ hm
  have lt2 : ∀ x ∈ p2, x.block < W.heap.size := by obtain ⟨m, hm⟩ := k2; exact DataW.trod_lt m _ _ _ hm
  obtain ⟨i0, rfl, hx0⟩ := open_bid (hval 0 28 v0 rfl rfl) h0
  obtain ⟨i1, rfl, hx1⟩ := open_bid (hval 1 28 v1 rfl rfl) h1
  obtain ⟨s2, rfl, ds2, _, _⟩ := open_string Tryz.underlying9 (hval 2 9 v2 rfl rfl) h2
  have hs2 : s2.size ≤ 140737488351232 := by
    have := sized_string hsz (j := 2) (t := 9) (bytes := s2.data.toList) rfl (by rw [ds2]; rfl)
    simp only [reachBytes] at this
    exact this
  clear hA0 hval0
  refine (bidTells_any i0 i1 hx0 hx1 s2 W).mono fun e W' ⟨he, bel⟩ => ?_
  subst he
  exact ⟨_, rfl, _, _, _, [], _, [], hW', trodAll_mk1 (shut_bool Tryz.underlying4 _), (trodAll_mk3 (Below.trod Tryz.laidOut (by kernel_rfl) (of_decide_eq_true (by kernel_rfl)) k0 bel lt0) (Below.trod Tryz.laidOut (by kernel_rfl) (of_decide_eq_true (by kernel_rfl)) k1 bel lt1) (Below.trod Tryz.laidOut (by kernel_rfl) (of_decide_eq_true (by kernel_rfl)) k2 bel lt2)), rfl, bel.frame _, fun h => by cases h⟩

theorem bidTells_over : Rows.bidTellsRow.holds Tryz.pinned (OpenSpec.ofChange Rows.bidTellsSpec) :=
  OpenClaim.holds_of_wide 3 Tryz.f3 rfl rfl rfl rfl rfl rfl rfl ⟨rfl, rfl, rfl, rfl, rfl⟩ rfl rfl rfl rfl rfl (by kernel_rfl) Tryz.func3 (by kernel_rfl)
    (of_decide_eq_true (by kernel_rfl)) (by unfold Func.isWrapper; first | (rw [if_pos (by decide +kernel)]; kernel_rfl) | (rw [if_neg (by decide +kernel)]; exact ⟨rfl, rfl⟩))
    (fun os started H enc _ => bidTells_lifted os started H enc)

/-- The statement. -/
theorem bidTells_proved : Rows.BidTellsSaid := bidTells_over
end Go.Proofs.YtiibeahgleaonaaGreat
