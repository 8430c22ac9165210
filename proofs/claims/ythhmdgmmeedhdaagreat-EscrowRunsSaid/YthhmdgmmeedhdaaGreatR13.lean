/-
  Which transactions may be, by the reference; The page's state in memory; a list of sixteen, less and more; what is held; a lock's place; The page: what is held; a lock's place; is an act signed?; a lock that is open; a lock that is ended
-/
import Derived.Outline
import Derived.Deep.Cut
import Derived.Deep.CutBlock
import Derived.Deep.DeepCutAuto
import Derived.LoopTactic
import Derived.Test.YthhmdgmmeedhdaaGreatR12
namespace Go.Proofs.YthhmdgmmeedhdaaGreat
open Go.RowKit Go.Shelf
theorem errT_kind {t : Tr} (h : ¬ (1 ≤ t.kd ∧ t.kd ≤ 6)) : errT t = 12 := if_neg h
theorem errT_range {t : Tr} (h : 1 ≤ t.kd ∧ t.kd ≤ 6) (g : ¬ ((0 ≤ t.fr ∧ t.fr ≤ 7) ∧ (0 ≤ t.no ∧ t.no ≤ 1099511627776) ∧ (0 ≤ t.az ∧ t.az ≤ 1))) : errT t = 4 := by rw [errT, if_pos h, if_neg g]
theorem errT_zero {t : Tr} (h : 1 ≤ t.kd ∧ t.kd ≤ 6) (g : (0 ≤ t.fr ∧ t.fr ≤ 7) ∧ (0 ≤ t.no ∧ t.no ≤ 1099511627776) ∧ (0 ≤ t.az ∧ t.az ≤ 1)) (z : t.kd < 4 ∧ zeroA t) : errT t = 36 := by rw [errT, if_pos h, if_pos g, if_pos (by omega), errM, if_pos z.2]
theorem errT_route {t : Tr} (h : 1 ≤ t.kd ∧ t.kd ≤ 6) (g : (0 ≤ t.fr ∧ t.fr ≤ 7) ∧ (0 ≤ t.no ∧ t.no ≤ 1099511627776) ∧ (0 ≤ t.az ∧ t.az ≤ 1)) (z : ¬ (t.kd < 4 ∧ zeroA t)) (r : (t.kd = 1 ∧ ¬ (0 ≤ t.iv.to ∧ t.iv.to ≤ 7)) ∨ (t.kd = 2 ∧ ¬ (2 ≤ t.iv.ro ∧ t.iv.ro ≤ 3))) : errT t = 39 := by
 have hz : ¬ zeroA t := fun e => z ⟨by omega, e⟩
 rw [errT, if_pos h, if_pos g, if_pos (by omega), errM, if_neg hz]
 rcases r with ⟨h1, h2⟩ | ⟨h1, h2⟩
 ·
  rw [if_pos h1, if_neg h2]
 ·
  rw [if_neg (by omega), if_pos h1, if_neg h2]
theorem errT_moves {t : Tr} (h : 1 ≤ t.kd ∧ t.kd ≤ 6) (g : (0 ≤ t.fr ∧ t.fr ≤ 7) ∧ (0 ≤ t.no ∧ t.no ≤ 1099511627776) ∧ (0 ≤ t.az ∧ t.az ≤ 1)) (z : ¬ (t.kd < 4 ∧ zeroA t)) (r : ¬ ((t.kd = 1 ∧ ¬ (0 ≤ t.iv.to ∧ t.iv.to ≤ 7)) ∨ (t.kd = 2 ∧ ¬ (2 ≤ t.iv.ro ∧ t.iv.ro ≤ 3)))) (k : t.kd < 4) : errT t = 0 := by
 have hz : ¬ zeroA t := fun e => z ⟨k, e⟩
 rw [errT, if_pos h, if_pos g, if_pos (by omega), errM, if_neg hz]
 by_cases h1 : t.kd = 1
 ·
  rw [if_pos h1]
  by_cases h2 : 0 ≤ t.iv.to ∧ t.iv.to ≤ 7
  ·
   rw [if_pos h2]
  ·
   exact absurd (.inl ⟨h1, h2⟩) r
 ·
  rw [if_neg h1]
  by_cases h2 : t.kd = 2
  ·
   rw [if_pos h2]
   by_cases h3 : 2 ≤ t.iv.ro ∧ t.iv.ro ≤ 3
   ·
    rw [if_pos h3]
   ·
    exact absurd (.inr ⟨h2, h3⟩) r
  ·
   rw [if_neg h2]
theorem errT_rest {t : Tr} (h : 1 ≤ t.kd ∧ t.kd ≤ 6) (g : (0 ≤ t.fr ∧ t.fr ≤ 7) ∧ (0 ≤ t.no ∧ t.no ≤ 1099511627776) ∧ (0 ≤ t.az ∧ t.az ≤ 1)) (k : ¬ t.kd < 4) : errT t = errF t := by rw [errT, if_pos h, if_pos g, if_neg (by omega)]
set_option maxRecDepth 100000 in
set_option maxHeartbeats 4000000 in
theorem refTx_any (t : Tr) (w : World) :
  Calls Tryz.prog 33 #[txv t] w fun e W' => e = .returned (.int .i64 (errT t)) ∧ Below w.heap.size w W' := by
 generalize hb1 : decide (¬ (1 ≤ t.kd ∧ t.kd ≤ 6)) = b1
 have B1 := Lib.hid hb1
 clear hb1
 generalize hb3 : decide (¬ ((0 ≤ t.fr ∧ t.fr ≤ 7) ∧ (0 ≤ t.no ∧ t.no ≤ 1099511627776) ∧ (0 ≤ t.az ∧ t.az ≤ 1))) = b3
 have B3 := Lib.hid hb3
 clear hb3
 generalize hb5 : decide (t.kd < 4 ∧ zeroA t) = b5
 have B5 := Lib.hid hb5
 clear hb5
 generalize hb7 : decide ((t.kd = 1 ∧ ¬ (0 ≤ t.iv.to ∧ t.iv.to ≤ 7)) ∨ (t.kd = 2 ∧ ¬ (2 ≤ t.iv.ro ∧ t.iv.ro ≤ 3))) = b7
 have B7 := Lib.hid hb7
 clear hb7
 go_enter Tryz.func33, Tryz.ntmps33
 go_upto_region 1 with fail
 generalize hW0 : World.alloc _ _ = W0
 have kB : Blk W0 w.heap.size 50 (txc t) := by rw [← hW0]; exact Blk.new w 50 (txc t)
 have hB : Below w.heap.size w W0 := by rw [← hW0]; exact chain0 w _
 clear hW0
 go_cut [3] (fun s wc => s = .bool b1 ∧ wc = W0)
 case first =>
  have c2 := (kB.cell 2).trans rfl
  by_cases h1 : t.kd < 1
  ·
   skip
   have HX : Hid (b1 = true) := Lib.hid (by rw [← B1.out]; exact decide_eq_true (by omega))
   go_wp2_with fail
   go_meet
   exact ⟨by rw [HX.out], rfl⟩
  ·
   by_cases h2 : 6 < t.kd
   ·
    skip
    have HX : Hid (b1 = true) := Lib.hid (by rw [← B1.out]; exact decide_eq_true (by omega))
    go_wp2_with fail
    go_meet
    exact ⟨by rw [HX.out], rfl⟩
   ·
    skip
    have HX : Hid (b1 = false) := Lib.hid (by rw [← B1.out]; exact decide_eq_false (by omega))
    go_wp2_with fail
    go_meet
    exact ⟨by rw [HX.out], rfl⟩
 case rest =>
  obtain ⟨rfl, rfl⟩ := hcut
  cases b1 with
  | true =>
   have HE := Lib.hid (errT_kind (of_decide_eq_true B1.out))
   clear B1 B3 B5 B7
   go_wp2_with fail
   go_ret
   exact ⟨by rw [HE.out]; rfl, hB⟩
  | false =>
   have K := Lib.hid (Decidable.not_not.1 (of_decide_eq_false B1.out))
   clear B1
   go_upto_region 3 with fail
   go_cut [12] (fun s wd => s = .bool b3 ∧ wd = wc)
   case first =>
    have c0 := (kB.cell 0).trans rfl
    have c1 := (kB.cell 1).trans rfl
    have c3 := (kB.cell 3).trans rfl
    clear B5 B7
    by_cases h0 : t.fr < 0
    ·
     skip
     have HX : Hid (b3 = true) := Lib.hid (by rw [← B3.out]; exact decide_eq_true (by omega))
     go_wp2_with fail
     go_meet
     exact ⟨by rw [HX.out], rfl⟩
    ·
     skip
     by_cases h1 : 7 < t.fr
     ·
      skip
      have HX : Hid (b3 = true) := Lib.hid (by rw [← B3.out]; exact decide_eq_true (by omega))
      go_wp2_with fail
      go_meet
      exact ⟨by rw [HX.out], rfl⟩
     ·
      skip
      by_cases h2 : t.no < 0
      ·
       skip
       have HX : Hid (b3 = true) := Lib.hid (by rw [← B3.out]; exact decide_eq_true (by omega))
       go_wp2_with fail
       go_meet
       exact ⟨by rw [HX.out], rfl⟩
      ·
       skip
       by_cases h3 : 1099511627776 < t.no
       ·
        skip
        have HX : Hid (b3 = true) := Lib.hid (by rw [← B3.out]; exact decide_eq_true (by omega))
        go_wp2_with fail
        go_meet
        exact ⟨by rw [HX.out], rfl⟩
       ·
        skip
        by_cases h4 : t.az < 0
        ·
         skip
         have HX : Hid (b3 = true) := Lib.hid (by rw [← B3.out]; exact decide_eq_true (by omega))
         go_wp2_with fail
         go_meet
         exact ⟨by rw [HX.out], rfl⟩
        ·
         skip
         by_cases h5 : 1 < t.az
         ·
          skip
          have HX : Hid (b3 = true) := Lib.hid (by rw [← B3.out]; exact decide_eq_true (by omega))
          go_wp2_with fail
          go_meet
          exact ⟨by rw [HX.out], rfl⟩
         ·
          skip
          have HX : Hid (b3 = false) := Lib.hid (by rw [← B3.out]; exact decide_eq_false (by omega))
          go_wp2_with fail
          go_meet
          exact ⟨by rw [HX.out], rfl⟩
   case rest =>
    obtain ⟨rfl, rfl⟩ := hcut
    cases b3 with
    | true =>
     have HE := Lib.hid (errT_range K.out (of_decide_eq_true B3.out))
     clear B3 B5 B7
     go_wp2_with fail
     go_ret
     exact ⟨by rw [HE.out]; rfl, hB⟩
    | false =>
     have R := Lib.hid (Decidable.not_not.1 (of_decide_eq_false B3.out))
     clear B3
     go_upto_region 5 with fail
     go_cut [41] (fun s we => s = .bool b5 ∧ we = wc)
     case first =>
      have c2 := (kB.cell 2).trans rfl
      clear B7
      by_cases h1 : t.kd < 4
      ·
       have hweq := @run_equalIn_wide
       by_cases h0 : zeroA t
       ·
        have HX : Hid (b5 = true) := Lib.hid (by rw [← B5.out]; exact decide_eq_true ⟨h1, h0⟩)
        have hq : wEq (t.a0 : Nat) (t.a1 : Nat) (t.a2 : Nat) (t.a3 : Nat) 0 0 0 0 = true := by
         obtain ⟨e0, e1, e2, e3⟩ := h0
         rw [e0, e1, e2, e3]; rfl
        clear h0
        go_wp2_with (first
         | ((with_reducible refine wpList_loadIf 27 (.tmp 46) ?_ (some 47) ?_ ?_ (wv t.a0 t.a1 t.a2 t.a3) ?_ ?_); (· rfl); (· rfl); (· rfl); (· exact load_am kB)))
        go_meet
        exact ⟨by rw [HX.out], rfl⟩
       ·
        have HX : Hid (b5 = false) := Lib.hid (by rw [← B5.out]; exact decide_eq_false (fun e => h0 e.2))
        have hq : wEq (t.a0 : Nat) (t.a1 : Nat) (t.a2 : Nat) (t.a3 : Nat) 0 0 0 0 = false := wEq_not (by unfold zeroA at h0; omega)
        clear h0
        go_wp2_with (first
         | ((with_reducible refine wpList_loadIf 27 (.tmp 46) ?_ (some 47) ?_ ?_ (wv t.a0 t.a1 t.a2 t.a3) ?_ ?_); (· rfl); (· rfl); (· rfl); (· exact load_am kB)))
        go_meet
        exact ⟨by rw [HX.out], rfl⟩
      ·
       skip
       have HX : Hid (b5 = false) := Lib.hid (by rw [← B5.out]; exact decide_eq_false (fun e => h1 e.1))
       go_wp2_with fail
       go_meet
       exact ⟨by rw [HX.out], rfl⟩
     case rest =>
      obtain ⟨rfl, rfl⟩ := hcut
      cases b5 with
      | true =>
       have HE := Lib.hid (errT_zero K.out R.out (of_decide_eq_true B5.out))
       clear B5 B7
       go_wp2_with fail
       go_ret
       exact ⟨by rw [HE.out]; rfl, hB⟩
      | false =>
       have Z := Lib.hid (of_decide_eq_false B5.out)
       clear B5
       go_upto_region 7 with fail
       go_cut [51] (fun s wf => s = .bool b7 ∧ wf = wc)
       case first =>
        have c2 := (kB.cell 2).trans rfl
        have c10 := (kB.cell 10).trans rfl
        have c13 := (kB.cell 13).trans rfl
        by_cases h1 : t.kd = 1
        ·
         have q1 : (t.kd == 1) = true := by simpa using h1
         have q2 : (t.kd == 2) = false := by simp [h1]
         by_cases p1 : t.iv.to < 0
         ·
          skip
          have HX : Hid (b7 = true) := Lib.hid (by rw [← B7.out]; exact decide_eq_true (by omega))
          clear h1
          go_wp2_with fail
          go_meet
          exact ⟨by rw [HX.out], rfl⟩
         ·
          by_cases p2 : 7 < t.iv.to
          ·
           skip
           have HX : Hid (b7 = true) := Lib.hid (by rw [← B7.out]; exact decide_eq_true (by omega))
           clear h1
           go_wp2_with fail
           go_meet
           exact ⟨by rw [HX.out], rfl⟩
          ·
           skip
           have HX : Hid (b7 = false) := Lib.hid (by rw [← B7.out]; exact decide_eq_false (by omega))
           clear h1
           go_wp2_with fail
           go_meet
           exact ⟨by rw [HX.out], rfl⟩
        ·
         have q1 : (t.kd == 1) = false := by simpa using h1
         by_cases h2 : t.kd = 2
         ·
          have q2 : (t.kd == 2) = true := by simpa using h2
          by_cases p1 : t.iv.ro < 2
          ·
           skip
           have HX : Hid (b7 = true) := Lib.hid (by rw [← B7.out]; exact decide_eq_true (by omega))
           clear h1 h2
           go_wp2_with fail
           go_meet
           exact ⟨by rw [HX.out], rfl⟩
          ·
           by_cases p2 : 3 < t.iv.ro
           ·
            skip
            have HX : Hid (b7 = true) := Lib.hid (by rw [← B7.out]; exact decide_eq_true (by omega))
            clear h1 h2
            go_wp2_with fail
            go_meet
            exact ⟨by rw [HX.out], rfl⟩
           ·
            skip
            have HX : Hid (b7 = false) := Lib.hid (by rw [← B7.out]; exact decide_eq_false (by omega))
            clear h1 h2
            go_wp2_with fail
            go_meet
            exact ⟨by rw [HX.out], rfl⟩
         ·
          have q2 : (t.kd == 2) = false := by simpa using h2
          have HX : Hid (b7 = false) := Lib.hid (by rw [← B7.out]; exact decide_eq_false (by omega))
          clear h1 h2
          go_wp2_with fail
          go_meet
          exact ⟨by rw [HX.out], rfl⟩
       case rest =>
        obtain ⟨rfl, rfl⟩ := hcut
        cases b7 with
        | true =>
         have HE := Lib.hid (errT_route K.out R.out Z.out (of_decide_eq_true B7.out))
         clear B7
         go_wp2_with fail
         go_ret
         exact ⟨by rw [HE.out]; rfl, hB⟩
        | false =>
         have V := Lib.hid (of_decide_eq_false B7.out)
         clear B7
         have c2 := (kB.cell 2).trans rfl
         by_cases h1 : t.kd < 4
         ·
          have HE := Lib.hid (errT_moves K.out R.out Z.out V.out h1)
          go_wp2_with fail
          go_ret
          exact ⟨by rw [HE.out]; rfl, hB⟩
         ·
          have HR := Lib.hid (errT_rest K.out R.out h1)
          have HI := Lib.hid (refInv_any t.iv)
          have HV := Lib.hid (refVar_any t.vr)
          go_upto_region 11 with fail
          clear h1 c2
          by_cases hi : maybeI t.iv
          ·
           have E1 := Lib.hid (errI_zero hi)
           by_cases hv : maybeV t.vr
           ·
            have E2 := Lib.hid (errV_zero hv)
            by_cases hs : t.sg.size ≤ 1024
            ·
             have HE : Hid (errT t = 0) := Lib.hid (by rw [HR.out, errF, if_pos hi, if_pos hv, if_pos hs])
             clear hi hv
             go_wp2_with (first
              | ((with_reducible refine wpList_loadIf 46 (.tmp 89) ?_ (some 90) ?_ ?_ (ivv t.iv) ?_ ?_); (· rfl); (· rfl); (· rfl); (· exact load_iv kB))
              | ((with_reducible refine wpList_loadIf 48 (.tmp 94) ?_ (some 95) ?_ ?_ (svv t.vr) ?_ ?_); (· rfl); (· rfl); (· rfl); (· exact load_vr kB))
              | (go_at_call 51; refine (HI.out _).mono ?_; rw [E1.out]; rintro e w1 ⟨rfl, hb⟩; replace kB := kB.below hb kB.lt; replace hB := chain hB hb; clear hb; have c24 := (kB.cell 24).trans rfl)
              | (go_at_call 69; refine (HV.out _).mono ?_; rw [E2.out]; rintro e w2 ⟨rfl, hb⟩; replace kB := kB.below hb kB.lt; replace hB := chain hB hb; clear hb c24; have c24 := (kB.cell 24).trans rfl))
             go_ret
             exact ⟨by rw [HE.out]; rfl, hB⟩
            ·
             have HE : Hid (errT t = 5) := Lib.hid (by rw [HR.out, errF, if_pos hi, if_pos hv, if_neg hs])
             have hs2 : 1024 < t.sg.size := by omega
             clear hi hv hs
             go_wp2_with (first
              | ((with_reducible refine wpList_loadIf 46 (.tmp 89) ?_ (some 90) ?_ ?_ (ivv t.iv) ?_ ?_); (· rfl); (· rfl); (· rfl); (· exact load_iv kB))
              | ((with_reducible refine wpList_loadIf 48 (.tmp 94) ?_ (some 95) ?_ ?_ (svv t.vr) ?_ ?_); (· rfl); (· rfl); (· rfl); (· exact load_vr kB))
              | (go_at_call 51; refine (HI.out _).mono ?_; rw [E1.out]; rintro e w1 ⟨rfl, hb⟩; replace kB := kB.below hb kB.lt; replace hB := chain hB hb; clear hb; have c24 := (kB.cell 24).trans rfl)
              | (go_at_call 69; refine (HV.out _).mono ?_; rw [E2.out]; rintro e w2 ⟨rfl, hb⟩; replace kB := kB.below hb kB.lt; replace hB := chain hB hb; clear hb c24; have c24 := (kB.cell 24).trans rfl))
             go_ret
             exact ⟨by rw [HE.out]; rfl, hB⟩
           ·
            have E2 := Lib.hid (errV_bad hv)
            have HE : Hid (errT t = 36) := Lib.hid (by rw [HR.out, errF, if_pos hi, if_neg hv])
            clear hi hv
            go_wp2_with (first
             | ((with_reducible refine wpList_loadIf 46 (.tmp 89) ?_ (some 90) ?_ ?_ (ivv t.iv) ?_ ?_); (· rfl); (· rfl); (· rfl); (· exact load_iv kB))
             | ((with_reducible refine wpList_loadIf 48 (.tmp 94) ?_ (some 95) ?_ ?_ (svv t.vr) ?_ ?_); (· rfl); (· rfl); (· rfl); (· exact load_vr kB))
             | (go_at_call 51; refine (HI.out _).mono ?_; rw [E1.out]; rintro e w1 ⟨rfl, hb⟩; replace kB := kB.below hb kB.lt; replace hB := chain hB hb; clear hb; have c24 := (kB.cell 24).trans rfl)
             | (go_at_call 69; refine (HV.out _).mono ?_; rw [E2.out]; rintro e w2 ⟨rfl, hb⟩; replace kB := kB.below hb kB.lt; replace hB := chain hB hb; clear hb c24; have c24 := (kB.cell 24).trans rfl))
            go_ret
            exact ⟨by rw [HE.out]; rfl, hB⟩
          ·
           have E1 := Lib.hid (errI_bad hi)
           have HE : Hid (errT t = 39) := Lib.hid (by rw [HR.out, errF, if_neg hi])
           clear hi
           go_wp2_with (first
            | ((with_reducible refine wpList_loadIf 46 (.tmp 89) ?_ (some 90) ?_ ?_ (ivv t.iv) ?_ ?_); (· rfl); (· rfl); (· rfl); (· exact load_iv kB))
            | ((with_reducible refine wpList_loadIf 48 (.tmp 94) ?_ (some 95) ?_ ?_ (svv t.vr) ?_ ?_); (· rfl); (· rfl); (· rfl); (· exact load_vr kB))
            | (go_at_call 51; refine (HI.out _).mono ?_; rw [E1.out]; rintro e w1 ⟨rfl, hb⟩; replace kB := kB.below hb kB.lt; replace hB := chain hB hb; clear hb; have c24 := (kB.cell 24).trans rfl))
           go_ret
           exact ⟨by rw [HE.out]; rfl, hB⟩
end Go.Proofs.YthhmdgmmeedhdaaGreat
namespace Go.Proofs.YthhmdgmmeedhdaaGreat
open Go.RowKit Go.Shelf
theorem rinfo_book : (Tryz.prog.info? 36).map (·.size) = some 64 := by kernel_rfl
theorem rinfo_st : (Tryz.prog.info? 39).map (·.size) = some 151 := by kernel_rfl
section
variable {W : World} {B : Nat} {T : TypeId} {s : Es} {v : Value}
theorem rld_st (h : Blk W B T (stc s v)) : (Instr.loadAt 39 (.pointer (some ⟨B, 0, none⟩))).run Tryz.prog W = .ok (stv s v) W :=
 load_part h 0 (stc s v) (by rw [stc_len]; exact st_all s v) _ _ Tryz.underlying39 rfl (by rw [stc_len]; exact rinfo_st)
theorem rld_pu (h : Blk W B T (stc s v)) : (Instr.loadAt 36 (.pointer (some ⟨B, 2, none⟩))).run Tryz.prog W = .ok (bkv s.pu) W :=
 load_part h 2 (bkc s.pu) (by rw [bkc_len]; exact st_pu s v) _ _ Tryz.underlying36 rfl (by rw [bkc_len]; exact rinfo_book)
theorem rld_va (h : Blk W B T (stc s v)) : (Instr.loadAt 36 (.pointer (some ⟨B, 66, none⟩))).run Tryz.prog W = .ok (bkv s.va) W :=
 load_part h 66 (bkc s.va) (by rw [bkc_len]; exact st_va s v) _ _ Tryz.underlying36 rfl (by rw [bkc_len]; exact rinfo_book)
theorem rld_he (h : Blk W B T (stc s v)) {a o : Nat} (ha : a < 2) (ho : o = 138 + 4 * a) : (Instr.loadAt 27 (.pointer (some ⟨B, o, none⟩))).run Tryz.prog W = .ok (wn (s.he a)) W := by
 subst ho
 exact load_part h (138 + 4 * a) (ws (nw (s.he a))) (by rw [ws_len]; exact st_heS s v ha) _ _ Tryz.underlying27 rfl (by rw [ws_len]; exact info_wide)
theorem rld_bu (h : Blk W B T (stc s v)) : (Instr.loadAt 27 (.pointer (some ⟨B, 146, none⟩))).run Tryz.prog W = .ok (wn s.bu) W :=
 load_part h 146 (ws (nw s.bu)) (by rw [ws_len]; exact st_bu s v) _ _ Tryz.underlying27 rfl (by rw [ws_len]; exact info_wide)
theorem rld_lk (h : Blk W B T (stc s v)) : (Instr.loadAt 37 (.pointer (some ⟨B, 150, none⟩))).run Tryz.prog W = .ok v W := ld_any _ _ Tryz.underlying37 rfl h 150 (st_lk s v)
theorem rld_heO (h : Blk W B T (stc s v)) {a : Nat} (ha : a < 2) : (Instr.loadAt 27 (.pointer (some ⟨B, 138 + a * 4, none⟩))).run Tryz.prog W = .ok (wn (s.he a)) W := rld_he h ha (by omega)
theorem rsto_pu (h : Blk W B T (stc s v)) (b : Bk) : (Instr.storeAt 36 (.pointer (some ⟨B, 2, none⟩)) (bkv b)).run Tryz.prog W = .ok () (W.setRow B (stc { s with pu := b } v).toArray) :=
 sto_part _ h 2 _ _ (bkc b) rfl (by rw [bkc_len]; exact rinfo_book) (by rw [bkc_len, stc_len]; omega) (one_book b) (set_pu s v b)
theorem rsto_va (h : Blk W B T (stc s v)) (b : Bk) : (Instr.storeAt 36 (.pointer (some ⟨B, 66, none⟩)) (bkv b)).run Tryz.prog W = .ok () (W.setRow B (stc { s with va := b } v).toArray) :=
 sto_part _ h 66 _ _ (bkc b) rfl (by rw [bkc_len]; exact rinfo_book) (by rw [bkc_len, stc_len]; omega) (one_book b) (set_va s v b)
theorem rsto_lk (h : Blk W B T (stc s v)) {u : Value} (hu : u.oneCell' = true) (hc : u.cells.toList = [u]) : (Instr.storeAt 37 (.pointer (some ⟨B, 150, none⟩)) u).run Tryz.prog W = .ok () (W.setRow B (stc s u).toArray) :=
 sto_part _ h 150 _ _ [u] hc (by kernel_rfl) (by rw [stc_len]; simp) (by simp [hu]) (by rw [laid_one _ _ _ (by rw [stc_len]; omega)]; exact set_lk s v u)
theorem rsto_st {vs : List Value} (h : Blk W B T vs) (hv : vs.length = 151) (s : Es) {u : Value} (hu : u.oneCell' = true) : (Instr.storeAt 39 (.pointer (some ⟨B, 0, none⟩)) (stv s u)).run Tryz.prog W = .ok () (W.setRow B (stc s u).toArray) :=
 sto_part _ h 0 _ _ (stc s u) rfl (by rw [stc_len]; exact rinfo_st) (by rw [stc_len, hv]; exact Nat.le_refl _) (stc_one s u hu) (by unfold laid; rw [List.take_zero, List.nil_append, List.drop_of_length_le (by rw [stc_len, hv]; exact Nat.le_refl _), List.append_nil])
theorem rsto_bk {c : Bk} (h : Blk W B T (bkc c)) (b : Bk) : (Instr.storeAt 36 (.pointer (some ⟨B, 0, none⟩)) (bkv b)).run Tryz.prog W = .ok () (W.setRow B (bkc b).toArray) :=
 sto_part _ h 0 _ _ (bkc b) rfl (by rw [bkc_len]; exact rinfo_book) (by rw [bkc_len, bkc_len]; exact Nat.le_refl _) (one_book b) (row_book b (bkc_len c))
theorem rload_book {b : Bk} (h : Blk W B T (bkc b)) : (Instr.loadAt 36 (.pointer (some ⟨B, 0, none⟩))).run Tryz.prog W = .ok (bkv b) W :=
 load_part h 0 (bkc b) (by rw [List.drop_zero, List.take_length]) _ _ Tryz.underlying36 rfl (by rw [bkc_len]; exact rinfo_book)
theorem rld_slot {b : Bk} (h : Blk W B T (bkc b)) {j : Nat} (hj : j < 16) : (Instr.loadAt 27 (.pointer (some ⟨B, 0 + j * 4, none⟩))).run Tryz.prog W = .ok (wn (b j)) W := by
 rw [show 0 + j * 4 = 4 * j by omega]
 exact load_part h (4 * j) (ws (nw (b j))) (by rw [ws_len]; exact bkc_part b hj) _ _ Tryz.underlying27 rfl (by rw [ws_len]; exact info_wide)
theorem rsto_slot {b : Bk} (h : Blk W B T (bkc b)) {j : Nat} (hj : j < 16) (n : Nat) : (Instr.storeAt 27 (.pointer (some ⟨B, 0 + j * 4, none⟩)) (wn n)).run Tryz.prog W = .ok () (W.setRow B (bkc (updB b j n)).toArray) := by
 rw [show 0 + j * 4 = 4 * j by omega]
 exact sto_part _ h (4 * j) _ _ (ws (nw n)) rfl (by rw [ws_len]; exact info_wide) (by rw [ws_len, bkc_len]; omega) rfl (bkc_set b n hj)
end
theorem ridx_16 {W : World} {B o k : Nat} (hk : k < 16) : (Instr.indexAt 36 (.pointer (some ⟨B, o, none⟩)) (.int .i64 (k : Int))).run Tryz.prog W = .ok (.pointer (some ⟨B, o + k * 4, none⟩)) W :=
 idx_arr Tryz.underlying36 (by kernel_rfl) hk
theorem ridx_he {W : World} {B o : Nat} {z : Int} (h : 0 ≤ z ∧ z ≤ 1) : (Instr.indexAt 28 (.pointer (some ⟨B, o, none⟩)) (.int .i64 z)).run Tryz.prog W = .ok (.pointer (some ⟨B, o + z.toNat * 4, none⟩)) W := by
 obtain ⟨k, rfl⟩ : ∃ k : Nat, z = k := ⟨z.toNat, by omega⟩
 exact idx_he (by omega)
theorem res_two {fn : Func} {p q : Tmp} {ty : TypeId} (h : fn.results = #[.cell p ty, .tmp q]) (tmps : Array Value) {w : World} {g : Nat} {c a : Value} (hp : tmps.getD p undef = .pointer (some ⟨g, 0, none⟩)) (hq : tmps.getD q undef = a) (hl : (loadVar ty ⟨g, 0, none⟩).run Tryz.prog w = .ok c w) :
  (results fn tmps).run Tryz.prog w = .ok (.tuple #[c, a]) w := by
 have hp' : tmps[p]?.getD undef = .pointer (some ⟨g, 0, none⟩) := by simpa using hp
 have hq' : tmps[q]?.getD undef = a := by simpa using hq
 simp [results, h, hp', hq', asAddr, hl]
theorem rlv_book {W : World} {B : Nat} {T : TypeId} {b : Bk} (h : Blk W B T (bkc b)) : (loadVar 36 ⟨B, 0, none⟩).run Tryz.prog W = .ok (bkv b) W := run_loadVar_row W B T _ (bkc b).toArray (0, 0) _ h Tryz.underlying36 rfl (by rw [bkc_size]; exact rinfo_book)
theorem rlv_st {W : World} {B : Nat} {T : TypeId} {s : Es} {v : Value} (h : Blk W B T (stc s v)) : (loadVar 39 ⟨B, 0, none⟩).run Tryz.prog W = .ok (stv s v) W := run_loadVar_row W B T _ (stc s v).toArray (0, 0) _ h Tryz.underlying39 rfl (by rw [List.size_toArray, stc_len]; exact rinfo_st)
set_option maxRecDepth 100000 in
set_option maxHeartbeats 4000000 in
theorem refLess_any (b : Bk) (hb : OkK b) {a s : Int} (h : atS a s) {n : Nat} (hn : n < M4) (w : World) :
  Calls Tryz.prog 34 #[bkv b, .int .i64 (slotS a s : Nat), wn n] w fun e W' => e = .returned (.tuple #[bkv (takeB b a s n).1, .bool (decide ((takeB b a s n).2 = 0))]) ∧ Below w.heap.size w W' := by
 have hmx : Tryz.prog.follows .mixedOrders = true := by kernel_rfl
 have hj := slot_lt h
 have HC := Lib.hid (fun W => refSubN_any (hb _ hj) hn W)
 have hM := Mem.start w
 have HE : Hid ((takeB b a s n) = if n ≤ b (slotS a s) then (updB b (slotS a s) (b (slotS a s) - n), 0) else (b, 30)) := Lib.hid (by unfold takeB; rw [if_pos h])
 generalize slotS a s = j at *
 go_enter Tryz.func34, Tryz.ntmps34
 go_upto_region 0 with fail
 refine wp_region_fromM (fun W => Mem w none [] W) hM ?_
 clear hM
 rintro Y1 hM
 refine rF (some 3) (pt Y1.heap.size 0) (Y1.alloc (.cells (bkc b).toArray 36)) ?_
 replace hM := hM.alloc 36 (bkc b)
 generalize World.alloc _ _ = Y2 at *
 generalize hNe : Y1.heap.size = P at *
 clear hNe
 refine rF (some 5) (pt Y2.heap.size 0) (Y2.alloc (.cells (ws (nw n)).toArray 27)) ?_
 replace hM := hM.alloc 27 (ws (nw n))
 generalize World.alloc _ _ = Y3 at *
 generalize hNe : Y2.heap.size = X at *
 clear hNe
 refine rF (some 6) (pt Y3.heap.size 0) (Y3.alloc (.cells (bkc noK).toArray 36)) ?_
 replace hM := hM.alloc 36 (bkc noK)
 generalize World.alloc _ _ = Y4 at *
 generalize hNe : Y3.heap.size = R at *
 clear hNe
 refine tF 4 [.v 3 7 (.bool false)] trivial ?_
 refine eF ?_
 go_upto_region 1 with fail
 go_cut [8, 9] (fun p f wc => ∃ N, p = .pointer (some ⟨N, 0, none⟩) ∧ f = .bool (lessB (b j) n) ∧ Mem w none [(N, 27, ws (nw (b (j) - n))), (R, 36, bkc noK), (X, 27, ws (nw n)), (P, 36, bkc b)] wc)
 case first =>
  refine wp_region_M (fun W => Mem w none [(R, 36, bkc noK), (X, 27, ws (nw n)), (P, 36, bkc b)] W) (fun W => Mem w none [(R, 36, bkc noK), (X, 27, ws (nw n)), (P, 36, bkc b)] W) hmx hM.drew ?_
  clear hM
  rintro Y5 hM
  have hS := hM.sub (.cons_cons _ (.cons_cons _ (.cons_cons _ .slnil)))
  refine tD 7 [.v 0 11 (.int .i64 (j : Nat)), .x 1 12 36 (pt P 0) (.int .i64 (j : Nat)) (pt P (0 + j * 4)), .l 2 13 27 (pt P (0 + j * 4)) (wn (b j)), .l 3 14 27 (pt X 0) (wn (n))] ⟨fun W h => ridx_16 hj, fun W h => rld_slot h.a2 hj, fun W h => load_wn h.a1, trivial⟩ hS ?_
  refine oT 4 8 6 ?_ ?_
  ·
   refine cD (some 15) _ _ ((HC.out _).mono ?_)
   rintro e Y6 ⟨rfl, hb⟩
   refine And.intro (hS.below hb) ?_
   replace hS := hS.below hb
   replace hM := hM.below hb
   clear hb
   refine tD 3 [.v 5 10 (.tuple #[wn (b (j) - n), .bool (lessB (b j) n)]), .v 6 16 (wn (b (j) - n)), .v 7 17 (.bool (lessB (b j) n))] trivial hS ?_
   refine oD 8 2 (rD (some 8) (pt Y6.heap.size 0) (Y6.alloc (.cells (ws (nw 0)).toArray 27)) (hS.other _) ?_)
   replace hS := hS.other (.cells (ws (nw 0)).toArray 27)
   replace hM := hM.alloc 27 (ws (nw 0))
   generalize World.alloc _ _ = Y7 at *
   generalize Y6.heap.size = N at *
   have hM1 := hM.set 0 (cs' := ws (nw (b (j) - n))) rfl rfl
   refine oD 9 1 (sD _ _ (wn (b (j) - n)) (sto_wn hM.a0 _) (hM1.sub (.cons _ (.cons_cons _ (.cons_cons _ (.cons_cons _ .slnil))))) ?_)
   replace hS := hM1.sub (.cons _ (.cons_cons _ (.cons_cons _ (.cons_cons _ .slnil))))
   replace hM := hM1
   clear hM1
   generalize World.setRow _ _ _ = Y8 at *
   refine tD 0 [.v 10 9 (.bool (lessB (b j) n))] trivial hS ?_
   refine eD ?_
   clear hS
   go_wp2_with fail
   go_meet
   exact ⟨_, rfl, rfl, hM⟩
  ·
   refine rD (some 8) (pt Y5.heap.size 0) (Y5.alloc (.cells (ws (nw 0)).toArray 27)) (hS.other _) ?_
   replace hS := hS.other (.cells (ws (nw 0)).toArray 27)
   replace hM := hM.alloc 27 (ws (nw 0))
   generalize World.alloc _ _ = Y9 at *
   generalize Y5.heap.size = N at *
   refine oD 4 5 (cD (some 15) _ _ ((HC.out _).mono ?_))
   rintro e Y10 ⟨rfl, hb⟩
   refine And.intro (hS.below hb) ?_
   replace hS := hS.below hb
   replace hM := hM.below hb
   clear hb
   refine tD 2 [.v 5 10 (.tuple #[wn (b (j) - n), .bool (lessB (b j) n)]), .v 6 16 (wn (b (j) - n)), .v 7 17 (.bool (lessB (b j) n))] trivial hS ?_
   have hM1 := hM.set 0 (cs' := ws (nw (b (j) - n))) rfl rfl
   refine oD 9 1 (sD _ _ (wn (b (j) - n)) (sto_wn hM.a0 _) (hM1.sub (.cons _ (.cons_cons _ (.cons_cons _ (.cons_cons _ .slnil))))) ?_)
   replace hS := hM1.sub (.cons _ (.cons_cons _ (.cons_cons _ (.cons_cons _ .slnil))))
   replace hM := hM1
   clear hM1
   generalize World.setRow _ _ _ = Y11 at *
   refine tD 0 [.v 10 9 (.bool (lessB (b j) n))] trivial hS ?_
   refine eD ?_
   clear hS
   go_wp2_with fail
   go_meet
   exact ⟨_, rfl, rfl, hM⟩
 case rest =>
  obtain ⟨N, rfl, rfl, hM⟩ := hcut
  by_cases hc : n ≤ b (j)
  case pos =>
   have HK := Lib.hid hc
   clear hc
   go_upto_region 2 with fail
   refine wp_region_fromM _ hM ?_
   clear hM
   rintro Y12 hM
   refine tF 1 [.a 0 18 (.bool (lessB (b j) n)) (.bool true)] ⟨cB (decide_eq_true HK.out), trivial⟩ ?_
   refine eF ?_
   go_upto_region 3 with fail
   refine wp_region_fromM _ hM ?_
   clear hM
   rintro Y13 hM
   refine tF 3 [.v 0 19 (.int .i64 (j : Nat)), .l 1 20 27 (pt N 0) (wn (b (j) - n)), .x 2 21 36 (pt P 0) (.int .i64 (j : Nat)) (pt P (0 + j * 4))] ⟨load_wn hM.a0, ridx_16 hj, trivial⟩ ?_
   refine sF _ _ (wn (b (j) - n)) (rsto_slot hM.a3 hj _) ?_
   replace hM := hM.set 3 (cs' := bkc (updB b j (b (j) - n))) rfl rfl
   generalize World.setRow _ _ _ = Y14 at *
   refine eF ?_
   go_upto_region 4 with fail
   refine wp_region_fromM _ hM ?_
   clear hM
   rintro Y15 hM
   refine tF 2 [.l 0 22 36 (pt P 0) (bkv (updB b j (b (j) - n))), .v 1 23 (.bool (lessB (b j) n))] ⟨rload_book hM.a3, trivial⟩ ?_
   refine sF _ _ _ (rsto_bk hM.a1 (updB b j (b (j) - n))) ?_
   replace hM := hM.set 1 (cs' := bkc (updB b j (b (j) - n))) rfl rfl
   generalize World.setRow _ _ _ = Y16 at *
   refine tF 4 [.v 3 7 (.bool (lessB (b j) n))] trivial ?_
   refine eF ?_
   go_wp2_with fail
   refine bodyPost_ret (v := .tuple #[bkv (updB b j (b (j) - n)), .bool (lessB (b j) n)]) (res_two rfl _ rfl rfl (rlv_book hM.a1)) rfl ⟨?_, hM.b⟩
   rw [HE.out, if_pos HK.out, show lessB (b j) n = true from decide_eq_true HK.out]
   rfl
  have HK := Lib.hid hc
  clear hc
  go_upto_region 2 with fail
  refine wp_region_fromM _ hM ?_
  clear hM
  rintro Y17 hM
  refine tF 1 [.a 0 18 (.bool (lessB (b j) n)) (.bool false)] ⟨cB (decide_eq_false HK.out), trivial⟩ ?_
  refine eF ?_
  go_upto_region 4 with fail
  refine wp_region_fromM _ hM ?_
  clear hM
  rintro Y18 hM
  refine tF 2 [.l 0 22 36 (pt P 0) (bkv (b)), .v 1 23 (.bool (lessB (b j) n))] ⟨rload_book hM.a3, trivial⟩ ?_
  refine sF _ _ _ (rsto_bk hM.a1 (b)) ?_
  replace hM := hM.set 1 (cs' := bkc (b)) rfl rfl
  generalize World.setRow _ _ _ = Y19 at *
  refine tF 4 [.v 3 7 (.bool (lessB (b j) n))] trivial ?_
  refine eF ?_
  go_wp2_with fail
  refine bodyPost_ret (v := .tuple #[bkv (b), .bool (lessB (b j) n)]) (res_two rfl _ rfl rfl (rlv_book hM.a1)) rfl ⟨?_, hM.b⟩
  rw [HE.out, if_neg HK.out, show lessB (b j) n = false from decide_eq_false HK.out]
  rfl
set_option maxRecDepth 100000 in
set_option maxHeartbeats 4000000 in
theorem refMore_any (b : Bk) (hb : OkK b) {a s : Int} (h : atS a s) {n : Nat} (hn : n < M4) (w : World) :
  Calls Tryz.prog 74 #[bkv b, .int .i64 (slotS a s : Nat), wn n] w fun e W' => e = .returned (.tuple #[bkv (giveB b a s n).1, .bool (decide ((giveB b a s n).2 = 0))]) ∧ Below w.heap.size w W' := by
 have hmx : Tryz.prog.follows .mixedOrders = true := by kernel_rfl
 have hj := slot_lt h
 have HC := Lib.hid (fun W => refAddN_any (hb _ hj) hn W)
 have hM := Mem.start w
 have HE : Hid ((giveB b a s n) = if b (slotS a s) + n < M4 then (updB b (slotS a s) (b (slotS a s) + n), 0) else (b, 38)) := Lib.hid (by unfold giveB; rw [if_pos h])
 generalize slotS a s = j at *
 go_enter Tryz.func74, Tryz.ntmps74
 go_upto_region 0 with fail
 refine wp_region_fromM (fun W => Mem w none [] W) hM ?_
 clear hM
 rintro Y1 hM
 refine rF (some 3) (pt Y1.heap.size 0) (Y1.alloc (.cells (bkc b).toArray 36)) ?_
 replace hM := hM.alloc 36 (bkc b)
 generalize World.alloc _ _ = Y2 at *
 generalize hNe : Y1.heap.size = P at *
 clear hNe
 refine rF (some 5) (pt Y2.heap.size 0) (Y2.alloc (.cells (ws (nw n)).toArray 27)) ?_
 replace hM := hM.alloc 27 (ws (nw n))
 generalize World.alloc _ _ = Y3 at *
 generalize hNe : Y2.heap.size = X at *
 clear hNe
 refine rF (some 6) (pt Y3.heap.size 0) (Y3.alloc (.cells (bkc noK).toArray 36)) ?_
 replace hM := hM.alloc 36 (bkc noK)
 generalize World.alloc _ _ = Y4 at *
 generalize hNe : Y3.heap.size = R at *
 clear hNe
 refine tF 4 [.v 3 7 (.bool false)] trivial ?_
 refine eF ?_
 go_upto_region 1 with fail
 go_cut [8, 9] (fun p f wc => ∃ N, p = .pointer (some ⟨N, 0, none⟩) ∧ f = .bool (fitB (b j) n) ∧ Mem w none [(N, 27, ws (nw (addN (b j) n))), (R, 36, bkc noK), (X, 27, ws (nw n)), (P, 36, bkc b)] wc)
 case first =>
  refine wp_region_M (fun W => Mem w none [(R, 36, bkc noK), (X, 27, ws (nw n)), (P, 36, bkc b)] W) (fun W => Mem w none [(R, 36, bkc noK), (X, 27, ws (nw n)), (P, 36, bkc b)] W) hmx hM.drew ?_
  clear hM
  rintro Y5 hM
  have hS := hM.sub (.cons_cons _ (.cons_cons _ (.cons_cons _ .slnil)))
  refine tD 7 [.v 0 11 (.int .i64 (j : Nat)), .x 1 12 36 (pt P 0) (.int .i64 (j : Nat)) (pt P (0 + j * 4)), .l 2 13 27 (pt P (0 + j * 4)) (wn (b j)), .l 3 14 27 (pt X 0) (wn (n))] ⟨fun W h => ridx_16 hj, fun W h => rld_slot h.a2 hj, fun W h => load_wn h.a1, trivial⟩ hS ?_
  refine oT 4 8 6 ?_ ?_
  ·
   refine cD (some 15) _ _ ((HC.out _).mono ?_)
   rintro e Y6 ⟨rfl, hb⟩
   refine And.intro (hS.below hb) ?_
   replace hS := hS.below hb
   replace hM := hM.below hb
   clear hb
   refine tD 3 [.v 5 10 (.tuple #[wn (addN (b j) n), .bool (fitB (b j) n)]), .v 6 16 (wn (addN (b j) n)), .v 7 17 (.bool (fitB (b j) n))] trivial hS ?_
   refine oD 8 2 (rD (some 8) (pt Y6.heap.size 0) (Y6.alloc (.cells (ws (nw 0)).toArray 27)) (hS.other _) ?_)
   replace hS := hS.other (.cells (ws (nw 0)).toArray 27)
   replace hM := hM.alloc 27 (ws (nw 0))
   generalize World.alloc _ _ = Y7 at *
   generalize Y6.heap.size = N at *
   have hM1 := hM.set 0 (cs' := ws (nw (addN (b j) n))) rfl rfl
   refine oD 9 1 (sD _ _ (wn (addN (b j) n)) (sto_wn hM.a0 _) (hM1.sub (.cons _ (.cons_cons _ (.cons_cons _ (.cons_cons _ .slnil))))) ?_)
   replace hS := hM1.sub (.cons _ (.cons_cons _ (.cons_cons _ (.cons_cons _ .slnil))))
   replace hM := hM1
   clear hM1
   generalize World.setRow _ _ _ = Y8 at *
   refine tD 0 [.v 10 9 (.bool (fitB (b j) n))] trivial hS ?_
   refine eD ?_
   clear hS
   go_wp2_with fail
   go_meet
   exact ⟨_, rfl, rfl, hM⟩
  ·
   refine rD (some 8) (pt Y5.heap.size 0) (Y5.alloc (.cells (ws (nw 0)).toArray 27)) (hS.other _) ?_
   replace hS := hS.other (.cells (ws (nw 0)).toArray 27)
   replace hM := hM.alloc 27 (ws (nw 0))
   generalize World.alloc _ _ = Y9 at *
   generalize Y5.heap.size = N at *
   refine oD 4 5 (cD (some 15) _ _ ((HC.out _).mono ?_))
   rintro e Y10 ⟨rfl, hb⟩
   refine And.intro (hS.below hb) ?_
   replace hS := hS.below hb
   replace hM := hM.below hb
   clear hb
   refine tD 2 [.v 5 10 (.tuple #[wn (addN (b j) n), .bool (fitB (b j) n)]), .v 6 16 (wn (addN (b j) n)), .v 7 17 (.bool (fitB (b j) n))] trivial hS ?_
   have hM1 := hM.set 0 (cs' := ws (nw (addN (b j) n))) rfl rfl
   refine oD 9 1 (sD _ _ (wn (addN (b j) n)) (sto_wn hM.a0 _) (hM1.sub (.cons _ (.cons_cons _ (.cons_cons _ (.cons_cons _ .slnil))))) ?_)
   replace hS := hM1.sub (.cons _ (.cons_cons _ (.cons_cons _ (.cons_cons _ .slnil))))
   replace hM := hM1
   clear hM1
   generalize World.setRow _ _ _ = Y11 at *
   refine tD 0 [.v 10 9 (.bool (fitB (b j) n))] trivial hS ?_
   refine eD ?_
   clear hS
   go_wp2_with fail
   go_meet
   exact ⟨_, rfl, rfl, hM⟩
 case rest =>
  obtain ⟨N, rfl, rfl, hM⟩ := hcut
  by_cases hc : b (j) + n < M4
  case pos =>
   have HK := Lib.hid hc
   clear hc
   go_upto_region 2 with fail
   refine wp_region_fromM _ hM ?_
   clear hM
   rintro Y12 hM
   refine tF 1 [.a 0 18 (.bool (fitB (b j) n)) (.bool true)] ⟨cB (decide_eq_true HK.out), trivial⟩ ?_
   refine eF ?_
   rw [show addN (b j) n = b j + n from if_pos HK.out] at hM
   go_upto_region 3 with fail
   refine wp_region_fromM _ hM ?_
   clear hM
   rintro Y13 hM
   refine tF 3 [.v 0 19 (.int .i64 (j : Nat)), .l 1 20 27 (pt N 0) (wn (b (j) + n)), .x 2 21 36 (pt P 0) (.int .i64 (j : Nat)) (pt P (0 + j * 4))] ⟨load_wn hM.a0, ridx_16 hj, trivial⟩ ?_
   refine sF _ _ (wn (b (j) + n)) (rsto_slot hM.a3 hj _) ?_
   replace hM := hM.set 3 (cs' := bkc (updB b j (b (j) + n))) rfl rfl
   generalize World.setRow _ _ _ = Y14 at *
   refine eF ?_
   go_upto_region 4 with fail
   refine wp_region_fromM _ hM ?_
   clear hM
   rintro Y15 hM
   refine tF 2 [.l 0 22 36 (pt P 0) (bkv (updB b j (b (j) + n))), .v 1 23 (.bool (fitB (b j) n))] ⟨rload_book hM.a3, trivial⟩ ?_
   refine sF _ _ _ (rsto_bk hM.a1 (updB b j (b (j) + n))) ?_
   replace hM := hM.set 1 (cs' := bkc (updB b j (b (j) + n))) rfl rfl
   generalize World.setRow _ _ _ = Y16 at *
   refine tF 4 [.v 3 7 (.bool (fitB (b j) n))] trivial ?_
   refine eF ?_
   go_wp2_with fail
   refine bodyPost_ret (v := .tuple #[bkv (updB b j (b (j) + n)), .bool (fitB (b j) n)]) (res_two rfl _ rfl rfl (rlv_book hM.a1)) rfl ⟨?_, hM.b⟩
   rw [HE.out, if_pos HK.out, show fitB (b j) n = true from decide_eq_true HK.out]
   rfl
  have HK := Lib.hid hc
  clear hc
  go_upto_region 2 with fail
  refine wp_region_fromM _ hM ?_
  clear hM
  rintro Y17 hM
  refine tF 1 [.a 0 18 (.bool (fitB (b j) n)) (.bool false)] ⟨cB (decide_eq_false HK.out), trivial⟩ ?_
  refine eF ?_
  go_upto_region 4 with fail
  refine wp_region_fromM _ hM ?_
  clear hM
  rintro Y18 hM
  refine tF 2 [.l 0 22 36 (pt P 0) (bkv (b)), .v 1 23 (.bool (fitB (b j) n))] ⟨rload_book hM.a3, trivial⟩ ?_
  refine sF _ _ _ (rsto_bk hM.a1 (b)) ?_
  replace hM := hM.set 1 (cs' := bkc (b)) rfl rfl
  generalize World.setRow _ _ _ = Y19 at *
  refine tF 4 [.v 3 7 (.bool (fitB (b j) n))] trivial ?_
  refine eF ?_
  go_wp2_with fail
  refine bodyPost_ret (v := .tuple #[bkv (b), .bool (fitB (b j) n)]) (res_two rfl _ rfl rfl (rlv_book hM.a1)) rfl ⟨?_, hM.b⟩
  rw [HE.out, if_neg HK.out, show fitB (b j) n = false from decide_eq_false HK.out]
  rfl
end Go.Proofs.YthhmdgmmeedhdaaGreat
namespace Go.Proofs.YthhmdgmmeedhdaaGreat
open Go.RowKit Go.Shelf
theorem rsto_heO {W : World} {B : Nat} {T : TypeId} {s : Es} {v : Value} (h : Blk W B T (stc s v)) {a : Nat} (ha : a < 2) (n : Nat) : (Instr.storeAt 27 (.pointer (some ⟨B, 138 + a * 4, none⟩)) (wn n)).run Tryz.prog W = .ok () (W.setRow B (stc { s with he := updB s.he a n } v).toArray) := sto_he h ha n
set_option maxRecDepth 100000 in
set_option maxHeartbeats 4000000 in
theorem refHeldUp_any (s : Es) (v : Value) {z : Int} (hz : 0 ≤ z ∧ z ≤ 1) (hh : s.he z.toNat < M4) {n : Nat} (hn : n < M4) (hv : v.oneCell' = true) (w : World) :
  Calls Tryz.prog 70 #[stv s v, .int .i64 z, wn n, .bool true] w fun e W' => e = .returned (.tuple #[stv (growE s z.toNat n).1 v, .bool (decide ((growE s z.toNat n).2 = 0))]) ∧ Below w.heap.size w W' := by
 have hmx : Tryz.prog.follows .mixedOrders = true := by kernel_rfl
 have HS := Lib.hid (fun W => refSubN_any hh hn W)
 have HA := Lib.hid (fun W => refAddN_any hh hn W)
 have hM := Mem.start w
 go_enter Tryz.func70, Tryz.ntmps70
 go_upto_region 0 with fail
 refine wp_region_fromM (fun W => Mem w none [] W) hM ?_
 clear hM
 rintro Y1 hM
 refine rF (some 4) (pt Y1.heap.size 0) (Y1.alloc (.cells (stc s v).toArray 39)) ?_
 replace hM := hM.alloc 39 (stc s v)
 generalize World.alloc _ _ = Y2 at *
 generalize hNe : Y1.heap.size = P at *
 clear hNe
 refine rF (some 6) (pt Y2.heap.size 0) (Y2.alloc (.cells (ws (nw n)).toArray 27)) ?_
 replace hM := hM.alloc 27 (ws (nw n))
 generalize World.alloc _ _ = Y3 at *
 generalize hNe : Y2.heap.size = X at *
 clear hNe
 refine rF (some 8) (pt Y3.heap.size 0) (Y3.alloc (.cells (stc zS nilV).toArray 39)) ?_
 replace hM := hM.alloc 39 (stc zS nilV)
 generalize World.alloc _ _ = Y4 at *
 generalize hNe : Y3.heap.size = R at *
 clear hNe
 refine tF 4 [.v 3 9 (.bool false)] trivial ?_
 refine eF ?_
 go_upto_region 1 with fail
 go_cut [10, 11] (fun p f wc => ∃ N, p = .pointer (some ⟨N, 0, none⟩) ∧ f = .bool (lessB (s.he z.toNat) n) ∧ Mem w none [(N, 27, ws (nw (s.he z.toNat - n))), (R, 39, stc zS nilV), (X, 27, ws (nw n)), (P, 39, stc s v)] wc)
 case first =>
  refine wp_region_M (fun W => Mem w none [(R, 39, stc zS nilV), (X, 27, ws (nw n)), (P, 39, stc s v)] W) (fun W => Mem w none [(R, 39, stc zS nilV), (X, 27, ws (nw n)), (P, 39, stc s v)] W) hmx hM.drew ?_
  clear hM
  rintro Y5 hM
  have hS := hM.sub (.cons_cons _ (.cons_cons _ (.cons_cons _ .slnil)))
  refine tD 7 [.v 0 13 (.int .i64 z), .v 1 14 (pt P 138), .x 2 15 28 (pt P 138) (.int .i64 z) (pt P (138 + z.toNat * 4)), .l 3 16 27 (pt P (138 + z.toNat * 4)) (wn (s.he z.toNat)), .l 4 17 27 (pt X 0) (wn (n))] ⟨fun W h => ridx_he hz, fun W h => rld_heO (s := s) h.a2 (by omega), fun W h => load_wn h.a1, trivial⟩ hS ?_
  refine oT 5 9 6 ?_ ?_
  ·
   refine cD (some 18) _ _ ((HS.out _).mono ?_)
   rintro e Y6 ⟨rfl, hb⟩
   refine And.intro (hS.below hb) ?_
   replace hS := hS.below hb
   replace hM := hM.below hb
   clear hb
   refine tD 3 [.v 6 12 (.tuple #[wn (s.he z.toNat - n), .bool (lessB (s.he z.toNat) n)]), .v 7 19 (wn (s.he z.toNat - n)), .v 8 20 (.bool (lessB (s.he z.toNat) n))] trivial hS ?_
   refine oD 9 2 (rD (some 10) (pt Y6.heap.size 0) (Y6.alloc (.cells (ws (nw 0)).toArray 27)) (hS.other _) ?_)
   replace hS := hS.other (.cells (ws (nw 0)).toArray 27)
   replace hM := hM.alloc 27 (ws (nw 0))
   generalize World.alloc _ _ = Y7 at *
   generalize Y6.heap.size = N at *
   have hM1 := hM.set 0 (cs' := ws (nw (s.he z.toNat - n))) rfl rfl
   refine oD 10 1 (sD 27 (pt N 0) (wn (s.he z.toNat - n)) (sto_wn hM.a0 _) (hM1.sub (.cons _ (.cons_cons _ (.cons_cons _ (.cons_cons _ .slnil))))) ?_)
   replace hS := hM1.sub (.cons _ (.cons_cons _ (.cons_cons _ (.cons_cons _ .slnil))))
   replace hM := hM1
   clear hM1
   generalize World.setRow _ _ _ = Y8 at *
   refine tD 0 [.v 11 11 (.bool (lessB (s.he z.toNat) n))] trivial hS ?_
   refine eD ?_
   clear hS
   go_wp2_with fail
   go_meet
   exact ⟨_, rfl, rfl, hM⟩
  ·
   refine rD (some 10) (pt Y5.heap.size 0) (Y5.alloc (.cells (ws (nw 0)).toArray 27)) (hS.other _) ?_
   replace hS := hS.other (.cells (ws (nw 0)).toArray 27)
   replace hM := hM.alloc 27 (ws (nw 0))
   generalize World.alloc _ _ = Y9 at *
   generalize Y5.heap.size = N at *
   refine oD 5 5 (cD (some 18) _ _ ((HS.out _).mono ?_))
   rintro e Y10 ⟨rfl, hb⟩
   refine And.intro (hS.below hb) ?_
   replace hS := hS.below hb
   replace hM := hM.below hb
   clear hb
   refine tD 2 [.v 6 12 (.tuple #[wn (s.he z.toNat - n), .bool (lessB (s.he z.toNat) n)]), .v 7 19 (wn (s.he z.toNat - n)), .v 8 20 (.bool (lessB (s.he z.toNat) n))] trivial hS ?_
   have hM1 := hM.set 0 (cs' := ws (nw (s.he z.toNat - n))) rfl rfl
   refine oD 10 1 (sD 27 (pt N 0) (wn (s.he z.toNat - n)) (sto_wn hM.a0 _) (hM1.sub (.cons _ (.cons_cons _ (.cons_cons _ (.cons_cons _ .slnil))))) ?_)
   replace hS := hM1.sub (.cons _ (.cons_cons _ (.cons_cons _ (.cons_cons _ .slnil))))
   replace hM := hM1
   clear hM1
   generalize World.setRow _ _ _ = Y11 at *
   refine tD 0 [.v 11 11 (.bool (lessB (s.he z.toNat) n))] trivial hS ?_
   refine eD ?_
   clear hS
   go_wp2_with fail
   go_meet
   exact ⟨_, rfl, rfl, hM⟩
 case rest =>
  obtain ⟨N, rfl, rfl, hM⟩ := hcut
  go_upto_region 2 with fail
  refine wp_region_fromM _ hM ?_
  clear hM
  rintro Y12 hM
  refine tF 1 [.v 0 21 (.bool true)] trivial ?_
  refine eF ?_
  go_upto_region 3 with fail
  refine wp_region_M (fun W => Mem w none [(R, 39, stc zS nilV), (X, 27, ws (nw n)), (P, 39, stc s v)] W) (fun W => Mem w none [(N, 27, ws (nw (s.he z.toNat - n))), (R, 39, stc zS nilV), (X, 27, ws (nw n)), (P, 39, stc s v)] W) hmx hM.drew ?_
  clear hM
  rintro Y13 hM
  have hS := hM.sub (.cons _ (.cons_cons _ (.cons_cons _ (.cons_cons _ .slnil))))
  refine tD 6 [.v 0 23 (.int .i64 z), .v 1 24 (pt P 138), .x 2 25 28 (pt P 138) (.int .i64 z) (pt P (138 + z.toNat * 4)), .l 3 26 27 (pt P (138 + z.toNat * 4)) (wn (s.he z.toNat)), .l 4 27 27 (pt X 0) (wn (n))] ⟨fun W h => ridx_he hz, fun W h => rld_heO (s := s) h.a2 (by omega), fun W h => load_wn h.a1, trivial⟩ hS ?_
  refine oD 5 5 (cD (some 28) _ _ ((HA.out _).mono ?_))
  rintro e W1 ⟨rfl, hb⟩
  refine And.intro (hS.below hb) ?_
  replace hS := hS.below hb
  replace hM := hM.below hb
  clear hb
  refine tD 2 [.v 6 22 (.tuple #[wn (addN (s.he z.toNat) n), .bool (fitB (s.he z.toNat) n)]), .v 7 29 (wn (addN (s.he z.toNat) n)), .v 8 30 (.bool (fitB (s.he z.toNat) n))] trivial hS ?_
  have hM1 := hM.set 0 (cs' := ws (nw (addN (s.he z.toNat) n))) rfl rfl
  refine oD 9 1 (sD 27 (pt N 0) (wn (addN (s.he z.toNat) n)) (sto_wn hM.a0 _) (hM1.sub (.cons _ (.cons_cons _ (.cons_cons _ (.cons_cons _ .slnil))))) ?_)
  replace hS := hM1.sub (.cons _ (.cons_cons _ (.cons_cons _ (.cons_cons _ .slnil))))
  replace hM := hM1
  clear hM1
  generalize World.setRow _ _ _ = Y14 at *
  refine tD 0 [.v 10 11 (.bool (fitB (s.he z.toNat) n))] trivial hS ?_
  refine eD ?_
  clear hS
  by_cases hc : s.he z.toNat + n < M4
  case pos =>
   have HK := Lib.hid hc
   clear hc
   go_upto_region 4 with fail
   refine wp_region_fromM _ hM ?_
   clear hM
   rintro Y15 hM
   refine tF 1 [.a 0 31 (.bool (fitB (s.he z.toNat) n)) (.bool true)] ⟨cB (decide_eq_true HK.out), trivial⟩ ?_
   refine eF ?_
   rw [show addN (s.he z.toNat) n = s.he z.toNat + n from if_pos HK.out] at hM
   go_upto_region 5 with fail
   refine wp_region_fromM _ hM ?_
   clear hM
   rintro Y16 hM
   refine tF 4 [.v 0 32 (.int .i64 z), .l 1 33 27 (pt N 0) (wn (s.he z.toNat + n)), .v 2 34 (pt P 138), .x 3 35 28 (pt P 138) (.int .i64 z) (pt P (138 + z.toNat * 4))] ⟨load_wn hM.a0, ridx_he hz, trivial⟩ ?_
   refine sF 27 (pt P (138 + z.toNat * 4)) (wn (s.he z.toNat + n)) (rsto_heO (s := s) hM.a3 (by omega) (s.he z.toNat + n)) ?_
   replace hM := hM.set 3 (cs' := stc { s with he := updB s.he z.toNat (s.he z.toNat + n) } v) rfl rfl
   generalize World.setRow _ _ _ = Y17 at *
   refine eF ?_
   go_upto_region 6 with fail
   refine wp_region_fromM _ hM ?_
   clear hM
   rintro Y18 hM
   refine tF 2 [.l 0 36 39 (pt P 0) (stv ({ s with he := updB s.he z.toNat (s.he z.toNat + n) }) (v)), .v 1 37 (.bool (fitB (s.he z.toNat) n))] ⟨rld_st (s := { s with he := updB s.he z.toNat (s.he z.toNat + n) }) hM.a3, trivial⟩ ?_
   refine sF 39 (pt R 0) (stv ({ s with he := updB s.he z.toNat (s.he z.toNat + n) }) (v)) (rsto_st hM.a1 (stc_len _ _) ({ s with he := updB s.he z.toNat (s.he z.toNat + n) }) hv) ?_
   replace hM := hM.set 1 (cs' := stc ({ s with he := updB s.he z.toNat (s.he z.toNat + n) }) v) rfl rfl
   generalize World.setRow _ _ _ = Y19 at *
   refine tF 4 [.v 3 9 (.bool (fitB (s.he z.toNat) n))] trivial ?_
   refine eF ?_
   go_wp2_with fail
   refine bodyPost_ret (v := .tuple #[stv ({ s with he := updB s.he z.toNat (s.he z.toNat + n) }) v, .bool (fitB (s.he z.toNat) n)]) (res_two rfl _ rfl rfl (rlv_st hM.a1)) rfl ⟨?_, hM.b⟩
   rw [grow_yes HK.out, show fitB (s.he z.toNat) n = true from decide_eq_true HK.out]
   rfl
  have HK := Lib.hid hc
  clear hc
  go_upto_region 4 with fail
  refine wp_region_fromM _ hM ?_
  clear hM
  rintro Y20 hM
  refine tF 1 [.a 0 31 (.bool (fitB (s.he z.toNat) n)) (.bool false)] ⟨cB (decide_eq_false HK.out), trivial⟩ ?_
  refine eF ?_
  go_upto_region 6 with fail
  refine wp_region_fromM _ hM ?_
  clear hM
  rintro Y21 hM
  refine tF 2 [.l 0 36 39 (pt P 0) (stv (s) (v)), .v 1 37 (.bool (fitB (s.he z.toNat) n))] ⟨rld_st (s := s) hM.a3, trivial⟩ ?_
  refine sF 39 (pt R 0) (stv (s) (v)) (rsto_st hM.a1 (stc_len _ _) (s) hv) ?_
  replace hM := hM.set 1 (cs' := stc (s) v) rfl rfl
  generalize World.setRow _ _ _ = Y22 at *
  refine tF 4 [.v 3 9 (.bool (fitB (s.he z.toNat) n))] trivial ?_
  refine eF ?_
  go_wp2_with fail
  refine bodyPost_ret (v := .tuple #[stv (s) v, .bool (fitB (s.he z.toNat) n)]) (res_two rfl _ rfl rfl (rlv_st hM.a1)) rfl ⟨?_, hM.b⟩
  rw [grow_no HK.out, show fitB (s.he z.toNat) n = false from decide_eq_false HK.out]
  rfl
set_option maxRecDepth 100000 in
set_option maxHeartbeats 4000000 in
theorem refHeldDown_any (s : Es) (v : Value) {z : Int} (hz : 0 ≤ z ∧ z ≤ 1) (hh : s.he z.toNat < M4) {n : Nat} (hn : n < M4) (hv : v.oneCell' = true) (w : World) :
  Calls Tryz.prog 70 #[stv s v, .int .i64 z, wn n, .bool false] w fun e W' => e = .returned (.tuple #[stv (shrinkE s z.toNat n).1 v, .bool (decide ((shrinkE s z.toNat n).2 = 0))]) ∧ Below w.heap.size w W' := by
 have hmx : Tryz.prog.follows .mixedOrders = true := by kernel_rfl
 have HS := Lib.hid (fun W => refSubN_any hh hn W)
 have HA := Lib.hid (fun W => refAddN_any hh hn W)
 have hM := Mem.start w
 go_enter Tryz.func70, Tryz.ntmps70
 go_upto_region 0 with fail
 refine wp_region_fromM (fun W => Mem w none [] W) hM ?_
 clear hM
 rintro Y1 hM
 refine rF (some 4) (pt Y1.heap.size 0) (Y1.alloc (.cells (stc s v).toArray 39)) ?_
 replace hM := hM.alloc 39 (stc s v)
 generalize World.alloc _ _ = Y2 at *
 generalize hNe : Y1.heap.size = P at *
 clear hNe
 refine rF (some 6) (pt Y2.heap.size 0) (Y2.alloc (.cells (ws (nw n)).toArray 27)) ?_
 replace hM := hM.alloc 27 (ws (nw n))
 generalize World.alloc _ _ = Y3 at *
 generalize hNe : Y2.heap.size = X at *
 clear hNe
 refine rF (some 8) (pt Y3.heap.size 0) (Y3.alloc (.cells (stc zS nilV).toArray 39)) ?_
 replace hM := hM.alloc 39 (stc zS nilV)
 generalize World.alloc _ _ = Y4 at *
 generalize hNe : Y3.heap.size = R at *
 clear hNe
 refine tF 4 [.v 3 9 (.bool false)] trivial ?_
 refine eF ?_
 go_upto_region 1 with fail
 go_cut [10, 11] (fun p f wc => ∃ N, p = .pointer (some ⟨N, 0, none⟩) ∧ f = .bool (lessB (s.he z.toNat) n) ∧ Mem w none [(N, 27, ws (nw (s.he z.toNat - n))), (R, 39, stc zS nilV), (X, 27, ws (nw n)), (P, 39, stc s v)] wc)
 case first =>
  refine wp_region_M (fun W => Mem w none [(R, 39, stc zS nilV), (X, 27, ws (nw n)), (P, 39, stc s v)] W) (fun W => Mem w none [(R, 39, stc zS nilV), (X, 27, ws (nw n)), (P, 39, stc s v)] W) hmx hM.drew ?_
  clear hM
  rintro Y5 hM
  have hS := hM.sub (.cons_cons _ (.cons_cons _ (.cons_cons _ .slnil)))
  refine tD 7 [.v 0 13 (.int .i64 z), .v 1 14 (pt P 138), .x 2 15 28 (pt P 138) (.int .i64 z) (pt P (138 + z.toNat * 4)), .l 3 16 27 (pt P (138 + z.toNat * 4)) (wn (s.he z.toNat)), .l 4 17 27 (pt X 0) (wn (n))] ⟨fun W h => ridx_he hz, fun W h => rld_heO (s := s) h.a2 (by omega), fun W h => load_wn h.a1, trivial⟩ hS ?_
  refine oT 5 9 6 ?_ ?_
  ·
   refine cD (some 18) _ _ ((HS.out _).mono ?_)
   rintro e Y6 ⟨rfl, hb⟩
   refine And.intro (hS.below hb) ?_
   replace hS := hS.below hb
   replace hM := hM.below hb
   clear hb
   refine tD 3 [.v 6 12 (.tuple #[wn (s.he z.toNat - n), .bool (lessB (s.he z.toNat) n)]), .v 7 19 (wn (s.he z.toNat - n)), .v 8 20 (.bool (lessB (s.he z.toNat) n))] trivial hS ?_
   refine oD 9 2 (rD (some 10) (pt Y6.heap.size 0) (Y6.alloc (.cells (ws (nw 0)).toArray 27)) (hS.other _) ?_)
   replace hS := hS.other (.cells (ws (nw 0)).toArray 27)
   replace hM := hM.alloc 27 (ws (nw 0))
   generalize World.alloc _ _ = Y7 at *
   generalize Y6.heap.size = N at *
   have hM1 := hM.set 0 (cs' := ws (nw (s.he z.toNat - n))) rfl rfl
   refine oD 10 1 (sD 27 (pt N 0) (wn (s.he z.toNat - n)) (sto_wn hM.a0 _) (hM1.sub (.cons _ (.cons_cons _ (.cons_cons _ (.cons_cons _ .slnil))))) ?_)
   replace hS := hM1.sub (.cons _ (.cons_cons _ (.cons_cons _ (.cons_cons _ .slnil))))
   replace hM := hM1
   clear hM1
   generalize World.setRow _ _ _ = Y8 at *
   refine tD 0 [.v 11 11 (.bool (lessB (s.he z.toNat) n))] trivial hS ?_
   refine eD ?_
   clear hS
   go_wp2_with fail
   go_meet
   exact ⟨_, rfl, rfl, hM⟩
  ·
   refine rD (some 10) (pt Y5.heap.size 0) (Y5.alloc (.cells (ws (nw 0)).toArray 27)) (hS.other _) ?_
   replace hS := hS.other (.cells (ws (nw 0)).toArray 27)
   replace hM := hM.alloc 27 (ws (nw 0))
   generalize World.alloc _ _ = Y9 at *
   generalize Y5.heap.size = N at *
   refine oD 5 5 (cD (some 18) _ _ ((HS.out _).mono ?_))
   rintro e Y10 ⟨rfl, hb⟩
   refine And.intro (hS.below hb) ?_
   replace hS := hS.below hb
   replace hM := hM.below hb
   clear hb
   refine tD 2 [.v 6 12 (.tuple #[wn (s.he z.toNat - n), .bool (lessB (s.he z.toNat) n)]), .v 7 19 (wn (s.he z.toNat - n)), .v 8 20 (.bool (lessB (s.he z.toNat) n))] trivial hS ?_
   have hM1 := hM.set 0 (cs' := ws (nw (s.he z.toNat - n))) rfl rfl
   refine oD 10 1 (sD 27 (pt N 0) (wn (s.he z.toNat - n)) (sto_wn hM.a0 _) (hM1.sub (.cons _ (.cons_cons _ (.cons_cons _ (.cons_cons _ .slnil))))) ?_)
   replace hS := hM1.sub (.cons _ (.cons_cons _ (.cons_cons _ (.cons_cons _ .slnil))))
   replace hM := hM1
   clear hM1
   generalize World.setRow _ _ _ = Y11 at *
   refine tD 0 [.v 11 11 (.bool (lessB (s.he z.toNat) n))] trivial hS ?_
   refine eD ?_
   clear hS
   go_wp2_with fail
   go_meet
   exact ⟨_, rfl, rfl, hM⟩
 case rest =>
  obtain ⟨N, rfl, rfl, hM⟩ := hcut
  go_upto_region 2 with fail
  refine wp_region_fromM _ hM ?_
  clear hM
  rintro Y12 hM
  refine tF 1 [.v 0 21 (.bool false)] trivial ?_
  refine eF ?_
  by_cases hc : n ≤ s.he z.toNat
  case pos =>
   have HK := Lib.hid hc
   clear hc
   go_upto_region 4 with fail
   refine wp_region_fromM _ hM ?_
   clear hM
   rintro Y13 hM
   refine tF 1 [.a 0 31 (.bool (lessB (s.he z.toNat) n)) (.bool true)] ⟨cB (decide_eq_true HK.out), trivial⟩ ?_
   refine eF ?_
   go_upto_region 5 with fail
   refine wp_region_fromM _ hM ?_
   clear hM
   rintro Y14 hM
   refine tF 4 [.v 0 32 (.int .i64 z), .l 1 33 27 (pt N 0) (wn (s.he z.toNat - n)), .v 2 34 (pt P 138), .x 3 35 28 (pt P 138) (.int .i64 z) (pt P (138 + z.toNat * 4))] ⟨load_wn hM.a0, ridx_he hz, trivial⟩ ?_
   refine sF 27 (pt P (138 + z.toNat * 4)) (wn (s.he z.toNat - n)) (rsto_heO (s := s) hM.a3 (by omega) (s.he z.toNat - n)) ?_
   replace hM := hM.set 3 (cs' := stc { s with he := updB s.he z.toNat (s.he z.toNat - n) } v) rfl rfl
   generalize World.setRow _ _ _ = Y15 at *
   refine eF ?_
   go_upto_region 6 with fail
   refine wp_region_fromM _ hM ?_
   clear hM
   rintro Y16 hM
   refine tF 2 [.l 0 36 39 (pt P 0) (stv ({ s with he := updB s.he z.toNat (s.he z.toNat - n) }) (v)), .v 1 37 (.bool (lessB (s.he z.toNat) n))] ⟨rld_st (s := { s with he := updB s.he z.toNat (s.he z.toNat - n) }) hM.a3, trivial⟩ ?_
   refine sF 39 (pt R 0) (stv ({ s with he := updB s.he z.toNat (s.he z.toNat - n) }) (v)) (rsto_st hM.a1 (stc_len _ _) ({ s with he := updB s.he z.toNat (s.he z.toNat - n) }) hv) ?_
   replace hM := hM.set 1 (cs' := stc ({ s with he := updB s.he z.toNat (s.he z.toNat - n) }) v) rfl rfl
   generalize World.setRow _ _ _ = Y17 at *
   refine tF 4 [.v 3 9 (.bool (lessB (s.he z.toNat) n))] trivial ?_
   refine eF ?_
   go_wp2_with fail
   refine bodyPost_ret (v := .tuple #[stv ({ s with he := updB s.he z.toNat (s.he z.toNat - n) }) v, .bool (lessB (s.he z.toNat) n)]) (res_two rfl _ rfl rfl (rlv_st hM.a1)) rfl ⟨?_, hM.b⟩
   rw [shrink_yes HK.out, show lessB (s.he z.toNat) n = true from decide_eq_true HK.out]
   rfl
  have HK := Lib.hid hc
  clear hc
  go_upto_region 4 with fail
  refine wp_region_fromM _ hM ?_
  clear hM
  rintro Y18 hM
  refine tF 1 [.a 0 31 (.bool (lessB (s.he z.toNat) n)) (.bool false)] ⟨cB (decide_eq_false HK.out), trivial⟩ ?_
  refine eF ?_
  go_upto_region 6 with fail
  refine wp_region_fromM _ hM ?_
  clear hM
  rintro Y19 hM
  refine tF 2 [.l 0 36 39 (pt P 0) (stv (s) (v)), .v 1 37 (.bool (lessB (s.he z.toNat) n))] ⟨rld_st (s := s) hM.a3, trivial⟩ ?_
  refine sF 39 (pt R 0) (stv (s) (v)) (rsto_st hM.a1 (stc_len _ _) (s) hv) ?_
  replace hM := hM.set 1 (cs' := stc (s) v) rfl rfl
  generalize World.setRow _ _ _ = Y20 at *
  refine tF 4 [.v 3 9 (.bool (lessB (s.he z.toNat) n))] trivial ?_
  refine eF ?_
  go_wp2_with fail
  refine bodyPost_ret (v := .tuple #[stv (s) v, .bool (lessB (s.he z.toNat) n)]) (res_two rfl _ rfl rfl (rlv_st hM.a1)) rfl ⟨?_, hM.b⟩
  rw [shrink_no HK.out, show lessB (s.he z.toNat) n = false from decide_eq_false HK.out]
  rfl
set_option maxRecDepth 100000 in
set_option maxHeartbeats 4000000 in
theorem refPlace_any (l : List Lk) (v : Value) (k : ByteArray) (w : World) {lo hi : Nat} (hl : RSl lkc lo hi w v l) :
  Calls Tryz.prog 50 #[v, .string k] w fun e W' => e = .returned (.int .i64 (placeI l k)) ∧ W' = w := by
 have HE := Lib.hid (fun k x (hx : l[k]? = some x) => hl.elem lkc_len hx Tryz.underlying37 (fun W => by kernel_rfl))
 have hmax := hl.len
 obtain ⟨a, c, rfl⟩ := hl.slice
 have HL := Lib.hid hl
 clear hl
 unfold maxLen at hmax
 go_enter Tryz.func50, Tryz.ntmps50
 go_wp2
 go_loop [5] (fun i => ∃ j : Nat, j ≤ l.length ∧ i = .int .i64 (j : Nat) ∧ ∀ (n : Nat) (y : Lk), n < j → l[n]? = some y → y.ke ≠ k) (fun i => l.length - (intOf i).toNat)
 case atStart => exact ⟨0, Nat.zero_le _, rfl, fun n y h => absurd h (Nat.not_lt_zero n)⟩
 case round =>
  obtain ⟨j, hj, rfl, hno⟩ := hrel
  have HN := Lib.hid hno
  clear hno
  by_cases hlt : j < l.length
  ·
   obtain ⟨x, hx⟩ : ∃ x, l[j]? = some x := ⟨_, List.getElem?_eq_getElem hlt⟩
   obtain ⟨b, o, _, _, hi', hc⟩ := HE.out j x hx
   have HX := Lib.hid hx
   have HI := Lib.hid hi'
   have HC := Lib.hid hc
   clear hx hi' hc
   have hlt' : (j : Int) < (l.length : Int) := by omega
   go_upto_region 4 with fail
   refine wp_region_from ?_
   refine tF 7 [.v 0 12 (.slice a l.length c), .v 1 13 (.int .i64 (j : Int)), .x 2 14 37 (.slice a l.length c) (.int .i64 (j : Int)) (pt b o), .v 3 15 (pt b o), .l 4 16 9 (pt b o) (.string x.ke), .v 5 17 (.string k), .a 6 18 (.bool (x.ke.toList == k.toList)) (.bool (decide (x.ke = k)))] ⟨HI.out _, ld_cell _ _ Tryz.underlying9 rfl (HC.out _ HL.out 0 _ rfl), cB (beqB _ _), trivial⟩ ?_
   refine eF ?_
   by_cases hk : x.ke = k
   ·
    have hd := decide_eq_true hk
    have HK1 := Lib.hid hk
    clear hk
    rw [hd]
    go_wp2_with fail
    go_ret
    refine ⟨?_, rfl⟩
    rw [placeI_some (place_at HX.out HK1.out HN.out)]
    rfl
   ·
    have hd := decide_eq_false hk
    have HK1 := Lib.hid hk
    clear hk
    rw [hd]
    go_wp2_with fail
    go_round
    case rel =>
     refine ⟨j + 1, by omega, by go_num, fun n y hn hy => ?_⟩
     rcases Nat.lt_succ_iff_lt_or_eq.1 hn with h | rfl
     ·
      exact HN.out n y h hy
     ·
      obtain rfl : x = y := by have := HX.out; rw [hy] at this; exact (Option.some.inj this).symm
      exact HK1.out
    case measure => simp [intOf]; omega
  ·
   obtain rfl : j = l.length := by omega
   go_wp2
   go_ret
   refine ⟨?_, rfl⟩
   rw [placeI_none (place_not fun n y hy => HN.out n y (List.getElem?_eq_some_iff.1 hy).1 hy)]
   rfl
set_option maxRecDepth 100000 in
set_option maxHeartbeats 4000000 in
theorem refSigned_any (t : Tr) (ht : OkT t) (a : Int) (w : World) :
  Calls Tryz.prog 73 #[txv t, .int .i64 a] w fun e W' => e = .returned (.bool (signB t a)) ∧ Below w.heap.size w W' := by
 have hmx : Tryz.prog.follows .mixedOrders = true := by kernel_rfl
 have hM := (Mem.start w).allocN rfl 50 (txc t)
 go_enter Tryz.func73, Tryz.ntmps73
 go_upto_region 1 with fail
 refine wp_region_M (fun W => Mem w none [(w.heap.size, 50, txc t)] W) (fun W => Mem w none [(w.heap.size, 50, txc t)] W) hmx hM.drew ?_
 clear hM
 rintro Y1 hM
 have hS := hM.sub (.cons_cons _ .slnil)
 refine tD 8 [.v 0 8 (pt w.heap.size 8), .v 1 9 (pt w.heap.size 9), .l 2 10 9 (pt w.heap.size 9) (.string t.iv.rt), .v 3 11 (.int .i64 a), .v 4 12 (pt w.heap.size 8), .l 5 13 46 (pt w.heap.size 8) (ivv t.iv), .v 7 15 (pt w.heap.size 20), .l 8 16 27 (pt w.heap.size 20) (wv t.f0 t.f1 t.f2 t.f3), .v 10 18 (pt w.heap.size 24), .l 11 19 9 (pt w.heap.size 24) (.string t.sg)] ⟨fun W h => ld_str h.a0 9 rfl, fun W h => ld_iv h.a0, fun W h => load_part h.a0 20 [.int .u64 (t.f0 : Nat), .int .u64 (t.f1 : Nat), .int .u64 (t.f2 : Nat), .int .u64 (t.f3 : Nat)] rfl _ _ Tryz.underlying27 rfl (by kernel_rfl), fun W h => ld_str h.a0 24 rfl, trivial⟩ hS ?_
 refine oD 6 7 (cD (some 14) 23 #[ivv t.iv] ((refKey_any _ _).mono ?_))
 rintro e W1 ⟨rfl, hb⟩
 refine And.intro (hS.below hb) ?_
 replace hS := hS.below hb
 replace hM := hM.below hb
 clear hb
 refine oD 9 6 (cD (some 17) 106 #[.int .i64 a, .string (keyB t.iv), wv t.f0 t.f1 t.f2 t.f3] ((refPayload_any _ _ ht.f _).mono ?_))
 rintro e W2 ⟨pv, rfl, hsl, hb⟩
 refine And.intro (hS.below hb) ?_
 replace hS := hS.below hb
 replace hM := hM.below hb
 clear hb
 refine oD 12 5 (cD (some 20) 105 #[.string t.iv.rt, pv, .string t.sg] ((refVerifyB_any _ _ _ _ (pay_le _ _ _ _ _ _) _ hsl).mono ?_))
 rintro e W3 ⟨n, rfl, hb⟩
 refine And.intro (hS.below hb) ?_
 replace hS := hS.below hb
 replace hM := hM.below hb
 clear hb
 refine tD 0 [.v 13 7 (.tuple #[.int .i64 n, .bool (verB t.iv.rt (payL a (keyB t.iv) t.f0 t.f1 t.f2 t.f3) t.sg)]), .v 14 21 (.int .i64 n), .v 15 22 (.bool (verB t.iv.rt (payL a (keyB t.iv) t.f0 t.f1 t.f2 t.f3) t.sg)), .v 16 5 (.int .i64 n), .v 17 6 (.bool (verB t.iv.rt (payL a (keyB t.iv) t.f0 t.f1 t.f2 t.f3) t.sg))] trivial hS ?_
 refine eD ?_
 clear hS
 go_wp2_with fail
 go_ret
 exact ⟨rfl, hM.b⟩
set_option maxRecDepth 100000 in
set_option maxHeartbeats 4000000 in
theorem refOpen_esc (s : Es) (v : Value) (t : Tr) (ht : OkT t) (w : World) {lo hi : Nat} (hl : RSl lkc lo hi w v s.lk) (hhi : hi ≤ w.heap.size) :
  Calls Tryz.prog 72 #[stv s v, txv t] w fun e W' => e = .returned (.tuple #[.int .i64 ((openE orcB s t).1 : Int), .int .i64 (openE orcB s t).2]) ∧ Below w.heap.size w W' := by
 have hmx : Tryz.prog.follows .mixedOrders = true := by kernel_rfl
 have HL := Lib.hid hl
 clear hl
 have hM := Mem.start w
 go_enter Tryz.func72, Tryz.ntmps72
 go_upto_region 0 with fail
 refine wp_region_fromM (fun W => Mem w none [] W) hM ?_
 clear hM
 rintro Y1 hM
 refine rF (some 2) (pt Y1.heap.size 0) (Y1.alloc (.cells (stc s v).toArray 39)) ?_
 replace hM := hM.alloc 39 (stc s v)
 generalize World.alloc _ _ = Y2 at *
 generalize hNe : Y1.heap.size = P at *
 clear hNe
 refine rF (some 3) (pt Y2.heap.size 0) (Y2.alloc (.cells (txc t).toArray 50)) ?_
 replace hM := hM.alloc 50 (txc t)
 generalize World.alloc _ _ = Y3 at *
 generalize hNe : Y2.heap.size = X at *
 clear hNe
 refine tF 4 [.v 2 4 (.int .i64 0), .v 3 5 (.int .i64 0)] trivial ?_
 refine eF ?_
 go_upto_region 1 with fail
 refine wp_region_M (fun W => Mem w none [(X, 50, txc t), (P, 39, stc s v)] W) (fun W => Mem w none [(X, 50, txc t), (P, 39, stc s v)] W) hmx hM.drew ?_
 clear hM
 rintro Y4 hM
 have hS := hM.sub (.cons_cons _ (.cons_cons _ .slnil))
 refine tD 3 [.v 0 7 (pt P 150), .l 1 8 37 (pt P 150) (v), .v 2 9 (pt X 8), .l 3 10 46 (pt X 8) (ivv t.iv)] ⟨fun W h => rld_lk (s := s) h.a1, fun W h => ld_iv h.a0, trivial⟩ hS ?_
 refine oD 4 2 (cD (some 11) 23 #[ivv t.iv] ((refKey_any _ _).mono ?_))
 rintro e W1 ⟨rfl, hb⟩
 refine And.intro (hS.below hb) ?_
 replace hS := hS.below hb
 replace hM := hM.below hb
 clear hb
 refine oD 5 1 (cD (some 12) 50 #[v, .string (keyB t.iv)] ((refPlace_any s.lk v (keyB t.iv) _ (HL.out.below hM.b hhi)).mono ?_))
 rintro e W2 ⟨rfl, rfl⟩
 refine And.intro (hS) ?_
 refine tD 0 [.v 6 6 (.int .i64 (placeI s.lk (keyB t.iv)))] trivial hS ?_
 refine eD ?_
 clear hS
 cases hp : placeE s.lk (keyB t.iv) with
 | none =>
  have HP := Lib.hid hp
  clear hp
  go_upto_region 2 with fail
  refine wp_region_fromM _ hM ?_
  clear hM
  rintro Y5 hM
  refine tF 11 [.v 0 13 (.int .i64 (placeI s.lk (keyB t.iv))), .a 1 14 (.bool (decide (placeI s.lk (keyB t.iv) < 0))) (.bool true), .v 2 15 (.bool true), .skip 3 (some 16), .skip 4 (some 17), .skip 5 (some 18), .skip 6 (some 19), .skip 7 (some 20), .skip 8 (some 21), .skip 9 (some 22), .v 10 23 (.bool true)] ⟨cB (by rw [placeI_none HP.out]; rfl), trivial⟩ ?_
  refine eF ?_
  go_upto_region 3 with fail
  refine wp_region_fromM _ hM ?_
  clear hM
  rintro Y6 hM
  refine tF 2 [.v 0 4 (.int .i64 0), .v 1 5 (.int .i64 32)] trivial ?_
  refine eF ?_
  go_wp2_with fail
  go_ret2
  exact ⟨by rw [openE_none HP.out]; rfl, hM.b⟩
 | some i =>
  obtain ⟨_, ⟨x, hx, _⟩, _⟩ := place_some hp
  have HP := Lib.hid hp
  have HX := Lib.hid hx
  obtain ⟨b, o, _, _, hi', hc⟩ := HL.out.elem lkc_len hx Tryz.underlying37 (fun W => by kernel_rfl)
  have HI := Lib.hid hi'
  have HC := Lib.hid hc
  clear hp hx hi' hc
  rw [placeI_some HP.out]
  by_cases hst : x.st = 1
  case pos =>
   have H1 := Lib.hid hst
   clear hst
   go_upto_region 2 with fail
   refine wp_region_fromM _ hM ?_
   clear hM
   rintro Y7 hM
   refine tF 11 [.v 0 13 (.int .i64 (i : Int)), .a 1 14 (.bool (decide ((i : Int) < 0))) (.bool false), .v 2 15 (.bool false), .v 3 16 (pt P 150), .l 4 17 37 (pt P 150) (v), .v 5 18 (.int .i64 (i : Int)), .x 6 19 37 (v) (.int .i64 (i : Int)) (pt b o), .v 7 20 (pt b (o + 2)), .l 8 21 3 (pt b (o + 2)) (.int .i64 x.st), .a 9 22 (.bool (x.st != 1)) (.bool false), .v 10 23 (.bool false)] ⟨cB (decide_eq_false (by omega)), rld_lk (s := s) hM.a1, HI.out _, ld_cell _ _ Tryz.underlying3 rfl (HC.out _ (HL.out.below hM.b hhi) 2 _ rfl), cB (by rw [H1.out]; rfl), trivial⟩ ?_
   refine eF ?_
   go_upto_region 4 with fail
   refine wp_region_M (fun W => Mem w none [(X, 50, txc t), (P, 39, stc s v)] W) (fun W => Mem w none [(X, 50, txc t), (P, 39, stc s v)] W) hmx hM.drew ?_
   clear hM
   rintro Y8 hM
   have hS := hM.sub (.cons_cons _ (.cons_cons _ .slnil))
   refine tD 2 [.v 0 24 (pt P 150), .l 1 25 37 (pt P 150) (v), .v 2 26 (.int .i64 (i : Int)), .x 3 27 37 (v) (.int .i64 (i : Int)) (pt b o), .v 4 28 (pt b (o + 1)), .l 5 29 9 (pt b (o + 1)) (.string x.dg), .v 6 30 (pt X 8), .l 7 31 46 (pt X 8) (ivv t.iv), .v 8 32 (pt X 15), .l 9 33 48 (pt X 15) (svv t.vr)] ⟨fun W h => rld_lk (s := s) h.a1, fun W h => HI.out _, fun W h => ld_cell _ _ Tryz.underlying9 rfl (HC.out _ (HL.out.below h.b hhi) 1 _ rfl), fun W h => ld_iv h.a0, fun W h => ld_vr h.a0, trivial⟩ hS ?_
   refine oD 10 1 (cD (some 34) 71 #[ivv t.iv, svv t.vr] ((refDigest_any _ _ ht.v _).mono ?_))
   rintro e W1 ⟨rfl, hb⟩
   refine And.intro (hS.below hb) ?_
   replace hS := hS.below hb
   replace hM := hM.below hb
   clear hb
   refine tD 0 [.a 11 35 (.bool (!(x.dg.toList == (digB t.iv t.vr).toList))) (.bool (!decide (x.dg = digB t.iv t.vr)))] ⟨congrArg (fun z => Value.bool (!z)) (beqB _ _), trivial⟩ hS ?_
   refine eD ?_
   clear hS
   by_cases hdg : x.dg = digB t.iv t.vr
   case pos =>
    have H2 := Lib.hid hdg
    clear hdg
    rw [decide_eq_true H2.out]
    go_upto_region 6 with fail
    refine wp_region_fromM _ hM ?_
    clear hM
    rintro Y9 hM
    refine tF 3 [.v 0 36 (.int .i64 (i : Int)), .v 1 4 (.int .i64 (i : Int)), .v 2 5 (.int .i64 0)] trivial ?_
    refine eF ?_
    go_wp2_with fail
    go_ret2
    exact ⟨by rw [openE_ok HP.out HX.out H1.out H2.out]; rfl, hM.b⟩
   have H2 := Lib.hid hdg
   clear hdg
   rw [decide_eq_false H2.out]
   go_upto_region 5 with fail
   refine wp_region_fromM _ hM ?_
   clear hM
   rintro Y10 hM
   refine tF 2 [.v 0 4 (.int .i64 0), .v 1 5 (.int .i64 33)] trivial ?_
   refine eF ?_
   go_wp2_with fail
   go_ret2
   exact ⟨by rw [openE_dg HP.out HX.out H1.out H2.out]; rfl, hM.b⟩
  have H1 := Lib.hid hst
  clear hst
  go_upto_region 2 with fail
  refine wp_region_fromM _ hM ?_
  clear hM
  rintro Y11 hM
  refine tF 11 [.v 0 13 (.int .i64 (i : Int)), .a 1 14 (.bool (decide ((i : Int) < 0))) (.bool false), .v 2 15 (.bool false), .v 3 16 (pt P 150), .l 4 17 37 (pt P 150) (v), .v 5 18 (.int .i64 (i : Int)), .x 6 19 37 (v) (.int .i64 (i : Int)) (pt b o), .v 7 20 (pt b (o + 2)), .l 8 21 3 (pt b (o + 2)) (.int .i64 x.st), .a 9 22 (.bool (x.st != 1)) (.bool true), .v 10 23 (.bool true)] ⟨cB (decide_eq_false (by omega)), rld_lk (s := s) hM.a1, HI.out _, ld_cell _ _ Tryz.underlying3 rfl (HC.out _ (HL.out.below hM.b hhi) 2 _ rfl), cB (bne_iff_ne.2 H1.out), trivial⟩ ?_
  refine eF ?_
  go_upto_region 3 with fail
  refine wp_region_fromM _ hM ?_
  clear hM
  rintro Y12 hM
  refine tF 2 [.v 0 4 (.int .i64 0), .v 1 5 (.int .i64 32)] trivial ?_
  refine eF ?_
  go_wp2_with fail
  go_ret2
  exact ⟨by rw [openE_st HP.out HX.out H1.out]; rfl, hM.b⟩
abbrev OwnM (b0 : Nat) (W : World) (v : Value) (l : List Lk) : Prop := W.ownsRow b0 71 3 v l.length (flatR lkc l)
theorem OwnM.rsl {b0 : Nat} {W : World} {v : Value} {l : List Lk} (h : OwnM b0 W v l) : RSl lkc b0 W.heap.size W v l := RSl.of_own lkc_len h
theorem OwnM.grown {b0 B : Nat} {w W : World} {v : Value} {l : List Lk} (h : OwnM b0 w v l) (hB : B < b0) (hg : w.grownBy W (some B)) : OwnM b0 W v l := by
 refine h.kept hg ?_
 cases hv : v.ownBlock with
 | none => exact .inl rfl
 | some k =>
  refine .inr fun e => ?_
  cases e
  have := (h.lt _ hv).1
  omega
theorem OwnM.one {b0 : Nat} {W : World} {v : Value} {l : List Lk} (h : OwnM b0 W v l) : v.oneCell' = true ∧ v.cells.toList = [v] := by
 rcases h.2 with ⟨rfl, _⟩ | ⟨g, cap, cur, rfl, _⟩ <;> exact ⟨rfl, rfl⟩
theorem rown_append {b0 : Nat} {W : World} {v : Value} {l : List Lk} (h : OwnM b0 W v l) (hb : b0 ≤ W.heap.size) (x : Lk) {N : Nat} {T : TypeId} (hN : Blk W N T (lkc x)) (hr : (l.length + 1) * 40 ≤ 140737488355328) (ty : TypeId) :
  ∃ v' W', (Builtin.append_ #[37, 37] ty #[v, .slice (some ⟨N, 0, none⟩) 1 1]).run Tryz.prog W = .ok v' W' ∧ OwnM b0 W' v' (l ++ [x]) ∧ W.grownBy W' v.ownBlock := by
 have hi0 : (Tryz.prog.info? 71).map (fun i => (i.zero, i.size, i.bytes)) = some (some (.agg #[.string ⟨#[]⟩, .string ⟨#[]⟩, .int .i64 0]), 3, 40) := by kernel_rfl
 obtain ⟨i0, hi, hz0, hz1, hz2⟩ := info_parts hi0
 obtain ⟨v', W', hrun, h1, h2, _⟩ := run_append_own (P := Tryz.prog) W b0 37 ty 71 i0 _ 3 40 Tryz.underlying37 hi hz0 hz1 hz2 rfl (by decide) v l.length (flatR lkc l) h ⟨N, 0, none⟩ 1 1 (lkc x) rfl
  (fun j u hu => by rw [addr_add, Nat.zero_add]; exact (hN.cell j).trans hu) (by unfold lkc; simp [Value.oneCell']) (by unfold maxLen; omega) hr hb
 refine ⟨v', W', hrun, ?_, h2⟩
 unfold OwnM
 rw [List.length_append, flat_app, flat_one]
 exact h1
theorem rown_end {b0 : Nat} {W : World} {v : Value} {l : List Lk} (h : OwnM b0 W v l) {i : Nat} {x : Lk} (hx : l[i]? = some x) (st : Int) :
  ∃ g o W', (∀ W', (Instr.indexAt 37 v (.int .i64 (i : Int))).run Tryz.prog W' = .ok (.pointer (some ⟨g, o, none⟩)) W') ∧ (Instr.storeAt 3 (.pointer (some ⟨g, o + 2, none⟩)) (.int .i64 st)).run Tryz.prog W = .ok () W' ∧ b0 ≤ g ∧ W.grownBy W' (some g) ∧ OwnM b0 W' v (endE l i st) := by
 have hk : i < l.length := (List.getElem?_eq_some_iff.1 hx).1
 obtain ⟨hlen, ⟨_, h0⟩ | ⟨g, cap, cur, rfl, hg, hc, hn, hm, hsz, ht⟩⟩ := h
 ·
  omega
 ·
  have hB : Blk W g 71 cur.toList := hc
  have hlc : i * 3 + 2 < cur.toList.length := by rw [Array.length_toList, hsz]; omega
  have hset := laid_one cur.toList (i * 3 + 2) (.int .i64 st) hlc
  refine ⟨g, i * 3, W.setRow g (cur.toList.set (i * 3 + 2) (.int .i64 st)).toArray, fun W' => ?_, sto_part _ hB (i * 3 + 2) _ _ [.int .i64 st] rfl (by kernel_rfl) (Nat.succ_le_of_lt hlc) rfl hset, hg, grownBy_row W g _, ?_⟩
  ·
   have := idx_sl (W := W') (b := g) (off := 0) (len := l.length) (cap := cap) (c := 3) Tryz.underlying37 (by kernel_rfl) hk
   rw [Nat.zero_add] at this
   exact this
  ·
   have hB' := hB.row (cur.toList.set (i * 3 + 2) (.int .i64 st))
   have hfs := flat_set lkc_len (v := .int .i64 st) (y := { x with st := st }) hx (show 2 < 3 by decide) rfl
   unfold OwnM
   rw [end_len, end_at hx, ← hfs, ← ht]
   refine ⟨by rw [List.length_set, ht, hlen], .inr ⟨g, cap, (cur.toList.set (i * 3 + 2) (.int .i64 st)).toArray, rfl, hg, hB', hn, hm, by simp [hsz], ?_⟩⟩
   rw [List.toList_toArray, List.take_set]
theorem OwnM.low {b b' : Nat} {W : World} {v : Value} {l : List Lk} (h : OwnM b W v l) (hb : b' ≤ b) : OwnM b' W v l := by
 refine ⟨h.1, ?_⟩
 rcases h.2 with h0 | ⟨g, cap, cur, e, hg, r⟩
 ·
  exact .inl h0
 ·
  exact .inr ⟨g, cap, cur, e, Nat.le_trans hb hg, r⟩
theorem OwnM.below {b : Nat} {W W' : World} {v : Value} {l : List Lk} (h : OwnM b W v l) (hb : Below W.heap.size W W') : OwnM b W' v l :=
 h.kept (row := none) ⟨hb.os, hb.tape, hb.output, hb.size, fun k hk _ => hb.block k hk⟩ (by cases v.ownBlock <;> simp)
theorem OwnM.row {b B : Nat} {W : World} {v : Value} {l : List Lk} (h : OwnM b W v l) (hne : ∀ k, v.ownBlock = some k → k ≠ B) (cs : Array Value) : OwnM b (W.setRow B cs) v l := by
 refine h.kept (grownBy_row W B cs) ?_
 cases hv : v.ownBlock with
 | none => exact .inl rfl
 | some k => exact .inr fun e => hne k hv (Option.some.inj e)
theorem rapp_all {l : List Lk} {v : Value} {w : World} {lo hi : Nat} (hl : RSl lkc lo hi w v l) (hhi : hi ≤ w.heap.size) (hr : l.length * 40 ≤ 140737488355328) (W : World) (hW : Below w.heap.size w W) :
  ∃ v' W', (Builtin.append_ #[37, 37] 37 #[.slice (some ⟨W.heap.size, 0, none⟩) 0 0, v]).run Tryz.prog (W.alloc (.cells #[] 71)) = .ok v' W' ∧ OwnM W.heap.size W' v' l ∧ Below W.heap.size W W' := by
 have hown : OwnM W.heap.size (W.alloc (.cells #[] 71)) (.slice (some ⟨W.heap.size, 0, none⟩) 0 0) [] := World.ownsRow_lit W #[] 0 (Nat.le_refl _) (by unfold maxLen; omega) rfl
 have hb1 := chain0 W (.cells #[] 71)
 have hl1 := (hl.below hW hhi).below hb1 (Nat.le_trans hhi hW.size)
 obtain ⟨a, cap, rfl, _, _, h0⟩ := hl
 rcases a with _ | ad
 ·
  have hn : l = [] := by
   rcases h0 with h0 | ⟨_, _, h, _⟩
   ·
    exact h0
   ·
    cases h
  subst hn
  exact ⟨_, _, by kernel_rfl, hown, hb1⟩
 ·
  have hi0 : (Tryz.prog.info? 71).map (fun i => (i.zero, i.size, i.bytes)) = some (some (.agg #[.string ⟨#[]⟩, .string ⟨#[]⟩, .int .i64 0]), 3, 40) := by kernel_rfl
  obtain ⟨i0, hi, hz0, hz1, hz2⟩ := info_parts hi0
  have hlm := hl1.len
  obtain ⟨v', W', hrun, hO, hg, _⟩ := run_append_own (P := Tryz.prog) (W.alloc (.cells #[] 71)) W.heap.size 37 37 71 i0 _ 3 40 Tryz.underlying37 hi hz0 hz1 hz2 rfl (by decide) _ 0 [] hown ad l.length cap (flatR lkc l) (flat_len lkc_len l) hl1.cells (by
   intro u hu
   obtain ⟨y, _, hy⟩ := List.mem_flatMap.1 hu
   have h3 : u = .string y.ke ∨ u = .string y.dg ∨ u = .int .i64 y.st := by unfold lkc at hy; simpa using hy
   rcases h3 with rfl | rfl | rfl <;> rfl) (by rw [Nat.zero_add]; exact hlm) (by rw [Nat.zero_add]; exact hr) hb1.size
  refine ⟨v', W', hrun, ?_, hb1.grown hg hb1.size (fun k e => by have : W.heap.size = k := Option.some.inj e; omega)⟩
  unfold OwnM
  rw [Nat.zero_add, List.nil_append] at hO
  exact hO
theorem rres_st {fn : Func} {p : Tmp} (h : fn.results = #[.cell p 39]) (tmps : Array Value) {w : World} {g : Nat} {T : TypeId} {s : Es} {v : Value} (hp : tmps.getD p undef = .pointer (some ⟨g, 0, none⟩)) (hg : Blk w g T (stc s v)) :
  (results fn tmps).run Tryz.prog w = .ok (stv s v) w :=
 results_cell_row h tmps w g T (stc s v).toArray (0, 0) _ hp hg Tryz.underlying39 rfl (by rw [List.size_toArray, stc_len]; exact rinfo_st)
def EndedR (s : Es) (l : List Lk) (w : World) (e : Ending) (W' : World) : Prop := ∃ v', e = .returned (stv s v') ∧ OwnM w.heap.size W' v' l ∧ Below w.heap.size w W'
set_option maxRecDepth 100000 in
set_option maxHeartbeats 4000000 in
theorem refEnded_any (s : Es) (v : Value) (i : Nat) (st : Int) {x : Lk} (hx : s.lk[i]? = some x) (w : World) {lo hi : Nat} (hl : RSl lkc lo hi w v s.lk) (hhi : hi ≤ w.heap.size) (hr : s.lk.length * 40 ≤ 140737488355328) :
  Calls Tryz.prog 75 #[stv s v, .int .i64 (i : Int), .int .i64 st] w (EndedR s (endE s.lk i st) w) := by
 have HL := Lib.hid hl
 have HX := Lib.hid hx
 clear hl hx
 have hM := Mem.start w
 go_enter Tryz.func75, Tryz.ntmps75
 go_upto_region 0 with fail
 refine wp_region_fromM (fun W => Mem w none [] W) hM ?_
 clear hM
 rintro Y1 hM
 refine rF (some 3) (pt Y1.heap.size 0) (Y1.alloc (.cells (stc s v).toArray 39)) ?_
 replace hM := hM.alloc 39 (stc s v)
 generalize World.alloc _ _ = Y2 at *
 generalize hNe : Y1.heap.size = P at *
 clear hNe
 refine rF (some 6) (pt Y2.heap.size 0) (Y2.alloc (.cells (stc zS nilV).toArray 39)) ?_
 replace hM := hM.alloc 39 (stc zS nilV)
 generalize World.alloc _ _ = Y3 at *
 generalize hNe : Y2.heap.size = R at *
 clear hNe
 refine eF ?_
 go_upto_region 1 with fail
 refine wp_region_fromM _ hM ?_
 clear hM
 rintro Y4 hM
 obtain ⟨v1, W1, hrun, hO, hb⟩ := rapp_all HL.out hhi hr Y4 hM.b
 have hP := hM.a1.lt
 have hR := hM.a0.lt
 have hsz := hM.size
 have hwR : w.heap.size ≤ R := hM.ge 0 rfl (by simp)
 have hM1 := hM.other (.cells #[] 71)
 refine rF (some 7) (.slice (some ⟨Y4.heap.size, 0, none⟩) 0 0) (Y4.alloc (.cells #[] 71)) ?_
 have hM0 := hM
 replace hM := hM1
 clear hM1
 refine tF 3 [.v 1 8 (pt P 150), .l 2 9 37 (pt P 150) (v)] ⟨rld_lk (s := s) hM.a1, trivial⟩ ?_
 refine wpFrom_append (d := some 10) (t := 37) (t' := 37) (ty := 37) (v := .slice (some ⟨Y4.heap.size, 0, none⟩) 0 0) (x := v) (by kernel_rfl) hrun ?_
 replace hM := hM0.below hb
 clear hM0 hb hrun
 refine tF 5 [.v 4 11 (pt P 150)] trivial ?_
 have hO1 := OwnM.grown hO hP (grownBy_row W1 P (stc s v1).toArray)
 refine sF 37 (pt P 150) (v1) (rsto_lk hM.a1 (OwnM.one hO).1 (OwnM.one hO).2) ?_
 replace hM := hM.set 1 (cs' := stc s v1) rfl rfl
 generalize World.setRow _ _ _ = Y5 at *
 refine eF ?_
 clear hO
 go_upto_region 2 with fail
 refine wp_region_fromM (fun W => Mem w none [(R, 39, stc zS nilV), (P, 39, stc s v1)] W ∧ OwnM Y4.heap.size W v1 s.lk) ⟨hM, hO1⟩ ?_
 clear hM hO1
 rintro Y6 ⟨hM, hO1⟩
 obtain ⟨g, o, W2, hi', hst, hg, hgr, hO2⟩ := rown_end hO1 HX.out st
 have HI := Lib.hid hi'
 clear hi'
 refine tF 6 [.v 0 12 (pt P 150), .l 1 13 37 (pt P 150) (v1), .v 2 14 (.int .i64 (i : Int)), .v 3 15 (.int .i64 st), .x 4 16 37 (v1) (.int .i64 (i : Int)) (pt g o), .v 5 17 (pt g (o + 2))] ⟨rld_lk (s := s) hM.a1, HI.out _, trivial⟩ ?_
 refine sF 3 (pt g (o + 2)) (.int .i64 st) (hst) ?_
 have hB2 := hM.a1.kept hgr (fun e => by have := Option.some.inj e; omega)
 have hR2 := hM.a0.kept hgr (fun e => by have := Option.some.inj e; omega)
 have hbl : Below w.heap.size w W2 := hM.b.grown hgr hM.b.size (fun e he => by cases he; omega)
 clear hM hO1
 refine eF ?_
 go_upto_region 3 with fail
 refine wp_region_from ?_
 refine tF 1 [.l 0 18 39 (pt P 0) (stv s v1)] ⟨rld_st hB2, trivial⟩ ?_
 have hg3 := grownBy_row W2 R (stc s v1).toArray
 have hO3 := OwnM.grown hO2 hR hg3
 refine sF 39 (pt R 0) (stv s v1) (rsto_st hR2 (stc_len _ _) s (OwnM.one hO2).1) ?_
 have hR3 := hR2.row (stc s v1)
 have hbl3 := hbl.grown hg3 hbl.size (fun e he => by cases he; have := hwR; omega)
 generalize W2.setRow R (stc s v1).toArray = W3 at *
 refine eF ?_
 clear hg3
 go_wp2_with fail
 exact bodyPost_ret (v := stv s v1) (rres_st rfl _ rfl hR3) rfl ⟨v1, rfl, OwnM.low hO3 hsz, hbl3⟩
theorem RSl.one {α : Type} {f : α → List Value} {lo hi : Nat} {W : World} {v : Value} {l : List α} (h : RSl f lo hi W v l) : v.oneCell' = true := by obtain ⟨a, c, rfl⟩ := h.slice; rfl
theorem RSl.all {α : Type} {f : α → List Value} {lo hi : Nat} {w W : World} {v : Value} {l : List α} (h : RSl f lo hi w v l) (hhi : hi ≤ w.heap.size) (hb : Below w.heap.size w W) : RSl f 0 W.heap.size W v l := (h.below hb hhi).mono (Nat.zero_le _) (Nat.le_trans hhi hb.size)
theorem Mem.own {w W W' : World} {l : List MB} {row : Option Nat} (h : Mem w none l W) (hg : W.grownBy W' row) (hr : ∀ k, row = some k → w.heap.size ≤ k ∧ ∀ x ∈ l, x.1 ≠ k) : Mem w none l W' :=
 ⟨fun x hx => ⟨(h.1 x hx).1.kept hg (fun e => (hr _ e.symm).2 x hx rfl), (h.1 x hx).2⟩, h.2.1, ⟨hg.os.trans h.2.2.os, hg.tape.trans h.2.2.tape, hg.output.trans h.2.2.output, Nat.le_trans h.2.2.size hg.size, fun k hk _ => (hg.block k (Nat.lt_of_lt_of_le hk h.2.2.size) (fun e => by have := (hr k e.symm).1; omega)).trans (h.2.2.block k hk (by simp))⟩⟩
end Go.Proofs.YthhmdgmmeedhdaaGreat
