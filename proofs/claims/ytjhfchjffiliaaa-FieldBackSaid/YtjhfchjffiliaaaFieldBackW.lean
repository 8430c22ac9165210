/-
  The walk of FieldBack: fields that can be put come back, and nothing is left.
-/
import Derived.Test.YtjhfchjffiliaaaFieldBackF
import Derived.Test.YtjhfchjffiliaaaFieldOutAll
import Derived.Test.YtjhfchjffiliaaaFieldAlive
import Derived.Test.YtjhfchjffiliaaaHeldMono
import Derived.Test.YtjhfchjffiliaaaWideEq
namespace Go.Proofs.Ytjhfchjffiliaaa
open Go.RowKit Go.Shelf

theorem encL_drop {l : List Fld} {k : Nat} {f : Fld} (h : l[k]? = some f) : encL (l.drop k) = encF f ++ encL (l.drop (k + 1)) := by
  obtain ⟨hk, e⟩ := List.getElem?_eq_some_iff.1 h
  rw [List.drop_eq_getElem_cons hk, encL_cons, e]
theorem backNum {p : Option Addr} {f : Fld} (hk : kindF f.k = 0) (he : okE f) (R : List UInt8) (w : World) (h : ObjP 61 w p (encF f ++ R, 0)) :
    Calls Try.prog 16 #[.pointer p, .int .i64 1099511627776] w fun e W' => e = .returned (.int .i64 f.n) ∧ ObjP 61 W' p (R, 0) ∧ w.grownBy W' (p.map (·.block)) := by
  obtain ⟨e1, e2⟩ := back_num hk he R
  refine (inNumP_any 1099511627776 1099511627776 (Or.inr ⟨by omega, rfl⟩) w h).mono ?_
  rintro e W' ⟨rfl, hO, hG⟩
  rw [e2] at hO
  exact ⟨by rw [e1], hO, hG⟩
theorem backText {p : Option Addr} {f : Fld} (hk : kindF f.k = 1) (he : okE f) (R : List UInt8) (w : World) (h : ObjP 61 w p (encF f ++ R, 0)) :
    Calls Try.prog 18 #[.pointer p, .int .i64 1024] w fun e W' => e = .returned (.string f.t) ∧ ObjP 61 W' p (R, 0) ∧ w.grownBy W' (p.map (·.block)) := by
  have e1 := back_txt hk he R
  refine (inTextP_any 1024 1024 (Or.inr ⟨by omega, rfl⟩) w h).mono ?_
  rw [e1]
  rintro e W' ⟨rfl, hO, hG⟩
  exact ⟨rfl, hO, hG⟩
theorem backWide {p : Option Addr} {f : Fld} (hk : kindF f.k = 2) (h4 : Ok4 f.a0 f.a1 f.a2 f.a3) (R : List UInt8) (w : World) (h : ObjP 61 w p (encF f ++ R, 0)) :
    Calls Try.prog 20 #[.pointer p] w fun e W' => e = .returned (wv f.a0 f.a1 f.a2 f.a3) ∧ ObjP 61 W' p (R, 0) ∧ w.grownBy W' (p.map (·.block)) := by
  obtain ⟨e1, q0, q1, q2, q3⟩ := back_wide hk h4 R
  refine (inWide_any w h).mono ?_
  rintro e W' ⟨rfl, hO, hG⟩
  rw [e1] at hO
  exact ⟨by rw [q0, q1, q2, q3], hO, hG⟩
theorem openS_small {l : List UInt8} (h : l.length ≤ 8192) : openS l = (l, 0) := if_pos h

set_option maxRecDepth 100000 in
set_option maxHeartbeats 4000000 in
theorem fieldBack_any (l : List Fld) (sv : Value) (w : World) (hsl : FSl w sv l) :
    Calls Try.prog 5 #[sv] w fun e W' => e = .returned (.bool true) ∧ Below w.heap.size w W' := by
  have hmx : Try.prog.follows .mixedOrders = true := by kernel_rfl
  have hsl' := hsl
  obtain ⟨a, cap, rfl, hm, hok, h0⟩ := hsl'
  have HO := Lib.hid (fun w1 h => out_any l (.slice a l.length cap) w1 h)
  by_cases he : (allS l).2 = 0
  · obtain ⟨hE, hA⟩ := allS_zero he
    have hl := (okS_all l).2
    rw [hA] at hl
    have hS : allS l = (encL l, 0) := Prod.ext hA he
    rw [hS] at HO
    have HE := Lib.hid hE
    have HL8 := Lib.hid hl
    have HOK := Lib.hid hok
    clear he hA hl hS hE hok
    go_enter Try.func5, Try.ntmps5
    go_wp2_with (first
      | (go_at_call 11; refine (alive_any w).mono ?_; rintro e w1 ⟨rfl, hb1⟩)
      | (go_at_call 8; refine (HO.out _ (hsl.below hb1)).mono ?_; rintro e w2 ⟨v, rfl, hv, hb2⟩; obtain ⟨va, vm, vc, rfl⟩ := hv.shape3)
      | (go_at_call 12; refine (inOpen_any (encL l) _ _ (by have := HL8.out; omega) hv).mono ?_; rw [openS_small HL8.out]; rintro e w3 ⟨NB, rfl, hNB, hO3, hb3⟩))
    have hB3 := chain (chain hb1 hb2) hb3
    have hNw : w.heap.size ≤ NB := Nat.le_trans (chain hb1 hb2).size hNB
    clear hb1 hb2 hb3 hv hNB hsl HO
    go_loopw [6] (fun i wr => ∃ k : Nat, k ≤ l.length ∧ i = .int .i64 k ∧ ObjP 61 wr (some ⟨NB, 0, none⟩) (encL (l.drop k), 0) ∧ Below w.heap.size w wr) (fun i _ => l.length - (intOf i).toNat)
    case atStart => exact ⟨0, by omega, rfl, hO3, hB3⟩
    case round =>
      clear hO3 hB3
      obtain ⟨k, hk, rfl, hO, hB⟩ := hrel
      by_cases hlt : k < l.length
      · obtain ⟨f, hf⟩ : ∃ f, l[k]? = some f := ⟨_, List.getElem?_eq_getElem hlt⟩
        obtain ⟨b, off, rfl, hbw, hr⟩ := h0.resolve_left (by intro e; rw [e] at hlt; simp at hlt)
        have hfe := HE.out f (List.mem_of_getElem? hf)
        have w4 := (HOK.out f (List.mem_of_getElem? hf)).w4
        obtain ⟨x0, x1, x2, x3, x4, x5, x6⟩ := (hr.below hB hbw).at hf
        obtain ⟨z0, z1, z2, z3, z4, z5, z6⟩ := hr.at hf
        rw [encL_drop hf] at hO
        clear hr h0 hf HOK HE
        generalize hL : l.length = L at *
        have HL := Lib.hid hL
        clear hL
        generalize hR : encL (l.drop (k + 1)) = R at *
        have HR := Lib.hid hR
        clear hR
        have hlt' : (k : Int) < (L : Int) := by omega
        rcases kindF_cases f.k with hk0 | hk0 | hk0
        · have HK := Lib.hid hk0
          have HC := Lib.hid (fun W h => backNum (p := some ⟨NB, 0, none⟩) hk0 hfe R W h)
          clear hk0 hfe w4
          go_wp2_with (go_at_call 14; refine (kind_any f _).mono ?_; rw [HK.out]; rintro e w2 ⟨rfl, hb2⟩)
          have hB2 := chain hB hb2
          have hO2 := hO.below hb2
          clear hO hB hb2 x0 x1 x2 x3 x4 x5 x6
          refine wp_region_held_drew (S := fun W => Below w.heap.size w W) hmx hB2.drew ?_
          intro hS
          replace hO2 : ObjP 61 w2.drew (some ⟨NB, 0, none⟩) (encF f ++ R, 0) := hO2
          clear hB2
          generalize w2.drew = Y at *
          refine' wpAnyH_take (i := 0) (oi := _) (v := _) ?hi1 (by kernel_rfl) (by kernel_rfl) (by kernel_rfl) ?hQ1 (Or.inl ⟨?hw1, ?hy1⟩) hS ?rest1
          case hi1 => simp only [List.getElem?_toArray, List.getElem?_cons_zero]; rfl
          case hQ1 => exact fun _ _ _ h => h
          case hw1 => rfl
          case hy1 => intro W' hS'; go_simp; with_reducible rfl
          try simp only [Act.put, List.setIfInBounds_toArray, List.set_cons_zero, List.set_cons_succ]
          refine' wpAnyH_take (i := 2) (oi := _) (v := _) ?hi2 (by kernel_rfl) (by kernel_rfl) (by kernel_rfl) ?hQ2 (Or.inl ⟨?hw2, ?hy2⟩) hS ?rest2
          case hi2 => simp only [List.getElem?_toArray, List.getElem?_cons_succ, List.getElem?_cons_zero]; rfl
          case hQ2 => exact fun _ _ _ h => h
          case hw2 => rfl
          case hy2 => intro W' hS'; go_simp; with_reducible rfl
          try simp only [Act.put, List.setIfInBounds_toArray, List.set_cons_zero, List.set_cons_succ]
          refine' wpAnyH_take (i := 3) (oi := _) (v := _) ?hi3 (by kernel_rfl) (by kernel_rfl) (by kernel_rfl) ?hQ3 (Or.inl ⟨?hw3, ?hy3⟩) hS ?rest3
          case hi3 => simp only [List.getElem?_toArray, List.getElem?_cons_succ, List.getElem?_cons_zero]; rfl
          case hQ3 => exact fun _ _ _ h => h
          case hw3 => rfl
          case hy3 => intro W' hS'; go_simp; with_reducible rfl
          try simp only [Act.put, List.setIfInBounds_toArray, List.set_cons_zero, List.set_cons_succ]
          refine' wpAnyH_take (i := 4) (oi := _) (v := _) ?hi4 (by kernel_rfl) (by kernel_rfl) (by kernel_rfl) ?hQ4 (Or.inl ⟨?hw4, ?hy4⟩) hS ?rest4
          case hi4 => simp only [List.getElem?_toArray, List.getElem?_cons_succ, List.getElem?_cons_zero]; rfl
          case hQ4 => exact fun _ _ _ h => h
          case hw4 => rfl
          case hy4 => intro W' hS'; go_simp; with_reducible rfl
          try simp only [Act.put, List.setIfInBounds_toArray, List.set_cons_zero, List.set_cons_succ]
          refine' wpAnyH_take (i := 5) (oi := _) (v := _) ?hi5 (by kernel_rfl) (by kernel_rfl) (by kernel_rfl) ?hQ5 (Or.inl ⟨?hw5, ?hy5⟩) hS ?rest5
          case hi5 => simp only [List.getElem?_toArray, List.getElem?_cons_succ, List.getElem?_cons_zero]; rfl
          case hQ5 => exact fun _ _ _ h => h
          case hw5 => rfl
          case hy5 => intro W' hS'; go_simp; with_reducible rfl
          try simp only [Act.put, List.setIfInBounds_toArray, List.set_cons_zero, List.set_cons_succ]
          refine' wpAnyH_take (i := 6) (oi := _) (v := _) ?hi6 (by kernel_rfl) (by kernel_rfl) (by kernel_rfl) ?hQ6 (Or.inl ⟨?hw6, ?hy6⟩) hS ?rest6
          case hi6 => simp only [List.getElem?_toArray, List.getElem?_cons_succ, List.getElem?_cons_zero]; rfl
          case hQ6 => exact fun _ _ _ h => h
          case hw6 => rfl
          case hy6 => intro W' hS'; have hc1 := (hS'.cell (p := ⟨b, off + k * 7 + 1, none⟩) hbw).trans z1; go_simp; with_reducible rfl
          try simp only [Act.put, List.setIfInBounds_toArray, List.set_cons_zero, List.set_cons_succ]
          refine wpAnyH_ready (rs := [1]) (by kernel_rfl) (by simp) ?_
          refine' AllReadyH.cons (o := _) ?ho7 (fun K hK => ?st7) AllReadyH.nil
          case ho7 => simp only [List.getElem?_toArray, List.getElem?_cons_succ, List.getElem?_cons_zero]; rfl
          case st7 =>
            go_simp
            refine (HC.out _ hO2).mono ?_
            rintro e Y2 ⟨rfl, hO3, hG3⟩
            refine hK.out _ _ (hS.grown hG3 hS.size (fun j e => by cases e; exact hNw)) (fun hS => ?_)
            clear hK K
            try simp only [Act.put, List.setIfInBounds_toArray, List.set_cons_zero, List.set_cons_succ]
            refine' wpAnyH_take (i := 7) (oi := _) (v := _) ?hi8 (by kernel_rfl) (by kernel_rfl) (by kernel_rfl) ?hQ8 (Or.inl ⟨?hw8, ?hy8⟩) hS ?rest8
            case hi8 => simp only [List.getElem?_toArray, List.getElem?_cons_succ, List.getElem?_cons_zero]; rfl
            case hQ8 => exact fun _ _ _ h => h
            case hw8 => rfl
            case hy8 => intro W' hS'; go_simp; with_reducible rfl
            try simp only [Act.put, List.setIfInBounds_toArray, List.set_cons_zero, List.set_cons_succ]
            refine wpAnyH_done (by kernel_rfl) ?_ _
            go_wp2_with fail
            go_roundw
            case rel => exact ⟨k + 1, by omega, by go_num, by rw [HR.out]; exact hO3, hS⟩
            case measure => simp [intOf]; omega
        · have HK := Lib.hid hk0
          have HC := Lib.hid (fun W h => backText (p := some ⟨NB, 0, none⟩) hk0 hfe R W h)
          clear hk0 hfe w4
          go_wp2_with (go_at_call 14; refine (kind_any f _).mono ?_; rw [HK.out]; rintro e w2 ⟨rfl, hb2⟩)
          have hee : (f.t.toList == f.t.toList) = true := by simp
          have hB2 := chain hB hb2
          have hO2 := hO.below hb2
          clear hO hB hb2 x0 x1 x2 x3 x4 x5 x6
          refine wp_region_held_drew (S := fun W => Below w.heap.size w W) hmx hB2.drew ?_
          intro hS
          replace hO2 : ObjP 61 w2.drew (some ⟨NB, 0, none⟩) (encF f ++ R, 0) := hO2
          clear hB2
          generalize w2.drew = Y at *
          refine' wpAnyH_take (i := 0) (oi := _) (v := _) ?hi9 (by kernel_rfl) (by kernel_rfl) (by kernel_rfl) ?hQ9 (Or.inl ⟨?hw9, ?hy9⟩) hS ?rest9
          case hi9 => simp only [List.getElem?_toArray, List.getElem?_cons_zero]; rfl
          case hQ9 => exact fun _ _ _ h => h
          case hw9 => rfl
          case hy9 => intro W' hS'; go_simp; with_reducible rfl
          try simp only [Act.put, List.setIfInBounds_toArray, List.set_cons_zero, List.set_cons_succ]
          refine' wpAnyH_take (i := 2) (oi := _) (v := _) ?hi10 (by kernel_rfl) (by kernel_rfl) (by kernel_rfl) ?hQ10 (Or.inl ⟨?hw10, ?hy10⟩) hS ?rest10
          case hi10 => simp only [List.getElem?_toArray, List.getElem?_cons_succ, List.getElem?_cons_zero]; rfl
          case hQ10 => exact fun _ _ _ h => h
          case hw10 => rfl
          case hy10 => intro W' hS'; go_simp; with_reducible rfl
          try simp only [Act.put, List.setIfInBounds_toArray, List.set_cons_zero, List.set_cons_succ]
          refine' wpAnyH_take (i := 3) (oi := _) (v := _) ?hi11 (by kernel_rfl) (by kernel_rfl) (by kernel_rfl) ?hQ11 (Or.inl ⟨?hw11, ?hy11⟩) hS ?rest11
          case hi11 => simp only [List.getElem?_toArray, List.getElem?_cons_succ, List.getElem?_cons_zero]; rfl
          case hQ11 => exact fun _ _ _ h => h
          case hw11 => rfl
          case hy11 => intro W' hS'; go_simp; with_reducible rfl
          try simp only [Act.put, List.setIfInBounds_toArray, List.set_cons_zero, List.set_cons_succ]
          refine' wpAnyH_take (i := 4) (oi := _) (v := _) ?hi12 (by kernel_rfl) (by kernel_rfl) (by kernel_rfl) ?hQ12 (Or.inl ⟨?hw12, ?hy12⟩) hS ?rest12
          case hi12 => simp only [List.getElem?_toArray, List.getElem?_cons_succ, List.getElem?_cons_zero]; rfl
          case hQ12 => exact fun _ _ _ h => h
          case hw12 => rfl
          case hy12 => intro W' hS'; go_simp; with_reducible rfl
          try simp only [Act.put, List.setIfInBounds_toArray, List.set_cons_zero, List.set_cons_succ]
          refine' wpAnyH_take (i := 5) (oi := _) (v := _) ?hi13 (by kernel_rfl) (by kernel_rfl) (by kernel_rfl) ?hQ13 (Or.inl ⟨?hw13, ?hy13⟩) hS ?rest13
          case hi13 => simp only [List.getElem?_toArray, List.getElem?_cons_succ, List.getElem?_cons_zero]; rfl
          case hQ13 => exact fun _ _ _ h => h
          case hw13 => rfl
          case hy13 => intro W' hS'; go_simp; with_reducible rfl
          try simp only [Act.put, List.setIfInBounds_toArray, List.set_cons_zero, List.set_cons_succ]
          refine' wpAnyH_take (i := 6) (oi := _) (v := _) ?hi14 (by kernel_rfl) (by kernel_rfl) (by kernel_rfl) ?hQ14 (Or.inl ⟨?hw14, ?hy14⟩) hS ?rest14
          case hi14 => simp only [List.getElem?_toArray, List.getElem?_cons_succ, List.getElem?_cons_zero]; rfl
          case hQ14 => exact fun _ _ _ h => h
          case hw14 => rfl
          case hy14 => intro W' hS'; have hc2 := (hS'.cell (p := ⟨b, off + k * 7 + 2, none⟩) hbw).trans z2; go_simp; with_reducible rfl
          try simp only [Act.put, List.setIfInBounds_toArray, List.set_cons_zero, List.set_cons_succ]
          refine wpAnyH_ready (rs := [1]) (by kernel_rfl) (by simp) ?_
          refine' AllReadyH.cons (o := _) ?ho15 (fun K hK => ?st15) AllReadyH.nil
          case ho15 => simp only [List.getElem?_toArray, List.getElem?_cons_succ, List.getElem?_cons_zero]; rfl
          case st15 =>
            go_simp
            refine (HC.out _ hO2).mono ?_
            rintro e Y2 ⟨rfl, hO3, hG3⟩
            refine hK.out _ _ (hS.grown hG3 hS.size (fun j e => by cases e; exact hNw)) (fun hS => ?_)
            clear hK K
            try simp only [Act.put, List.setIfInBounds_toArray, List.set_cons_zero, List.set_cons_succ]
            refine' wpAnyH_take (i := 7) (oi := _) (v := _) ?hi16 (by kernel_rfl) (by kernel_rfl) (by kernel_rfl) ?hQ16 (Or.inl ⟨?hw16, ?hy16⟩) hS ?rest16
            case hi16 => simp only [List.getElem?_toArray, List.getElem?_cons_succ, List.getElem?_cons_zero]; rfl
            case hQ16 => exact fun _ _ _ h => h
            case hw16 => rfl
            case hy16 => intro W' hS'; go_simp; with_reducible rfl
            try simp only [Act.put, List.setIfInBounds_toArray, List.set_cons_zero, List.set_cons_succ]
            refine wpAnyH_done (by kernel_rfl) ?_ _
            go_wp2_with fail
            go_roundw
            case rel => exact ⟨k + 1, by omega, by go_num, by rw [HR.out]; exact hO3, hS⟩
            case measure => simp [intOf]; omega
        · have HK := Lib.hid hk0
          have HC := Lib.hid (fun W h => backWide (p := some ⟨NB, 0, none⟩) hk0 w4 R W h)
          clear hk0 hfe w4
          go_wp2_with (go_at_call 14; refine (kind_any f _).mono ?_; rw [HK.out]; rintro e w2 ⟨rfl, hb2⟩)
          have hweq := @run_equalIn_wide
          have hwr := wEq_refl
          have hB2 := chain hB hb2
          have hO2 := hO.below hb2
          clear hO hB hb2 x0 x1 x2 x3 x4 x5 x6
          refine wp_region_held_drew (S := fun W => Below w.heap.size w W) hmx hB2.drew ?_
          intro hS
          replace hO2 : ObjP 61 w2.drew (some ⟨NB, 0, none⟩) (encF f ++ R, 0) := hO2
          clear hB2
          generalize w2.drew = Y at *
          refine' wpAnyH_take (i := 0) (oi := _) (v := _) ?hi17 (by kernel_rfl) (by kernel_rfl) (by kernel_rfl) ?hQ17 (Or.inl ⟨?hw17, ?hy17⟩) hS ?rest17
          case hi17 => simp only [List.getElem?_toArray, List.getElem?_cons_zero]; rfl
          case hQ17 => exact fun _ _ _ h => h
          case hw17 => rfl
          case hy17 => intro W' hS'; go_simp; with_reducible rfl
          try simp only [Act.put, List.setIfInBounds_toArray, List.set_cons_zero, List.set_cons_succ]
          refine' wpAnyH_take (i := 2) (oi := _) (v := _) ?hi18 (by kernel_rfl) (by kernel_rfl) (by kernel_rfl) ?hQ18 (Or.inl ⟨?hw18, ?hy18⟩) hS ?rest18
          case hi18 => simp only [List.getElem?_toArray, List.getElem?_cons_succ, List.getElem?_cons_zero]; rfl
          case hQ18 => exact fun _ _ _ h => h
          case hw18 => rfl
          case hy18 => intro W' hS'; go_simp; with_reducible rfl
          try simp only [Act.put, List.setIfInBounds_toArray, List.set_cons_zero, List.set_cons_succ]
          refine' wpAnyH_take (i := 3) (oi := _) (v := _) ?hi19 (by kernel_rfl) (by kernel_rfl) (by kernel_rfl) ?hQ19 (Or.inl ⟨?hw19, ?hy19⟩) hS ?rest19
          case hi19 => simp only [List.getElem?_toArray, List.getElem?_cons_succ, List.getElem?_cons_zero]; rfl
          case hQ19 => exact fun _ _ _ h => h
          case hw19 => rfl
          case hy19 => intro W' hS'; go_simp; with_reducible rfl
          try simp only [Act.put, List.setIfInBounds_toArray, List.set_cons_zero, List.set_cons_succ]
          refine' wpAnyH_take (i := 4) (oi := _) (v := _) ?hi20 (by kernel_rfl) (by kernel_rfl) (by kernel_rfl) ?hQ20 (Or.inl ⟨?hw20, ?hy20⟩) hS ?rest20
          case hi20 => simp only [List.getElem?_toArray, List.getElem?_cons_succ, List.getElem?_cons_zero]; rfl
          case hQ20 => exact fun _ _ _ h => h
          case hw20 => rfl
          case hy20 => intro W' hS'; go_simp; with_reducible rfl
          try simp only [Act.put, List.setIfInBounds_toArray, List.set_cons_zero, List.set_cons_succ]
          refine' wpAnyH_take (i := 5) (oi := _) (v := _) ?hi21 (by kernel_rfl) (by kernel_rfl) (by kernel_rfl) ?hQ21 (Or.inl ⟨?hw21, ?hy21⟩) hS ?rest21
          case hi21 => simp only [List.getElem?_toArray, List.getElem?_cons_succ, List.getElem?_cons_zero]; rfl
          case hQ21 => exact fun _ _ _ h => h
          case hw21 => rfl
          case hy21 => intro W' hS'; go_simp; with_reducible rfl
          try simp only [Act.put, List.setIfInBounds_toArray, List.set_cons_zero, List.set_cons_succ]
          refine' wpAnyH_take (i := 6) (oi := _) (v := _) ?hi22 (by kernel_rfl) (by kernel_rfl) (by kernel_rfl) ?hQ22 (Or.inl ⟨?hw22, ?hy22⟩) hS ?rest22
          case hi22 => simp only [List.getElem?_toArray, List.getElem?_cons_succ, List.getElem?_cons_zero]; rfl
          case hQ22 => exact fun _ _ _ h => h
          case hw22 => rfl
          case hy22 => intro W' hS'; have hc3 := (hS'.cell (p := ⟨b, off + k * 7 + 3, none⟩) hbw).trans z3; have hc4 := (hS'.cell (p := ⟨b, off + k * 7 + 4, none⟩) hbw).trans z4; have hc5 := (hS'.cell (p := ⟨b, off + k * 7 + 5, none⟩) hbw).trans z5; have hc6 := (hS'.cell (p := ⟨b, off + k * 7 + 6, none⟩) hbw).trans z6; go_simp; with_reducible rfl
          try simp only [Act.put, List.setIfInBounds_toArray, List.set_cons_zero, List.set_cons_succ]
          refine wpAnyH_ready (rs := [1]) (by kernel_rfl) (by simp) ?_
          refine' AllReadyH.cons (o := _) ?ho23 (fun K hK => ?st23) AllReadyH.nil
          case ho23 => simp only [List.getElem?_toArray, List.getElem?_cons_succ, List.getElem?_cons_zero]; rfl
          case st23 =>
            go_simp
            refine (HC.out _ hO2).mono ?_
            rintro e Y2 ⟨rfl, hO3, hG3⟩
            refine hK.out _ _ (hS.grown hG3 hS.size (fun j e => by cases e; exact hNw)) (fun hS => ?_)
            clear hK K
            try simp only [Act.put, List.setIfInBounds_toArray, List.set_cons_zero, List.set_cons_succ]
            refine' wpAnyH_take (i := 7) (oi := _) (v := _) ?hi24 (by kernel_rfl) (by kernel_rfl) (by kernel_rfl) ?hQ24 (Or.inl ⟨?hw24, ?hy24⟩) hS ?rest24
            case hi24 => simp only [List.getElem?_toArray, List.getElem?_cons_succ, List.getElem?_cons_zero]; rfl
            case hQ24 => exact fun _ _ _ h => h
            case hw24 => rfl
            case hy24 => intro W' hS'; go_simp; with_reducible rfl
            try simp only [Act.put, List.setIfInBounds_toArray, List.set_cons_zero, List.set_cons_succ]
            refine wpAnyH_done (by kernel_rfl) ?_ _
            go_wp2_with fail
            go_roundw
            case rel => exact ⟨k + 1, by omega, by go_num, by rw [HR.out]; exact hO3, hS⟩
            case measure => simp [intOf]; omega
      · obtain rfl : k = l.length := by omega
        rw [List.drop_length] at hO
        replace hO : ObjP 61 wr (some ⟨NB, 0, none⟩) ([], 0) := hO
        generalize hL : l.length = L at *
        have HL := Lib.hid hL
        clear hL
        go_wp2_with (first
          | (go_at_call 21; refine (inErr_any _ hO).mono ?_; rintro e w' ⟨rfl, rfl⟩)
          | (go_at_call 22; refine (inLeft_any _ hO).mono ?_; rintro e w' ⟨rfl, rfl⟩))
        go_ret
        exact ⟨rfl, hB⟩
  · have h1 := (okS_all l).1 he
    have hf1 : ((allS l).2 == 0) = false := by simpa using he
    have hf2 : ((allS l).2 != 0) = true := by simpa using he
    have H1 := Lib.hid h1
    clear h1 he
    go_enter Try.func5, Try.ntmps5
    go_wp2_with (first
      | (go_at_call 11; refine (alive_any w).mono ?_; rintro e w1 ⟨rfl, hb1⟩)
      | (go_at_call 8; refine (HO.out _ (hsl.below hb1)).mono ?_; rintro e w2 ⟨v, rfl, hv, hb2⟩; rw [H1.out] at hv; obtain ⟨va, vc, rfl, -⟩ := hv.shape))
    go_ret
    exact ⟨rfl, chain hb1 hb2⟩
end Go.Proofs.Ytjhfchjffiliaaa
