/-
  Which transfers and sides' data may be, by the reference.
  The reference's Sum.
  A transfer's key, a side's digest, an act's payload, by the reference.
-/
import Derived.Outline
import Derived.Test.YtififfadodjmeaaK09
namespace Go.Proofs.Ytififfadodjmeaa
open Go.RowKit Go.Shelf

set_option maxRecDepth 100000 in
set_option maxHeartbeats 2000000 in
theorem refInv_any (i : Trf) (w : World) :
    Calls Try.prog 9 #[ivv i] w fun e W' => e = .returned (.int .i64 (errI i)) ∧ Below w.heap.size w W' := by
  have HY : Hid (maybeI i → errI i = 0) := Lib.hid fun h => if_pos h
  have HN : Hid (¬ maybeI i → errI i = 39) := Lib.hid fun h => if_neg h
  obtain ⟨us, rt, ro, se, re, to, id⟩ := i
  have HM : Hid (maybeI ⟨us, rt, ro, se, re, to, id⟩ ↔ ((0 ≤ us ∧ us ≤ 1) ∧ (rt.size : Int) = 8 ∧ (2 ≤ ro ∧ ro ≤ 3) ∧ (0 ≤ se ∧ se ≤ 1) ∧ (0 ≤ re ∧ re ≤ 1) ∧ (0 ≤ to ∧ to ≤ 7) ∧ (1 : Int) ≤ (id.size : Int) ∧ (id.size : Int) ≤ 16)) := Lib.hid (by
    unfold maybeI
    exact ⟨fun ⟨a, b, c, d, e, f, g, h⟩ => ⟨a, by simp only at b; omega, c, d, e, f, by simp only at g; omega, by simp only at h; omega⟩, fun ⟨a, b, c, d, e, f, g, h⟩ => ⟨a, by simp only; omega, c, d, e, f, by simp only; omega, by simp only; omega⟩⟩)
  generalize errI _ = x at *
  by_cases c0 : us < 0
  · have HX := HN.out (by rw [HM.out]; omega)
    have HX2 := Lib.hid HX
    clear HX
    go_enter Try.func9, Try.ntmps9
    go_wp2
    go_ret
    exact ⟨by rw [HX2.out]; rfl, chain0 _ _⟩
  by_cases c1 : 1 < us
  · have HX := HN.out (by rw [HM.out]; omega)
    have HX2 := Lib.hid HX
    clear HX
    go_enter Try.func9, Try.ntmps9
    go_wp2
    go_ret
    exact ⟨by rw [HX2.out]; rfl, chain0 _ _⟩
  by_cases c2 : ro < 2
  · have HX := HN.out (by rw [HM.out]; omega)
    have HX2 := Lib.hid HX
    clear HX
    go_enter Try.func9, Try.ntmps9
    go_wp2
    go_ret
    exact ⟨by rw [HX2.out]; rfl, chain0 _ _⟩
  by_cases c3 : 3 < ro
  · have HX := HN.out (by rw [HM.out]; omega)
    have HX2 := Lib.hid HX
    clear HX
    go_enter Try.func9, Try.ntmps9
    go_wp2
    go_ret
    exact ⟨by rw [HX2.out]; rfl, chain0 _ _⟩
  by_cases c4 : se < 0
  · have HX := HN.out (by rw [HM.out]; omega)
    have HX2 := Lib.hid HX
    clear HX
    go_enter Try.func9, Try.ntmps9
    go_wp2
    go_ret
    exact ⟨by rw [HX2.out]; rfl, chain0 _ _⟩
  by_cases c5 : 1 < se
  · have HX := HN.out (by rw [HM.out]; omega)
    have HX2 := Lib.hid HX
    clear HX
    go_enter Try.func9, Try.ntmps9
    go_wp2
    go_ret
    exact ⟨by rw [HX2.out]; rfl, chain0 _ _⟩
  by_cases c6 : re < 0
  · have HX := HN.out (by rw [HM.out]; omega)
    have HX2 := Lib.hid HX
    clear HX
    go_enter Try.func9, Try.ntmps9
    go_wp2
    go_ret
    exact ⟨by rw [HX2.out]; rfl, chain0 _ _⟩
  by_cases c7 : 1 < re
  · have HX := HN.out (by rw [HM.out]; omega)
    have HX2 := Lib.hid HX
    clear HX
    go_enter Try.func9, Try.ntmps9
    go_wp2
    go_ret
    exact ⟨by rw [HX2.out]; rfl, chain0 _ _⟩
  by_cases c8 : to < 0
  · have HX := HN.out (by rw [HM.out]; omega)
    have HX2 := Lib.hid HX
    clear HX
    go_enter Try.func9, Try.ntmps9
    go_wp2
    go_ret
    exact ⟨by rw [HX2.out]; rfl, chain0 _ _⟩
  by_cases c9 : 7 < to
  · have HX := HN.out (by rw [HM.out]; omega)
    have HX2 := Lib.hid HX
    clear HX
    go_enter Try.func9, Try.ntmps9
    go_wp2
    go_ret
    exact ⟨by rw [HX2.out]; rfl, chain0 _ _⟩
  by_cases c10 : (rt.size : Int) = 8
  rotate_left
  · have e1 : ((rt.size : Int) == 8) = false := by simpa using c10
    have e2 : ((rt.size : Int) != 8) = true := by simpa using c10
    have HX := HN.out (by rw [HM.out]; omega)
    have HX2 := Lib.hid HX
    clear HX c10
    go_enter Try.func9, Try.ntmps9
    go_wp2
    go_ret
    exact ⟨by rw [HX2.out]; rfl, chain0 _ _⟩
  have e1 : ((rt.size : Int) == 8) = true := by simpa using c10
  have e2 : ((rt.size : Int) != 8) = false := by simpa using c10
  have HC := Lib.hid c10
  clear c10
  by_cases c11 : (id.size : Int) < 1
  · have HX := HN.out (by rw [HM.out]; have := HC.out; omega)
    have HX2 := Lib.hid HX
    clear HX
    go_enter Try.func9, Try.ntmps9
    go_wp2
    go_ret
    exact ⟨by rw [HX2.out]; rfl, chain0 _ _⟩
  by_cases c12 : 16 < (id.size : Int)
  · have HX := HN.out (by rw [HM.out]; have := HC.out; omega)
    have HX2 := Lib.hid HX
    clear HX
    go_enter Try.func9, Try.ntmps9
    go_wp2
    go_ret
    exact ⟨by rw [HX2.out]; rfl, chain0 _ _⟩
  have HX := HY.out (by rw [HM.out]; have := HC.out; omega)
  have HX2 := Lib.hid HX
  clear HX
  go_enter Try.func9, Try.ntmps9
  go_wp2
  go_ret
  exact ⟨by rw [HX2.out]; rfl, chain0 _ _⟩

set_option maxRecDepth 100000 in
theorem refVar_any (v : Sid) (w : World) :
    Calls Try.prog 11 #[svv v] w fun e W' => e = .returned (.int .i64 (errV v)) ∧ Below w.heap.size w W' := by
  have hweq := @run_equalIn_wide
  by_cases h0 : v.a0 = 0 ∧ v.a1 = 0 ∧ v.a2 = 0 ∧ v.a3 = 0
  · have hE : errV v = 36 := if_neg fun h => h.1 h0
    rw [hE]
    have hq : wEq (v.a0 : Nat) (v.a1 : Nat) (v.a2 : Nat) (v.a3 : Nat) 0 0 0 0 = true := by
      obtain ⟨e0, e1, e2, e3⟩ := h0
      rw [e0, e1, e2, e3]; rfl
    clear hE h0
    go_enter Try.func11, Try.ntmps11
    go_wp2
    go_ret
    exact ⟨rfl, chain0 w _⟩
  · have hq : wEq (v.a0 : Nat) (v.a1 : Nat) (v.a2 : Nat) (v.a3 : Nat) 0 0 0 0 = false := wEq_not (by omega)
    by_cases hl : v.x < 0
    · have hE : errV v = 36 := if_neg fun h => by have := h.2; omega
      rw [hE]
      clear hE h0
      go_enter Try.func11, Try.ntmps11
      go_wp2
      go_ret
      exact ⟨rfl, chain0 w _⟩
    by_cases hx : 1099511627776 < v.x
    · have hE : errV v = 36 := if_neg fun h => by have := h.2; omega
      rw [hE]
      clear hE h0
      go_enter Try.func11, Try.ntmps11
      go_wp2
      go_ret
      exact ⟨rfl, chain0 w _⟩
    · have hE : errV v = 0 := if_pos ⟨h0, by omega, by omega⟩
      rw [hE]
      clear hE h0
      go_enter Try.func11, Try.ntmps11
      go_wp2
      go_ret
      exact ⟨rfl, chain0 w _⟩
end Go.Proofs.Ytififfadodjmeaa

namespace Go.Proofs.Ytififfadodjmeaa
open Go.RowKit Go.Shelf

theorem sq_lits : uv sq 8 = .agg #[.int .u32 1779033703, .int .u32 3144134277, .int .u32 1013904242, .int .u32 2773480762, .int .u32 1359893119, .int .u32 2600822924, .int .u32 528734635, .int .u32 1541459225] := by
  show Value.agg (us sq 8).toArray = _
  rw [← sq_us]
  rfl

set_option maxRecDepth 100000 in
set_option maxHeartbeats 2000000 in
theorem refSum_any (l : List UInt8) (sv : Value) (w : World) (hreach : l.length ≤ 140737488353000) (hsv : BSl 0 w.heap.size w sv l) :
    Calls Try.prog 37 #[sv] w (ByO (sumL cb sq l) w) := by
  have hsv0 := hsv
  obtain ⟨a, cap, rfl, hcap, hcs⟩ := hsv
  clear hcs
  go_enter Try.func37, Try.ntmps37
  go_wp2_with fail
  refine (table_any _).mono ?_
  rintro e w1 ⟨rfl, hb1⟩
  go_wp2_with fail
  rw [← sq_lits]
  refine (refOver_any l _ sq cb _ hreach ((hsv0.below hb1 (Nat.le_refl _)).mono (Nat.le_refl _) hb1.size)).mono ?_
  rintro e w2 ⟨v, rfl, hown, hb2⟩
  go_wp2_with fail
  go_ret
  exact ⟨_, rfl, own_base4 hown hb1.size, chain hb1 hb2⟩
end Go.Proofs.Ytififfadodjmeaa

namespace Go.Proofs.Ytififfadodjmeaa
open Go.RowKit Go.Shelf

/-- 'string(b)', at this seat. -/
theorem str_of (W : World) {lo hi : Nat} {sv : Value} {l : List UInt8} (h : BSl lo hi W sv l) : (convert 37 9 sv).run Try.prog W = .ok (.string ⟨l.toArray⟩) W :=
  run_string (P := Try.prog) 37 5 9 Try.underlying37 Try.underlying5 Try.underlying9 W h
theorem fieldB (W : World) (a : Option Addr) (m c : Nat) (x : Int) : (Instr.field 61 (.agg #[.slice a m c, .int .i64 x]) 0).run Try.prog W = .ok (.slice a m c) W := by
  simp [Instr.field, asAgg, run_underlying Try.underlying61, go_sem]
theorem refSumS_any (l : List UInt8) (sv : Value) (w : World) (hreach : l.length ≤ 140737488353000) (hsv : BSl 0 w.heap.size w sv l) :
    Calls Try.prog 37 #[sv] w fun e W' => ∃ v, e = .returned v ∧ BSl 0 W'.heap.size W' v (sumL cb sq l) ∧ Below w.heap.size w W' :=
  (refSum_any l sv w hreach hsv).mono fun _ _ ⟨v, h1, h2, h3⟩ => ⟨v, h1, (BSl.of_own h2).mono (Nat.zero_le _) (Nat.le_refl _), h3⟩

set_option maxRecDepth 100000 in
set_option maxHeartbeats 1000000 in
theorem refKey_any (i : Trf) (w : World) :
    Calls Try.prog 13 #[ivv i] w fun e W' => e = .returned (.string (keyB i)) ∧ Below w.heap.size w W' := by
  have kB := Blk.new w 23 (ivc i)
  have hB := chain0 w (.cells (ivc i).toArray 23)
  have HC := Lib.hid (refInv_any i)
  by_cases hm : maybeI i
  · have HE := Lib.hid (errI_zero hm)
    have e1 : keyB i = sumS (putI ([], 0) i).1 := if_pos hm
    rw [e1]
    have hlen := (okS_putI okS_new i).2
    have HLE := Lib.hid hlen
    clear hm e1 hlen
    have hfb := fieldB
    have HPI := Lib.hid (fun W => refPutInv_any okS_new (.slice none 0 0) i W (BSl.nil _ _ _))
    generalize putI ([], 0) i = st at *
    go_enter Try.func13, Try.ntmps13
    go_wp2_with (first
      | (go_at_call 9; refine (HC.out _).mono ?_; rw [HE.out]; rintro e W1 ⟨rfl, hb1⟩; replace kB := kB.below hb1 kB.lt; replace hB := chain hB hb1; obtain ⟨c0, c1, c2, c3, c4, c5, c6⟩ := kB.c7; clear hb1)
      | (go_at_call 32; refine (HPI.out _).mono ?_; rintro e W2 ⟨v2, rfl, hv2, hb2⟩; replace hB := chain hB hb2; obtain ⟨va, vm, vc, rfl⟩ := hv2.shape3)
      | (go_at_call 37; refine (refSumS_any _ _ _ (by have := HLE.out; omega) hv2).mono ?_; rintro e W3 ⟨v3, rfl, hv3, hb3⟩; have hcv := str_of _ hv3))
    go_ret
    exact ⟨rfl, chain hB hb3⟩
  · have HE := Lib.hid (errI_bad hm)
    have e1 : keyB i = ⟨#[]⟩ := if_neg hm
    rw [e1]
    clear hm e1
    go_enter Try.func13, Try.ntmps13
    go_wp2_with (first
      | (go_at_call 9; refine (HC.out _).mono ?_; rw [HE.out]; rintro e W1 ⟨rfl, hb1⟩))
    go_ret
    exact ⟨rfl, chain hB hb1⟩

set_option maxRecDepth 100000 in
set_option maxHeartbeats 2000000 in
theorem refDigest_any (i : Trf) (v : Sid) (hv4 : Ok4 v.a0 v.a1 v.a2 v.a3) (w : World) :
    Calls Try.prog 15 #[ivv i, svv v] w fun e W' => e = .returned (.string (digB i v)) ∧ Below w.heap.size w W' := by
  have hmx : Try.prog.follows .mixedOrders = true := by kernel_rfl
  have kB : Blk ((w.alloc (.cells (ivc i).toArray 23)).alloc (.cells (svc v).toArray 28)) w.heap.size 23 (ivc i) := (Blk.new w 23 (ivc i)).alloc _
  have kV : Blk ((w.alloc (.cells (ivc i).toArray 23)).alloc (.cells (svc v).toArray 28)) (w.heap.size + 1) 28 (svc v) := Blk.new' (by simp)
  have hB := chainA (chain0 w (.cells (ivc i).toArray 23)) (.cells (svc v).toArray 28)
  have HC := Lib.hid (refInv_any i)
  have HS := Lib.hid (refVar_any v)
  by_cases hm : maybeI i
  · have HE := Lib.hid (errI_zero hm)
    by_cases hn : maybeV v
    · have HF := Lib.hid (errV_zero hn)
      have e1 : digB i v = sumS (putV (txtS ([], 0) (keyB i)) v).1 := if_pos ⟨hm, hn⟩
      rw [e1]
      have hlen := (okS_dig i v).2
      have HLE := Lib.hid hlen
      clear hm hn e1 hlen
      have HK := Lib.hid (refKey_any i)
      have HT := Lib.hid (fun W => refText6_any okS_new (.slice none 0 0) (keyB i) W (BSl.nil _ _ _))
      have HP := Lib.hid (fun va W (h : BSl 0 W.heap.size W va (txtS ([], 0) (keyB i)).1) => refPutVar_any (okS_txt okS_new (keyB i)) va v hv4 W h)
      generalize keyB i = kk at *
      generalize txtS ([], 0) kk = s1 at *
      generalize putV s1 v = s2 at *
      go_enter Try.func15, Try.ntmps15
      go_upto_region 3 with (first
        | (go_at_call 9; refine (HC.out _).mono ?_; rw [HE.out]; rintro e W1 ⟨rfl, hb1⟩; replace kB := kB.below hb1 kB.lt; replace kV := kV.below hb1 kV.lt; replace hB := chain hB hb1; obtain ⟨d0, d1, d2, d3, d4⟩ := kV.c5; clear hb1)
        | (go_at_call 11; refine (HS.out _).mono ?_; rw [HF.out]; rintro e W1 ⟨rfl, hb1⟩; replace kB := kB.below hb1 kB.lt; replace kV := kV.below hb1 kV.lt; replace hB := chain hB hb1; clear hb1 d0 d1 d2 d3 d4))
      refine wp_region_held_drew (S := fun W => Blk W w.heap.size 23 (ivc i) ∧ Blk W (w.heap.size + 1) 28 (svc v)) hmx ⟨kB, kV⟩ ?_
      intro hS
      replace hB := hB.drew
      clear kB kV
      generalize World.drew _ = Y at *
      refine' wpAnyH_take (i := 0) (oi := _) (v := _) ?hi1 (by kernel_rfl) (by kernel_rfl) (by kernel_rfl) ?hQ1 (Or.inl ⟨?hw1, ?hy1⟩) hS ?rest1
      case hi1 => simp only [List.getElem?_toArray, List.getElem?_cons_zero]; rfl
      case hQ1 => exact fun _ _ _ h => h
      case hw1 => rfl
      case hy1 => intro W' hS'; go_simp; with_reducible rfl
      try simp only [Act.put, List.setIfInBounds_toArray, List.set_cons_zero, List.set_cons_succ]
      refine' wpAnyH_take (i := 1) (oi := _) (v := _) ?hi2 (by kernel_rfl) (by kernel_rfl) (by kernel_rfl) ?hQ2 (Or.inl ⟨?hw2, ?hy2⟩) hS ?rest2
      case hi2 => simp only [List.getElem?_toArray, List.getElem?_cons_succ, List.getElem?_cons_zero]; rfl
      case hQ2 => exact fun _ _ _ h => h
      case hw2 => rfl
      case hy2 => intro W' hS'; obtain ⟨c0, c1, c2, c3, c4, c5, c6⟩ := Blk.c7 hS'.1; go_simp; with_reducible rfl
      try simp only [Act.put, List.setIfInBounds_toArray, List.set_cons_zero, List.set_cons_succ]
      refine' wpAnyH_take (i := 4) (oi := _) (v := _) ?hi3 (by kernel_rfl) (by kernel_rfl) (by kernel_rfl) ?hQ3 (Or.inl ⟨?hw3, ?hy3⟩) hS ?rest3
      case hi3 => simp only [List.getElem?_toArray, List.getElem?_cons_succ, List.getElem?_cons_zero]; rfl
      case hQ3 => exact fun _ _ _ h => h
      case hw3 => rfl
      case hy3 => intro W' hS'; obtain ⟨c0, c1, c2, c3, c4⟩ := Blk.c5 hS'.2; go_simp; with_reducible rfl
      try simp only [Act.put, List.setIfInBounds_toArray, List.set_cons_zero, List.set_cons_succ]
      refine wpAnyH_ready (rs := [2]) (by kernel_rfl) (by simp) ?_
      refine' AllReadyH.cons (o := _) ?ho4 (fun K hK => ?st4) AllReadyH.nil
      case ho4 => simp only [List.getElem?_toArray, List.getElem?_cons_succ, List.getElem?_cons_zero]; rfl
      case st4 =>
        go_simp
        refine (HK.out _).mono ?_
        rintro e Y1 ⟨rfl, hb⟩
        refine hK.out _ _ ⟨hS.1.below hb hS.1.lt, hS.2.below hb hS.2.lt⟩ (fun hS => ?_)
        clear hK K
        try simp only [Act.put, List.setIfInBounds_toArray, List.set_cons_zero, List.set_cons_succ]
        replace hB := chain hB hb
        clear hb
        refine wpAnyH_ready (rs := [3]) (by kernel_rfl) (by simp) ?_
        refine' AllReadyH.cons (o := _) ?ho5 (fun K hK => ?st5) AllReadyH.nil
        case ho5 => simp only [List.getElem?_toArray, List.getElem?_cons_succ, List.getElem?_cons_zero]; rfl
        case st5 =>
          go_simp
          refine (HT.out _).mono ?_
          rintro e Y1 ⟨v2, rfl, hv2, hb⟩
          refine hK.out _ _ ⟨hS.1.below hb hS.1.lt, hS.2.below hb hS.2.lt⟩ (fun hS => ?_)
          clear hK K
          try simp only [Act.put, List.setIfInBounds_toArray, List.set_cons_zero, List.set_cons_succ]
          replace hB := chain hB hb
          clear hb
          refine wpAnyH_ready (rs := [5]) (by kernel_rfl) (by simp) ?_
          refine' AllReadyH.cons (o := _) ?ho6 (fun K hK => ?st6) AllReadyH.nil
          case ho6 => simp only [List.getElem?_toArray, List.getElem?_cons_succ, List.getElem?_cons_zero]; rfl
          case st6 =>
            go_simp
            refine (HP.out _ _ hv2).mono ?_
            rintro e Y1 ⟨v3, rfl, hv3, hb⟩
            refine hK.out _ _ ⟨hS.1.below hb hS.1.lt, hS.2.below hb hS.2.lt⟩ (fun hS => ?_)
            clear hK K
            try simp only [Act.put, List.setIfInBounds_toArray, List.set_cons_zero, List.set_cons_succ]
            replace hB := chain hB hb
            clear hb
            obtain ⟨va, vm, vc, rfl⟩ := hv3.shape3
            refine' wpAnyH_take (i := 6) (oi := _) (v := _) ?hi7 (by kernel_rfl) (by kernel_rfl) (by kernel_rfl) ?hQ7 (Or.inl ⟨?hw7, ?hy7⟩) hS ?rest7
            case hi7 => simp only [List.getElem?_toArray, List.getElem?_cons_succ, List.getElem?_cons_zero]; rfl
            case hQ7 => exact fun _ _ _ h => h
            case hw7 => rfl
            case hy7 => intro W' hS'; have hfb := fieldB; go_simp; with_reducible rfl
            try simp only [Act.put, List.setIfInBounds_toArray, List.set_cons_zero, List.set_cons_succ]
            refine wpAnyH_ready (rs := [7]) (by kernel_rfl) (by simp) ?_
            refine' AllReadyH.cons (o := _) ?ho8 (fun K hK => ?st8) AllReadyH.nil
            case ho8 => simp only [List.getElem?_toArray, List.getElem?_cons_succ, List.getElem?_cons_zero]; rfl
            case st8 =>
              go_simp
              refine (refSumS_any _ _ _ (by have := HLE.out; omega) hv3).mono ?_
              rintro e Y1 ⟨v4, rfl, hv4', hb⟩
              refine hK.out _ _ ⟨hS.1.below hb hS.1.lt, hS.2.below hb hS.2.lt⟩ (fun hS => ?_)
              clear hK K
              try simp only [Act.put, List.setIfInBounds_toArray, List.set_cons_zero, List.set_cons_succ]
              replace hB := chain hB hb
              clear hb
              refine wpAnyH_ready (rs := [8]) (by kernel_rfl) (by simp) ?_
              refine' AllReadyH.cons (o := _) ?ho9 (fun K hK => ?st9) AllReadyH.nil
              case ho9 => simp only [List.getElem?_toArray, List.getElem?_cons_succ, List.getElem?_cons_zero]; rfl
              case st9 =>
                have hcv := str_of _ hv4'
                go_simp
                refine hK.out _ _ hS (fun hS => ?_)
                clear hK K
                try simp only [Act.put, List.setIfInBounds_toArray, List.set_cons_zero, List.set_cons_succ]
                refine' wpAnyH_take (i := 9) (oi := _) (v := _) ?hi10 (by kernel_rfl) (by kernel_rfl) (by kernel_rfl) ?hQ10 (Or.inl ⟨?hw10, ?hy10⟩) hS ?rest10
                case hi10 => simp only [List.getElem?_toArray, List.getElem?_cons_succ, List.getElem?_cons_zero]; rfl
                case hQ10 => exact fun _ _ _ h => h
                case hw10 => rfl
                case hy10 => intro W' hS'; go_simp; with_reducible rfl
                try simp only [Act.put, List.setIfInBounds_toArray, List.set_cons_zero, List.set_cons_succ]
                refine wpAnyH_done (by kernel_rfl) ?_ _
                go_wp2_with fail
                go_ret
                exact ⟨rfl, hB⟩
    · have HF := Lib.hid (errV_bad hn)
      have e1 : digB i v = ⟨#[]⟩ := if_neg fun h => hn h.2
      rw [e1]
      clear hm hn e1
      go_enter Try.func15, Try.ntmps15
      go_wp2_with (first
        | (go_at_call 9; refine (HC.out _).mono ?_; rw [HE.out]; rintro e W1 ⟨rfl, hb1⟩; replace kV := kV.below hb1 kV.lt; obtain ⟨d0, d1, d2, d3, d4⟩ := kV.c5)
        | (go_at_call 11; refine (HS.out _).mono ?_; rw [HF.out]; rintro e W2 ⟨rfl, hb2⟩))
      go_ret
      exact ⟨rfl, chain (chain hB hb1) hb2⟩
  · have HE := Lib.hid (errI_bad hm)
    have e1 : digB i v = ⟨#[]⟩ := if_neg fun h => hm h.1
    rw [e1]
    clear hm e1
    go_enter Try.func15, Try.ntmps15
    go_wp2_with (first
      | (go_at_call 9; refine (HC.out _).mono ?_; rw [HE.out]; rintro e W1 ⟨rfl, hb1⟩))
    go_ret
    exact ⟨rfl, chain hB hb1⟩

set_option maxRecDepth 100000 in
set_option maxHeartbeats 2000000 in
theorem refPayload_any (act : Int) (key : ByteArray) {a0 a1 a2 a3 : Nat} (h4 : Ok4 a0 a1 a2 a3) (w : World) :
    Calls Try.prog 17 #[.int .i64 act, .string key, wv a0 a1 a2 a3] w (OctsL (payL act key a0 a1 a2 a3) w) := by
  have hmx : Try.prog.follows .mixedOrders = true := by kernel_rfl
  by_cases hx0 : act < 1
  · rw [payL_no (by omega)]
    go_enter Try.func17, Try.ntmps17
    go_wp2
    go_ret
    exact ⟨_, rfl, BSl.nil _ _ _, chain0 _ _⟩
  by_cases hx1 : 2 < act
  · rw [payL_no (by omega)]
    go_enter Try.func17, Try.ntmps17
    go_wp2
    go_ret
    exact ⟨_, rfl, BSl.nil _ _ _, chain0 _ _⟩
  by_cases hk : key.size = 32
  · rw [payL_yes (by omega) hk]
    have q1 : ((key.size : Int) == 32) = true := by rw [hk]; rfl
    have q2 : ((key.size : Int) != 32) = false := by rw [hk]; rfl
    clear hk
    have kB : BlkW (w.alloc (.cells #[.int .u64 (a0 : Nat), .int .u64 (a1 : Nat), .int .u64 (a2 : Nat), .int .u64 (a3 : Nat)] 26)) w.heap.size a0 a1 a2 a3 := Blk.new w _ [_, _, _, _]
    have hB := chain0 w (.cells #[.int .u64 (a0 : Nat), .int .u64 (a1 : Nat), .int .u64 (a2 : Nat), .int .u64 (a3 : Nat)] 26)
    go_enter Try.func17, Try.ntmps17
    go_upto_region 3 with fail
    clear q1 q2
    refine wp_region_held_drew (S := fun W => BlkW W w.heap.size a0 a1 a2 a3) hmx kB ?_
    intro hS
    replace hB := hB.drew
    clear kB
    generalize World.drew _ = Y at *
    refine' wpAnyH_take (i := 0) (oi := _) (v := _) ?hi11 (by kernel_rfl) (by kernel_rfl) (by kernel_rfl) ?hQ11 (Or.inl ⟨?hw11, ?hy11⟩) hS ?rest11
    case hi11 => simp only [List.getElem?_toArray, List.getElem?_cons_zero]; rfl
    case hQ11 => exact fun _ _ _ h => h
    case hw11 => rfl
    case hy11 => intro W' hS'; go_simp; with_reducible rfl
    try simp only [Act.put, List.setIfInBounds_toArray, List.set_cons_zero, List.set_cons_succ]
    refine' wpAnyH_take (i := 2) (oi := _) (v := _) ?hi12 (by kernel_rfl) (by kernel_rfl) (by kernel_rfl) ?hQ12 (Or.inl ⟨?hw12, ?hy12⟩) hS ?rest12
    case hi12 => simp only [List.getElem?_toArray, List.getElem?_cons_succ, List.getElem?_cons_zero]; rfl
    case hQ12 => exact fun _ _ _ h => h
    case hw12 => rfl
    case hy12 => intro W' hS'; go_simp; with_reducible rfl
    try simp only [Act.put, List.setIfInBounds_toArray, List.set_cons_zero, List.set_cons_succ]
    refine' wpAnyH_take (i := 4) (oi := _) (v := _) ?hi13 (by kernel_rfl) (by kernel_rfl) (by kernel_rfl) ?hQ13 (Or.inl ⟨?hw13, ?hy13⟩) hS ?rest13
    case hi13 => simp only [List.getElem?_toArray, List.getElem?_cons_succ, List.getElem?_cons_zero]; rfl
    case hQ13 => exact fun _ _ _ h => h
    case hw13 => rfl
    case hy13 => intro W' hS'; go_simp; with_reducible rfl
    try simp only [Act.put, List.setIfInBounds_toArray, List.set_cons_zero, List.set_cons_succ]
    refine' wpAnyH_take (i := 6) (oi := _) (v := _) ?hi14 (by kernel_rfl) (by kernel_rfl) (by kernel_rfl) ?hQ14 (Or.inl ⟨?hw14, ?hy14⟩) hS ?rest14
    case hi14 => simp only [List.getElem?_toArray, List.getElem?_cons_succ, List.getElem?_cons_zero]; rfl
    case hQ14 => exact fun _ _ _ h => h
    case hw14 => rfl
    case hy14 => intro W' hS'; obtain ⟨c0, c1, c2, c3⟩ := Blk.c4 hS'; go_simp; with_reducible rfl
    try simp only [Act.put, List.setIfInBounds_toArray, List.set_cons_zero, List.set_cons_succ]
    refine wpAnyH_ready (rs := [1]) (by kernel_rfl) (by simp) ?_
    refine' AllReadyH.cons (o := _) ?ho15 (fun K hK => ?st15) AllReadyH.nil
    case ho15 => simp only [List.getElem?_toArray, List.getElem?_cons_succ, List.getElem?_cons_zero]; rfl
    case st15 =>
      go_simp
      refine (refText6_any okS_new (.slice none 0 0) actB _ (BSl.nil _ _ _)).mono ?_
      rintro e Y1 ⟨v2, rfl, hv2, hb⟩
      refine hK.out _ _ (hS.below hb hS.lt) (fun hS => ?_)
      clear hK K
      try simp only [Act.put, List.setIfInBounds_toArray, List.set_cons_zero, List.set_cons_succ]
      replace hB := chain hB hb
      clear hb
      refine wpAnyH_ready (rs := [3]) (by kernel_rfl) (by simp) ?_
      refine' AllReadyH.cons (o := _) ?ho16 (fun K hK => ?st16) AllReadyH.nil
      case ho16 => simp only [List.getElem?_toArray, List.getElem?_cons_succ, List.getElem?_cons_zero]; rfl
      case st16 =>
        go_simp
        refine (refNum6_any (okS_txt okS_new _) _ act _ hv2).mono ?_
        rintro e Y1 ⟨v3, rfl, hv3, hb⟩
        refine hK.out _ _ (hS.below hb hS.lt) (fun hS => ?_)
        clear hK K
        try simp only [Act.put, List.setIfInBounds_toArray, List.set_cons_zero, List.set_cons_succ]
        replace hB := chain hB hb
        clear hb
        refine wpAnyH_ready (rs := [5]) (by kernel_rfl) (by simp) ?_
        refine' AllReadyH.cons (o := _) ?ho17 (fun K hK => ?st17) AllReadyH.nil
        case ho17 => simp only [List.getElem?_toArray, List.getElem?_cons_succ, List.getElem?_cons_zero]; rfl
        case st17 =>
          go_simp
          refine (refText6_any (okS_num (okS_txt okS_new _) _) _ key _ hv3).mono ?_
          rintro e Y1 ⟨v4, rfl, hv4, hb⟩
          refine hK.out _ _ (hS.below hb hS.lt) (fun hS => ?_)
          clear hK K
          try simp only [Act.put, List.setIfInBounds_toArray, List.set_cons_zero, List.set_cons_succ]
          replace hB := chain hB hb
          clear hb
          refine wpAnyH_ready (rs := [7]) (by kernel_rfl) (by simp) ?_
          refine' AllReadyH.cons (o := _) ?ho18 (fun K hK => ?st18) AllReadyH.nil
          case ho18 => simp only [List.getElem?_toArray, List.getElem?_cons_succ, List.getElem?_cons_zero]; rfl
          case st18 =>
            go_simp
            refine (refWide6_any (okS_txt (okS_num (okS_txt okS_new _) _) _) _ h4 _ hv4).mono ?_
            rintro e Y1 ⟨v5, rfl, hv5, hb⟩
            refine hK.out _ _ (hS.below hb hS.lt) (fun hS => ?_)
            clear hK K
            try simp only [Act.put, List.setIfInBounds_toArray, List.set_cons_zero, List.set_cons_succ]
            replace hB := chain hB hb
            clear hb
            obtain ⟨va, vm, vc, rfl⟩ := hv5.shape3
            refine' wpAnyH_take (i := 8) (oi := _) (v := _) ?hi19 (by kernel_rfl) (by kernel_rfl) (by kernel_rfl) ?hQ19 (Or.inl ⟨?hw19, ?hy19⟩) hS ?rest19
            case hi19 => simp only [List.getElem?_toArray, List.getElem?_cons_succ, List.getElem?_cons_zero]; rfl
            case hQ19 => exact fun _ _ _ h => h
            case hw19 => rfl
            case hy19 => intro W' hS'; have hfb := fieldB; go_simp; with_reducible rfl
            try simp only [Act.put, List.setIfInBounds_toArray, List.set_cons_zero, List.set_cons_succ]
            refine' wpAnyH_take (i := 9) (oi := _) (v := _) ?hi20 (by kernel_rfl) (by kernel_rfl) (by kernel_rfl) ?hQ20 (Or.inl ⟨?hw20, ?hy20⟩) hS ?rest20
            case hi20 => simp only [List.getElem?_toArray, List.getElem?_cons_succ, List.getElem?_cons_zero]; rfl
            case hQ20 => exact fun _ _ _ h => h
            case hw20 => rfl
            case hy20 => intro W' hS'; go_simp; with_reducible rfl
            try simp only [Act.put, List.setIfInBounds_toArray, List.set_cons_zero, List.set_cons_succ]
            refine wpAnyH_done (by kernel_rfl) ?_ _
            go_wp2_with fail
            go_ret
            exact ⟨_, rfl, hv5, hB⟩
  · rw [payL_no (fun h => hk h.2)]
    have q1 : ((key.size : Int) == 32) = false := by simpa using (show ¬ (key.size : Int) = 32 by omega)
    have q2 : ((key.size : Int) != 32) = true := by simpa using (show ¬ (key.size : Int) = 32 by omega)
    clear hk
    go_enter Try.func17, Try.ntmps17
    go_wp2
    go_ret
    exact ⟨_, rfl, BSl.nil _ _ _, chain0 _ _⟩
end Go.Proofs.Ytififfadodjmeaa
