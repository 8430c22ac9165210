/-
  DealPayloads answers true at every input, and leaves its arguments as they are.
  The walk of DealPayloads: payloads of unlike acts, or fees, are unlike.
-/
import Derived.Deep.Cut
import Derived.ChangeMaps5
import Derived.Test.YtififfadodjmeaaK14
namespace Go.Proofs.Ytififfadodjmeaa
open Go.RowKit Go.Shelf

/-- 'string(b)', at this seat. -/
theorem strOf (W : World) {lo hi : Nat} {sv : Value} {l : List UInt8} (h : BSl lo hi W sv l) : (convert 37 9 sv).run Try.prog W = .ok (.string ⟨l.toArray⟩) W :=
  run_string (P := Try.prog) 37 5 9 Try.underlying37 Try.underlying5 Try.underlying9 W h
theorem empty3 : ((⟨#[]⟩ ++ ⟨#[]⟩ ++ ⟨#[]⟩ : ByteArray).toList.isEmpty) = true := by first | (simp; done) | kernel_rfl
theorem list_beq {a b : List UInt8} : (a == b) = decide (a = b) := by
  by_cases h : a = b
  · subst h; simp
  · rw [decide_eq_false h]; simpa using h

set_option maxRecDepth 100000 in
set_option maxHeartbeats 2000000 in
theorem dealPayloads_any (key : ByteArray) {a0 a1 a2 a3 b0 b1 b2 b3 : Nat} (ha : Ok4 a0 a1 a2 a3) (hb4 : Ok4 b0 b1 b2 b3) (w : World) :
    Calls Try.prog 6 #[.string key, wv a0 a1 a2 a3, wv b0 b1 b2 b3] w fun e W' => e = .returned (.bool true) ∧ Below w.heap.size w W' := by
  have hmx : Try.prog.follows .mixedOrders = true := by kernel_rfl
  have kA : BlkW ((w.alloc (.cells #[.int .u64 (a0 : Nat), .int .u64 (a1 : Nat), .int .u64 (a2 : Nat), .int .u64 (a3 : Nat)] 26)).alloc (.cells #[.int .u64 (b0 : Nat), .int .u64 (b1 : Nat), .int .u64 (b2 : Nat), .int .u64 (b3 : Nat)] 26)) w.heap.size a0 a1 a2 a3 := (Blk.new w _ [_, _, _, _]).alloc _
  have kB : BlkW ((w.alloc (.cells #[.int .u64 (a0 : Nat), .int .u64 (a1 : Nat), .int .u64 (a2 : Nat), .int .u64 (a3 : Nat)] 26)).alloc (.cells #[.int .u64 (b0 : Nat), .int .u64 (b1 : Nat), .int .u64 (b2 : Nat), .int .u64 (b3 : Nat)] 26)) (w.heap.size + 1) b0 b1 b2 b3 := Blk.new' (vs := [_, _, _, _]) (by simp)
  have hB := chainA (chain0 w (.cells #[.int .u64 (a0 : Nat), .int .u64 (a1 : Nat), .int .u64 (a2 : Nat), .int .u64 (a3 : Nat)] 26)) (.cells #[.int .u64 (b0 : Nat), .int .u64 (b1 : Nat), .int .u64 (b2 : Nat), .int .u64 (b3 : Nat)] 26)
  have HX := Lib.hid (fun W => payload_any 1 key ha W)
  have HY := Lib.hid (fun W => payload_any 2 key ha W)
  have HZ := Lib.hid (fun W => payload_any 1 key hb4 W)
  have HM1 : Hid (key.size = 32 → payL 1 key a0 a1 a2 a3 ≠ payL 2 key a0 a1 a2 a3 ∧ (payL 1 key a0 a1 a2 a3 = payL 1 key b0 b1 b2 b3 ↔ a0 = b0 ∧ a1 = b1 ∧ a2 = b2 ∧ a3 = b3) ∧ (payL 1 key a0 a1 a2 a3).length = 77 ∧ (payL 2 key a0 a1 a2 a3).length = 77) :=
    Lib.hid fun hk => ⟨pay_acts key hk _ _ _ _ _ _ _ _, pay_fees hk ha hb4, pay_len (by decide) hk _ _ _ _, pay_len (by decide) hk _ _ _ _⟩
  have HM2 : Hid (key.size ≠ 32 → payL 1 key a0 a1 a2 a3 = [] ∧ payL 2 key a0 a1 a2 a3 = [] ∧ payL 1 key b0 b1 b2 b3 = []) :=
    Lib.hid fun hk => ⟨payL_no (fun h => hk h.2), payL_no (fun h => hk h.2), payL_no (fun h => hk h.2)⟩
  generalize payL 1 key a0 a1 a2 a3 = x at *
  generalize payL 2 key a0 a1 a2 a3 = y at *
  generalize payL 1 key b0 b1 b2 b3 = z at *
  go_enter Try.func6, Try.ntmps6
  go_upto_region 3 with (first
    | (go_at_call 18; refine (alive_any _).mono ?_; rintro e W1 ⟨rfl, hb⟩; replace kA := kA.below hb kA.lt; replace kB := kB.below hb kB.lt; replace hB := chain hB hb; clear hb))
  refine wp_region_held_drew (S := fun W => BlkW W w.heap.size a0 a1 a2 a3 ∧ BlkW W (w.heap.size + 1) b0 b1 b2 b3) hmx ⟨kA, kB⟩ ?_
  intro hS
  replace hB := hB.drew
  replace kA : BlkW W1.drew w.heap.size a0 a1 a2 a3 := kA
  replace kB : BlkW W1.drew (w.heap.size + 1) b0 b1 b2 b3 := kB
  generalize World.drew _ = Y at *
  refine' wpAnyH_take (i := 0) (oi := _) (v := _) ?hi1 (by kernel_rfl) (by kernel_rfl) (by kernel_rfl) ?hQ1 (Or.inl ⟨?hw1, ?hy1⟩) hS ?rest1
  case hi1 => simp only [List.getElem?_toArray, List.getElem?_cons_zero]; rfl
  case hQ1 => exact fun _ _ _ h => h
  case hw1 => rfl
  case hy1 => intro W' hS'; go_simp; with_reducible rfl
  try simp only [Act.put, List.setIfInBounds_toArray, List.set_cons_zero, List.set_cons_succ]
  refine' wpAnyH_take (i := 1) (oi := _) (v := _) ?hi2 (by kernel_rfl) (by kernel_rfl) (by kernel_rfl) ?hQ2 (Or.inl ⟨?hw2, ?hy2⟩) hS ?rest2
  case hi2 => simp only [List.getElem?_toArray, List.getElem?_cons_succ, List.getElem?_cons_zero]; rfl
  case hQ2 => exact fun _ _ _ h => h
  case hw2 => rfl
  case hy2 => intro W' hS'; obtain ⟨c0, c1, c2, c3⟩ := Blk.c4 hS'.1; go_simp; with_reducible rfl
  try simp only [Act.put, List.setIfInBounds_toArray, List.set_cons_zero, List.set_cons_succ]
  refine' wpAnyH_take (i := 4) (oi := _) (v := _) ?hi3 (by kernel_rfl) (by kernel_rfl) (by kernel_rfl) ?hQ3 (Or.inl ⟨?hw3, ?hy3⟩) hS ?rest3
  case hi3 => simp only [List.getElem?_toArray, List.getElem?_cons_succ, List.getElem?_cons_zero]; rfl
  case hQ3 => exact fun _ _ _ h => h
  case hw3 => rfl
  case hy3 => intro W' hS'; go_simp; with_reducible rfl
  try simp only [Act.put, List.setIfInBounds_toArray, List.set_cons_zero, List.set_cons_succ]
  refine' wpAnyH_take (i := 5) (oi := _) (v := _) ?hi4 (by kernel_rfl) (by kernel_rfl) (by kernel_rfl) ?hQ4 (Or.inl ⟨?hw4, ?hy4⟩) hS ?rest4
  case hi4 => simp only [List.getElem?_toArray, List.getElem?_cons_succ, List.getElem?_cons_zero]; rfl
  case hQ4 => exact fun _ _ _ h => h
  case hw4 => rfl
  case hy4 => intro W' hS'; obtain ⟨c0, c1, c2, c3⟩ := Blk.c4 hS'.1; go_simp; with_reducible rfl
  try simp only [Act.put, List.setIfInBounds_toArray, List.set_cons_zero, List.set_cons_succ]
  refine' wpAnyH_take (i := 8) (oi := _) (v := _) ?hi5 (by kernel_rfl) (by kernel_rfl) (by kernel_rfl) ?hQ5 (Or.inl ⟨?hw5, ?hy5⟩) hS ?rest5
  case hi5 => simp only [List.getElem?_toArray, List.getElem?_cons_succ, List.getElem?_cons_zero]; rfl
  case hQ5 => exact fun _ _ _ h => h
  case hw5 => rfl
  case hy5 => intro W' hS'; go_simp; with_reducible rfl
  try simp only [Act.put, List.setIfInBounds_toArray, List.set_cons_zero, List.set_cons_succ]
  refine' wpAnyH_take (i := 9) (oi := _) (v := _) ?hi6 (by kernel_rfl) (by kernel_rfl) (by kernel_rfl) ?hQ6 (Or.inl ⟨?hw6, ?hy6⟩) hS ?rest6
  case hi6 => simp only [List.getElem?_toArray, List.getElem?_cons_succ, List.getElem?_cons_zero]; rfl
  case hQ6 => exact fun _ _ _ h => h
  case hw6 => rfl
  case hy6 => intro W' hS'; obtain ⟨c0, c1, c2, c3⟩ := Blk.c4 hS'.2; go_simp; with_reducible rfl
  try simp only [Act.put, List.setIfInBounds_toArray, List.set_cons_zero, List.set_cons_succ]
  refine wpAnyH_ready (rs := [2]) (by kernel_rfl) (by simp) ?_
  refine' AllReadyH.cons (o := _) ?ho7 (fun K hK => ?st7) AllReadyH.nil
  case ho7 => simp only [List.getElem?_toArray, List.getElem?_cons_succ, List.getElem?_cons_zero]; rfl
  case st7 =>
    go_simp
    refine (HX.out _).mono ?_
    rintro e Y1 ⟨vx, rfl, hvx, hb⟩
    refine hK.out _ _ ⟨hS.1.below hb hS.1.lt, hS.2.below hb hS.2.lt⟩ (fun hS => ?_)
    clear hK K
    try simp only [Act.put, List.setIfInBounds_toArray, List.set_cons_zero, List.set_cons_succ]
    refine wpAnyH_mono (S' := fun W => Below Y1.heap.size Y1 W) (fun W h => ⟨(kA.below hb kA.lt).below h (kA.below hb kA.lt).lt, (kB.below hb kB.lt).below h (kB.below hb kB.lt).lt⟩) _ _ _ _ ?_
    replace hS : Below Y1.heap.size Y1 Y1 := Below.refl _ _
    replace kA := kA.below hb kA.lt
    replace kB := kB.below hb kB.lt
    replace hB := chain hB hb
    refine' wpAnyH_take (i := 3) (oi := _) (v := _) ?hi8 (by kernel_rfl) (by kernel_rfl) (by kernel_rfl) ?hQ8 (Or.inl ⟨?hw8, ?hy8⟩) hS ?rest8
    case hi8 => simp only [List.getElem?_toArray, List.getElem?_cons_succ, List.getElem?_cons_zero]; rfl
    case hQ8 => exact fun _ _ _ h => h
    case hw8 => rfl
    case hy8 => intro W' hS'; have hcv := strOf W' (hvx.below hS' (Nat.le_refl _)); go_simp; with_reducible rfl
    try simp only [Act.put, List.setIfInBounds_toArray, List.set_cons_zero, List.set_cons_succ]
    clear hb
    refine wpAnyH_ready (rs := [6]) (by kernel_rfl) (by simp) ?_
    refine' AllReadyH.cons (o := _) ?ho9 (fun K hK => ?st9) AllReadyH.nil
    case ho9 => simp only [List.getElem?_toArray, List.getElem?_cons_succ, List.getElem?_cons_zero]; rfl
    case st9 =>
      go_simp
      refine (HY.out _).mono ?_
      rintro e Y2 ⟨vy, rfl, hvy, hb⟩
      refine hK.out _ _ hb (fun hS => ?_)
      clear hK K
      try simp only [Act.put, List.setIfInBounds_toArray, List.set_cons_zero, List.set_cons_succ]
      refine wpAnyH_mono (S' := fun W => Below Y2.heap.size Y2 W) (fun W h => chain hb h) _ _ _ _ ?_
      replace hS : Below Y2.heap.size Y2 Y2 := Below.refl _ _
      replace kA := kA.below hb kA.lt
      replace kB := kB.below hb kB.lt
      replace hB := chain hB hb
      refine' wpAnyH_take (i := 7) (oi := _) (v := _) ?hi10 (by kernel_rfl) (by kernel_rfl) (by kernel_rfl) ?hQ10 (Or.inl ⟨?hw10, ?hy10⟩) hS ?rest10
      case hi10 => simp only [List.getElem?_toArray, List.getElem?_cons_succ, List.getElem?_cons_zero]; rfl
      case hQ10 => exact fun _ _ _ h => h
      case hw10 => rfl
      case hy10 => intro W' hS'; have hcv := strOf W' (hvy.below hS' (Nat.le_refl _)); go_simp; with_reducible rfl
      try simp only [Act.put, List.setIfInBounds_toArray, List.set_cons_zero, List.set_cons_succ]
      clear hb
      refine wpAnyH_ready (rs := [10]) (by kernel_rfl) (by simp) ?_
      refine' AllReadyH.cons (o := _) ?ho11 (fun K hK => ?st11) AllReadyH.nil
      case ho11 => simp only [List.getElem?_toArray, List.getElem?_cons_succ, List.getElem?_cons_zero]; rfl
      case st11 =>
        go_simp
        refine (HZ.out _).mono ?_
        rintro e Y3 ⟨vz, rfl, hvz, hb⟩
        refine hK.out _ _ hb (fun hS => ?_)
        clear hK K
        try simp only [Act.put, List.setIfInBounds_toArray, List.set_cons_zero, List.set_cons_succ]
        refine wpAnyH_mono (S' := fun W => Below Y3.heap.size Y3 W) (fun W h => chain hb h) _ _ _ _ ?_
        replace hS : Below Y3.heap.size Y3 Y3 := Below.refl _ _
        replace kA := kA.below hb kA.lt
        replace kB := kB.below hb kB.lt
        replace hB := chain hB hb
        refine' wpAnyH_take (i := 11) (oi := _) (v := _) ?hi12 (by kernel_rfl) (by kernel_rfl) (by kernel_rfl) ?hQ12 (Or.inl ⟨?hw12, ?hy12⟩) hS ?rest12
        case hi12 => simp only [List.getElem?_toArray, List.getElem?_cons_succ, List.getElem?_cons_zero]; rfl
        case hQ12 => exact fun _ _ _ h => h
        case hw12 => rfl
        case hy12 => intro W' hS'; have hcv := strOf W' (hvz.below hS' (Nat.le_refl _)); go_simp; with_reducible rfl
        try simp only [Act.put, List.setIfInBounds_toArray, List.set_cons_zero, List.set_cons_succ]
        clear hb
        refine' wpAnyH_take (i := 12) (oi := _) (v := _) ?hi13 (by kernel_rfl) (by kernel_rfl) (by kernel_rfl) ?hQ13 (Or.inl ⟨?hw13, ?hy13⟩) hS ?rest13
        case hi13 => simp only [List.getElem?_toArray, List.getElem?_cons_succ, List.getElem?_cons_zero]; rfl
        case hQ13 => exact fun _ _ _ h => h
        case hw13 => rfl
        case hy13 => intro W' hS'; go_simp; with_reducible rfl
        try simp only [Act.put, List.setIfInBounds_toArray, List.set_cons_zero, List.set_cons_succ]
        refine' wpAnyH_take (i := 13) (oi := _) (v := _) ?hi14 (by kernel_rfl) (by kernel_rfl) (by kernel_rfl) ?hQ14 (Or.inl ⟨?hw14, ?hy14⟩) hS ?rest14
        case hi14 => simp only [List.getElem?_toArray, List.getElem?_cons_succ, List.getElem?_cons_zero]; rfl
        case hQ14 => exact fun _ _ _ h => h
        case hw14 => rfl
        case hy14 => intro W' hS'; go_simp; with_reducible rfl
        try simp only [Act.put, List.setIfInBounds_toArray, List.set_cons_zero, List.set_cons_succ]
        refine' wpAnyH_take (i := 14) (oi := _) (v := _) ?hi15 (by kernel_rfl) (by kernel_rfl) (by kernel_rfl) ?hQ15 (Or.inl ⟨?hw15, ?hy15⟩) hS ?rest15
        case hi15 => simp only [List.getElem?_toArray, List.getElem?_cons_succ, List.getElem?_cons_zero]; rfl
        case hQ15 => exact fun _ _ _ h => h
        case hw15 => rfl
        case hy15 => intro W' hS'; go_simp; with_reducible rfl
        try simp only [Act.put, List.setIfInBounds_toArray, List.set_cons_zero, List.set_cons_succ]
        refine wpAnyH_done (by kernel_rfl) ?_ _
        obtain ⟨c0, c1, c2, c3⟩ := Blk.c4 kA
        obtain ⟨d0, d1, d2, d3⟩ := Blk.c4 kB
        clear hS hvx hvy hvz HX HY HZ
        by_cases hk : key.size = 32
        · obtain ⟨m1, m2, m3, m4⟩ := HM1.out hk
          have q1 : ((key.size : Int) == 32) = true := by rw [hk]; rfl
          have q2 : ((key.size : Int) != 32) = false := by rw [hk]; rfl
          have t1 : (x == y) = false := by rw [list_beq]; exact decide_eq_false m1
          have hweq := @run_equalIn_wide
          have t4 : (x.length : Int) = 77 := by rw [m3]; rfl
          have t5 : (y.length : Int) = 77 := by rw [m4]; rfl
          by_cases hab : a0 = b0 ∧ a1 = b1 ∧ a2 = b2 ∧ a3 = b3
          · have t2 : (x == z) = true := by rw [list_beq]; exact decide_eq_true (m2.2 hab)
            have t3 : wEq (a0 : Nat) (a1 : Nat) (a2 : Nat) (a3 : Nat) (b0 : Nat) (b1 : Nat) (b2 : Nat) (b3 : Nat) = true := wEq_of (by omega)
            clear m1 m2 m3 m4 hk hab HM1 HM2
            go_wp2_with fail
            go_ret
            exact ⟨rfl, hB⟩
          · have t2 : (x == z) = false := by rw [list_beq]; exact decide_eq_false (fun h => hab (m2.1 h))
            have t3 : wEq (a0 : Nat) (a1 : Nat) (a2 : Nat) (a3 : Nat) (b0 : Nat) (b1 : Nat) (b2 : Nat) (b3 : Nat) = false := wEq_not (by omega)
            clear m1 m2 m3 m4 hk hab HM1 HM2
            go_wp2_with fail
            go_ret
            exact ⟨rfl, hB⟩
        · obtain ⟨m1, m2, m3⟩ := HM2.out hk
          have q1 : ((key.size : Int) == 32) = false := by simpa using (show ¬ (key.size : Int) = 32 by omega)
          have q2 : ((key.size : Int) != 32) = true := by simpa using (show ¬ (key.size : Int) = 32 by omega)
          clear hk HM1 HM2
          subst m1 m2 m3
          go_wp2_with fail
          go_ret
          exact ⟨congrArg (fun b => Ending.returned (.bool b)) empty3, hB⟩
end Go.Proofs.Ytififfadodjmeaa

namespace Go.Proofs.Ytififfadodjmeaa
open Go.ChangeShapes Go.WideShapes Go.ChangeAt Go.RowKit Go.Deep
open Go.ChangeMaps (open_string)

set_option maxRecDepth 100000 in
theorem dealPayloads_lifted (os : Os) (started : os.Started) (H : Type) (enc : TypeId × Value → H) :
    ReturnsInHanded {} Try.checked os 6 .any (Rows.dealPayloadsSpec.pre6 enc Try.prog Try.f6 Rows.dealPayloadsRow.domain false) (Rows.dealPayloadsSpec.post enc Try.prog Try.f6 false true false false) := by
  refine returnsInHanded_of_change_sized (C := Try.checked) Try.own started (by kernel_rfl) Try.func6
    (ChangeSpec.witness6 (enc := enc) (C := Try.checked) false ⟨#[], #[.string ⟨#[]⟩, .agg #[.int .u64 0, .int .u64 0, .int .u64 0, .int .u64 0], .agg #[.int .u64 0, .int .u64 0, .int .u64 0, .int .u64 0]], []⟩ 8 (by kernel_rfl) (by kernel_rfl) (by kernel_rfl) (by kernel_rfl)) ?_
  intro W base args ds gs before hval0 hW hcnd hsz0 _
  have hval : ∀ (j : Nat) t v, Try.f6.params[j]? = some t → args[j]? = some v → Value.okWide Try.prog W .any base t v := hval0
  have hW' := hW
  obtain ⟨p, q, hA0, hV, rfl, hfz, hnd⟩ := hW
  have hA : DataW.TrodAll enc Try.prog W 0 (fun _ => true) true Try.f6.params.toList args.toList ds p := hA0
  have hsz : (DataW.weightsEach Try.prog (Try.f6.params.toList ++ Rows.dealPayloadsSpec.plain.varTypes Try.prog) (ds ++ gs)).all (· ≤ reachBytes) = true := hsz0
  rw [Try.params6] at hA hval hsz
  obtain ⟨v0, v1, v2, d0, d1, d2, p0, p1, p2, rfl, rfl, rfl, h0, h1, h2⟩ := trodAll_three hA
  obtain ⟨rfl, rfl⟩ := trodVars_none hV
  have k0 := h0
  have k1 := h1
  have k2 := h2
  have lt0 : ∀ x ∈ p0, x.block < W.heap.size := by obtain ⟨m, hm⟩ := k0; exact DataW.trod_lt m _ _ _ hm
  have lt1 : ∀ x ∈ p1, x.block < W.heap.size := by obtain ⟨m, hm⟩ := k1; exact DataW.trod_lt m _ _ _ hm
  have lt2 : ∀ x ∈ p2, x.block < W.heap.size := by obtain ⟨m, hm⟩ := k2; exact DataW.trod_lt m _ _ _ hm
  obtain ⟨s0, rfl, ds0, _, _⟩ := open_string Try.underlying9 (hval 0 9 v0 rfl rfl) h0
  have hs0 : s0.size ≤ 140737488351232 := by
    have := sized_string hsz (j := 0) (t := 9) (bytes := s0.data.toList) rfl (by rw [ds0]; rfl)
    simp only [reachBytes] at this
    exact this
  obtain ⟨u10, u11, u12, u13, hw41, rfl⟩ := open_wide (hval 1 26 v1 rfl rfl) h1
  obtain ⟨u20, u21, u22, u23, hw42, rfl⟩ := open_wide (hval 2 26 v2 rfl rfl) h2
  clear hA0 hval0
  refine (dealPayloads_any s0 hw41 hw42 W).mono fun e W' ⟨he, bel⟩ => ?_
  subst he
  exact ⟨_, rfl, _, _, _, [], _, [], hW', trodAll_mk1 (shut_bool Try.underlying4 _), (trodAll_mk3 (Below.trod Try.laidOut (by kernel_rfl) (of_decide_eq_true (by kernel_rfl)) k0 bel lt0) (Below.trod Try.laidOut (by kernel_rfl) (of_decide_eq_true (by kernel_rfl)) k1 bel lt1) (Below.trod Try.laidOut (by kernel_rfl) (of_decide_eq_true (by kernel_rfl)) k2 bel lt2)), rfl, bel.frame _, fun h => by cases h⟩

theorem dealPayloads_over : Rows.dealPayloadsRow.holds Try.pinned (OpenSpec.ofChange Rows.dealPayloadsSpec) :=
  OpenClaim.holds_of_wide 6 Try.f6 rfl rfl rfl rfl rfl rfl rfl ⟨rfl, rfl, rfl, rfl, rfl⟩ rfl rfl rfl rfl rfl (by kernel_rfl) Try.func6 (by kernel_rfl)
    (of_decide_eq_true (by kernel_rfl)) (by unfold Func.isWrapper; first | (rw [if_pos (by decide +kernel)]; kernel_rfl) | (rw [if_neg (by decide +kernel)]; exact ⟨rfl, rfl⟩))
    (fun os started H enc _ => dealPayloads_lifted os started H enc)

/-- The statement. -/
theorem dealPayloads_proved : Rows.DealPayloadsSaid := dealPayloads_over
end Go.Proofs.Ytififfadodjmeaa
