/-
  A transaction, put by the reference.
-/
import Derived.Test.YtafcngnophlhgaaK03
namespace Go.Proofs.Ytafcngnophlhgaa
open Go.RowKit Go.Shelf

theorem WW.row {T : TypeId} {vs : List Value} {w Y : World} {s s' : St} {z : Value} (h : WW T vs w Y s z) {sv : Value} (hv : BSl 0 Y.heap.size Y sv s'.1) :
    WW T vs w (Y.setRow w.heap.size [sv, .int .i64 s'.2].toArray) s' sv := by
  obtain ⟨a, m, c, rfl⟩ := h.b.shape3
  exact ⟨h.a.row [sv, .int .i64 s'.2], h.l.rowO _ (by omega), h.r.rowO _ (by omega), bsl_row hv (noOct2 h.a) _, below_setRow h.w (Nat.le_refl _) _⟩
theorem putT5_1 {t : Tr} (s : St) (h : t.kd = 1) : putT5 s t = numS s t.iv.to := if_pos h
theorem putT5_2 {t : Tr} (s : St) (h : t.kd = 2) : putT5 s t = numS s t.iv.ro := by rw [putT5, if_neg (by omega), if_pos h]
theorem putT5_4 {t : Tr} (s : St) (h : 4 ≤ t.kd ∧ t.kd ≤ 6) : putT5 s t = putV (putI s t.iv) t.vr := by rw [putT5, if_neg (by omega), if_neg (by omega), if_pos h]
theorem putT5_0 {t : Tr} (s : St) (h1 : t.kd ≠ 1) (h2 : t.kd ≠ 2) (h : ¬ (4 ≤ t.kd ∧ t.kd ≤ 6)) : putT5 s t = s := by rw [putT5, if_neg h1, if_neg h2, if_neg h]
theorem putT6_5 {t : Tr} (s : St) (h : 5 ≤ t.kd ∧ t.kd ≤ 6) : putT6 s t = txtS (wideS s t.f0 t.f1 t.f2 t.f3) t.sg := if_pos h
theorem putT6_0 {t : Tr} (s : St) (h : ¬ (5 ≤ t.kd ∧ t.kd ≤ 6)) : putT6 s t = s := if_neg h

set_option maxRecDepth 100000 in
set_option maxHeartbeats 8000000 in
theorem refPutTx_any {s : St} (hok : OkS s) (sv : Value) (t : Tr) (ht : OkT t) (w : World) (hsl : BSl 0 w.heap.size w sv s.1) :
    Calls Try.prog 9 #[.agg #[sv, .int .i64 s.2], txv t] w (RefS (putT s t) w) := by
  have hmx : Try.prog.follows .mixedOrders = true := by kernel_rfl
  have HG : Hid (putT s t = putT6 (putT5 (wideS (numS (numS (numS (numS s t.kd) t.fr) t.no) t.az) t.a0 t.a1 t.a2 t.a3) t) t) := Lib.hid rfl
  have hok4 : OkS (wideS (numS (numS (numS (numS s t.kd) t.fr) t.no) t.az) t.a0 t.a1 t.a2 t.a3) := okS_putT4 hok t
  obtain ⟨hta, htv, htf⟩ := ht
  obtain ⟨a, m, c, rfl⟩ := hsl.shape3
  go_enter Try.func9, Try.ntmps9
  go_wp2_with fail
  generalize hW0 : World.alloc _ _ = W0
  have hP : WW 30 (txc t) w W0 s (.slice a m c) := by
    have b3 := chainA (chainA (chain0 w (.cells #[.slice a m c, .int .i64 s.2] 37)) (.cells (txc t).toArray 30)) (.cells #[.slice none 0 0, .int .i64 0] 37)
    rw [← hW0]
    exact ⟨((Blk.new w _ [_, _]).alloc _).alloc _, (Blk.new' (vs := (txc t)) (by simp)).alloc _, Blk.new' (vs := [_, _]) (by simp), (hsl.below b3 (Nat.le_refl _)).mono (Nat.le_refl _) b3.size, b3⟩
  clear hW0 hsl
  refine wp_region_held_drew (S := fun W => Blk W (w.heap.size + 1) 30 (txc t)) hmx hP.l ?_
  intro hS
  replace hP := hP.drew
  generalize World.drew _ = Y at *
  refine' wpAnyH_take (i := 1) (oi := _) (v := _) ?hi1 (by kernel_rfl) (by kernel_rfl) (by kernel_rfl) ?hQ1 (Or.inl ⟨?hw1, ?hy1⟩) hS ?rest1
  case hi1 => simp only [List.getElem?_toArray, List.getElem?_cons_succ, List.getElem?_cons_zero]; rfl
  case hQ1 => exact fun _ _ _ h => h
  case hw1 => rfl
  case hy1 => intro W' hS'; go_simp; with_reducible rfl
  try simp only [Act.put, List.setIfInBounds_toArray, List.set_cons_zero, List.set_cons_succ]
  refine' wpAnyH_take (i := 2) (oi := _) (v := _) ?hi2 (by kernel_rfl) (by kernel_rfl) (by kernel_rfl) ?hQ2 (Or.inl ⟨?hw2, ?hy2⟩) hS ?rest2
  case hi2 => simp only [List.getElem?_toArray, List.getElem?_cons_succ, List.getElem?_cons_zero]; rfl
  case hQ2 => exact fun _ _ _ h => h
  case hw2 => rfl
  case hy2 => intro W' hS'; have c2 := (hS'.cell 2).trans rfl; go_simp; with_reducible rfl
  try simp only [Act.put, List.setIfInBounds_toArray, List.set_cons_zero, List.set_cons_succ]
  refine' wpAnyH_take (i := 4) (oi := _) (v := _) ?hi3 (by kernel_rfl) (by kernel_rfl) (by kernel_rfl) ?hQ3 (Or.inl ⟨?hw3, ?hy3⟩) hS ?rest3
  case hi3 => simp only [List.getElem?_toArray, List.getElem?_cons_succ, List.getElem?_cons_zero]; rfl
  case hQ3 => exact fun _ _ _ h => h
  case hw3 => rfl
  case hy3 => intro W' hS'; go_simp; with_reducible rfl
  try simp only [Act.put, List.setIfInBounds_toArray, List.set_cons_zero, List.set_cons_succ]
  refine' wpAnyH_take (i := 5) (oi := _) (v := _) ?hi4 (by kernel_rfl) (by kernel_rfl) (by kernel_rfl) ?hQ4 (Or.inl ⟨?hw4, ?hy4⟩) hS ?rest4
  case hi4 => simp only [List.getElem?_toArray, List.getElem?_cons_succ, List.getElem?_cons_zero]; rfl
  case hQ4 => exact fun _ _ _ h => h
  case hw4 => rfl
  case hy4 => intro W' hS'; have c0 := (hS'.cell 0).trans rfl; go_simp; with_reducible rfl
  try simp only [Act.put, List.setIfInBounds_toArray, List.set_cons_zero, List.set_cons_succ]
  refine' wpAnyH_take (i := 7) (oi := _) (v := _) ?hi5 (by kernel_rfl) (by kernel_rfl) (by kernel_rfl) ?hQ5 (Or.inl ⟨?hw5, ?hy5⟩) hS ?rest5
  case hi5 => simp only [List.getElem?_toArray, List.getElem?_cons_succ, List.getElem?_cons_zero]; rfl
  case hQ5 => exact fun _ _ _ h => h
  case hw5 => rfl
  case hy5 => intro W' hS'; go_simp; with_reducible rfl
  try simp only [Act.put, List.setIfInBounds_toArray, List.set_cons_zero, List.set_cons_succ]
  refine' wpAnyH_take (i := 8) (oi := _) (v := _) ?hi6 (by kernel_rfl) (by kernel_rfl) (by kernel_rfl) ?hQ6 (Or.inl ⟨?hw6, ?hy6⟩) hS ?rest6
  case hi6 => simp only [List.getElem?_toArray, List.getElem?_cons_succ, List.getElem?_cons_zero]; rfl
  case hQ6 => exact fun _ _ _ h => h
  case hw6 => rfl
  case hy6 => intro W' hS'; have c1 := (hS'.cell 1).trans rfl; go_simp; with_reducible rfl
  try simp only [Act.put, List.setIfInBounds_toArray, List.set_cons_zero, List.set_cons_succ]
  refine' wpAnyH_take (i := 10) (oi := _) (v := _) ?hi7 (by kernel_rfl) (by kernel_rfl) (by kernel_rfl) ?hQ7 (Or.inl ⟨?hw7, ?hy7⟩) hS ?rest7
  case hi7 => simp only [List.getElem?_toArray, List.getElem?_cons_succ, List.getElem?_cons_zero]; rfl
  case hQ7 => exact fun _ _ _ h => h
  case hw7 => rfl
  case hy7 => intro W' hS'; go_simp; with_reducible rfl
  try simp only [Act.put, List.setIfInBounds_toArray, List.set_cons_zero, List.set_cons_succ]
  refine' wpAnyH_take (i := 11) (oi := _) (v := _) ?hi8 (by kernel_rfl) (by kernel_rfl) (by kernel_rfl) ?hQ8 (Or.inl ⟨?hw8, ?hy8⟩) hS ?rest8
  case hi8 => simp only [List.getElem?_toArray, List.getElem?_cons_succ, List.getElem?_cons_zero]; rfl
  case hQ8 => exact fun _ _ _ h => h
  case hw8 => rfl
  case hy8 => intro W' hS'; have c3 := (hS'.cell 3).trans rfl; go_simp; with_reducible rfl
  try simp only [Act.put, List.setIfInBounds_toArray, List.set_cons_zero, List.set_cons_succ]
  refine' wpAnyH_take (i := 13) (oi := _) (v := _) ?hi9 (by kernel_rfl) (by kernel_rfl) (by kernel_rfl) ?hQ9 (Or.inl ⟨?hw9, ?hy9⟩) hS ?rest9
  case hi9 => simp only [List.getElem?_toArray, List.getElem?_cons_succ, List.getElem?_cons_zero]; rfl
  case hQ9 => exact fun _ _ _ h => h
  case hw9 => rfl
  case hy9 => intro W' hS'; go_simp; with_reducible rfl
  try simp only [Act.put, List.setIfInBounds_toArray, List.set_cons_zero, List.set_cons_succ]
  refine' wpAnyH_take (i := 14) (oi := _) (v := wv t.a0 t.a1 t.a2 t.a3) ?hi10 (by kernel_rfl) (by kernel_rfl) (by kernel_rfl) ?hQ10 (Or.inl ⟨?hw10, ?hy10⟩) hS ?rest10
  case hi10 => simp only [List.getElem?_toArray, List.getElem?_cons_succ, List.getElem?_cons_zero]; rfl
  case hQ10 => exact fun _ _ _ h => h
  case hw10 => rfl
  case hy10 => exact fun W' hS' => exec_load 24 (.tmp 18) rfl _ W' (load_am hS')
  try simp only [Act.put, List.setIfInBounds_toArray, List.set_cons_zero, List.set_cons_succ]
  refine wpAnyH_ready (rs := [0]) (by kernel_rfl) (by simp) ?_
  refine' AllReadyH.cons (o := _) ?ho11 (fun K hK => ?st11) AllReadyH.nil
  case ho11 => simp only [List.getElem?_toArray, List.getElem?_cons_zero]; rfl
  case st11 =>
    obtain ⟨a0, a1⟩ := Blk.c2 hP.a
    go_simp
    refine hK.out _ _ hS (fun hS => ?_)
    clear hK K
    try simp only [Act.put, List.setIfInBounds_toArray, List.set_cons_zero, List.set_cons_succ]
    clear a0 a1
    have hv := hP.b
    refine wpAnyH_ready (rs := [3]) (by kernel_rfl) (by simp) ?_
    refine' AllReadyH.cons (o := _) ?ho12 (fun K hK => ?st12) AllReadyH.nil
    case ho12 => simp only [List.getElem?_toArray, List.getElem?_cons_succ, List.getElem?_cons_zero]; rfl
    case st12 =>
      go_simp
      refine (refNum6_any hok _ t.kd _ hv).mono ?_
      rintro e Y1 ⟨vv, rfl, hv1, hb⟩
      refine hK.out _ _ (hS.below hb hS.lt) (fun hS => ?_)
      clear hK K
      try simp only [Act.put, List.setIfInBounds_toArray, List.set_cons_zero, List.set_cons_succ]
      replace hP := hP.below hb
      clear hv hb
      obtain ⟨va, vm, vc, rfl⟩ := hv1.shape3
      have hv := hv1
      clear hv1
      refine wpAnyH_ready (rs := [6]) (by kernel_rfl) (by simp) ?_
      refine' AllReadyH.cons (o := _) ?ho13 (fun K hK => ?st13) AllReadyH.nil
      case ho13 => simp only [List.getElem?_toArray, List.getElem?_cons_succ, List.getElem?_cons_zero]; rfl
      case st13 =>
        go_simp
        refine (refNum6_any (okS_num hok _) _ t.fr _ hv).mono ?_
        rintro e Y1 ⟨vv, rfl, hv1, hb⟩
        refine hK.out _ _ (hS.below hb hS.lt) (fun hS => ?_)
        clear hK K
        try simp only [Act.put, List.setIfInBounds_toArray, List.set_cons_zero, List.set_cons_succ]
        replace hP := hP.below hb
        clear hv hb
        obtain ⟨va, vm, vc, rfl⟩ := hv1.shape3
        have hv := hv1
        clear hv1
        refine wpAnyH_ready (rs := [9]) (by kernel_rfl) (by simp) ?_
        refine' AllReadyH.cons (o := _) ?ho14 (fun K hK => ?st14) AllReadyH.nil
        case ho14 => simp only [List.getElem?_toArray, List.getElem?_cons_succ, List.getElem?_cons_zero]; rfl
        case st14 =>
          go_simp
          refine (refNum6_any (okS_num (okS_num hok _) _) _ t.no _ hv).mono ?_
          rintro e Y1 ⟨vv, rfl, hv1, hb⟩
          refine hK.out _ _ (hS.below hb hS.lt) (fun hS => ?_)
          clear hK K
          try simp only [Act.put, List.setIfInBounds_toArray, List.set_cons_zero, List.set_cons_succ]
          replace hP := hP.below hb
          clear hv hb
          obtain ⟨va, vm, vc, rfl⟩ := hv1.shape3
          have hv := hv1
          clear hv1
          refine wpAnyH_ready (rs := [12]) (by kernel_rfl) (by simp) ?_
          refine' AllReadyH.cons (o := _) ?ho15 (fun K hK => ?st15) AllReadyH.nil
          case ho15 => simp only [List.getElem?_toArray, List.getElem?_cons_succ, List.getElem?_cons_zero]; rfl
          case st15 =>
            go_simp
            refine (refNum6_any (okS_num (okS_num (okS_num hok _) _) _) _ t.az _ hv).mono ?_
            rintro e Y1 ⟨vv, rfl, hv1, hb⟩
            refine hK.out _ _ (hS.below hb hS.lt) (fun hS => ?_)
            clear hK K
            try simp only [Act.put, List.setIfInBounds_toArray, List.set_cons_zero, List.set_cons_succ]
            replace hP := hP.below hb
            clear hv hb
            obtain ⟨va, vm, vc, rfl⟩ := hv1.shape3
            have hv := hv1
            clear hv1
            refine wpAnyH_ready (rs := [15]) (by kernel_rfl) (by simp) ?_
            refine' AllReadyH.cons (o := _) ?ho16 (fun K hK => ?st16) AllReadyH.nil
            case ho16 => simp only [List.getElem?_toArray, List.getElem?_cons_succ, List.getElem?_cons_zero]; rfl
            case st16 =>
              go_simp
              refine (refWide6_any (okS_num (okS_num (okS_num (okS_num hok _) _) _) _) _ hta _ hv).mono ?_
              rintro e Y1 ⟨vv, rfl, hv1, hb⟩
              refine hK.out _ _ (hS.below hb hS.lt) (fun hS => ?_)
              clear hK K
              try simp only [Act.put, List.setIfInBounds_toArray, List.set_cons_zero, List.set_cons_succ]
              replace hP := hP.below hb
              clear hv hb
              obtain ⟨va, vm, vc, rfl⟩ := hv1.shape3
              have hv := hv1
              clear hv1
              refine wpAnyH_ready (rs := [16]) (by kernel_rfl) (by simp) ?_
              refine' AllReadyH.cons (o := _) ?ho17 (fun K hK => ?st17) AllReadyH.nil
              case ho17 => simp only [List.getElem?_toArray, List.getElem?_cons_succ, List.getElem?_cons_zero]; rfl
              case st17 =>
                obtain ⟨a0, a1⟩ := Blk.c2 hP.a
                have fa := hP.a.frozen
                go_simp
                refine hK.out _ _ ((hS.other 0 _ (by omega)).other 1 _ (by omega)) (fun hS => ?_)
                clear hK K
                try simp only [Act.put, List.setIfInBounds_toArray, List.set_cons_zero, List.set_cons_succ]
                replace hP := WW.fin (s' := wideS (numS (numS (numS (numS s t.kd) t.fr) t.no) t.az) t.a0 t.a1 t.a2 t.a3) hP hv
                clear a0 a1 fa hv
                refine wpAnyH_done (by kernel_rfl) ?_ _
                generalize (World.setCell (World.setCell Y1 _ _) _ _) = Y3 at *
                generalize wideS (numS (numS (numS (numS s t.kd) t.fr) t.no) t.az) t.a0 t.a1 t.a2 t.a3 = s4 at *
                clear hS
                by_cases hk1 : t.kd = 1
                · have q1 : (t.kd == 1) = true := by simpa using hk1
                  have q2 : (t.kd == 2) = false := by simp [hk1]
                  have l4 : ¬ 4 ≤ t.kd := by omega
                  have q5 : (t.kd == 5) = false := by simp [hk1]
                  have q6 : (t.kd == 6) = false := by simp [hk1]
                  have HX : Hid (putT s t = numS s4 t.iv.to) := Lib.hid (by rw [HG.out, putT6_0 _ (by omega), putT5_1 _ hk1])
                  clear hk1 HG
                  have c2 := (hP.l.cell 2).trans rfl
                  have c13 := (hP.l.cell 13).trans rfl
                  obtain ⟨a0, a1⟩ := Blk.c2 hP.a
                  go_wp2_with (first
                    | (go_at_call 29; refine (refNum6_any hok4 _ t.iv.to _ hP.b).mono ?_; rintro e Y5 ⟨v5, rfl, hv5, hb5⟩; obtain ⟨xa, xm, xc, rfl⟩ := hv5.shape3; clear a0 a1 c2 c13; replace hP := hP.below hb5; obtain ⟨a0, a1⟩ := Blk.c2 hP.a; have c2 := (hP.l.cell 2).trans rfl; clear hb5)
                    | ((refine wpList_store_part 37 (.tmp 2) (.tmp 28) [.slice xa xm xc, .int .i64 (numS s4 t.iv.to).2] hP.a 0 (.agg #[.slice xa xm xc, .int .i64 (numS s4 t.iv.to).2]) [.slice xa xm xc, .int .i64 (numS s4 t.iv.to).2] ?_ ?_ ?_ ?_ ?_ ?_ ?_ ?_ ?_ ?_ ?_); (· rfl); (· rfl); (· rfl); (· rfl); (· rfl); (· rfl); (· kernel_rfl); (· exact Nat.le_of_ble_eq_true rfl); (· rfl); (· rfl); clear a0 a1 c2; replace hP := WW.row (s' := numS s4 t.iv.to) hP hv5; obtain ⟨a0, a1⟩ := Blk.c2 hP.a; have c2 := (hP.l.cell 2).trans rfl)
                    | ((refine wpList_store_part 37 (.tmp 4) (.tmp 67) [.slice xa xm xc, .int .i64 (numS s4 t.iv.to).2] hP.r 0 (.agg #[.slice xa xm xc, .int .i64 (numS s4 t.iv.to).2]) [.slice xa xm xc, .int .i64 (numS s4 t.iv.to).2] ?_ ?_ ?_ ?_ ?_ ?_ ?_ ?_ ?_ ?_ ?_); (· rfl); (· rfl); (· rfl); (· rfl); (· rfl); (· rfl); (· kernel_rfl); (· exact Nat.le_of_ble_eq_true rfl); (· rfl); (· rfl); have kF := hP.r.row [.slice xa xm xc, .int .i64 (numS s4 t.iv.to).2]; have hvF := bsl_row hP.b (noOct2 hP.r) [.slice xa xm xc, .int .i64 (numS s4 t.iv.to).2].toArray; have hBF := below_setRow hP.w (Nat.le_add_right _ 2) [.slice xa xm xc, .int .i64 (numS s4 t.iv.to).2].toArray))
                  exact bodyPost_ret (v := .agg #[.slice xa xm xc, .int .i64 (numS s4 t.iv.to).2]) (results_cell_row (P := Try.prog) (fn := Try.f9) (p := 4) (ty := 37) rfl _ _ (w.heap.size + 2) 37 (#[Value.slice xa xm xc, Value.int IntKind.i64 (numS s4 t.iv.to).2] : Array Value) (0, 0) _ rfl kF Try.underlying37 rfl (by kernel_rfl)) rfl ⟨.slice xa xm xc, by rw [HX.out], by rw [HX.out]; exact hvF, hBF⟩
                · have q1 : (t.kd == 1) = false := by simpa using hk1
                  by_cases hk2 : t.kd = 2
                  · have q2 : (t.kd == 2) = true := by simpa using hk2
                    have l4 : ¬ 4 ≤ t.kd := by omega
                    have q5 : (t.kd == 5) = false := by simp [hk2]
                    have q6 : (t.kd == 6) = false := by simp [hk2]
                    have HX : Hid (putT s t = numS s4 t.iv.ro) := Lib.hid (by rw [HG.out, putT6_0 _ (by omega), putT5_2 _ hk2])
                    clear hk1 hk2 HG
                    have c2 := (hP.l.cell 2).trans rfl
                    have c10 := (hP.l.cell 10).trans rfl
                    obtain ⟨a0, a1⟩ := Blk.c2 hP.a
                    go_wp2_with (first
                      | (go_at_call 29; refine (refNum6_any hok4 _ t.iv.ro _ hP.b).mono ?_; rintro e Y5 ⟨v5, rfl, hv5, hb5⟩; obtain ⟨xa, xm, xc, rfl⟩ := hv5.shape3; clear a0 a1 c2 c10; replace hP := hP.below hb5; obtain ⟨a0, a1⟩ := Blk.c2 hP.a; have c2 := (hP.l.cell 2).trans rfl; clear hb5)
                      | ((refine wpList_store_part 37 (.tmp 2) (.tmp 36) [.slice xa xm xc, .int .i64 (numS s4 t.iv.ro).2] hP.a 0 (.agg #[.slice xa xm xc, .int .i64 (numS s4 t.iv.ro).2]) [.slice xa xm xc, .int .i64 (numS s4 t.iv.ro).2] ?_ ?_ ?_ ?_ ?_ ?_ ?_ ?_ ?_ ?_ ?_); (· rfl); (· rfl); (· rfl); (· rfl); (· rfl); (· rfl); (· kernel_rfl); (· exact Nat.le_of_ble_eq_true rfl); (· rfl); (· rfl); clear a0 a1 c2; replace hP := WW.row (s' := numS s4 t.iv.ro) hP hv5; obtain ⟨a0, a1⟩ := Blk.c2 hP.a; have c2 := (hP.l.cell 2).trans rfl)
                      | ((refine wpList_store_part 37 (.tmp 4) (.tmp 67) [.slice xa xm xc, .int .i64 (numS s4 t.iv.ro).2] hP.r 0 (.agg #[.slice xa xm xc, .int .i64 (numS s4 t.iv.ro).2]) [.slice xa xm xc, .int .i64 (numS s4 t.iv.ro).2] ?_ ?_ ?_ ?_ ?_ ?_ ?_ ?_ ?_ ?_ ?_); (· rfl); (· rfl); (· rfl); (· rfl); (· rfl); (· rfl); (· kernel_rfl); (· exact Nat.le_of_ble_eq_true rfl); (· rfl); (· rfl); have kF := hP.r.row [.slice xa xm xc, .int .i64 (numS s4 t.iv.ro).2]; have hvF := bsl_row hP.b (noOct2 hP.r) [.slice xa xm xc, .int .i64 (numS s4 t.iv.ro).2].toArray; have hBF := below_setRow hP.w (Nat.le_add_right _ 2) [.slice xa xm xc, .int .i64 (numS s4 t.iv.ro).2].toArray))
                    exact bodyPost_ret (v := .agg #[.slice xa xm xc, .int .i64 (numS s4 t.iv.ro).2]) (results_cell_row (P := Try.prog) (fn := Try.f9) (p := 4) (ty := 37) rfl _ _ (w.heap.size + 2) 37 (#[Value.slice xa xm xc, Value.int IntKind.i64 (numS s4 t.iv.ro).2] : Array Value) (0, 0) _ rfl kF Try.underlying37 rfl (by kernel_rfl)) rfl ⟨.slice xa xm xc, by rw [HX.out], by rw [HX.out]; exact hvF, hBF⟩
                  · have q2 : (t.kd == 2) = false := by simpa using hk2
                    by_cases hk4 : t.kd = 4
                    · have q4 : (t.kd == 4) = true := by simpa using hk4
                      have l4 : 4 ≤ t.kd := by omega
                      have l6 : t.kd ≤ 6 := by omega
                      have q5 : (t.kd == 5) = false := by simp [hk4]
                      have q6 : (t.kd == 6) = false := by simp [hk4]
                      have HX : Hid (putT s t = putV (putI s4 t.iv) t.vr) := Lib.hid (by rw [HG.out, putT6_0 _ (by omega), putT5_4 _ (by omega)])
                      clear hk1 hk2 hk4 HG
                      have hok5 : OkS (putV (putI s4 t.iv) t.vr) := okS_putV (okS_putI hok4 _) _
                      have c2 := (hP.l.cell 2).trans rfl
                      obtain ⟨a0, a1⟩ := Blk.c2 hP.a
                      go_upto_region 7 with fail
                      clear c2 a0 a1
                      refine wp_region_held_drew (S := fun W => Blk W (w.heap.size + 1) 30 (txc t)) hmx hP.l ?_
                      intro hS
                      replace hP := hP.drew
                      generalize World.drew _ = Y at *
                      refine' wpAnyH_take (i := 1) (oi := _) (v := _) ?hi18 (by kernel_rfl) (by kernel_rfl) (by kernel_rfl) ?hQ18 (Or.inl ⟨?hw18, ?hy18⟩) hS ?rest18
                      case hi18 => simp only [List.getElem?_toArray, List.getElem?_cons_succ, List.getElem?_cons_zero]; rfl
                      case hQ18 => exact fun _ _ _ h => h
                      case hw18 => rfl
                      case hy18 => intro W' hS'; go_simp; with_reducible rfl
                      try simp only [Act.put, List.setIfInBounds_toArray, List.set_cons_zero, List.set_cons_succ]
                      refine' wpAnyH_take (i := 2) (oi := _) (v := ivv t.iv) ?hi19 (by kernel_rfl) (by kernel_rfl) (by kernel_rfl) ?hQ19 (Or.inl ⟨?hw19, ?hy19⟩) hS ?rest19
                      case hi19 => simp only [List.getElem?_toArray, List.getElem?_cons_succ, List.getElem?_cons_zero]; rfl
                      case hQ19 => exact fun _ _ _ h => h
                      case hw19 => rfl
                      case hy19 => exact fun W' hS' => exec_load 26 (.tmp 46) rfl _ W' (load_iv hS')
                      try simp only [Act.put, List.setIfInBounds_toArray, List.set_cons_zero, List.set_cons_succ]
                      refine' wpAnyH_take (i := 4) (oi := _) (v := _) ?hi20 (by kernel_rfl) (by kernel_rfl) (by kernel_rfl) ?hQ20 (Or.inl ⟨?hw20, ?hy20⟩) hS ?rest20
                      case hi20 => simp only [List.getElem?_toArray, List.getElem?_cons_succ, List.getElem?_cons_zero]; rfl
                      case hQ20 => exact fun _ _ _ h => h
                      case hw20 => rfl
                      case hy20 => intro W' hS'; go_simp; with_reducible rfl
                      try simp only [Act.put, List.setIfInBounds_toArray, List.set_cons_zero, List.set_cons_succ]
                      refine' wpAnyH_take (i := 5) (oi := _) (v := svv t.vr) ?hi21 (by kernel_rfl) (by kernel_rfl) (by kernel_rfl) ?hQ21 (Or.inl ⟨?hw21, ?hy21⟩) hS ?rest21
                      case hi21 => simp only [List.getElem?_toArray, List.getElem?_cons_succ, List.getElem?_cons_zero]; rfl
                      case hQ21 => exact fun _ _ _ h => h
                      case hw21 => rfl
                      case hy21 => exact fun W' hS' => exec_load 28 (.tmp 49) rfl _ W' (load_vr hS')
                      try simp only [Act.put, List.setIfInBounds_toArray, List.set_cons_zero, List.set_cons_succ]
                      refine wpAnyH_ready (rs := [0]) (by kernel_rfl) (by simp) ?_
                      refine' AllReadyH.cons (o := _) ?ho22 (fun K hK => ?st22) AllReadyH.nil
                      case ho22 => simp only [List.getElem?_toArray, List.getElem?_cons_zero]; rfl
                      case st22 =>
                        obtain ⟨a0, a1⟩ := Blk.c2 hP.a
                        go_simp
                        refine hK.out _ _ hS (fun hS => ?_)
                        clear hK K
                        try simp only [Act.put, List.setIfInBounds_toArray, List.set_cons_zero, List.set_cons_succ]
                        clear a0 a1
                        have hv := hP.b
                        refine wpAnyH_ready (rs := [3]) (by kernel_rfl) (by simp) ?_
                        refine' AllReadyH.cons (o := _) ?ho23 (fun K hK => ?st23) AllReadyH.nil
                        case ho23 => simp only [List.getElem?_toArray, List.getElem?_cons_succ, List.getElem?_cons_zero]; rfl
                        case st23 =>
                          go_simp
                          refine (refPutInv_any hok4 _ t.iv _ hv).mono ?_
                          rintro e Y1 ⟨vv, rfl, hv1, hb⟩
                          refine hK.out _ _ (hS.below hb hS.lt) (fun hS => ?_)
                          clear hK K
                          try simp only [Act.put, List.setIfInBounds_toArray, List.set_cons_zero, List.set_cons_succ]
                          replace hP := hP.below hb
                          clear hv hb
                          obtain ⟨va, vm, vc, rfl⟩ := hv1.shape3
                          have hv := hv1
                          clear hv1
                          refine wpAnyH_ready (rs := [6]) (by kernel_rfl) (by simp) ?_
                          refine' AllReadyH.cons (o := _) ?ho24 (fun K hK => ?st24) AllReadyH.nil
                          case ho24 => simp only [List.getElem?_toArray, List.getElem?_cons_succ, List.getElem?_cons_zero]; rfl
                          case st24 =>
                            go_simp
                            refine (refPutVar_any (okS_putI hok4 _) _ t.vr htv _ hv).mono ?_
                            rintro e Y1 ⟨vv, rfl, hv1, hb⟩
                            refine hK.out _ _ (hS.below hb hS.lt) (fun hS => ?_)
                            clear hK K
                            try simp only [Act.put, List.setIfInBounds_toArray, List.set_cons_zero, List.set_cons_succ]
                            replace hP := hP.below hb
                            clear hv hb
                            obtain ⟨va, vm, vc, rfl⟩ := hv1.shape3
                            have hv := hv1
                            clear hv1
                            refine wpAnyH_ready (rs := [7]) (by kernel_rfl) (by simp) ?_
                            refine' AllReadyH.cons (o := _) ?ho25 (fun K hK => ?st25) AllReadyH.nil
                            case ho25 => simp only [List.getElem?_toArray, List.getElem?_cons_succ, List.getElem?_cons_zero]; rfl
                            case st25 =>
                              obtain ⟨a0, a1⟩ := Blk.c2 hP.a
                              have fa := hP.a.frozen
                              go_simp
                              refine hK.out _ _ ((hS.other 0 _ (by omega)).other 1 _ (by omega)) (fun hS => ?_)
                              clear hK K
                              try simp only [Act.put, List.setIfInBounds_toArray, List.set_cons_zero, List.set_cons_succ]
                              replace hP := WW.fin (s' := putV (putI s4 t.iv) t.vr) hP hv
                              clear a0 a1 fa hv
                              refine wpAnyH_done (by kernel_rfl) ?_ _
                              generalize (World.setCell (World.setCell Y1 _ _) _ _) = Y4 at *
                              generalize putV (putI s4 t.iv) t.vr = s5 at *
                              clear hS
                              have c2 := (hP.l.cell 2).trans rfl
                              obtain ⟨a0, a1⟩ := Blk.c2 hP.a
                              go_wp2_with (first
                                | ((refine wpList_store_part 37 (.tmp 4) (.tmp 67) [.slice va vm vc, .int .i64 (s5).2] hP.r 0 (.agg #[.slice va vm vc, .int .i64 (s5).2]) [.slice va vm vc, .int .i64 (s5).2] ?_ ?_ ?_ ?_ ?_ ?_ ?_ ?_ ?_ ?_ ?_); (· rfl); (· rfl); (· rfl); (· rfl); (· rfl); (· rfl); (· kernel_rfl); (· exact Nat.le_of_ble_eq_true rfl); (· rfl); (· rfl); have kF := hP.r.row [.slice va vm vc, .int .i64 (s5).2]; have hvF := bsl_row hP.b (noOct2 hP.r) [.slice va vm vc, .int .i64 (s5).2].toArray; have hBF := below_setRow hP.w (Nat.le_add_right _ 2) [.slice va vm vc, .int .i64 (s5).2].toArray))
                              exact bodyPost_ret (v := .agg #[.slice va vm vc, .int .i64 (s5).2]) (results_cell_row (P := Try.prog) (fn := Try.f9) (p := 4) (ty := 37) rfl _ _ (w.heap.size + 2) 37 (#[Value.slice va vm vc, Value.int IntKind.i64 (s5).2] : Array Value) (0, 0) _ rfl kF Try.underlying37 rfl (by kernel_rfl)) rfl ⟨.slice va vm vc, by rw [HX.out], by rw [HX.out]; exact hvF, hBF⟩
                    · have q4 : (t.kd == 4) = false := by simpa using hk4
                      by_cases hk5 : t.kd = 5
                      · have q5 : (t.kd == 5) = true := by simpa using hk5
                        have l4 : 4 ≤ t.kd := by omega
                        have l6 : t.kd ≤ 6 := by omega
                        have q6 : (t.kd == 6) = false := by simp [hk5]
                        have HX : Hid (putT s t = txtS (wideS (putV (putI s4 t.iv) t.vr) t.f0 t.f1 t.f2 t.f3) t.sg) := Lib.hid (by rw [HG.out, putT6_5 _ (by omega), putT5_4 _ (by omega)])
                        clear hk1 hk2 hk4 hk5 HG
                        have hok5 : OkS (putV (putI s4 t.iv) t.vr) := okS_putV (okS_putI hok4 _) _
                        have c2 := (hP.l.cell 2).trans rfl
                        obtain ⟨a0, a1⟩ := Blk.c2 hP.a
                        go_upto_region 7 with fail
                        clear c2 a0 a1
                        refine wp_region_held_drew (S := fun W => Blk W (w.heap.size + 1) 30 (txc t)) hmx hP.l ?_
                        intro hS
                        replace hP := hP.drew
                        generalize World.drew _ = Y at *
                        refine' wpAnyH_take (i := 1) (oi := _) (v := _) ?hi26 (by kernel_rfl) (by kernel_rfl) (by kernel_rfl) ?hQ26 (Or.inl ⟨?hw26, ?hy26⟩) hS ?rest26
                        case hi26 => simp only [List.getElem?_toArray, List.getElem?_cons_succ, List.getElem?_cons_zero]; rfl
                        case hQ26 => exact fun _ _ _ h => h
                        case hw26 => rfl
                        case hy26 => intro W' hS'; go_simp; with_reducible rfl
                        try simp only [Act.put, List.setIfInBounds_toArray, List.set_cons_zero, List.set_cons_succ]
                        refine' wpAnyH_take (i := 2) (oi := _) (v := ivv t.iv) ?hi27 (by kernel_rfl) (by kernel_rfl) (by kernel_rfl) ?hQ27 (Or.inl ⟨?hw27, ?hy27⟩) hS ?rest27
                        case hi27 => simp only [List.getElem?_toArray, List.getElem?_cons_succ, List.getElem?_cons_zero]; rfl
                        case hQ27 => exact fun _ _ _ h => h
                        case hw27 => rfl
                        case hy27 => exact fun W' hS' => exec_load 26 (.tmp 46) rfl _ W' (load_iv hS')
                        try simp only [Act.put, List.setIfInBounds_toArray, List.set_cons_zero, List.set_cons_succ]
                        refine' wpAnyH_take (i := 4) (oi := _) (v := _) ?hi28 (by kernel_rfl) (by kernel_rfl) (by kernel_rfl) ?hQ28 (Or.inl ⟨?hw28, ?hy28⟩) hS ?rest28
                        case hi28 => simp only [List.getElem?_toArray, List.getElem?_cons_succ, List.getElem?_cons_zero]; rfl
                        case hQ28 => exact fun _ _ _ h => h
                        case hw28 => rfl
                        case hy28 => intro W' hS'; go_simp; with_reducible rfl
                        try simp only [Act.put, List.setIfInBounds_toArray, List.set_cons_zero, List.set_cons_succ]
                        refine' wpAnyH_take (i := 5) (oi := _) (v := svv t.vr) ?hi29 (by kernel_rfl) (by kernel_rfl) (by kernel_rfl) ?hQ29 (Or.inl ⟨?hw29, ?hy29⟩) hS ?rest29
                        case hi29 => simp only [List.getElem?_toArray, List.getElem?_cons_succ, List.getElem?_cons_zero]; rfl
                        case hQ29 => exact fun _ _ _ h => h
                        case hw29 => rfl
                        case hy29 => exact fun W' hS' => exec_load 28 (.tmp 49) rfl _ W' (load_vr hS')
                        try simp only [Act.put, List.setIfInBounds_toArray, List.set_cons_zero, List.set_cons_succ]
                        refine wpAnyH_ready (rs := [0]) (by kernel_rfl) (by simp) ?_
                        refine' AllReadyH.cons (o := _) ?ho30 (fun K hK => ?st30) AllReadyH.nil
                        case ho30 => simp only [List.getElem?_toArray, List.getElem?_cons_zero]; rfl
                        case st30 =>
                          obtain ⟨a0, a1⟩ := Blk.c2 hP.a
                          go_simp
                          refine hK.out _ _ hS (fun hS => ?_)
                          clear hK K
                          try simp only [Act.put, List.setIfInBounds_toArray, List.set_cons_zero, List.set_cons_succ]
                          clear a0 a1
                          have hv := hP.b
                          refine wpAnyH_ready (rs := [3]) (by kernel_rfl) (by simp) ?_
                          refine' AllReadyH.cons (o := _) ?ho31 (fun K hK => ?st31) AllReadyH.nil
                          case ho31 => simp only [List.getElem?_toArray, List.getElem?_cons_succ, List.getElem?_cons_zero]; rfl
                          case st31 =>
                            go_simp
                            refine (refPutInv_any hok4 _ t.iv _ hv).mono ?_
                            rintro e Y1 ⟨vv, rfl, hv1, hb⟩
                            refine hK.out _ _ (hS.below hb hS.lt) (fun hS => ?_)
                            clear hK K
                            try simp only [Act.put, List.setIfInBounds_toArray, List.set_cons_zero, List.set_cons_succ]
                            replace hP := hP.below hb
                            clear hv hb
                            obtain ⟨va, vm, vc, rfl⟩ := hv1.shape3
                            have hv := hv1
                            clear hv1
                            refine wpAnyH_ready (rs := [6]) (by kernel_rfl) (by simp) ?_
                            refine' AllReadyH.cons (o := _) ?ho32 (fun K hK => ?st32) AllReadyH.nil
                            case ho32 => simp only [List.getElem?_toArray, List.getElem?_cons_succ, List.getElem?_cons_zero]; rfl
                            case st32 =>
                              go_simp
                              refine (refPutVar_any (okS_putI hok4 _) _ t.vr htv _ hv).mono ?_
                              rintro e Y1 ⟨vv, rfl, hv1, hb⟩
                              refine hK.out _ _ (hS.below hb hS.lt) (fun hS => ?_)
                              clear hK K
                              try simp only [Act.put, List.setIfInBounds_toArray, List.set_cons_zero, List.set_cons_succ]
                              replace hP := hP.below hb
                              clear hv hb
                              obtain ⟨va, vm, vc, rfl⟩ := hv1.shape3
                              have hv := hv1
                              clear hv1
                              refine wpAnyH_ready (rs := [7]) (by kernel_rfl) (by simp) ?_
                              refine' AllReadyH.cons (o := _) ?ho33 (fun K hK => ?st33) AllReadyH.nil
                              case ho33 => simp only [List.getElem?_toArray, List.getElem?_cons_succ, List.getElem?_cons_zero]; rfl
                              case st33 =>
                                obtain ⟨a0, a1⟩ := Blk.c2 hP.a
                                have fa := hP.a.frozen
                                go_simp
                                refine hK.out _ _ ((hS.other 0 _ (by omega)).other 1 _ (by omega)) (fun hS => ?_)
                                clear hK K
                                try simp only [Act.put, List.setIfInBounds_toArray, List.set_cons_zero, List.set_cons_succ]
                                replace hP := WW.fin (s' := putV (putI s4 t.iv) t.vr) hP hv
                                clear a0 a1 fa hv
                                refine wpAnyH_done (by kernel_rfl) ?_ _
                                generalize (World.setCell (World.setCell Y1 _ _) _ _) = Y4 at *
                                generalize putV (putI s4 t.iv) t.vr = s5 at *
                                clear hS
                                have c2 := (hP.l.cell 2).trans rfl
                                obtain ⟨a0, a1⟩ := Blk.c2 hP.a
                                go_upto_region 9 with fail
                                clear c2 a0 a1
                                refine wp_region_held_drew (S := fun W => Blk W (w.heap.size + 1) 30 (txc t)) hmx hP.l ?_
                                intro hS
                                replace hP := hP.drew
                                generalize World.drew _ = Y at *
                                refine' wpAnyH_take (i := 1) (oi := _) (v := _) ?hi34 (by kernel_rfl) (by kernel_rfl) (by kernel_rfl) ?hQ34 (Or.inl ⟨?hw34, ?hy34⟩) hS ?rest34
                                case hi34 => simp only [List.getElem?_toArray, List.getElem?_cons_succ, List.getElem?_cons_zero]; rfl
                                case hQ34 => exact fun _ _ _ h => h
                                case hw34 => rfl
                                case hy34 => intro W' hS'; go_simp; with_reducible rfl
                                try simp only [Act.put, List.setIfInBounds_toArray, List.set_cons_zero, List.set_cons_succ]
                                refine' wpAnyH_take (i := 2) (oi := _) (v := wv t.f0 t.f1 t.f2 t.f3) ?hi35 (by kernel_rfl) (by kernel_rfl) (by kernel_rfl) ?hQ35 (Or.inl ⟨?hw35, ?hy35⟩) hS ?rest35
                                case hi35 => simp only [List.getElem?_toArray, List.getElem?_cons_succ, List.getElem?_cons_zero]; rfl
                                case hQ35 => exact fun _ _ _ h => h
                                case hw35 => rfl
                                case hy35 => exact fun W' hS' => exec_load 24 (.tmp 61) rfl _ W' (load_fe hS')
                                try simp only [Act.put, List.setIfInBounds_toArray, List.set_cons_zero, List.set_cons_succ]
                                refine' wpAnyH_take (i := 4) (oi := _) (v := _) ?hi36 (by kernel_rfl) (by kernel_rfl) (by kernel_rfl) ?hQ36 (Or.inl ⟨?hw36, ?hy36⟩) hS ?rest36
                                case hi36 => simp only [List.getElem?_toArray, List.getElem?_cons_succ, List.getElem?_cons_zero]; rfl
                                case hQ36 => exact fun _ _ _ h => h
                                case hw36 => rfl
                                case hy36 => intro W' hS'; go_simp; with_reducible rfl
                                try simp only [Act.put, List.setIfInBounds_toArray, List.set_cons_zero, List.set_cons_succ]
                                refine' wpAnyH_take (i := 5) (oi := _) (v := _) ?hi37 (by kernel_rfl) (by kernel_rfl) (by kernel_rfl) ?hQ37 (Or.inl ⟨?hw37, ?hy37⟩) hS ?rest37
                                case hi37 => simp only [List.getElem?_toArray, List.getElem?_cons_succ, List.getElem?_cons_zero]; rfl
                                case hQ37 => exact fun _ _ _ h => h
                                case hw37 => rfl
                                case hy37 => intro W' hS'; have c24 := (hS'.cell 24).trans rfl; go_simp; with_reducible rfl
                                try simp only [Act.put, List.setIfInBounds_toArray, List.set_cons_zero, List.set_cons_succ]
                                refine wpAnyH_ready (rs := [0]) (by kernel_rfl) (by simp) ?_
                                refine' AllReadyH.cons (o := _) ?ho38 (fun K hK => ?st38) AllReadyH.nil
                                case ho38 => simp only [List.getElem?_toArray, List.getElem?_cons_zero]; rfl
                                case st38 =>
                                  obtain ⟨a0, a1⟩ := Blk.c2 hP.a
                                  go_simp
                                  refine hK.out _ _ hS (fun hS => ?_)
                                  clear hK K
                                  try simp only [Act.put, List.setIfInBounds_toArray, List.set_cons_zero, List.set_cons_succ]
                                  clear a0 a1
                                  have hv := hP.b
                                  refine wpAnyH_ready (rs := [3]) (by kernel_rfl) (by simp) ?_
                                  refine' AllReadyH.cons (o := _) ?ho39 (fun K hK => ?st39) AllReadyH.nil
                                  case ho39 => simp only [List.getElem?_toArray, List.getElem?_cons_succ, List.getElem?_cons_zero]; rfl
                                  case st39 =>
                                    go_simp
                                    refine (refWide6_any hok5 _ htf _ hv).mono ?_
                                    rintro e Y1 ⟨vv, rfl, hv1, hb⟩
                                    refine hK.out _ _ (hS.below hb hS.lt) (fun hS => ?_)
                                    clear hK K
                                    try simp only [Act.put, List.setIfInBounds_toArray, List.set_cons_zero, List.set_cons_succ]
                                    replace hP := hP.below hb
                                    clear hv hb
                                    obtain ⟨va, vm, vc, rfl⟩ := hv1.shape3
                                    have hv := hv1
                                    clear hv1
                                    refine wpAnyH_ready (rs := [6]) (by kernel_rfl) (by simp) ?_
                                    refine' AllReadyH.cons (o := _) ?ho40 (fun K hK => ?st40) AllReadyH.nil
                                    case ho40 => simp only [List.getElem?_toArray, List.getElem?_cons_succ, List.getElem?_cons_zero]; rfl
                                    case st40 =>
                                      go_simp
                                      refine (refText6_any (okS_wide hok5 _ _ _ _) _ t.sg _ hv).mono ?_
                                      rintro e Y1 ⟨vv, rfl, hv1, hb⟩
                                      refine hK.out _ _ (hS.below hb hS.lt) (fun hS => ?_)
                                      clear hK K
                                      try simp only [Act.put, List.setIfInBounds_toArray, List.set_cons_zero, List.set_cons_succ]
                                      replace hP := hP.below hb
                                      clear hv hb
                                      obtain ⟨va, vm, vc, rfl⟩ := hv1.shape3
                                      have hv := hv1
                                      clear hv1
                                      refine wpAnyH_ready (rs := [7]) (by kernel_rfl) (by simp) ?_
                                      refine' AllReadyH.cons (o := _) ?ho41 (fun K hK => ?st41) AllReadyH.nil
                                      case ho41 => simp only [List.getElem?_toArray, List.getElem?_cons_succ, List.getElem?_cons_zero]; rfl
                                      case st41 =>
                                        obtain ⟨a0, a1⟩ := Blk.c2 hP.a
                                        have fa := hP.a.frozen
                                        go_simp
                                        refine hK.out _ _ ((hS.other 0 _ (by omega)).other 1 _ (by omega)) (fun hS => ?_)
                                        clear hK K
                                        try simp only [Act.put, List.setIfInBounds_toArray, List.set_cons_zero, List.set_cons_succ]
                                        replace hP := WW.fin (s' := txtS (wideS s5 t.f0 t.f1 t.f2 t.f3) t.sg) hP hv
                                        clear a0 a1 fa hv
                                        refine wpAnyH_done (by kernel_rfl) ?_ _
                                        generalize (World.setCell (World.setCell Y1 _ _) _ _) = Y6 at *
                                        clear hS
                                        obtain ⟨a0, a1⟩ := Blk.c2 hP.a
                                        go_wp2_with (first
                                          | ((refine wpList_store_part 37 (.tmp 4) (.tmp 67) [.slice va vm vc, .int .i64 (txtS (wideS s5 t.f0 t.f1 t.f2 t.f3) t.sg).2] hP.r 0 (.agg #[.slice va vm vc, .int .i64 (txtS (wideS s5 t.f0 t.f1 t.f2 t.f3) t.sg).2]) [.slice va vm vc, .int .i64 (txtS (wideS s5 t.f0 t.f1 t.f2 t.f3) t.sg).2] ?_ ?_ ?_ ?_ ?_ ?_ ?_ ?_ ?_ ?_ ?_); (· rfl); (· rfl); (· rfl); (· rfl); (· rfl); (· rfl); (· kernel_rfl); (· exact Nat.le_of_ble_eq_true rfl); (· rfl); (· rfl); have kF := hP.r.row [.slice va vm vc, .int .i64 (txtS (wideS s5 t.f0 t.f1 t.f2 t.f3) t.sg).2]; have hvF := bsl_row hP.b (noOct2 hP.r) [.slice va vm vc, .int .i64 (txtS (wideS s5 t.f0 t.f1 t.f2 t.f3) t.sg).2].toArray; have hBF := below_setRow hP.w (Nat.le_add_right _ 2) [.slice va vm vc, .int .i64 (txtS (wideS s5 t.f0 t.f1 t.f2 t.f3) t.sg).2].toArray))
                                        exact bodyPost_ret (v := .agg #[.slice va vm vc, .int .i64 (txtS (wideS s5 t.f0 t.f1 t.f2 t.f3) t.sg).2]) (results_cell_row (P := Try.prog) (fn := Try.f9) (p := 4) (ty := 37) rfl _ _ (w.heap.size + 2) 37 (#[Value.slice va vm vc, Value.int IntKind.i64 (txtS (wideS s5 t.f0 t.f1 t.f2 t.f3) t.sg).2] : Array Value) (0, 0) _ rfl kF Try.underlying37 rfl (by kernel_rfl)) rfl ⟨.slice va vm vc, by rw [HX.out], by rw [HX.out]; exact hvF, hBF⟩
                      · have q5 : (t.kd == 5) = false := by simpa using hk5
                        by_cases hk6 : t.kd = 6
                        · have q6 : (t.kd == 6) = true := by simpa using hk6
                          have l4 : 4 ≤ t.kd := by omega
                          have l6 : t.kd ≤ 6 := by omega
                          have HX : Hid (putT s t = txtS (wideS (putV (putI s4 t.iv) t.vr) t.f0 t.f1 t.f2 t.f3) t.sg) := Lib.hid (by rw [HG.out, putT6_5 _ (by omega), putT5_4 _ (by omega)])
                          clear hk1 hk2 hk4 hk5 hk6 HG
                          have hok5 : OkS (putV (putI s4 t.iv) t.vr) := okS_putV (okS_putI hok4 _) _
                          have c2 := (hP.l.cell 2).trans rfl
                          obtain ⟨a0, a1⟩ := Blk.c2 hP.a
                          go_upto_region 7 with fail
                          clear c2 a0 a1
                          refine wp_region_held_drew (S := fun W => Blk W (w.heap.size + 1) 30 (txc t)) hmx hP.l ?_
                          intro hS
                          replace hP := hP.drew
                          generalize World.drew _ = Y at *
                          refine' wpAnyH_take (i := 1) (oi := _) (v := _) ?hi42 (by kernel_rfl) (by kernel_rfl) (by kernel_rfl) ?hQ42 (Or.inl ⟨?hw42, ?hy42⟩) hS ?rest42
                          case hi42 => simp only [List.getElem?_toArray, List.getElem?_cons_succ, List.getElem?_cons_zero]; rfl
                          case hQ42 => exact fun _ _ _ h => h
                          case hw42 => rfl
                          case hy42 => intro W' hS'; go_simp; with_reducible rfl
                          try simp only [Act.put, List.setIfInBounds_toArray, List.set_cons_zero, List.set_cons_succ]
                          refine' wpAnyH_take (i := 2) (oi := _) (v := ivv t.iv) ?hi43 (by kernel_rfl) (by kernel_rfl) (by kernel_rfl) ?hQ43 (Or.inl ⟨?hw43, ?hy43⟩) hS ?rest43
                          case hi43 => simp only [List.getElem?_toArray, List.getElem?_cons_succ, List.getElem?_cons_zero]; rfl
                          case hQ43 => exact fun _ _ _ h => h
                          case hw43 => rfl
                          case hy43 => exact fun W' hS' => exec_load 26 (.tmp 46) rfl _ W' (load_iv hS')
                          try simp only [Act.put, List.setIfInBounds_toArray, List.set_cons_zero, List.set_cons_succ]
                          refine' wpAnyH_take (i := 4) (oi := _) (v := _) ?hi44 (by kernel_rfl) (by kernel_rfl) (by kernel_rfl) ?hQ44 (Or.inl ⟨?hw44, ?hy44⟩) hS ?rest44
                          case hi44 => simp only [List.getElem?_toArray, List.getElem?_cons_succ, List.getElem?_cons_zero]; rfl
                          case hQ44 => exact fun _ _ _ h => h
                          case hw44 => rfl
                          case hy44 => intro W' hS'; go_simp; with_reducible rfl
                          try simp only [Act.put, List.setIfInBounds_toArray, List.set_cons_zero, List.set_cons_succ]
                          refine' wpAnyH_take (i := 5) (oi := _) (v := svv t.vr) ?hi45 (by kernel_rfl) (by kernel_rfl) (by kernel_rfl) ?hQ45 (Or.inl ⟨?hw45, ?hy45⟩) hS ?rest45
                          case hi45 => simp only [List.getElem?_toArray, List.getElem?_cons_succ, List.getElem?_cons_zero]; rfl
                          case hQ45 => exact fun _ _ _ h => h
                          case hw45 => rfl
                          case hy45 => exact fun W' hS' => exec_load 28 (.tmp 49) rfl _ W' (load_vr hS')
                          try simp only [Act.put, List.setIfInBounds_toArray, List.set_cons_zero, List.set_cons_succ]
                          refine wpAnyH_ready (rs := [0]) (by kernel_rfl) (by simp) ?_
                          refine' AllReadyH.cons (o := _) ?ho46 (fun K hK => ?st46) AllReadyH.nil
                          case ho46 => simp only [List.getElem?_toArray, List.getElem?_cons_zero]; rfl
                          case st46 =>
                            obtain ⟨a0, a1⟩ := Blk.c2 hP.a
                            go_simp
                            refine hK.out _ _ hS (fun hS => ?_)
                            clear hK K
                            try simp only [Act.put, List.setIfInBounds_toArray, List.set_cons_zero, List.set_cons_succ]
                            clear a0 a1
                            have hv := hP.b
                            refine wpAnyH_ready (rs := [3]) (by kernel_rfl) (by simp) ?_
                            refine' AllReadyH.cons (o := _) ?ho47 (fun K hK => ?st47) AllReadyH.nil
                            case ho47 => simp only [List.getElem?_toArray, List.getElem?_cons_succ, List.getElem?_cons_zero]; rfl
                            case st47 =>
                              go_simp
                              refine (refPutInv_any hok4 _ t.iv _ hv).mono ?_
                              rintro e Y1 ⟨vv, rfl, hv1, hb⟩
                              refine hK.out _ _ (hS.below hb hS.lt) (fun hS => ?_)
                              clear hK K
                              try simp only [Act.put, List.setIfInBounds_toArray, List.set_cons_zero, List.set_cons_succ]
                              replace hP := hP.below hb
                              clear hv hb
                              obtain ⟨va, vm, vc, rfl⟩ := hv1.shape3
                              have hv := hv1
                              clear hv1
                              refine wpAnyH_ready (rs := [6]) (by kernel_rfl) (by simp) ?_
                              refine' AllReadyH.cons (o := _) ?ho48 (fun K hK => ?st48) AllReadyH.nil
                              case ho48 => simp only [List.getElem?_toArray, List.getElem?_cons_succ, List.getElem?_cons_zero]; rfl
                              case st48 =>
                                go_simp
                                refine (refPutVar_any (okS_putI hok4 _) _ t.vr htv _ hv).mono ?_
                                rintro e Y1 ⟨vv, rfl, hv1, hb⟩
                                refine hK.out _ _ (hS.below hb hS.lt) (fun hS => ?_)
                                clear hK K
                                try simp only [Act.put, List.setIfInBounds_toArray, List.set_cons_zero, List.set_cons_succ]
                                replace hP := hP.below hb
                                clear hv hb
                                obtain ⟨va, vm, vc, rfl⟩ := hv1.shape3
                                have hv := hv1
                                clear hv1
                                refine wpAnyH_ready (rs := [7]) (by kernel_rfl) (by simp) ?_
                                refine' AllReadyH.cons (o := _) ?ho49 (fun K hK => ?st49) AllReadyH.nil
                                case ho49 => simp only [List.getElem?_toArray, List.getElem?_cons_succ, List.getElem?_cons_zero]; rfl
                                case st49 =>
                                  obtain ⟨a0, a1⟩ := Blk.c2 hP.a
                                  have fa := hP.a.frozen
                                  go_simp
                                  refine hK.out _ _ ((hS.other 0 _ (by omega)).other 1 _ (by omega)) (fun hS => ?_)
                                  clear hK K
                                  try simp only [Act.put, List.setIfInBounds_toArray, List.set_cons_zero, List.set_cons_succ]
                                  replace hP := WW.fin (s' := putV (putI s4 t.iv) t.vr) hP hv
                                  clear a0 a1 fa hv
                                  refine wpAnyH_done (by kernel_rfl) ?_ _
                                  generalize (World.setCell (World.setCell Y1 _ _) _ _) = Y4 at *
                                  generalize putV (putI s4 t.iv) t.vr = s5 at *
                                  clear hS
                                  have c2 := (hP.l.cell 2).trans rfl
                                  obtain ⟨a0, a1⟩ := Blk.c2 hP.a
                                  go_upto_region 9 with fail
                                  clear c2 a0 a1
                                  refine wp_region_held_drew (S := fun W => Blk W (w.heap.size + 1) 30 (txc t)) hmx hP.l ?_
                                  intro hS
                                  replace hP := hP.drew
                                  generalize World.drew _ = Y at *
                                  refine' wpAnyH_take (i := 1) (oi := _) (v := _) ?hi50 (by kernel_rfl) (by kernel_rfl) (by kernel_rfl) ?hQ50 (Or.inl ⟨?hw50, ?hy50⟩) hS ?rest50
                                  case hi50 => simp only [List.getElem?_toArray, List.getElem?_cons_succ, List.getElem?_cons_zero]; rfl
                                  case hQ50 => exact fun _ _ _ h => h
                                  case hw50 => rfl
                                  case hy50 => intro W' hS'; go_simp; with_reducible rfl
                                  try simp only [Act.put, List.setIfInBounds_toArray, List.set_cons_zero, List.set_cons_succ]
                                  refine' wpAnyH_take (i := 2) (oi := _) (v := wv t.f0 t.f1 t.f2 t.f3) ?hi51 (by kernel_rfl) (by kernel_rfl) (by kernel_rfl) ?hQ51 (Or.inl ⟨?hw51, ?hy51⟩) hS ?rest51
                                  case hi51 => simp only [List.getElem?_toArray, List.getElem?_cons_succ, List.getElem?_cons_zero]; rfl
                                  case hQ51 => exact fun _ _ _ h => h
                                  case hw51 => rfl
                                  case hy51 => exact fun W' hS' => exec_load 24 (.tmp 61) rfl _ W' (load_fe hS')
                                  try simp only [Act.put, List.setIfInBounds_toArray, List.set_cons_zero, List.set_cons_succ]
                                  refine' wpAnyH_take (i := 4) (oi := _) (v := _) ?hi52 (by kernel_rfl) (by kernel_rfl) (by kernel_rfl) ?hQ52 (Or.inl ⟨?hw52, ?hy52⟩) hS ?rest52
                                  case hi52 => simp only [List.getElem?_toArray, List.getElem?_cons_succ, List.getElem?_cons_zero]; rfl
                                  case hQ52 => exact fun _ _ _ h => h
                                  case hw52 => rfl
                                  case hy52 => intro W' hS'; go_simp; with_reducible rfl
                                  try simp only [Act.put, List.setIfInBounds_toArray, List.set_cons_zero, List.set_cons_succ]
                                  refine' wpAnyH_take (i := 5) (oi := _) (v := _) ?hi53 (by kernel_rfl) (by kernel_rfl) (by kernel_rfl) ?hQ53 (Or.inl ⟨?hw53, ?hy53⟩) hS ?rest53
                                  case hi53 => simp only [List.getElem?_toArray, List.getElem?_cons_succ, List.getElem?_cons_zero]; rfl
                                  case hQ53 => exact fun _ _ _ h => h
                                  case hw53 => rfl
                                  case hy53 => intro W' hS'; have c24 := (hS'.cell 24).trans rfl; go_simp; with_reducible rfl
                                  try simp only [Act.put, List.setIfInBounds_toArray, List.set_cons_zero, List.set_cons_succ]
                                  refine wpAnyH_ready (rs := [0]) (by kernel_rfl) (by simp) ?_
                                  refine' AllReadyH.cons (o := _) ?ho54 (fun K hK => ?st54) AllReadyH.nil
                                  case ho54 => simp only [List.getElem?_toArray, List.getElem?_cons_zero]; rfl
                                  case st54 =>
                                    obtain ⟨a0, a1⟩ := Blk.c2 hP.a
                                    go_simp
                                    refine hK.out _ _ hS (fun hS => ?_)
                                    clear hK K
                                    try simp only [Act.put, List.setIfInBounds_toArray, List.set_cons_zero, List.set_cons_succ]
                                    clear a0 a1
                                    have hv := hP.b
                                    refine wpAnyH_ready (rs := [3]) (by kernel_rfl) (by simp) ?_
                                    refine' AllReadyH.cons (o := _) ?ho55 (fun K hK => ?st55) AllReadyH.nil
                                    case ho55 => simp only [List.getElem?_toArray, List.getElem?_cons_succ, List.getElem?_cons_zero]; rfl
                                    case st55 =>
                                      go_simp
                                      refine (refWide6_any hok5 _ htf _ hv).mono ?_
                                      rintro e Y1 ⟨vv, rfl, hv1, hb⟩
                                      refine hK.out _ _ (hS.below hb hS.lt) (fun hS => ?_)
                                      clear hK K
                                      try simp only [Act.put, List.setIfInBounds_toArray, List.set_cons_zero, List.set_cons_succ]
                                      replace hP := hP.below hb
                                      clear hv hb
                                      obtain ⟨va, vm, vc, rfl⟩ := hv1.shape3
                                      have hv := hv1
                                      clear hv1
                                      refine wpAnyH_ready (rs := [6]) (by kernel_rfl) (by simp) ?_
                                      refine' AllReadyH.cons (o := _) ?ho56 (fun K hK => ?st56) AllReadyH.nil
                                      case ho56 => simp only [List.getElem?_toArray, List.getElem?_cons_succ, List.getElem?_cons_zero]; rfl
                                      case st56 =>
                                        go_simp
                                        refine (refText6_any (okS_wide hok5 _ _ _ _) _ t.sg _ hv).mono ?_
                                        rintro e Y1 ⟨vv, rfl, hv1, hb⟩
                                        refine hK.out _ _ (hS.below hb hS.lt) (fun hS => ?_)
                                        clear hK K
                                        try simp only [Act.put, List.setIfInBounds_toArray, List.set_cons_zero, List.set_cons_succ]
                                        replace hP := hP.below hb
                                        clear hv hb
                                        obtain ⟨va, vm, vc, rfl⟩ := hv1.shape3
                                        have hv := hv1
                                        clear hv1
                                        refine wpAnyH_ready (rs := [7]) (by kernel_rfl) (by simp) ?_
                                        refine' AllReadyH.cons (o := _) ?ho57 (fun K hK => ?st57) AllReadyH.nil
                                        case ho57 => simp only [List.getElem?_toArray, List.getElem?_cons_succ, List.getElem?_cons_zero]; rfl
                                        case st57 =>
                                          obtain ⟨a0, a1⟩ := Blk.c2 hP.a
                                          have fa := hP.a.frozen
                                          go_simp
                                          refine hK.out _ _ ((hS.other 0 _ (by omega)).other 1 _ (by omega)) (fun hS => ?_)
                                          clear hK K
                                          try simp only [Act.put, List.setIfInBounds_toArray, List.set_cons_zero, List.set_cons_succ]
                                          replace hP := WW.fin (s' := txtS (wideS s5 t.f0 t.f1 t.f2 t.f3) t.sg) hP hv
                                          clear a0 a1 fa hv
                                          refine wpAnyH_done (by kernel_rfl) ?_ _
                                          generalize (World.setCell (World.setCell Y1 _ _) _ _) = Y6 at *
                                          clear hS
                                          obtain ⟨a0, a1⟩ := Blk.c2 hP.a
                                          go_wp2_with (first
                                            | ((refine wpList_store_part 37 (.tmp 4) (.tmp 67) [.slice va vm vc, .int .i64 (txtS (wideS s5 t.f0 t.f1 t.f2 t.f3) t.sg).2] hP.r 0 (.agg #[.slice va vm vc, .int .i64 (txtS (wideS s5 t.f0 t.f1 t.f2 t.f3) t.sg).2]) [.slice va vm vc, .int .i64 (txtS (wideS s5 t.f0 t.f1 t.f2 t.f3) t.sg).2] ?_ ?_ ?_ ?_ ?_ ?_ ?_ ?_ ?_ ?_ ?_); (· rfl); (· rfl); (· rfl); (· rfl); (· rfl); (· rfl); (· kernel_rfl); (· exact Nat.le_of_ble_eq_true rfl); (· rfl); (· rfl); have kF := hP.r.row [.slice va vm vc, .int .i64 (txtS (wideS s5 t.f0 t.f1 t.f2 t.f3) t.sg).2]; have hvF := bsl_row hP.b (noOct2 hP.r) [.slice va vm vc, .int .i64 (txtS (wideS s5 t.f0 t.f1 t.f2 t.f3) t.sg).2].toArray; have hBF := below_setRow hP.w (Nat.le_add_right _ 2) [.slice va vm vc, .int .i64 (txtS (wideS s5 t.f0 t.f1 t.f2 t.f3) t.sg).2].toArray))
                                          exact bodyPost_ret (v := .agg #[.slice va vm vc, .int .i64 (txtS (wideS s5 t.f0 t.f1 t.f2 t.f3) t.sg).2]) (results_cell_row (P := Try.prog) (fn := Try.f9) (p := 4) (ty := 37) rfl _ _ (w.heap.size + 2) 37 (#[Value.slice va vm vc, Value.int IntKind.i64 (txtS (wideS s5 t.f0 t.f1 t.f2 t.f3) t.sg).2] : Array Value) (0, 0) _ rfl kF Try.underlying37 rfl (by kernel_rfl)) rfl ⟨.slice va vm vc, by rw [HX.out], by rw [HX.out]; exact hvF, hBF⟩
                        · have q6 : (t.kd == 6) = false := by simpa using hk6
                          by_cases l4 : 4 ≤ t.kd
                          · have l6 : ¬ t.kd ≤ 6 := by omega
                            have HX : Hid (putT s t = s4) := Lib.hid (by rw [HG.out, putT6_0 _ (by omega), putT5_0 _ hk1 hk2 (by omega)])
                            clear hk1 hk2 hk4 hk5 hk6 HG
                            have c2 := (hP.l.cell 2).trans rfl
                            obtain ⟨a0, a1⟩ := Blk.c2 hP.a
                            go_wp2_with (first
                              | ((refine wpList_store_part 37 (.tmp 4) (.tmp 67) [.slice va vm vc, .int .i64 (s4).2] hP.r 0 (.agg #[.slice va vm vc, .int .i64 (s4).2]) [.slice va vm vc, .int .i64 (s4).2] ?_ ?_ ?_ ?_ ?_ ?_ ?_ ?_ ?_ ?_ ?_); (· rfl); (· rfl); (· rfl); (· rfl); (· rfl); (· rfl); (· kernel_rfl); (· exact Nat.le_of_ble_eq_true rfl); (· rfl); (· rfl); have kF := hP.r.row [.slice va vm vc, .int .i64 (s4).2]; have hvF := bsl_row hP.b (noOct2 hP.r) [.slice va vm vc, .int .i64 (s4).2].toArray; have hBF := below_setRow hP.w (Nat.le_add_right _ 2) [.slice va vm vc, .int .i64 (s4).2].toArray))
                            exact bodyPost_ret (v := .agg #[.slice va vm vc, .int .i64 (s4).2]) (results_cell_row (P := Try.prog) (fn := Try.f9) (p := 4) (ty := 37) rfl _ _ (w.heap.size + 2) 37 (#[Value.slice va vm vc, Value.int IntKind.i64 (s4).2] : Array Value) (0, 0) _ rfl kF Try.underlying37 rfl (by kernel_rfl)) rfl ⟨.slice va vm vc, by rw [HX.out], by rw [HX.out]; exact hvF, hBF⟩
                          · skip
                            have HX : Hid (putT s t = s4) := Lib.hid (by rw [HG.out, putT6_0 _ (by omega), putT5_0 _ hk1 hk2 (by omega)])
                            clear hk1 hk2 hk4 hk5 hk6 HG
                            have c2 := (hP.l.cell 2).trans rfl
                            obtain ⟨a0, a1⟩ := Blk.c2 hP.a
                            go_wp2_with (first
                              | ((refine wpList_store_part 37 (.tmp 4) (.tmp 67) [.slice va vm vc, .int .i64 (s4).2] hP.r 0 (.agg #[.slice va vm vc, .int .i64 (s4).2]) [.slice va vm vc, .int .i64 (s4).2] ?_ ?_ ?_ ?_ ?_ ?_ ?_ ?_ ?_ ?_ ?_); (· rfl); (· rfl); (· rfl); (· rfl); (· rfl); (· rfl); (· kernel_rfl); (· exact Nat.le_of_ble_eq_true rfl); (· rfl); (· rfl); have kF := hP.r.row [.slice va vm vc, .int .i64 (s4).2]; have hvF := bsl_row hP.b (noOct2 hP.r) [.slice va vm vc, .int .i64 (s4).2].toArray; have hBF := below_setRow hP.w (Nat.le_add_right _ 2) [.slice va vm vc, .int .i64 (s4).2].toArray))
                            exact bodyPost_ret (v := .agg #[.slice va vm vc, .int .i64 (s4).2]) (results_cell_row (P := Try.prog) (fn := Try.f9) (p := 4) (ty := 37) rfl _ _ (w.heap.size + 2) 37 (#[Value.slice va vm vc, Value.int IntKind.i64 (s4).2] : Array Value) (0, 0) _ rfl kF Try.underlying37 rfl (by kernel_rfl)) rfl ⟨.slice va vm vc, by rw [HX.out], by rw [HX.out]; exact hvF, hBF⟩
end Go.Proofs.Ytafcngnophlhgaa
