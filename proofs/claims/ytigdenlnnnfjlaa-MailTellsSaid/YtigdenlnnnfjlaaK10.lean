/-
  A transfer, and a side's data, put by the reference.
  A message, put by the reference.
-/
import Derived.Deep.Cut
import Derived.Test.YtigdenlnnnfjlaaK09
namespace Go.Proofs.Ytigdenlnnnfjlaa
open Go.RowKit Go.Shelf

set_option maxRecDepth 100000 in
set_option maxHeartbeats 2000000 in
theorem refPutInv_any {s : St} (hok : OkS s) (sv : Value) (i : Trf) (w : World) (hsl : BSl 0 w.heap.size w sv s.1) :
    Calls Try.prog 28 #[.agg #[sv, .int .i64 s.2], ivv i] w (RefS (putI s i) w) := by
  have hmx : Try.prog.follows .mixedOrders = true := by kernel_rfl
  have HG : Hid (putI s i = txtS (numS (numS (numS (numS (txtS (numS (txtS s invB) i.us) i.rt) i.ro) i.se) i.re) i.to) i.id) := Lib.hid rfl
  have hok1 : OkS (txtS (numS (txtS s invB) i.us) i.rt) := okS_putI1 hok i
  have hok2 : OkS (numS (numS (numS (numS (txtS (numS (txtS s invB) i.us) i.rt) i.ro) i.se) i.re) i.to) := okS_putI2 hok1 i
  obtain ⟨a, m, c, rfl⟩ := hsl.shape3
  go_enter Try.func28, Try.ntmps28
  go_wp2_with fail
  generalize hW0 : World.alloc _ _ = W0
  have hP : WW 30 (ivc i) w W0 s (.slice a m c) := by
    have b3 := chainA (chainA (chain0 w (.cells #[.slice a m c, .int .i64 s.2] 62)) (.cells (ivc i).toArray 30)) (.cells #[.slice none 0 0, .int .i64 0] 62)
    rw [← hW0]
    exact ⟨((Blk.new w _ [_, _]).alloc _).alloc _, (Blk.new' (vs := (ivc i)) (by simp)).alloc _, Blk.new' (vs := [_, _]) (by simp), (hsl.below b3 (Nat.le_refl _)).mono (Nat.le_refl _) b3.size, b3⟩
  clear hW0 hsl
  refine wp_region_held_drew (S := fun W => Blk W (w.heap.size + 1) 30 (ivc i)) hmx hP.l ?_
  intro hS
  replace hP := hP.drew
  generalize World.drew _ = Y at *
  refine' wpAnyH_take (i := 2) (oi := _) (v := _) ?hi1 (by kernel_rfl) (by kernel_rfl) (by kernel_rfl) ?hQ1 (Or.inl ⟨?hw1, ?hy1⟩) hS ?rest1
  case hi1 => simp only [List.getElem?_toArray, List.getElem?_cons_succ, List.getElem?_cons_zero]; rfl
  case hQ1 => exact fun _ _ _ h => h
  case hw1 => rfl
  case hy1 => intro W' hS'; go_simp; with_reducible rfl
  try simp only [Act.put, List.setIfInBounds_toArray, List.set_cons_zero, List.set_cons_succ]
  refine' wpAnyH_take (i := 3) (oi := _) (v := _) ?hi2 (by kernel_rfl) (by kernel_rfl) (by kernel_rfl) ?hQ2 (Or.inl ⟨?hw2, ?hy2⟩) hS ?rest2
  case hi2 => simp only [List.getElem?_toArray, List.getElem?_cons_succ, List.getElem?_cons_zero]; rfl
  case hQ2 => exact fun _ _ _ h => h
  case hw2 => rfl
  case hy2 => intro W' hS'; obtain ⟨c0, c1, c2, c3, c4, c5, c6⟩ := Blk.c7 hS'; go_simp; with_reducible rfl
  try simp only [Act.put, List.setIfInBounds_toArray, List.set_cons_zero, List.set_cons_succ]
  refine' wpAnyH_take (i := 5) (oi := _) (v := _) ?hi3 (by kernel_rfl) (by kernel_rfl) (by kernel_rfl) ?hQ3 (Or.inl ⟨?hw3, ?hy3⟩) hS ?rest3
  case hi3 => simp only [List.getElem?_toArray, List.getElem?_cons_succ, List.getElem?_cons_zero]; rfl
  case hQ3 => exact fun _ _ _ h => h
  case hw3 => rfl
  case hy3 => intro W' hS'; go_simp; with_reducible rfl
  try simp only [Act.put, List.setIfInBounds_toArray, List.set_cons_zero, List.set_cons_succ]
  refine' wpAnyH_take (i := 6) (oi := _) (v := _) ?hi4 (by kernel_rfl) (by kernel_rfl) (by kernel_rfl) ?hQ4 (Or.inl ⟨?hw4, ?hy4⟩) hS ?rest4
  case hi4 => simp only [List.getElem?_toArray, List.getElem?_cons_succ, List.getElem?_cons_zero]; rfl
  case hQ4 => exact fun _ _ _ h => h
  case hw4 => rfl
  case hy4 => intro W' hS'; obtain ⟨c0, c1, c2, c3, c4, c5, c6⟩ := Blk.c7 hS'; go_simp; with_reducible rfl
  try simp only [Act.put, List.setIfInBounds_toArray, List.set_cons_zero, List.set_cons_succ]
  refine wpAnyH_ready (rs := [0]) (by kernel_rfl) (by simp) ?_
  refine' AllReadyH.cons (o := _) ?ho5 (fun K hK => ?st5) AllReadyH.nil
  case ho5 => simp only [List.getElem?_toArray, List.getElem?_cons_zero]; rfl
  case st5 =>
    obtain ⟨a0, a1⟩ := Blk.c2 hP.a
    go_simp
    refine hK.out _ _ hS (fun hS => ?_)
    clear hK K
    try simp only [Act.put, List.setIfInBounds_toArray, List.set_cons_zero, List.set_cons_succ]
    clear a0 a1
    have hv := hP.b
    refine wpAnyH_ready (rs := [1]) (by kernel_rfl) (by simp) ?_
    refine' AllReadyH.cons (o := _) ?ho6 (fun K hK => ?st6) AllReadyH.nil
    case ho6 => simp only [List.getElem?_toArray, List.getElem?_cons_succ, List.getElem?_cons_zero]; rfl
    case st6 =>
      go_simp
      refine (refText6_any hok _ invB _ hv).mono ?_
      rintro e Y1 ⟨v, rfl, hv1, hb⟩
      refine hK.out _ _ (hS.below hb hS.lt) (fun hS => ?_)
      clear hK K
      try simp only [Act.put, List.setIfInBounds_toArray, List.set_cons_zero, List.set_cons_succ]
      replace hP := hP.below hb
      clear hv hb
      obtain ⟨va, vm, vc, rfl⟩ := hv1.shape3
      have hv := hv1
      clear hv1
      refine wpAnyH_ready (rs := [4]) (by kernel_rfl) (by simp) ?_
      refine' AllReadyH.cons (o := _) ?ho7 (fun K hK => ?st7) AllReadyH.nil
      case ho7 => simp only [List.getElem?_toArray, List.getElem?_cons_succ, List.getElem?_cons_zero]; rfl
      case st7 =>
        go_simp
        refine (refNum6_any (okS_txt hok _) _ i.us _ hv).mono ?_
        rintro e Y1 ⟨v, rfl, hv1, hb⟩
        refine hK.out _ _ (hS.below hb hS.lt) (fun hS => ?_)
        clear hK K
        try simp only [Act.put, List.setIfInBounds_toArray, List.set_cons_zero, List.set_cons_succ]
        replace hP := hP.below hb
        clear hv hb
        obtain ⟨va, vm, vc, rfl⟩ := hv1.shape3
        have hv := hv1
        clear hv1
        refine wpAnyH_ready (rs := [7]) (by kernel_rfl) (by simp) ?_
        refine' AllReadyH.cons (o := _) ?ho8 (fun K hK => ?st8) AllReadyH.nil
        case ho8 => simp only [List.getElem?_toArray, List.getElem?_cons_succ, List.getElem?_cons_zero]; rfl
        case st8 =>
          go_simp
          refine (refText6_any (okS_num (okS_txt hok _) _) _ i.rt _ hv).mono ?_
          rintro e Y1 ⟨v, rfl, hv1, hb⟩
          refine hK.out _ _ (hS.below hb hS.lt) (fun hS => ?_)
          clear hK K
          try simp only [Act.put, List.setIfInBounds_toArray, List.set_cons_zero, List.set_cons_succ]
          replace hP := hP.below hb
          clear hv hb
          obtain ⟨va, vm, vc, rfl⟩ := hv1.shape3
          have hv := hv1
          clear hv1
          refine wpAnyH_ready (rs := [8]) (by kernel_rfl) (by simp) ?_
          refine' AllReadyH.cons (o := _) ?ho9 (fun K hK => ?st9) AllReadyH.nil
          case ho9 => simp only [List.getElem?_toArray, List.getElem?_cons_succ, List.getElem?_cons_zero]; rfl
          case st9 =>
            obtain ⟨a0, a1⟩ := Blk.c2 hP.a
            have fa := hP.a.frozen
            go_simp
            refine hK.out _ _ ((hS.other 0 _ (by omega)).other 1 _ (by omega)) (fun hS => ?_)
            clear hK K
            try simp only [Act.put, List.setIfInBounds_toArray, List.set_cons_zero, List.set_cons_succ]
            replace hP := WW.fin (s' := txtS (numS (txtS s invB) i.us) i.rt) hP hv
            clear a0 a1 fa hv
            refine wpAnyH_done (by kernel_rfl) ?_ _
            go_wp2_with fail
            generalize (World.setCell (World.setCell Y1 _ _) _ _) = Y3 at *
            generalize txtS (numS (txtS s invB) i.us) i.rt = s1 at *
            clear hS
            refine wp_region_held_drew (S := fun W => Blk W (w.heap.size + 1) 30 (ivc i)) hmx hP.l ?_
            intro hS
            replace hP := hP.drew
            generalize World.drew _ = Y at *
            refine' wpAnyH_take (i := 1) (oi := _) (v := _) ?hi10 (by kernel_rfl) (by kernel_rfl) (by kernel_rfl) ?hQ10 (Or.inl ⟨?hw10, ?hy10⟩) hS ?rest10
            case hi10 => simp only [List.getElem?_toArray, List.getElem?_cons_succ, List.getElem?_cons_zero]; rfl
            case hQ10 => exact fun _ _ _ h => h
            case hw10 => rfl
            case hy10 => intro W' hS'; go_simp; with_reducible rfl
            try simp only [Act.put, List.setIfInBounds_toArray, List.set_cons_zero, List.set_cons_succ]
            refine' wpAnyH_take (i := 2) (oi := _) (v := _) ?hi11 (by kernel_rfl) (by kernel_rfl) (by kernel_rfl) ?hQ11 (Or.inl ⟨?hw11, ?hy11⟩) hS ?rest11
            case hi11 => simp only [List.getElem?_toArray, List.getElem?_cons_succ, List.getElem?_cons_zero]; rfl
            case hQ11 => exact fun _ _ _ h => h
            case hw11 => rfl
            case hy11 => intro W' hS'; obtain ⟨c0, c1, c2, c3, c4, c5, c6⟩ := Blk.c7 hS'; go_simp; with_reducible rfl
            try simp only [Act.put, List.setIfInBounds_toArray, List.set_cons_zero, List.set_cons_succ]
            refine' wpAnyH_take (i := 4) (oi := _) (v := _) ?hi12 (by kernel_rfl) (by kernel_rfl) (by kernel_rfl) ?hQ12 (Or.inl ⟨?hw12, ?hy12⟩) hS ?rest12
            case hi12 => simp only [List.getElem?_toArray, List.getElem?_cons_succ, List.getElem?_cons_zero]; rfl
            case hQ12 => exact fun _ _ _ h => h
            case hw12 => rfl
            case hy12 => intro W' hS'; go_simp; with_reducible rfl
            try simp only [Act.put, List.setIfInBounds_toArray, List.set_cons_zero, List.set_cons_succ]
            refine' wpAnyH_take (i := 5) (oi := _) (v := _) ?hi13 (by kernel_rfl) (by kernel_rfl) (by kernel_rfl) ?hQ13 (Or.inl ⟨?hw13, ?hy13⟩) hS ?rest13
            case hi13 => simp only [List.getElem?_toArray, List.getElem?_cons_succ, List.getElem?_cons_zero]; rfl
            case hQ13 => exact fun _ _ _ h => h
            case hw13 => rfl
            case hy13 => intro W' hS'; obtain ⟨c0, c1, c2, c3, c4, c5, c6⟩ := Blk.c7 hS'; go_simp; with_reducible rfl
            try simp only [Act.put, List.setIfInBounds_toArray, List.set_cons_zero, List.set_cons_succ]
            refine' wpAnyH_take (i := 7) (oi := _) (v := _) ?hi14 (by kernel_rfl) (by kernel_rfl) (by kernel_rfl) ?hQ14 (Or.inl ⟨?hw14, ?hy14⟩) hS ?rest14
            case hi14 => simp only [List.getElem?_toArray, List.getElem?_cons_succ, List.getElem?_cons_zero]; rfl
            case hQ14 => exact fun _ _ _ h => h
            case hw14 => rfl
            case hy14 => intro W' hS'; go_simp; with_reducible rfl
            try simp only [Act.put, List.setIfInBounds_toArray, List.set_cons_zero, List.set_cons_succ]
            refine' wpAnyH_take (i := 8) (oi := _) (v := _) ?hi15 (by kernel_rfl) (by kernel_rfl) (by kernel_rfl) ?hQ15 (Or.inl ⟨?hw15, ?hy15⟩) hS ?rest15
            case hi15 => simp only [List.getElem?_toArray, List.getElem?_cons_succ, List.getElem?_cons_zero]; rfl
            case hQ15 => exact fun _ _ _ h => h
            case hw15 => rfl
            case hy15 => intro W' hS'; obtain ⟨c0, c1, c2, c3, c4, c5, c6⟩ := Blk.c7 hS'; go_simp; with_reducible rfl
            try simp only [Act.put, List.setIfInBounds_toArray, List.set_cons_zero, List.set_cons_succ]
            refine' wpAnyH_take (i := 10) (oi := _) (v := _) ?hi16 (by kernel_rfl) (by kernel_rfl) (by kernel_rfl) ?hQ16 (Or.inl ⟨?hw16, ?hy16⟩) hS ?rest16
            case hi16 => simp only [List.getElem?_toArray, List.getElem?_cons_succ, List.getElem?_cons_zero]; rfl
            case hQ16 => exact fun _ _ _ h => h
            case hw16 => rfl
            case hy16 => intro W' hS'; go_simp; with_reducible rfl
            try simp only [Act.put, List.setIfInBounds_toArray, List.set_cons_zero, List.set_cons_succ]
            refine' wpAnyH_take (i := 11) (oi := _) (v := _) ?hi17 (by kernel_rfl) (by kernel_rfl) (by kernel_rfl) ?hQ17 (Or.inl ⟨?hw17, ?hy17⟩) hS ?rest17
            case hi17 => simp only [List.getElem?_toArray, List.getElem?_cons_succ, List.getElem?_cons_zero]; rfl
            case hQ17 => exact fun _ _ _ h => h
            case hw17 => rfl
            case hy17 => intro W' hS'; obtain ⟨c0, c1, c2, c3, c4, c5, c6⟩ := Blk.c7 hS'; go_simp; with_reducible rfl
            try simp only [Act.put, List.setIfInBounds_toArray, List.set_cons_zero, List.set_cons_succ]
            refine wpAnyH_ready (rs := [0]) (by kernel_rfl) (by simp) ?_
            refine' AllReadyH.cons (o := _) ?ho18 (fun K hK => ?st18) AllReadyH.nil
            case ho18 => simp only [List.getElem?_toArray, List.getElem?_cons_zero]; rfl
            case st18 =>
              obtain ⟨a0, a1⟩ := Blk.c2 hP.a
              go_simp
              refine hK.out _ _ hS (fun hS => ?_)
              clear hK K
              try simp only [Act.put, List.setIfInBounds_toArray, List.set_cons_zero, List.set_cons_succ]
              clear a0 a1
              have hv := hP.b
              refine wpAnyH_ready (rs := [3]) (by kernel_rfl) (by simp) ?_
              refine' AllReadyH.cons (o := _) ?ho19 (fun K hK => ?st19) AllReadyH.nil
              case ho19 => simp only [List.getElem?_toArray, List.getElem?_cons_succ, List.getElem?_cons_zero]; rfl
              case st19 =>
                go_simp
                refine (refNum6_any hok1 _ i.ro _ hv).mono ?_
                rintro e Y1 ⟨v, rfl, hv1, hb⟩
                refine hK.out _ _ (hS.below hb hS.lt) (fun hS => ?_)
                clear hK K
                try simp only [Act.put, List.setIfInBounds_toArray, List.set_cons_zero, List.set_cons_succ]
                replace hP := hP.below hb
                clear hv hb
                obtain ⟨va, vm, vc, rfl⟩ := hv1.shape3
                have hv := hv1
                clear hv1
                refine wpAnyH_ready (rs := [6]) (by kernel_rfl) (by simp) ?_
                refine' AllReadyH.cons (o := _) ?ho20 (fun K hK => ?st20) AllReadyH.nil
                case ho20 => simp only [List.getElem?_toArray, List.getElem?_cons_succ, List.getElem?_cons_zero]; rfl
                case st20 =>
                  go_simp
                  refine (refNum6_any (okS_num hok1 _) _ i.se _ hv).mono ?_
                  rintro e Y1 ⟨v, rfl, hv1, hb⟩
                  refine hK.out _ _ (hS.below hb hS.lt) (fun hS => ?_)
                  clear hK K
                  try simp only [Act.put, List.setIfInBounds_toArray, List.set_cons_zero, List.set_cons_succ]
                  replace hP := hP.below hb
                  clear hv hb
                  obtain ⟨va, vm, vc, rfl⟩ := hv1.shape3
                  have hv := hv1
                  clear hv1
                  refine wpAnyH_ready (rs := [9]) (by kernel_rfl) (by simp) ?_
                  refine' AllReadyH.cons (o := _) ?ho21 (fun K hK => ?st21) AllReadyH.nil
                  case ho21 => simp only [List.getElem?_toArray, List.getElem?_cons_succ, List.getElem?_cons_zero]; rfl
                  case st21 =>
                    go_simp
                    refine (refNum6_any (okS_num (okS_num hok1 _) _) _ i.re _ hv).mono ?_
                    rintro e Y1 ⟨v, rfl, hv1, hb⟩
                    refine hK.out _ _ (hS.below hb hS.lt) (fun hS => ?_)
                    clear hK K
                    try simp only [Act.put, List.setIfInBounds_toArray, List.set_cons_zero, List.set_cons_succ]
                    replace hP := hP.below hb
                    clear hv hb
                    obtain ⟨va, vm, vc, rfl⟩ := hv1.shape3
                    have hv := hv1
                    clear hv1
                    refine wpAnyH_ready (rs := [12]) (by kernel_rfl) (by simp) ?_
                    refine' AllReadyH.cons (o := _) ?ho22 (fun K hK => ?st22) AllReadyH.nil
                    case ho22 => simp only [List.getElem?_toArray, List.getElem?_cons_succ, List.getElem?_cons_zero]; rfl
                    case st22 =>
                      go_simp
                      refine (refNum6_any (okS_num (okS_num (okS_num hok1 _) _) _) _ i.to _ hv).mono ?_
                      rintro e Y1 ⟨v, rfl, hv1, hb⟩
                      refine hK.out _ _ (hS.below hb hS.lt) (fun hS => ?_)
                      clear hK K
                      try simp only [Act.put, List.setIfInBounds_toArray, List.set_cons_zero, List.set_cons_succ]
                      replace hP := hP.below hb
                      clear hv hb
                      obtain ⟨va, vm, vc, rfl⟩ := hv1.shape3
                      have hv := hv1
                      clear hv1
                      refine wpAnyH_ready (rs := [13]) (by kernel_rfl) (by simp) ?_
                      refine' AllReadyH.cons (o := _) ?ho23 (fun K hK => ?st23) AllReadyH.nil
                      case ho23 => simp only [List.getElem?_toArray, List.getElem?_cons_succ, List.getElem?_cons_zero]; rfl
                      case st23 =>
                        obtain ⟨a0, a1⟩ := Blk.c2 hP.a
                        have fa := hP.a.frozen
                        go_simp
                        refine hK.out _ _ ((hS.other 0 _ (by omega)).other 1 _ (by omega)) (fun hS => ?_)
                        clear hK K
                        try simp only [Act.put, List.setIfInBounds_toArray, List.set_cons_zero, List.set_cons_succ]
                        replace hP := WW.fin (s' := numS (numS (numS (numS s1 i.ro) i.se) i.re) i.to) hP hv
                        clear a0 a1 fa hv
                        refine wpAnyH_done (by kernel_rfl) ?_ _
                        go_upto_region 3 with fail
                        generalize (World.setCell (World.setCell Y1 _ _) _ _) = Y4 at *
                        generalize numS (numS (numS (numS s1 i.ro) i.se) i.re) i.to = s2 at *
                        obtain ⟨a0, a1⟩ := Blk.c2 hP.a
                        obtain ⟨c0, c1, c2, c3, c4, c5, c6⟩ := Blk.c7 hP.l
                        go_wp2_with (go_at_call 25; refine (refText6_any hok2 (.slice va vm vc) i.id _ hP.b).mono ?_; rintro e Y5 ⟨v2, rfl, hv2, hb2⟩; obtain ⟨xa, xm, xc, rfl⟩ := hv2.shape3; replace hP := hP.below hb2; obtain ⟨r0, r1⟩ := Blk.c2 hP.r; have g0 := hP.r.frozen 0; have g1 := hP.r.frozen 1)
                        have hfin := refS_stored hv2 hP.w (Nat.le_add_right _ 2) ⟨_, _, _, rfl⟩ hP.r
                        obtain ⟨q0, q1⟩ := Blk.c2 hfin.1
                        exact bodyPost_ret (v := .agg #[.slice xa xm xc, .int .i64 (txtS s2 i.id).2]) (by simp [results, Try.results28, go_sem, q0, q1]) rfl (by rw [HG.out]; exact hfin.2)

set_option maxRecDepth 100000 in
set_option maxHeartbeats 2000000 in
theorem refPutVar_any {s : St} (hok : OkS s) (sv : Value) (v : Sid) (hv4 : Ok4 v.a0 v.a1 v.a2 v.a3) (w : World) (hsl : BSl 0 w.heap.size w sv s.1) :
    Calls Try.prog 27 #[.agg #[sv, .int .i64 s.2], svv v] w (RefS (putV s v) w) := by
  have hmx : Try.prog.follows .mixedOrders = true := by kernel_rfl
  have HG : Hid (putV s v = numS (wideS s v.a0 v.a1 v.a2 v.a3) v.x) := Lib.hid rfl
  obtain ⟨a, m, c, rfl⟩ := hsl.shape3
  go_enter Try.func27, Try.ntmps27
  go_wp2_with fail
  generalize hW0 : World.alloc _ _ = W0
  have hP : WW 32 (svc v) w W0 s (.slice a m c) := by
    have b3 := chainA (chainA (chain0 w (.cells #[.slice a m c, .int .i64 s.2] 62)) (.cells (svc v).toArray 32)) (.cells #[.slice none 0 0, .int .i64 0] 62)
    rw [← hW0]
    exact ⟨((Blk.new w _ [_, _]).alloc _).alloc _, (Blk.new' (vs := (svc v)) (by simp)).alloc _, Blk.new' (vs := [_, _]) (by simp), (hsl.below b3 (Nat.le_refl _)).mono (Nat.le_refl _) b3.size, b3⟩
  clear hW0 hsl
  refine wp_region_held_drew (S := fun W => Blk W (w.heap.size + 1) 32 (svc v)) hmx hP.l ?_
  intro hS
  replace hP := hP.drew
  generalize World.drew _ = Y at *
  refine' wpAnyH_take (i := 1) (oi := _) (v := _) ?hi24 (by kernel_rfl) (by kernel_rfl) (by kernel_rfl) ?hQ24 (Or.inl ⟨?hw24, ?hy24⟩) hS ?rest24
  case hi24 => simp only [List.getElem?_toArray, List.getElem?_cons_succ, List.getElem?_cons_zero]; rfl
  case hQ24 => exact fun _ _ _ h => h
  case hw24 => rfl
  case hy24 => intro W' hS'; go_simp; with_reducible rfl
  try simp only [Act.put, List.setIfInBounds_toArray, List.set_cons_zero, List.set_cons_succ]
  refine' wpAnyH_take (i := 2) (oi := _) (v := _) ?hi25 (by kernel_rfl) (by kernel_rfl) (by kernel_rfl) ?hQ25 (Or.inl ⟨?hw25, ?hy25⟩) hS ?rest25
  case hi25 => simp only [List.getElem?_toArray, List.getElem?_cons_succ, List.getElem?_cons_zero]; rfl
  case hQ25 => exact fun _ _ _ h => h
  case hw25 => rfl
  case hy25 => intro W' hS'; obtain ⟨c0, c1, c2, c3, c4⟩ := Blk.c5 hS'; go_simp; with_reducible rfl
  try simp only [Act.put, List.setIfInBounds_toArray, List.set_cons_zero, List.set_cons_succ]
  refine' wpAnyH_take (i := 4) (oi := _) (v := _) ?hi26 (by kernel_rfl) (by kernel_rfl) (by kernel_rfl) ?hQ26 (Or.inl ⟨?hw26, ?hy26⟩) hS ?rest26
  case hi26 => simp only [List.getElem?_toArray, List.getElem?_cons_succ, List.getElem?_cons_zero]; rfl
  case hQ26 => exact fun _ _ _ h => h
  case hw26 => rfl
  case hy26 => intro W' hS'; go_simp; with_reducible rfl
  try simp only [Act.put, List.setIfInBounds_toArray, List.set_cons_zero, List.set_cons_succ]
  refine' wpAnyH_take (i := 5) (oi := _) (v := _) ?hi27 (by kernel_rfl) (by kernel_rfl) (by kernel_rfl) ?hQ27 (Or.inl ⟨?hw27, ?hy27⟩) hS ?rest27
  case hi27 => simp only [List.getElem?_toArray, List.getElem?_cons_succ, List.getElem?_cons_zero]; rfl
  case hQ27 => exact fun _ _ _ h => h
  case hw27 => rfl
  case hy27 => intro W' hS'; obtain ⟨c0, c1, c2, c3, c4⟩ := Blk.c5 hS'; go_simp; with_reducible rfl
  try simp only [Act.put, List.setIfInBounds_toArray, List.set_cons_zero, List.set_cons_succ]
  refine wpAnyH_ready (rs := [0]) (by kernel_rfl) (by simp) ?_
  refine' AllReadyH.cons (o := _) ?ho28 (fun K hK => ?st28) AllReadyH.nil
  case ho28 => simp only [List.getElem?_toArray, List.getElem?_cons_zero]; rfl
  case st28 =>
    obtain ⟨a0, a1⟩ := Blk.c2 hP.a
    go_simp
    refine hK.out _ _ hS (fun hS => ?_)
    clear hK K
    try simp only [Act.put, List.setIfInBounds_toArray, List.set_cons_zero, List.set_cons_succ]
    clear a0 a1
    have hv := hP.b
    refine wpAnyH_ready (rs := [3]) (by kernel_rfl) (by simp) ?_
    refine' AllReadyH.cons (o := _) ?ho29 (fun K hK => ?st29) AllReadyH.nil
    case ho29 => simp only [List.getElem?_toArray, List.getElem?_cons_succ, List.getElem?_cons_zero]; rfl
    case st29 =>
      go_simp
      refine (refWide6_any hok _ hv4 _ hv).mono ?_
      rintro e Y1 ⟨vv, rfl, hv1, hb⟩
      refine hK.out _ _ (hS.below hb hS.lt) (fun hS => ?_)
      clear hK K
      try simp only [Act.put, List.setIfInBounds_toArray, List.set_cons_zero, List.set_cons_succ]
      replace hP := hP.below hb
      clear hv hb
      obtain ⟨va, vm, vc, rfl⟩ := hv1.shape3
      have hv := hv1
      clear hv1
      refine wpAnyH_ready (rs := [6]) (by kernel_rfl) (by simp) ?_
      refine' AllReadyH.cons (o := _) ?ho30 (fun K hK => ?st30) AllReadyH.nil
      case ho30 => simp only [List.getElem?_toArray, List.getElem?_cons_succ, List.getElem?_cons_zero]; rfl
      case st30 =>
        go_simp
        refine (refNum6_any (okS_wide hok _ _ _ _) _ v.x _ hv).mono ?_
        rintro e Y1 ⟨vv, rfl, hv1, hb⟩
        refine hK.out _ _ (hS.below hb hS.lt) (fun hS => ?_)
        clear hK K
        try simp only [Act.put, List.setIfInBounds_toArray, List.set_cons_zero, List.set_cons_succ]
        replace hP := hP.below hb
        clear hv hb
        obtain ⟨va, vm, vc, rfl⟩ := hv1.shape3
        have hv := hv1
        clear hv1
        refine wpAnyH_ready (rs := [7]) (by kernel_rfl) (by simp) ?_
        refine' AllReadyH.cons (o := _) ?ho31 (fun K hK => ?st31) AllReadyH.nil
        case ho31 => simp only [List.getElem?_toArray, List.getElem?_cons_succ, List.getElem?_cons_zero]; rfl
        case st31 =>
          obtain ⟨r0, r1⟩ := Blk.c2 hP.r
          have g0 := hP.r.frozen
          go_simp
          refine hK.out _ _ ((hS.other 0 _ (by omega)).other 1 _ (by omega)) (fun hS => ?_)
          clear hK K
          try simp only [Act.put, List.setIfInBounds_toArray, List.set_cons_zero, List.set_cons_succ]
          refine wpAnyH_done (by kernel_rfl) ?_ _
          have hfin := refS_stored hv hP.w (Nat.le_add_right _ 2) ⟨_, _, _, rfl⟩ hP.r
          go_wp2_with fail
          obtain ⟨q0, q1⟩ := Blk.c2 hfin.1
          exact bodyPost_ret (v := .agg #[.slice va vm vc, .int .i64 (putV s v).2]) (by simp [results, Try.results27, go_sem, q0, q1]; rfl) rfl (by rw [HG.out]; exact hfin.2)
end Go.Proofs.Ytigdenlnnnfjlaa

namespace Go.Proofs.Ytigdenlnnnfjlaa
open Go.RowKit Go.Shelf

theorem load_w6 {W : World} {B : Nat} {z : Value} {n : Int} (h : Blk W B 62 [z, .int .i64 n]) : (Instr.loadAt 62 (.pointer (some ⟨B, 0, none⟩))).run Try.prog W = .ok (.agg #[z, .int .i64 n]) W :=
  load_part h 0 [z, .int .i64 n] rfl _ _ Try.underlying62 rfl (by kernel_rfl)
theorem bslU {l : List UInt8} {W W' : World} {sv : Value} (h : BSl 0 W.heap.size W sv l) (hb : Below W.heap.size W W') : BSl 0 W'.heap.size W' sv l := (h.below hb (Nat.le_refl _)).mono (Nat.le_refl _) hb.size

set_option maxRecDepth 100000 in
set_option maxHeartbeats 8000000 in
theorem refPutMessage_any (m : Ms) (hm : OkM m) (w : World) :
    Calls Try.prog 7 #[msv m] w (ToldS (octG m) w) := by
  have hmx : Try.prog.follows .mixedOrders = true := by kernel_rfl
  have HR : Hid (∀ W, Calls Try.prog 10 #[msv m] W fun e W' => e = .returned (.tuple #[msv (plainM m), .int .i64 (errG m)]) ∧ Below W.heap.size W W') := Lib.hid fun W => refMessage_any m hm W
  have HNIL : Hid (∀ W : World, BSl 0 W.heap.size W (.slice none 0 0) []) := Lib.hid fun W => ⟨none, 0, rfl, Nat.le_refl 0, .inl rfl⟩
  obtain ⟨⟨hma⟩, ⟨hmbk, hmbb⟩, hmv, hmf⟩ := hm
  generalize plainM m = pm at *
  have kB := Blk.new w 34 (msc m)
  have hB := chain0 w (.cells (msc m).toArray 34)
  go_enter Try.func7, Try.ntmps7
  go_upto_region 2 with (first
    | ((with_reducible refine wpList_loadIf 34 (.tmp 1) ?_ (some 8) ?_ ?_ (msv m) ?_ ?_); (· rfl); (· rfl); (· rfl); (· exact load_ms kB))
    | (go_at_call 10; refine (HR.out _).mono ?_; rintro e w1 ⟨rfl, hb⟩; replace kB := kB.below hb kB.lt; replace hB := chain hB hb; clear hb; have kN := Blk.new w1 34 (msc noM))
    | ((refine wpList_store_part 34 (.tmp 4) (.tmp 10) (msc pm) kN 0 ((msv pm)) (msc pm) ?_ ?_ ?_ ?_ ?_ ?_ ?_ ?_ ?_ ?_ ?_); (· rfl); (· rfl); (· rfl); (· rfl); (· rfl); (· rfl); (· kernel_rfl); (· exact Nat.le_of_ble_eq_true rfl); (· rfl); (· rfl)))
  generalize hX : World.setRow (World.alloc w1 _) _ _ = X
  have hbX : Below w1.heap.size w1 X := by rw [← hX]; exact below_setRow (chain0 w1 (.cells (msc noM).toArray 34)) (Nat.le_refl _) (msc pm).toArray
  clear hX kN HR
  replace kB := kB.below hbX kB.lt
  replace hB := chain hB hbX
  clear hbX
  by_cases he : errG m = 0
  · have HO := Lib.hid (octG_yes he)
    have hk := errG_kinds he
    have q0 : (errG m == 0) = true := by simpa using he
    have q9 : (errG m != 0) = false := by simpa using he
    have hok1 : OkS (numS ([], 0) m.kd) := okS_num okS_new _
    have HN : Hid (∀ W v, BSl 0 W.heap.size W v [] → Calls Try.prog 23 #[.agg #[v, .int .i64 0], .int .i64 m.kd] W (RefS (numS ([], 0) m.kd) W)) := Lib.hid fun W v h => refNum6_any okS_new v m.kd W h
    have H1 : Hid (m.kd = 1 → octG m = putA (numS ([], 0) m.kd) m.ak) := Lib.hid fun k => by rw [HO.out, putG, if_pos k]
    have H2 : Hid (m.kd = 2 → octG m = txtS (numS (wideS (putA (numS (numS ([], 0) m.kd) m.bd.ro) m.bd.k) m.bd.b0 m.bd.b1 m.bd.b2 m.bd.b3) m.bd.un) m.bd.sg) := Lib.hid fun k => by rw [HO.out, putG, if_neg (by omega), if_pos k]; rfl
    have H3 : Hid (m.kd = 3 → octG m = txtS (wideS (putV (putI (numS ([], 0) m.kd) m.iv) m.vr) m.f0 m.f1 m.f2 m.f3) m.sg) := Lib.hid fun k => by rw [HO.out, putG, if_neg (by omega), if_neg (by omega)]; rfl
    generalize numS ([], 0) m.kd = s1 at *
    generalize octG m = st at *
    clear he HO
    have c0 := (kB.cell 0).trans rfl
    go_upto_region 5 with (first
      | (go_at_call 23; refine (HN.out _ _ (HNIL.out _)).mono ?_; rintro e w2 ⟨v1, rfl, hv, hb⟩; obtain ⟨va, vm, vc, rfl⟩ := hv.shape3; replace kB := kB.below hb kB.lt; replace hB := chain hB hb; clear hb c0; have hb2 := chain0 w2 (.cells #[.slice none 0 0, .int .i64 0] 62); have kV := Blk.new w2 62 [.slice none 0 0, .int .i64 0]; have hVw := hB.size; have hVn : w.heap.size ≠ w2.heap.size := (by have := kB.lt; omega); replace kB := kB.below hb2 kB.lt; replace hv := bslU hv hb2; replace hB := chain hB hb2; clear hb2)
      | ((with_reducible refine wpList_store_part 62 (.tmp 6) (.tmp 18) ([Value.slice va vm vc, .int .i64 s1.2]) kV 0 ((.agg #[Value.slice va vm vc, .int .i64 s1.2])) [Value.slice va vm vc, .int .i64 s1.2] ?_ ?_ ?_ ?_ ?_ ?_ ?_ ?_ ?_ ?_ ?_); (· rfl); (· rfl); (· rfl); (· rfl); (· rfl); (· rfl); (· kernel_rfl); (· exact Nat.le_of_ble_eq_true rfl); (· rfl); (· rfl); replace hv := bsl_row hv (noOct2 kV) [Value.slice va vm vc, .int .i64 s1.2].toArray; replace kB := kB.rowO [Value.slice va vm vc, .int .i64 s1.2].toArray (g := w2.heap.size) hVn; replace hB := below_setRow hB hVw [Value.slice va vm vc, .int .i64 s1.2].toArray; replace kV := kV.row [Value.slice va vm vc, .int .i64 s1.2]))
    generalize World.setRow (World.alloc w2 _) _ _ = Y0 at *
    generalize w2.heap.size = VB at *
    clear HN HNIL
    have c0 := (kB.cell 0).trans rfl
    by_cases k1 : m.kd = 1
    · have HX := Lib.hid (H1.out k1)
      have q1 : (m.kd == 1) = true := by simpa using k1
      clear k1 H1 H2 H3 hk
      go_upto_region 11 with (first
        | ((with_reducible refine wpList_loadIf 62 (.tmp 6) ?_ (some 36) ?_ ?_ (.agg #[Value.slice va vm vc, .int .i64 s1.2]) ?_ ?_); (· rfl); (· rfl); (· rfl); (· exact load_w6 kV))
        | ((with_reducible refine wpList_loadIf 26 (.tmp 37) ?_ (some 38) ?_ ?_ (akv m.ak) ?_ ?_); (· rfl); (· rfl); (· rfl); (· exact load_mak kB))
        | (go_at_call 24; refine (refPutAsk_any hok1 _ m.ak hma _ hv).mono ?_; rintro e w3 ⟨v1, rfl, hv1, hb⟩; obtain ⟨xa, xm, xc, rfl⟩ := hv1.shape3; replace kV := kV.below hb kV.lt; replace hB := chain hB hb; clear hb c0 hv)
        | ((with_reducible refine wpList_store_part 62 (.tmp 6) (.tmp 39) ([Value.slice xa xm xc, .int .i64 (putA s1 m.ak).2]) kV 0 ((.agg #[Value.slice xa xm xc, .int .i64 (putA s1 m.ak).2])) [Value.slice xa xm xc, .int .i64 (putA s1 m.ak).2] ?_ ?_ ?_ ?_ ?_ ?_ ?_ ?_ ?_ ?_ ?_); (· rfl); (· rfl); (· rfl); (· rfl); (· rfl); (· rfl); (· kernel_rfl); (· exact Nat.le_of_ble_eq_true rfl); (· rfl); (· rfl); have hv := bsl_row hv1 (noOct2 kV) [Value.slice xa xm xc, .int .i64 (putA s1 m.ak).2].toArray; replace hB := below_setRow hB hVw [Value.slice xa xm xc, .int .i64 (putA s1 m.ak).2].toArray; replace kV := kV.row [Value.slice xa xm xc, .int .i64 (putA s1 m.ak).2]))
      generalize World.setRow w3 _ _ = Y8 at *
      clear hv1
      refine wp_region_held_drew (S := fun W => Blk W VB 62 [.slice xa xm xc, .int .i64 (putA s1 m.ak).2]) hmx kV ?_
      intro hS
      replace hv := bslU hv (Below.refl _ _).drew
      replace hB := hB.drew
      clear kV
      generalize World.drew _ = Y9 at *
      refine' wpAnyH_take (i := 0) (oi := _) (v := _) ?hi1 (by kernel_rfl) (by kernel_rfl) (by kernel_rfl) ?hQ1 (Or.inl ⟨?hw1, ?hy1⟩) hS ?rest1
      case hi1 => simp only [List.getElem?_toArray, List.getElem?_cons_zero]; rfl
      case hQ1 => exact fun _ _ _ h => h
      case hw1 => rfl
      case hy1 => intro W' hS'; go_simp; with_reducible rfl
      try simp only [Act.put, List.setIfInBounds_toArray, List.set_cons_zero, List.set_cons_succ]
      refine' wpAnyH_take (i := 1) (oi := _) (v := _) ?hi2 (by kernel_rfl) (by kernel_rfl) (by kernel_rfl) ?hQ2 (Or.inl ⟨?hw2, ?hy2⟩) hS ?rest2
      case hi2 => simp only [List.getElem?_toArray, List.getElem?_cons_succ, List.getElem?_cons_zero]; rfl
      case hQ2 => exact fun _ _ _ h => h
      case hw2 => rfl
      case hy2 => intro W' hS'; obtain ⟨a0, a1⟩ := Blk.c2 hS'; go_simp; with_reducible rfl
      try simp only [Act.put, List.setIfInBounds_toArray, List.set_cons_zero, List.set_cons_succ]
      refine' wpAnyH_take (i := 2) (oi := _) (v := _) ?hi3 (by kernel_rfl) (by kernel_rfl) (by kernel_rfl) ?hQ3 (Or.inl ⟨?hw3, ?hy3⟩) hS ?rest3
      case hi3 => simp only [List.getElem?_toArray, List.getElem?_cons_succ, List.getElem?_cons_zero]; rfl
      case hQ3 => exact fun _ _ _ h => h
      case hw3 => rfl
      case hy3 => intro W' hS'; go_simp; with_reducible rfl
      try simp only [Act.put, List.setIfInBounds_toArray, List.set_cons_zero, List.set_cons_succ]
      refine' wpAnyH_take (i := 3) (oi := _) (v := _) ?hi4 (by kernel_rfl) (by kernel_rfl) (by kernel_rfl) ?hQ4 (Or.inl ⟨?hw4, ?hy4⟩) hS ?rest4
      case hi4 => simp only [List.getElem?_toArray, List.getElem?_cons_succ, List.getElem?_cons_zero]; rfl
      case hQ4 => exact fun _ _ _ h => h
      case hw4 => rfl
      case hy4 => intro W' hS'; obtain ⟨a0, a1⟩ := Blk.c2 hS'; go_simp; with_reducible rfl
      try simp only [Act.put, List.setIfInBounds_toArray, List.set_cons_zero, List.set_cons_succ]
      refine' wpAnyH_take (i := 4) (oi := _) (v := _) ?hi5 (by kernel_rfl) (by kernel_rfl) (by kernel_rfl) ?hQ5 (Or.inl ⟨?hw5, ?hy5⟩) hS ?rest5
      case hi5 => simp only [List.getElem?_toArray, List.getElem?_cons_succ, List.getElem?_cons_zero]; rfl
      case hQ5 => exact fun _ _ _ h => h
      case hw5 => rfl
      case hy5 => intro W' hS'; go_simp; with_reducible rfl
      try simp only [Act.put, List.setIfInBounds_toArray, List.set_cons_zero, List.set_cons_succ]
      refine' wpAnyH_take (i := 5) (oi := _) (v := _) ?hi6 (by kernel_rfl) (by kernel_rfl) (by kernel_rfl) ?hQ6 (Or.inl ⟨?hw6, ?hy6⟩) hS ?rest6
      case hi6 => simp only [List.getElem?_toArray, List.getElem?_cons_succ, List.getElem?_cons_zero]; rfl
      case hQ6 => exact fun _ _ _ h => h
      case hw6 => rfl
      case hy6 => intro W' hS'; go_simp; with_reducible rfl
      try simp only [Act.put, List.setIfInBounds_toArray, List.set_cons_zero, List.set_cons_succ]
      refine wpAnyH_done (by kernel_rfl) ?_ _
      go_wp2_with fail
      go_ret2
      exact ⟨.slice xa xm xc, by rw [HX.out]; rfl, by rw [HX.out]; exact hv, hB⟩
    have q1 : (m.kd == 1) = false := by simpa using k1
    by_cases k2 : m.kd = 2
    · have HX := Lib.hid (H2.out k2)
      have q2 : (m.kd == 2) = true := by simpa using k2
      clear k1 k2 H1 H2 H3 hk
      go_upto_region 10 with fail
      clear c0
      have hk1 := okS_num hok1 m.bd.ro
      have hk2 := okS_putA hk1 m.bd.k
      have hk3 := okS_wide hk2 m.bd.b0 m.bd.b1 m.bd.b2 m.bd.b3
      have hk4 := okS_num hk3 m.bd.un
      refine wp_region_held_drew (S := fun W => Blk W w.heap.size 34 (msc m)) hmx kB ?_
      intro hS
      replace hv := bslU hv (Below.refl _ _).drew
      replace kV := kV.drew
      replace hB := hB.drew
      clear kB
      generalize World.drew _ = Y at *
      refine' wpAnyH_take (i := 1) (oi := _) (v := _) ?hi7 (by kernel_rfl) (by kernel_rfl) (by kernel_rfl) ?hQ7 (Or.inl ⟨?hw7, ?hy7⟩) hS ?rest7
      case hi7 => simp only [List.getElem?_toArray, List.getElem?_cons_succ, List.getElem?_cons_zero]; rfl
      case hQ7 => exact fun _ _ _ h => h
      case hw7 => rfl
      case hy7 => intro W' hS'; go_simp; with_reducible rfl
      try simp only [Act.put, List.setIfInBounds_toArray, List.set_cons_zero, List.set_cons_succ]
      refine' wpAnyH_take (i := 2) (oi := _) (v := _) ?hi8 (by kernel_rfl) (by kernel_rfl) (by kernel_rfl) ?hQ8 (Or.inl ⟨?hw8, ?hy8⟩) hS ?rest8
      case hi8 => simp only [List.getElem?_toArray, List.getElem?_cons_succ, List.getElem?_cons_zero]; rfl
      case hQ8 => exact fun _ _ _ h => h
      case hw8 => rfl
      case hy8 => intro W' hS'; go_simp; with_reducible rfl
      try simp only [Act.put, List.setIfInBounds_toArray, List.set_cons_zero, List.set_cons_succ]
      refine' wpAnyH_take (i := 3) (oi := _) (v := _) ?hi9 (by kernel_rfl) (by kernel_rfl) (by kernel_rfl) ?hQ9 (Or.inl ⟨?hw9, ?hy9⟩) hS ?rest9
      case hi9 => simp only [List.getElem?_toArray, List.getElem?_cons_succ, List.getElem?_cons_zero]; rfl
      case hQ9 => exact fun _ _ _ h => h
      case hw9 => rfl
      case hy9 => intro W' hS'; have c10 := (hS'.cell 10).trans rfl; go_simp; with_reducible rfl
      try simp only [Act.put, List.setIfInBounds_toArray, List.set_cons_zero, List.set_cons_succ]
      refine' wpAnyH_take (i := 5) (oi := _) (v := _) ?hi10 (by kernel_rfl) (by kernel_rfl) (by kernel_rfl) ?hQ10 (Or.inl ⟨?hw10, ?hy10⟩) hS ?rest10
      case hi10 => simp only [List.getElem?_toArray, List.getElem?_cons_succ, List.getElem?_cons_zero]; rfl
      case hQ10 => exact fun _ _ _ h => h
      case hw10 => rfl
      case hy10 => intro W' hS'; go_simp; with_reducible rfl
      try simp only [Act.put, List.setIfInBounds_toArray, List.set_cons_zero, List.set_cons_succ]
      refine' wpAnyH_take (i := 6) (oi := _) (v := _) ?hi11 (by kernel_rfl) (by kernel_rfl) (by kernel_rfl) ?hQ11 (Or.inl ⟨?hw11, ?hy11⟩) hS ?rest11
      case hi11 => simp only [List.getElem?_toArray, List.getElem?_cons_succ, List.getElem?_cons_zero]; rfl
      case hQ11 => exact fun _ _ _ h => h
      case hw11 => rfl
      case hy11 => intro W' hS'; go_simp; with_reducible rfl
      try simp only [Act.put, List.setIfInBounds_toArray, List.set_cons_zero, List.set_cons_succ]
      refine' wpAnyH_take (i := 7) (oi := _) (v := akv m.bd.k) ?hi12 (by kernel_rfl) (by kernel_rfl) (by kernel_rfl) ?hQ12 (Or.inl ⟨?hw12, ?hy12⟩) hS ?rest12
      case hi12 => simp only [List.getElem?_toArray, List.getElem?_cons_succ, List.getElem?_cons_zero]; rfl
      case hQ12 => exact fun _ _ _ h => h
      case hw12 => rfl
      case hy12 => exact fun W' hS' => exec_load 26 (.tmp 48) rfl _ W' (load_mbk hS')
      try simp only [Act.put, List.setIfInBounds_toArray, List.set_cons_zero, List.set_cons_succ]
      refine' wpAnyH_take (i := 9) (oi := _) (v := _) ?hi13 (by kernel_rfl) (by kernel_rfl) (by kernel_rfl) ?hQ13 (Or.inl ⟨?hw13, ?hy13⟩) hS ?rest13
      case hi13 => simp only [List.getElem?_toArray, List.getElem?_cons_succ, List.getElem?_cons_zero]; rfl
      case hQ13 => exact fun _ _ _ h => h
      case hw13 => rfl
      case hy13 => intro W' hS'; go_simp; with_reducible rfl
      try simp only [Act.put, List.setIfInBounds_toArray, List.set_cons_zero, List.set_cons_succ]
      refine' wpAnyH_take (i := 10) (oi := _) (v := _) ?hi14 (by kernel_rfl) (by kernel_rfl) (by kernel_rfl) ?hQ14 (Or.inl ⟨?hw14, ?hy14⟩) hS ?rest14
      case hi14 => simp only [List.getElem?_toArray, List.getElem?_cons_succ, List.getElem?_cons_zero]; rfl
      case hQ14 => exact fun _ _ _ h => h
      case hw14 => rfl
      case hy14 => intro W' hS'; go_simp; with_reducible rfl
      try simp only [Act.put, List.setIfInBounds_toArray, List.set_cons_zero, List.set_cons_succ]
      refine' wpAnyH_take (i := 11) (oi := _) (v := wv m.bd.b0 m.bd.b1 m.bd.b2 m.bd.b3) ?hi15 (by kernel_rfl) (by kernel_rfl) (by kernel_rfl) ?hQ15 (Or.inl ⟨?hw15, ?hy15⟩) hS ?rest15
      case hi15 => simp only [List.getElem?_toArray, List.getElem?_cons_succ, List.getElem?_cons_zero]; rfl
      case hQ15 => exact fun _ _ _ h => h
      case hw15 => rfl
      case hy15 => exact fun W' hS' => exec_load 24 (.tmp 52) rfl _ W' (load_mba hS')
      try simp only [Act.put, List.setIfInBounds_toArray, List.set_cons_zero, List.set_cons_succ]
      refine' wpAnyH_take (i := 13) (oi := _) (v := _) ?hi16 (by kernel_rfl) (by kernel_rfl) (by kernel_rfl) ?hQ16 (Or.inl ⟨?hw16, ?hy16⟩) hS ?rest16
      case hi16 => simp only [List.getElem?_toArray, List.getElem?_cons_succ, List.getElem?_cons_zero]; rfl
      case hQ16 => exact fun _ _ _ h => h
      case hw16 => rfl
      case hy16 => intro W' hS'; go_simp; with_reducible rfl
      try simp only [Act.put, List.setIfInBounds_toArray, List.set_cons_zero, List.set_cons_succ]
      refine' wpAnyH_take (i := 14) (oi := _) (v := _) ?hi17 (by kernel_rfl) (by kernel_rfl) (by kernel_rfl) ?hQ17 (Or.inl ⟨?hw17, ?hy17⟩) hS ?rest17
      case hi17 => simp only [List.getElem?_toArray, List.getElem?_cons_succ, List.getElem?_cons_zero]; rfl
      case hQ17 => exact fun _ _ _ h => h
      case hw17 => rfl
      case hy17 => intro W' hS'; go_simp; with_reducible rfl
      try simp only [Act.put, List.setIfInBounds_toArray, List.set_cons_zero, List.set_cons_succ]
      refine' wpAnyH_take (i := 15) (oi := _) (v := _) ?hi18 (by kernel_rfl) (by kernel_rfl) (by kernel_rfl) ?hQ18 (Or.inl ⟨?hw18, ?hy18⟩) hS ?rest18
      case hi18 => simp only [List.getElem?_toArray, List.getElem?_cons_succ, List.getElem?_cons_zero]; rfl
      case hQ18 => exact fun _ _ _ h => h
      case hw18 => rfl
      case hy18 => intro W' hS'; have c24 := (hS'.cell 24).trans rfl; go_simp; with_reducible rfl
      try simp only [Act.put, List.setIfInBounds_toArray, List.set_cons_zero, List.set_cons_succ]
      refine' wpAnyH_take (i := 17) (oi := _) (v := _) ?hi19 (by kernel_rfl) (by kernel_rfl) (by kernel_rfl) ?hQ19 (Or.inl ⟨?hw19, ?hy19⟩) hS ?rest19
      case hi19 => simp only [List.getElem?_toArray, List.getElem?_cons_succ, List.getElem?_cons_zero]; rfl
      case hQ19 => exact fun _ _ _ h => h
      case hw19 => rfl
      case hy19 => intro W' hS'; go_simp; with_reducible rfl
      try simp only [Act.put, List.setIfInBounds_toArray, List.set_cons_zero, List.set_cons_succ]
      refine' wpAnyH_take (i := 18) (oi := _) (v := _) ?hi20 (by kernel_rfl) (by kernel_rfl) (by kernel_rfl) ?hQ20 (Or.inl ⟨?hw20, ?hy20⟩) hS ?rest20
      case hi20 => simp only [List.getElem?_toArray, List.getElem?_cons_succ, List.getElem?_cons_zero]; rfl
      case hQ20 => exact fun _ _ _ h => h
      case hw20 => rfl
      case hy20 => intro W' hS'; go_simp; with_reducible rfl
      try simp only [Act.put, List.setIfInBounds_toArray, List.set_cons_zero, List.set_cons_succ]
      refine' wpAnyH_take (i := 19) (oi := _) (v := _) ?hi21 (by kernel_rfl) (by kernel_rfl) (by kernel_rfl) ?hQ21 (Or.inl ⟨?hw21, ?hy21⟩) hS ?rest21
      case hi21 => simp only [List.getElem?_toArray, List.getElem?_cons_succ, List.getElem?_cons_zero]; rfl
      case hQ21 => exact fun _ _ _ h => h
      case hw21 => rfl
      case hy21 => intro W' hS'; have c25 := (hS'.cell 25).trans rfl; go_simp; with_reducible rfl
      try simp only [Act.put, List.setIfInBounds_toArray, List.set_cons_zero, List.set_cons_succ]
      refine wpAnyH_ready (rs := [0]) (by kernel_rfl) (by simp) ?_
      refine' AllReadyH.cons (o := _) ?ho22 (fun K hK => ?st22) AllReadyH.nil
      case ho22 => simp only [List.getElem?_toArray, List.getElem?_cons_zero]; rfl
      case st22 =>
        obtain ⟨a0, a1⟩ := Blk.c2 kV
        go_simp
        refine hK.out _ _ hS (fun hS => ?_)
        clear hK K
        try simp only [Act.put, List.setIfInBounds_toArray, List.set_cons_zero, List.set_cons_succ]
        clear a0 a1
        refine wpAnyH_ready (rs := [4]) (by kernel_rfl) (by simp) ?_
        refine' AllReadyH.cons (o := _) ?ho23 (fun K hK => ?st23) AllReadyH.nil
        case ho23 => simp only [List.getElem?_toArray, List.getElem?_cons_succ, List.getElem?_cons_zero]; rfl
        case st23 =>
          go_simp
          refine (refNum6_any hok1 _ m.bd.ro _ hv).mono ?_
          rintro e Y1 ⟨vv, rfl, hv1, hb⟩
          refine hK.out _ _ (hS.below hb hS.lt) (fun hS => ?_)
          clear hK K
          try simp only [Act.put, List.setIfInBounds_toArray, List.set_cons_zero, List.set_cons_succ]
          replace kV := kV.below hb kV.lt
          replace hB := chain hB hb
          clear hv hb
          obtain ⟨xa, xm, xc, rfl⟩ := hv1.shape3
          have hv := hv1
          clear hv1
          refine wpAnyH_ready (rs := [8]) (by kernel_rfl) (by simp) ?_
          refine' AllReadyH.cons (o := _) ?ho24 (fun K hK => ?st24) AllReadyH.nil
          case ho24 => simp only [List.getElem?_toArray, List.getElem?_cons_succ, List.getElem?_cons_zero]; rfl
          case st24 =>
            go_simp
            refine (refPutAsk_any hk1 _ m.bd.k hmbk _ hv).mono ?_
            rintro e Y1 ⟨vv, rfl, hv1, hb⟩
            refine hK.out _ _ (hS.below hb hS.lt) (fun hS => ?_)
            clear hK K
            try simp only [Act.put, List.setIfInBounds_toArray, List.set_cons_zero, List.set_cons_succ]
            replace kV := kV.below hb kV.lt
            replace hB := chain hB hb
            clear hv hb
            obtain ⟨xa, xm, xc, rfl⟩ := hv1.shape3
            have hv := hv1
            clear hv1
            refine wpAnyH_ready (rs := [12]) (by kernel_rfl) (by simp) ?_
            refine' AllReadyH.cons (o := _) ?ho25 (fun K hK => ?st25) AllReadyH.nil
            case ho25 => simp only [List.getElem?_toArray, List.getElem?_cons_succ, List.getElem?_cons_zero]; rfl
            case st25 =>
              go_simp
              refine (refWide6_any hk2 _ hmbb _ hv).mono ?_
              rintro e Y1 ⟨vv, rfl, hv1, hb⟩
              refine hK.out _ _ (hS.below hb hS.lt) (fun hS => ?_)
              clear hK K
              try simp only [Act.put, List.setIfInBounds_toArray, List.set_cons_zero, List.set_cons_succ]
              replace kV := kV.below hb kV.lt
              replace hB := chain hB hb
              clear hv hb
              obtain ⟨xa, xm, xc, rfl⟩ := hv1.shape3
              have hv := hv1
              clear hv1
              refine wpAnyH_ready (rs := [16]) (by kernel_rfl) (by simp) ?_
              refine' AllReadyH.cons (o := _) ?ho26 (fun K hK => ?st26) AllReadyH.nil
              case ho26 => simp only [List.getElem?_toArray, List.getElem?_cons_succ, List.getElem?_cons_zero]; rfl
              case st26 =>
                go_simp
                refine (refNum6_any hk3 _ m.bd.un _ hv).mono ?_
                rintro e Y1 ⟨vv, rfl, hv1, hb⟩
                refine hK.out _ _ (hS.below hb hS.lt) (fun hS => ?_)
                clear hK K
                try simp only [Act.put, List.setIfInBounds_toArray, List.set_cons_zero, List.set_cons_succ]
                replace kV := kV.below hb kV.lt
                replace hB := chain hB hb
                clear hv hb
                obtain ⟨xa, xm, xc, rfl⟩ := hv1.shape3
                have hv := hv1
                clear hv1
                refine wpAnyH_ready (rs := [20]) (by kernel_rfl) (by simp) ?_
                refine' AllReadyH.cons (o := _) ?ho27 (fun K hK => ?st27) AllReadyH.nil
                case ho27 => simp only [List.getElem?_toArray, List.getElem?_cons_succ, List.getElem?_cons_zero]; rfl
                case st27 =>
                  go_simp
                  refine (refText6_any hk4 _ m.bd.sg _ hv).mono ?_
                  rintro e Y1 ⟨vv, rfl, hv1, hb⟩
                  refine hK.out _ _ (hS.below hb hS.lt) (fun hS => ?_)
                  clear hK K
                  try simp only [Act.put, List.setIfInBounds_toArray, List.set_cons_zero, List.set_cons_succ]
                  replace kV := kV.below hb kV.lt
                  replace hB := chain hB hb
                  clear hv hb
                  obtain ⟨xa, xm, xc, rfl⟩ := hv1.shape3
                  have hv := hv1
                  clear hv1
                  refine wpAnyH_ready (rs := [21]) (by kernel_rfl) (by simp) ?_
                  refine' AllReadyH.cons (o := _) ?ho28 (fun K hK => ?st28) AllReadyH.nil
                  case ho28 => simp only [List.getElem?_toArray, List.getElem?_cons_succ, List.getElem?_cons_zero]; rfl
                  case st28 =>
                    ((refine wp_store_part 62 (.tmp 6) (.tmp 62) ([Value.slice xa xm xc, .int .i64 (txtS (numS (wideS (putA (numS s1 m.bd.ro) m.bd.k) m.bd.b0 m.bd.b1 m.bd.b2 m.bd.b3) m.bd.un) m.bd.sg).2]) kV 0 ((.agg #[Value.slice xa xm xc, .int .i64 (txtS (numS (wideS (putA (numS s1 m.bd.ro) m.bd.k) m.bd.b0 m.bd.b1 m.bd.b2 m.bd.b3) m.bd.un) m.bd.sg).2])) [Value.slice xa xm xc, .int .i64 (txtS (numS (wideS (putA (numS s1 m.bd.ro) m.bd.k) m.bd.b0 m.bd.b1 m.bd.b2 m.bd.b3) m.bd.un) m.bd.sg).2] ?_ ?_ ?_ ?_ ?_ ?_ ?_ ?_ ?_ ?_); (· rfl); (· rfl); (· rfl); (· rfl); (· rfl); (· kernel_rfl); (· exact Nat.le_of_ble_eq_true rfl); (· rfl); (· rfl))
                    refine hK.out _ _ (hS.rowO _ hVn) (fun hS => ?_)
                    clear hK K
                    try simp only [Act.put, List.setIfInBounds_toArray, List.set_cons_zero, List.set_cons_succ]
                    replace hv := bsl_row hv (noOct2 kV) [Value.slice xa xm xc, .int .i64 (txtS (numS (wideS (putA (numS s1 m.bd.ro) m.bd.k) m.bd.b0 m.bd.b1 m.bd.b2 m.bd.b3) m.bd.un) m.bd.sg).2].toArray
                    replace hB := below_setRow hB hVw [Value.slice xa xm xc, .int .i64 (txtS (numS (wideS (putA (numS s1 m.bd.ro) m.bd.k) m.bd.b0 m.bd.b1 m.bd.b2 m.bd.b3) m.bd.un) m.bd.sg).2].toArray
                    replace kV := kV.row [Value.slice xa xm xc, .int .i64 (txtS (numS (wideS (putA (numS s1 m.bd.ro) m.bd.k) m.bd.b0 m.bd.b1 m.bd.b2 m.bd.b3) m.bd.un) m.bd.sg).2]
                    clear hS
                    refine wpAnyH_done (by kernel_rfl) ?_ _
                    generalize World.setRow Y1 _ _ = Y8 at *
                    go_upto_region 11 with fail
                    refine wp_region_held_drew (S := fun W => Blk W VB 62 [.slice xa xm xc, .int .i64 (txtS (numS (wideS (putA (numS s1 m.bd.ro) m.bd.k) m.bd.b0 m.bd.b1 m.bd.b2 m.bd.b3) m.bd.un) m.bd.sg).2]) hmx kV ?_
                    intro hS
                    replace hv := bslU hv (Below.refl _ _).drew
                    replace hB := hB.drew
                    clear kV
                    generalize World.drew _ = Y9 at *
                    refine' wpAnyH_take (i := 0) (oi := _) (v := _) ?hi29 (by kernel_rfl) (by kernel_rfl) (by kernel_rfl) ?hQ29 (Or.inl ⟨?hw29, ?hy29⟩) hS ?rest29
                    case hi29 => simp only [List.getElem?_toArray, List.getElem?_cons_zero]; rfl
                    case hQ29 => exact fun _ _ _ h => h
                    case hw29 => rfl
                    case hy29 => intro W' hS'; go_simp; with_reducible rfl
                    try simp only [Act.put, List.setIfInBounds_toArray, List.set_cons_zero, List.set_cons_succ]
                    refine' wpAnyH_take (i := 1) (oi := _) (v := _) ?hi30 (by kernel_rfl) (by kernel_rfl) (by kernel_rfl) ?hQ30 (Or.inl ⟨?hw30, ?hy30⟩) hS ?rest30
                    case hi30 => simp only [List.getElem?_toArray, List.getElem?_cons_succ, List.getElem?_cons_zero]; rfl
                    case hQ30 => exact fun _ _ _ h => h
                    case hw30 => rfl
                    case hy30 => intro W' hS'; obtain ⟨a0, a1⟩ := Blk.c2 hS'; go_simp; with_reducible rfl
                    try simp only [Act.put, List.setIfInBounds_toArray, List.set_cons_zero, List.set_cons_succ]
                    refine' wpAnyH_take (i := 2) (oi := _) (v := _) ?hi31 (by kernel_rfl) (by kernel_rfl) (by kernel_rfl) ?hQ31 (Or.inl ⟨?hw31, ?hy31⟩) hS ?rest31
                    case hi31 => simp only [List.getElem?_toArray, List.getElem?_cons_succ, List.getElem?_cons_zero]; rfl
                    case hQ31 => exact fun _ _ _ h => h
                    case hw31 => rfl
                    case hy31 => intro W' hS'; go_simp; with_reducible rfl
                    try simp only [Act.put, List.setIfInBounds_toArray, List.set_cons_zero, List.set_cons_succ]
                    refine' wpAnyH_take (i := 3) (oi := _) (v := _) ?hi32 (by kernel_rfl) (by kernel_rfl) (by kernel_rfl) ?hQ32 (Or.inl ⟨?hw32, ?hy32⟩) hS ?rest32
                    case hi32 => simp only [List.getElem?_toArray, List.getElem?_cons_succ, List.getElem?_cons_zero]; rfl
                    case hQ32 => exact fun _ _ _ h => h
                    case hw32 => rfl
                    case hy32 => intro W' hS'; obtain ⟨a0, a1⟩ := Blk.c2 hS'; go_simp; with_reducible rfl
                    try simp only [Act.put, List.setIfInBounds_toArray, List.set_cons_zero, List.set_cons_succ]
                    refine' wpAnyH_take (i := 4) (oi := _) (v := _) ?hi33 (by kernel_rfl) (by kernel_rfl) (by kernel_rfl) ?hQ33 (Or.inl ⟨?hw33, ?hy33⟩) hS ?rest33
                    case hi33 => simp only [List.getElem?_toArray, List.getElem?_cons_succ, List.getElem?_cons_zero]; rfl
                    case hQ33 => exact fun _ _ _ h => h
                    case hw33 => rfl
                    case hy33 => intro W' hS'; go_simp; with_reducible rfl
                    try simp only [Act.put, List.setIfInBounds_toArray, List.set_cons_zero, List.set_cons_succ]
                    refine' wpAnyH_take (i := 5) (oi := _) (v := _) ?hi34 (by kernel_rfl) (by kernel_rfl) (by kernel_rfl) ?hQ34 (Or.inl ⟨?hw34, ?hy34⟩) hS ?rest34
                    case hi34 => simp only [List.getElem?_toArray, List.getElem?_cons_succ, List.getElem?_cons_zero]; rfl
                    case hQ34 => exact fun _ _ _ h => h
                    case hw34 => rfl
                    case hy34 => intro W' hS'; go_simp; with_reducible rfl
                    try simp only [Act.put, List.setIfInBounds_toArray, List.set_cons_zero, List.set_cons_succ]
                    refine wpAnyH_done (by kernel_rfl) ?_ _
                    go_wp2_with fail
                    go_ret2
                    exact ⟨.slice xa xm xc, by rw [HX.out]; rfl, by rw [HX.out]; exact hv, hB⟩
    have q2 : (m.kd == 2) = false := by simpa using k2
    have HX := Lib.hid (H3.out (by omega))
    clear k1 k2 H1 H2 H3 hk
    go_upto_region 6 with fail
    clear c0
    have hk1 := okS_putI hok1 m.iv
    have hk2 := okS_putV hk1 m.vr
    have hk3 := okS_wide hk2 m.f0 m.f1 m.f2 m.f3
    refine wp_region_held_drew (S := fun W => Blk W w.heap.size 34 (msc m)) hmx kB ?_
    intro hS
    replace hv := bslU hv (Below.refl _ _).drew
    replace kV := kV.drew
    replace hB := hB.drew
    clear kB
    generalize World.drew _ = Y at *
    refine' wpAnyH_take (i := 1) (oi := _) (v := _) ?hi35 (by kernel_rfl) (by kernel_rfl) (by kernel_rfl) ?hQ35 (Or.inl ⟨?hw35, ?hy35⟩) hS ?rest35
    case hi35 => simp only [List.getElem?_toArray, List.getElem?_cons_succ, List.getElem?_cons_zero]; rfl
    case hQ35 => exact fun _ _ _ h => h
    case hw35 => rfl
    case hy35 => intro W' hS'; go_simp; with_reducible rfl
    try simp only [Act.put, List.setIfInBounds_toArray, List.set_cons_zero, List.set_cons_succ]
    refine' wpAnyH_take (i := 2) (oi := _) (v := ivv m.iv) ?hi36 (by kernel_rfl) (by kernel_rfl) (by kernel_rfl) ?hQ36 (Or.inl ⟨?hw36, ?hy36⟩) hS ?rest36
    case hi36 => simp only [List.getElem?_toArray, List.getElem?_cons_succ, List.getElem?_cons_zero]; rfl
    case hQ36 => exact fun _ _ _ h => h
    case hw36 => rfl
    case hy36 => exact fun W' hS' => exec_load 30 (.tmp 22) rfl _ W' (load_miv hS')
    try simp only [Act.put, List.setIfInBounds_toArray, List.set_cons_zero, List.set_cons_succ]
    refine' wpAnyH_take (i := 4) (oi := _) (v := _) ?hi37 (by kernel_rfl) (by kernel_rfl) (by kernel_rfl) ?hQ37 (Or.inl ⟨?hw37, ?hy37⟩) hS ?rest37
    case hi37 => simp only [List.getElem?_toArray, List.getElem?_cons_succ, List.getElem?_cons_zero]; rfl
    case hQ37 => exact fun _ _ _ h => h
    case hw37 => rfl
    case hy37 => intro W' hS'; go_simp; with_reducible rfl
    try simp only [Act.put, List.setIfInBounds_toArray, List.set_cons_zero, List.set_cons_succ]
    refine' wpAnyH_take (i := 5) (oi := _) (v := svv m.vr) ?hi38 (by kernel_rfl) (by kernel_rfl) (by kernel_rfl) ?hQ38 (Or.inl ⟨?hw38, ?hy38⟩) hS ?rest38
    case hi38 => simp only [List.getElem?_toArray, List.getElem?_cons_succ, List.getElem?_cons_zero]; rfl
    case hQ38 => exact fun _ _ _ h => h
    case hw38 => rfl
    case hy38 => exact fun W' hS' => exec_load 32 (.tmp 25) rfl _ W' (load_mvr hS')
    try simp only [Act.put, List.setIfInBounds_toArray, List.set_cons_zero, List.set_cons_succ]
    refine' wpAnyH_take (i := 7) (oi := _) (v := _) ?hi39 (by kernel_rfl) (by kernel_rfl) (by kernel_rfl) ?hQ39 (Or.inl ⟨?hw39, ?hy39⟩) hS ?rest39
    case hi39 => simp only [List.getElem?_toArray, List.getElem?_cons_succ, List.getElem?_cons_zero]; rfl
    case hQ39 => exact fun _ _ _ h => h
    case hw39 => rfl
    case hy39 => intro W' hS'; go_simp; with_reducible rfl
    try simp only [Act.put, List.setIfInBounds_toArray, List.set_cons_zero, List.set_cons_succ]
    refine' wpAnyH_take (i := 8) (oi := _) (v := wv m.f0 m.f1 m.f2 m.f3) ?hi40 (by kernel_rfl) (by kernel_rfl) (by kernel_rfl) ?hQ40 (Or.inl ⟨?hw40, ?hy40⟩) hS ?rest40
    case hi40 => simp only [List.getElem?_toArray, List.getElem?_cons_succ, List.getElem?_cons_zero]; rfl
    case hQ40 => exact fun _ _ _ h => h
    case hw40 => rfl
    case hy40 => exact fun W' hS' => exec_load 24 (.tmp 28) rfl _ W' (load_mfe hS')
    try simp only [Act.put, List.setIfInBounds_toArray, List.set_cons_zero, List.set_cons_succ]
    refine' wpAnyH_take (i := 10) (oi := _) (v := _) ?hi41 (by kernel_rfl) (by kernel_rfl) (by kernel_rfl) ?hQ41 (Or.inl ⟨?hw41, ?hy41⟩) hS ?rest41
    case hi41 => simp only [List.getElem?_toArray, List.getElem?_cons_succ, List.getElem?_cons_zero]; rfl
    case hQ41 => exact fun _ _ _ h => h
    case hw41 => rfl
    case hy41 => intro W' hS'; go_simp; with_reducible rfl
    try simp only [Act.put, List.setIfInBounds_toArray, List.set_cons_zero, List.set_cons_succ]
    refine' wpAnyH_take (i := 11) (oi := _) (v := _) ?hi42 (by kernel_rfl) (by kernel_rfl) (by kernel_rfl) ?hQ42 (Or.inl ⟨?hw42, ?hy42⟩) hS ?rest42
    case hi42 => simp only [List.getElem?_toArray, List.getElem?_cons_succ, List.getElem?_cons_zero]; rfl
    case hQ42 => exact fun _ _ _ h => h
    case hw42 => rfl
    case hy42 => intro W' hS'; have c42 := (hS'.cell 42).trans rfl; go_simp; with_reducible rfl
    try simp only [Act.put, List.setIfInBounds_toArray, List.set_cons_zero, List.set_cons_succ]
    refine wpAnyH_ready (rs := [0]) (by kernel_rfl) (by simp) ?_
    refine' AllReadyH.cons (o := _) ?ho43 (fun K hK => ?st43) AllReadyH.nil
    case ho43 => simp only [List.getElem?_toArray, List.getElem?_cons_zero]; rfl
    case st43 =>
      obtain ⟨a0, a1⟩ := Blk.c2 kV
      go_simp
      refine hK.out _ _ hS (fun hS => ?_)
      clear hK K
      try simp only [Act.put, List.setIfInBounds_toArray, List.set_cons_zero, List.set_cons_succ]
      clear a0 a1
      refine wpAnyH_ready (rs := [3]) (by kernel_rfl) (by simp) ?_
      refine' AllReadyH.cons (o := _) ?ho44 (fun K hK => ?st44) AllReadyH.nil
      case ho44 => simp only [List.getElem?_toArray, List.getElem?_cons_succ, List.getElem?_cons_zero]; rfl
      case st44 =>
        go_simp
        refine (refPutInv_any hok1 _ m.iv _ hv).mono ?_
        rintro e Y1 ⟨vv, rfl, hv1, hb⟩
        refine hK.out _ _ (hS.below hb hS.lt) (fun hS => ?_)
        clear hK K
        try simp only [Act.put, List.setIfInBounds_toArray, List.set_cons_zero, List.set_cons_succ]
        replace kV := kV.below hb kV.lt
        replace hB := chain hB hb
        clear hv hb
        obtain ⟨xa, xm, xc, rfl⟩ := hv1.shape3
        have hv := hv1
        clear hv1
        refine wpAnyH_ready (rs := [6]) (by kernel_rfl) (by simp) ?_
        refine' AllReadyH.cons (o := _) ?ho45 (fun K hK => ?st45) AllReadyH.nil
        case ho45 => simp only [List.getElem?_toArray, List.getElem?_cons_succ, List.getElem?_cons_zero]; rfl
        case st45 =>
          go_simp
          refine (refPutVar_any hk1 _ m.vr hmv _ hv).mono ?_
          rintro e Y1 ⟨vv, rfl, hv1, hb⟩
          refine hK.out _ _ (hS.below hb hS.lt) (fun hS => ?_)
          clear hK K
          try simp only [Act.put, List.setIfInBounds_toArray, List.set_cons_zero, List.set_cons_succ]
          replace kV := kV.below hb kV.lt
          replace hB := chain hB hb
          clear hv hb
          obtain ⟨xa, xm, xc, rfl⟩ := hv1.shape3
          have hv := hv1
          clear hv1
          refine wpAnyH_ready (rs := [9]) (by kernel_rfl) (by simp) ?_
          refine' AllReadyH.cons (o := _) ?ho46 (fun K hK => ?st46) AllReadyH.nil
          case ho46 => simp only [List.getElem?_toArray, List.getElem?_cons_succ, List.getElem?_cons_zero]; rfl
          case st46 =>
            go_simp
            refine (refWide6_any hk2 _ hmf _ hv).mono ?_
            rintro e Y1 ⟨vv, rfl, hv1, hb⟩
            refine hK.out _ _ (hS.below hb hS.lt) (fun hS => ?_)
            clear hK K
            try simp only [Act.put, List.setIfInBounds_toArray, List.set_cons_zero, List.set_cons_succ]
            replace kV := kV.below hb kV.lt
            replace hB := chain hB hb
            clear hv hb
            obtain ⟨xa, xm, xc, rfl⟩ := hv1.shape3
            have hv := hv1
            clear hv1
            refine wpAnyH_ready (rs := [12]) (by kernel_rfl) (by simp) ?_
            refine' AllReadyH.cons (o := _) ?ho47 (fun K hK => ?st47) AllReadyH.nil
            case ho47 => simp only [List.getElem?_toArray, List.getElem?_cons_succ, List.getElem?_cons_zero]; rfl
            case st47 =>
              go_simp
              refine (refText6_any hk3 _ m.sg _ hv).mono ?_
              rintro e Y1 ⟨vv, rfl, hv1, hb⟩
              refine hK.out _ _ (hS.below hb hS.lt) (fun hS => ?_)
              clear hK K
              try simp only [Act.put, List.setIfInBounds_toArray, List.set_cons_zero, List.set_cons_succ]
              replace kV := kV.below hb kV.lt
              replace hB := chain hB hb
              clear hv hb
              obtain ⟨xa, xm, xc, rfl⟩ := hv1.shape3
              have hv := hv1
              clear hv1
              refine wpAnyH_ready (rs := [13]) (by kernel_rfl) (by simp) ?_
              refine' AllReadyH.cons (o := _) ?ho48 (fun K hK => ?st48) AllReadyH.nil
              case ho48 => simp only [List.getElem?_toArray, List.getElem?_cons_succ, List.getElem?_cons_zero]; rfl
              case st48 =>
                ((refine wp_store_part 62 (.tmp 6) (.tmp 33) ([Value.slice xa xm xc, .int .i64 (txtS (wideS (putV (putI s1 m.iv) m.vr) m.f0 m.f1 m.f2 m.f3) m.sg).2]) kV 0 ((.agg #[Value.slice xa xm xc, .int .i64 (txtS (wideS (putV (putI s1 m.iv) m.vr) m.f0 m.f1 m.f2 m.f3) m.sg).2])) [Value.slice xa xm xc, .int .i64 (txtS (wideS (putV (putI s1 m.iv) m.vr) m.f0 m.f1 m.f2 m.f3) m.sg).2] ?_ ?_ ?_ ?_ ?_ ?_ ?_ ?_ ?_ ?_); (· rfl); (· rfl); (· rfl); (· rfl); (· rfl); (· kernel_rfl); (· exact Nat.le_of_ble_eq_true rfl); (· rfl); (· rfl))
                refine hK.out _ _ (hS.rowO _ hVn) (fun hS => ?_)
                clear hK K
                try simp only [Act.put, List.setIfInBounds_toArray, List.set_cons_zero, List.set_cons_succ]
                replace hv := bsl_row hv (noOct2 kV) [Value.slice xa xm xc, .int .i64 (txtS (wideS (putV (putI s1 m.iv) m.vr) m.f0 m.f1 m.f2 m.f3) m.sg).2].toArray
                replace hB := below_setRow hB hVw [Value.slice xa xm xc, .int .i64 (txtS (wideS (putV (putI s1 m.iv) m.vr) m.f0 m.f1 m.f2 m.f3) m.sg).2].toArray
                replace kV := kV.row [Value.slice xa xm xc, .int .i64 (txtS (wideS (putV (putI s1 m.iv) m.vr) m.f0 m.f1 m.f2 m.f3) m.sg).2]
                clear hS
                refine wpAnyH_done (by kernel_rfl) ?_ _
                generalize World.setRow Y1 _ _ = Y8 at *
                go_upto_region 11 with fail
                refine wp_region_held_drew (S := fun W => Blk W VB 62 [.slice xa xm xc, .int .i64 (txtS (wideS (putV (putI s1 m.iv) m.vr) m.f0 m.f1 m.f2 m.f3) m.sg).2]) hmx kV ?_
                intro hS
                replace hv := bslU hv (Below.refl _ _).drew
                replace hB := hB.drew
                clear kV
                generalize World.drew _ = Y9 at *
                refine' wpAnyH_take (i := 0) (oi := _) (v := _) ?hi49 (by kernel_rfl) (by kernel_rfl) (by kernel_rfl) ?hQ49 (Or.inl ⟨?hw49, ?hy49⟩) hS ?rest49
                case hi49 => simp only [List.getElem?_toArray, List.getElem?_cons_zero]; rfl
                case hQ49 => exact fun _ _ _ h => h
                case hw49 => rfl
                case hy49 => intro W' hS'; go_simp; with_reducible rfl
                try simp only [Act.put, List.setIfInBounds_toArray, List.set_cons_zero, List.set_cons_succ]
                refine' wpAnyH_take (i := 1) (oi := _) (v := _) ?hi50 (by kernel_rfl) (by kernel_rfl) (by kernel_rfl) ?hQ50 (Or.inl ⟨?hw50, ?hy50⟩) hS ?rest50
                case hi50 => simp only [List.getElem?_toArray, List.getElem?_cons_succ, List.getElem?_cons_zero]; rfl
                case hQ50 => exact fun _ _ _ h => h
                case hw50 => rfl
                case hy50 => intro W' hS'; obtain ⟨a0, a1⟩ := Blk.c2 hS'; go_simp; with_reducible rfl
                try simp only [Act.put, List.setIfInBounds_toArray, List.set_cons_zero, List.set_cons_succ]
                refine' wpAnyH_take (i := 2) (oi := _) (v := _) ?hi51 (by kernel_rfl) (by kernel_rfl) (by kernel_rfl) ?hQ51 (Or.inl ⟨?hw51, ?hy51⟩) hS ?rest51
                case hi51 => simp only [List.getElem?_toArray, List.getElem?_cons_succ, List.getElem?_cons_zero]; rfl
                case hQ51 => exact fun _ _ _ h => h
                case hw51 => rfl
                case hy51 => intro W' hS'; go_simp; with_reducible rfl
                try simp only [Act.put, List.setIfInBounds_toArray, List.set_cons_zero, List.set_cons_succ]
                refine' wpAnyH_take (i := 3) (oi := _) (v := _) ?hi52 (by kernel_rfl) (by kernel_rfl) (by kernel_rfl) ?hQ52 (Or.inl ⟨?hw52, ?hy52⟩) hS ?rest52
                case hi52 => simp only [List.getElem?_toArray, List.getElem?_cons_succ, List.getElem?_cons_zero]; rfl
                case hQ52 => exact fun _ _ _ h => h
                case hw52 => rfl
                case hy52 => intro W' hS'; obtain ⟨a0, a1⟩ := Blk.c2 hS'; go_simp; with_reducible rfl
                try simp only [Act.put, List.setIfInBounds_toArray, List.set_cons_zero, List.set_cons_succ]
                refine' wpAnyH_take (i := 4) (oi := _) (v := _) ?hi53 (by kernel_rfl) (by kernel_rfl) (by kernel_rfl) ?hQ53 (Or.inl ⟨?hw53, ?hy53⟩) hS ?rest53
                case hi53 => simp only [List.getElem?_toArray, List.getElem?_cons_succ, List.getElem?_cons_zero]; rfl
                case hQ53 => exact fun _ _ _ h => h
                case hw53 => rfl
                case hy53 => intro W' hS'; go_simp; with_reducible rfl
                try simp only [Act.put, List.setIfInBounds_toArray, List.set_cons_zero, List.set_cons_succ]
                refine' wpAnyH_take (i := 5) (oi := _) (v := _) ?hi54 (by kernel_rfl) (by kernel_rfl) (by kernel_rfl) ?hQ54 (Or.inl ⟨?hw54, ?hy54⟩) hS ?rest54
                case hi54 => simp only [List.getElem?_toArray, List.getElem?_cons_succ, List.getElem?_cons_zero]; rfl
                case hQ54 => exact fun _ _ _ h => h
                case hw54 => rfl
                case hy54 => intro W' hS'; go_simp; with_reducible rfl
                try simp only [Act.put, List.setIfInBounds_toArray, List.set_cons_zero, List.set_cons_succ]
                refine wpAnyH_done (by kernel_rfl) ?_ _
                go_wp2_with fail
                go_ret2
                exact ⟨.slice xa xm xc, by rw [HX.out]; rfl, by rw [HX.out]; exact hv, hB⟩
  · have HX := Lib.hid (octG_no he)
    have q1 : (errG m != 0) = true := by simpa using he
    have q2 : (errG m == 0) = false := by simpa using he
    clear he
    go_wp2_with fail
    go_ret2
    exact ⟨.slice none 0 0, by rw [HX.out]; rfl, by rw [HX.out]; exact HNIL.out _, hB⟩
end Go.Proofs.Ytigdenlnnnfjlaa
