/-
  A writer by the reference: its blocks.
  An ask, put by the reference.
-/
import Derived.Deep.Cut
import Derived.Test.YtiibeahgleaonaaK08
namespace Go.Proofs.Ytiibeahgleaonaa
open Go.RowKit Go.Shelf

/-- The blocks of such a writer: what is taken; the thing; the result. -/
structure WW (T : TypeId) (vs : List Value) (w Y : World) (s : St) (z : Value) : Prop where
  a : Blk Y w.heap.size 36 [z, .int .i64 s.2]
  l : Blk Y (w.heap.size + 1) T vs
  r : Blk Y (w.heap.size + 2) 36 [.slice none 0 0, .int .i64 0]
  b : BSl 0 Y.heap.size Y z s.1
  w : Below w.heap.size w Y
theorem WW.below {T : TypeId} {vs : List Value} {w Y Y' : World} {s : St} {z : Value} (h : WW T vs w Y s z) (hb : Below Y.heap.size Y Y') : WW T vs w Y' s z :=
  ⟨h.a.below hb h.a.lt, h.l.below hb h.l.lt, h.r.below hb h.r.lt, (h.b.below hb (Nat.le_refl _)).mono (Nat.le_refl _) hb.size, chain h.w hb⟩
theorem WW.drew {T : TypeId} {vs : List Value} {w Y : World} {s : St} {z : Value} (h : WW T vs w Y s z) : WW T vs w Y.drew s z := h.below (Below.refl _ Y).drew
theorem WW.fin {T : TypeId} {vs : List Value} {w Y : World} {s s' : St} {z : Value} (h : WW T vs w Y s z) {sv : Value} (hv : BSl 0 Y.heap.size Y sv s'.1) :
    WW T vs w ((Y.setCell ⟨w.heap.size, 0, none⟩ sv).setCell ⟨w.heap.size, 1, none⟩ (.int .i64 s'.2)) s' sv := by
  obtain ⟨h1, h2, h3⟩ := stored_at (y := s'.2) hv h.w (Nat.le_refl _) h.b.shape3 h.a
  exact ⟨h1, (h.l.other 0 _ (by omega)).other 1 _ (by omega), (h.r.other 0 _ (by omega)).other 1 _ (by omega), h2, h3⟩
end Go.Proofs.Ytiibeahgleaonaa

namespace Go.Proofs.Ytiibeahgleaonaa
open Go.RowKit Go.Shelf

set_option maxRecDepth 100000 in
set_option maxHeartbeats 2000000 in
theorem refPutAsk_any {s : St} (hok : OkS s) (sv : Value) (i : Ak) (hi4 : Ok4 i.a0 i.a1 i.a2 i.a3) (w : World) (hsl : BSl 0 w.heap.size w sv s.1) :
    Calls Try.prog 9 #[.agg #[sv, .int .i64 s.2], akv i] w (RefS (putA s i) w) := by
  have hmx : Try.prog.follows .mixedOrders = true := by kernel_rfl
  have HG : Hid (putA s i = txtS (wideS (numS (numS (numS (numS s i.us) i.se) i.re) i.to) i.a0 i.a1 i.a2 i.a3) i.id) := Lib.hid rfl
  have hok1 : OkS (numS (numS (numS (numS s i.us) i.se) i.re) i.to) := okS_putA4 hok i
  obtain ⟨a, m, c, rfl⟩ := hsl.shape3
  go_enter Try.func9, Try.ntmps9
  go_wp2_with fail
  generalize hW0 : World.alloc _ _ = W0
  have hP : WW 26 (akc i) w W0 s (.slice a m c) := by
    have b3 := chainA (chainA (chain0 w (.cells #[.slice a m c, .int .i64 s.2] 36)) (.cells (akc i).toArray 26)) (.cells #[.slice none 0 0, .int .i64 0] 36)
    rw [← hW0]
    exact ⟨((Blk.new w _ [_, _]).alloc _).alloc _, (Blk.new' (vs := (akc i)) (by simp)).alloc _, Blk.new' (vs := [_, _]) (by simp), (hsl.below b3 (Nat.le_refl _)).mono (Nat.le_refl _) b3.size, b3⟩
  clear hW0 hsl
  refine wp_region_held_drew (S := fun W => Blk W (w.heap.size + 1) 26 (akc i)) hmx hP.l ?_
  intro hS
  replace hP := hP.drew
  generalize World.drew _ = Y at *
  refine' wpAnyH_take (i := 1) (oi := _) (v := _) ?hi1 (by kernel_rfl) (by kernel_rfl) (by kernel_rfl) ?hQ1 (Or.inl ⟨?hw1, ?hy1⟩) hS ?rest1
  case hi1 => simp only [List.getElem?_toArray, List.getElem?_cons_succ, List.getElem?_cons_zero]; rfl
  case hQ1 => exact fun _ _ _ h => h
  case hw1 => rfl
  case hy1 => intro W' hS'; go_simp; with_reducible rfl
  try simp only [Act.put, List.setIfInBounds_toArray, List.set_cons_zero, List.set_cons_succ]
  refine' wpAnyH_take (i := 2) (oi := _) (v := _) ?hi2 (by kernel_rfl) (by kernel_rfl) (by kernel_rfl) ?hQ2 (Or.inl ⟨?hw2, ?hy2⟩) hS ?rest2
  case hi2 => simp only [List.getElem?_toArray, List.getElem?_cons_succ, List.getElem?_cons_zero]; rfl
  case hQ2 => exact fun _ _ _ h => h
  case hw2 => rfl
  case hy2 => intro W' hS'; obtain ⟨c0, c1, c2, c3, c4, c5, c6, c7, c8⟩ := Blk.c9 hS'; go_simp; with_reducible rfl
  try simp only [Act.put, List.setIfInBounds_toArray, List.set_cons_zero, List.set_cons_succ]
  refine' wpAnyH_take (i := 4) (oi := _) (v := _) ?hi3 (by kernel_rfl) (by kernel_rfl) (by kernel_rfl) ?hQ3 (Or.inl ⟨?hw3, ?hy3⟩) hS ?rest3
  case hi3 => simp only [List.getElem?_toArray, List.getElem?_cons_succ, List.getElem?_cons_zero]; rfl
  case hQ3 => exact fun _ _ _ h => h
  case hw3 => rfl
  case hy3 => intro W' hS'; go_simp; with_reducible rfl
  try simp only [Act.put, List.setIfInBounds_toArray, List.set_cons_zero, List.set_cons_succ]
  refine' wpAnyH_take (i := 5) (oi := _) (v := _) ?hi4 (by kernel_rfl) (by kernel_rfl) (by kernel_rfl) ?hQ4 (Or.inl ⟨?hw4, ?hy4⟩) hS ?rest4
  case hi4 => simp only [List.getElem?_toArray, List.getElem?_cons_succ, List.getElem?_cons_zero]; rfl
  case hQ4 => exact fun _ _ _ h => h
  case hw4 => rfl
  case hy4 => intro W' hS'; obtain ⟨c0, c1, c2, c3, c4, c5, c6, c7, c8⟩ := Blk.c9 hS'; go_simp; with_reducible rfl
  try simp only [Act.put, List.setIfInBounds_toArray, List.set_cons_zero, List.set_cons_succ]
  refine' wpAnyH_take (i := 7) (oi := _) (v := _) ?hi5 (by kernel_rfl) (by kernel_rfl) (by kernel_rfl) ?hQ5 (Or.inl ⟨?hw5, ?hy5⟩) hS ?rest5
  case hi5 => simp only [List.getElem?_toArray, List.getElem?_cons_succ, List.getElem?_cons_zero]; rfl
  case hQ5 => exact fun _ _ _ h => h
  case hw5 => rfl
  case hy5 => intro W' hS'; go_simp; with_reducible rfl
  try simp only [Act.put, List.setIfInBounds_toArray, List.set_cons_zero, List.set_cons_succ]
  refine' wpAnyH_take (i := 8) (oi := _) (v := _) ?hi6 (by kernel_rfl) (by kernel_rfl) (by kernel_rfl) ?hQ6 (Or.inl ⟨?hw6, ?hy6⟩) hS ?rest6
  case hi6 => simp only [List.getElem?_toArray, List.getElem?_cons_succ, List.getElem?_cons_zero]; rfl
  case hQ6 => exact fun _ _ _ h => h
  case hw6 => rfl
  case hy6 => intro W' hS'; obtain ⟨c0, c1, c2, c3, c4, c5, c6, c7, c8⟩ := Blk.c9 hS'; go_simp; with_reducible rfl
  try simp only [Act.put, List.setIfInBounds_toArray, List.set_cons_zero, List.set_cons_succ]
  refine' wpAnyH_take (i := 10) (oi := _) (v := _) ?hi7 (by kernel_rfl) (by kernel_rfl) (by kernel_rfl) ?hQ7 (Or.inl ⟨?hw7, ?hy7⟩) hS ?rest7
  case hi7 => simp only [List.getElem?_toArray, List.getElem?_cons_succ, List.getElem?_cons_zero]; rfl
  case hQ7 => exact fun _ _ _ h => h
  case hw7 => rfl
  case hy7 => intro W' hS'; go_simp; with_reducible rfl
  try simp only [Act.put, List.setIfInBounds_toArray, List.set_cons_zero, List.set_cons_succ]
  refine' wpAnyH_take (i := 11) (oi := _) (v := _) ?hi8 (by kernel_rfl) (by kernel_rfl) (by kernel_rfl) ?hQ8 (Or.inl ⟨?hw8, ?hy8⟩) hS ?rest8
  case hi8 => simp only [List.getElem?_toArray, List.getElem?_cons_succ, List.getElem?_cons_zero]; rfl
  case hQ8 => exact fun _ _ _ h => h
  case hw8 => rfl
  case hy8 => intro W' hS'; obtain ⟨c0, c1, c2, c3, c4, c5, c6, c7, c8⟩ := Blk.c9 hS'; go_simp; with_reducible rfl
  try simp only [Act.put, List.setIfInBounds_toArray, List.set_cons_zero, List.set_cons_succ]
  refine wpAnyH_ready (rs := [0]) (by kernel_rfl) (by simp) ?_
  refine' AllReadyH.cons (o := _) ?ho9 (fun K hK => ?st9) AllReadyH.nil
  case ho9 => simp only [List.getElem?_toArray, List.getElem?_cons_zero]; rfl
  case st9 =>
    obtain ⟨a0, a1⟩ := Blk.c2 hP.a
    go_simp
    refine hK.out _ _ hS (fun hS => ?_)
    clear hK K
    try simp only [Act.put, List.setIfInBounds_toArray, List.set_cons_zero, List.set_cons_succ]
    clear a0 a1
    have hv := hP.b
    refine wpAnyH_ready (rs := [3]) (by kernel_rfl) (by simp) ?_
    refine' AllReadyH.cons (o := _) ?ho10 (fun K hK => ?st10) AllReadyH.nil
    case ho10 => simp only [List.getElem?_toArray, List.getElem?_cons_succ, List.getElem?_cons_zero]; rfl
    case st10 =>
      go_simp
      refine (refNum6_any hok _ i.us _ hv).mono ?_
      rintro e Y1 ⟨vv, rfl, hv1, hb⟩
      refine hK.out _ _ (hS.below hb hS.lt) (fun hS => ?_)
      clear hK K
      try simp only [Act.put, List.setIfInBounds_toArray, List.set_cons_zero, List.set_cons_succ]
      replace hP := hP.below hb
      clear hv hb
      obtain ⟨va, vm, vc, rfl⟩ := hv1.shape3
      have hv := hv1
      clear hv1
      refine wpAnyH_ready (rs := [6]) (by kernel_rfl) (by simp) ?_
      refine' AllReadyH.cons (o := _) ?ho11 (fun K hK => ?st11) AllReadyH.nil
      case ho11 => simp only [List.getElem?_toArray, List.getElem?_cons_succ, List.getElem?_cons_zero]; rfl
      case st11 =>
        go_simp
        refine (refNum6_any (okS_num hok _) _ i.se _ hv).mono ?_
        rintro e Y1 ⟨vv, rfl, hv1, hb⟩
        refine hK.out _ _ (hS.below hb hS.lt) (fun hS => ?_)
        clear hK K
        try simp only [Act.put, List.setIfInBounds_toArray, List.set_cons_zero, List.set_cons_succ]
        replace hP := hP.below hb
        clear hv hb
        obtain ⟨va, vm, vc, rfl⟩ := hv1.shape3
        have hv := hv1
        clear hv1
        refine wpAnyH_ready (rs := [9]) (by kernel_rfl) (by simp) ?_
        refine' AllReadyH.cons (o := _) ?ho12 (fun K hK => ?st12) AllReadyH.nil
        case ho12 => simp only [List.getElem?_toArray, List.getElem?_cons_succ, List.getElem?_cons_zero]; rfl
        case st12 =>
          go_simp
          refine (refNum6_any (okS_num (okS_num hok _) _) _ i.re _ hv).mono ?_
          rintro e Y1 ⟨vv, rfl, hv1, hb⟩
          refine hK.out _ _ (hS.below hb hS.lt) (fun hS => ?_)
          clear hK K
          try simp only [Act.put, List.setIfInBounds_toArray, List.set_cons_zero, List.set_cons_succ]
          replace hP := hP.below hb
          clear hv hb
          obtain ⟨va, vm, vc, rfl⟩ := hv1.shape3
          have hv := hv1
          clear hv1
          refine wpAnyH_ready (rs := [12]) (by kernel_rfl) (by simp) ?_
          refine' AllReadyH.cons (o := _) ?ho13 (fun K hK => ?st13) AllReadyH.nil
          case ho13 => simp only [List.getElem?_toArray, List.getElem?_cons_succ, List.getElem?_cons_zero]; rfl
          case st13 =>
            go_simp
            refine (refNum6_any (okS_num (okS_num (okS_num hok _) _) _) _ i.to _ hv).mono ?_
            rintro e Y1 ⟨vv, rfl, hv1, hb⟩
            refine hK.out _ _ (hS.below hb hS.lt) (fun hS => ?_)
            clear hK K
            try simp only [Act.put, List.setIfInBounds_toArray, List.set_cons_zero, List.set_cons_succ]
            replace hP := hP.below hb
            clear hv hb
            obtain ⟨va, vm, vc, rfl⟩ := hv1.shape3
            have hv := hv1
            clear hv1
            refine wpAnyH_ready (rs := [13]) (by kernel_rfl) (by simp) ?_
            refine' AllReadyH.cons (o := _) ?ho14 (fun K hK => ?st14) AllReadyH.nil
            case ho14 => simp only [List.getElem?_toArray, List.getElem?_cons_succ, List.getElem?_cons_zero]; rfl
            case st14 =>
              obtain ⟨a0, a1⟩ := Blk.c2 hP.a
              have fa := hP.a.frozen
              go_simp
              refine hK.out _ _ ((hS.other 0 _ (by omega)).other 1 _ (by omega)) (fun hS => ?_)
              clear hK K
              try simp only [Act.put, List.setIfInBounds_toArray, List.set_cons_zero, List.set_cons_succ]
              replace hP := WW.fin (s' := numS (numS (numS (numS s i.us) i.se) i.re) i.to) hP hv
              clear a0 a1 fa hv
              refine wpAnyH_done (by kernel_rfl) ?_ _
              go_wp2_with fail
              generalize (World.setCell (World.setCell Y1 _ _) _ _) = Y3 at *
              generalize numS (numS (numS (numS s i.us) i.se) i.re) i.to = s1 at *
              clear hS
              refine wp_region_held_drew (S := fun W => Blk W (w.heap.size + 1) 26 (akc i)) hmx hP.l ?_
              intro hS
              replace hP := hP.drew
              generalize World.drew _ = Y at *
              refine' wpAnyH_take (i := 1) (oi := _) (v := _) ?hi15 (by kernel_rfl) (by kernel_rfl) (by kernel_rfl) ?hQ15 (Or.inl ⟨?hw15, ?hy15⟩) hS ?rest15
              case hi15 => simp only [List.getElem?_toArray, List.getElem?_cons_succ, List.getElem?_cons_zero]; rfl
              case hQ15 => exact fun _ _ _ h => h
              case hw15 => rfl
              case hy15 => intro W' hS'; go_simp; with_reducible rfl
              try simp only [Act.put, List.setIfInBounds_toArray, List.set_cons_zero, List.set_cons_succ]
              refine' wpAnyH_take (i := 2) (oi := _) (v := _) ?hi16 (by kernel_rfl) (by kernel_rfl) (by kernel_rfl) ?hQ16 (Or.inl ⟨?hw16, ?hy16⟩) hS ?rest16
              case hi16 => simp only [List.getElem?_toArray, List.getElem?_cons_succ, List.getElem?_cons_zero]; rfl
              case hQ16 => exact fun _ _ _ h => h
              case hw16 => rfl
              case hy16 => intro W' hS'; obtain ⟨c0, c1, c2, c3, c4, c5, c6, c7, c8⟩ := Blk.c9 hS'; go_simp; with_reducible rfl
              try simp only [Act.put, List.setIfInBounds_toArray, List.set_cons_zero, List.set_cons_succ]
              refine' wpAnyH_take (i := 4) (oi := _) (v := _) ?hi17 (by kernel_rfl) (by kernel_rfl) (by kernel_rfl) ?hQ17 (Or.inl ⟨?hw17, ?hy17⟩) hS ?rest17
              case hi17 => simp only [List.getElem?_toArray, List.getElem?_cons_succ, List.getElem?_cons_zero]; rfl
              case hQ17 => exact fun _ _ _ h => h
              case hw17 => rfl
              case hy17 => intro W' hS'; go_simp; with_reducible rfl
              try simp only [Act.put, List.setIfInBounds_toArray, List.set_cons_zero, List.set_cons_succ]
              refine' wpAnyH_take (i := 5) (oi := _) (v := _) ?hi18 (by kernel_rfl) (by kernel_rfl) (by kernel_rfl) ?hQ18 (Or.inl ⟨?hw18, ?hy18⟩) hS ?rest18
              case hi18 => simp only [List.getElem?_toArray, List.getElem?_cons_succ, List.getElem?_cons_zero]; rfl
              case hQ18 => exact fun _ _ _ h => h
              case hw18 => rfl
              case hy18 => intro W' hS'; obtain ⟨c0, c1, c2, c3, c4, c5, c6, c7, c8⟩ := Blk.c9 hS'; go_simp; with_reducible rfl
              try simp only [Act.put, List.setIfInBounds_toArray, List.set_cons_zero, List.set_cons_succ]
              refine wpAnyH_ready (rs := [0]) (by kernel_rfl) (by simp) ?_
              refine' AllReadyH.cons (o := _) ?ho19 (fun K hK => ?st19) AllReadyH.nil
              case ho19 => simp only [List.getElem?_toArray, List.getElem?_cons_zero]; rfl
              case st19 =>
                obtain ⟨a0, a1⟩ := Blk.c2 hP.a
                go_simp
                refine hK.out _ _ hS (fun hS => ?_)
                clear hK K
                try simp only [Act.put, List.setIfInBounds_toArray, List.set_cons_zero, List.set_cons_succ]
                clear a0 a1
                have hv := hP.b
                refine wpAnyH_ready (rs := [3]) (by kernel_rfl) (by simp) ?_
                refine' AllReadyH.cons (o := _) ?ho20 (fun K hK => ?st20) AllReadyH.nil
                case ho20 => simp only [List.getElem?_toArray, List.getElem?_cons_succ, List.getElem?_cons_zero]; rfl
                case st20 =>
                  go_simp
                  refine (refWide6_any hok1 _ hi4 _ hv).mono ?_
                  rintro e Y1 ⟨vv, rfl, hv1, hb⟩
                  refine hK.out _ _ (hS.below hb hS.lt) (fun hS => ?_)
                  clear hK K
                  try simp only [Act.put, List.setIfInBounds_toArray, List.set_cons_zero, List.set_cons_succ]
                  replace hP := hP.below hb
                  clear hv hb
                  obtain ⟨va, vm, vc, rfl⟩ := hv1.shape3
                  have hv := hv1
                  clear hv1
                  refine wpAnyH_ready (rs := [6]) (by kernel_rfl) (by simp) ?_
                  refine' AllReadyH.cons (o := _) ?ho21 (fun K hK => ?st21) AllReadyH.nil
                  case ho21 => simp only [List.getElem?_toArray, List.getElem?_cons_succ, List.getElem?_cons_zero]; rfl
                  case st21 =>
                    go_simp
                    refine (refText6_any (okS_wide hok1 _ _ _ _) _ i.id _ hv).mono ?_
                    rintro e Y1 ⟨vv, rfl, hv1, hb⟩
                    refine hK.out _ _ (hS.below hb hS.lt) (fun hS => ?_)
                    clear hK K
                    try simp only [Act.put, List.setIfInBounds_toArray, List.set_cons_zero, List.set_cons_succ]
                    replace hP := hP.below hb
                    clear hv hb
                    obtain ⟨va, vm, vc, rfl⟩ := hv1.shape3
                    have hv := hv1
                    clear hv1
                    refine wpAnyH_ready (rs := [7]) (by kernel_rfl) (by simp) ?_
                    refine' AllReadyH.cons (o := _) ?ho22 (fun K hK => ?st22) AllReadyH.nil
                    case ho22 => simp only [List.getElem?_toArray, List.getElem?_cons_succ, List.getElem?_cons_zero]; rfl
                    case st22 =>
                      obtain ⟨r0, r1⟩ := Blk.c2 hP.r
                      have g0 := hP.r.frozen
                      go_simp
                      refine hK.out _ _ ((hS.other 0 _ (by omega)).other 1 _ (by omega)) (fun hS => ?_)
                      clear hK K
                      try simp only [Act.put, List.setIfInBounds_toArray, List.set_cons_zero, List.set_cons_succ]
                      refine wpAnyH_done (by kernel_rfl) ?_ _
                      have hfin := refS_stored hv hP.w (Nat.le_add_right _ 2) ⟨_, _, _, rfl⟩ hP.r
                      go_wp2_with fail
                      obtain ⟨q0, q1⟩ := Blk.c2 hfin.1
                      exact bodyPost_ret (v := .agg #[.slice va vm vc, .int .i64 (txtS (wideS s1 i.a0 i.a1 i.a2 i.a3) i.id).2]) (by simp [results, Try.results9, go_sem, q0, q1]; try rfl) rfl (by rw [HG.out]; exact hfin.2)
end Go.Proofs.Ytiibeahgleaonaa
