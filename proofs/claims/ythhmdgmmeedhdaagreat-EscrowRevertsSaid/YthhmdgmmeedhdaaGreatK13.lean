/-
  A writer by the reference: its blocks; A transfer, and a side's data, put by the reference; Which transfers may be, by the reference; 'string(b)'; the octets of a writer by the reference; A transfer's key, a side's digest, an act's payload, by the reference; The page's state in memory; a list of sixteen, less and more; what is held; a lock's place; The page: what is held; a lock's place; is an act
-/
import Derived.Deep.Cut
import Derived.Outline
import Derived.Deep.CutBlock
import Derived.Deep.DeepCutAuto
import Derived.LoopTactic
import Derived.Laws.StructEq
import Derived.Test.YthhmdgmmeedhdaaGreatK12
namespace Go.Proofs.YthhmdgmmeedhdaaGreat
open Go.RowKit Go.Shelf
structure WW (T : TypeId) (vs : List Value) (w Y : World) (s : St) (z : Value) : Prop where
  a : Blk Y w.heap.size 101 [z, .int .i64 s.2]
  l : Blk Y (w.heap.size + 1) T vs
  r : Blk Y (w.heap.size + 2) 101 [.slice none 0 0, .int .i64 0]
  b : BSl 0 Y.heap.size Y z s.1
  w : Below w.heap.size w Y
theorem WW.below {T : TypeId} {vs : List Value} {w Y Y' : World} {s : St} {z : Value} (h : WW T vs w Y s z) (hb : Below Y.heap.size Y Y') : WW T vs w Y' s z :=
  ⟨h.a.below hb h.a.lt, h.l.below hb h.l.lt, h.r.below hb h.r.lt, (h.b.below hb (Nat.le_refl _)).mono (Nat.le_refl _) hb.size, chain h.w hb⟩
theorem WW.drew {T : TypeId} {vs : List Value} {w Y : World} {s : St} {z : Value} (h : WW T vs w Y s z) : WW T vs w Y.drew s z := h.below (Below.refl _ Y).drew
theorem WW.fin {T : TypeId} {vs : List Value} {w Y : World} {s s' : St} {z : Value} (h : WW T vs w Y s z) {sv : Value} (hv : BSl 0 Y.heap.size Y sv s'.1) :
    WW T vs w ((Y.setCell ⟨w.heap.size, 0, none⟩ sv).setCell ⟨w.heap.size, 1, none⟩ (.int .i64 s'.2)) s' sv := by
  obtain ⟨h1, h2, h3⟩ := stored_at (y := s'.2) hv h.w (Nat.le_refl _) h.b.shape3 h.a
  exact ⟨h1, (h.l.other 0 _ (by omega)).other 1 _ (by omega), (h.r.other 0 _ (by omega)).other 1 _ (by omega), h2, h3⟩
end Go.Proofs.YthhmdgmmeedhdaaGreat
namespace Go.Proofs.YthhmdgmmeedhdaaGreat
open Go.RowKit Go.Shelf
set_option maxRecDepth 100000 in
set_option maxHeartbeats 2000000 in
theorem refPutInv_any {s : St} (hok : OkS s) (sv : Value) (i : Trf) (w : World) (hsl : BSl 0 w.heap.size w sv s.1) :
    Calls Tryz.prog 53 #[.agg #[sv, .int .i64 s.2], ivv i] w (RefS (putI s i) w) := by
  have hmx : Tryz.prog.follows .mixedOrders = true := by kernel_rfl
  have HG : Hid (putI s i = txtS (numS (numS (numS (numS (txtS (numS (txtS s invB) i.us) i.rt) i.ro) i.se) i.re) i.to) i.id) := Lib.hid rfl
  have hok1 : OkS (txtS (numS (txtS s invB) i.us) i.rt) := okS_putI1 hok i
  have hok2 : OkS (numS (numS (numS (numS (txtS (numS (txtS s invB) i.us) i.rt) i.ro) i.se) i.re) i.to) := okS_putI2 hok1 i
  obtain ⟨a, m, c, rfl⟩ := hsl.shape3
  go_enter Tryz.func53, Tryz.ntmps53
  go_wp2_with fail
  generalize hW0 : World.alloc _ _ = W0
  have hP : WW 46 (ivc i) w W0 s (.slice a m c) := by
    have b3 := chainA (chainA (chain0 w (.cells #[.slice a m c, .int .i64 s.2] 101)) (.cells (ivc i).toArray 46)) (.cells #[.slice none 0 0, .int .i64 0] 101)
    rw [← hW0]
    exact ⟨((Blk.new w _ [_, _]).alloc _).alloc _, (Blk.new' (vs := (ivc i)) (by simp)).alloc _, Blk.new' (vs := [_, _]) (by simp), (hsl.below b3 (Nat.le_refl _)).mono (Nat.le_refl _) b3.size, b3⟩
  clear hW0 hsl
  refine wp_region_held_drew (S := fun W => Blk W (w.heap.size + 1) 46 (ivc i)) hmx hP.l ?_
  intro hS
  replace hP := hP.drew
  generalize World.drew _ = Y at *
  refine' wpAnyH_take (i := 2) (oi := _) (v := _) ?hi1 (by kernel_rfl) (by kernel_rfl) (by kernel_rfl) ?hQ1 (Or.inl ⟨?hw1, ?hy1⟩) hS ?rest1
  case hi1 => simp only [List.getElem?_toArray, List.getElem?_cons_succ, List.getElem?_cons_zero]; rfl
  case hQ1 => exact fun _ _ _ h => h
  case hw1 => rfl
  case hy1 => intro W' hS'; go_simp; with_reducible rfl
  try simp only [Act.put, List.setIfInBounds_toArray, List.set_cons_zero, List.set_cons_succ]
  refine' wpAnyH_take (i := 3) (oi := _) (v := _) ?hi2 (by kernel_rfl) (by kernel_rfl) (by kernel_rfl) ?hQ2 (Or.inl ⟨?hw2, ?hy2⟩) hS ?rest2
  case hi2 => simp only [List.getElem?_toArray, List.getElem?_cons_succ, List.getElem?_cons_zero]; rfl
  case hQ2 => exact fun _ _ _ h => h
  case hw2 => rfl
  case hy2 => intro W' hS'; obtain ⟨c0, c1, c2, c3, c4, c5, c6⟩ := Blk.c7 hS'; go_simp; with_reducible rfl
  try simp only [Act.put, List.setIfInBounds_toArray, List.set_cons_zero, List.set_cons_succ]
  refine' wpAnyH_take (i := 5) (oi := _) (v := _) ?hi3 (by kernel_rfl) (by kernel_rfl) (by kernel_rfl) ?hQ3 (Or.inl ⟨?hw3, ?hy3⟩) hS ?rest3
  case hi3 => simp only [List.getElem?_toArray, List.getElem?_cons_succ, List.getElem?_cons_zero]; rfl
  case hQ3 => exact fun _ _ _ h => h
  case hw3 => rfl
  case hy3 => intro W' hS'; go_simp; with_reducible rfl
  try simp only [Act.put, List.setIfInBounds_toArray, List.set_cons_zero, List.set_cons_succ]
  refine' wpAnyH_take (i := 6) (oi := _) (v := _) ?hi4 (by kernel_rfl) (by kernel_rfl) (by kernel_rfl) ?hQ4 (Or.inl ⟨?hw4, ?hy4⟩) hS ?rest4
  case hi4 => simp only [List.getElem?_toArray, List.getElem?_cons_succ, List.getElem?_cons_zero]; rfl
  case hQ4 => exact fun _ _ _ h => h
  case hw4 => rfl
  case hy4 => intro W' hS'; obtain ⟨c0, c1, c2, c3, c4, c5, c6⟩ := Blk.c7 hS'; go_simp; with_reducible rfl
  try simp only [Act.put, List.setIfInBounds_toArray, List.set_cons_zero, List.set_cons_succ]
  refine wpAnyH_ready (rs := [0]) (by kernel_rfl) (by simp) ?_
  refine' AllReadyH.cons (o := _) ?ho5 (fun K hK => ?st5) AllReadyH.nil
  case ho5 => simp only [List.getElem?_toArray, List.getElem?_cons_zero]; rfl
  case st5 =>
    obtain ⟨a0, a1⟩ := Blk.c2 hP.a
    go_simp
    refine hK.out _ _ hS (fun hS => ?_)
    clear hK K
    try simp only [Act.put, List.setIfInBounds_toArray, List.set_cons_zero, List.set_cons_succ]
    clear a0 a1
    have hv := hP.b
    refine wpAnyH_ready (rs := [1]) (by kernel_rfl) (by simp) ?_
    refine' AllReadyH.cons (o := _) ?ho6 (fun K hK => ?st6) AllReadyH.nil
    case ho6 => simp only [List.getElem?_toArray, List.getElem?_cons_succ, List.getElem?_cons_zero]; rfl
    case st6 =>
      go_simp
      refine (refText6_any hok _ invB _ hv).mono ?_
      rintro e Y1 ⟨v, rfl, hv1, hb⟩
      refine hK.out _ _ (hS.below hb hS.lt) (fun hS => ?_)
      clear hK K
      try simp only [Act.put, List.setIfInBounds_toArray, List.set_cons_zero, List.set_cons_succ]
      replace hP := hP.below hb
      clear hv hb
      obtain ⟨va, vm, vc, rfl⟩ := hv1.shape3
      have hv := hv1
      clear hv1
      refine wpAnyH_ready (rs := [4]) (by kernel_rfl) (by simp) ?_
      refine' AllReadyH.cons (o := _) ?ho7 (fun K hK => ?st7) AllReadyH.nil
      case ho7 => simp only [List.getElem?_toArray, List.getElem?_cons_succ, List.getElem?_cons_zero]; rfl
      case st7 =>
        go_simp
        refine (refNum6_any (okS_txt hok _) _ i.us _ hv).mono ?_
        rintro e Y1 ⟨v, rfl, hv1, hb⟩
        refine hK.out _ _ (hS.below hb hS.lt) (fun hS => ?_)
        clear hK K
        try simp only [Act.put, List.setIfInBounds_toArray, List.set_cons_zero, List.set_cons_succ]
        replace hP := hP.below hb
        clear hv hb
        obtain ⟨va, vm, vc, rfl⟩ := hv1.shape3
        have hv := hv1
        clear hv1
        refine wpAnyH_ready (rs := [7]) (by kernel_rfl) (by simp) ?_
        refine' AllReadyH.cons (o := _) ?ho8 (fun K hK => ?st8) AllReadyH.nil
        case ho8 => simp only [List.getElem?_toArray, List.getElem?_cons_succ, List.getElem?_cons_zero]; rfl
        case st8 =>
          go_simp
          refine (refText6_any (okS_num (okS_txt hok _) _) _ i.rt _ hv).mono ?_
          rintro e Y1 ⟨v, rfl, hv1, hb⟩
          refine hK.out _ _ (hS.below hb hS.lt) (fun hS => ?_)
          clear hK K
          try simp only [Act.put, List.setIfInBounds_toArray, List.set_cons_zero, List.set_cons_succ]
          replace hP := hP.below hb
          clear hv hb
          obtain ⟨va, vm, vc, rfl⟩ := hv1.shape3
          have hv := hv1
          clear hv1
          refine wpAnyH_ready (rs := [8]) (by kernel_rfl) (by simp) ?_
          refine' AllReadyH.cons (o := _) ?ho9 (fun K hK => ?st9) AllReadyH.nil
          case ho9 => simp only [List.getElem?_toArray, List.getElem?_cons_succ, List.getElem?_cons_zero]; rfl
          case st9 =>
            obtain ⟨a0, a1⟩ := Blk.c2 hP.a
            have fa := hP.a.frozen
            go_simp
            refine hK.out _ _ ((hS.other 0 _ (by omega)).other 1 _ (by omega)) (fun hS => ?_)
            clear hK K
            try simp only [Act.put, List.setIfInBounds_toArray, List.set_cons_zero, List.set_cons_succ]
            replace hP := WW.fin (s' := txtS (numS (txtS s invB) i.us) i.rt) hP hv
            clear a0 a1 fa hv
            refine wpAnyH_done (by kernel_rfl) ?_ _
            go_wp2_with fail
            generalize (World.setCell (World.setCell Y1 _ _) _ _) = Y3 at *
            generalize txtS (numS (txtS s invB) i.us) i.rt = s1 at *
            clear hS
            refine wp_region_held_drew (S := fun W => Blk W (w.heap.size + 1) 46 (ivc i)) hmx hP.l ?_
            intro hS
            replace hP := hP.drew
            generalize World.drew _ = Y at *
            refine' wpAnyH_take (i := 1) (oi := _) (v := _) ?hi10 (by kernel_rfl) (by kernel_rfl) (by kernel_rfl) ?hQ10 (Or.inl ⟨?hw10, ?hy10⟩) hS ?rest10
            case hi10 => simp only [List.getElem?_toArray, List.getElem?_cons_succ, List.getElem?_cons_zero]; rfl
            case hQ10 => exact fun _ _ _ h => h
            case hw10 => rfl
            case hy10 => intro W' hS'; go_simp; with_reducible rfl
            try simp only [Act.put, List.setIfInBounds_toArray, List.set_cons_zero, List.set_cons_succ]
            refine' wpAnyH_take (i := 2) (oi := _) (v := _) ?hi11 (by kernel_rfl) (by kernel_rfl) (by kernel_rfl) ?hQ11 (Or.inl ⟨?hw11, ?hy11⟩) hS ?rest11
            case hi11 => simp only [List.getElem?_toArray, List.getElem?_cons_succ, List.getElem?_cons_zero]; rfl
            case hQ11 => exact fun _ _ _ h => h
            case hw11 => rfl
            case hy11 => intro W' hS'; obtain ⟨c0, c1, c2, c3, c4, c5, c6⟩ := Blk.c7 hS'; go_simp; with_reducible rfl
            try simp only [Act.put, List.setIfInBounds_toArray, List.set_cons_zero, List.set_cons_succ]
            refine' wpAnyH_take (i := 4) (oi := _) (v := _) ?hi12 (by kernel_rfl) (by kernel_rfl) (by kernel_rfl) ?hQ12 (Or.inl ⟨?hw12, ?hy12⟩) hS ?rest12
            case hi12 => simp only [List.getElem?_toArray, List.getElem?_cons_succ, List.getElem?_cons_zero]; rfl
            case hQ12 => exact fun _ _ _ h => h
            case hw12 => rfl
            case hy12 => intro W' hS'; go_simp; with_reducible rfl
            try simp only [Act.put, List.setIfInBounds_toArray, List.set_cons_zero, List.set_cons_succ]
            refine' wpAnyH_take (i := 5) (oi := _) (v := _) ?hi13 (by kernel_rfl) (by kernel_rfl) (by kernel_rfl) ?hQ13 (Or.inl ⟨?hw13, ?hy13⟩) hS ?rest13
            case hi13 => simp only [List.getElem?_toArray, List.getElem?_cons_succ, List.getElem?_cons_zero]; rfl
            case hQ13 => exact fun _ _ _ h => h
            case hw13 => rfl
            case hy13 => intro W' hS'; obtain ⟨c0, c1, c2, c3, c4, c5, c6⟩ := Blk.c7 hS'; go_simp; with_reducible rfl
            try simp only [Act.put, List.setIfInBounds_toArray, List.set_cons_zero, List.set_cons_succ]
            refine' wpAnyH_take (i := 7) (oi := _) (v := _) ?hi14 (by kernel_rfl) (by kernel_rfl) (by kernel_rfl) ?hQ14 (Or.inl ⟨?hw14, ?hy14⟩) hS ?rest14
            case hi14 => simp only [List.getElem?_toArray, List.getElem?_cons_succ, List.getElem?_cons_zero]; rfl
            case hQ14 => exact fun _ _ _ h => h
            case hw14 => rfl
            case hy14 => intro W' hS'; go_simp; with_reducible rfl
            try simp only [Act.put, List.setIfInBounds_toArray, List.set_cons_zero, List.set_cons_succ]
            refine' wpAnyH_take (i := 8) (oi := _) (v := _) ?hi15 (by kernel_rfl) (by kernel_rfl) (by kernel_rfl) ?hQ15 (Or.inl ⟨?hw15, ?hy15⟩) hS ?rest15
            case hi15 => simp only [List.getElem?_toArray, List.getElem?_cons_succ, List.getElem?_cons_zero]; rfl
            case hQ15 => exact fun _ _ _ h => h
            case hw15 => rfl
            case hy15 => intro W' hS'; obtain ⟨c0, c1, c2, c3, c4, c5, c6⟩ := Blk.c7 hS'; go_simp; with_reducible rfl
            try simp only [Act.put, List.setIfInBounds_toArray, List.set_cons_zero, List.set_cons_succ]
            refine' wpAnyH_take (i := 10) (oi := _) (v := _) ?hi16 (by kernel_rfl) (by kernel_rfl) (by kernel_rfl) ?hQ16 (Or.inl ⟨?hw16, ?hy16⟩) hS ?rest16
            case hi16 => simp only [List.getElem?_toArray, List.getElem?_cons_succ, List.getElem?_cons_zero]; rfl
            case hQ16 => exact fun _ _ _ h => h
            case hw16 => rfl
            case hy16 => intro W' hS'; go_simp; with_reducible rfl
            try simp only [Act.put, List.setIfInBounds_toArray, List.set_cons_zero, List.set_cons_succ]
            refine' wpAnyH_take (i := 11) (oi := _) (v := _) ?hi17 (by kernel_rfl) (by kernel_rfl) (by kernel_rfl) ?hQ17 (Or.inl ⟨?hw17, ?hy17⟩) hS ?rest17
            case hi17 => simp only [List.getElem?_toArray, List.getElem?_cons_succ, List.getElem?_cons_zero]; rfl
            case hQ17 => exact fun _ _ _ h => h
            case hw17 => rfl
            case hy17 => intro W' hS'; obtain ⟨c0, c1, c2, c3, c4, c5, c6⟩ := Blk.c7 hS'; go_simp; with_reducible rfl
            try simp only [Act.put, List.setIfInBounds_toArray, List.set_cons_zero, List.set_cons_succ]
            refine wpAnyH_ready (rs := [0]) (by kernel_rfl) (by simp) ?_
            refine' AllReadyH.cons (o := _) ?ho18 (fun K hK => ?st18) AllReadyH.nil
            case ho18 => simp only [List.getElem?_toArray, List.getElem?_cons_zero]; rfl
            case st18 =>
              obtain ⟨a0, a1⟩ := Blk.c2 hP.a
              go_simp
              refine hK.out _ _ hS (fun hS => ?_)
              clear hK K
              try simp only [Act.put, List.setIfInBounds_toArray, List.set_cons_zero, List.set_cons_succ]
              clear a0 a1
              have hv := hP.b
              refine wpAnyH_ready (rs := [3]) (by kernel_rfl) (by simp) ?_
              refine' AllReadyH.cons (o := _) ?ho19 (fun K hK => ?st19) AllReadyH.nil
              case ho19 => simp only [List.getElem?_toArray, List.getElem?_cons_succ, List.getElem?_cons_zero]; rfl
              case st19 =>
                go_simp
                refine (refNum6_any hok1 _ i.ro _ hv).mono ?_
                rintro e Y1 ⟨v, rfl, hv1, hb⟩
                refine hK.out _ _ (hS.below hb hS.lt) (fun hS => ?_)
                clear hK K
                try simp only [Act.put, List.setIfInBounds_toArray, List.set_cons_zero, List.set_cons_succ]
                replace hP := hP.below hb
                clear hv hb
                obtain ⟨va, vm, vc, rfl⟩ := hv1.shape3
                have hv := hv1
                clear hv1
                refine wpAnyH_ready (rs := [6]) (by kernel_rfl) (by simp) ?_
                refine' AllReadyH.cons (o := _) ?ho20 (fun K hK => ?st20) AllReadyH.nil
                case ho20 => simp only [List.getElem?_toArray, List.getElem?_cons_succ, List.getElem?_cons_zero]; rfl
                case st20 =>
                  go_simp
                  refine (refNum6_any (okS_num hok1 _) _ i.se _ hv).mono ?_
                  rintro e Y1 ⟨v, rfl, hv1, hb⟩
                  refine hK.out _ _ (hS.below hb hS.lt) (fun hS => ?_)
                  clear hK K
                  try simp only [Act.put, List.setIfInBounds_toArray, List.set_cons_zero, List.set_cons_succ]
                  replace hP := hP.below hb
                  clear hv hb
                  obtain ⟨va, vm, vc, rfl⟩ := hv1.shape3
                  have hv := hv1
                  clear hv1
                  refine wpAnyH_ready (rs := [9]) (by kernel_rfl) (by simp) ?_
                  refine' AllReadyH.cons (o := _) ?ho21 (fun K hK => ?st21) AllReadyH.nil
                  case ho21 => simp only [List.getElem?_toArray, List.getElem?_cons_succ, List.getElem?_cons_zero]; rfl
                  case st21 =>
                    go_simp
                    refine (refNum6_any (okS_num (okS_num hok1 _) _) _ i.re _ hv).mono ?_
                    rintro e Y1 ⟨v, rfl, hv1, hb⟩
                    refine hK.out _ _ (hS.below hb hS.lt) (fun hS => ?_)
                    clear hK K
                    try simp only [Act.put, List.setIfInBounds_toArray, List.set_cons_zero, List.set_cons_succ]
                    replace hP := hP.below hb
                    clear hv hb
                    obtain ⟨va, vm, vc, rfl⟩ := hv1.shape3
                    have hv := hv1
                    clear hv1
                    refine wpAnyH_ready (rs := [12]) (by kernel_rfl) (by simp) ?_
                    refine' AllReadyH.cons (o := _) ?ho22 (fun K hK => ?st22) AllReadyH.nil
                    case ho22 => simp only [List.getElem?_toArray, List.getElem?_cons_succ, List.getElem?_cons_zero]; rfl
                    case st22 =>
                      go_simp
                      refine (refNum6_any (okS_num (okS_num (okS_num hok1 _) _) _) _ i.to _ hv).mono ?_
                      rintro e Y1 ⟨v, rfl, hv1, hb⟩
                      refine hK.out _ _ (hS.below hb hS.lt) (fun hS => ?_)
                      clear hK K
                      try simp only [Act.put, List.setIfInBounds_toArray, List.set_cons_zero, List.set_cons_succ]
                      replace hP := hP.below hb
                      clear hv hb
                      obtain ⟨va, vm, vc, rfl⟩ := hv1.shape3
                      have hv := hv1
                      clear hv1
                      refine wpAnyH_ready (rs := [13]) (by kernel_rfl) (by simp) ?_
                      refine' AllReadyH.cons (o := _) ?ho23 (fun K hK => ?st23) AllReadyH.nil
                      case ho23 => simp only [List.getElem?_toArray, List.getElem?_cons_succ, List.getElem?_cons_zero]; rfl
                      case st23 =>
                        obtain ⟨a0, a1⟩ := Blk.c2 hP.a
                        have fa := hP.a.frozen
                        go_simp
                        refine hK.out _ _ ((hS.other 0 _ (by omega)).other 1 _ (by omega)) (fun hS => ?_)
                        clear hK K
                        try simp only [Act.put, List.setIfInBounds_toArray, List.set_cons_zero, List.set_cons_succ]
                        replace hP := WW.fin (s' := numS (numS (numS (numS s1 i.ro) i.se) i.re) i.to) hP hv
                        clear a0 a1 fa hv
                        refine wpAnyH_done (by kernel_rfl) ?_ _
                        go_upto_region 3 with fail
                        generalize (World.setCell (World.setCell Y1 _ _) _ _) = Y4 at *
                        generalize numS (numS (numS (numS s1 i.ro) i.se) i.re) i.to = s2 at *
                        obtain ⟨a0, a1⟩ := Blk.c2 hP.a
                        obtain ⟨c0, c1, c2, c3, c4, c5, c6⟩ := Blk.c7 hP.l
                        go_wp2_with (go_at_call 88; refine (refText6_any hok2 (.slice va vm vc) i.id _ hP.b).mono ?_; rintro e Y5 ⟨v2, rfl, hv2, hb2⟩; obtain ⟨xa, xm, xc, rfl⟩ := hv2.shape3; replace hP := hP.below hb2; obtain ⟨r0, r1⟩ := Blk.c2 hP.r; have g0 := hP.r.frozen 0; have g1 := hP.r.frozen 1)
                        have hfin := refS_stored hv2 hP.w (Nat.le_add_right _ 2) ⟨_, _, _, rfl⟩ hP.r
                        obtain ⟨q0, q1⟩ := Blk.c2 hfin.1
                        exact bodyPost_ret (v := .agg #[.slice xa xm xc, .int .i64 (txtS s2 i.id).2]) (by simp [results, Tryz.results53, go_sem, q0, q1]) rfl (by rw [HG.out]; exact hfin.2)
end Go.Proofs.YthhmdgmmeedhdaaGreat
namespace Go.Proofs.YthhmdgmmeedhdaaGreat
open Go.RowKit Go.Shelf
set_option maxRecDepth 100000 in
set_option maxHeartbeats 2000000 in
theorem refInv_any (i : Trf) (w : World) :
    Calls Tryz.prog 51 #[ivv i] w fun e W' => e = .returned (.int .i64 (errI i)) ∧ Below w.heap.size w W' := by
  have HY : Hid (maybeI i → errI i = 0) := Lib.hid fun h => if_pos h
  have HN : Hid (¬ maybeI i → errI i = 39) := Lib.hid fun h => if_neg h
  obtain ⟨us, rt, ro, se, re, tq, id⟩ := i
  have HM : Hid (maybeI ⟨us, rt, ro, se, re, tq, id⟩ ↔ ((0 ≤ us ∧ us ≤ 1) ∧ (rt.size : Int) = 8 ∧ (2 ≤ ro ∧ ro ≤ 3) ∧ (0 ≤ se ∧ se ≤ 1) ∧ (0 ≤ re ∧ re ≤ 1) ∧ (0 ≤ tq ∧ tq ≤ 7) ∧ (1 : Int) ≤ (id.size : Int) ∧ (id.size : Int) ≤ 16)) := Lib.hid (by
    unfold maybeI
    exact ⟨fun ⟨a, b, c, d, e, f, g, h⟩ => ⟨a, by simp only at b; omega, c, d, e, f, by simp only at g; omega, by simp only at h; omega⟩, fun ⟨a, b, c, d, e, f, g, h⟩ => ⟨a, by simp only; omega, c, d, e, f, by simp only; omega, by simp only; omega⟩⟩)
  generalize errI _ = x at *
  by_cases c0 : us < 0
  · have HX := HN.out (by rw [HM.out]; omega)
    have HX2 := Lib.hid HX
    clear HX
    go_enter Tryz.func51, Tryz.ntmps51
    go_wp2
    go_ret
    exact ⟨by rw [HX2.out]; rfl, chain0 _ _⟩
  by_cases c1 : 1 < us
  · have HX := HN.out (by rw [HM.out]; omega)
    have HX2 := Lib.hid HX
    clear HX
    go_enter Tryz.func51, Tryz.ntmps51
    go_wp2
    go_ret
    exact ⟨by rw [HX2.out]; rfl, chain0 _ _⟩
  by_cases c2 : ro < 2
  · have HX := HN.out (by rw [HM.out]; omega)
    have HX2 := Lib.hid HX
    clear HX
    go_enter Tryz.func51, Tryz.ntmps51
    go_wp2
    go_ret
    exact ⟨by rw [HX2.out]; rfl, chain0 _ _⟩
  by_cases c3 : 3 < ro
  · have HX := HN.out (by rw [HM.out]; omega)
    have HX2 := Lib.hid HX
    clear HX
    go_enter Tryz.func51, Tryz.ntmps51
    go_wp2
    go_ret
    exact ⟨by rw [HX2.out]; rfl, chain0 _ _⟩
  by_cases c4 : se < 0
  · have HX := HN.out (by rw [HM.out]; omega)
    have HX2 := Lib.hid HX
    clear HX
    go_enter Tryz.func51, Tryz.ntmps51
    go_wp2
    go_ret
    exact ⟨by rw [HX2.out]; rfl, chain0 _ _⟩
  by_cases c5 : 1 < se
  · have HX := HN.out (by rw [HM.out]; omega)
    have HX2 := Lib.hid HX
    clear HX
    go_enter Tryz.func51, Tryz.ntmps51
    go_wp2
    go_ret
    exact ⟨by rw [HX2.out]; rfl, chain0 _ _⟩
  by_cases c6 : re < 0
  · have HX := HN.out (by rw [HM.out]; omega)
    have HX2 := Lib.hid HX
    clear HX
    go_enter Tryz.func51, Tryz.ntmps51
    go_wp2
    go_ret
    exact ⟨by rw [HX2.out]; rfl, chain0 _ _⟩
  by_cases c7 : 1 < re
  · have HX := HN.out (by rw [HM.out]; omega)
    have HX2 := Lib.hid HX
    clear HX
    go_enter Tryz.func51, Tryz.ntmps51
    go_wp2
    go_ret
    exact ⟨by rw [HX2.out]; rfl, chain0 _ _⟩
  by_cases c8 : tq < 0
  · have HX := HN.out (by rw [HM.out]; omega)
    have HX2 := Lib.hid HX
    clear HX
    go_enter Tryz.func51, Tryz.ntmps51
    go_wp2
    go_ret
    exact ⟨by rw [HX2.out]; rfl, chain0 _ _⟩
  by_cases c9 : 7 < tq
  · have HX := HN.out (by rw [HM.out]; omega)
    have HX2 := Lib.hid HX
    clear HX
    go_enter Tryz.func51, Tryz.ntmps51
    go_wp2
    go_ret
    exact ⟨by rw [HX2.out]; rfl, chain0 _ _⟩
  by_cases c10 : (rt.size : Int) = 8
  rotate_left
  · have e1 : ((rt.size : Int) == 8) = false := by simpa using c10
    have e2 : ((rt.size : Int) != 8) = true := by simpa using c10
    have HX := HN.out (by rw [HM.out]; omega)
    have HX2 := Lib.hid HX
    clear HX c10
    go_enter Tryz.func51, Tryz.ntmps51
    go_wp2
    go_ret
    exact ⟨by rw [HX2.out]; rfl, chain0 _ _⟩
  have e1 : ((rt.size : Int) == 8) = true := by simpa using c10
  have e2 : ((rt.size : Int) != 8) = false := by simpa using c10
  have HC := Lib.hid c10
  clear c10
  by_cases c11 : (id.size : Int) < 1
  · have HX := HN.out (by rw [HM.out]; have := HC.out; omega)
    have HX2 := Lib.hid HX
    clear HX
    go_enter Tryz.func51, Tryz.ntmps51
    go_wp2
    go_ret
    exact ⟨by rw [HX2.out]; rfl, chain0 _ _⟩
  by_cases c12 : 16 < (id.size : Int)
  · have HX := HN.out (by rw [HM.out]; have := HC.out; omega)
    have HX2 := Lib.hid HX
    clear HX
    go_enter Tryz.func51, Tryz.ntmps51
    go_wp2
    go_ret
    exact ⟨by rw [HX2.out]; rfl, chain0 _ _⟩
  have HX := HY.out (by rw [HM.out]; have := HC.out; omega)
  have HX2 := Lib.hid HX
  clear HX
  go_enter Tryz.func51, Tryz.ntmps51
  go_wp2
  go_ret
  exact ⟨by rw [HX2.out]; rfl, chain0 _ _⟩
end Go.Proofs.YthhmdgmmeedhdaaGreat
namespace Go.Proofs.YthhmdgmmeedhdaaGreat
open Go.RowKit Go.Shelf
theorem str_of (W : World) {lo hi : Nat} {sv : Value} {l : List UInt8} (h : BSl lo hi W sv l) : (convert 95 9 sv).run Tryz.prog W = .ok (.string ⟨l.toArray⟩) W :=
  run_string (P := Tryz.prog) 95 5 9 Tryz.underlying95 Tryz.underlying5 Tryz.underlying9 W h
theorem fieldB (W : World) (a : Option Addr) (m c : Nat) (x : Int) : (Instr.field 101 (.agg #[.slice a m c, .int .i64 x]) 0).run Tryz.prog W = .ok (.slice a m c) W := by
  simp [Instr.field, asAgg, run_underlying Tryz.underlying101, go_sem]
end Go.Proofs.YthhmdgmmeedhdaaGreat
namespace Go.Proofs.YthhmdgmmeedhdaaGreat
open Go.RowKit Go.Shelf
theorem refSumS_any (l : List UInt8) (sv : Value) (w : World) (hreach : l.length ≤ 140737488353000) (hsv : BSl 0 w.heap.size w sv l) :
    Calls Tryz.prog 52 #[sv] w fun e W' => ∃ v, e = .returned v ∧ BSl 0 W'.heap.size W' v (sumL cb sq l) ∧ Below w.heap.size w W' :=
  (refSum_any l sv w hreach hsv).mono fun _ _ ⟨v, h1, h2, h3⟩ => ⟨v, h1, (BSl.of_own h2).mono (Nat.zero_le _) (Nat.le_refl _), h3⟩
set_option maxRecDepth 100000 in
set_option maxHeartbeats 1000000 in
theorem refKey_any (i : Trf) (w : World) :
    Calls Tryz.prog 23 #[ivv i] w fun e W' => e = .returned (.string (keyB i)) ∧ Below w.heap.size w W' := by
  have kB := Blk.new w 46 (ivc i)
  have hB := chain0 w (.cells (ivc i).toArray 46)
  have HC := Lib.hid (refInv_any i)
  by_cases hm : maybeI i
  · have HE := Lib.hid (errI_zero hm)
    have e1 : keyB i = sumS (putI ([], 0) i).1 := if_pos hm
    rw [e1]
    have hlen := (okS_putI okS_new i).2
    have HLE := Lib.hid hlen
    clear hm e1 hlen
    have hfb := fieldB
    have HPI := Lib.hid (fun W => refPutInv_any okS_new (.slice none 0 0) i W (BSl.nil _ _ _))
    generalize putI ([], 0) i = st at *
    go_enter Tryz.func23, Tryz.ntmps23
    go_wp2_with (first
      | (go_at_call 51; refine (HC.out _).mono ?_; rw [HE.out]; rintro e W1 ⟨rfl, hb1⟩; replace kB := kB.below hb1 kB.lt; replace hB := chain hB hb1; obtain ⟨c0, c1, c2, c3, c4, c5, c6⟩ := kB.c7; clear hb1)
      | (go_at_call 53; refine (HPI.out _).mono ?_; rintro e W2 ⟨v2, rfl, hv2, hb2⟩; replace hB := chain hB hb2; obtain ⟨va, vm, vc, rfl⟩ := hv2.shape3)
      | (go_at_call 52; refine (refSumS_any _ _ _ (by have := HLE.out; omega) hv2).mono ?_; rintro e W3 ⟨v3, rfl, hv3, hb3⟩; have hcv := str_of _ hv3))
    go_ret
    exact ⟨rfl, chain hB hb3⟩
  · have HE := Lib.hid (errI_bad hm)
    have e1 : keyB i = ⟨#[]⟩ := if_neg hm
    rw [e1]
    clear hm e1
    go_enter Tryz.func23, Tryz.ntmps23
    go_wp2_with (first
      | (go_at_call 51; refine (HC.out _).mono ?_; rw [HE.out]; rintro e W1 ⟨rfl, hb1⟩))
    go_ret
    exact ⟨rfl, chain hB hb1⟩
end Go.Proofs.YthhmdgmmeedhdaaGreat
namespace Go.Proofs.YthhmdgmmeedhdaaGreat
open Go.RowKit Go.Shelf
theorem rinfo_book : (Tryz.prog.info? 36).map (·.size) = some 64 := by kernel_rfl
theorem rinfo_st : (Tryz.prog.info? 39).map (·.size) = some 151 := by kernel_rfl
section
variable {W : World} {B : Nat} {T : TypeId} {s : Es} {v : Value}
theorem rld_st (h : Blk W B T (stc s v)) : (Instr.loadAt 39 (.pointer (some ⟨B, 0, none⟩))).run Tryz.prog W = .ok (stv s v) W :=
  load_part h 0 (stc s v) (by rw [stc_len]; exact st_all s v) _ _ Tryz.underlying39 rfl (by rw [stc_len]; exact rinfo_st)
theorem rld_pu (h : Blk W B T (stc s v)) : (Instr.loadAt 36 (.pointer (some ⟨B, 2, none⟩))).run Tryz.prog W = .ok (bkv s.pu) W :=
  load_part h 2 (bkc s.pu) (by rw [bkc_len]; exact st_pu s v) _ _ Tryz.underlying36 rfl (by rw [bkc_len]; exact rinfo_book)
theorem rld_va (h : Blk W B T (stc s v)) : (Instr.loadAt 36 (.pointer (some ⟨B, 66, none⟩))).run Tryz.prog W = .ok (bkv s.va) W :=
  load_part h 66 (bkc s.va) (by rw [bkc_len]; exact st_va s v) _ _ Tryz.underlying36 rfl (by rw [bkc_len]; exact rinfo_book)
theorem rld_bu (h : Blk W B T (stc s v)) : (Instr.loadAt 27 (.pointer (some ⟨B, 146, none⟩))).run Tryz.prog W = .ok (wn s.bu) W :=
  load_part h 146 (ws (nw s.bu)) (by rw [ws_len]; exact st_bu s v) _ _ Tryz.underlying27 rfl (by rw [ws_len]; exact info_wide)
theorem rld_lk (h : Blk W B T (stc s v)) : (Instr.loadAt 37 (.pointer (some ⟨B, 150, none⟩))).run Tryz.prog W = .ok v W := ld_any _ _ Tryz.underlying37 rfl h 150 (st_lk s v)
theorem rsto_lk (h : Blk W B T (stc s v)) {u : Value} (hu : u.oneCell' = true) (hc : u.cells.toList = [u]) : (Instr.storeAt 37 (.pointer (some ⟨B, 150, none⟩)) u).run Tryz.prog W = .ok () (W.setRow B (stc s u).toArray) :=
  sto_part _ h 150 _ _ [u] hc (by kernel_rfl) (by rw [stc_len]; simp) (by simp [hu]) (by rw [laid_one _ _ _ (by rw [stc_len]; omega)]; exact set_lk s v u)
theorem rsto_st {vs : List Value} (h : Blk W B T vs) (hv : vs.length = 151) (s : Es) {u : Value} (hu : u.oneCell' = true) : (Instr.storeAt 39 (.pointer (some ⟨B, 0, none⟩)) (stv s u)).run Tryz.prog W = .ok () (W.setRow B (stc s u).toArray) :=
  sto_part _ h 0 _ _ (stc s u) rfl (by rw [stc_len]; exact rinfo_st) (by rw [stc_len, hv]; exact Nat.le_refl _) (stc_one s u hu) (by unfold laid; rw [List.take_zero, List.nil_append, List.drop_of_length_le (by rw [stc_len, hv]; exact Nat.le_refl _), List.append_nil])
end
theorem ridx_16 {W : World} {B o k : Nat} (hk : k < 16) : (Instr.indexAt 36 (.pointer (some ⟨B, o, none⟩)) (.int .i64 (k : Int))).run Tryz.prog W = .ok (.pointer (some ⟨B, o + k * 4, none⟩)) W :=
  idx_arr Tryz.underlying36 (by kernel_rfl) hk
end Go.Proofs.YthhmdgmmeedhdaaGreat
namespace Go.Proofs.YthhmdgmmeedhdaaGreat
open Go.RowKit Go.Shelf
set_option maxRecDepth 100000 in
set_option maxHeartbeats 4000000 in
theorem refPlace_any (l : List Lk) (v : Value) (k : ByteArray) (w : World) {lo hi : Nat} (hl : RSl lkc lo hi w v l) :
    Calls Tryz.prog 50 #[v, .string k] w fun e W' => e = .returned (.int .i64 (placeI l k)) ∧ W' = w := by
  have HE := Lib.hid (fun k x (hx : l[k]? = some x) => hl.elem lkc_len hx Tryz.underlying37 (fun W => by kernel_rfl))
  have hmax := hl.len
  obtain ⟨a, c, rfl⟩ := hl.slice
  have HL := Lib.hid hl
  clear hl
  unfold maxLen at hmax
  go_enter Tryz.func50, Tryz.ntmps50
  go_wp2
  go_loop [5] (fun i => ∃ j : Nat, j ≤ l.length ∧ i = .int .i64 (j : Nat) ∧ ∀ (n : Nat) (y : Lk), n < j → l[n]? = some y → y.ke ≠ k) (fun i => l.length - (intOf i).toNat)
  case atStart => exact ⟨0, Nat.zero_le _, rfl, fun n y h => absurd h (Nat.not_lt_zero n)⟩
  case round =>
    obtain ⟨j, hj, rfl, hno⟩ := hrel
    have HN := Lib.hid hno
    clear hno
    by_cases hlt : j < l.length
    · obtain ⟨x, hx⟩ : ∃ x, l[j]? = some x := ⟨_, List.getElem?_eq_getElem hlt⟩
      obtain ⟨b, o, _, _, hi', hc⟩ := HE.out j x hx
      have HX := Lib.hid hx
      have HI := Lib.hid hi'
      have HC := Lib.hid hc
      clear hx hi' hc
      have hlt' : (j : Int) < (l.length : Int) := by omega
      go_upto_region 4 with fail
      refine wp_region_from ?_
      refine tF 7 [.val 0 (some 12) (.slice a l.length c), .val 1 (some 13) (.int .i64 (j : Int)), .idx 2 (some 14) 37 (.slice a l.length c) (.int .i64 (j : Int)) (pt b o), .val 3 (some 15) (pt b o), .load 4 (some 16) 9 (pt b o) (.string x.ke), .val 5 (some 17) (.string k), .alt 6 (some 18) (.bool (x.ke.toList == k.toList)) (.bool (decide (x.ke = k)))] ⟨HI.out _, ld_cell _ _ Tryz.underlying9 rfl (HC.out _ HL.out 0 _ rfl), congrArg Value.bool (beqB _ _), trivial⟩ ?_
      refine dF ?_
      try simp only [puts, Tk.put, Act.put, List.setIfInBounds_toArray, List.set_cons_zero, List.set_cons_succ]
      by_cases hk : x.ke = k
      · have hd := decide_eq_true hk
        have HK1 := Lib.hid hk
        clear hk
        rw [hd]
        go_wp2_with fail
        go_ret
        refine ⟨?_, rfl⟩
        rw [placeI_some (place_at HX.out HK1.out HN.out)]
        rfl
      · have hd := decide_eq_false hk
        have HK1 := Lib.hid hk
        clear hk
        rw [hd]
        go_wp2_with fail
        go_round
        case rel =>
          refine ⟨j + 1, by omega, by go_num, fun n y hn hy => ?_⟩
          rcases Nat.lt_succ_iff_lt_or_eq.1 hn with h | rfl
          · exact HN.out n y h hy
          · obtain rfl : x = y := by have := HX.out; rw [hy] at this; exact (Option.some.inj this).symm
            exact HK1.out
        case measure => simp [intOf]; omega
    · obtain rfl : j = l.length := by omega
      go_wp2
      go_ret
      refine ⟨?_, rfl⟩
      rw [placeI_none (place_not fun n y hy => HN.out n y (List.getElem?_eq_some_iff.1 hy).1 hy)]
      rfl
abbrev OwnM (b0 : Nat) (W : World) (v : Value) (l : List Lk) : Prop := W.ownsRow b0 71 3 v l.length (flatR lkc l)
theorem OwnM.rsl {b0 : Nat} {W : World} {v : Value} {l : List Lk} (h : OwnM b0 W v l) : RSl lkc b0 W.heap.size W v l := RSl.of_own lkc_len h
theorem OwnM.grown {b0 B : Nat} {w W : World} {v : Value} {l : List Lk} (h : OwnM b0 w v l) (hB : B < b0) (hg : w.grownBy W (some B)) : OwnM b0 W v l := by
  refine h.kept hg ?_
  cases hv : v.ownBlock with
  | none => exact .inl rfl
  | some k =>
    refine .inr fun e => ?_
    cases e
    have := (h.lt _ hv).1
    omega
theorem OwnM.one {b0 : Nat} {W : World} {v : Value} {l : List Lk} (h : OwnM b0 W v l) : v.oneCell' = true ∧ v.cells.toList = [v] := by
  rcases h.2 with ⟨rfl, _⟩ | ⟨g, cap, cur, rfl, _⟩ <;> exact ⟨rfl, rfl⟩
theorem rown_append {b0 : Nat} {W : World} {v : Value} {l : List Lk} (h : OwnM b0 W v l) (hb : b0 ≤ W.heap.size) (x : Lk) {N : Nat} {T : TypeId} (hN : Blk W N T (lkc x)) (hr : (l.length + 1) * 40 ≤ 140737488355328) (ty : TypeId) :
    ∃ v' W', (Builtin.append_ #[37, 37] ty #[v, .slice (some ⟨N, 0, none⟩) 1 1]).run Tryz.prog W = .ok v' W' ∧ OwnM b0 W' v' (l ++ [x]) ∧ W.grownBy W' v.ownBlock := by
  have hi0 : (Tryz.prog.info? 71).map (fun i => (i.zero, i.size, i.bytes)) = some (some (.agg #[.string ⟨#[]⟩, .string ⟨#[]⟩, .int .i64 0]), 3, 40) := by kernel_rfl
  obtain ⟨i0, hi, hz0, hz1, hz2⟩ := info_parts hi0
  obtain ⟨v', W', hrun, h1, h2, _⟩ := run_append_own (P := Tryz.prog) W b0 37 ty 71 i0 _ 3 40 Tryz.underlying37 hi hz0 hz1 hz2 rfl (by decide) v l.length (flatR lkc l) h ⟨N, 0, none⟩ 1 1 (lkc x) rfl
    (fun j u hu => by rw [addr_add, Nat.zero_add]; exact (hN.cell j).trans hu) (by unfold lkc; simp [Value.oneCell']) (by unfold maxLen; omega) hr hb
  refine ⟨v', W', hrun, ?_, h2⟩
  unfold OwnM
  rw [List.length_append, flat_app, flat_one]
  exact h1
theorem OwnM.low {b b' : Nat} {W : World} {v : Value} {l : List Lk} (h : OwnM b W v l) (hb : b' ≤ b) : OwnM b' W v l := by
  refine ⟨h.1, ?_⟩
  rcases h.2 with h0 | ⟨g, cap, cur, e, hg, r⟩
  · exact .inl h0
  · exact .inr ⟨g, cap, cur, e, Nat.le_trans hb hg, r⟩
theorem OwnM.below {b : Nat} {W W' : World} {v : Value} {l : List Lk} (h : OwnM b W v l) (hb : Below W.heap.size W W') : OwnM b W' v l :=
  h.kept (row := none) ⟨hb.os, hb.tape, hb.output, hb.size, fun k hk _ => hb.block k hk⟩ (by cases v.ownBlock <;> simp)
theorem OwnM.row {b B : Nat} {W : World} {v : Value} {l : List Lk} (h : OwnM b W v l) (hne : ∀ k, v.ownBlock = some k → k ≠ B) (cs : Array Value) : OwnM b (W.setRow B cs) v l := by
  refine h.kept (grownBy_row W B cs) ?_
  cases hv : v.ownBlock with
  | none => exact .inl rfl
  | some k => exact .inr fun e => hne k hv (Option.some.inj e)
theorem RSl.one {α : Type} {f : α → List Value} {lo hi : Nat} {W : World} {v : Value} {l : List α} (h : RSl f lo hi W v l) : v.oneCell' = true := by obtain ⟨a, c, rfl⟩ := h.slice; rfl
theorem RSl.all {α : Type} {f : α → List Value} {lo hi : Nat} {w W : World} {v : Value} {l : List α} (h : RSl f lo hi w v l) (hhi : hi ≤ w.heap.size) (hb : Below w.heap.size w W) : RSl f 0 W.heap.size W v l := (h.below hb hhi).mono (Nat.zero_le _) (Nat.le_trans hhi hb.size)
theorem Mem.own {w W W' : World} {l : List MB} {row : Option Nat} (h : Mem w none l W) (hg : W.grownBy W' row) (hr : ∀ k, row = some k → w.heap.size ≤ k ∧ ∀ x ∈ l, x.1 ≠ k) : Mem w none l W' :=
  ⟨fun x hx => ⟨(h.1 x hx).1.kept hg (fun e => (hr _ e.symm).2 x hx rfl), (h.1 x hx).2⟩, h.2.1, ⟨hg.os.trans h.2.2.os, hg.tape.trans h.2.2.tape, hg.output.trans h.2.2.output, Nat.le_trans h.2.2.size hg.size, fun k hk _ => (hg.block k (Nat.lt_of_lt_of_le hk h.2.2.size) (fun e => by have := (hr k e.symm).1; omega)).trans (h.2.2.block k hk (by simp))⟩⟩
end Go.Proofs.YthhmdgmmeedhdaaGreat
namespace Go.Proofs.YthhmdgmmeedhdaaGreat
open Go.RowKit Go.Shelf
attribute [local irreducible] wpFrom
set_option maxRecDepth 100000 in
set_option maxHeartbeats 4000000 in
theorem refStatus_any (s : Es) (v : Value) (k : ByteArray) (w : World) {lo hi : Nat} (hl : RSl lkc lo hi w v s.lk) (hhi : hi ≤ w.heap.size) :
    Calls Tryz.prog 22 #[stv s v, .string k] w fun e W' => e = .returned (.int .i64 (statE s k)) ∧ Below w.heap.size w W' := by
  have hM := (Mem.start w).allocN rfl 39 (stc s v)
  have HL := Lib.hid (hl.mono (Nat.le_refl _) hhi)
  clear hl
  go_enter Tryz.func22, Tryz.ntmps22
  go_upto_region 1 with fail
  refine wp_region_fromM (fun W => Mem w none [(w.heap.size, 39, stc s v)] W) hM ?_
  clear hM
  rintro Y1 hM
  refine tF 3 [.val 0 (some 6) (pt w.heap.size 150), .load 1 (some 7) 37 (pt w.heap.size 150) (v), .val 2 (some 8) (.string k)] ⟨rld_lk (s := s) (hM.at 0 rfl), trivial⟩ ?_
  refine cF (some 9) 50 #[v, .string k] ((refPlace_any s.lk v k _ (HL.out.below hM.b (Nat.le_refl _))).mono ?_)
  rintro e W1 ⟨rfl, rfl⟩
  refine tF 5 [.val 4 (some 5) (.int .i64 (placeI s.lk k))] trivial ?_
  refine dF ?_
  try simp only [puts, Tk.put, Act.put, List.setIfInBounds_toArray, List.set_cons_zero, List.set_cons_succ]
  cases hp : placeE s.lk k with
  | none =>
    have HP := Lib.hid hp
    clear hp
    go_upto_region 2 with fail
    refine wp_region_fromM (fun W => Mem w none [(w.heap.size, 39, stc s v)] W) hM ?_
    clear hM
    rintro Y2 hM
    refine tF 2 [.val 0 (some 10) (.int .i64 (placeI s.lk k)), .alt 1 (some 11) (.bool (decide (placeI s.lk k < 0))) (.bool true)] ⟨congrArg Value.bool (by rw [placeI_none HP.out]; rfl), trivial⟩ ?_
    refine dF ?_
    try simp only [puts, Tk.put, Act.put, List.setIfInBounds_toArray, List.set_cons_zero, List.set_cons_succ]
    go_wp2_with fail
    go_ret
    exact ⟨by unfold statE; rw [HP.out]; rfl, hM.b⟩
  | some i =>
    obtain ⟨_, ⟨y, hy, _⟩, _⟩ := place_some hp
    have HP := Lib.hid hp
    clear hp
    go_upto_region 2 with fail
    refine wp_region_fromM (fun W => Mem w none [(w.heap.size, 39, stc s v)] W) hM ?_
    clear hM
    rintro Y3 hM
    refine tF 2 [.val 0 (some 10) (.int .i64 (placeI s.lk k)), .alt 1 (some 11) (.bool (decide (placeI s.lk k < 0))) (.bool false)] ⟨congrArg Value.bool (by rw [placeI_some HP.out]; exact decide_eq_false (by omega)), trivial⟩ ?_
    refine dF ?_
    try simp only [puts, Tk.put, Act.put, List.setIfInBounds_toArray, List.set_cons_zero, List.set_cons_succ]
    obtain ⟨b, o, _, _, hi', hc⟩ := HL.out.elem lkc_len hy Tryz.underlying37 (fun W => by kernel_rfl)
    have HI := Lib.hid hi'
    have HC := Lib.hid hc
    have HY := Lib.hid hy
    clear hi' hc hy
    rw [placeI_some HP.out]
    go_upto_region 4 with fail
    refine wp_region_fromM (fun W => Mem w none [(w.heap.size, 39, stc s v)] W) hM ?_
    clear hM
    rintro Y4 hM
    refine tF 7 [.val 0 (some 12) (pt w.heap.size 150), .load 1 (some 13) 37 (pt w.heap.size 150) (v), .val 2 (some 14) (.int .i64 (i : Int)), .idx 3 (some 15) 37 (v) (.int .i64 (i : Int)) (pt b o), .val 4 (some 16) (pt b (o + 2)), .load 5 (some 17) 3 (pt b (o + 2)) (.int .i64 y.st), .val 6 (some 4) (.int .i64 y.st)] ⟨rld_lk (s := s) (hM.at 0 rfl), HI.out _, ld_cell _ _ Tryz.underlying3 rfl (HC.out _ (HL.out.below hM.b (Nat.le_refl _)) 2 _ rfl), trivial⟩ ?_
    refine dF ?_
    try simp only [puts, Tk.put, Act.put, List.setIfInBounds_toArray, List.set_cons_zero, List.set_cons_succ]
    go_wp2_with fail
    go_ret
    exact ⟨by unfold statE; rw [HP.out]; dsimp only; rw [HY.out]; rfl, hM.b⟩
end Go.Proofs.YthhmdgmmeedhdaaGreat
namespace Go.Proofs.YthhmdgmmeedhdaaGreat
open Go.RowKit Go.Shelf
attribute [local irreducible] wpFrom
theorem sto_sd {W : World} {B : Nat} {T : TypeId} {s : Es} {v : Value} (h : Blk W B T (stc s v)) (z : Int) : (Instr.storeAt 3 (.pointer (some ⟨B, 0, none⟩)) (.int .i64 z)).run Tryz.prog W = .ok () (W.setRow B (stc { s with sd := z } v).toArray) :=
  sto_part _ h 0 _ _ [.int .i64 z] rfl (by kernel_rfl) (by rw [stc_len]; simp) rfl (by rw [laid_one _ _ _ (by rw [stc_len]; omega)]; exact set_sd s v z)
def sideE (s : Es) : Es := { s with sd := if s.sd = 1 then 1 else 0, tm := if s.tm < 0 ∨ 1099511627776 < s.tm then 0 else s.tm }
theorem sideE_is {s : Es} {a b : Int} (h1 : (if s.sd = 1 then (1 : Int) else 0) = a) (h2 : (if s.tm < 0 ∨ 1099511627776 < s.tm then 0 else s.tm) = b) : sideE s = { s with sd := a, tm := b } := by
  subst h1 h2
  rfl
theorem side_ok {s : Es} (hp : OkK s.pu) (hv : OkK s.va) (hh : s.he 0 < M4 ∧ s.he 1 < M4) (hb : s.bu < M4) : OkE (sideE s) := by
  refine ⟨?_, ?_, ?_, hp, hv, hh, hb⟩
  · show (0 : Int) ≤ if s.tm < 0 ∨ 1099511627776 < s.tm then 0 else s.tm
    split <;> omega
  · show (if s.tm < 0 ∨ 1099511627776 < s.tm then (0 : Int) else s.tm) ≤ 1099511627776
    split <;> omega
  · show (if s.sd = 1 then (1 : Int) else 0) = 0 ∨ (if s.sd = 1 then (1 : Int) else 0) = 1
    split <;> simp
def SideR (s : Es) (v : Value) (w : World) (e : Ending) (W' : World) : Prop := e = .returned (stv (sideE s) v) ∧ Below w.heap.size w W'
theorem SideR.of {s s' : Es} {v : Value} {w W' : World} (h : sideE s = s') (hb : Below w.heap.size w W') : SideR s v w (.returned (stv s' v)) W' := by
  subst h
  exact ⟨rfl, hb⟩
set_option maxRecDepth 100000 in
set_option maxHeartbeats 4000000 in
theorem side_any (s : Es) (v : Value) (hv : v.oneCell' = true) (w : World) :
    Calls Tryz.prog 18 #[stv s v] w (SideR s v w) := by
  have hM := Mem.start w
  go_enter Tryz.func18, Tryz.ntmps18
  go_upto_region 0 with fail
  refine wp_region_fromM (fun W => Mem w none [] W) hM ?_
  clear hM
  rintro Y1 hM
  refine rF (some 1) (pt Y1.heap.size 0) (Y1.alloc (.cells (stc s v).toArray 34)) ?_
  replace hM := hM.alloc 34 (stc s v)
  generalize World.alloc _ _ = Y2 at *
  generalize hNe : Y1.heap.size = P at *
  clear hNe
  refine rF (some 2) (pt Y2.heap.size 0) (Y2.alloc (.cells (stc zS nilV).toArray 34)) ?_
  replace hM := hM.alloc 34 (stc zS nilV)
  generalize World.alloc _ _ = Y3 at *
  generalize hNe : Y2.heap.size = R at *
  clear hNe
  refine dF ?_
  try simp only [Act.put, List.setIfInBounds_toArray, List.set_cons_zero, List.set_cons_succ]
  by_cases hq : s.sd = 1
  case pos =>
    have h1 := Lib.hid hq
    clear hq
    go_upto_region 1 with fail
    refine wp_region_fromM (fun W => Mem w none [(R, 34, stc zS nilV), (P, 34, stc s v)] W) hM ?_
    clear hM
    rintro Y4 hM
    refine tF 3 [.val 0 (some 3) (pt P 0), .load 1 (some 4) 3 (pt P 0) (.int .i64 s.sd), .alt 2 (some 5) (.bool (s.sd != 1)) (.bool false)] ⟨ld_int (hM.at 1 rfl) 0 rfl, congrArg Value.bool (by rw [h1.out]; rfl), trivial⟩ ?_
    refine dF ?_
    try simp only [puts, Tk.put, Act.put, List.setIfInBounds_toArray, List.set_cons_zero, List.set_cons_succ]
    by_cases hq : s.tm < 0
    case pos =>
      have h2 := Lib.hid hq
      clear hq
      go_upto_region 3 with fail
      refine wp_region_fromM (fun W => Mem w none [(R, 34, stc zS nilV), (P, 34, stc s v)] W) hM ?_
      clear hM
      rintro Y5 hM
      refine tF 8 [.val 0 (some 7) (pt P 1), .load 1 (some 8) 3 (pt P 1) (.int .i64 s.tm), .alt 2 (some 9) (.bool (decide (s.tm < 0))) (.bool true), .val 3 (some 10) (.bool true), .skip 4 (some 11), .skip 5 (some 12), .skip 6 (some 13), .val 7 (some 14) (.bool true)] ⟨ld_int (hM.at 1 rfl) 1 rfl, congrArg Value.bool (decide_eq_true (by have := h2.out; omega)), trivial⟩ ?_
      refine dF ?_
      try simp only [puts, Tk.put, Act.put, List.setIfInBounds_toArray, List.set_cons_zero, List.set_cons_succ]
      go_upto_region 4 with fail
      refine wp_region_fromM (fun W => Mem w none [(R, 34, stc zS nilV), (P, 34, stc s v)] W) hM ?_
      clear hM
      rintro Y6 hM
      refine tF 1 [.val 0 (some 15) (pt P 1)] trivial ?_
      refine sF 3 (pt P 1) (.int .i64 0) (sto_tm (s := s) (hM.at 1 rfl) 0) ?_
      replace hM := hM.set 1 (cs' := stc ({ s with tm := 0 }) v) rfl rfl
      generalize World.setRow _ _ _ = Y7 at *
      refine dF ?_
      try simp only [puts, Tk.put, Act.put, List.setIfInBounds_toArray, List.set_cons_zero, List.set_cons_succ]
      go_upto_region 5 with fail
      refine wp_region_fromM (fun W => Mem w none [(R, 34, stc zS nilV), (P, 34, stc ({ s with tm := 0 }) v)] W) hM ?_
      clear hM
      rintro Y8 hM
      refine tF 1 [.load 0 (some 16) 34 (pt P 0) (stv ({ s with tm := 0 }) (v))] ⟨ld_st (hM.at 1 rfl), trivial⟩ ?_
      refine sF 34 (pt R 0) (stv ({ s with tm := 0 }) (v)) (sto_st (hM.at 0 rfl) (stc_len _ _) ({ s with tm := 0 }) hv) ?_
      replace hM := hM.set 0 (cs' := stc ({ s with tm := 0 }) v) rfl rfl
      generalize World.setRow _ _ _ = Y9 at *
      refine dF ?_
      try simp only [puts, Tk.put, Act.put, List.setIfInBounds_toArray, List.set_cons_zero, List.set_cons_succ]
      have fin : SideR s v w (.returned (stv ({ s with tm := 0 }) v)) Y9 := SideR.of (sideE_is (a := s.sd) (b := 0) (by rw [if_pos h1.out, h1.out]) (if_pos (by have := h2.out; omega))) hM.b
      go_wp2_with fail
      exact bodyPost_ret (v := stv ({ s with tm := 0 }) v) (res_st rfl _ rfl (hM.at 0 rfl)) rfl fin
    have hq0 := hq
    clear hq
    by_cases hq : 1099511627776 < s.tm
    case pos =>
      have h9 := Lib.hid hq0
      clear hq0
      have h2 := Lib.hid hq
      clear hq
      go_upto_region 3 with fail
      refine wp_region_fromM (fun W => Mem w none [(R, 34, stc zS nilV), (P, 34, stc s v)] W) hM ?_
      clear hM
      rintro Y10 hM
      refine tF 8 [.val 0 (some 7) (pt P 1), .load 1 (some 8) 3 (pt P 1) (.int .i64 s.tm), .alt 2 (some 9) (.bool (decide (s.tm < 0))) (.bool false), .val 3 (some 10) (.bool false), .val 4 (some 11) (pt P 1), .load 5 (some 12) 3 (pt P 1) (.int .i64 s.tm), .alt 6 (some 13) (.bool (decide (s.tm > 1099511627776))) (.bool true), .val 7 (some 14) (.bool true)] ⟨ld_int (hM.at 1 rfl) 1 rfl, congrArg Value.bool (decide_eq_false (by have := h2.out; omega)), ld_int (hM.at 1 rfl) 1 rfl, congrArg Value.bool (decide_eq_true (by have := h2.out; omega)), trivial⟩ ?_
      refine dF ?_
      try simp only [puts, Tk.put, Act.put, List.setIfInBounds_toArray, List.set_cons_zero, List.set_cons_succ]
      go_upto_region 4 with fail
      refine wp_region_fromM (fun W => Mem w none [(R, 34, stc zS nilV), (P, 34, stc s v)] W) hM ?_
      clear hM
      rintro Y11 hM
      refine tF 1 [.val 0 (some 15) (pt P 1)] trivial ?_
      refine sF 3 (pt P 1) (.int .i64 0) (sto_tm (s := s) (hM.at 1 rfl) 0) ?_
      replace hM := hM.set 1 (cs' := stc ({ s with tm := 0 }) v) rfl rfl
      generalize World.setRow _ _ _ = Y12 at *
      refine dF ?_
      try simp only [puts, Tk.put, Act.put, List.setIfInBounds_toArray, List.set_cons_zero, List.set_cons_succ]
      go_upto_region 5 with fail
      refine wp_region_fromM (fun W => Mem w none [(R, 34, stc zS nilV), (P, 34, stc ({ s with tm := 0 }) v)] W) hM ?_
      clear hM
      rintro Y13 hM
      refine tF 1 [.load 0 (some 16) 34 (pt P 0) (stv ({ s with tm := 0 }) (v))] ⟨ld_st (hM.at 1 rfl), trivial⟩ ?_
      refine sF 34 (pt R 0) (stv ({ s with tm := 0 }) (v)) (sto_st (hM.at 0 rfl) (stc_len _ _) ({ s with tm := 0 }) hv) ?_
      replace hM := hM.set 0 (cs' := stc ({ s with tm := 0 }) v) rfl rfl
      generalize World.setRow _ _ _ = Y14 at *
      refine dF ?_
      try simp only [puts, Tk.put, Act.put, List.setIfInBounds_toArray, List.set_cons_zero, List.set_cons_succ]
      have fin : SideR s v w (.returned (stv ({ s with tm := 0 }) v)) Y14 := SideR.of (sideE_is (a := s.sd) (b := 0) (by rw [if_pos h1.out, h1.out]) (if_pos (by have := h2.out; omega))) hM.b
      go_wp2_with fail
      exact bodyPost_ret (v := stv ({ s with tm := 0 }) v) (res_st rfl _ rfl (hM.at 0 rfl)) rfl fin
    have h9 := Lib.hid hq0
    clear hq0
    have hq := (And.intro h9.out hq)
    have h2 := Lib.hid hq
    clear hq
    go_upto_region 3 with fail
    refine wp_region_fromM (fun W => Mem w none [(R, 34, stc zS nilV), (P, 34, stc s v)] W) hM ?_
    clear hM
    rintro Y15 hM
    refine tF 8 [.val 0 (some 7) (pt P 1), .load 1 (some 8) 3 (pt P 1) (.int .i64 s.tm), .alt 2 (some 9) (.bool (decide (s.tm < 0))) (.bool false), .val 3 (some 10) (.bool false), .val 4 (some 11) (pt P 1), .load 5 (some 12) 3 (pt P 1) (.int .i64 s.tm), .alt 6 (some 13) (.bool (decide (s.tm > 1099511627776))) (.bool false), .val 7 (some 14) (.bool false)] ⟨ld_int (hM.at 1 rfl) 1 rfl, congrArg Value.bool (decide_eq_false (by have := h2.out; omega)), ld_int (hM.at 1 rfl) 1 rfl, congrArg Value.bool (decide_eq_false (by have := h2.out; omega)), trivial⟩ ?_
    refine dF ?_
    try simp only [puts, Tk.put, Act.put, List.setIfInBounds_toArray, List.set_cons_zero, List.set_cons_succ]
    go_upto_region 5 with fail
    refine wp_region_fromM (fun W => Mem w none [(R, 34, stc zS nilV), (P, 34, stc s v)] W) hM ?_
    clear hM
    rintro Y16 hM
    refine tF 1 [.load 0 (some 16) 34 (pt P 0) (stv (s) (v))] ⟨ld_st (hM.at 1 rfl), trivial⟩ ?_
    refine sF 34 (pt R 0) (stv (s) (v)) (sto_st (hM.at 0 rfl) (stc_len _ _) (s) hv) ?_
    replace hM := hM.set 0 (cs' := stc (s) v) rfl rfl
    generalize World.setRow _ _ _ = Y17 at *
    refine dF ?_
    try simp only [puts, Tk.put, Act.put, List.setIfInBounds_toArray, List.set_cons_zero, List.set_cons_succ]
    have fin : SideR s v w (.returned (stv (s) v)) Y17 := SideR.of (sideE_is (a := s.sd) (b := s.tm) (by rw [if_pos h1.out, h1.out]) (if_neg (by have := h2.out; omega))) hM.b
    go_wp2_with fail
    exact bodyPost_ret (v := stv (s) v) (res_st rfl _ rfl (hM.at 0 rfl)) rfl fin
  have h1 := Lib.hid hq
  clear hq
  go_upto_region 1 with fail
  refine wp_region_fromM (fun W => Mem w none [(R, 34, stc zS nilV), (P, 34, stc s v)] W) hM ?_
  clear hM
  rintro Y18 hM
  refine tF 3 [.val 0 (some 3) (pt P 0), .load 1 (some 4) 3 (pt P 0) (.int .i64 s.sd), .alt 2 (some 5) (.bool (s.sd != 1)) (.bool true)] ⟨ld_int (hM.at 1 rfl) 0 rfl, congrArg Value.bool (bne_iff_ne.2 h1.out), trivial⟩ ?_
  refine dF ?_
  try simp only [puts, Tk.put, Act.put, List.setIfInBounds_toArray, List.set_cons_zero, List.set_cons_succ]
  go_upto_region 2 with fail
  refine wp_region_fromM (fun W => Mem w none [(R, 34, stc zS nilV), (P, 34, stc s v)] W) hM ?_
  clear hM
  rintro Y19 hM
  refine tF 1 [.val 0 (some 6) (pt P 0)] trivial ?_
  refine sF 3 (pt P 0) (.int .i64 0) (sto_sd (s := s) (hM.at 1 rfl) 0) ?_
  replace hM := hM.set 1 (cs' := stc ({ s with sd := 0 }) v) rfl rfl
  generalize World.setRow _ _ _ = Y20 at *
  refine dF ?_
  try simp only [puts, Tk.put, Act.put, List.setIfInBounds_toArray, List.set_cons_zero, List.set_cons_succ]
  by_cases hq : s.tm < 0
  case pos =>
    have h2 := Lib.hid hq
    clear hq
    go_upto_region 3 with fail
    refine wp_region_fromM (fun W => Mem w none [(R, 34, stc zS nilV), (P, 34, stc ({ s with sd := 0 }) v)] W) hM ?_
    clear hM
    rintro Y21 hM
    refine tF 8 [.val 0 (some 7) (pt P 1), .load 1 (some 8) 3 (pt P 1) (.int .i64 s.tm), .alt 2 (some 9) (.bool (decide (s.tm < 0))) (.bool true), .val 3 (some 10) (.bool true), .skip 4 (some 11), .skip 5 (some 12), .skip 6 (some 13), .val 7 (some 14) (.bool true)] ⟨ld_int (hM.at 1 rfl) 1 rfl, congrArg Value.bool (decide_eq_true (by have := h2.out; omega)), trivial⟩ ?_
    refine dF ?_
    try simp only [puts, Tk.put, Act.put, List.setIfInBounds_toArray, List.set_cons_zero, List.set_cons_succ]
    go_upto_region 4 with fail
    refine wp_region_fromM (fun W => Mem w none [(R, 34, stc zS nilV), (P, 34, stc ({ s with sd := 0 }) v)] W) hM ?_
    clear hM
    rintro Y22 hM
    refine tF 1 [.val 0 (some 15) (pt P 1)] trivial ?_
    refine sF 3 (pt P 1) (.int .i64 0) (sto_tm (s := { s with sd := 0 }) (hM.at 1 rfl) 0) ?_
    replace hM := hM.set 1 (cs' := stc ({ s with sd := 0, tm := 0 }) v) rfl rfl
    generalize World.setRow _ _ _ = Y23 at *
    refine dF ?_
    try simp only [puts, Tk.put, Act.put, List.setIfInBounds_toArray, List.set_cons_zero, List.set_cons_succ]
    go_upto_region 5 with fail
    refine wp_region_fromM (fun W => Mem w none [(R, 34, stc zS nilV), (P, 34, stc ({ s with sd := 0, tm := 0 }) v)] W) hM ?_
    clear hM
    rintro Y24 hM
    refine tF 1 [.load 0 (some 16) 34 (pt P 0) (stv ({ s with sd := 0, tm := 0 }) (v))] ⟨ld_st (hM.at 1 rfl), trivial⟩ ?_
    refine sF 34 (pt R 0) (stv ({ s with sd := 0, tm := 0 }) (v)) (sto_st (hM.at 0 rfl) (stc_len _ _) ({ s with sd := 0, tm := 0 }) hv) ?_
    replace hM := hM.set 0 (cs' := stc ({ s with sd := 0, tm := 0 }) v) rfl rfl
    generalize World.setRow _ _ _ = Y25 at *
    refine dF ?_
    try simp only [puts, Tk.put, Act.put, List.setIfInBounds_toArray, List.set_cons_zero, List.set_cons_succ]
    have fin : SideR s v w (.returned (stv ({ s with sd := 0, tm := 0 }) v)) Y25 := SideR.of (sideE_is (a := 0) (b := 0) (by rw [if_neg h1.out]) (if_pos (by have := h2.out; omega))) hM.b
    go_wp2_with fail
    exact bodyPost_ret (v := stv ({ s with sd := 0, tm := 0 }) v) (res_st rfl _ rfl (hM.at 0 rfl)) rfl fin
  have hq0 := hq
  clear hq
  by_cases hq : 1099511627776 < s.tm
  case pos =>
    have h9 := Lib.hid hq0
    clear hq0
    have h2 := Lib.hid hq
    clear hq
    go_upto_region 3 with fail
    refine wp_region_fromM (fun W => Mem w none [(R, 34, stc zS nilV), (P, 34, stc ({ s with sd := 0 }) v)] W) hM ?_
    clear hM
    rintro Y26 hM
    refine tF 8 [.val 0 (some 7) (pt P 1), .load 1 (some 8) 3 (pt P 1) (.int .i64 s.tm), .alt 2 (some 9) (.bool (decide (s.tm < 0))) (.bool false), .val 3 (some 10) (.bool false), .val 4 (some 11) (pt P 1), .load 5 (some 12) 3 (pt P 1) (.int .i64 s.tm), .alt 6 (some 13) (.bool (decide (s.tm > 1099511627776))) (.bool true), .val 7 (some 14) (.bool true)] ⟨ld_int (hM.at 1 rfl) 1 rfl, congrArg Value.bool (decide_eq_false (by have := h2.out; omega)), ld_int (hM.at 1 rfl) 1 rfl, congrArg Value.bool (decide_eq_true (by have := h2.out; omega)), trivial⟩ ?_
    refine dF ?_
    try simp only [puts, Tk.put, Act.put, List.setIfInBounds_toArray, List.set_cons_zero, List.set_cons_succ]
    go_upto_region 4 with fail
    refine wp_region_fromM (fun W => Mem w none [(R, 34, stc zS nilV), (P, 34, stc ({ s with sd := 0 }) v)] W) hM ?_
    clear hM
    rintro Y27 hM
    refine tF 1 [.val 0 (some 15) (pt P 1)] trivial ?_
    refine sF 3 (pt P 1) (.int .i64 0) (sto_tm (s := { s with sd := 0 }) (hM.at 1 rfl) 0) ?_
    replace hM := hM.set 1 (cs' := stc ({ s with sd := 0, tm := 0 }) v) rfl rfl
    generalize World.setRow _ _ _ = Y28 at *
    refine dF ?_
    try simp only [puts, Tk.put, Act.put, List.setIfInBounds_toArray, List.set_cons_zero, List.set_cons_succ]
    go_upto_region 5 with fail
    refine wp_region_fromM (fun W => Mem w none [(R, 34, stc zS nilV), (P, 34, stc ({ s with sd := 0, tm := 0 }) v)] W) hM ?_
    clear hM
    rintro Y29 hM
    refine tF 1 [.load 0 (some 16) 34 (pt P 0) (stv ({ s with sd := 0, tm := 0 }) (v))] ⟨ld_st (hM.at 1 rfl), trivial⟩ ?_
    refine sF 34 (pt R 0) (stv ({ s with sd := 0, tm := 0 }) (v)) (sto_st (hM.at 0 rfl) (stc_len _ _) ({ s with sd := 0, tm := 0 }) hv) ?_
    replace hM := hM.set 0 (cs' := stc ({ s with sd := 0, tm := 0 }) v) rfl rfl
    generalize World.setRow _ _ _ = Y30 at *
    refine dF ?_
    try simp only [puts, Tk.put, Act.put, List.setIfInBounds_toArray, List.set_cons_zero, List.set_cons_succ]
    have fin : SideR s v w (.returned (stv ({ s with sd := 0, tm := 0 }) v)) Y30 := SideR.of (sideE_is (a := 0) (b := 0) (by rw [if_neg h1.out]) (if_pos (by have := h2.out; omega))) hM.b
    go_wp2_with fail
    exact bodyPost_ret (v := stv ({ s with sd := 0, tm := 0 }) v) (res_st rfl _ rfl (hM.at 0 rfl)) rfl fin
  have h9 := Lib.hid hq0
  clear hq0
  have hq := (And.intro h9.out hq)
  have h2 := Lib.hid hq
  clear hq
  go_upto_region 3 with fail
  refine wp_region_fromM (fun W => Mem w none [(R, 34, stc zS nilV), (P, 34, stc ({ s with sd := 0 }) v)] W) hM ?_
  clear hM
  rintro Y31 hM
  refine tF 8 [.val 0 (some 7) (pt P 1), .load 1 (some 8) 3 (pt P 1) (.int .i64 s.tm), .alt 2 (some 9) (.bool (decide (s.tm < 0))) (.bool false), .val 3 (some 10) (.bool false), .val 4 (some 11) (pt P 1), .load 5 (some 12) 3 (pt P 1) (.int .i64 s.tm), .alt 6 (some 13) (.bool (decide (s.tm > 1099511627776))) (.bool false), .val 7 (some 14) (.bool false)] ⟨ld_int (hM.at 1 rfl) 1 rfl, congrArg Value.bool (decide_eq_false (by have := h2.out; omega)), ld_int (hM.at 1 rfl) 1 rfl, congrArg Value.bool (decide_eq_false (by have := h2.out; omega)), trivial⟩ ?_
  refine dF ?_
  try simp only [puts, Tk.put, Act.put, List.setIfInBounds_toArray, List.set_cons_zero, List.set_cons_succ]
  go_upto_region 5 with fail
  refine wp_region_fromM (fun W => Mem w none [(R, 34, stc zS nilV), (P, 34, stc ({ s with sd := 0 }) v)] W) hM ?_
  clear hM
  rintro Y32 hM
  refine tF 1 [.load 0 (some 16) 34 (pt P 0) (stv ({ s with sd := 0 }) (v))] ⟨ld_st (hM.at 1 rfl), trivial⟩ ?_
  refine sF 34 (pt R 0) (stv ({ s with sd := 0 }) (v)) (sto_st (hM.at 0 rfl) (stc_len _ _) ({ s with sd := 0 }) hv) ?_
  replace hM := hM.set 0 (cs' := stc ({ s with sd := 0 }) v) rfl rfl
  generalize World.setRow _ _ _ = Y33 at *
  refine dF ?_
  try simp only [puts, Tk.put, Act.put, List.setIfInBounds_toArray, List.set_cons_zero, List.set_cons_succ]
  have fin : SideR s v w (.returned (stv ({ s with sd := 0 }) v)) Y33 := SideR.of (sideE_is (a := 0) (b := s.tm) (by rw [if_neg h1.out]) (if_neg (by have := h2.out; omega))) hM.b
  go_wp2_with fail
  exact bodyPost_ret (v := stv ({ s with sd := 0 }) v) (res_st rfl _ rfl (hM.at 0 rfl)) rfl fin
end Go.Proofs.YthhmdgmmeedhdaaGreat
namespace Go.Proofs.YthhmdgmmeedhdaaGreat
open Go.RowKit Go.Shelf
theorem run_equalIn_arr {P : Program} (w : World) (d : Nat) (t elem : TypeId) (len n : Nat) (xs ys : Array Value) (f : Nat → Bool) (ht : P.underlying t = some (.array len elem)) (hs : (sizeOf elem).run P w = .ok n w)
    (h : ∀ i, i < len → ∃ a b, (part elem xs (i * n)).run P w = .ok a w ∧ (part elem ys (i * n)).run P w = .ok b w ∧ (Op.equalIn d elem a b).run P w = .ok (f i) w) :
    (Op.equalIn (d + 1) t (.agg xs) (.agg ys)).run P w = .ok ((List.range len).all f) w := by
  simp only [Op.equalIn, Sem.run_bind, run_underlying ht, Result.andThen_ok, hs, Std.Legacy.Range.forIn_eq_forIn_range', Std.Legacy.Range.size, Nat.sub_zero, Nat.add_sub_cancel, Nat.div_one]
  rw [List.range_eq_range']
  have hL : ∀ i ∈ List.range' 0 len 1, i < len := fun i hi => by simpa using (List.mem_range'_1.1 hi).2
  generalize List.range' 0 len 1 = is at *
  clear ht
  induction is with
  | nil => simp
  | cons i is ih =>
    obtain ⟨a, b, h1, h2, h3⟩ := h i (hL i (List.mem_cons_self ..))
    simp only [List.forIn_cons, Sem.run_bind, h1, h2, h3, Result.andThen_ok, List.all_cons]
    cases hf : f i
    · simp
    · simpa using ih (fun j hj => hL j (List.mem_cons_of_mem _ hj))
end Go.Proofs.YthhmdgmmeedhdaaGreat
namespace Go.Proofs.YthhmdgmmeedhdaaGreat
open Go.RowKit Go.Shelf
theorem part_row (ty : TypeId) (d : TypeDesc) (hu : Tryz.prog.underlying ty = some d) (hd : (match d with | .struct _ | .array _ _ => true | _ => false) = true) (n : Nat) (hi : (Tryz.prog.info? ty).map (·.size) = some n) (cs ns : List Value) (o : Nat) (h : (cs.drop o).take n = ns) (w : World) :
    (part ty cs.toArray o).run Tryz.prog w = .ok (.agg ns.toArray) w := by
  cases hq : Tryz.prog.info? ty with
  | none => simp [hq] at hi
  | some i =>
    have hs : i.size = n := by simpa [hq] using hi
    have hagg : (isAgg ty).run Tryz.prog w = .ok true w := by
      unfold isAgg
      rw [Sem.run_bind, run_underlying hu w]
      cases d <;> simp_all
    simp [part, Sem.run_bind, hagg, sizeOf, typeInfo, hq, hs]
    exact h
def eqK (b c : Bk) : Bool := (List.range 8).all fun i => (List.range 2).all fun j => wEq (nw (b (2 * i + j)) 0 : Nat) (nw (b (2 * i + j)) 1 : Nat) (nw (b (2 * i + j)) 2 : Nat) (nw (b (2 * i + j)) 3 : Nat) (nw (c (2 * i + j)) 0 : Nat) (nw (c (2 * i + j)) 1 : Nat) (nw (c (2 * i + j)) 2 : Nat) (nw (c (2 * i + j)) 3 : Nat)
theorem eqK_refl (b : Bk) : eqK b b = true := by unfold eqK; simp [wEq_refl]
theorem run_eqK (d : Nat) (b c : Bk) (w : World) : (Op.equalIn (d + 4) 30 (bkv b) (bkv c)).run Tryz.prog w = .ok (eqK b c) w := by
  refine run_equalIn_arr (P := Tryz.prog) w (d + 3) 30 28 8 8 _ _ (fun i => (List.range 2).all fun j => wEq (nw (b (2 * i + j)) 0 : Nat) (nw (b (2 * i + j)) 1 : Nat) (nw (b (2 * i + j)) 2 : Nat) (nw (b (2 * i + j)) 3 : Nat) (nw (c (2 * i + j)) 0 : Nat) (nw (c (2 * i + j)) 1 : Nat) (nw (c (2 * i + j)) 2 : Nat) (nw (c (2 * i + j)) 3 : Nat)) Tryz.underlying30 (by kernel_rfl) (fun i hi => ?_)
  have hp : ∀ x : Bk, (part 28 (bkc x).toArray (i * 8)).run Tryz.prog w = .ok (.agg (rowB x (2 * i) 2).toArray) w := fun x =>
    part_row _ _ Tryz.underlying28 rfl 8 (by kernel_rfl) _ _ _ (by rw [show i * 8 = 8 * i by omega, bkc_row x hi, rowB, rowB, rowB, List.append_nil]) w
  refine ⟨_, _, hp b, hp c, ?_⟩
  refine run_equalIn_arr (P := Tryz.prog) w (d + 2) 28 27 2 4 _ _ (fun j => wEq (nw (b (2 * i + j)) 0 : Nat) (nw (b (2 * i + j)) 1 : Nat) (nw (b (2 * i + j)) 2 : Nat) (nw (b (2 * i + j)) 3 : Nat) (nw (c (2 * i + j)) 0 : Nat) (nw (c (2 * i + j)) 1 : Nat) (nw (c (2 * i + j)) 2 : Nat) (nw (c (2 * i + j)) 3 : Nat)) Tryz.underlying28 (by kernel_rfl) (fun j hj => ?_)
  have hq : ∀ x : Bk, (part 27 (rowB x (2 * i) 2).toArray (j * 4)).run Tryz.prog w = .ok (wn (x (2 * i + j))) w := fun x =>
    part_row _ _ Tryz.underlying27 rfl 4 (by kernel_rfl) _ (ws (nw (x (2 * i + j)))) _ (by rw [show j * 4 = 4 * j by omega, rowB_drop x (2 * i) 2 (by omega), show 4 = 4 * 1 from rfl, rowB_take x (2 * i + j) (2 - j) (by omega), rowB, rowB, List.append_nil]) w
  exact ⟨_, _, hq b, hq c, run_equalIn_wide' d _ _ _ _ _ _ _ _ w⟩
end Go.Proofs.YthhmdgmmeedhdaaGreat
namespace Go.Proofs.YthhmdgmmeedhdaaGreat
open Go.RowKit Go.Shelf
attribute [local irreducible] wpFrom
section
variable {ops : Array Oper} {Q : Exit → Act → World → Prop}
theorem op_at {P : Program} {k : Nat} {a : Act} {b : Bool} {d : Option Tmp} {op : Op} (h : (ops[k]?).map (fun o => (Region.wanted o (yielded ops a.tmps), o.dst, o.op)) = some (b, d, op)) : ∃ o, ops[k]? = some o ∧ Region.wanted o (yielded ops a.tmps) = b ∧ o.dst = d ∧ o.op = op ∧ ∀ w, runAt P ops k a w = some (b, d, (execOp a.eval o).run P w) := by
  cases ho : ops[k]? with
  | none => rw [ho] at h; cases h
  | some o =>
    rw [ho, Option.map_some, Option.some.injEq, Prod.mk.injEq, Prod.mk.injEq] at h
    obtain ⟨h1, h2, h3⟩ := h
    exact ⟨o, rfl, h1, h2, h3, fun w => by unfold runAt; rw [ho, Option.map_some, h1, h2]⟩
theorem neA {T : TypeId} (x y : Operand) (z : TypeId) (d : Option Tmp) (xs ys : Array Value) (b : Bool) {k : Nat} {a : Act} {w : World} (he : (Op.equalIn 10000 T (.agg xs) (.agg ys)).run Tryz.prog w = .ok b w) (h : wpFrom Tryz.prog ops Q (k + 1) (a.put d (.bool (!b))) w)
    (hm : Tryz.prog.eqGuardType Tryz.prog.depth T = false := by kernel_rfl) (hk : (ops[k]?).map (fun o => (Region.wanted o (yielded ops a.tmps), o.dst, o.op)) = some (true, d, .binOp .neq T x y z) := by kernel_rfl) (hx : a.eval x = .agg xs := by kernel_rfl) (hy : a.eval y = .agg ys := by kernel_rfl) : wpFrom Tryz.prog ops Q k a w := by
  obtain ⟨o, _, _, _, hop, hr⟩ := op_at (P := Tryz.prog) hk
  refine wpFrom_run ((hr w).trans ?_) h
  unfold execOp
  simp only [hop, hx, hy, Sem.run_bind, run_eqGuard_agg w .neq T x y _ _ hm, run_neq_struct, he, Result.andThen_ok]
  rfl
theorem eqA {T : TypeId} (x y : Operand) (z : TypeId) (d : Option Tmp) (xs ys : Array Value) (b : Bool) {k : Nat} {a : Act} {w : World} (he : (Op.equalIn 10000 T (.agg xs) (.agg ys)).run Tryz.prog w = .ok b w) (h : wpFrom Tryz.prog ops Q (k + 1) (a.put d (.bool b)) w)
    (hm : Tryz.prog.eqGuardType Tryz.prog.depth T = false := by kernel_rfl) (hk : (ops[k]?).map (fun o => (Region.wanted o (yielded ops a.tmps), o.dst, o.op)) = some (true, d, .binOp .eql T x y z) := by kernel_rfl) (hx : a.eval x = .agg xs := by kernel_rfl) (hy : a.eval y = .agg ys := by kernel_rfl) : wpFrom Tryz.prog ops Q k a w := by
  obtain ⟨o, _, _, _, hop, hr⟩ := op_at (P := Tryz.prog) hk
  refine wpFrom_run ((hr w).trans ?_) h
  unfold execOp
  simp only [hop, hx, hy, Sem.run_bind, run_eqGuard_agg w .eql T x y _ _ hm, run_eql_struct, he, Result.andThen_ok]
  rfl
end
theorem eq_row {T : TypeId} {n : Nat} (hu : Tryz.prog.underlying T = some (.array n 27)) (d : Nat) (b : Bk) (w : World) : (Op.equalIn (d + 3) T (.agg (rowB b 0 n).toArray) (.agg (rowB b 0 n).toArray)).run Tryz.prog w = .ok true w := by
  have e := run_equalIn_arr (P := Tryz.prog) w (d + 2) T 27 n 4 (rowB b 0 n).toArray (rowB b 0 n).toArray (fun i => wEq (nw (b i) 0 : Nat) (nw (b i) 1 : Nat) (nw (b i) 2 : Nat) (nw (b i) 3 : Nat) (nw (b i) 0 : Nat) (nw (b i) 1 : Nat) (nw (b i) 2 : Nat) (nw (b i) 3 : Nat)) hu (by kernel_rfl) (fun i hi => by
    have hp : (part 27 (rowB b 0 n).toArray (i * 4)).run Tryz.prog w = .ok (wn (b i)) w :=
      part_row _ _ Tryz.underlying27 rfl 4 (by kernel_rfl) _ (ws (nw (b i))) _ (by rw [show i * 4 = 4 * i by omega, rowB_drop b 0 n (by omega), Nat.zero_add, show 4 = 4 * 1 from rfl, rowB_take b i (n - i) (by omega), rowB, rowB, List.append_nil]) w
    exact ⟨_, _, hp, hp, run_equalIn_wide' d _ _ _ _ _ _ _ _ w⟩)
  rw [show (List.range n).all (fun i => wEq (nw (b i) 0 : Nat) (nw (b i) 1 : Nat) (nw (b i) 2 : Nat) (nw (b i) 3 : Nat) (nw (b i) 0 : Nat) (nw (b i) 1 : Nat) (nw (b i) 2 : Nat) (nw (b i) 3 : Nat)) = true by simp [wEq_refl]] at e
  exact e
theorem eq_no {T : TypeId} (hu : Tryz.prog.underlying T = some (.array 8 3)) (d : Nat) (f : Nat → Int) (w : World) : (Op.equalIn (d + 2) T (.agg (noc f).toArray) (.agg (noc f).toArray)).run Tryz.prog w = .ok true w := by
  have e := run_equalIn_arr (P := Tryz.prog) w (d + 1) T 3 8 1 (noc f).toArray (noc f).toArray (fun i => f i == f i) hu (by kernel_rfl) (fun i hi => by
    have hp : (part 3 (noc f).toArray (i * 1)).run Tryz.prog w = .ok (.int .i64 (f i)) w := by
      have h1 : ((noc f).toArray)[i * 1]? = some (.int .i64 (f i)) := by rw [Nat.mul_one, List.getElem?_toArray]; exact noc_at f hi
      simp [part, isAgg, run_underlying Tryz.underlying3, go_sem] at h1 ⊢
      simp [h1]
    exact ⟨_, _, hp, hp, run_equalIn_int w d 3 .i64 .i64 _ _ Tryz.underlying3⟩)
  rw [show (List.range 8).all (fun i => f i == f i) = true by simp] at e
  exact e
theorem eq_wn (d n : Nat) (w : World) : (Op.equalIn (d + 2) 27 (wn n) (wn n)).run Tryz.prog w = .ok true w := by
  rw [show wn n = .agg (ws (nw n)).toArray from rfl]
  exact (run_equalIn_wide' d _ _ _ _ _ _ _ _ w).trans (by rw [wEq_refl])
end Go.Proofs.YthhmdgmmeedhdaaGreat
namespace Go.Proofs.YthhmdgmmeedhdaaGreat
open Go.RowKit Go.Shelf
theorem eqF_cons {P : Program} {d : Nat} {xs ys : Array Value} {f : Field} {fs : List Field} {a b : Value} {r s : Bool} {w : World} (hn : f.name ≠ "_") (ha : (part f.type xs f.offset).run P w = .ok a w) (hb : (part f.type ys f.offset).run P w = .ok b w)
    (hr : (Op.equalIn d f.type a b).run P w = .ok r w) (h : (Op.eqFields d xs ys fs).run P w = .ok s w) : (Op.eqFields d xs ys (f :: fs)).run P w = .ok (r && s) w := by
  simp only [Op.eqFields, if_pos hn, Sem.run_bind, ha, hb, hr, Result.andThen_ok]
  cases r
  · simp
  · simpa using h
theorem eqF_nil {P : Program} {d : Nat} {xs ys : Array Value} {w : World} : (Op.eqFields d xs ys []).run P w = .ok true w := rfl
theorem part_int (cs : Array Value) (o : Nat) (v : Value) (h : cs[o]? = some v) (w : World) : (part 3 cs o).run Tryz.prog w = .ok v w := by
  simp [part, isAgg, run_underlying Tryz.underlying3, h, go_sem]
theorem part_str (cs : Array Value) (o : Nat) (v : Value) (h : cs[o]? = some v) (w : World) : (part 9 cs o).run Tryz.prog w = .ok v w := by
  simp [part, isAgg, run_underlying Tryz.underlying9, h, go_sem]
end Go.Proofs.YthhmdgmmeedhdaaGreat
