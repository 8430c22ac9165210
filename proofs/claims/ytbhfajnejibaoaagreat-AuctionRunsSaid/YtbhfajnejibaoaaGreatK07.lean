/-
  A writer by the reference: its blocks; An ask, put by the reference; 'string(b)'; the octets of a writer by the reference; A bid's text, by the reference; ots.digits: a sequence of a number's digits of 2 bits, the highest first; slices.AppendSeq of digits onto a row of ints of the call's own; slices.Collect of digits; slices.AppendSeq of strings onto a row of the call's own; Arrays of words: as ce
-/
import Derived.Deep.Cut
import Derived.Laws.BitsLemmas
import Derived.Outline
import Derived.Laws.CopyOwn
import Derived.Laws.Rows
import Derived.Laws.Tables
import Derived.WalkSpells
import Derived.StillTail
import Derived.StillTactics
import Derived.Test.YtbhfajnejibaoaaGreatK06
namespace Go.Proofs.YtbhfajnejibaoaaGreat
open Go.RowKit Go.Shelf
structure WW (T : TypeId) (vs : List Value) (w Y : World) (s : St) (z : Value) : Prop where
  a : Blk Y w.heap.size 97 [z, .int .i64 s.2]
  l : Blk Y (w.heap.size + 1) T vs
  r : Blk Y (w.heap.size + 2) 97 [.slice none 0 0, .int .i64 0]
  b : BSl 0 Y.heap.size Y z s.1
  w : Below w.heap.size w Y
theorem WW.below {T : TypeId} {vs : List Value} {w Y Y' : World} {s : St} {z : Value} (h : WW T vs w Y s z) (hb : Below Y.heap.size Y Y') : WW T vs w Y' s z :=
  ⟨h.a.below hb h.a.lt, h.l.below hb h.l.lt, h.r.below hb h.r.lt, (h.b.below hb (Nat.le_refl _)).mono (Nat.le_refl _) hb.size, chain h.w hb⟩
theorem WW.drew {T : TypeId} {vs : List Value} {w Y : World} {s : St} {z : Value} (h : WW T vs w Y s z) : WW T vs w Y.drew s z := h.below (Below.refl _ Y).drew
theorem WW.fin {T : TypeId} {vs : List Value} {w Y : World} {s s' : St} {z : Value} (h : WW T vs w Y s z) {sv : Value} (hv : BSl 0 Y.heap.size Y sv s'.1) :
    WW T vs w ((Y.setCell ⟨w.heap.size, 0, none⟩ sv).setCell ⟨w.heap.size, 1, none⟩ (.int .i64 s'.2)) s' sv := by
  obtain ⟨h1, h2, h3⟩ := stored_at (y := s'.2) hv h.w (Nat.le_refl _) h.b.shape3 h.a
  exact ⟨h1, (h.l.other 0 _ (by omega)).other 1 _ (by omega), (h.r.other 0 _ (by omega)).other 1 _ (by omega), h2, h3⟩
end Go.Proofs.YtbhfajnejibaoaaGreat
namespace Go.Proofs.YtbhfajnejibaoaaGreat
open Go.RowKit Go.Shelf
set_option maxRecDepth 100000 in
set_option maxHeartbeats 2000000 in
theorem refPutAsk_any {s : St} (hok : OkS s) (sv : Value) (i : Ak) (hi4 : Ok4 i.a0 i.a1 i.a2 i.a3) (w : World) (hsl : BSl 0 w.heap.size w sv s.1) :
    Calls Tryz.prog 52 #[.agg #[sv, .int .i64 s.2], akv i] w (RefS (putA s i) w) := by
  have hmx : Tryz.prog.follows .mixedOrders = true := by kernel_rfl
  have HG : Hid (putA s i = txtS (wideS (numS (numS (numS (numS s i.us) i.se) i.re) i.to) i.a0 i.a1 i.a2 i.a3) i.id) := Lib.hid rfl
  have hok1 : OkS (numS (numS (numS (numS s i.us) i.se) i.re) i.to) := okS_putA4 hok i
  obtain ⟨a, m, c, rfl⟩ := hsl.shape3
  go_enter Tryz.func52, Tryz.ntmps52
  go_wp2_with fail
  generalize hW0 : World.alloc _ _ = W0
  have hP : WW 34 (akc i) w W0 s (.slice a m c) := by
    have b3 := chainA (chainA (chain0 w (.cells #[.slice a m c, .int .i64 s.2] 97)) (.cells (akc i).toArray 34)) (.cells #[.slice none 0 0, .int .i64 0] 97)
    rw [← hW0]
    exact ⟨((Blk.new w _ [_, _]).alloc _).alloc _, (Blk.new' (vs := (akc i)) (by simp)).alloc _, Blk.new' (vs := [_, _]) (by simp), (hsl.below b3 (Nat.le_refl _)).mono (Nat.le_refl _) b3.size, b3⟩
  clear hW0 hsl
  refine wp_region_held_drew (S := fun W => Blk W (w.heap.size + 1) 34 (akc i)) hmx hP.l ?_
  intro hS
  replace hP := hP.drew
  generalize World.drew _ = Y at *
  refine' wpAnyH_take (i := 1) (oi := _) (v := _) ?hi1 (by kernel_rfl) (by kernel_rfl) (by kernel_rfl) ?hQ1 (Or.inl ⟨?hw1, ?hy1⟩) hS ?rest1
  case hi1 => simp only [List.getElem?_toArray, List.getElem?_cons_succ, List.getElem?_cons_zero]; rfl
  case hQ1 => exact fun _ _ _ h => h
  case hw1 => rfl
  case hy1 => intro W' hS'; go_simp; with_reducible rfl
  try simp only [Act.put, List.setIfInBounds_toArray, List.set_cons_zero, List.set_cons_succ]
  refine' wpAnyH_take (i := 2) (oi := _) (v := _) ?hi2 (by kernel_rfl) (by kernel_rfl) (by kernel_rfl) ?hQ2 (Or.inl ⟨?hw2, ?hy2⟩) hS ?rest2
  case hi2 => simp only [List.getElem?_toArray, List.getElem?_cons_succ, List.getElem?_cons_zero]; rfl
  case hQ2 => exact fun _ _ _ h => h
  case hw2 => rfl
  case hy2 => intro W' hS'; obtain ⟨c0, c1, c2, c3, c4, c5, c6, c7, c8⟩ := Blk.c9 hS'; go_simp; with_reducible rfl
  try simp only [Act.put, List.setIfInBounds_toArray, List.set_cons_zero, List.set_cons_succ]
  refine' wpAnyH_take (i := 4) (oi := _) (v := _) ?hi3 (by kernel_rfl) (by kernel_rfl) (by kernel_rfl) ?hQ3 (Or.inl ⟨?hw3, ?hy3⟩) hS ?rest3
  case hi3 => simp only [List.getElem?_toArray, List.getElem?_cons_succ, List.getElem?_cons_zero]; rfl
  case hQ3 => exact fun _ _ _ h => h
  case hw3 => rfl
  case hy3 => intro W' hS'; go_simp; with_reducible rfl
  try simp only [Act.put, List.setIfInBounds_toArray, List.set_cons_zero, List.set_cons_succ]
  refine' wpAnyH_take (i := 5) (oi := _) (v := _) ?hi4 (by kernel_rfl) (by kernel_rfl) (by kernel_rfl) ?hQ4 (Or.inl ⟨?hw4, ?hy4⟩) hS ?rest4
  case hi4 => simp only [List.getElem?_toArray, List.getElem?_cons_succ, List.getElem?_cons_zero]; rfl
  case hQ4 => exact fun _ _ _ h => h
  case hw4 => rfl
  case hy4 => intro W' hS'; obtain ⟨c0, c1, c2, c3, c4, c5, c6, c7, c8⟩ := Blk.c9 hS'; go_simp; with_reducible rfl
  try simp only [Act.put, List.setIfInBounds_toArray, List.set_cons_zero, List.set_cons_succ]
  refine' wpAnyH_take (i := 7) (oi := _) (v := _) ?hi5 (by kernel_rfl) (by kernel_rfl) (by kernel_rfl) ?hQ5 (Or.inl ⟨?hw5, ?hy5⟩) hS ?rest5
  case hi5 => simp only [List.getElem?_toArray, List.getElem?_cons_succ, List.getElem?_cons_zero]; rfl
  case hQ5 => exact fun _ _ _ h => h
  case hw5 => rfl
  case hy5 => intro W' hS'; go_simp; with_reducible rfl
  try simp only [Act.put, List.setIfInBounds_toArray, List.set_cons_zero, List.set_cons_succ]
  refine' wpAnyH_take (i := 8) (oi := _) (v := _) ?hi6 (by kernel_rfl) (by kernel_rfl) (by kernel_rfl) ?hQ6 (Or.inl ⟨?hw6, ?hy6⟩) hS ?rest6
  case hi6 => simp only [List.getElem?_toArray, List.getElem?_cons_succ, List.getElem?_cons_zero]; rfl
  case hQ6 => exact fun _ _ _ h => h
  case hw6 => rfl
  case hy6 => intro W' hS'; obtain ⟨c0, c1, c2, c3, c4, c5, c6, c7, c8⟩ := Blk.c9 hS'; go_simp; with_reducible rfl
  try simp only [Act.put, List.setIfInBounds_toArray, List.set_cons_zero, List.set_cons_succ]
  refine' wpAnyH_take (i := 10) (oi := _) (v := _) ?hi7 (by kernel_rfl) (by kernel_rfl) (by kernel_rfl) ?hQ7 (Or.inl ⟨?hw7, ?hy7⟩) hS ?rest7
  case hi7 => simp only [List.getElem?_toArray, List.getElem?_cons_succ, List.getElem?_cons_zero]; rfl
  case hQ7 => exact fun _ _ _ h => h
  case hw7 => rfl
  case hy7 => intro W' hS'; go_simp; with_reducible rfl
  try simp only [Act.put, List.setIfInBounds_toArray, List.set_cons_zero, List.set_cons_succ]
  refine' wpAnyH_take (i := 11) (oi := _) (v := _) ?hi8 (by kernel_rfl) (by kernel_rfl) (by kernel_rfl) ?hQ8 (Or.inl ⟨?hw8, ?hy8⟩) hS ?rest8
  case hi8 => simp only [List.getElem?_toArray, List.getElem?_cons_succ, List.getElem?_cons_zero]; rfl
  case hQ8 => exact fun _ _ _ h => h
  case hw8 => rfl
  case hy8 => intro W' hS'; obtain ⟨c0, c1, c2, c3, c4, c5, c6, c7, c8⟩ := Blk.c9 hS'; go_simp; with_reducible rfl
  try simp only [Act.put, List.setIfInBounds_toArray, List.set_cons_zero, List.set_cons_succ]
  refine wpAnyH_ready (rs := [0]) (by kernel_rfl) (by simp) ?_
  refine' AllReadyH.cons (o := _) ?ho9 (fun K hK => ?st9) AllReadyH.nil
  case ho9 => simp only [List.getElem?_toArray, List.getElem?_cons_zero]; rfl
  case st9 =>
    obtain ⟨a0, a1⟩ := Blk.c2 hP.a
    go_simp
    refine hK.out _ _ hS (fun hS => ?_)
    clear hK K
    try simp only [Act.put, List.setIfInBounds_toArray, List.set_cons_zero, List.set_cons_succ]
    clear a0 a1
    have hv := hP.b
    refine wpAnyH_ready (rs := [3]) (by kernel_rfl) (by simp) ?_
    refine' AllReadyH.cons (o := _) ?ho10 (fun K hK => ?st10) AllReadyH.nil
    case ho10 => simp only [List.getElem?_toArray, List.getElem?_cons_succ, List.getElem?_cons_zero]; rfl
    case st10 =>
      go_simp
      refine (refNum6_any hok _ i.us _ hv).mono ?_
      rintro e Y1 ⟨vv, rfl, hv1, hb⟩
      refine hK.out _ _ (hS.below hb hS.lt) (fun hS => ?_)
      clear hK K
      try simp only [Act.put, List.setIfInBounds_toArray, List.set_cons_zero, List.set_cons_succ]
      replace hP := hP.below hb
      clear hv hb
      obtain ⟨va, vm, vc, rfl⟩ := hv1.shape3
      have hv := hv1
      clear hv1
      refine wpAnyH_ready (rs := [6]) (by kernel_rfl) (by simp) ?_
      refine' AllReadyH.cons (o := _) ?ho11 (fun K hK => ?st11) AllReadyH.nil
      case ho11 => simp only [List.getElem?_toArray, List.getElem?_cons_succ, List.getElem?_cons_zero]; rfl
      case st11 =>
        go_simp
        refine (refNum6_any (okS_num hok _) _ i.se _ hv).mono ?_
        rintro e Y1 ⟨vv, rfl, hv1, hb⟩
        refine hK.out _ _ (hS.below hb hS.lt) (fun hS => ?_)
        clear hK K
        try simp only [Act.put, List.setIfInBounds_toArray, List.set_cons_zero, List.set_cons_succ]
        replace hP := hP.below hb
        clear hv hb
        obtain ⟨va, vm, vc, rfl⟩ := hv1.shape3
        have hv := hv1
        clear hv1
        refine wpAnyH_ready (rs := [9]) (by kernel_rfl) (by simp) ?_
        refine' AllReadyH.cons (o := _) ?ho12 (fun K hK => ?st12) AllReadyH.nil
        case ho12 => simp only [List.getElem?_toArray, List.getElem?_cons_succ, List.getElem?_cons_zero]; rfl
        case st12 =>
          go_simp
          refine (refNum6_any (okS_num (okS_num hok _) _) _ i.re _ hv).mono ?_
          rintro e Y1 ⟨vv, rfl, hv1, hb⟩
          refine hK.out _ _ (hS.below hb hS.lt) (fun hS => ?_)
          clear hK K
          try simp only [Act.put, List.setIfInBounds_toArray, List.set_cons_zero, List.set_cons_succ]
          replace hP := hP.below hb
          clear hv hb
          obtain ⟨va, vm, vc, rfl⟩ := hv1.shape3
          have hv := hv1
          clear hv1
          refine wpAnyH_ready (rs := [12]) (by kernel_rfl) (by simp) ?_
          refine' AllReadyH.cons (o := _) ?ho13 (fun K hK => ?st13) AllReadyH.nil
          case ho13 => simp only [List.getElem?_toArray, List.getElem?_cons_succ, List.getElem?_cons_zero]; rfl
          case st13 =>
            go_simp
            refine (refNum6_any (okS_num (okS_num (okS_num hok _) _) _) _ i.to _ hv).mono ?_
            rintro e Y1 ⟨vv, rfl, hv1, hb⟩
            refine hK.out _ _ (hS.below hb hS.lt) (fun hS => ?_)
            clear hK K
            try simp only [Act.put, List.setIfInBounds_toArray, List.set_cons_zero, List.set_cons_succ]
            replace hP := hP.below hb
            clear hv hb
            obtain ⟨va, vm, vc, rfl⟩ := hv1.shape3
            have hv := hv1
            clear hv1
            refine wpAnyH_ready (rs := [13]) (by kernel_rfl) (by simp) ?_
            refine' AllReadyH.cons (o := _) ?ho14 (fun K hK => ?st14) AllReadyH.nil
            case ho14 => simp only [List.getElem?_toArray, List.getElem?_cons_succ, List.getElem?_cons_zero]; rfl
            case st14 =>
              obtain ⟨a0, a1⟩ := Blk.c2 hP.a
              have fa := hP.a.frozen
              go_simp
              refine hK.out _ _ ((hS.other 0 _ (by omega)).other 1 _ (by omega)) (fun hS => ?_)
              clear hK K
              try simp only [Act.put, List.setIfInBounds_toArray, List.set_cons_zero, List.set_cons_succ]
              replace hP := WW.fin (s' := numS (numS (numS (numS s i.us) i.se) i.re) i.to) hP hv
              clear a0 a1 fa hv
              refine wpAnyH_done (by kernel_rfl) ?_ _
              go_wp2_with fail
              generalize (World.setCell (World.setCell Y1 _ _) _ _) = Y3 at *
              generalize numS (numS (numS (numS s i.us) i.se) i.re) i.to = s1 at *
              clear hS
              refine wp_region_held_drew (S := fun W => Blk W (w.heap.size + 1) 34 (akc i)) hmx hP.l ?_
              intro hS
              replace hP := hP.drew
              generalize World.drew _ = Y at *
              refine' wpAnyH_take (i := 1) (oi := _) (v := _) ?hi15 (by kernel_rfl) (by kernel_rfl) (by kernel_rfl) ?hQ15 (Or.inl ⟨?hw15, ?hy15⟩) hS ?rest15
              case hi15 => simp only [List.getElem?_toArray, List.getElem?_cons_succ, List.getElem?_cons_zero]; rfl
              case hQ15 => exact fun _ _ _ h => h
              case hw15 => rfl
              case hy15 => intro W' hS'; go_simp; with_reducible rfl
              try simp only [Act.put, List.setIfInBounds_toArray, List.set_cons_zero, List.set_cons_succ]
              refine' wpAnyH_take (i := 2) (oi := _) (v := _) ?hi16 (by kernel_rfl) (by kernel_rfl) (by kernel_rfl) ?hQ16 (Or.inl ⟨?hw16, ?hy16⟩) hS ?rest16
              case hi16 => simp only [List.getElem?_toArray, List.getElem?_cons_succ, List.getElem?_cons_zero]; rfl
              case hQ16 => exact fun _ _ _ h => h
              case hw16 => rfl
              case hy16 => intro W' hS'; obtain ⟨c0, c1, c2, c3, c4, c5, c6, c7, c8⟩ := Blk.c9 hS'; go_simp; with_reducible rfl
              try simp only [Act.put, List.setIfInBounds_toArray, List.set_cons_zero, List.set_cons_succ]
              refine' wpAnyH_take (i := 4) (oi := _) (v := _) ?hi17 (by kernel_rfl) (by kernel_rfl) (by kernel_rfl) ?hQ17 (Or.inl ⟨?hw17, ?hy17⟩) hS ?rest17
              case hi17 => simp only [List.getElem?_toArray, List.getElem?_cons_succ, List.getElem?_cons_zero]; rfl
              case hQ17 => exact fun _ _ _ h => h
              case hw17 => rfl
              case hy17 => intro W' hS'; go_simp; with_reducible rfl
              try simp only [Act.put, List.setIfInBounds_toArray, List.set_cons_zero, List.set_cons_succ]
              refine' wpAnyH_take (i := 5) (oi := _) (v := _) ?hi18 (by kernel_rfl) (by kernel_rfl) (by kernel_rfl) ?hQ18 (Or.inl ⟨?hw18, ?hy18⟩) hS ?rest18
              case hi18 => simp only [List.getElem?_toArray, List.getElem?_cons_succ, List.getElem?_cons_zero]; rfl
              case hQ18 => exact fun _ _ _ h => h
              case hw18 => rfl
              case hy18 => intro W' hS'; obtain ⟨c0, c1, c2, c3, c4, c5, c6, c7, c8⟩ := Blk.c9 hS'; go_simp; with_reducible rfl
              try simp only [Act.put, List.setIfInBounds_toArray, List.set_cons_zero, List.set_cons_succ]
              refine wpAnyH_ready (rs := [0]) (by kernel_rfl) (by simp) ?_
              refine' AllReadyH.cons (o := _) ?ho19 (fun K hK => ?st19) AllReadyH.nil
              case ho19 => simp only [List.getElem?_toArray, List.getElem?_cons_zero]; rfl
              case st19 =>
                obtain ⟨a0, a1⟩ := Blk.c2 hP.a
                go_simp
                refine hK.out _ _ hS (fun hS => ?_)
                clear hK K
                try simp only [Act.put, List.setIfInBounds_toArray, List.set_cons_zero, List.set_cons_succ]
                clear a0 a1
                have hv := hP.b
                refine wpAnyH_ready (rs := [3]) (by kernel_rfl) (by simp) ?_
                refine' AllReadyH.cons (o := _) ?ho20 (fun K hK => ?st20) AllReadyH.nil
                case ho20 => simp only [List.getElem?_toArray, List.getElem?_cons_succ, List.getElem?_cons_zero]; rfl
                case st20 =>
                  go_simp
                  refine (refWide6_any hok1 _ hi4 _ hv).mono ?_
                  rintro e Y1 ⟨vv, rfl, hv1, hb⟩
                  refine hK.out _ _ (hS.below hb hS.lt) (fun hS => ?_)
                  clear hK K
                  try simp only [Act.put, List.setIfInBounds_toArray, List.set_cons_zero, List.set_cons_succ]
                  replace hP := hP.below hb
                  clear hv hb
                  obtain ⟨va, vm, vc, rfl⟩ := hv1.shape3
                  have hv := hv1
                  clear hv1
                  refine wpAnyH_ready (rs := [6]) (by kernel_rfl) (by simp) ?_
                  refine' AllReadyH.cons (o := _) ?ho21 (fun K hK => ?st21) AllReadyH.nil
                  case ho21 => simp only [List.getElem?_toArray, List.getElem?_cons_succ, List.getElem?_cons_zero]; rfl
                  case st21 =>
                    go_simp
                    refine (refText6_any (okS_wide hok1 _ _ _ _) _ i.id _ hv).mono ?_
                    rintro e Y1 ⟨vv, rfl, hv1, hb⟩
                    refine hK.out _ _ (hS.below hb hS.lt) (fun hS => ?_)
                    clear hK K
                    try simp only [Act.put, List.setIfInBounds_toArray, List.set_cons_zero, List.set_cons_succ]
                    replace hP := hP.below hb
                    clear hv hb
                    obtain ⟨va, vm, vc, rfl⟩ := hv1.shape3
                    have hv := hv1
                    clear hv1
                    refine wpAnyH_ready (rs := [7]) (by kernel_rfl) (by simp) ?_
                    refine' AllReadyH.cons (o := _) ?ho22 (fun K hK => ?st22) AllReadyH.nil
                    case ho22 => simp only [List.getElem?_toArray, List.getElem?_cons_succ, List.getElem?_cons_zero]; rfl
                    case st22 =>
                      obtain ⟨r0, r1⟩ := Blk.c2 hP.r
                      have g0 := hP.r.frozen
                      go_simp
                      refine hK.out _ _ ((hS.other 0 _ (by omega)).other 1 _ (by omega)) (fun hS => ?_)
                      clear hK K
                      try simp only [Act.put, List.setIfInBounds_toArray, List.set_cons_zero, List.set_cons_succ]
                      refine wpAnyH_done (by kernel_rfl) ?_ _
                      have hfin := refS_stored hv hP.w (Nat.le_add_right _ 2) ⟨_, _, _, rfl⟩ hP.r
                      go_wp2_with fail
                      obtain ⟨q0, q1⟩ := Blk.c2 hfin.1
                      exact bodyPost_ret (v := .agg #[.slice va vm vc, .int .i64 (txtS (wideS s1 i.a0 i.a1 i.a2 i.a3) i.id).2]) (by simp [results, Tryz.results52, go_sem, q0, q1]; try rfl) rfl (by rw [HG.out]; exact hfin.2)
end Go.Proofs.YtbhfajnejibaoaaGreat
namespace Go.Proofs.YtbhfajnejibaoaaGreat
open Go.RowKit Go.Shelf
theorem str_of (W : World) {lo hi : Nat} {sv : Value} {l : List UInt8} (h : BSl lo hi W sv l) : (convert 58 9 sv).run Tryz.prog W = .ok (.string ⟨l.toArray⟩) W :=
  run_string (P := Tryz.prog) 58 5 9 Tryz.underlying58 Tryz.underlying5 Tryz.underlying9 W h
theorem fieldB (W : World) (a : Option Addr) (m c : Nat) (x : Int) : (Instr.field 97 (.agg #[.slice a m c, .int .i64 x]) 0).run Tryz.prog W = .ok (.slice a m c) W := by
  simp [Instr.field, asAgg, run_underlying Tryz.underlying97, go_sem]
end Go.Proofs.YtbhfajnejibaoaaGreat
namespace Go.Proofs.YtbhfajnejibaoaaGreat
open Go.RowKit Go.Shelf
set_option maxRecDepth 100000 in
set_option maxHeartbeats 4000000 in
theorem refText8_any (b : Bd) (hb4 : OkB b) (w : World) :
    Calls Tryz.prog 29 #[bdv b] w (OctsL (textL b) w) := by
  have hmx : Tryz.prog.follows .mixedOrders = true := by kernel_rfl
  have HC := Lib.hid (refBid_any b hb4)
  have kB := Blk.new w 36 (bdc b)
  have hB := chain0 w (.cells (bdc b).toArray 36)
  by_cases hm : maybeB b
  · have HE := Lib.hid (errB_zero hm)
    have HT : Hid (textL b = (numS (wideS (putA (numS (txtS ([], 0) bidB) b.ro) b.k) b.b0 b.b1 b.b2 b.b3) b.un).1) := Lib.hid (textL_yes hm)
    clear hm
    have ok1 := okS_txt okS_new bidB
    have ok2 := okS_num ok1 b.ro
    have ok3 := okS_putA ok2 b.k
    have ok4 := okS_wide ok3 b.b0 b.b1 b.b2 b.b3
    go_enter Tryz.func29, Tryz.ntmps29
    go_upto_region 3 with (first
      | (refine wpList_loadIf 36 (.tmp 1) rfl _ rfl rfl (bdv b) (load_bid kB) ?_)
      | (go_at_call 27; refine (HC.out _).mono ?_; rw [HE.out]; rintro e W1 ⟨rfl, hb1⟩; replace kB := kB.below hb1 kB.lt; replace hB := chain hB hb1; clear hb1))
    refine wp_region_held_drew (S := fun W => Blk W w.heap.size 36 (bdc b)) hmx kB ?_
    intro hS
    replace hB := hB.drew
    clear kB
    generalize World.drew _ = Y at *
    refine' wpAnyH_take (i := 0) (oi := _) (v := _) ?hi1 (by kernel_rfl) (by kernel_rfl) (by kernel_rfl) ?hQ1 (Or.inl ⟨?hw1, ?hy1⟩) hS ?rest1
    case hi1 => simp only [List.getElem?_toArray, List.getElem?_cons_zero]; rfl
    case hQ1 => exact fun _ _ _ h => h
    case hw1 => rfl
    case hy1 => intro W' hS'; go_simp; with_reducible rfl
    try simp only [Act.put, List.setIfInBounds_toArray, List.set_cons_zero, List.set_cons_succ]
    refine' wpAnyH_take (i := 2) (oi := _) (v := _) ?hi2 (by kernel_rfl) (by kernel_rfl) (by kernel_rfl) ?hQ2 (Or.inl ⟨?hw2, ?hy2⟩) hS ?rest2
    case hi2 => simp only [List.getElem?_toArray, List.getElem?_cons_succ, List.getElem?_cons_zero]; rfl
    case hQ2 => exact fun _ _ _ h => h
    case hw2 => rfl
    case hy2 => intro W' hS'; go_simp; with_reducible rfl
    try simp only [Act.put, List.setIfInBounds_toArray, List.set_cons_zero, List.set_cons_succ]
    refine' wpAnyH_take (i := 3) (oi := _) (v := _) ?hi3 (by kernel_rfl) (by kernel_rfl) (by kernel_rfl) ?hQ3 (Or.inl ⟨?hw3, ?hy3⟩) hS ?rest3
    case hi3 => simp only [List.getElem?_toArray, List.getElem?_cons_succ, List.getElem?_cons_zero]; rfl
    case hQ3 => exact fun _ _ _ h => h
    case hw3 => rfl
    case hy3 => intro W' hS'; have c0 := (hS'.cell 0).trans rfl; go_simp; with_reducible rfl
    try simp only [Act.put, List.setIfInBounds_toArray, List.set_cons_zero, List.set_cons_succ]
    refine' wpAnyH_take (i := 5) (oi := _) (v := _) ?hi4 (by kernel_rfl) (by kernel_rfl) (by kernel_rfl) ?hQ4 (Or.inl ⟨?hw4, ?hy4⟩) hS ?rest4
    case hi4 => simp only [List.getElem?_toArray, List.getElem?_cons_succ, List.getElem?_cons_zero]; rfl
    case hQ4 => exact fun _ _ _ h => h
    case hw4 => rfl
    case hy4 => intro W' hS'; go_simp; with_reducible rfl
    try simp only [Act.put, List.setIfInBounds_toArray, List.set_cons_zero, List.set_cons_succ]
    refine' wpAnyH_take (i := 6) (oi := _) (v := _) ?hi5 (by kernel_rfl) (by kernel_rfl) (by kernel_rfl) ?hQ5 (Or.inl ⟨?hw5, ?hy5⟩) hS ?rest5
    case hi5 => simp only [List.getElem?_toArray, List.getElem?_cons_succ, List.getElem?_cons_zero]; rfl
    case hQ5 => exact fun _ _ _ h => h
    case hw5 => rfl
    case hy5 => intro W' hS'; have c1 := (hS'.cell 1).trans rfl; have c2 := (hS'.cell 2).trans rfl; have c3 := (hS'.cell 3).trans rfl; have c4 := (hS'.cell 4).trans rfl; have c5 := (hS'.cell 5).trans rfl; have c6 := (hS'.cell 6).trans rfl; have c7 := (hS'.cell 7).trans rfl; have c8 := (hS'.cell 8).trans rfl; have c9 := (hS'.cell 9).trans rfl; go_simp; with_reducible rfl
    try simp only [Act.put, List.setIfInBounds_toArray, List.set_cons_zero, List.set_cons_succ]
    refine' wpAnyH_take (i := 8) (oi := _) (v := _) ?hi6 (by kernel_rfl) (by kernel_rfl) (by kernel_rfl) ?hQ6 (Or.inl ⟨?hw6, ?hy6⟩) hS ?rest6
    case hi6 => simp only [List.getElem?_toArray, List.getElem?_cons_succ, List.getElem?_cons_zero]; rfl
    case hQ6 => exact fun _ _ _ h => h
    case hw6 => rfl
    case hy6 => intro W' hS'; go_simp; with_reducible rfl
    try simp only [Act.put, List.setIfInBounds_toArray, List.set_cons_zero, List.set_cons_succ]
    refine' wpAnyH_take (i := 9) (oi := _) (v := _) ?hi7 (by kernel_rfl) (by kernel_rfl) (by kernel_rfl) ?hQ7 (Or.inl ⟨?hw7, ?hy7⟩) hS ?rest7
    case hi7 => simp only [List.getElem?_toArray, List.getElem?_cons_succ, List.getElem?_cons_zero]; rfl
    case hQ7 => exact fun _ _ _ h => h
    case hw7 => rfl
    case hy7 => intro W' hS'; have c10 := (hS'.cell 10).trans rfl; have c11 := (hS'.cell 11).trans rfl; have c12 := (hS'.cell 12).trans rfl; have c13 := (hS'.cell 13).trans rfl; go_simp; with_reducible rfl
    try simp only [Act.put, List.setIfInBounds_toArray, List.set_cons_zero, List.set_cons_succ]
    refine' wpAnyH_take (i := 11) (oi := _) (v := _) ?hi8 (by kernel_rfl) (by kernel_rfl) (by kernel_rfl) ?hQ8 (Or.inl ⟨?hw8, ?hy8⟩) hS ?rest8
    case hi8 => simp only [List.getElem?_toArray, List.getElem?_cons_succ, List.getElem?_cons_zero]; rfl
    case hQ8 => exact fun _ _ _ h => h
    case hw8 => rfl
    case hy8 => intro W' hS'; go_simp; with_reducible rfl
    try simp only [Act.put, List.setIfInBounds_toArray, List.set_cons_zero, List.set_cons_succ]
    refine' wpAnyH_take (i := 12) (oi := _) (v := _) ?hi9 (by kernel_rfl) (by kernel_rfl) (by kernel_rfl) ?hQ9 (Or.inl ⟨?hw9, ?hy9⟩) hS ?rest9
    case hi9 => simp only [List.getElem?_toArray, List.getElem?_cons_succ, List.getElem?_cons_zero]; rfl
    case hQ9 => exact fun _ _ _ h => h
    case hw9 => rfl
    case hy9 => intro W' hS'; have c14 := (hS'.cell 14).trans rfl; go_simp; with_reducible rfl
    try simp only [Act.put, List.setIfInBounds_toArray, List.set_cons_zero, List.set_cons_succ]
    refine wpAnyH_ready (rs := [1]) (by kernel_rfl) (by simp) ?_
    refine' AllReadyH.cons (o := _) ?ho10 (fun K hK => ?st10) AllReadyH.nil
    case ho10 => simp only [List.getElem?_toArray, List.getElem?_cons_succ, List.getElem?_cons_zero]; rfl
    case st10 =>
      go_simp
      refine (refText6_any okS_new (.slice none 0 0) bidB _ (BSl.nil _ _ _)).mono ?_
      rintro e Y1 ⟨v2, rfl, hv2, hb⟩
      refine hK.out _ _ (hS.below hb hS.lt) (fun hS => ?_)
      clear hK K
      try simp only [Act.put, List.setIfInBounds_toArray, List.set_cons_zero, List.set_cons_succ]
      replace hB := chain hB hb
      clear hb
      refine wpAnyH_ready (rs := [4]) (by kernel_rfl) (by simp) ?_
      refine' AllReadyH.cons (o := _) ?ho11 (fun K hK => ?st11) AllReadyH.nil
      case ho11 => simp only [List.getElem?_toArray, List.getElem?_cons_succ, List.getElem?_cons_zero]; rfl
      case st11 =>
        go_simp
        refine (refNum6_any ok1 _ b.ro _ hv2).mono ?_
        rintro e Y1 ⟨v3, rfl, hv3, hb⟩
        refine hK.out _ _ (hS.below hb hS.lt) (fun hS => ?_)
        clear hK K
        try simp only [Act.put, List.setIfInBounds_toArray, List.set_cons_zero, List.set_cons_succ]
        replace hB := chain hB hb
        clear hb
        refine wpAnyH_ready (rs := [7]) (by kernel_rfl) (by simp) ?_
        refine' AllReadyH.cons (o := _) ?ho12 (fun K hK => ?st12) AllReadyH.nil
        case ho12 => simp only [List.getElem?_toArray, List.getElem?_cons_succ, List.getElem?_cons_zero]; rfl
        case st12 =>
          go_simp
          refine (refPutAsk_any ok2 _ b.k hb4.k _ hv3).mono ?_
          rintro e Y1 ⟨v4, rfl, hv4, hb⟩
          refine hK.out _ _ (hS.below hb hS.lt) (fun hS => ?_)
          clear hK K
          try simp only [Act.put, List.setIfInBounds_toArray, List.set_cons_zero, List.set_cons_succ]
          replace hB := chain hB hb
          clear hb
          refine wpAnyH_ready (rs := [10]) (by kernel_rfl) (by simp) ?_
          refine' AllReadyH.cons (o := _) ?ho13 (fun K hK => ?st13) AllReadyH.nil
          case ho13 => simp only [List.getElem?_toArray, List.getElem?_cons_succ, List.getElem?_cons_zero]; rfl
          case st13 =>
            go_simp
            refine (refWide6_any ok3 _ hb4.b _ hv4).mono ?_
            rintro e Y1 ⟨v5, rfl, hv5, hb⟩
            refine hK.out _ _ (hS.below hb hS.lt) (fun hS => ?_)
            clear hK K
            try simp only [Act.put, List.setIfInBounds_toArray, List.set_cons_zero, List.set_cons_succ]
            replace hB := chain hB hb
            clear hb
            refine wpAnyH_ready (rs := [13]) (by kernel_rfl) (by simp) ?_
            refine' AllReadyH.cons (o := _) ?ho14 (fun K hK => ?st14) AllReadyH.nil
            case ho14 => simp only [List.getElem?_toArray, List.getElem?_cons_succ, List.getElem?_cons_zero]; rfl
            case st14 =>
              go_simp
              refine (refNum6_any ok4 _ b.un _ hv5).mono ?_
              rintro e Y1 ⟨v6, rfl, hv6, hb⟩
              refine hK.out _ _ (hS.below hb hS.lt) (fun hS => ?_)
              clear hK K
              try simp only [Act.put, List.setIfInBounds_toArray, List.set_cons_zero, List.set_cons_succ]
              replace hB := chain hB hb
              clear hb
              obtain ⟨va, vm, vc, rfl⟩ := hv6.shape3
              refine' wpAnyH_take (i := 14) (oi := _) (v := _) ?hi15 (by kernel_rfl) (by kernel_rfl) (by kernel_rfl) ?hQ15 (Or.inl ⟨?hw15, ?hy15⟩) hS ?rest15
              case hi15 => simp only [List.getElem?_toArray, List.getElem?_cons_succ, List.getElem?_cons_zero]; rfl
              case hQ15 => exact fun _ _ _ h => h
              case hw15 => rfl
              case hy15 => intro W' hS'; have hfb := fieldB; go_simp; with_reducible rfl
              try simp only [Act.put, List.setIfInBounds_toArray, List.set_cons_zero, List.set_cons_succ]
              refine' wpAnyH_take (i := 15) (oi := _) (v := _) ?hi16 (by kernel_rfl) (by kernel_rfl) (by kernel_rfl) ?hQ16 (Or.inl ⟨?hw16, ?hy16⟩) hS ?rest16
              case hi16 => simp only [List.getElem?_toArray, List.getElem?_cons_succ, List.getElem?_cons_zero]; rfl
              case hQ16 => exact fun _ _ _ h => h
              case hw16 => rfl
              case hy16 => intro W' hS'; go_simp; with_reducible rfl
              try simp only [Act.put, List.setIfInBounds_toArray, List.set_cons_zero, List.set_cons_succ]
              refine wpAnyH_done (by kernel_rfl) ?_ _
              go_wp2_with fail
              go_ret
              exact ⟨_, rfl, by rw [HT.out]; exact hv6, hB⟩
  · have HE := Lib.hid (errB_bad hm)
    have HT := Lib.hid (textL_no hm)
    clear hm
    go_enter Tryz.func29, Tryz.ntmps29
    go_wp2_with (first
      | (refine wpList_loadIf 36 (.tmp 1) rfl _ rfl rfl (bdv b) (load_bid kB) ?_)
      | (go_at_call 27; refine (HC.out _).mono ?_; rw [HE.out]; rintro e W1 ⟨rfl, hb1⟩; replace hB := chain hB hb1))
    go_ret
    exact ⟨_, rfl, by rw [HT.out]; exact BSl.nil _ _ _, hB⟩
end Go.Proofs.YtbhfajnejibaoaaGreat
namespace Go.Proofs.YtbhfajnejibaoaaGreat
open Go.RowKit Go.Shelf
attribute [local go_sem] Oper.semAt_some
def dig (x p : Nat) : Nat := x / 2 ^ (p * 2) % 4
def digs (x N : Nat) : List Int := (List.range N).map fun i => (dig x (N - 1 - i) : Int)
theorem digs_length (x N : Nat) : (digs x N).length = N := by simp [digs]
theorem digs_at (x : Nat) {N k : Nat} (h : k < N) : (digs x N)[k]? = some (dig x (N - 1 - k) : Int) := by unfold digs; rw [List.getElem?_map, List.getElem?_range h]; rfl
theorem and3 {a : Nat} (ha : a ≤ 9223372036854775807) : bits .and .i64 (a : Int) 3 = ((a % 4 : Nat) : Int) := by
  have e := (Go.bits_nat .i64 63 (by decide) (fun n h0 h1 => by rw [IntKind.wrap_i64]; omega) a 3 (by simp; omega) (by simp)).1
  have h : a &&& 3 = a % 4 := by
    have := Nat.and_two_pow_sub_one_eq_mod a 2
    simpa using this
  rw [h] at e
  rw [← e]
  rfl
set_option maxRecDepth 100000 in
set_option maxHeartbeats 2000000 in
theorem digits1_rel (m : Nat) (hm : 1 ≤ m) (x N : Nat) (hx : x ≤ 16777215) (hN : N ≤ 16) (Bn Bm : Nat) (w : World) (kn : Boxed w Bn 3 (.int .i64 (x : Nat))) (km : Boxed w Bm 3 (.int .i64 (N : Nat))) :
    SeqRel Fence.wide m Tryz.prog 131 #[.pointer (some ⟨Bm, 0, none⟩), .pointer (some ⟨Bn, 0, none⟩)] N (fun k r _ => ∃ y : Int, (digs x N)[k]? = some y ∧ r = #[iv y]) (fun _ => KeepB2 Bn Bm) w := fun l J W hW _ _ _ hY h0 => by
  have hcn : Boxed W Bn 3 (.int .i64 (x : Nat)) := (hW.block Bn kn.lt).trans kn
  have hcm : Boxed W Bm 3 (.int .i64 (N : Nat)) := (hW.block Bm km.lt).trans km
  refine callsIn_of_wp Tryz.func131 rfl trivial ?_ rfl
  simp only [Tryz.ntmps131, List.size_toArray, List.length_cons, List.length_nil, Nat.reduceAdd, Nat.reduceSub, Array.replicate_succ, Array.replicate_zero, List.push_toArray, List.append_toArray, List.nil_append, List.cons_append]
  have hN' : (N : Int) ≤ 16 := by omega
  have cm := hcm.cell
  gi_wp2
  clear cm
  gi_loopw [7] (fun i wr => ∃ k : Nat, k ≤ N ∧ i = .int .i64 (k : Nat) ∧ (Boxed wr Bn 3 (.int .i64 (x : Nat)) ∧ Boxed wr Bm 3 (.int .i64 (N : Nat))) ∧ J k wr) (fun i _ => N - (intOf i).toNat)
  case atStart => exact ⟨0, by omega, rfl, ⟨hcn, hcm⟩, h0⟩
  clear hcn hcm h0
  case round =>
    obtain ⟨k, hk, rfl, ⟨hbn, hbm⟩, hJ⟩ := hrel
    have cn := hbn.cell
    have cm := hbm.cell
    by_cases hlt : k < N
    · have hlt' : (k : Int) < (N : Int) := by omega
      have hD := digs_at x hlt
      have hp : (N : Int) - 1 - k = ((N - 1 - k : Nat) : Int) := by omega
      have hpl : N - 1 - k ≤ 15 := by omega
      have hpl' : ((N - 1 - k : Nat) : Int) ≤ 15 := by omega
      obtain ⟨fn, tmps, assign, body, hy, hR⟩ := hY k #[iv (dig x (N - 1 - k) : Int)] wr hlt ⟨_, hD, rfl⟩ hJ
      clear hD
      generalize N - 1 - k = p at *
      have hb : bits BinOp.and IntKind.i64 ((x : Int) / 2 ^ (p * 2)) 3 = (dig x p : Int) := by
        have hle : x / 2 ^ (p * 2) ≤ x := Nat.div_le_self _ _
        have h := and3 (a := x / 2 ^ (p * 2)) (by omega)
        rw [show (((x / 2 ^ (p * 2) : Nat)) : Int) = (x : Int) / 2 ^ (p * 2) by simp] at h
        exact h
      simp only [iv] at hy
      gi_wp2
      clear hy hb
      refine hR.mono ?_
      rintro e W3 ⟨rfl, hJ3, hk3⟩
      have hbn3 : Boxed W3 Bn 3 (.int .i64 (x : Nat)) := hk3.1.trans hbn
      have hbm3 : Boxed W3 Bm 3 (.int .i64 (N : Nat)) := hk3.2.trans hbm
      clear cn cm hp
      gi_wp2
      go_roundw
      case rel => exact ⟨k + 1, by omega, by simp, ⟨hbn3, hbm3⟩, hJ3⟩
      case measure => simp [intOf]; omega
    · obtain rfl : k = N := by omega
      gi_wp2
      go_end0
      exact ⟨⟨_, rfl⟩, hJ⟩
set_option maxHeartbeats 1000000 in
theorem digits_in (F : Fence) (m : Nat) (h : F.fn 115) (hro : F.round = none) (x N : Int) (w : World) :
    CallsIn F m Tryz.prog 115 #[.int .i64 x, .int .i64 N] w fun e w' => e = .returned (.func (.func 131) #[] #[.pointer (some ⟨w.heap.size + 1, 0, none⟩), .pointer (some ⟨w.heap.size, 0, none⟩)]) ∧ w' = (w.alloc (.cells #[.int .i64 x] 3)).alloc (.cells #[.int .i64 N] 3) := by
  refine callsIn_of_wp Tryz.func115 rfl h ?_ hro
  simp only [Tryz.ntmps115, List.size_toArray, List.length_cons, List.length_nil, Nat.reduceAdd, Nat.reduceSub, Array.replicate_succ, Array.replicate_zero, List.push_toArray, List.append_toArray, List.nil_append, List.cons_append]
  gi_wp2
  go_ret
  exact ⟨rfl, rfl⟩
end Go.Proofs.YtbhfajnejibaoaaGreat
namespace Go.Proofs.YtbhfajnejibaoaaGreat
open Go.RowKit Go.Shelf
attribute [local go_sem] Oper.semAt_some
theorem Tryz.infoIntI : (Tryz.prog.info? 3).map (fun i => (i.zero, i.size, i.bytes)) = some (some (.int .i64 0), 1, 8) := by kernel_rfl
def SeqII (n₀ B Bn Bm x N k : Nat) (xs ys : List Value) (w : World) (j : Nat) (W : World) : Prop :=
  (((∃ v, Boxed W B 108 v ∧ W.ownsRow n₀ 3 1 v (k + j) (xs ++ ys.take j) ∧ True) ∧ (Boxed W Bn 3 (.int .i64 (x : Nat)) ∧ Boxed W Bm 3 (.int .i64 (N : Nat)))) ∧ Below n₀ w W) ∧ Spares 3 w W
theorem seqII_own {n₀ Bb Bn Bm x N k : Nat} {xs ys : List Value} {w : World} {B : Nat} (h : n₀ ≤ w.heap.size) (hB : w.heap.size ≤ B) : OwnFrom B (SeqII n₀ Bb Bn Bm x N k xs ys w) :=
  OwnFrom.and (OwnFrom.and (OwnFrom.and (Own.from (holdsRow_own n₀ Bb 108 3 1 (fun j : Nat => k + j) (fun j => xs ++ ys.take j) (fun _ _ => True)) _)
    (OwnFrom.and (Own.from (fun _ X Y row hs hg hr => blk_own Bn 3 (fun (_ : Unit) => [.int .i64 (x : Nat)]) () X Y row hs hg hr) _)
      (Own.from (fun _ X Y row hs hg hr => blk_own Bm 3 (fun (_ : Unit) => [.int .i64 (N : Nat)]) () X Y row hs hg hr) _))) (ownFrom_below h (Nat.le_trans h hB))) (ownFrom_spares hB)
def RowW (n₀ : Nat) (e : TypeId) (k : Nat) (xs : List Value) (w : World) (en : Ending) (W' : World) : Prop :=
  ∃ v', en = .returned v' ∧ W'.ownsRow n₀ e 1 v' k xs ∧ Below n₀ w W'
def RowSW (n₀ : Nat) (e : TypeId) (k : Nat) (xs : List Value) (w : World) (en : Ending) (W' : World) : Prop :=
  ∃ v', en = .returned v' ∧ W'.ownsRow n₀ e 1 v' k xs ∧ Below n₀ w W' ∧ Spares e w W'
set_option maxRecDepth 100000 in
set_option maxHeartbeats 4000000 in
theorem appendSeqI_in (m : Nat) (hm : 3 ≤ m) (n₀ k x N : Nat) (hk : k ≤ 1000000) (hx : x ≤ 16777215) (hN : N ≤ 16) (sv : Value) (xs : List Value) (Bn Bm : Nat) (w : World) (hn₀ : n₀ ≤ w.heap.size) (hrow : w.ownsRow n₀ 3 1 sv k xs)
    (kn : Boxed w Bn 3 (.int .i64 (x : Nat))) (km : Boxed w Bm 3 (.int .i64 (N : Nat))) (hne : (Bn < n₀ ∧ Bm < n₀) ∨ 2 ≤ k) :
    CallsIn Fence.wide m Tryz.prog 117 #[sv, .func (.func 131) #[] #[.pointer (some ⟨Bm, 0, none⟩), .pointer (some ⟨Bn, 0, none⟩)]] w (RowSW n₀ 3 (k + N) (xs ++ (digs x N).map iv) w) := by
  have h1 : 1 ≤ m := by omega
  obtain ⟨a, c, rfl⟩ := ownsRow_slice hrow
  refine callsIn_of_wp_marks Tryz.func117 rfl trivial ?_ rfl
  simp only [Tryz.ntmps117, List.size_toArray, List.length_cons, List.length_nil, Nat.reduceAdd, Nat.reduceSub, Array.replicate_succ, Array.replicate_zero, List.push_toArray, List.append_toArray, List.nil_append, List.cons_append]
  obtain ⟨i0, hi, hz0, hz1, hz2⟩ := info_parts Tryz.infoIntI
  gi_wp2
  generalize hW5 : World.alloc _ _ = W5
  have k0 : Boxed W5 w.heap.size 108 (.slice a k c) := by rw [← hW5]; exact Boxed.new _ _ _
  have k1 : Boxed W5 Bn 3 (.int .i64 (x : Nat)) := by rw [← hW5]; exact kn.alloc _
  have k2 : Boxed W5 Bm 3 (.int .i64 (N : Nat)) := by rw [← hW5]; exact km.alloc _
  have hB0 : Below w.heap.size w W5 := by rw [← hW5]; exact chain0 _ _
  have hrow5 : W5.ownsRow n₀ 3 1 (.slice a k c) k xs := by rw [← hW5]; exact hrow.alloc _
  have hz : W5.heap.size = w.heap.size + 1 := by rw [← hW5]; simp
  have hBnw : Bn < w.heap.size := kn.lt
  have hBmw : Bm < w.heap.size := km.lt
  clear hW5
  refine wpIn_rangeFunc_relA rfl h1 (gf := 131) (lb := #[.pointer (some ⟨Bm, 0, none⟩), .pointer (some ⟨Bn, 0, none⟩)]) rfl trivial (enters_of Tryz.func131 (by kernel_rfl) rfl)
    (digits1_rel (m - 1) (by omega) x N hx hN Bn Bm W5 k1 k2) KeepB2.t (fun X o o' h2 h3 h4 => ⟨World.putObj_heap_other (by omega), World.putObj_heap_other (by omega)⟩) (fun X => ⟨rfl, rfl⟩) (Below.refl _ _) (fun _ => rfl)
    (SeqII n₀ w.heap.size Bn Bm x N k xs ((digs x N).map iv) w) (seqII_own hn₀ (by omega))
    ⟨⟨⟨⟨_, k0, by simpa using hrow5, trivial⟩, k1, k2⟩, hB0.mono hn₀⟩, Spares.of_below hB0⟩ (fun _ _ _ _ _ _ h _ _ => h) ?_ ?_ ?_ ?_
  rotate_left
  · intro l k x W K _ hK
    gi_wp2
    exact hK
  · rintro l j y W hlt ⟨⟨⟨⟨v, kv, hown, _⟩, kn, km⟩, hB⟩, hsp⟩ hy
    have ht : ((digs x N).map iv).take (j + 1) = ((digs x N).map iv).take j ++ [iv y] := by rw [List.take_add_one, List.getElem?_map, hy]; rfl
    have HT := Lib.hid ht
    clear ht hy
    have ko := kv.cell
    have kf := kv.frozen
    have hNW : n₀ ≤ W.heap.size := Nat.le_trans hn₀ hB.size
    have hn1 := own_ne (B := Bn) hown kn (by omega)
    have hn2 := own_ne (B := Bm) hown km (by omega)
    generalize ((digs x N).map iv).take j = zs at *
    gi_wp2_with (gi_at_builtin; refine wpListIn_append_own _ rfl _ _ 108 rfl n₀ 3 i0 (.int .i64 0) 1 8 Tryz.underlying108 hi hz0 hz1 hz2 rfl (by decide) v (k + j) (xs ++ zs) rfl (hown.alloc _) ⟨W.heap.size, 0, none⟩ 1 1 [iv y] rfl rfl (cell_one_new _ _ _) (by simp [Value.oneCell']) (by unfold maxLen; omega) (by omega) (by simp; omega) ?_; intro v' w1 hown' hgrow _; obtain ⟨g, cap, rfl⟩ := ownsRow_succ hown'; obtain ⟨hv1, kv', hrow', hk3, hbw⟩ := kv.appended (by decide) hown hNW hn₀ hown' hgrow; have ko1 := hv1.cell; have kf1 := hv1.frozen)
    have kn1 : Boxed w1 Bn 3 (.int .i64 (x : Nat)) := (kn.alloc _).kept hgrow hn1
    have kn3 := kn1.kept (grownBy_setCell' w1 w.heap.size (.slice (some ⟨g, 0, none⟩) (k + j + 1) cap)) (fun e => by cases e; omega)
    have km1 : Boxed w1 Bm 3 (.int .i64 (N : Nat)) := (km.alloc _).kept hgrow hn2
    have km3 := km1.kept (grownBy_setCell' w1 w.heap.size (.slice (some ⟨g, 0, none⟩) (k + j + 1) cap)) (fun e => by cases e; omega)
    have hsp1 := ((hsp.grown (World.grownBy_alloc W (.cells #[iv y] 3) none) (fun r e => by cases e)).grown hgrow (fun r e => .inr (ownsRow_block (hown.alloc _) r e))).grown (grownBy_setCell' w1 w.heap.size (.slice (some ⟨g, 0, none⟩) (k + j + 1) cap)) (fun r e => by cases e; exact .inl (Nat.le_refl _))
    exact ⟨hk3.from _, ⟨kn3.trans kn.symm, km3.trans km.symm⟩, ⟨⟨⟨_, kv', by rw [HT.out]; simpa [Nat.add_assoc] using hrow', trivial⟩, kn3, km3⟩, hB.trans hbw⟩, hsp1⟩
  · rintro D W hD ⟨⟨⟨⟨v, kv, hown, _⟩, _⟩, hB⟩, hsp⟩ hK
    have ko := kv.cell
    have HZ := Lib.hid hz
    clear hz
    gi_wp2
    have hD' : w.heap.size ≤ D := by have := HZ.out; omega
    have hB' := hB.trans (belowK_b (w := w) hn₀ _ D _ (.deferred none) hD' hK rfl rfl)
    have hown3 := ownsRow_putObj hown (.deferred none) hK rfl
    rw [List.take_of_length_le (by simp [digs_length])] at hown3
    refine ⟨by simp, .inl ⟨_, _, rfl, run_takeDeferred hK, ?_⟩⟩
    refine ⟨v, ?_, ?_⟩
    · simp [results, Tryz.f117, go_sem]
    · exact ⟨v, rfl, hown3, hB', hsp.grown (grownBy_putObj' _ D (.deferred none)) (fun r e => by cases e; exact .inl hD')⟩
theorem collectI_in (m : Nat) (hm : 4 ≤ m) (x N : Nat) (hx : x ≤ 16777215) (hN : N ≤ 16) (Bn Bm : Nat) (w : World)
    (kn : Boxed w Bn 3 (.int .i64 (x : Nat))) (km : Boxed w Bm 3 (.int .i64 (N : Nat))) :
    CallsIn Fence.wide m Tryz.prog 114 #[.func (.func 131) #[] #[.pointer (some ⟨Bm, 0, none⟩), .pointer (some ⟨Bn, 0, none⟩)]] w (RowW w.heap.size 3 N ((digs x N).map iv) w) := by
  have h1 : 1 ≤ m := by omega
  refine callsIn_of_wp Tryz.func114 rfl trivial ?_ rfl
  simp only [Tryz.ntmps114, List.size_toArray, List.length_cons, List.length_nil, Nat.reduceAdd, Nat.reduceSub, Array.replicate_succ, Array.replicate_zero, List.push_toArray, List.append_toArray, List.nil_append, List.cons_append]
  gi_wp2_with (refine ⟨trivial, ?_⟩; gi_at_call 117; refine (appendSeqI_in (m - 1) (by omega) w.heap.size 0 x N (by omega) hx hN _ [] Bn Bm w (Nat.le_refl _) (World.ownsRow_nil _ _ _ _) kn km (.inl ⟨kn.lt, km.lt⟩)).mono ?_; rintro e w' ⟨v, rfl, hown, hb, _⟩; obtain ⟨a, c, rfl⟩ := ownsRow_slice hown)
  go_ret
  exact ⟨_, rfl, by simpa using hown, hb⟩
end Go.Proofs.YtbhfajnejibaoaaGreat
namespace Go.Proofs.YtbhfajnejibaoaaGreat
open Go.RowKit Go.Shelf
attribute [local go_sem] Oper.semAt_some
theorem Tryz.infoStr : (Tryz.prog.info? 9).map (fun i => (i.zero, i.size, i.bytes)) = some (some (.string ⟨#[]⟩), 1, 16) := by kernel_rfl
def ButRows (e : TypeId) (B l : Nat) (W W' : World) : Prop := W.heap.size ≤ W'.heap.size ∧ ∀ (j : Nat) (o : Obj), W.heap[j]? = some o → j ≠ B → j ≠ l → (∀ cur fr, o ≠ .cells cur e fr) → W'.heap[j]? = some o
theorem ButRows.refl (e : TypeId) (B l : Nat) (W : World) : ButRows e B l W W := ⟨Nat.le_refl _, fun _ _ h _ _ _ => h⟩
theorem ButRows.t {e : TypeId} {B l : Nat} {X Y Z : World} (h : ButRows e B l X Y) (k : ButRows e B l Y Z) : ButRows e B l X Z :=
  ⟨Nat.le_trans h.1 k.1, fun j o hj h1 h2 h3 => k.2 j o (h.2 j o hj h1 h2 h3) h1 h2 h3⟩
theorem ButRows.b (e : TypeId) (B l : Nat) (W : World) (o' : Obj) : ButRows e B l W (W.putObj l o') := ⟨by simp, fun j o hj _ h2 _ => (World.putObj_heap_other h2).trans hj⟩
theorem own_butRows {W W' : World} {base : Nat} {e e' : TypeId} {size k : Nat} {v : Value} {xs : List Value} {B l : Nat} (h : W.ownsRow base e size v k xs) (hs : ButRows e' B l W W') (hne : e ≠ e') (hB : B < base) (hl : l < base) : W'.ownsRow base e size v k xs := by
  obtain ⟨h1, h2⟩ := h
  refine ⟨h1, ?_⟩
  rcases h2 with h2 | ⟨g, cap, cur, rfl, hb, hh, r⟩
  · exact .inl h2
  · exact .inr ⟨g, cap, cur, rfl, hb, hs.2 g _ hh (by omega) (by omega) (fun cur' fr' e => by cases e; exact hne rfl), r⟩
def SeqTI (n₀ B k : Nat) (xs ys : List Value) (w : World) (j : Nat) (W : World) : Prop :=
  ((∃ v, Boxed W B 26 v ∧ W.ownsRow n₀ 9 1 v (k + j) (xs ++ ys.take j) ∧ True) ∧ Below n₀ w W) ∧ Spares 9 w W
theorem seqTI_own {n₀ Bb k : Nat} {xs ys : List Value} {w : World} {B : Nat} (h : n₀ ≤ w.heap.size) (hB : w.heap.size ≤ B) : OwnFrom B (SeqTI n₀ Bb k xs ys w) :=
  OwnFrom.and (OwnFrom.and (Own.from (holdsRow_own n₀ Bb 26 9 1 (fun j : Nat => k + j) (fun j => xs ++ ys.take j) (fun _ _ => True)) _)
    (ownFrom_below h (Nat.le_trans h hB))) (ownFrom_spares hB)
set_option maxRecDepth 100000 in
set_option maxHeartbeats 4000000 in
theorem appendSeqT_in (m : Nat) (hm : 3 ≤ m) (n₀ k : Nat) (hk : k ≤ 1000000) (zs : List ByteArray) (hz0 : zs.length ≤ 1000000) (sv : Value) (xs : List Value) (w : World) (hn₀ : n₀ ≤ w.heap.size) (hrow : w.ownsRow n₀ 9 1 sv k xs)
    (gf : Nat) (lb : Array Value) (eg : ∀ args w, (callFunc gf args).run Tryz.prog w = .ok (.enter gf args) w)
    (hseq : ∀ W, Below w.heap.size w W → w.heap.size < W.heap.size → SeqRel Fence.wide (m - 1) Tryz.prog gf lb zs.length (fun j r _ => ∃ y, zs[j]? = some y ∧ r = #[tv y]) (fun l A B => Below n₀ A B ∧ ButRows 9 w.heap.size l A B) W) :
    CallsIn Fence.wide m Tryz.prog 106 #[sv, .func (.func gf) #[] lb] w (RowSW n₀ 9 (k + zs.length) (xs ++ zs.map tv) w) := by
  have h1 : 1 ≤ m := by omega
  obtain ⟨a, c, rfl⟩ := ownsRow_slice hrow
  refine callsIn_of_wp_marks Tryz.func106 rfl trivial ?_ rfl
  simp only [Tryz.ntmps106, List.size_toArray, List.length_cons, List.length_nil, Nat.reduceAdd, Nat.reduceSub, Array.replicate_succ, Array.replicate_zero, List.push_toArray, List.append_toArray, List.nil_append, List.cons_append]
  obtain ⟨i0, hi, hz0', hz1, hz2⟩ := info_parts Tryz.infoStr
  gi_wp2
  generalize hW5 : World.alloc _ _ = W5
  have k0 : Boxed W5 w.heap.size 26 (.slice a k c) := by rw [← hW5]; exact Boxed.new _ _ _
  have hB0 : Below w.heap.size w W5 := by rw [← hW5]; exact chain0 _ _
  have hrow5 : W5.ownsRow n₀ 9 1 (.slice a k c) k xs := by rw [← hW5]; exact hrow.alloc _
  have hz : W5.heap.size = w.heap.size + 1 := by rw [← hW5]; simp
  clear hW5
  refine wpIn_rangeFunc_relA (encs := fun y : ByteArray => #[tv y]) rfl h1 (gf := gf) (lb := lb) rfl trivial eg
    (hseq W5 hB0 (by omega)) (fun h k => ⟨h.1.trans k.1, h.2.t k.2⟩) (fun X o o' h2 h3 h4 => ⟨belowK_b (w := w) hn₀ _ _ o o' (by omega) h2 h3 h4, ButRows.b _ _ _ X o'⟩) (fun X => ⟨Below.refl _ X, ButRows.refl _ _ _ X⟩) (Below.refl _ _) (fun _ => rfl)
    (SeqTI n₀ w.heap.size k xs (zs.map tv) w) (seqTI_own hn₀ (by omega))
    ⟨⟨⟨_, k0, by simpa using hrow5, trivial⟩, hB0.mono hn₀⟩, Spares.of_below hB0⟩ (fun _ _ _ _ _ _ h _ _ => h) ?_ ?_ ?_ ?_
  rotate_left
  · intro l j y W K _ hK
    gi_wp2
    exact hK
  · rintro l j y W hlt ⟨⟨⟨v, kv, hown, _⟩, hB⟩, hsp⟩ hy
    have ht : (zs.map tv).take (j + 1) = (zs.map tv).take j ++ [tv y] := by rw [List.take_add_one, List.getElem?_map, hy]; rfl
    have HT := Lib.hid ht
    clear ht hy
    have ko := kv.cell
    have kf := kv.frozen
    have hNW : n₀ ≤ W.heap.size := Nat.le_trans hn₀ hB.size
    have HZ := Lib.hid hz
    clear hz
    generalize (zs.map tv).take j = ts at *
    gi_wp2_with (gi_at_builtin; refine wpListIn_append_own _ rfl _ _ 26 rfl n₀ 9 i0 (.string ⟨#[]⟩) 1 16 Tryz.underlying26 hi hz0' hz1 hz2 rfl (by decide) v (k + j) (xs ++ ts) rfl (hown.alloc _) ⟨W.heap.size, 0, none⟩ 1 1 [tv y] rfl rfl (cell_one_new _ _ _) (by simp [Value.oneCell']) (by unfold maxLen; omega) (by omega) (by simp; omega) ?_; intro v' w1 hown' hgrow _; obtain ⟨g, cap, rfl⟩ := ownsRow_succ hown'; obtain ⟨hv1, kv', hrow', hk3, hbw⟩ := kv.appended (by decide) hown hNW hn₀ hown' hgrow; have ko1 := hv1.cell; have kf1 := hv1.frozen)
    have hspW : Spares 9 W w1 := ((Spares.of_below (Below.refl _ W)).grown (World.grownBy_alloc W (.cells #[tv y] 9) none) (fun r e => by cases e)).grown hgrow (fun r e => .inr (ownsRow_block (hown.alloc _) r e))
    have hbut : ButRows 9 w.heap.size (W5.heap.size + 1) W (w1.setCell ⟨w.heap.size, 0, none⟩ (.slice (some ⟨g, 0, none⟩) (k + j + 1) cap)) :=
      ⟨Nat.le_trans hspW.1 (grownBy_setCell' w1 w.heap.size (.slice (some ⟨g, 0, none⟩) (k + j + 1) cap)).size, fun i o hi' h1' _ h3' => (Below.heap_setCell w1 ⟨w.heap.size, 0, none⟩ _ i h1').trans (hspW.2 i o hi' h3')⟩
    have hsp1 := (hsp.t hspW).grown (grownBy_setCell' w1 w.heap.size (.slice (some ⟨g, 0, none⟩) (k + j + 1) cap)) (fun r e => by cases e; exact .inl (Nat.le_refl _))
    exact ⟨hk3.from _, ⟨hbw, hbut⟩, ⟨⟨_, kv', by rw [HT.out]; simpa [Nat.add_assoc] using hrow', trivial⟩, hB.trans hbw⟩, hsp1⟩
  · rintro D W hD ⟨⟨⟨v, kv, hown, _⟩, hB⟩, hsp⟩ hK
    have ko := kv.cell
    have HZ := Lib.hid hz
    clear hz
    gi_wp2
    have hD' : w.heap.size ≤ D := by have := HZ.out; omega
    have hB' := hB.trans (belowK_b (w := w) hn₀ _ D _ (.deferred none) hD' hK rfl rfl)
    have hown3 := ownsRow_putObj hown (.deferred none) hK rfl
    rw [List.take_of_length_le (by simp)] at hown3
    refine ⟨by simp, .inl ⟨_, _, rfl, run_takeDeferred hK, ?_⟩⟩
    refine ⟨v, ?_, ?_⟩
    · simp [results, Tryz.f106, go_sem]
    · exact ⟨v, rfl, hown3, hB', hsp.grown (grownBy_putObj' _ D (.deferred none)) (fun r e => by cases e; exact .inl hD')⟩
theorem collectT_in (m : Nat) (hm : 4 ≤ m) (zs : List ByteArray) (hz0 : zs.length ≤ 1000000) (w : World)
    (gf : Nat) (lb : Array Value) (eg : ∀ args w, (callFunc gf args).run Tryz.prog w = .ok (.enter gf args) w)
    (hseq : ∀ W, Below w.heap.size w W → w.heap.size < W.heap.size → SeqRel Fence.wide (m - 1 - 1) Tryz.prog gf lb zs.length (fun j r _ => ∃ y, zs[j]? = some y ∧ r = #[tv y]) (fun l A B => Below w.heap.size A B ∧ ButRows 9 w.heap.size l A B) W) :
    CallsIn Fence.wide m Tryz.prog 87 #[.func (.func gf) #[] lb] w (RowW w.heap.size 9 zs.length (zs.map tv) w) := by
  have h1 : 1 ≤ m := by omega
  refine callsIn_of_wp Tryz.func87 rfl trivial ?_ rfl
  simp only [Tryz.ntmps87, List.size_toArray, List.length_cons, List.length_nil, Nat.reduceAdd, Nat.reduceSub, Array.replicate_succ, Array.replicate_zero, List.push_toArray, List.append_toArray, List.nil_append, List.cons_append]
  gi_wp2_with (refine ⟨trivial, ?_⟩; gi_at_call 106; refine (appendSeqT_in (m - 1) (by omega) w.heap.size 0 (by omega) zs hz0 _ [] w (Nat.le_refl _) (World.ownsRow_nil _ _ _ _) gf lb eg hseq).mono ?_; rintro e w' ⟨v, rfl, hown, hb, _⟩; obtain ⟨a, c, rfl⟩ := ownsRow_slice hown)
  go_ret
  exact ⟨_, rfl, by simpa using hown, hb⟩
end Go.Proofs.YtbhfajnejibaoaaGreat
namespace Go.Proofs.YtbhfajnejibaoaaGreat
open Go.RowKit
def us (f : Nat → Int) (n : Nat) : List Value := upto (fun k => Value.int .u32 (f k)) n
def updI (f : Nat → Int) (i : Nat) (v : Int) : Nat → Int := fun j => if j = i then v else f j
theorem us_length (f : Nat → Int) (n : Nat) : (us f n).length = n := upto_length _ _
theorem us_at (f : Nat → Int) {n k : Nat} (h : k < n) : (us f n)[k]? = some (.int .u32 (f k)) := by
  unfold us upto; rw [List.getElem?_map, List.getElem?_range h]; rfl
theorem us_set (f : Nat → Int) {n k : Nat} (v : Int) : (us f n).set k (.int .u32 v) = us (updI f k v) n := by
  apply List.ext_getElem?
  intro j
  rw [List.getElem?_set]
  by_cases hj : k = j
  · subst hj
    by_cases hk : k < n
    · rw [if_pos rfl, if_pos (by rw [us_length]; exact hk), us_at _ hk]; simp [updI]
    · rw [if_pos rfl, if_neg (by rw [us_length]; omega), eq_comm, List.getElem?_eq_none]; rw [us_length]; omega
  · rw [if_neg hj]
    by_cases hk : j < n
    · rw [us_at _ hk, us_at _ hk]; simp [updI, Ne.symm hj]
    · rw [List.getElem?_eq_none (by rw [us_length]; omega), List.getElem?_eq_none (by rw [us_length]; omega)]
theorem us_congr {f g : Nat → Int} {n : Nat} (h : ∀ k, k < n → f k = g k) : us f n = us g n := by
  apply List.ext_getElem?
  intro j
  by_cases hk : j < n
  · rw [us_at _ hk, us_at _ hk, h j hk]
  · rw [List.getElem?_eq_none (by rw [us_length]; omega), List.getElem?_eq_none (by rw [us_length]; omega)]
abbrev uv (f : Nat → Int) (n : Nat) : Value := .agg (us f n).toArray
theorem us_one (f : Nat → Int) (n : Nat) : ∀ v ∈ us f n, v.oneCell' = true := by
  intro v hv
  unfold us upto at hv
  obtain ⟨k, _, rfl⟩ := List.mem_map.1 hv
  rfl
theorem us_splice (f g : Nat → Int) {m n : Nat} (h : m ≤ n) : splice (us g n) 0 (us f m) = us (fun t => if t < m then f t else g t) n := by
  apply List.ext_getElem?
  intro j
  unfold splice
  simp only [List.take_zero, List.nil_append, us_length, Nat.zero_add]
  by_cases hm : j < m
  · rw [List.getElem?_append_left (by rw [us_length]; exact hm), us_at _ hm, us_at _ (by omega), if_pos hm]
  · rw [List.getElem?_append_right (by rw [us_length]; omega), us_length, List.getElem?_drop, show m + (j - m) = j by omega]
    by_cases hn : j < n
    · rw [us_at _ hn, us_at _ hn, if_neg hm]
    · rw [List.getElem?_eq_none (by rw [us_length]; omega), List.getElem?_eq_none (by rw [us_length]; omega)]
theorem us0_64 : us (fun _ => 0) 64 = [.int .u32 0, .int .u32 0, .int .u32 0, .int .u32 0, .int .u32 0, .int .u32 0, .int .u32 0, .int .u32 0, .int .u32 0, .int .u32 0, .int .u32 0, .int .u32 0, .int .u32 0, .int .u32 0, .int .u32 0, .int .u32 0, .int .u32 0, .int .u32 0, .int .u32 0, .int .u32 0, .int .u32 0, .int .u32 0, .int .u32 0, .int .u32 0, .int .u32 0, .int .u32 0, .int .u32 0, .int .u32 0, .int .u32 0, .int .u32 0, .int .u32 0, .int .u32 0, .int .u32 0, .int .u32 0, .int .u32 0, .int .u32 0, .int .u32 0, .int .u32 0, .int .u32 0, .int .u32 0, .int .u32 0, .int .u32 0, .int .u32 0, .int .u32 0, .int .u32 0, .int .u32 0, .int .u32 0, .int .u32 0, .int .u32 0, .int .u32 0, .int .u32 0, .int .u32 0, .int .u32 0, .int .u32 0, .int .u32 0, .int .u32 0, .int .u32 0, .int .u32 0, .int .u32 0, .int .u32 0, .int .u32 0, .int .u32 0, .int .u32 0, .int .u32 0] := rfl
structure ArrT (ty n : Nat) : Prop where
  hu : ∃ e, Tryz.prog.underlying ty = some (.array n e)
  hi : (Tryz.prog.info? ty).map (·.size) = some n
theorem arr8 : ArrT 140 8 := ⟨⟨_, Tryz.underlying140⟩, by kernel_rfl⟩
theorem arr16 : ArrT 177 16 := ⟨⟨_, Tryz.underlying177⟩, by kernel_rfl⟩
theorem arr64 : ArrT 141 64 := ⟨⟨_, Tryz.underlying141⟩, by kernel_rfl⟩
theorem arr_load {ty n : Nat} (hT : ArrT ty n) {ops : Array Oper} {rest : List Oper} {o : Oper} {a : Act} {w : World} {Q : Exit → Act → World → Prop} (hgd : o.guard = none) (x : Operand) (ho : o.op = .load ty x)
    (g : Nat) (hx : a.eval x = .pointer (some ⟨g, 0, none⟩)) (t : TypeId) (f : Nat → Int) (hg : Blk w g t (us f n))
    (h : wpList Tryz.prog ops Q rest (a.put o.dst (uv f n)) w) : wpList Tryz.prog ops Q (o :: rest) a w := by
  obtain ⟨⟨e, hu⟩, hi⟩ := hT
  exact wpList_load_row hgd ty x ho g hx t _ (0, 0) _ hg hu rfl (by rw [hi]; simp [us_length]) h
theorem us_all (f : Nat → Int) (n : Nat) : (us f n).toArray.all (·.oneCell') = true := by
  rw [Array.all_eq_true_iff_forall_mem]
  intro v hv
  exact us_one f n v (by simpa using hv)
theorem setRow_blk {w : World} {g : Nat} {t : TypeId} {old : List Value} (hg : Blk w g t old) (vs : List Value) : Blk (w.setRow g vs.toArray) g t vs := setRow_heap w g _ _ t _ hg
theorem setRow_grown {w : World} {g : Nat} (vs : Array Value) : w.grownBy (w.setRow g vs) (some g) :=
  ⟨rfl, rfl, rfl, by simp [World.setRow], fun k _ hne => setRow_other w g k vs (fun e => hne (by rw [e]))⟩
theorem arr_store {ty n : Nat} (hT : ArrT ty n) {ops : Array Oper} {rest : List Oper} {o : Oper} {a : Act} {w : World} {Q : Exit → Act → World → Prop} (hgd : o.guard = none) (x y : Operand) (ho : o.op = .store ty x y)
    (g : Nat) (hx : a.eval x = .pointer (some ⟨g, 0, none⟩)) (f : Nat → Int) (hy : a.eval y = uv f n) (t : TypeId) (old : Nat → Int) (hg : Blk w g t (us old n))
    (h : ∀ w', Blk w' g t (us f n) → w.grownBy w' (some g) → wpList Tryz.prog ops Q rest (a.put o.dst undef) w') : wpList Tryz.prog ops Q (o :: rest) a w := by
  obtain ⟨⟨e, hu⟩, hi⟩ := hT
  exact wpList_store_row hgd ty x y ho g _ hx hy t _ hg (by rw [hi]; simp [us_length]) (by simp [us_length]) (us_all f n) (h _ (setRow_blk hg _) (setRow_grown _))
theorem arr_result {ty n : Nat} (hT : ArrT ty n) {fn : Func} {p : Tmp} (h : fn.results = #[.cell p ty]) (tmps : Array Value) (w : World) (g : Nat) (t : TypeId) (f : Nat → Int)
    (hp : tmps.getD p undef = .pointer (some ⟨g, 0, none⟩)) (hg : Blk w g t (us f n)) : (results fn tmps).run Tryz.prog w = .ok (uv f n) w := by
  obtain ⟨⟨e, hu⟩, hi⟩ := hT
  exact results_cell_row h tmps w g t _ (0, 0) _ hp hg hu rfl (by rw [hi]; simp [us_length])
theorem below_drewN {B : Nat} (W : World) (n : Nat) : Below B W (W.drewN n) := ⟨rfl, rfl, rfl, Nat.le_refl _, fun _ _ => rfl⟩
end Go.Proofs.YtbhfajnejibaoaaGreat
namespace Go.Proofs.YtbhfajnejibaoaaGreat
open Go.RowKit Go.Shelf
theorem run_load_us {ty n : Nat} (hT : ArrT ty n) (w : World) (g : Nat) (t : TypeId) (f : Nat → Int) (hg : Blk w g t (us f n)) : (loadVar ty ⟨g, 0, none⟩).run Tryz.prog w = .ok (uv f n) w := by
  obtain ⟨⟨e, hu⟩, hi⟩ := hT
  exact run_loadVar_row w g t ty _ (0, 0) _ hg hu rfl (by rw [hi]; simp [us_length])
theorem still_load {ty n : Nat} (hT : ArrT ty n) {ops : Array Oper} {rest : List Oper} {o : Oper} {a : Act} {w : World} {Q : Act → Prop} (hgd : o.guard = none) (x : Operand) (ho : o.op = .load ty x)
    (g : Nat) (hx : a.eval x = .pointer (some ⟨g, 0, none⟩)) (t : TypeId) (f : Nat → Int) (hg : Blk w g t (us f n)) (h : wpStill Tryz.prog ops w Q rest (a.put o.dst (uv f n))) : wpStill Tryz.prog ops w Q (o :: rest) a := by
  refine wpStill_step fun K hK => ?_
  rw [if_pos (by simp [Region.wanted, hgd])]
  unfold Oper.still execOp
  simp only [ho, hx, Instr.loadAt, Instr.sureAddr, Sem.run_bind, Sem.run_pure, Result.andThen_ok, run_load_us hT w g t f hg, Oper.stillUpon_value]
  exact hK _ h
theorem step_load_us {ty n : Nat} (hT : ArrT ty n) {ops : Array Oper} {o : Oper} {a : Act} {w : World} {K : Act → World → Prop} {Q : Exit → Act → World → Prop} {E : Prop} (hgd : o.guard = none) (x : Operand) (ho : o.op = .load ty x)
    (g : Nat) (hx : a.eval x = .pointer (some ⟨g, 0, none⟩)) (t : TypeId) (f : Nat → Int) (hg : Blk w g t (us f n)) (h : K (a.put o.dst (uv f n)) w) :
    if Region.wanted o (yielded ops a.tmps) = true then Oper.wp Tryz.prog o a w K Q else E := by
  rw [if_pos (by simp [Region.wanted, hgd])]
  obtain ⟨⟨e, hu⟩, hi⟩ := hT
  exact wp_load_row ty x ho g hx t _ (0, 0) _ hg hu rfl (by rw [hi]; simp [us_length]) h
theorem step_store_us {ty n : Nat} (hT : ArrT ty n) {ops : Array Oper} {o : Oper} {a : Act} {w : World} {K : Act → World → Prop} {Q : Exit → Act → World → Prop} {E : Prop} (hgd : o.guard = none) (x y : Operand) (ho : o.op = .store ty x y)
    (g : Nat) (hx : a.eval x = .pointer (some ⟨g, 0, none⟩)) (f : Nat → Int) (hy : a.eval y = uv f n) (t : TypeId) (old : Nat → Int) (hg : Blk w g t (us old n))
    (h : ∀ w', Blk w' g t (us f n) → w.grownBy w' (some g) → K (a.put o.dst undef) w') :
    if Region.wanted o (yielded ops a.tmps) = true then Oper.wp Tryz.prog o a w K Q else E := by
  rw [if_pos (by simp [Region.wanted, hgd])]
  obtain ⟨⟨e, hu⟩, hi⟩ := hT
  exact wp_store_row ty x y ho g _ hx hy t _ hg (by rw [hi]; simp [us_length]) (by simp [us_length]) (us_all f n) (h _ (setRow_blk hg _) (setRow_grown _))
theorem arrIn_load {F : Fence} {m : Nat} {ty n : Nat} (hT : ArrT ty n) {ops : Array Oper} {rest : List Oper} {o : Oper} {a : Act} {w : World} {Q : Exit → Act → World → Prop} (hgd : o.guard = none) (x : Operand) (ho : o.op = .load ty x)
    (g : Nat) (hx : a.eval x = .pointer (some ⟨g, 0, none⟩)) (t : TypeId) (f : Nat → Int) (hg : Blk w g t (us f n))
    (h : wpListIn F m Tryz.prog ops Q rest (a.put o.dst (uv f n)) w) : wpListIn F m Tryz.prog ops Q (o :: rest) a w := by
  refine wpListIn_plain hgd fun K hK' => ?_
  unfold Oper.wpIn
  refine ⟨?_, ?_⟩
  · simp [Oper.about, ho]
  · rw [Oper.semAt_plain F _ _ (by rw [ho]; intro c hc'; cases hc')]
    unfold execOp
    simp only [ho, hx, Instr.loadAt, Instr.sureAddr, Sem.run_bind, Sem.run_pure, Result.andThen_ok, run_load_us hT w g t f hg]
    exact hK' _ _ h
theorem arrIn_store {F : Fence} {m : Nat} {ty n : Nat} (hT : ArrT ty n) {ops : Array Oper} {rest : List Oper} {o : Oper} {a : Act} {w : World} {Q : Exit → Act → World → Prop} (hgd : o.guard = none) (x y : Operand) (ho : o.op = .store ty x y)
    (g : Nat) (hx : a.eval x = .pointer (some ⟨g, 0, none⟩)) (f : Nat → Int) (hy : a.eval y = uv f n) (t : TypeId) (old : Nat → Int) (hg : Blk w g t (us old n))
    (h : ∀ w', Blk w' g t (us f n) → w.grownBy w' (some g) → wpListIn F m Tryz.prog ops Q rest (a.put o.dst undef) w') : wpListIn F m Tryz.prog ops Q (o :: rest) a w := by
  obtain ⟨⟨e, hu⟩, hi⟩ := hT
  refine wpListIn_plain hgd fun K hK' => ?_
  unfold Oper.wpIn
  refine ⟨?_, ?_⟩
  · simp [Oper.about, ho]
  · rw [Oper.semAt_plain F _ _ (by rw [ho]; intro c hc'; cases hc')]
    unfold execOp
    simp only [ho, hx, hy, Instr.storeAt, Instr.sureAddr, Sem.run_bind, Sem.run_pure, Result.andThen_ok, run_storeVar_row (P := Tryz.prog) w g t ty (us old n).toArray (us f n).toArray hg (by rw [hi]; simp [us_length]) (by simp [us_length]) (us_all f n)]
    exact hK' _ _ (h _ (setRow_blk hg _) (setRow_grown _))
end Go.Proofs.YtbhfajnejibaoaaGreat
namespace Go.Proofs.YtbhfajnejibaoaaGreat
open Go.RowKit Go.Shelf
attribute [local go_sem] Oper.semAt_some
abbrev CP (L : Nat) := { p : Nat × Nat // p.1 + p.2 ≤ L }
abbrev cpEnc {L : Nat} (b off : Nat) (p : CP L) : Array Value := #[.slice (some ⟨b, off + p.1.1, none⟩) p.1.2 p.1.2]
def chn (L s k : Nat) : CP L := ⟨(min (k * s) L, min s (L - min (k * s) L)), by dsimp only; omega⟩
def chc (L s : Nat) : Nat := (L + s - 1) / s
def chs (L s : Nat) : List (CP L) := (List.range (chc L s)).map (chn L s)
theorem chs_length (L s : Nat) : (chs L s).length = chc L s := by simp [chs]
theorem chs_at {L s k : Nat} (h : k < chc L s) : (chs L s)[k]? = some (chn L s k) := by unfold chs; rw [List.getElem?_map, List.getElem?_range h]; rfl
theorem chc_lt {L s k : Nat} (hs : 1 ≤ s) : k < chc L s ↔ k * s < L := by
  unfold chc
  rw [Nat.lt_iff_add_one_le, Nat.le_div_iff_mul_le (by omega), Nat.add_mul]
  omega
theorem chn_of {L s k : Nat} (h : k * s < L) : chn L s k = ⟨(k * s, min s (L - k * s)), by dsimp only; omega⟩ := by
  unfold chn
  apply Subtype.ext
  dsimp only
  rw [Nat.min_eq_left (Nat.le_of_lt h)]
set_option maxRecDepth 100000 in
set_option maxHeartbeats 4000000 in
theorem chunk1_in (F : Fence) (m : Nat) (h : F.fn 141) (hro : F.round = none) (hm : 1 ≤ m) (l Bs Bn b off cap L s : Nat) (hL : L ≤ 140737488354000) (hcap : L ≤ cap) (hcap' : cap ≤ 9223372036854775807) (hs : 1 ≤ s) (hs' : s ≤ 9223372036854775807) (J Jx : Nat → World → Prop) (W : World) (hJ : ∀ k W, J k W → J k W.drew)
    (hY : ∀ k W1, J k W1 → k < chc L s → YieldAt F (m - 1) Tryz.prog l (cpEnc b off (chn L s k)) W1 fun e W' =>
      (e = .returned (.bool true) ∧ J (k + 1) W' ∧ KeepB2 Bs Bn W1 W') ∨ (e = .returned (.bool false) ∧ Jx (k + 1) W'))
    (k1 : Boxed W Bs 58 (.slice (some ⟨b, off, none⟩) L cap)) (k2 : Boxed W Bn 3 (.int .i64 (s : Nat))) (h0 : J 0 W) :
    CallsIn F m Tryz.prog 141 #[.func (.yield l) #[] #[], .pointer (some ⟨Bs, 0, none⟩), .pointer (some ⟨Bn, 0, none⟩)] W fun e W' => (∃ v, e = .returned v) ∧
      (J (chc L s) W' ∨ (∃ k, k ≤ chc L s ∧ Jx k W')) := by
  refine callsIn_of_wp Tryz.func141 rfl h ?_ hro
  simp only [Tryz.ntmps141, List.size_toArray, List.length_cons, List.length_nil, Nat.reduceAdd, Nat.reduceSub, Array.replicate_succ, Array.replicate_zero, List.push_toArray, List.append_toArray, List.nil_append, List.cons_append]
  have hcL : (L : Int) ≤ (cap : Int) := by omega
  have hcI : (cap : Int) ≤ 9223372036854775807 := by omega
  gi_wp2
  gi_loopw [4] (fun i wr => ∃ k : Nat, k ≤ chc L s ∧ i = .int .i64 ((k * s : Nat) : Int) ∧ J k wr ∧ Boxed wr Bs 58 (.slice (some ⟨b, off, none⟩) L cap) ∧ Boxed wr Bn 3 (.int .i64 (s : Nat))) (fun i _ => L - (intOf i).toNat)
  case atStart => exact ⟨0, Nat.zero_le _, by rw [Nat.zero_mul]; rfl, h0, k1, k2⟩
  case round =>
    obtain ⟨k, hk, rfl, hJs, k1, k2⟩ := hrel
    have c1 := k1.cell
    have c2 := k2.cell
    by_cases hlt : k < chc L s
    · have hkL : k * s < L := (chc_lt hs).1 hlt
      obtain ⟨fn, tmps, assign, body, hy, hR⟩ := hY k wr.drew (hJ _ wr hJs) hlt
      rw [chn_of hkL] at hy
      change (Instr.yield l #[.slice (some ⟨b, off + k * s, none⟩) (min s (L - k * s)) (min s (L - k * s))]).run _ _ = _ at hy
      have hks : k * s + s ≤ 9223372036854775807 := by
        rcases Nat.eq_zero_or_pos k with h0 | h0
        · subst h0; omega
        · have := Nat.le_mul_of_pos_left s h0; omega
      have hnx : (k + 1) * s = k * s + s := Nat.succ_mul k s
      have HN := Lib.hid hnx
      clear hnx
      have HK : Hid (k + 1 ≤ chc L s) := Lib.hid hlt
      clear hlt
      generalize k * s = i at *
      have hi : (i : Int) < (L : Int) := by omega
      have his : (i : Int) + (s : Int) ≤ 9223372036854775807 := by omega
      have hne : ¬ cap = i := by omega
      have hiL : i ≤ L := by omega
      have hE : (if L - i < s then ((L - i : Nat) : Int) else (s : Int)) = ((min s (L - i) : Nat) : Int) := by split <;> omega
      have he0 : 0 < min s (L - i) := by omega
      have heL : i + min s (L - i) ≤ L := by omega
      have HE := Lib.hid hE
      clear hE
      generalize min s (L - i) = e at *
      have hie : (i : Int) + (e : Int) ≤ (L : Int) := by omega
      gi_wp2_with fail
      gi_region
      all_goals
        rw [HE.out]
        clear HE
        gi_wp2
        refine hR.mono ?_
        clear hy
        rintro e' W3 (⟨rfl, hJ3, hk3⟩ | ⟨rfl, hJx3⟩)
        · have q1 : Boxed W3 Bs 58 (.slice (some ⟨b, off, none⟩) L cap) := hk3.1.trans k1
          have q2 : Boxed W3 Bn 3 (.int .i64 (s : Nat)) := hk3.2.trans k2
          have d1 := q1.cell
          have d2 := q2.cell
          clear c1 c2
          gi_wp2
          have hq : (i : Int) + (s : Int) = (((k + 1) * s : Nat) : Int) := by rw [HN.out]; omega
          go_roundw
          case rel => exact ⟨k + 1, HK.out, by rw [hq], hJ3, q1, q2⟩
          case measure => simp [intOf]; omega
        · gi_wp2
          refine bodyPost_ret (results_none rfl _ _ _) rfl ?_
          exact ⟨⟨_, rfl⟩, .inr ⟨_, HK.out, hJx3⟩⟩
    · have hkL : ¬ k * s < L := fun e => hlt ((chc_lt hs).2 e)
      obtain rfl : k = chc L s := by omega
      clear hlt
      generalize chc L s * s = i at *
      have hkL' : ¬ (i : Int) < (L : Int) := by omega
      gi_wp2
      go_end0
      exact ⟨⟨_, rfl⟩, .inl hJs⟩
set_option maxHeartbeats 1000000 in
theorem chunk_in (F : Fence) (m : Nat) (h5 : F.fn 136) (hro : F.round = none) (a : Option Addr) (len cap : Nat) (z : Int) (hs : 1 ≤ z) (w : World) :
    CallsIn F m Tryz.prog 136 #[.slice a len cap, .int .i64 z] w fun e w' => e = .returned (.func (.func 141) #[] #[.pointer (some ⟨w.heap.size, 0, none⟩), .pointer (some ⟨w.heap.size + 1, 0, none⟩)]) ∧ w' = (w.alloc (.cells #[.slice a len cap] 58)).alloc (.cells #[.int .i64 z] 3) := by
  have hs0 : ¬ z < 1 := by omega
  refine callsIn_of_wp Tryz.func136 rfl h5 ?_ hro
  simp only [Tryz.ntmps136, List.size_toArray, List.length_cons, List.length_nil, Nat.reduceAdd, Nat.reduceSub, Array.replicate_succ, Array.replicate_zero, List.push_toArray, List.append_toArray, List.nil_append, List.cons_append]
  gi_wp2
  go_ret
  exact ⟨rfl, rfl⟩
end Go.Proofs.YtbhfajnejibaoaaGreat
namespace Go.Proofs.YtbhfajnejibaoaaGreat
open Go.RowKit Go.Shelf
attribute [local go_sem] Oper.semAt_some
set_option maxRecDepth 100000 in
set_option maxHeartbeats 4000000 in
theorem valuesB1_in (F : Fence) (n : Nat) (h7 : F.fn 140) (hro : F.round = none) (hn : 1 ≤ n) (l Bs n₀ b off cap : Nat) (zs : List UInt8) (hreach : zs.length ≤ 140737488351232) (hb : b < n₀) (J Jx : List UInt8 → World → Prop)
    (W : World)
    (hY : ∀ pre x W, J pre W → pre.length < zs.length → YieldAt F (n - 1) Tryz.prog l #[bv x] W fun e W' =>
      (e = .returned (.bool true) ∧ J (pre ++ [x]) W' ∧ Below n₀ W W') ∨ (e = .returned (.bool false) ∧ Jx (pre ++ [x]) W'))
    (hBs : W.cell? ⟨Bs, 0, none⟩ = some (.slice (some ⟨b, off, none⟩) zs.length cap)) (hc : Octs W b off zs) (h0 : J [] W) :
    CallsIn F n Tryz.prog 140 #[.func (.yield l) #[] #[], .pointer (some ⟨Bs, 0, none⟩)] W fun e W' => (∃ v, e = .returned v) ∧
      ((∃ ys, ys = zs ∧ J ys W') ∨ (∃ pre, True ∧ Jx pre W')) := by
  refine callsIn_of_wp Tryz.func140 rfl h7 ?_ hro
  simp only [Tryz.ntmps140, List.size_toArray, List.length_cons, List.length_nil, Nat.reduceAdd, Nat.reduceSub, Array.replicate_succ, Array.replicate_zero, List.push_toArray, List.append_toArray, List.nil_append, List.cons_append]
  gi_wp2
  gi_loopw [7] (fun i wr => ∃ k : Nat, k ≤ zs.length ∧ i = .int .i64 k ∧ J (zs.take k) wr ∧ Below n₀ W wr) (fun i _ => zs.length - (intOf i).toNat)
  case atStart => exact ⟨0, Nat.zero_le _, rfl, h0, Below.refl _ _⟩
  case round =>
    obtain ⟨k, hk, rfl, hJs, hnx⟩ := hrel
    by_cases hlt : k < zs.length
    · obtain ⟨x, hx⟩ : ∃ x, zs[k]? = some x := ⟨_, List.getElem?_eq_getElem hlt⟩
      have c0 := (hc.below hnx hb) k x hx
      have hk0 : (k : Int) < (zs.length : Int) := by omega
      obtain ⟨fn, tmps, assign, body, hy, hR⟩ := hY (zs.take k) x wr hJs (by simp; omega)
      have ht : zs.take (k + 1) = zs.take k ++ [x] := by rw [List.take_add_one, hx]; rfl
      rw [← ht] at hR
      clear ht
      have HX := Lib.hid hx
      clear hx
      generalize hL : zs.length = len at *
      have HL := Lib.hid hL
      clear hL
      gi_wp2
      refine hR.mono ?_
      rintro e W3 (⟨rfl, hJ3, hk3⟩ | ⟨rfl, hJx3⟩)
      · gi_wp2
        go_roundw
        case rel => exact ⟨k + 1, by omega, by simp, hJ3, hnx.trans hk3⟩
        case measure => simp [intOf]; omega
      · gi_wp2
        refine bodyPost_ret (results_none rfl _ _ _) rfl ?_
        exact ⟨⟨_, rfl⟩, .inr ⟨_, trivial, hJx3⟩⟩
    · obtain rfl : k = zs.length := by omega
      gi_wp2
      go_end0
      rw [List.take_length] at hJs
      exact ⟨⟨_, rfl⟩, .inl ⟨_, rfl, hJs⟩⟩
set_option maxRecDepth 100000 in
set_option maxHeartbeats 1000000 in
theorem valuesB1_nil_in (F : Fence) (n : Nat) (h7 : F.fn 140) (hro : F.round = none) (l Bs : Nat) (a : Option Addr) (cap : Nat) (J : List UInt8 → World → Prop) (W : World) (hBs : W.cell? ⟨Bs, 0, none⟩ = some (.slice a 0 cap)) (h0 : J [] W) :
    CallsIn F n Tryz.prog 140 #[.func (.yield l) #[] #[], .pointer (some ⟨Bs, 0, none⟩)] W fun e W' => (∃ v, e = .returned v) ∧ J [] W' := by
  refine callsIn_of_wp Tryz.func140 rfl h7 ?_ hro
  simp only [Tryz.ntmps140, List.size_toArray, List.length_cons, List.length_nil, Nat.reduceAdd, Nat.reduceSub, Array.replicate_succ, Array.replicate_zero, List.push_toArray, List.append_toArray, List.nil_append, List.cons_append]
  gi_wp2
  gi_loopw [7] (fun i wr => i = .int .i64 0 ∧ J [] wr) (fun _ _ => 0)
  case atStart => exact ⟨rfl, h0⟩
  case round =>
    obtain ⟨rfl, hJs⟩ := hrel
    gi_wp2
    go_end0
    exact ⟨⟨_, rfl⟩, hJs⟩
set_option maxHeartbeats 1000000 in
theorem valuesB_in (F : Fence) (n : Nat) (h5 : F.fn 130) (hro : F.round = none) (a : Option Addr) (len cap : Nat) (w : World) :
    CallsIn F n Tryz.prog 130 #[.slice a len cap] w fun e w' => e = .returned (.func (.func 140) #[] #[.pointer (some ⟨w.heap.size, 0, none⟩)]) ∧ w' = w.alloc (.cells #[.slice a len cap] 58) := by
  refine callsIn_of_wp Tryz.func130 rfl h5 ?_ hro
  simp only [Tryz.ntmps130, List.size_toArray, List.length_cons, List.length_nil, Nat.reduceAdd, Nat.reduceSub, Array.replicate_succ, Array.replicate_zero, List.push_toArray, List.append_toArray, List.nil_append, List.cons_append]
  gi_wp2
  go_ret
  exact ⟨rfl, rfl⟩
theorem valuesB_stops (F : Fence) (n : Nat) (h7 : F.fn 140) (hro : F.round = none) (hn : 1 ≤ n) (Bs n₀ : Nat) (sv : Value) (zs : List UInt8) (hreach : zs.length ≤ 140737488351232) (w : World) (hn₀ : n₀ ≤ w.heap.size)
    (hk : Boxed w Bs 58 sv) (hI : BSl 0 n₀ w sv zs) :
    SeqStopsK F n Tryz.prog 140 #[.pointer (some ⟨Bs, 0, none⟩)] (fun x => #[bv x]) (Below n₀) (fun ys => ys = zs) (fun _ => True) zs.length w := fun l J Jx W hW hJ _ hY h0 => by
  have hc' := (hW.cell (p := ⟨Bs, 0, none⟩) hk.lt).trans hk.cell
  obtain ⟨a, cap, rfl, hcap, rfl | ⟨b, off, rfl, _, hb, hcs⟩⟩ := hI.below hW hn₀
  · exact (valuesB1_nil_in F n h7 hro l Bs a cap J W hc' h0).mono fun e W' ⟨he, hj⟩ => ⟨he, .inl ⟨_, rfl, hj⟩⟩
  · exact valuesB1_in F n h7 hro hn l Bs n₀ b off cap zs hreach hb J Jx W hY hc' hcs h0
end Go.Proofs.YtbhfajnejibaoaaGreat
