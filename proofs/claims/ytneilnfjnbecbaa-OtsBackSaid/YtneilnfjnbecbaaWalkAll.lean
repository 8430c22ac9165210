/-
  ots.walkAll: each part, walked as many steps as are told of its place.
-/
import Derived.Test.YtneilnfjnbecbaaBegin
import Derived.Test.YtneilnfjnbecbaaChain
import Derived.Test.YtneilnfjnbecbaaAllT
import Derived.Test.YtneilnfjnbecbaaRound
import Derived.Outline
namespace Go.Proofs.Ytneilnfjnbecbaa
open Go.RowKit Go.Shelf
attribute [local go_sem] Oper.semAt_some

/-- The parts, walked. -/
def walked (zs : List ByteArray) (d : Nat → Int) : List ByteArray := zs.mapIdx fun k x => linkB x (stp (d k))
theorem walked_length (zs : List ByteArray) (d : Nat → Int) : (walked zs d).length = zs.length := by simp [walked]
theorem walked_at {zs : List ByteArray} (d : Nat → Int) {k : Nat} {x : ByteArray} (h : zs[k]? = some x) : (walked zs d)[k]? = some (linkB x (stp (d k))) := by
  unfold walked
  rw [List.getElem?_mapIdx, h]; rfl

/-- Between two rounds. -/
def WallI (n₀ B Bf : Nat) (fv : Value) (ys : List Value) (w : World) (k : Nat) (W : World) : Prop :=
  ((∃ v, Boxed W B 29 v ∧ W.ownsRow n₀ 9 1 v k (ys.take k) ∧ True) ∧ Boxed W Bf 54 fv) ∧ Below n₀ w W
theorem wallI_own {n₀ Bb Bf : Nat} {fv : Value} {ys : List Value} {w : World} {B : Nat} (h : n₀ ≤ w.heap.size) (hB : n₀ ≤ B) : OwnFrom B (WallI n₀ Bb Bf fv ys w) :=
  OwnFrom.and (OwnFrom.and (Own.from (holdsRow_own n₀ Bb 29 9 1 (fun j : Nat => j) (fun j => ys.take j) (fun _ _ => True)) _)
    (Own.from (fun _ X Y row hs hg hr => blk_own Bf 54 (fun (_ : Unit) => [fv]) () X Y row hs hg hr) _)) (ownFrom_below h hB)

set_option maxRecDepth 100000 in
set_option maxHeartbeats 8000000 in
theorem walkAll_in (m : Nat) (hm : 3 ≤ m) (zs : List ByteArray) (hn : zs.length ≤ 1000000) (hz : ∀ x ∈ zs, x.size ≤ 140737488353000) (d : Nat → Int) (sv : Value) (w : World) (hsv : VSl 0 w.heap.size w sv (zs.map tv))
    (fid : Nat) (lb : Array Value) (eg : ∀ args w, (callFunc fid args).run Try.prog w = .ok (.enter fid args) w)
    (hst : ∀ k W, k < zs.length → Below w.heap.size w W → Calls Try.prog fid (#[.int .i64 (k : Int)] ++ lb) W fun e W' => e = .returned (.int .i64 (d k)) ∧ Below W.heap.size W W') :
    CallsIn Fence.wide m Try.prog 36 #[sv, .func (.func fid) #[] lb] w (RowW w.heap.size 9 zs.length ((walked zs d).map tv) w) := by
  have h1 : 1 ≤ m := by omega
  have hmx : Try.prog.follows .mixedOrders = true := by kernel_rfl
  have hsv0 := hsv
  obtain ⟨a, cap, rfl⟩ := hsv.slice
  rw [List.length_map] at hsv0 ⊢
  clear hsv
  refine callsIn_of_wp_marks Try.func36 rfl trivial ?_ rfl
  simp only [Try.ntmps36, List.size_toArray, List.length_cons, List.length_nil, Nat.reduceAdd, Nat.reduceSub, Array.replicate_succ, Array.replicate_zero, List.push_toArray, List.append_toArray, List.nil_append, List.cons_append]
  obtain ⟨i0, hi, hz0, hz1, hz2⟩ := info_parts Try.infoStr
  gi_wp2_with (refine ⟨trivial, ?_⟩; gi_at_call 56; refine (allT_in Fence.wide (m - 1) trivial rfl _ _ _ _).mono ?_; rintro e w' ⟨rfl, rfl⟩)
  generalize hW5 : World.alloc _ _ = W5
  have kf : Boxed W5 w.heap.size 54 (.func (.func fid) #[] lb) := by rw [← hW5]; exact ((Boxed.new _ _ _).alloc _).alloc _
  have k0 : Boxed W5 (w.heap.size + 1) 29 (.slice none 0 0) := by rw [← hW5]; exact (Blk.new' (vs := [.slice none 0 0]) (by simp)).alloc _
  have k2 : Boxed W5 (w.heap.size + 1 + 1) 29 (.slice a zs.length cap) := by rw [← hW5]; exact Blk.new' (vs := [_]) (by simp)
  have hB0 : Below w.heap.size w W5 := by rw [← hW5]; exact chainA (chainA (chain0 _ _) _) _
  have hz5 : W5.heap.size = w.heap.size + 3 := by rw [← hW5]; simp
  clear hW5
  refine wpIn_rangeFunc_relA (encs := fun y : Nat × ByteArray => #[.int .i64 (y.1 : Int), tv y.2]) (R := fun k y _ => y.1 = k ∧ zs[k]? = some y.2) rfl h1 (gf := 71) (lb := #[.pointer (some ⟨w.heap.size + 1 + 1, 0, none⟩)]) rfl trivial (enters_of Try.func71 (by kernel_rfl) rfl)
    (allT_rel (m - 1) (by omega) (w.heap.size + 1 + 1) w.heap.size _ zs (by omega) W5 (by omega) k2 (hsv0.below hB0 (Nat.le_refl _))) (fun h k => h.trans k) (fun X o o' h2 h3 h4 => belowK_b (w := w) (Nat.le_refl _) _ _ o o' (by omega) h2 h3 h4) (fun X => Below.refl _ X) (Below.refl _ _) (fun _ => rfl)
    (WallI w.heap.size (w.heap.size + 1) w.heap.size (.func (.func fid) #[] lb) ((walked zs d).map tv) w) (wallI_own (Nat.le_refl _) (by omega))
    ⟨⟨⟨_, k0, World.ownsRow_nil _ _ _ _, trivial⟩, kf⟩, hB0⟩ (fun _ _ _ _ _ _ h _ _ => h) ?_ ?_ ?_ ?_
  rotate_left
  · intro l k y W K hr hK
    clear hr
    gi_wp2
    exact hK
  · rintro l k' ⟨k, x⟩ W hlt ⟨⟨⟨v, kv, hown, _⟩, kf⟩, hB⟩ ⟨hy1, hx⟩
    dsimp only at hy1 hx
    subst hy1
    have ht : ((walked zs d).map tv).take (k + 1) = ((walked zs d).map tv).take k ++ [tv (linkB x (stp (d k)))] := by rw [List.take_add_one, List.getElem?_map, walked_at d hx]; rfl
    have HT := Lib.hid ht
    have hxs := hz x (List.mem_of_getElem? hx)
    have HL := Lib.hid hlt
    clear ht hx hlt
    generalize ((walked zs d).map tv).take k = ts at *
    obtain ⟨va, vc, rfl⟩ := ownsRow_slice hown
    have HZ5 := Lib.hid hz5
    clear hz5 k0 k2
    gi_wp2_with fail
    refine wpIn_round_any hmx (by kernel_rfl) ?_
    change wpAny _ _ _ _ _ _ _ W.drew
    have hWd : Below W.heap.size W W.drew := (Below.refl _ W).drew
    replace kv : Boxed W.drew (w.heap.size + 1) 29 (.slice va k vc) := kv
    replace kf : Boxed W.drew w.heap.size 54 (.func (.func fid) #[] lb) := kf
    replace hown : W.drew.ownsRow w.heap.size 9 1 (.slice va k vc) k ts := hown
    generalize W.drew = Y at *
    refine' wpAny_take (i := 1) (oi := _) (v := _) ?hi1 (by kernel_rfl) (by kernel_rfl) (by kernel_rfl) ?hQ1 (Or.inl ⟨?hw1, ?hy1⟩) ?rest1
    case hi1 => simp only [List.getElem?_toArray, List.getElem?_cons_succ, List.getElem?_cons_zero]; rfl
    case hQ1 => exact fun _ _ _ h => h
    case hw1 => rfl
    case hy1 => intro W'; go_simp; with_reducible rfl
    try simp only [Act.put, List.setIfInBounds_toArray, List.set_cons_zero, List.set_cons_succ]
    refine' wpAny_take (i := 3) (oi := _) (v := _) ?hi2 (by kernel_rfl) (by kernel_rfl) (by kernel_rfl) ?hQ2 (Or.inl ⟨?hw2, ?hy2⟩) ?rest2
    case hi2 => simp only [List.getElem?_toArray, List.getElem?_cons_succ, List.getElem?_cons_zero]; rfl
    case hQ2 => exact fun _ _ _ h => h
    case hw2 => rfl
    case hy2 => intro W'; go_simp; with_reducible rfl
    try simp only [Act.put, List.setIfInBounds_toArray, List.set_cons_zero, List.set_cons_succ]
    refine wpAny_ready (rs := [0, 2]) (by kernel_rfl) (by simp) ?_
    refine' AllReady.cons (o := _) ?ho4 (fun K hK => ?st4) (AllReady.cons (o := _) ?ho3 (fun K hK => ?st3) AllReady.nil)
    case ho4 => simp only [List.getElem?_toArray, List.getElem?_cons_zero]; rfl
    case ho3 => simp only [List.getElem?_toArray, List.getElem?_cons_succ, List.getElem?_cons_zero]; rfl
    case st4 =>
      have cs := kv.cell
      go_simp
      clear cs
      refine hK _ _ ?_
      clear hK K
      try simp only [Act.put, List.setIfInBounds_toArray, List.set_cons_zero, List.set_cons_succ]
      refine wpAny_ready (rs := [2]) (by kernel_rfl) (by simp) ?_
      refine' AllReady.cons (o := _) ?ho5 (fun K hK => ?st5) AllReady.nil
      case ho5 => simp only [List.getElem?_toArray, List.getElem?_cons_succ, List.getElem?_cons_zero]; rfl
      case st5 =>
        have cs := kf.cell
        go_simp
        clear cs
        refine hK _ _ ?_
        clear hK K
        try simp only [Act.put, List.setIfInBounds_toArray, List.set_cons_zero, List.set_cons_succ]
        refine wpAny_ready (rs := [4]) (by kernel_rfl) (by simp) ?_
        refine' AllReady.cons (o := _) ?ho6 (fun K hK => ?st6) AllReady.nil
        case ho6 => simp only [List.getElem?_toArray, List.getElem?_cons_succ, List.getElem?_cons_zero]; rfl
        case st6 =>
          go_simp
          refine (hst k Y HL.out (hB.trans (hWd.mono hB.size))).mono ?_
          rintro e Y1 ⟨rfl, hb⟩
          refine hK _ _ ?_
          clear hK K
          try simp only [Act.put, List.setIfInBounds_toArray, List.set_cons_zero, List.set_cons_succ]
          replace hWd := chain hWd hb
          replace kv : Boxed Y1 (w.heap.size + 1) 29 (.slice va k vc) := (hb.block _ kv.lt).trans kv
          replace kf : Boxed Y1 w.heap.size 54 (.func (.func fid) #[] lb) := (hb.block _ kf.lt).trans kf
          replace hown := own_below4 hown hb
          clear hb
          refine wpAny_ready (rs := [5]) (by kernel_rfl) (by simp) ?_
          refine' AllReady.cons (o := _) ?ho7 (fun K hK => ?st7) AllReady.nil
          case ho7 => simp only [List.getElem?_toArray, List.getElem?_cons_succ, List.getElem?_cons_zero]; rfl
          case st7 =>
            go_simp
            refine (walk_any x hxs (d k) _).mono ?_
            rintro e Y2 ⟨rfl, hb⟩
            refine hK _ _ ?_
            clear hK K
            try simp only [Act.put, List.setIfInBounds_toArray, List.set_cons_zero, List.set_cons_succ]
            replace hWd := chain hWd hb
            replace kv : Boxed Y2 (w.heap.size + 1) 29 (.slice va k vc) := (hb.block _ kv.lt).trans kv
            replace kf : Boxed Y2 w.heap.size 54 (.func (.func fid) #[] lb) := (hb.block _ kf.lt).trans kf
            replace hown := own_below4 hown hb
            clear hb
            refine wpAny_ready (rs := [6]) (by kernel_rfl) (by simp) ?_
            refine' AllReady.cons (o := _) ?ho8 (fun K hK => ?st8) AllReady.nil
            case ho8 => simp only [List.getElem?_toArray, List.getElem?_cons_succ, List.getElem?_cons_zero]; rfl
            case st8 =>
              go_simp
              refine hK _ _ ?_
              clear hK K
              try simp only [Act.put, List.setIfInBounds_toArray, List.set_cons_zero, List.set_cons_succ]
              have kt := cell_one_new Y2 (tv (linkB x (stp (d k)))) 9
              have hb : Below Y2.heap.size Y2 (Y2.alloc (.cells #[tv (linkB x (stp (d k)))] 9)) := chain0 _ _
              replace hWd := chain hWd hb
              replace kv : Boxed (Y2.alloc (.cells #[tv (linkB x (stp (d k)))] 9)) (w.heap.size + 1) 29 (.slice va k vc) := (hb.block _ kv.lt).trans kv
              replace kf : Boxed (Y2.alloc (.cells #[tv (linkB x (stp (d k)))] 9)) w.heap.size 54 (.func (.func fid) #[] lb) := (hb.block _ kf.lt).trans kf
              replace hown := own_below4 hown hb
              clear hb
              generalize (Y2.alloc (.cells #[tv (linkB x (stp (d k)))] 9)) = Y3 at *
              generalize Y2.heap.size = gt at *
              refine wpAny_ready (rs := [7]) (by kernel_rfl) (by simp) ?_
              refine' AllReady.cons (o := _) ?ho9 (fun K hK => ?st9) AllReady.nil
              case ho9 => simp only [List.getElem?_toArray, List.getElem?_cons_succ, List.getElem?_cons_zero]; rfl
              case st9 =>
                have hsz := hWd.size
                have hNW := Nat.le_trans hB.size hsz
                refine step_append_lies _ rfl (.tmp 12) (.tmp 18) 29 rfl w.heap.size 9 i0 (.string ⟨#[]⟩) 1 16 Try.underlying29 hi hz0 hz1 hz2 rfl (by decide) (.slice va k vc) k ts rfl hown ⟨gt, 0, none⟩ 1 1 [tv (linkB x (stp (d k)))] rfl rfl kt (by simp [Value.oneCell']) (by decide) (by have := HL.out; unfold maxLen; omega) (by have := HL.out; omega) hNW _ rfl ?_
                intro g c w1 hown' hgrow _ _
                refine hK _ _ ?_
                clear hK K
                try simp only [Act.put, List.setIfInBounds_toArray, List.set_cons_zero, List.set_cons_succ]
                refine wpAny_ready (rs := [8]) (by kernel_rfl) (by simp) ?_
                refine' AllReady.cons (o := _) ?ho10 (fun K hK => ?st10) AllReady.nil
                case ho10 => simp only [List.getElem?_toArray, List.getElem?_cons_succ, List.getElem?_cons_zero]; rfl
                case st10 =>
                  have kv1 := kv.kept hgrow (kv.not_row (by decide) hown)
                  have ko1 := kv1.cell
                  have kf1 := kv1.frozen
                  go_simp
                  refine hK _ _ ?_
                  clear hK K
                  try simp only [Act.put, List.setIfInBounds_toArray, List.set_cons_zero, List.set_cons_succ]
                  refine wpAny_done (by kernel_rfl) ?_ _
                  have hsp : Spares 9 Y3 w1 := (Spares.of_below (Below.refl _ Y3)).grown hgrow (fun r e => .inr (ownsRow_block hown r e))
                  have hrow3 := hown'.kept (grownBy_setCell' w1 (w.heap.size + 1) (.slice (some ⟨g, 0, none⟩) (k + 1) c)) (.inr (kv1.not_row (by decide) hown').symm)
                  have hbw := (((hWd.mono hB.size).trans ((Below.refl w.heap.size Y3).grown hgrow hNW (fun j hj => (World.ownsRow.lt hown j hj).1)))).setCell (p := ⟨w.heap.size + 1, 0, none⟩) (Nat.le_succ _) (.slice (some ⟨g, 0, none⟩) (k + 1) c)
                  have hko := ((KeepsOthers.of_grownBy (grown_of_below hWd) (by simp)).trans hsp.others).trans (KeepsOthers.setCell w1 ⟨w.heap.size + 1, 0, none⟩ (.slice (some ⟨g, 0, none⟩) (k + 1) c))
                  have kf3 := (kf.kept hgrow (kf.not_row (by decide) hown)).kept (grownBy_setCell' w1 (w.heap.size + 1) (.slice (some ⟨g, 0, none⟩) (k + 1) c)) (by simp)
                  rw [← HT.out] at hrow3
                  exact ⟨hko.from _, hbw, ⟨⟨_, kv1.set _, hrow3, trivial⟩, kf3⟩, hB.trans hbw⟩
    case st3 =>
      have cs := kf.cell
      go_simp
      clear cs
      refine hK _ _ ?_
      clear hK K
      try simp only [Act.put, List.setIfInBounds_toArray, List.set_cons_zero, List.set_cons_succ]
      refine wpAny_ready (rs := [0, 4]) (by kernel_rfl) (by simp) ?_
      refine' AllReady.cons (o := _) ?ho12 (fun K hK => ?st12) (AllReady.cons (o := _) ?ho11 (fun K hK => ?st11) AllReady.nil)
      case ho12 => simp only [List.getElem?_toArray, List.getElem?_cons_zero]; rfl
      case ho11 => simp only [List.getElem?_toArray, List.getElem?_cons_succ, List.getElem?_cons_zero]; rfl
      case st12 =>
        have cs := kv.cell
        go_simp
        clear cs
        refine hK _ _ ?_
        clear hK K
        try simp only [Act.put, List.setIfInBounds_toArray, List.set_cons_zero, List.set_cons_succ]
        refine wpAny_ready (rs := [4]) (by kernel_rfl) (by simp) ?_
        refine' AllReady.cons (o := _) ?ho13 (fun K hK => ?st13) AllReady.nil
        case ho13 => simp only [List.getElem?_toArray, List.getElem?_cons_succ, List.getElem?_cons_zero]; rfl
        case st13 =>
          go_simp
          refine (hst k Y HL.out (hB.trans (hWd.mono hB.size))).mono ?_
          rintro e Y1 ⟨rfl, hb⟩
          refine hK _ _ ?_
          clear hK K
          try simp only [Act.put, List.setIfInBounds_toArray, List.set_cons_zero, List.set_cons_succ]
          replace hWd := chain hWd hb
          replace kv : Boxed Y1 (w.heap.size + 1) 29 (.slice va k vc) := (hb.block _ kv.lt).trans kv
          replace kf : Boxed Y1 w.heap.size 54 (.func (.func fid) #[] lb) := (hb.block _ kf.lt).trans kf
          replace hown := own_below4 hown hb
          clear hb
          refine wpAny_ready (rs := [5]) (by kernel_rfl) (by simp) ?_
          refine' AllReady.cons (o := _) ?ho14 (fun K hK => ?st14) AllReady.nil
          case ho14 => simp only [List.getElem?_toArray, List.getElem?_cons_succ, List.getElem?_cons_zero]; rfl
          case st14 =>
            go_simp
            refine (walk_any x hxs (d k) _).mono ?_
            rintro e Y2 ⟨rfl, hb⟩
            refine hK _ _ ?_
            clear hK K
            try simp only [Act.put, List.setIfInBounds_toArray, List.set_cons_zero, List.set_cons_succ]
            replace hWd := chain hWd hb
            replace kv : Boxed Y2 (w.heap.size + 1) 29 (.slice va k vc) := (hb.block _ kv.lt).trans kv
            replace kf : Boxed Y2 w.heap.size 54 (.func (.func fid) #[] lb) := (hb.block _ kf.lt).trans kf
            replace hown := own_below4 hown hb
            clear hb
            refine wpAny_ready (rs := [6]) (by kernel_rfl) (by simp) ?_
            refine' AllReady.cons (o := _) ?ho15 (fun K hK => ?st15) AllReady.nil
            case ho15 => simp only [List.getElem?_toArray, List.getElem?_cons_succ, List.getElem?_cons_zero]; rfl
            case st15 =>
              go_simp
              refine hK _ _ ?_
              clear hK K
              try simp only [Act.put, List.setIfInBounds_toArray, List.set_cons_zero, List.set_cons_succ]
              have kt := cell_one_new Y2 (tv (linkB x (stp (d k)))) 9
              have hb : Below Y2.heap.size Y2 (Y2.alloc (.cells #[tv (linkB x (stp (d k)))] 9)) := chain0 _ _
              replace hWd := chain hWd hb
              replace kv : Boxed (Y2.alloc (.cells #[tv (linkB x (stp (d k)))] 9)) (w.heap.size + 1) 29 (.slice va k vc) := (hb.block _ kv.lt).trans kv
              replace kf : Boxed (Y2.alloc (.cells #[tv (linkB x (stp (d k)))] 9)) w.heap.size 54 (.func (.func fid) #[] lb) := (hb.block _ kf.lt).trans kf
              replace hown := own_below4 hown hb
              clear hb
              generalize (Y2.alloc (.cells #[tv (linkB x (stp (d k)))] 9)) = Y3 at *
              generalize Y2.heap.size = gt at *
              refine wpAny_ready (rs := [7]) (by kernel_rfl) (by simp) ?_
              refine' AllReady.cons (o := _) ?ho16 (fun K hK => ?st16) AllReady.nil
              case ho16 => simp only [List.getElem?_toArray, List.getElem?_cons_succ, List.getElem?_cons_zero]; rfl
              case st16 =>
                have hsz := hWd.size
                have hNW := Nat.le_trans hB.size hsz
                refine step_append_lies _ rfl (.tmp 12) (.tmp 18) 29 rfl w.heap.size 9 i0 (.string ⟨#[]⟩) 1 16 Try.underlying29 hi hz0 hz1 hz2 rfl (by decide) (.slice va k vc) k ts rfl hown ⟨gt, 0, none⟩ 1 1 [tv (linkB x (stp (d k)))] rfl rfl kt (by simp [Value.oneCell']) (by decide) (by have := HL.out; unfold maxLen; omega) (by have := HL.out; omega) hNW _ rfl ?_
                intro g c w1 hown' hgrow _ _
                refine hK _ _ ?_
                clear hK K
                try simp only [Act.put, List.setIfInBounds_toArray, List.set_cons_zero, List.set_cons_succ]
                refine wpAny_ready (rs := [8]) (by kernel_rfl) (by simp) ?_
                refine' AllReady.cons (o := _) ?ho17 (fun K hK => ?st17) AllReady.nil
                case ho17 => simp only [List.getElem?_toArray, List.getElem?_cons_succ, List.getElem?_cons_zero]; rfl
                case st17 =>
                  have kv1 := kv.kept hgrow (kv.not_row (by decide) hown)
                  have ko1 := kv1.cell
                  have kf1 := kv1.frozen
                  go_simp
                  refine hK _ _ ?_
                  clear hK K
                  try simp only [Act.put, List.setIfInBounds_toArray, List.set_cons_zero, List.set_cons_succ]
                  refine wpAny_done (by kernel_rfl) ?_ _
                  have hsp : Spares 9 Y3 w1 := (Spares.of_below (Below.refl _ Y3)).grown hgrow (fun r e => .inr (ownsRow_block hown r e))
                  have hrow3 := hown'.kept (grownBy_setCell' w1 (w.heap.size + 1) (.slice (some ⟨g, 0, none⟩) (k + 1) c)) (.inr (kv1.not_row (by decide) hown').symm)
                  have hbw := (((hWd.mono hB.size).trans ((Below.refl w.heap.size Y3).grown hgrow hNW (fun j hj => (World.ownsRow.lt hown j hj).1)))).setCell (p := ⟨w.heap.size + 1, 0, none⟩) (Nat.le_succ _) (.slice (some ⟨g, 0, none⟩) (k + 1) c)
                  have hko := ((KeepsOthers.of_grownBy (grown_of_below hWd) (by simp)).trans hsp.others).trans (KeepsOthers.setCell w1 ⟨w.heap.size + 1, 0, none⟩ (.slice (some ⟨g, 0, none⟩) (k + 1) c))
                  have kf3 := (kf.kept hgrow (kf.not_row (by decide) hown)).kept (grownBy_setCell' w1 (w.heap.size + 1) (.slice (some ⟨g, 0, none⟩) (k + 1) c)) (by simp)
                  rw [← HT.out] at hrow3
                  exact ⟨hko.from _, hbw, ⟨⟨_, kv1.set _, hrow3, trivial⟩, kf3⟩, hB.trans hbw⟩
      case st11 =>
        go_simp
        refine (hst k Y HL.out (hB.trans (hWd.mono hB.size))).mono ?_
        rintro e Y1 ⟨rfl, hb⟩
        refine hK _ _ ?_
        clear hK K
        try simp only [Act.put, List.setIfInBounds_toArray, List.set_cons_zero, List.set_cons_succ]
        replace hWd := chain hWd hb
        replace kv : Boxed Y1 (w.heap.size + 1) 29 (.slice va k vc) := (hb.block _ kv.lt).trans kv
        replace kf : Boxed Y1 w.heap.size 54 (.func (.func fid) #[] lb) := (hb.block _ kf.lt).trans kf
        replace hown := own_below4 hown hb
        clear hb
        refine wpAny_ready (rs := [0, 5]) (by kernel_rfl) (by simp) ?_
        refine' AllReady.cons (o := _) ?ho19 (fun K hK => ?st19) (AllReady.cons (o := _) ?ho18 (fun K hK => ?st18) AllReady.nil)
        case ho19 => simp only [List.getElem?_toArray, List.getElem?_cons_zero]; rfl
        case ho18 => simp only [List.getElem?_toArray, List.getElem?_cons_succ, List.getElem?_cons_zero]; rfl
        case st19 =>
          have cs := kv.cell
          go_simp
          clear cs
          refine hK _ _ ?_
          clear hK K
          try simp only [Act.put, List.setIfInBounds_toArray, List.set_cons_zero, List.set_cons_succ]
          refine wpAny_ready (rs := [5]) (by kernel_rfl) (by simp) ?_
          refine' AllReady.cons (o := _) ?ho20 (fun K hK => ?st20) AllReady.nil
          case ho20 => simp only [List.getElem?_toArray, List.getElem?_cons_succ, List.getElem?_cons_zero]; rfl
          case st20 =>
            go_simp
            refine (walk_any x hxs (d k) _).mono ?_
            rintro e Y2 ⟨rfl, hb⟩
            refine hK _ _ ?_
            clear hK K
            try simp only [Act.put, List.setIfInBounds_toArray, List.set_cons_zero, List.set_cons_succ]
            replace hWd := chain hWd hb
            replace kv : Boxed Y2 (w.heap.size + 1) 29 (.slice va k vc) := (hb.block _ kv.lt).trans kv
            replace kf : Boxed Y2 w.heap.size 54 (.func (.func fid) #[] lb) := (hb.block _ kf.lt).trans kf
            replace hown := own_below4 hown hb
            clear hb
            refine wpAny_ready (rs := [6]) (by kernel_rfl) (by simp) ?_
            refine' AllReady.cons (o := _) ?ho21 (fun K hK => ?st21) AllReady.nil
            case ho21 => simp only [List.getElem?_toArray, List.getElem?_cons_succ, List.getElem?_cons_zero]; rfl
            case st21 =>
              go_simp
              refine hK _ _ ?_
              clear hK K
              try simp only [Act.put, List.setIfInBounds_toArray, List.set_cons_zero, List.set_cons_succ]
              have kt := cell_one_new Y2 (tv (linkB x (stp (d k)))) 9
              have hb : Below Y2.heap.size Y2 (Y2.alloc (.cells #[tv (linkB x (stp (d k)))] 9)) := chain0 _ _
              replace hWd := chain hWd hb
              replace kv : Boxed (Y2.alloc (.cells #[tv (linkB x (stp (d k)))] 9)) (w.heap.size + 1) 29 (.slice va k vc) := (hb.block _ kv.lt).trans kv
              replace kf : Boxed (Y2.alloc (.cells #[tv (linkB x (stp (d k)))] 9)) w.heap.size 54 (.func (.func fid) #[] lb) := (hb.block _ kf.lt).trans kf
              replace hown := own_below4 hown hb
              clear hb
              generalize (Y2.alloc (.cells #[tv (linkB x (stp (d k)))] 9)) = Y3 at *
              generalize Y2.heap.size = gt at *
              refine wpAny_ready (rs := [7]) (by kernel_rfl) (by simp) ?_
              refine' AllReady.cons (o := _) ?ho22 (fun K hK => ?st22) AllReady.nil
              case ho22 => simp only [List.getElem?_toArray, List.getElem?_cons_succ, List.getElem?_cons_zero]; rfl
              case st22 =>
                have hsz := hWd.size
                have hNW := Nat.le_trans hB.size hsz
                refine step_append_lies _ rfl (.tmp 12) (.tmp 18) 29 rfl w.heap.size 9 i0 (.string ⟨#[]⟩) 1 16 Try.underlying29 hi hz0 hz1 hz2 rfl (by decide) (.slice va k vc) k ts rfl hown ⟨gt, 0, none⟩ 1 1 [tv (linkB x (stp (d k)))] rfl rfl kt (by simp [Value.oneCell']) (by decide) (by have := HL.out; unfold maxLen; omega) (by have := HL.out; omega) hNW _ rfl ?_
                intro g c w1 hown' hgrow _ _
                refine hK _ _ ?_
                clear hK K
                try simp only [Act.put, List.setIfInBounds_toArray, List.set_cons_zero, List.set_cons_succ]
                refine wpAny_ready (rs := [8]) (by kernel_rfl) (by simp) ?_
                refine' AllReady.cons (o := _) ?ho23 (fun K hK => ?st23) AllReady.nil
                case ho23 => simp only [List.getElem?_toArray, List.getElem?_cons_succ, List.getElem?_cons_zero]; rfl
                case st23 =>
                  have kv1 := kv.kept hgrow (kv.not_row (by decide) hown)
                  have ko1 := kv1.cell
                  have kf1 := kv1.frozen
                  go_simp
                  refine hK _ _ ?_
                  clear hK K
                  try simp only [Act.put, List.setIfInBounds_toArray, List.set_cons_zero, List.set_cons_succ]
                  refine wpAny_done (by kernel_rfl) ?_ _
                  have hsp : Spares 9 Y3 w1 := (Spares.of_below (Below.refl _ Y3)).grown hgrow (fun r e => .inr (ownsRow_block hown r e))
                  have hrow3 := hown'.kept (grownBy_setCell' w1 (w.heap.size + 1) (.slice (some ⟨g, 0, none⟩) (k + 1) c)) (.inr (kv1.not_row (by decide) hown').symm)
                  have hbw := (((hWd.mono hB.size).trans ((Below.refl w.heap.size Y3).grown hgrow hNW (fun j hj => (World.ownsRow.lt hown j hj).1)))).setCell (p := ⟨w.heap.size + 1, 0, none⟩) (Nat.le_succ _) (.slice (some ⟨g, 0, none⟩) (k + 1) c)
                  have hko := ((KeepsOthers.of_grownBy (grown_of_below hWd) (by simp)).trans hsp.others).trans (KeepsOthers.setCell w1 ⟨w.heap.size + 1, 0, none⟩ (.slice (some ⟨g, 0, none⟩) (k + 1) c))
                  have kf3 := (kf.kept hgrow (kf.not_row (by decide) hown)).kept (grownBy_setCell' w1 (w.heap.size + 1) (.slice (some ⟨g, 0, none⟩) (k + 1) c)) (by simp)
                  rw [← HT.out] at hrow3
                  exact ⟨hko.from _, hbw, ⟨⟨_, kv1.set _, hrow3, trivial⟩, kf3⟩, hB.trans hbw⟩
        case st18 =>
          go_simp
          refine (walk_any x hxs (d k) _).mono ?_
          rintro e Y2 ⟨rfl, hb⟩
          refine hK _ _ ?_
          clear hK K
          try simp only [Act.put, List.setIfInBounds_toArray, List.set_cons_zero, List.set_cons_succ]
          replace hWd := chain hWd hb
          replace kv : Boxed Y2 (w.heap.size + 1) 29 (.slice va k vc) := (hb.block _ kv.lt).trans kv
          replace kf : Boxed Y2 w.heap.size 54 (.func (.func fid) #[] lb) := (hb.block _ kf.lt).trans kf
          replace hown := own_below4 hown hb
          clear hb
          refine wpAny_ready (rs := [0, 6]) (by kernel_rfl) (by simp) ?_
          refine' AllReady.cons (o := _) ?ho25 (fun K hK => ?st25) (AllReady.cons (o := _) ?ho24 (fun K hK => ?st24) AllReady.nil)
          case ho25 => simp only [List.getElem?_toArray, List.getElem?_cons_zero]; rfl
          case ho24 => simp only [List.getElem?_toArray, List.getElem?_cons_succ, List.getElem?_cons_zero]; rfl
          case st25 =>
            have cs := kv.cell
            go_simp
            clear cs
            refine hK _ _ ?_
            clear hK K
            try simp only [Act.put, List.setIfInBounds_toArray, List.set_cons_zero, List.set_cons_succ]
            refine wpAny_ready (rs := [6]) (by kernel_rfl) (by simp) ?_
            refine' AllReady.cons (o := _) ?ho26 (fun K hK => ?st26) AllReady.nil
            case ho26 => simp only [List.getElem?_toArray, List.getElem?_cons_succ, List.getElem?_cons_zero]; rfl
            case st26 =>
              go_simp
              refine hK _ _ ?_
              clear hK K
              try simp only [Act.put, List.setIfInBounds_toArray, List.set_cons_zero, List.set_cons_succ]
              have kt := cell_one_new Y2 (tv (linkB x (stp (d k)))) 9
              have hb : Below Y2.heap.size Y2 (Y2.alloc (.cells #[tv (linkB x (stp (d k)))] 9)) := chain0 _ _
              replace hWd := chain hWd hb
              replace kv : Boxed (Y2.alloc (.cells #[tv (linkB x (stp (d k)))] 9)) (w.heap.size + 1) 29 (.slice va k vc) := (hb.block _ kv.lt).trans kv
              replace kf : Boxed (Y2.alloc (.cells #[tv (linkB x (stp (d k)))] 9)) w.heap.size 54 (.func (.func fid) #[] lb) := (hb.block _ kf.lt).trans kf
              replace hown := own_below4 hown hb
              clear hb
              generalize (Y2.alloc (.cells #[tv (linkB x (stp (d k)))] 9)) = Y3 at *
              generalize Y2.heap.size = gt at *
              refine wpAny_ready (rs := [7]) (by kernel_rfl) (by simp) ?_
              refine' AllReady.cons (o := _) ?ho27 (fun K hK => ?st27) AllReady.nil
              case ho27 => simp only [List.getElem?_toArray, List.getElem?_cons_succ, List.getElem?_cons_zero]; rfl
              case st27 =>
                have hsz := hWd.size
                have hNW := Nat.le_trans hB.size hsz
                refine step_append_lies _ rfl (.tmp 12) (.tmp 18) 29 rfl w.heap.size 9 i0 (.string ⟨#[]⟩) 1 16 Try.underlying29 hi hz0 hz1 hz2 rfl (by decide) (.slice va k vc) k ts rfl hown ⟨gt, 0, none⟩ 1 1 [tv (linkB x (stp (d k)))] rfl rfl kt (by simp [Value.oneCell']) (by decide) (by have := HL.out; unfold maxLen; omega) (by have := HL.out; omega) hNW _ rfl ?_
                intro g c w1 hown' hgrow _ _
                refine hK _ _ ?_
                clear hK K
                try simp only [Act.put, List.setIfInBounds_toArray, List.set_cons_zero, List.set_cons_succ]
                refine wpAny_ready (rs := [8]) (by kernel_rfl) (by simp) ?_
                refine' AllReady.cons (o := _) ?ho28 (fun K hK => ?st28) AllReady.nil
                case ho28 => simp only [List.getElem?_toArray, List.getElem?_cons_succ, List.getElem?_cons_zero]; rfl
                case st28 =>
                  have kv1 := kv.kept hgrow (kv.not_row (by decide) hown)
                  have ko1 := kv1.cell
                  have kf1 := kv1.frozen
                  go_simp
                  refine hK _ _ ?_
                  clear hK K
                  try simp only [Act.put, List.setIfInBounds_toArray, List.set_cons_zero, List.set_cons_succ]
                  refine wpAny_done (by kernel_rfl) ?_ _
                  have hsp : Spares 9 Y3 w1 := (Spares.of_below (Below.refl _ Y3)).grown hgrow (fun r e => .inr (ownsRow_block hown r e))
                  have hrow3 := hown'.kept (grownBy_setCell' w1 (w.heap.size + 1) (.slice (some ⟨g, 0, none⟩) (k + 1) c)) (.inr (kv1.not_row (by decide) hown').symm)
                  have hbw := (((hWd.mono hB.size).trans ((Below.refl w.heap.size Y3).grown hgrow hNW (fun j hj => (World.ownsRow.lt hown j hj).1)))).setCell (p := ⟨w.heap.size + 1, 0, none⟩) (Nat.le_succ _) (.slice (some ⟨g, 0, none⟩) (k + 1) c)
                  have hko := ((KeepsOthers.of_grownBy (grown_of_below hWd) (by simp)).trans hsp.others).trans (KeepsOthers.setCell w1 ⟨w.heap.size + 1, 0, none⟩ (.slice (some ⟨g, 0, none⟩) (k + 1) c))
                  have kf3 := (kf.kept hgrow (kf.not_row (by decide) hown)).kept (grownBy_setCell' w1 (w.heap.size + 1) (.slice (some ⟨g, 0, none⟩) (k + 1) c)) (by simp)
                  rw [← HT.out] at hrow3
                  exact ⟨hko.from _, hbw, ⟨⟨_, kv1.set _, hrow3, trivial⟩, kf3⟩, hB.trans hbw⟩
          case st24 =>
            go_simp
            refine hK _ _ ?_
            clear hK K
            try simp only [Act.put, List.setIfInBounds_toArray, List.set_cons_zero, List.set_cons_succ]
            have kt := cell_one_new Y2 (tv (linkB x (stp (d k)))) 9
            have hb : Below Y2.heap.size Y2 (Y2.alloc (.cells #[tv (linkB x (stp (d k)))] 9)) := chain0 _ _
            replace hWd := chain hWd hb
            replace kv : Boxed (Y2.alloc (.cells #[tv (linkB x (stp (d k)))] 9)) (w.heap.size + 1) 29 (.slice va k vc) := (hb.block _ kv.lt).trans kv
            replace kf : Boxed (Y2.alloc (.cells #[tv (linkB x (stp (d k)))] 9)) w.heap.size 54 (.func (.func fid) #[] lb) := (hb.block _ kf.lt).trans kf
            replace hown := own_below4 hown hb
            clear hb
            generalize (Y2.alloc (.cells #[tv (linkB x (stp (d k)))] 9)) = Y3 at *
            generalize Y2.heap.size = gt at *
            refine wpAny_ready (rs := [0]) (by kernel_rfl) (by simp) ?_
            refine' AllReady.cons (o := _) ?ho29 (fun K hK => ?st29) AllReady.nil
            case ho29 => simp only [List.getElem?_toArray, List.getElem?_cons_zero]; rfl
            case st29 =>
              have cs := kv.cell
              go_simp
              clear cs
              refine hK _ _ ?_
              clear hK K
              try simp only [Act.put, List.setIfInBounds_toArray, List.set_cons_zero, List.set_cons_succ]
              refine wpAny_ready (rs := [7]) (by kernel_rfl) (by simp) ?_
              refine' AllReady.cons (o := _) ?ho30 (fun K hK => ?st30) AllReady.nil
              case ho30 => simp only [List.getElem?_toArray, List.getElem?_cons_succ, List.getElem?_cons_zero]; rfl
              case st30 =>
                have hsz := hWd.size
                have hNW := Nat.le_trans hB.size hsz
                refine step_append_lies _ rfl (.tmp 12) (.tmp 18) 29 rfl w.heap.size 9 i0 (.string ⟨#[]⟩) 1 16 Try.underlying29 hi hz0 hz1 hz2 rfl (by decide) (.slice va k vc) k ts rfl hown ⟨gt, 0, none⟩ 1 1 [tv (linkB x (stp (d k)))] rfl rfl kt (by simp [Value.oneCell']) (by decide) (by have := HL.out; unfold maxLen; omega) (by have := HL.out; omega) hNW _ rfl ?_
                intro g c w1 hown' hgrow _ _
                refine hK _ _ ?_
                clear hK K
                try simp only [Act.put, List.setIfInBounds_toArray, List.set_cons_zero, List.set_cons_succ]
                refine wpAny_ready (rs := [8]) (by kernel_rfl) (by simp) ?_
                refine' AllReady.cons (o := _) ?ho31 (fun K hK => ?st31) AllReady.nil
                case ho31 => simp only [List.getElem?_toArray, List.getElem?_cons_succ, List.getElem?_cons_zero]; rfl
                case st31 =>
                  have kv1 := kv.kept hgrow (kv.not_row (by decide) hown)
                  have ko1 := kv1.cell
                  have kf1 := kv1.frozen
                  go_simp
                  refine hK _ _ ?_
                  clear hK K
                  try simp only [Act.put, List.setIfInBounds_toArray, List.set_cons_zero, List.set_cons_succ]
                  refine wpAny_done (by kernel_rfl) ?_ _
                  have hsp : Spares 9 Y3 w1 := (Spares.of_below (Below.refl _ Y3)).grown hgrow (fun r e => .inr (ownsRow_block hown r e))
                  have hrow3 := hown'.kept (grownBy_setCell' w1 (w.heap.size + 1) (.slice (some ⟨g, 0, none⟩) (k + 1) c)) (.inr (kv1.not_row (by decide) hown').symm)
                  have hbw := (((hWd.mono hB.size).trans ((Below.refl w.heap.size Y3).grown hgrow hNW (fun j hj => (World.ownsRow.lt hown j hj).1)))).setCell (p := ⟨w.heap.size + 1, 0, none⟩) (Nat.le_succ _) (.slice (some ⟨g, 0, none⟩) (k + 1) c)
                  have hko := ((KeepsOthers.of_grownBy (grown_of_below hWd) (by simp)).trans hsp.others).trans (KeepsOthers.setCell w1 ⟨w.heap.size + 1, 0, none⟩ (.slice (some ⟨g, 0, none⟩) (k + 1) c))
                  have kf3 := (kf.kept hgrow (kf.not_row (by decide) hown)).kept (grownBy_setCell' w1 (w.heap.size + 1) (.slice (some ⟨g, 0, none⟩) (k + 1) c)) (by simp)
                  rw [← HT.out] at hrow3
                  exact ⟨hko.from _, hbw, ⟨⟨_, kv1.set _, hrow3, trivial⟩, kf3⟩, hB.trans hbw⟩
  · rintro D W hD ⟨⟨⟨v, kv, hown, _⟩, _⟩, hB⟩ hK
    have ko := kv.cell
    have HZ := Lib.hid hz5
    rw [List.take_of_length_le (by simp [walked_length])] at hown
    clear hz5
    gi_wp2
    have hB' := hB.trans (belowK_b (w := w) (Nat.le_refl _) _ D _ (.deferred none) (by have := HZ.out; omega) hK rfl rfl)
    have hown3 := ownsRow_putObj hown (.deferred none) hK rfl
    refine ⟨by simp, .inl ⟨_, _, rfl, run_takeDeferred hK, ?_⟩⟩
    refine ⟨v, ?_, ?_⟩
    · simp [results, Try.f36, go_sem]
    · exact ⟨v, rfl, hown3, hB'⟩

theorem walkAll_any (zs : List ByteArray) (hn : zs.length ≤ 1000000) (hz : ∀ x ∈ zs, x.size ≤ 140737488353000) (d : Nat → Int) (sv : Value) (w : World) (hsv : VSl 0 w.heap.size w sv (zs.map tv))
    (fid : Nat) (lb : Array Value) (eg : ∀ args w, (callFunc fid args).run Try.prog w = .ok (.enter fid args) w)
    (hst : ∀ k W, k < zs.length → Below w.heap.size w W → Calls Try.prog fid (#[.int .i64 (k : Int)] ++ lb) W fun e W' => e = .returned (.int .i64 (d k)) ∧ Below W.heap.size W W') :
    Calls Try.prog 36 #[sv, .func (.func fid) #[] lb] w (RowW w.heap.size 9 zs.length ((walked zs d).map tv) w) := callsIn_wide.1 (walkAll_in 3 (by omega) zs hn hz d sv w hsv fid lb eg hst)

end Go.Proofs.Ytneilnfjnbecbaa
