/-
  slices.All over strings: each with its place; ots.walkAll: each part, walked as many steps as are told of its place; slices.Values over strings: each; ots.join: Short of all parts; slices.Values over ints: each; ots.Digits: 12 digits of a text's sum, and 3 of what they leave; The digits, each; ots' closures; whether parts are well-formed
-/
import Derived.Outline
import Derived.Test.YtbhfajnejibaoaaGreatK09
namespace Go.Proofs.YtbhfajnejibaoaaGreat
open Go.RowKit Go.Shelf
attribute [local go_sem] Oper.semAt_some
set_option maxRecDepth 100000 in
set_option maxHeartbeats 4000000 in
theorem allT1_in (m : Nat) (hm : 1 ≤ m) (l Bs n₀ b off cap : Nat) (zs : List ByteArray) (hreach : zs.length ≤ 140737488351232) (hb : b < n₀) (J : Nat → World → Prop)
    (W : World)
    (hY : ∀ k x W1, zs[k]? = some x → J k W1 → YieldAt Fence.wide (m - 1) Tryz.prog l #[.int .i64 (k : Int), tv x] W1 fun e W' => e = .returned (.bool true) ∧ J (k + 1) W' ∧ Below n₀ W1 W')
    (hBs : W.cell? ⟨Bs, 0, none⟩ = some (.slice (some ⟨b, off, none⟩) zs.length cap)) (hc : Row W b off (zs.map tv)) (h0 : J 0 W) :
    CallsIn Fence.wide m Tryz.prog 104 #[.func (.yield l) #[] #[], .pointer (some ⟨Bs, 0, none⟩)] W fun e W' => (∃ v, e = .returned v) ∧ J zs.length W' := by
  refine callsIn_of_wp Tryz.func104 rfl trivial ?_ rfl
  simp only [Tryz.ntmps104, List.size_toArray, List.length_cons, List.length_nil, Nat.reduceAdd, Nat.reduceSub, Array.replicate_succ, Array.replicate_zero, List.push_toArray, List.append_toArray, List.nil_append, List.cons_append]
  gi_wp2
  gi_loopw [7] (fun i wr => ∃ k : Nat, k ≤ zs.length ∧ i = .int .i64 k ∧ J k wr ∧ Below n₀ W wr) (fun i _ => zs.length - (intOf i).toNat)
  case atStart => exact ⟨0, Nat.zero_le _, rfl, h0, Below.refl _ _⟩
  case round =>
    obtain ⟨k, hk, rfl, hJs, hnx⟩ := hrel
    by_cases hlt : k < zs.length
    · obtain ⟨x, hx⟩ : ∃ x, zs[k]? = some x := ⟨_, List.getElem?_eq_getElem hlt⟩
      have c0 : wr.cell? ⟨b, off + k, none⟩ = some (tv x) := (hc.below hnx hb) k _ (by rw [List.getElem?_map, hx]; rfl)
      have hk0 : (k : Int) < (zs.length : Int) := by omega
      obtain ⟨fn, tmps, assign, body, hy, hR⟩ := hY k x wr hx hJs
      simp only [tv] at c0 hy
      clear hx
      generalize hL : zs.length = len at *
      have HL := Lib.hid hL
      clear hL
      gi_wp2
      refine hR.mono ?_
      rintro e W3 ⟨rfl, hJ3, hk3⟩
      gi_wp2
      go_roundw
      case rel => exact ⟨k + 1, by omega, by simp, hJ3, hnx.trans hk3⟩
      case measure => simp [intOf]; omega
    · obtain rfl : k = zs.length := by omega
      gi_wp2
      go_end0
      exact ⟨⟨_, rfl⟩, hJs⟩
set_option maxRecDepth 100000 in
set_option maxHeartbeats 1000000 in
theorem allT1_nil_in (m : Nat) (l Bs : Nat) (a : Option Addr) (cap : Nat) (J : World → Prop) (W : World) (hBs : W.cell? ⟨Bs, 0, none⟩ = some (.slice a 0 cap)) (h0 : J W) :
    CallsIn Fence.wide m Tryz.prog 104 #[.func (.yield l) #[] #[], .pointer (some ⟨Bs, 0, none⟩)] W fun e W' => (∃ v, e = .returned v) ∧ J W' := by
  refine callsIn_of_wp Tryz.func104 rfl trivial ?_ rfl
  simp only [Tryz.ntmps104, List.size_toArray, List.length_cons, List.length_nil, Nat.reduceAdd, Nat.reduceSub, Array.replicate_succ, Array.replicate_zero, List.push_toArray, List.append_toArray, List.nil_append, List.cons_append]
  gi_wp2
  gi_loopw [7] (fun i wr => i = .int .i64 0 ∧ J wr) (fun _ _ => 0)
  case atStart => exact ⟨rfl, h0⟩
  case round =>
    obtain ⟨rfl, hJs⟩ := hrel
    gi_wp2
    go_end0
    exact ⟨⟨_, rfl⟩, hJs⟩
set_option maxHeartbeats 1000000 in
theorem allT_in (F : Fence) (n : Nat) (h5 : F.fn 85) (hro : F.round = none) (a : Option Addr) (len cap : Nat) (w : World) :
    CallsIn F n Tryz.prog 85 #[.slice a len cap] w fun e w' => e = .returned (.func (.func 104) #[] #[.pointer (some ⟨w.heap.size, 0, none⟩)]) ∧ w' = w.alloc (.cells #[.slice a len cap] 26) := by
  refine callsIn_of_wp Tryz.func85 rfl h5 ?_ hro
  simp only [Tryz.ntmps85, List.size_toArray, List.length_cons, List.length_nil, Nat.reduceAdd, Nat.reduceSub, Array.replicate_succ, Array.replicate_zero, List.push_toArray, List.append_toArray, List.nil_append, List.cons_append]
  gi_wp2
  go_ret
  exact ⟨rfl, rfl⟩
theorem allT_rel (m : Nat) (hm : 1 ≤ m) (Bs n₀ : Nat) (sv : Value) (zs : List ByteArray) (hreach : zs.length ≤ 140737488351232) (w : World) (hn₀ : n₀ ≤ w.heap.size)
    (hk : Boxed w Bs 26 sv) (hI : VSl 0 n₀ w sv (zs.map tv)) :
    SeqRel Fence.wide m Tryz.prog 104 #[.pointer (some ⟨Bs, 0, none⟩)] zs.length (fun k r _ => ∃ y : Nat × ByteArray, (y.1 = k ∧ zs[k]? = some y.2) ∧ r = #[.int .i64 (y.1 : Int), tv y.2]) (fun _ => Below n₀) w := fun l J W hW _ _ _ hY h0 => by
  have hc' := (hW.cell (p := ⟨Bs, 0, none⟩) hk.lt).trans hk.cell
  obtain ⟨a, cap, rfl, _, h0' | ⟨b, off, rfl, _, hb, hcs⟩⟩ := hI.below hW hn₀
  · rw [List.map_eq_nil_iff] at h0'
    subst h0'
    exact (allT1_nil_in m l Bs a cap (J 0) W hc' h0).mono fun e W' ⟨he, hj⟩ => ⟨he, hj⟩
  · rw [List.length_map] at hc'
    exact allT1_in m hm l Bs n₀ b off cap zs hreach hb J W (fun k x W1 hx hj => hY k _ W1 (List.getElem?_eq_some_iff.1 hx).1 ⟨(k, x), ⟨rfl, hx⟩, rfl⟩ hj) hc' hcs h0
end Go.Proofs.YtbhfajnejibaoaaGreat
namespace Go.Proofs.YtbhfajnejibaoaaGreat
open Go.RowKit Go.Shelf
attribute [local go_sem] Oper.semAt_some
def walked (zs : List ByteArray) (d : Nat → Int) : List ByteArray := zs.mapIdx fun k x => linkB x (stp (d k))
theorem walked_length (zs : List ByteArray) (d : Nat → Int) : (walked zs d).length = zs.length := by simp [walked]
theorem walked_at {zs : List ByteArray} (d : Nat → Int) {k : Nat} {x : ByteArray} (h : zs[k]? = some x) : (walked zs d)[k]? = some (linkB x (stp (d k))) := by
  unfold walked
  rw [List.getElem?_mapIdx, h]; rfl
def WallI (n₀ B Bf : Nat) (fv : Value) (ys : List Value) (w : World) (k : Nat) (W : World) : Prop :=
  ((∃ v, Boxed W B 26 v ∧ W.ownsRow n₀ 9 1 v k (ys.take k) ∧ True) ∧ Boxed W Bf 81 fv) ∧ Below n₀ w W
theorem wallI_own {n₀ Bb Bf : Nat} {fv : Value} {ys : List Value} {w : World} {B : Nat} (h : n₀ ≤ w.heap.size) (hB : n₀ ≤ B) : OwnFrom B (WallI n₀ Bb Bf fv ys w) :=
  OwnFrom.and (OwnFrom.and (Own.from (holdsRow_own n₀ Bb 26 9 1 (fun j : Nat => j) (fun j => ys.take j) (fun _ _ => True)) _)
    (Own.from (fun _ X Y row hs hg hr => blk_own Bf 81 (fun (_ : Unit) => [fv]) () X Y row hs hg hr) _)) (ownFrom_below h hB)
set_option maxRecDepth 100000 in
set_option maxHeartbeats 8000000 in
theorem walkAll_in (m : Nat) (hm : 3 ≤ m) (zs : List ByteArray) (hn : zs.length ≤ 1000000) (hz : ∀ x ∈ zs, x.size ≤ 140737488353000) (d : Nat → Int) (sv : Value) (w : World) (hsv : VSl 0 w.heap.size w sv (zs.map tv))
    (fid : Nat) (lb : Array Value) (eg : ∀ args w, (callFunc fid args).run Tryz.prog w = .ok (.enter fid args) w)
    (hst : ∀ k W, k < zs.length → Below w.heap.size w W → Calls Tryz.prog fid (#[.int .i64 (k : Int)] ++ lb) W fun e W' => e = .returned (.int .i64 (d k)) ∧ Below W.heap.size W W') :
    CallsIn Fence.wide m Tryz.prog 60 #[sv, .func (.func fid) #[] lb] w (RowW w.heap.size 9 zs.length ((walked zs d).map tv) w) := by
  have h1 : 1 ≤ m := by omega
  have hmx : Tryz.prog.follows .mixedOrders = true := by kernel_rfl
  have hsv0 := hsv
  obtain ⟨a, cap, rfl⟩ := hsv.slice
  rw [List.length_map] at hsv0 ⊢
  clear hsv
  refine callsIn_of_wp_marks Tryz.func60 rfl trivial ?_ rfl
  simp only [Tryz.ntmps60, List.size_toArray, List.length_cons, List.length_nil, Nat.reduceAdd, Nat.reduceSub, Array.replicate_succ, Array.replicate_zero, List.push_toArray, List.append_toArray, List.nil_append, List.cons_append]
  obtain ⟨i0, hi, hz0, hz1, hz2⟩ := info_parts Tryz.infoStr
  gi_wp2_with (refine ⟨trivial, ?_⟩; gi_at_call 85; refine (allT_in Fence.wide (m - 1) trivial rfl _ _ _ _).mono ?_; rintro e w' ⟨rfl, rfl⟩)
  generalize hW5 : World.alloc _ _ = W5
  have kf : Boxed W5 w.heap.size 81 (.func (.func fid) #[] lb) := by rw [← hW5]; exact ((Boxed.new _ _ _).alloc _).alloc _
  have k0 : Boxed W5 (w.heap.size + 1) 26 (.slice none 0 0) := by rw [← hW5]; exact (Blk.new' (vs := [.slice none 0 0]) (by simp)).alloc _
  have k2 : Boxed W5 (w.heap.size + 1 + 1) 26 (.slice a zs.length cap) := by rw [← hW5]; exact Blk.new' (vs := [_]) (by simp)
  have hB0 : Below w.heap.size w W5 := by rw [← hW5]; exact chainA (chainA (chain0 _ _) _) _
  have hz5 : W5.heap.size = w.heap.size + 3 := by rw [← hW5]; simp
  clear hW5
  refine wpIn_rangeFunc_relA (encs := fun y : Nat × ByteArray => #[.int .i64 (y.1 : Int), tv y.2]) (R := fun k y _ => y.1 = k ∧ zs[k]? = some y.2) rfl h1 (gf := 104) (lb := #[.pointer (some ⟨w.heap.size + 1 + 1, 0, none⟩)]) rfl trivial (enters_of Tryz.func104 (by kernel_rfl) rfl)
    (allT_rel (m - 1) (by omega) (w.heap.size + 1 + 1) w.heap.size _ zs (by omega) W5 (by omega) k2 (hsv0.below hB0 (Nat.le_refl _))) (fun h k => h.trans k) (fun X o o' h2 h3 h4 => belowK_b (w := w) (Nat.le_refl _) _ _ o o' (by omega) h2 h3 h4) (fun X => Below.refl _ X) (Below.refl _ _) (fun _ => rfl)
    (WallI w.heap.size (w.heap.size + 1) w.heap.size (.func (.func fid) #[] lb) ((walked zs d).map tv) w) (wallI_own (Nat.le_refl _) (by omega))
    ⟨⟨⟨_, k0, World.ownsRow_nil _ _ _ _, trivial⟩, kf⟩, hB0⟩ (fun _ _ _ _ _ _ h _ _ => h) ?_ ?_ ?_ ?_
  rotate_left
  · intro l k y W K hr hK
    clear hr
    gi_wp2
    exact hK
  · rintro l k' ⟨k, x⟩ W hlt ⟨⟨⟨v, kv, hown, _⟩, kf⟩, hB⟩ ⟨hy1, hx⟩
    dsimp only at hy1 hx
    subst hy1
    have ht : ((walked zs d).map tv).take (k + 1) = ((walked zs d).map tv).take k ++ [tv (linkB x (stp (d k)))] := by rw [List.take_add_one, List.getElem?_map, walked_at d hx]; rfl
    have HT := Lib.hid ht
    have hxs := hz x (List.mem_of_getElem? hx)
    have HL := Lib.hid hlt
    clear ht hx hlt
    generalize ((walked zs d).map tv).take k = ts at *
    obtain ⟨va, vc, rfl⟩ := ownsRow_slice hown
    have HZ5 := Lib.hid hz5
    clear hz5 k0 k2
    gi_wp2_with fail
    refine wpIn_round_any hmx (by kernel_rfl) ?_
    change wpAny _ _ _ _ _ _ _ W.drew
    have hWd : Below W.heap.size W W.drew := (Below.refl _ W).drew
    replace kv : Boxed W.drew (w.heap.size + 1) 26 (.slice va k vc) := kv
    replace kf : Boxed W.drew w.heap.size 81 (.func (.func fid) #[] lb) := kf
    replace hown : W.drew.ownsRow w.heap.size 9 1 (.slice va k vc) k ts := hown
    generalize W.drew = Y at *
    refine' wpAny_take (i := 1) (oi := _) (v := _) ?hi1 (by kernel_rfl) (by kernel_rfl) (by kernel_rfl) ?hQ1 (Or.inl ⟨?hw1, ?hy1⟩) ?rest1
    case hi1 => simp only [List.getElem?_toArray, List.getElem?_cons_succ, List.getElem?_cons_zero]; rfl
    case hQ1 => exact fun _ _ _ h => h
    case hw1 => rfl
    case hy1 => intro W'; go_simp; with_reducible rfl
    try simp only [Act.put, List.setIfInBounds_toArray, List.set_cons_zero, List.set_cons_succ]
    refine' wpAny_take (i := 3) (oi := _) (v := _) ?hi2 (by kernel_rfl) (by kernel_rfl) (by kernel_rfl) ?hQ2 (Or.inl ⟨?hw2, ?hy2⟩) ?rest2
    case hi2 => simp only [List.getElem?_toArray, List.getElem?_cons_succ, List.getElem?_cons_zero]; rfl
    case hQ2 => exact fun _ _ _ h => h
    case hw2 => rfl
    case hy2 => intro W'; go_simp; with_reducible rfl
    try simp only [Act.put, List.setIfInBounds_toArray, List.set_cons_zero, List.set_cons_succ]
    refine wpAny_ready (rs := [0, 2]) (by kernel_rfl) (by simp) ?_
    refine' AllReady.cons (o := _) ?ho4 (fun K hK => ?st4) (AllReady.cons (o := _) ?ho3 (fun K hK => ?st3) AllReady.nil)
    case ho4 => simp only [List.getElem?_toArray, List.getElem?_cons_zero]; rfl
    case ho3 => simp only [List.getElem?_toArray, List.getElem?_cons_succ, List.getElem?_cons_zero]; rfl
    case st4 =>
      have cs := kv.cell
      go_simp
      clear cs
      refine hK _ _ ?_
      clear hK K
      try simp only [Act.put, List.setIfInBounds_toArray, List.set_cons_zero, List.set_cons_succ]
      refine wpAny_ready (rs := [2]) (by kernel_rfl) (by simp) ?_
      refine' AllReady.cons (o := _) ?ho5 (fun K hK => ?st5) AllReady.nil
      case ho5 => simp only [List.getElem?_toArray, List.getElem?_cons_succ, List.getElem?_cons_zero]; rfl
      case st5 =>
        have cs := kf.cell
        go_simp
        clear cs
        refine hK _ _ ?_
        clear hK K
        try simp only [Act.put, List.setIfInBounds_toArray, List.set_cons_zero, List.set_cons_succ]
        refine wpAny_ready (rs := [4]) (by kernel_rfl) (by simp) ?_
        refine' AllReady.cons (o := _) ?ho6 (fun K hK => ?st6) AllReady.nil
        case ho6 => simp only [List.getElem?_toArray, List.getElem?_cons_succ, List.getElem?_cons_zero]; rfl
        case st6 =>
          go_simp
          refine (hst k Y HL.out (hB.trans (hWd.mono hB.size))).mono ?_
          rintro e Y1 ⟨rfl, hb⟩
          refine hK _ _ ?_
          clear hK K
          try simp only [Act.put, List.setIfInBounds_toArray, List.set_cons_zero, List.set_cons_succ]
          replace hWd := chain hWd hb
          replace kv : Boxed Y1 (w.heap.size + 1) 26 (.slice va k vc) := (hb.block _ kv.lt).trans kv
          replace kf : Boxed Y1 w.heap.size 81 (.func (.func fid) #[] lb) := (hb.block _ kf.lt).trans kf
          replace hown := own_below4 hown hb
          clear hb
          refine wpAny_ready (rs := [5]) (by kernel_rfl) (by simp) ?_
          refine' AllReady.cons (o := _) ?ho7 (fun K hK => ?st7) AllReady.nil
          case ho7 => simp only [List.getElem?_toArray, List.getElem?_cons_succ, List.getElem?_cons_zero]; rfl
          case st7 =>
            go_simp
            refine (walk_any x hxs (d k) _).mono ?_
            rintro e Y2 ⟨rfl, hb⟩
            refine hK _ _ ?_
            clear hK K
            try simp only [Act.put, List.setIfInBounds_toArray, List.set_cons_zero, List.set_cons_succ]
            replace hWd := chain hWd hb
            replace kv : Boxed Y2 (w.heap.size + 1) 26 (.slice va k vc) := (hb.block _ kv.lt).trans kv
            replace kf : Boxed Y2 w.heap.size 81 (.func (.func fid) #[] lb) := (hb.block _ kf.lt).trans kf
            replace hown := own_below4 hown hb
            clear hb
            refine wpAny_ready (rs := [6]) (by kernel_rfl) (by simp) ?_
            refine' AllReady.cons (o := _) ?ho8 (fun K hK => ?st8) AllReady.nil
            case ho8 => simp only [List.getElem?_toArray, List.getElem?_cons_succ, List.getElem?_cons_zero]; rfl
            case st8 =>
              go_simp
              refine hK _ _ ?_
              clear hK K
              try simp only [Act.put, List.setIfInBounds_toArray, List.set_cons_zero, List.set_cons_succ]
              have kt := cell_one_new Y2 (tv (linkB x (stp (d k)))) 9
              have hb : Below Y2.heap.size Y2 (Y2.alloc (.cells #[tv (linkB x (stp (d k)))] 9)) := chain0 _ _
              replace hWd := chain hWd hb
              replace kv : Boxed (Y2.alloc (.cells #[tv (linkB x (stp (d k)))] 9)) (w.heap.size + 1) 26 (.slice va k vc) := (hb.block _ kv.lt).trans kv
              replace kf : Boxed (Y2.alloc (.cells #[tv (linkB x (stp (d k)))] 9)) w.heap.size 81 (.func (.func fid) #[] lb) := (hb.block _ kf.lt).trans kf
              replace hown := own_below4 hown hb
              clear hb
              generalize (Y2.alloc (.cells #[tv (linkB x (stp (d k)))] 9)) = Y3 at *
              generalize Y2.heap.size = gt at *
              refine wpAny_ready (rs := [7]) (by kernel_rfl) (by simp) ?_
              refine' AllReady.cons (o := _) ?ho9 (fun K hK => ?st9) AllReady.nil
              case ho9 => simp only [List.getElem?_toArray, List.getElem?_cons_succ, List.getElem?_cons_zero]; rfl
              case st9 =>
                have hsz := hWd.size
                have hNW := Nat.le_trans hB.size hsz
                refine step_append_lies _ rfl (.tmp 12) (.tmp 18) 26 rfl w.heap.size 9 i0 (.string ⟨#[]⟩) 1 16 Tryz.underlying26 hi hz0 hz1 hz2 rfl (by decide) (.slice va k vc) k ts rfl hown ⟨gt, 0, none⟩ 1 1 [tv (linkB x (stp (d k)))] rfl rfl kt (by simp [Value.oneCell']) (by decide) (by have := HL.out; unfold maxLen; omega) (by have := HL.out; omega) hNW _ rfl ?_
                intro g c w1 hown' hgrow _ _
                refine hK _ _ ?_
                clear hK K
                try simp only [Act.put, List.setIfInBounds_toArray, List.set_cons_zero, List.set_cons_succ]
                refine wpAny_ready (rs := [8]) (by kernel_rfl) (by simp) ?_
                refine' AllReady.cons (o := _) ?ho10 (fun K hK => ?st10) AllReady.nil
                case ho10 => simp only [List.getElem?_toArray, List.getElem?_cons_succ, List.getElem?_cons_zero]; rfl
                case st10 =>
                  have kv1 := kv.kept hgrow (kv.not_row (by decide) hown)
                  have ko1 := kv1.cell
                  have kf1 := kv1.frozen
                  go_simp
                  refine hK _ _ ?_
                  clear hK K
                  try simp only [Act.put, List.setIfInBounds_toArray, List.set_cons_zero, List.set_cons_succ]
                  refine wpAny_done (by kernel_rfl) ?_ _
                  have hsp : Spares 9 Y3 w1 := (Spares.of_below (Below.refl _ Y3)).grown hgrow (fun r e => .inr (ownsRow_block hown r e))
                  have hrow3 := hown'.kept (grownBy_setCell' w1 (w.heap.size + 1) (.slice (some ⟨g, 0, none⟩) (k + 1) c)) (.inr (kv1.not_row (by decide) hown').symm)
                  have hbw := (((hWd.mono hB.size).trans ((Below.refl w.heap.size Y3).grown hgrow hNW (fun j hj => (World.ownsRow.lt hown j hj).1)))).setCell (p := ⟨w.heap.size + 1, 0, none⟩) (Nat.le_succ _) (.slice (some ⟨g, 0, none⟩) (k + 1) c)
                  have hko := ((KeepsOthers.of_grownBy (grown_of_below hWd) (by simp)).trans hsp.others).trans (KeepsOthers.setCell w1 ⟨w.heap.size + 1, 0, none⟩ (.slice (some ⟨g, 0, none⟩) (k + 1) c))
                  have kf3 := (kf.kept hgrow (kf.not_row (by decide) hown)).kept (grownBy_setCell' w1 (w.heap.size + 1) (.slice (some ⟨g, 0, none⟩) (k + 1) c)) (by simp)
                  rw [← HT.out] at hrow3
                  exact ⟨hko.from _, hbw, ⟨⟨_, kv1.set _, hrow3, trivial⟩, kf3⟩, hB.trans hbw⟩
    case st3 =>
      have cs := kf.cell
      go_simp
      clear cs
      refine hK _ _ ?_
      clear hK K
      try simp only [Act.put, List.setIfInBounds_toArray, List.set_cons_zero, List.set_cons_succ]
      refine wpAny_ready (rs := [0, 4]) (by kernel_rfl) (by simp) ?_
      refine' AllReady.cons (o := _) ?ho12 (fun K hK => ?st12) (AllReady.cons (o := _) ?ho11 (fun K hK => ?st11) AllReady.nil)
      case ho12 => simp only [List.getElem?_toArray, List.getElem?_cons_zero]; rfl
      case ho11 => simp only [List.getElem?_toArray, List.getElem?_cons_succ, List.getElem?_cons_zero]; rfl
      case st12 =>
        have cs := kv.cell
        go_simp
        clear cs
        refine hK _ _ ?_
        clear hK K
        try simp only [Act.put, List.setIfInBounds_toArray, List.set_cons_zero, List.set_cons_succ]
        refine wpAny_ready (rs := [4]) (by kernel_rfl) (by simp) ?_
        refine' AllReady.cons (o := _) ?ho13 (fun K hK => ?st13) AllReady.nil
        case ho13 => simp only [List.getElem?_toArray, List.getElem?_cons_succ, List.getElem?_cons_zero]; rfl
        case st13 =>
          go_simp
          refine (hst k Y HL.out (hB.trans (hWd.mono hB.size))).mono ?_
          rintro e Y1 ⟨rfl, hb⟩
          refine hK _ _ ?_
          clear hK K
          try simp only [Act.put, List.setIfInBounds_toArray, List.set_cons_zero, List.set_cons_succ]
          replace hWd := chain hWd hb
          replace kv : Boxed Y1 (w.heap.size + 1) 26 (.slice va k vc) := (hb.block _ kv.lt).trans kv
          replace kf : Boxed Y1 w.heap.size 81 (.func (.func fid) #[] lb) := (hb.block _ kf.lt).trans kf
          replace hown := own_below4 hown hb
          clear hb
          refine wpAny_ready (rs := [5]) (by kernel_rfl) (by simp) ?_
          refine' AllReady.cons (o := _) ?ho14 (fun K hK => ?st14) AllReady.nil
          case ho14 => simp only [List.getElem?_toArray, List.getElem?_cons_succ, List.getElem?_cons_zero]; rfl
          case st14 =>
            go_simp
            refine (walk_any x hxs (d k) _).mono ?_
            rintro e Y2 ⟨rfl, hb⟩
            refine hK _ _ ?_
            clear hK K
            try simp only [Act.put, List.setIfInBounds_toArray, List.set_cons_zero, List.set_cons_succ]
            replace hWd := chain hWd hb
            replace kv : Boxed Y2 (w.heap.size + 1) 26 (.slice va k vc) := (hb.block _ kv.lt).trans kv
            replace kf : Boxed Y2 w.heap.size 81 (.func (.func fid) #[] lb) := (hb.block _ kf.lt).trans kf
            replace hown := own_below4 hown hb
            clear hb
            refine wpAny_ready (rs := [6]) (by kernel_rfl) (by simp) ?_
            refine' AllReady.cons (o := _) ?ho15 (fun K hK => ?st15) AllReady.nil
            case ho15 => simp only [List.getElem?_toArray, List.getElem?_cons_succ, List.getElem?_cons_zero]; rfl
            case st15 =>
              go_simp
              refine hK _ _ ?_
              clear hK K
              try simp only [Act.put, List.setIfInBounds_toArray, List.set_cons_zero, List.set_cons_succ]
              have kt := cell_one_new Y2 (tv (linkB x (stp (d k)))) 9
              have hb : Below Y2.heap.size Y2 (Y2.alloc (.cells #[tv (linkB x (stp (d k)))] 9)) := chain0 _ _
              replace hWd := chain hWd hb
              replace kv : Boxed (Y2.alloc (.cells #[tv (linkB x (stp (d k)))] 9)) (w.heap.size + 1) 26 (.slice va k vc) := (hb.block _ kv.lt).trans kv
              replace kf : Boxed (Y2.alloc (.cells #[tv (linkB x (stp (d k)))] 9)) w.heap.size 81 (.func (.func fid) #[] lb) := (hb.block _ kf.lt).trans kf
              replace hown := own_below4 hown hb
              clear hb
              generalize (Y2.alloc (.cells #[tv (linkB x (stp (d k)))] 9)) = Y3 at *
              generalize Y2.heap.size = gt at *
              refine wpAny_ready (rs := [7]) (by kernel_rfl) (by simp) ?_
              refine' AllReady.cons (o := _) ?ho16 (fun K hK => ?st16) AllReady.nil
              case ho16 => simp only [List.getElem?_toArray, List.getElem?_cons_succ, List.getElem?_cons_zero]; rfl
              case st16 =>
                have hsz := hWd.size
                have hNW := Nat.le_trans hB.size hsz
                refine step_append_lies _ rfl (.tmp 12) (.tmp 18) 26 rfl w.heap.size 9 i0 (.string ⟨#[]⟩) 1 16 Tryz.underlying26 hi hz0 hz1 hz2 rfl (by decide) (.slice va k vc) k ts rfl hown ⟨gt, 0, none⟩ 1 1 [tv (linkB x (stp (d k)))] rfl rfl kt (by simp [Value.oneCell']) (by decide) (by have := HL.out; unfold maxLen; omega) (by have := HL.out; omega) hNW _ rfl ?_
                intro g c w1 hown' hgrow _ _
                refine hK _ _ ?_
                clear hK K
                try simp only [Act.put, List.setIfInBounds_toArray, List.set_cons_zero, List.set_cons_succ]
                refine wpAny_ready (rs := [8]) (by kernel_rfl) (by simp) ?_
                refine' AllReady.cons (o := _) ?ho17 (fun K hK => ?st17) AllReady.nil
                case ho17 => simp only [List.getElem?_toArray, List.getElem?_cons_succ, List.getElem?_cons_zero]; rfl
                case st17 =>
                  have kv1 := kv.kept hgrow (kv.not_row (by decide) hown)
                  have ko1 := kv1.cell
                  have kf1 := kv1.frozen
                  go_simp
                  refine hK _ _ ?_
                  clear hK K
                  try simp only [Act.put, List.setIfInBounds_toArray, List.set_cons_zero, List.set_cons_succ]
                  refine wpAny_done (by kernel_rfl) ?_ _
                  have hsp : Spares 9 Y3 w1 := (Spares.of_below (Below.refl _ Y3)).grown hgrow (fun r e => .inr (ownsRow_block hown r e))
                  have hrow3 := hown'.kept (grownBy_setCell' w1 (w.heap.size + 1) (.slice (some ⟨g, 0, none⟩) (k + 1) c)) (.inr (kv1.not_row (by decide) hown').symm)
                  have hbw := (((hWd.mono hB.size).trans ((Below.refl w.heap.size Y3).grown hgrow hNW (fun j hj => (World.ownsRow.lt hown j hj).1)))).setCell (p := ⟨w.heap.size + 1, 0, none⟩) (Nat.le_succ _) (.slice (some ⟨g, 0, none⟩) (k + 1) c)
                  have hko := ((KeepsOthers.of_grownBy (grown_of_below hWd) (by simp)).trans hsp.others).trans (KeepsOthers.setCell w1 ⟨w.heap.size + 1, 0, none⟩ (.slice (some ⟨g, 0, none⟩) (k + 1) c))
                  have kf3 := (kf.kept hgrow (kf.not_row (by decide) hown)).kept (grownBy_setCell' w1 (w.heap.size + 1) (.slice (some ⟨g, 0, none⟩) (k + 1) c)) (by simp)
                  rw [← HT.out] at hrow3
                  exact ⟨hko.from _, hbw, ⟨⟨_, kv1.set _, hrow3, trivial⟩, kf3⟩, hB.trans hbw⟩
      case st11 =>
        go_simp
        refine (hst k Y HL.out (hB.trans (hWd.mono hB.size))).mono ?_
        rintro e Y1 ⟨rfl, hb⟩
        refine hK _ _ ?_
        clear hK K
        try simp only [Act.put, List.setIfInBounds_toArray, List.set_cons_zero, List.set_cons_succ]
        replace hWd := chain hWd hb
        replace kv : Boxed Y1 (w.heap.size + 1) 26 (.slice va k vc) := (hb.block _ kv.lt).trans kv
        replace kf : Boxed Y1 w.heap.size 81 (.func (.func fid) #[] lb) := (hb.block _ kf.lt).trans kf
        replace hown := own_below4 hown hb
        clear hb
        refine wpAny_ready (rs := [0, 5]) (by kernel_rfl) (by simp) ?_
        refine' AllReady.cons (o := _) ?ho19 (fun K hK => ?st19) (AllReady.cons (o := _) ?ho18 (fun K hK => ?st18) AllReady.nil)
        case ho19 => simp only [List.getElem?_toArray, List.getElem?_cons_zero]; rfl
        case ho18 => simp only [List.getElem?_toArray, List.getElem?_cons_succ, List.getElem?_cons_zero]; rfl
        case st19 =>
          have cs := kv.cell
          go_simp
          clear cs
          refine hK _ _ ?_
          clear hK K
          try simp only [Act.put, List.setIfInBounds_toArray, List.set_cons_zero, List.set_cons_succ]
          refine wpAny_ready (rs := [5]) (by kernel_rfl) (by simp) ?_
          refine' AllReady.cons (o := _) ?ho20 (fun K hK => ?st20) AllReady.nil
          case ho20 => simp only [List.getElem?_toArray, List.getElem?_cons_succ, List.getElem?_cons_zero]; rfl
          case st20 =>
            go_simp
            refine (walk_any x hxs (d k) _).mono ?_
            rintro e Y2 ⟨rfl, hb⟩
            refine hK _ _ ?_
            clear hK K
            try simp only [Act.put, List.setIfInBounds_toArray, List.set_cons_zero, List.set_cons_succ]
            replace hWd := chain hWd hb
            replace kv : Boxed Y2 (w.heap.size + 1) 26 (.slice va k vc) := (hb.block _ kv.lt).trans kv
            replace kf : Boxed Y2 w.heap.size 81 (.func (.func fid) #[] lb) := (hb.block _ kf.lt).trans kf
            replace hown := own_below4 hown hb
            clear hb
            refine wpAny_ready (rs := [6]) (by kernel_rfl) (by simp) ?_
            refine' AllReady.cons (o := _) ?ho21 (fun K hK => ?st21) AllReady.nil
            case ho21 => simp only [List.getElem?_toArray, List.getElem?_cons_succ, List.getElem?_cons_zero]; rfl
            case st21 =>
              go_simp
              refine hK _ _ ?_
              clear hK K
              try simp only [Act.put, List.setIfInBounds_toArray, List.set_cons_zero, List.set_cons_succ]
              have kt := cell_one_new Y2 (tv (linkB x (stp (d k)))) 9
              have hb : Below Y2.heap.size Y2 (Y2.alloc (.cells #[tv (linkB x (stp (d k)))] 9)) := chain0 _ _
              replace hWd := chain hWd hb
              replace kv : Boxed (Y2.alloc (.cells #[tv (linkB x (stp (d k)))] 9)) (w.heap.size + 1) 26 (.slice va k vc) := (hb.block _ kv.lt).trans kv
              replace kf : Boxed (Y2.alloc (.cells #[tv (linkB x (stp (d k)))] 9)) w.heap.size 81 (.func (.func fid) #[] lb) := (hb.block _ kf.lt).trans kf
              replace hown := own_below4 hown hb
              clear hb
              generalize (Y2.alloc (.cells #[tv (linkB x (stp (d k)))] 9)) = Y3 at *
              generalize Y2.heap.size = gt at *
              refine wpAny_ready (rs := [7]) (by kernel_rfl) (by simp) ?_
              refine' AllReady.cons (o := _) ?ho22 (fun K hK => ?st22) AllReady.nil
              case ho22 => simp only [List.getElem?_toArray, List.getElem?_cons_succ, List.getElem?_cons_zero]; rfl
              case st22 =>
                have hsz := hWd.size
                have hNW := Nat.le_trans hB.size hsz
                refine step_append_lies _ rfl (.tmp 12) (.tmp 18) 26 rfl w.heap.size 9 i0 (.string ⟨#[]⟩) 1 16 Tryz.underlying26 hi hz0 hz1 hz2 rfl (by decide) (.slice va k vc) k ts rfl hown ⟨gt, 0, none⟩ 1 1 [tv (linkB x (stp (d k)))] rfl rfl kt (by simp [Value.oneCell']) (by decide) (by have := HL.out; unfold maxLen; omega) (by have := HL.out; omega) hNW _ rfl ?_
                intro g c w1 hown' hgrow _ _
                refine hK _ _ ?_
                clear hK K
                try simp only [Act.put, List.setIfInBounds_toArray, List.set_cons_zero, List.set_cons_succ]
                refine wpAny_ready (rs := [8]) (by kernel_rfl) (by simp) ?_
                refine' AllReady.cons (o := _) ?ho23 (fun K hK => ?st23) AllReady.nil
                case ho23 => simp only [List.getElem?_toArray, List.getElem?_cons_succ, List.getElem?_cons_zero]; rfl
                case st23 =>
                  have kv1 := kv.kept hgrow (kv.not_row (by decide) hown)
                  have ko1 := kv1.cell
                  have kf1 := kv1.frozen
                  go_simp
                  refine hK _ _ ?_
                  clear hK K
                  try simp only [Act.put, List.setIfInBounds_toArray, List.set_cons_zero, List.set_cons_succ]
                  refine wpAny_done (by kernel_rfl) ?_ _
                  have hsp : Spares 9 Y3 w1 := (Spares.of_below (Below.refl _ Y3)).grown hgrow (fun r e => .inr (ownsRow_block hown r e))
                  have hrow3 := hown'.kept (grownBy_setCell' w1 (w.heap.size + 1) (.slice (some ⟨g, 0, none⟩) (k + 1) c)) (.inr (kv1.not_row (by decide) hown').symm)
                  have hbw := (((hWd.mono hB.size).trans ((Below.refl w.heap.size Y3).grown hgrow hNW (fun j hj => (World.ownsRow.lt hown j hj).1)))).setCell (p := ⟨w.heap.size + 1, 0, none⟩) (Nat.le_succ _) (.slice (some ⟨g, 0, none⟩) (k + 1) c)
                  have hko := ((KeepsOthers.of_grownBy (grown_of_below hWd) (by simp)).trans hsp.others).trans (KeepsOthers.setCell w1 ⟨w.heap.size + 1, 0, none⟩ (.slice (some ⟨g, 0, none⟩) (k + 1) c))
                  have kf3 := (kf.kept hgrow (kf.not_row (by decide) hown)).kept (grownBy_setCell' w1 (w.heap.size + 1) (.slice (some ⟨g, 0, none⟩) (k + 1) c)) (by simp)
                  rw [← HT.out] at hrow3
                  exact ⟨hko.from _, hbw, ⟨⟨_, kv1.set _, hrow3, trivial⟩, kf3⟩, hB.trans hbw⟩
        case st18 =>
          go_simp
          refine (walk_any x hxs (d k) _).mono ?_
          rintro e Y2 ⟨rfl, hb⟩
          refine hK _ _ ?_
          clear hK K
          try simp only [Act.put, List.setIfInBounds_toArray, List.set_cons_zero, List.set_cons_succ]
          replace hWd := chain hWd hb
          replace kv : Boxed Y2 (w.heap.size + 1) 26 (.slice va k vc) := (hb.block _ kv.lt).trans kv
          replace kf : Boxed Y2 w.heap.size 81 (.func (.func fid) #[] lb) := (hb.block _ kf.lt).trans kf
          replace hown := own_below4 hown hb
          clear hb
          refine wpAny_ready (rs := [0, 6]) (by kernel_rfl) (by simp) ?_
          refine' AllReady.cons (o := _) ?ho25 (fun K hK => ?st25) (AllReady.cons (o := _) ?ho24 (fun K hK => ?st24) AllReady.nil)
          case ho25 => simp only [List.getElem?_toArray, List.getElem?_cons_zero]; rfl
          case ho24 => simp only [List.getElem?_toArray, List.getElem?_cons_succ, List.getElem?_cons_zero]; rfl
          case st25 =>
            have cs := kv.cell
            go_simp
            clear cs
            refine hK _ _ ?_
            clear hK K
            try simp only [Act.put, List.setIfInBounds_toArray, List.set_cons_zero, List.set_cons_succ]
            refine wpAny_ready (rs := [6]) (by kernel_rfl) (by simp) ?_
            refine' AllReady.cons (o := _) ?ho26 (fun K hK => ?st26) AllReady.nil
            case ho26 => simp only [List.getElem?_toArray, List.getElem?_cons_succ, List.getElem?_cons_zero]; rfl
            case st26 =>
              go_simp
              refine hK _ _ ?_
              clear hK K
              try simp only [Act.put, List.setIfInBounds_toArray, List.set_cons_zero, List.set_cons_succ]
              have kt := cell_one_new Y2 (tv (linkB x (stp (d k)))) 9
              have hb : Below Y2.heap.size Y2 (Y2.alloc (.cells #[tv (linkB x (stp (d k)))] 9)) := chain0 _ _
              replace hWd := chain hWd hb
              replace kv : Boxed (Y2.alloc (.cells #[tv (linkB x (stp (d k)))] 9)) (w.heap.size + 1) 26 (.slice va k vc) := (hb.block _ kv.lt).trans kv
              replace kf : Boxed (Y2.alloc (.cells #[tv (linkB x (stp (d k)))] 9)) w.heap.size 81 (.func (.func fid) #[] lb) := (hb.block _ kf.lt).trans kf
              replace hown := own_below4 hown hb
              clear hb
              generalize (Y2.alloc (.cells #[tv (linkB x (stp (d k)))] 9)) = Y3 at *
              generalize Y2.heap.size = gt at *
              refine wpAny_ready (rs := [7]) (by kernel_rfl) (by simp) ?_
              refine' AllReady.cons (o := _) ?ho27 (fun K hK => ?st27) AllReady.nil
              case ho27 => simp only [List.getElem?_toArray, List.getElem?_cons_succ, List.getElem?_cons_zero]; rfl
              case st27 =>
                have hsz := hWd.size
                have hNW := Nat.le_trans hB.size hsz
                refine step_append_lies _ rfl (.tmp 12) (.tmp 18) 26 rfl w.heap.size 9 i0 (.string ⟨#[]⟩) 1 16 Tryz.underlying26 hi hz0 hz1 hz2 rfl (by decide) (.slice va k vc) k ts rfl hown ⟨gt, 0, none⟩ 1 1 [tv (linkB x (stp (d k)))] rfl rfl kt (by simp [Value.oneCell']) (by decide) (by have := HL.out; unfold maxLen; omega) (by have := HL.out; omega) hNW _ rfl ?_
                intro g c w1 hown' hgrow _ _
                refine hK _ _ ?_
                clear hK K
                try simp only [Act.put, List.setIfInBounds_toArray, List.set_cons_zero, List.set_cons_succ]
                refine wpAny_ready (rs := [8]) (by kernel_rfl) (by simp) ?_
                refine' AllReady.cons (o := _) ?ho28 (fun K hK => ?st28) AllReady.nil
                case ho28 => simp only [List.getElem?_toArray, List.getElem?_cons_succ, List.getElem?_cons_zero]; rfl
                case st28 =>
                  have kv1 := kv.kept hgrow (kv.not_row (by decide) hown)
                  have ko1 := kv1.cell
                  have kf1 := kv1.frozen
                  go_simp
                  refine hK _ _ ?_
                  clear hK K
                  try simp only [Act.put, List.setIfInBounds_toArray, List.set_cons_zero, List.set_cons_succ]
                  refine wpAny_done (by kernel_rfl) ?_ _
                  have hsp : Spares 9 Y3 w1 := (Spares.of_below (Below.refl _ Y3)).grown hgrow (fun r e => .inr (ownsRow_block hown r e))
                  have hrow3 := hown'.kept (grownBy_setCell' w1 (w.heap.size + 1) (.slice (some ⟨g, 0, none⟩) (k + 1) c)) (.inr (kv1.not_row (by decide) hown').symm)
                  have hbw := (((hWd.mono hB.size).trans ((Below.refl w.heap.size Y3).grown hgrow hNW (fun j hj => (World.ownsRow.lt hown j hj).1)))).setCell (p := ⟨w.heap.size + 1, 0, none⟩) (Nat.le_succ _) (.slice (some ⟨g, 0, none⟩) (k + 1) c)
                  have hko := ((KeepsOthers.of_grownBy (grown_of_below hWd) (by simp)).trans hsp.others).trans (KeepsOthers.setCell w1 ⟨w.heap.size + 1, 0, none⟩ (.slice (some ⟨g, 0, none⟩) (k + 1) c))
                  have kf3 := (kf.kept hgrow (kf.not_row (by decide) hown)).kept (grownBy_setCell' w1 (w.heap.size + 1) (.slice (some ⟨g, 0, none⟩) (k + 1) c)) (by simp)
                  rw [← HT.out] at hrow3
                  exact ⟨hko.from _, hbw, ⟨⟨_, kv1.set _, hrow3, trivial⟩, kf3⟩, hB.trans hbw⟩
          case st24 =>
            go_simp
            refine hK _ _ ?_
            clear hK K
            try simp only [Act.put, List.setIfInBounds_toArray, List.set_cons_zero, List.set_cons_succ]
            have kt := cell_one_new Y2 (tv (linkB x (stp (d k)))) 9
            have hb : Below Y2.heap.size Y2 (Y2.alloc (.cells #[tv (linkB x (stp (d k)))] 9)) := chain0 _ _
            replace hWd := chain hWd hb
            replace kv : Boxed (Y2.alloc (.cells #[tv (linkB x (stp (d k)))] 9)) (w.heap.size + 1) 26 (.slice va k vc) := (hb.block _ kv.lt).trans kv
            replace kf : Boxed (Y2.alloc (.cells #[tv (linkB x (stp (d k)))] 9)) w.heap.size 81 (.func (.func fid) #[] lb) := (hb.block _ kf.lt).trans kf
            replace hown := own_below4 hown hb
            clear hb
            generalize (Y2.alloc (.cells #[tv (linkB x (stp (d k)))] 9)) = Y3 at *
            generalize Y2.heap.size = gt at *
            refine wpAny_ready (rs := [0]) (by kernel_rfl) (by simp) ?_
            refine' AllReady.cons (o := _) ?ho29 (fun K hK => ?st29) AllReady.nil
            case ho29 => simp only [List.getElem?_toArray, List.getElem?_cons_zero]; rfl
            case st29 =>
              have cs := kv.cell
              go_simp
              clear cs
              refine hK _ _ ?_
              clear hK K
              try simp only [Act.put, List.setIfInBounds_toArray, List.set_cons_zero, List.set_cons_succ]
              refine wpAny_ready (rs := [7]) (by kernel_rfl) (by simp) ?_
              refine' AllReady.cons (o := _) ?ho30 (fun K hK => ?st30) AllReady.nil
              case ho30 => simp only [List.getElem?_toArray, List.getElem?_cons_succ, List.getElem?_cons_zero]; rfl
              case st30 =>
                have hsz := hWd.size
                have hNW := Nat.le_trans hB.size hsz
                refine step_append_lies _ rfl (.tmp 12) (.tmp 18) 26 rfl w.heap.size 9 i0 (.string ⟨#[]⟩) 1 16 Tryz.underlying26 hi hz0 hz1 hz2 rfl (by decide) (.slice va k vc) k ts rfl hown ⟨gt, 0, none⟩ 1 1 [tv (linkB x (stp (d k)))] rfl rfl kt (by simp [Value.oneCell']) (by decide) (by have := HL.out; unfold maxLen; omega) (by have := HL.out; omega) hNW _ rfl ?_
                intro g c w1 hown' hgrow _ _
                refine hK _ _ ?_
                clear hK K
                try simp only [Act.put, List.setIfInBounds_toArray, List.set_cons_zero, List.set_cons_succ]
                refine wpAny_ready (rs := [8]) (by kernel_rfl) (by simp) ?_
                refine' AllReady.cons (o := _) ?ho31 (fun K hK => ?st31) AllReady.nil
                case ho31 => simp only [List.getElem?_toArray, List.getElem?_cons_succ, List.getElem?_cons_zero]; rfl
                case st31 =>
                  have kv1 := kv.kept hgrow (kv.not_row (by decide) hown)
                  have ko1 := kv1.cell
                  have kf1 := kv1.frozen
                  go_simp
                  refine hK _ _ ?_
                  clear hK K
                  try simp only [Act.put, List.setIfInBounds_toArray, List.set_cons_zero, List.set_cons_succ]
                  refine wpAny_done (by kernel_rfl) ?_ _
                  have hsp : Spares 9 Y3 w1 := (Spares.of_below (Below.refl _ Y3)).grown hgrow (fun r e => .inr (ownsRow_block hown r e))
                  have hrow3 := hown'.kept (grownBy_setCell' w1 (w.heap.size + 1) (.slice (some ⟨g, 0, none⟩) (k + 1) c)) (.inr (kv1.not_row (by decide) hown').symm)
                  have hbw := (((hWd.mono hB.size).trans ((Below.refl w.heap.size Y3).grown hgrow hNW (fun j hj => (World.ownsRow.lt hown j hj).1)))).setCell (p := ⟨w.heap.size + 1, 0, none⟩) (Nat.le_succ _) (.slice (some ⟨g, 0, none⟩) (k + 1) c)
                  have hko := ((KeepsOthers.of_grownBy (grown_of_below hWd) (by simp)).trans hsp.others).trans (KeepsOthers.setCell w1 ⟨w.heap.size + 1, 0, none⟩ (.slice (some ⟨g, 0, none⟩) (k + 1) c))
                  have kf3 := (kf.kept hgrow (kf.not_row (by decide) hown)).kept (grownBy_setCell' w1 (w.heap.size + 1) (.slice (some ⟨g, 0, none⟩) (k + 1) c)) (by simp)
                  rw [← HT.out] at hrow3
                  exact ⟨hko.from _, hbw, ⟨⟨_, kv1.set _, hrow3, trivial⟩, kf3⟩, hB.trans hbw⟩
  · rintro D W hD ⟨⟨⟨v, kv, hown, _⟩, _⟩, hB⟩ hK
    have ko := kv.cell
    have HZ := Lib.hid hz5
    rw [List.take_of_length_le (by simp [walked_length])] at hown
    clear hz5
    gi_wp2
    have hB' := hB.trans (belowK_b (w := w) (Nat.le_refl _) _ D _ (.deferred none) (by have := HZ.out; omega) hK rfl rfl)
    have hown3 := ownsRow_putObj hown (.deferred none) hK rfl
    refine ⟨by simp, .inl ⟨_, _, rfl, run_takeDeferred hK, ?_⟩⟩
    refine ⟨v, ?_, ?_⟩
    · simp [results, Tryz.f60, go_sem]
    · exact ⟨v, rfl, hown3, hB'⟩
theorem walkAll_any (zs : List ByteArray) (hn : zs.length ≤ 1000000) (hz : ∀ x ∈ zs, x.size ≤ 140737488353000) (d : Nat → Int) (sv : Value) (w : World) (hsv : VSl 0 w.heap.size w sv (zs.map tv))
    (fid : Nat) (lb : Array Value) (eg : ∀ args w, (callFunc fid args).run Tryz.prog w = .ok (.enter fid args) w)
    (hst : ∀ k W, k < zs.length → Below w.heap.size w W → Calls Tryz.prog fid (#[.int .i64 (k : Int)] ++ lb) W fun e W' => e = .returned (.int .i64 (d k)) ∧ Below W.heap.size W W') :
    Calls Tryz.prog 60 #[sv, .func (.func fid) #[] lb] w (RowW w.heap.size 9 zs.length ((walked zs d).map tv) w) := callsIn_wide.1 (walkAll_in 3 (by omega) zs hn hz d sv w hsv fid lb eg hst)
end Go.Proofs.YtbhfajnejibaoaaGreat
namespace Go.Proofs.YtbhfajnejibaoaaGreat
open Go.RowKit Go.Shelf
attribute [local go_sem] Oper.semAt_some
set_option maxRecDepth 100000 in
set_option maxHeartbeats 4000000 in
theorem valuesT1_in (m : Nat) (hm : 1 ≤ m) (l Bs n₀ b off cap : Nat) (zs : List ByteArray) (hreach : zs.length ≤ 140737488351232) (hb : b < n₀) (J : Nat → World → Prop)
    (W : World)
    (hY : ∀ k x W1, zs[k]? = some x → J k W1 → YieldAt Fence.wide (m - 1) Tryz.prog l #[tv x] W1 fun e W' => e = .returned (.bool true) ∧ J (k + 1) W' ∧ Below n₀ W1 W')
    (hBs : W.cell? ⟨Bs, 0, none⟩ = some (.slice (some ⟨b, off, none⟩) zs.length cap)) (hc : Row W b off (zs.map tv)) (h0 : J 0 W) :
    CallsIn Fence.wide m Tryz.prog 103 #[.func (.yield l) #[] #[], .pointer (some ⟨Bs, 0, none⟩)] W fun e W' => (∃ v, e = .returned v) ∧ J zs.length W' := by
  refine callsIn_of_wp Tryz.func103 rfl trivial ?_ rfl
  simp only [Tryz.ntmps103, List.size_toArray, List.length_cons, List.length_nil, Nat.reduceAdd, Nat.reduceSub, Array.replicate_succ, Array.replicate_zero, List.push_toArray, List.append_toArray, List.nil_append, List.cons_append]
  gi_wp2
  gi_loopw [7] (fun i wr => ∃ k : Nat, k ≤ zs.length ∧ i = .int .i64 k ∧ J k wr ∧ Below n₀ W wr) (fun i _ => zs.length - (intOf i).toNat)
  case atStart => exact ⟨0, Nat.zero_le _, rfl, h0, Below.refl _ _⟩
  case round =>
    obtain ⟨k, hk, rfl, hJs, hnx⟩ := hrel
    by_cases hlt : k < zs.length
    · obtain ⟨x, hx⟩ : ∃ x, zs[k]? = some x := ⟨_, List.getElem?_eq_getElem hlt⟩
      have c0 : wr.cell? ⟨b, off + k, none⟩ = some (tv x) := (hc.below hnx hb) k _ (by rw [List.getElem?_map, hx]; rfl)
      have hk0 : (k : Int) < (zs.length : Int) := by omega
      obtain ⟨fn, tmps, assign, body, hy, hR⟩ := hY k x wr hx hJs
      simp only [tv] at c0 hy
      clear hx
      generalize hL : zs.length = len at *
      have HL := Lib.hid hL
      clear hL
      gi_wp2
      refine hR.mono ?_
      rintro e W3 ⟨rfl, hJ3, hk3⟩
      gi_wp2
      go_roundw
      case rel => exact ⟨k + 1, by omega, by simp, hJ3, hnx.trans hk3⟩
      case measure => simp [intOf]; omega
    · obtain rfl : k = zs.length := by omega
      gi_wp2
      go_end0
      exact ⟨⟨_, rfl⟩, hJs⟩
set_option maxRecDepth 100000 in
set_option maxHeartbeats 1000000 in
theorem valuesT1_nil_in (m : Nat) (l Bs : Nat) (a : Option Addr) (cap : Nat) (J : World → Prop) (W : World) (hBs : W.cell? ⟨Bs, 0, none⟩ = some (.slice a 0 cap)) (h0 : J W) :
    CallsIn Fence.wide m Tryz.prog 103 #[.func (.yield l) #[] #[], .pointer (some ⟨Bs, 0, none⟩)] W fun e W' => (∃ v, e = .returned v) ∧ J W' := by
  refine callsIn_of_wp Tryz.func103 rfl trivial ?_ rfl
  simp only [Tryz.ntmps103, List.size_toArray, List.length_cons, List.length_nil, Nat.reduceAdd, Nat.reduceSub, Array.replicate_succ, Array.replicate_zero, List.push_toArray, List.append_toArray, List.nil_append, List.cons_append]
  gi_wp2
  gi_loopw [7] (fun i wr => i = .int .i64 0 ∧ J wr) (fun _ _ => 0)
  case atStart => exact ⟨rfl, h0⟩
  case round =>
    obtain ⟨rfl, hJs⟩ := hrel
    gi_wp2
    go_end0
    exact ⟨⟨_, rfl⟩, hJs⟩
set_option maxHeartbeats 1000000 in
theorem valuesT_in (F : Fence) (n : Nat) (h5 : F.fn 84) (hro : F.round = none) (a : Option Addr) (len cap : Nat) (w : World) :
    CallsIn F n Tryz.prog 84 #[.slice a len cap] w fun e w' => e = .returned (.func (.func 103) #[] #[.pointer (some ⟨w.heap.size, 0, none⟩)]) ∧ w' = w.alloc (.cells #[.slice a len cap] 26) := by
  refine callsIn_of_wp Tryz.func84 rfl h5 ?_ hro
  simp only [Tryz.ntmps84, List.size_toArray, List.length_cons, List.length_nil, Nat.reduceAdd, Nat.reduceSub, Array.replicate_succ, Array.replicate_zero, List.push_toArray, List.append_toArray, List.nil_append, List.cons_append]
  gi_wp2
  go_ret
  exact ⟨rfl, rfl⟩
theorem valuesT_rel (m : Nat) (hm : 1 ≤ m) (Bs n₀ : Nat) (sv : Value) (zs : List ByteArray) (hreach : zs.length ≤ 140737488351232) (w : World) (hn₀ : n₀ ≤ w.heap.size)
    (hk : Boxed w Bs 26 sv) (hI : VSl 0 n₀ w sv (zs.map tv)) :
    SeqRel Fence.wide m Tryz.prog 103 #[.pointer (some ⟨Bs, 0, none⟩)] zs.length (fun k r _ => ∃ x, zs[k]? = some x ∧ r = #[tv x]) (fun _ => Below n₀) w := fun l J W hW _ _ _ hY h0 => by
  have hc' := (hW.cell (p := ⟨Bs, 0, none⟩) hk.lt).trans hk.cell
  obtain ⟨a, cap, rfl, _, h0' | ⟨b, off, rfl, _, hb, hcs⟩⟩ := hI.below hW hn₀
  · rw [List.map_eq_nil_iff] at h0'
    subst h0'
    exact (valuesT1_nil_in m l Bs a cap (J 0) W hc' h0).mono fun e W' ⟨he, hj⟩ => ⟨he, hj⟩
  · rw [List.length_map] at hc'
    exact valuesT1_in m hm l Bs n₀ b off cap zs hreach hb J W (fun k x W1 hx hj => hY k _ W1 (List.getElem?_eq_some_iff.1 hx).1 ⟨x, hx, rfl⟩ hj) hc' hcs h0
end Go.Proofs.YtbhfajnejibaoaaGreat
namespace Go.Proofs.YtbhfajnejibaoaaGreat
open Go.RowKit Go.Shelf
attribute [local go_sem] Oper.semAt_some
def TxtAt (lo : Nat) (W : World) (v : Value) (l : List UInt8) : Prop :=
  ∃ (b c : Nat) (cur : Array Value) (fr : Nat × Nat), v = .slice (some ⟨b, 0, none⟩) l.length c ∧ l.length ≤ c ∧ lo ≤ b ∧ W.heap[b]? = some (.cells cur 5 fr) ∧ ∀ (k : Nat) (x : UInt8), l[k]? = some x → cur[k]? = some (bv x)
theorem TxtAt.bsl {lo : Nat} {W : World} {v : Value} {l : List UInt8} (h : TxtAt lo W v l) : BSl lo W.heap.size W v l := by
  obtain ⟨b, c, cur, fr, e, hc, hb, hh, hk⟩ := h
  exact ⟨_, c, e, hc, .inr ⟨b, 0, rfl, hb, (Array.getElem?_eq_some_iff.1 hh).1, fun k x hx => by simp [World.cell?, hh, hk k x hx]⟩⟩
theorem TxtAt.to {lo : Nat} {W W' : World} {v : Value} {l : List UInt8} (h : TxtAt lo W v l) (hk : ∀ (b : Nat) (cur : Array Value) (fr : Nat × Nat), W.heap[b]? = some (.cells cur 5 fr) → W'.heap[b]? = W.heap[b]?) : TxtAt lo W' v l := by
  obtain ⟨b, c, cur, fr, e, hc, hb, hh, hl⟩ := h
  exact ⟨b, c, cur, fr, e, hc, hb, (hk b cur fr hh).trans hh, hl⟩
theorem TxtAt.mono {lo lo' : Nat} {W : World} {v : Value} {l : List UInt8} (h : TxtAt lo W v l) (hl : lo' ≤ lo) : TxtAt lo' W v l := by
  obtain ⟨b, c, cur, fr, e, hc, hb, r⟩ := h
  exact ⟨b, c, cur, fr, e, hc, Nat.le_trans hl hb, r⟩
theorem TxtAt.below {lo : Nat} {W W' : World} {v : Value} {l : List UInt8} (h : TxtAt lo W v l) (hb : Below W.heap.size W W') : TxtAt lo W' v l := h.to fun b _ _ hh => hb.block b (Array.getElem?_eq_some_iff.1 hh).1
theorem TxtAt.spares {lo : Nat} {W W' : World} {v : Value} {l : List UInt8} {e : TypeId} (h : TxtAt lo W v l) (hs : Spares e W W') (hne : 5 ≠ e) : TxtAt lo W' v l :=
  h.to fun b cur fr hh => (hs.2 b _ hh (fun _ _ e' => by cases e'; exact hne rfl)).trans hh.symm
theorem TxtAt.set {lo : Nat} {W : World} {v : Value} {l : List UInt8} (h : TxtAt lo W v l) {B : Nat} {t : TypeId} {x : Value} (hb : Boxed W B t x) (hne : 5 ≠ t) (y : Value) : TxtAt lo (W.setCell ⟨B, 0, none⟩ y) v l :=
  h.to fun b cur fr hh => Below.heap_setCell _ _ _ b (fun e => by subst e; rw [show W.heap[b]? = _ from hb] at hh; cases hh; exact hne rfl)
theorem TxtAt.own {lo : Nat} {W W' : World} {v : Value} {l : List UInt8} {row : Option Nat} (h : TxtAt lo W v l) (hg : W.grownBy W' row) (hr : ∀ r, row = some r → ∃ o : Obj, W.heap[r]? = some o ∧ o.isCells = false) : TxtAt lo W' v l :=
  h.to fun b cur fr hh => hg.block b (Array.getElem?_eq_some_iff.1 hh).1 (fun e => by obtain ⟨o, ho, hc⟩ := hr b e.symm; rw [hh] at ho; cases ho; cases hc)
theorem conv_txt (w : World) (s : ByteArray) : ∃ c W', (convert 9 58 (.string s)).run Tryz.prog w = .ok (.slice (some ⟨w.heap.size, 0, none⟩) s.size c) W' ∧ Below w.heap.size w W' ∧ W'.heap.size = w.heap.size + 1 ∧ TxtAt w.heap.size W' (.slice (some ⟨w.heap.size, 0, none⟩) s.size c) s.data.toList := by
  refine ⟨_, _, Lib.run_convert_string_bytes w 9 58 5 s Tryz.underlying9 Tryz.underlying58 Tryz.underlying5, ?_, Lib.bytesWorld_size _ _ _, ?_⟩
  · exact ⟨rfl, rfl, rfl, by rw [Lib.bytesWorld_size]; omega, fun k hk => Lib.bytesWorld_at_old _ _ _ k hk⟩
  · refine ⟨_, _, _, _, rfl, grownCap_ge _ _ _ _, Nat.le_refl _, Lib.bytesWorld_at_new _ _ _, fun k x hx => ?_⟩
    have hk : k < s.size := (List.getElem?_eq_some_iff.1 hx).1
    have h := Lib.bytesWorld_cell w 5 s k hk
    simp only [World.cell?, Lib.bytesWorld_at_new] at h
    rw [show s.data.toList.getD k 0 = x by simp only [List.getD, hx, Option.getD_some]] at h
    exact h
def Txts (lo : Nat) (W : World) (vs : List Value) (zs : List ByteArray) : Prop := vs.length = zs.length ∧ ∀ (k : Nat) (v : Value) (s : ByteArray), vs[k]? = some v → zs[k]? = some s → TxtAt lo W v s.data.toList
theorem Txts.to {lo : Nat} {W W' : World} {vs : List Value} {zs : List ByteArray} (h : Txts lo W vs zs) (hk : ∀ v (l : List UInt8), TxtAt lo W v l → TxtAt lo W' v l) : Txts lo W' vs zs := ⟨h.1, fun k v s hv hs => hk v _ (h.2 k v s hv hs)⟩
theorem Txts.snoc {lo : Nat} {W : World} {vs : List Value} {zs : List ByteArray} (h : Txts lo W vs zs) {v : Value} {s : ByteArray} (ht : TxtAt lo W v s.data.toList) : Txts lo W (vs ++ [v]) (zs ++ [s]) :=
  ⟨by simp [h.1], fun k v' s' hv hs => by
    by_cases hk : k < vs.length
    · rw [List.getElem?_append_left hk] at hv
      rw [List.getElem?_append_left (by rw [← h.1]; exact hk)] at hs
      exact h.2 k v' s' hv hs
    · have hkl : k = vs.length := by have := (List.getElem?_eq_some_iff.1 hv).1; simp at this; omega
      subst hkl
      rw [List.getElem?_append_right (Nat.le_refl _)] at hv
      rw [List.getElem?_append_right (by rw [h.1]; exact Nat.le_refl _), h.1] at hs
      simp at hv hs
      rw [← hv, ← hs]; exact ht⟩
theorem Tryz.infoSl : (Tryz.prog.info? 58).map (fun i => (i.zero, i.size, i.bytes)) = some (some (.slice none 0 0), 1, 24) := by kernel_rfl
def JoinI (N B : Nat) (zs : List ByteArray) (w : World) (k : Nat) (W : World) : Prop :=
  ∃ v vs, Boxed W B 129 v ∧ W.ownsRow N 58 1 v k vs ∧ Txts N W vs (zs.take k) ∧ Below N w W
theorem joinI_own {N B : Nat} {zs : List ByteArray} {w : World} {C : Nat} (h : N ≤ w.heap.size) (hC : N ≤ C) : OwnFrom C (JoinI N B zs w) := fun _ X Y row ⟨v, vs, hb, hown, ht, hB⟩ hg hr =>
  ⟨v, vs, blk_own B 129 (fun _ : Unit => [v]) () X Y row hb hg (fun r e => (hr r e).2), own_turn hown hg (fun r e => (hr r e).2), ht.to (fun _ _ h => h.own hg (fun r e => (hr r e).2)), ownFrom_below h hC () X Y row hB hg hr⟩
def joinB (zs : List ByteArray) : ByteArray := shortB (zs.map fun s => s.data.toList).flatten
theorem flatten_le (f : ByteArray → List UInt8) (m : Nat) : ∀ (zs : List ByteArray), (∀ x ∈ zs, (f x).length ≤ m) → (zs.map f).flatten.length ≤ zs.length * m
  | [], _ => by simp
  | x :: zs, h => by
    have h1 := h x List.mem_cons_self
    have h2 := flatten_le f m zs (fun y hy => h y (List.mem_cons_of_mem _ hy))
    rw [List.map_cons, List.flatten_cons, List.length_append, List.length_cons, Nat.add_mul, Nat.one_mul]
    omega
set_option maxRecDepth 100000 in
set_option maxHeartbeats 4000000 in
theorem join_in (m : Nat) (hm : 3 ≤ m) (zs : List ByteArray) (hn : zs.length ≤ 1000) (hz : ∀ x ∈ zs, x.size ≤ 1000000) (sv : Value) (w : World) (hsv : VSl 0 w.heap.size w sv (zs.map tv)) :
    CallsIn Fence.wide m Tryz.prog 59 #[sv] w fun e W' => e = .returned (.string (joinB zs)) ∧ Below w.heap.size w W' := by
  have h1 : 1 ≤ m := by omega
  have hsv0 := hsv
  obtain ⟨a, cap, rfl⟩ := hsv.slice
  rw [List.length_map] at hsv0 ⊢
  clear hsv
  refine callsIn_of_wp_marks Tryz.func59 rfl trivial ?_ rfl
  simp only [Tryz.ntmps59, List.size_toArray, List.length_cons, List.length_nil, Nat.reduceAdd, Nat.reduceSub, Array.replicate_succ, Array.replicate_zero, List.push_toArray, List.append_toArray, List.nil_append, List.cons_append]
  obtain ⟨i0, hi, hz0, hz1, hz2⟩ := info_parts Tryz.infoSl
  gi_wp2_with (refine ⟨trivial, ?_⟩; gi_at_call 84; refine (valuesT_in Fence.wide (m - 1) trivial rfl _ _ _ _).mono ?_; rintro e w' ⟨rfl, rfl⟩)
  generalize hW5 : World.alloc _ _ = W5
  have k0 : Boxed W5 w.heap.size 129 (.slice none 0 0) := by rw [← hW5]; exact (Boxed.new _ _ _).alloc _
  have k2 : Boxed W5 (w.heap.size + 1) 26 (.slice a zs.length cap) := by rw [← hW5]; exact Blk.new' (vs := [_]) (by simp)
  have hB0 : Below w.heap.size w W5 := by rw [← hW5]; exact chainA (chain0 _ _) _
  have hz5 : W5.heap.size = w.heap.size + 2 := by rw [← hW5]; simp
  clear hW5
  refine wpIn_rangeFunc_relA (encs := fun y : ByteArray => #[tv y]) rfl h1 (gf := 103) (lb := #[.pointer (some ⟨w.heap.size + 1, 0, none⟩)]) rfl trivial (enters_of Tryz.func103 (by kernel_rfl) rfl)
    (valuesT_rel (m - 1) (by omega) (w.heap.size + 1) w.heap.size _ zs (by omega) W5 (by omega) k2 (hsv0.below hB0 (Nat.le_refl _))) (fun h k => h.trans k) (fun X o o' h2 h3 h4 => belowK_b (w := w) (Nat.le_refl _) _ _ o o' (by omega) h2 h3 h4) (fun X => Below.refl _ X) (Below.refl _ _) (fun _ => rfl)
    (JoinI w.heap.size w.heap.size zs w) (joinI_own (Nat.le_refl _) (by omega))
    ⟨_, [], k0, World.ownsRow_nil _ _ _ _, ⟨by simp, fun k v s h => by simp at h⟩, hB0⟩ (fun _ _ _ _ _ _ h _ _ => h) ?_ ?_ ?_ ?_
  rotate_left
  · intro l k y W K hr hK
    clear hr
    gi_wp2
    exact hK
  · rintro l k x W hlt ⟨v, vs, kv, hown, htx, hB⟩ hx
    have ht : zs.take (k + 1) = zs.take k ++ [x] := by rw [List.take_add_one, hx]; rfl
    have HT := Lib.hid ht
    clear ht hx
    obtain ⟨va, vc, rfl⟩ := ownsRow_slice hown
    have ko := kv.cell
    have kf := kv.frozen
    have hNW := hB.size
    obtain ⟨c1, W1, hcv, hb1, hz1', hta⟩ := conv_txt W x
    have HL := Lib.hid hlt
    have kv1' : Boxed W1 w.heap.size 129 (.slice va k vc) := (hb1.block _ kv.lt).trans kv
    have ko1 := kv1'.cell
    have kf1 := kv1'.frozen
    have hown1 := own_below hown hb1
    have htx1 := htx.to (fun _ _ h => h.below hb1)
    have HZ := Lib.hid hz5
    have HZ1 := Lib.hid hz1'
    clear hlt hz5 hz1'
    gi_wp2_with (gi_at_builtin; refine wpListIn_append_own _ rfl _ _ 129 rfl w.heap.size 58 i0 (.slice none 0 0) 1 24 Tryz.underlying129 hi hz0 hz1 hz2 rfl (by decide) (.slice va k vc) k vs rfl (hown1.alloc _) ⟨W1.heap.size, 0, none⟩ 1 1 [.slice (some ⟨W.heap.size, 0, none⟩) x.size c1] rfl rfl (cell_one_new _ _ _) (by simp [Value.oneCell']) (by have := HL.out; unfold maxLen; omega) (by have := HL.out; omega) (by have := HZ1.out; simp; omega) ?_; intro v' w1 hown' hgrow _; obtain ⟨g, cap', rfl⟩ := ownsRow_succ hown'; obtain ⟨hv1, kv', hrow', hk3, hbw⟩ := kv1'.appended (by decide) hown1 (Nat.le_trans hNW hb1.size) (Nat.le_refl _) hown' hgrow; have ko2 := hv1.cell; have kf2 := hv1.frozen)
    have hspW : Spares 58 W1 w1 := ((Spares.of_below (Below.refl _ W1)).grown (World.grownBy_alloc W1 (.cells #[.slice (some ⟨W.heap.size, 0, none⟩) x.size c1] 58) none) (fun r e => by cases e)).grown hgrow (fun r e => .inr (ownsRow_block (hown1.alloc _) r e))
    have hko := (KeepsOthers.of_grownBy (grown_of_below hb1) (by simp)).trans hk3
    refine ⟨hko.from _, (hb1.mono hNW).trans hbw, _, vs ++ [.slice (some ⟨W.heap.size, 0, none⟩) x.size c1], kv', hrow', ?_, hB.trans ((hb1.mono hNW).trans hbw)⟩
    rw [HT.out]
    exact (htx1.snoc (hta.mono hNW)).to (fun v l h => (h.spares hspW (by decide)).set hv1 (by decide) _)
  · rintro D W hD ⟨v, vs, kv, hown, htx, hB⟩ hK
    rw [List.take_length] at htx
    obtain ⟨va, vc, rfl⟩ := ownsRow_slice hown
    have ko := kv.cell
    have hvl := htx.1
    have hV := VSl.of_own (vs := vs) (by rw [hvl]; exact hown)
    have hnn : zs.length ≤ 1000 := hn
    have hDW := (Array.getElem?_eq_some_iff.1 hK).1
    have hmap1 : (vs.zip (zs.map fun s => s.data.toList)).map (·.1) = vs := by
      rw [List.map_fst_zip]; simp [hvl]
    have hmap2 : (vs.zip (zs.map fun s => s.data.toList)).map (·.2) = zs.map fun s => s.data.toList := by
      rw [List.map_snd_zip]; simp [hvl]
    have hS := short_of W (.slice va zs.length vc) (vs.zip (zs.map fun s => s.data.toList)) (by simp; omega) (fun p hp => by
      obtain ⟨k, hk⟩ := List.mem_iff_getElem?.1 hp
      rw [List.getElem?_zip_eq_some] at hk
      obtain ⟨hk1, hk2⟩ := hk
      rw [List.getElem?_map] at hk2
      obtain ⟨s, hs, he⟩ := Option.map_eq_some_iff.1 hk2
      have h2 := htx.2 k p.1 s hk1 hs
      have h3 := hz s (List.mem_of_getElem? hs)
      rw [← he]
      refine ⟨h2.bsl.mono (Nat.zero_le _) (Nat.le_refl _), ?_⟩
      show s.size ≤ _
      omega) (by
      rw [hmap2]
      have := flatten_le (fun s => s.data.toList) 1000000 zs (fun x hx => hz x hx)
      have h4 : zs.length * 1000000 ≤ 1000 * 1000000 := Nat.mul_le_mul_right _ hn
      omega) (by rw [hmap1]; exact hV.mono (Nat.zero_le _) (Nat.le_refl _))
    rw [hmap2] at hS
    have HZ := Lib.hid hz5
    clear hmap1 hmap2 hV htx hvl hz5
    gi_wp2_with fail
    refine ⟨trivial, (callsIn_wide.2 hS).mono ?_⟩
    rintro e w2 ⟨rfl, hb2⟩
    gi_wp2_with fail
    have hK2 : w2.heap[D]? = some (.deferred (some [])) := (hb2.block D hDW).trans hK
    have hB' := (hB.trans (hb2.mono hB.size)).trans (belowK_b (w := w) (Nat.le_refl _) _ D _ (.deferred none) (by have := HZ.out; omega) hK2 rfl rfl)
    refine ⟨by simp, .inl ⟨_, _, rfl, run_takeDeferred hK2, ?_⟩⟩
    refine ⟨.string (joinB zs), ?_, ?_⟩
    · simp [results, Tryz.f59, go_sem, joinB]
    · exact ⟨rfl, hB'⟩
theorem join_any (zs : List ByteArray) (hn : zs.length ≤ 1000) (hz : ∀ x ∈ zs, x.size ≤ 1000000) (sv : Value) (w : World) (hsv : VSl 0 w.heap.size w sv (zs.map tv)) :
    Calls Tryz.prog 59 #[sv] w fun e W' => e = .returned (.string (joinB zs)) ∧ Below w.heap.size w W' := callsIn_wide.1 (join_in 3 (by omega) zs hn hz sv w hsv)
end Go.Proofs.YtbhfajnejibaoaaGreat
namespace Go.Proofs.YtbhfajnejibaoaaGreat
open Go.RowKit Go.Shelf
attribute [local go_sem] Oper.semAt_some
set_option maxRecDepth 100000 in
set_option maxHeartbeats 4000000 in
theorem valuesI1_in (m : Nat) (hm : 1 ≤ m) (l Bs n₀ b off cap : Nat) (zs : List Int) (hreach : zs.length ≤ 140737488351232) (hb : b < n₀) (J : Nat → World → Prop)
    (W : World)
    (hY : ∀ k x W1, zs[k]? = some x → J k W1 → YieldAt Fence.wide (m - 1) Tryz.prog l #[iv x] W1 fun e W' => e = .returned (.bool true) ∧ J (k + 1) W' ∧ Below n₀ W1 W')
    (hBs : W.cell? ⟨Bs, 0, none⟩ = some (.slice (some ⟨b, off, none⟩) zs.length cap)) (hc : Row W b off (zs.map iv)) (h0 : J 0 W) :
    CallsIn Fence.wide m Tryz.prog 132 #[.func (.yield l) #[] #[], .pointer (some ⟨Bs, 0, none⟩)] W fun e W' => (∃ v, e = .returned v) ∧ J zs.length W' := by
  refine callsIn_of_wp Tryz.func132 rfl trivial ?_ rfl
  simp only [Tryz.ntmps132, List.size_toArray, List.length_cons, List.length_nil, Nat.reduceAdd, Nat.reduceSub, Array.replicate_succ, Array.replicate_zero, List.push_toArray, List.append_toArray, List.nil_append, List.cons_append]
  gi_wp2
  gi_loopw [7] (fun i wr => ∃ k : Nat, k ≤ zs.length ∧ i = .int .i64 k ∧ J k wr ∧ Below n₀ W wr) (fun i _ => zs.length - (intOf i).toNat)
  case atStart => exact ⟨0, Nat.zero_le _, rfl, h0, Below.refl _ _⟩
  case round =>
    obtain ⟨k, hk, rfl, hJs, hnx⟩ := hrel
    by_cases hlt : k < zs.length
    · obtain ⟨x, hx⟩ : ∃ x, zs[k]? = some x := ⟨_, List.getElem?_eq_getElem hlt⟩
      have c0 : wr.cell? ⟨b, off + k, none⟩ = some (iv x) := (hc.below hnx hb) k _ (by rw [List.getElem?_map, hx]; rfl)
      have hk0 : (k : Int) < (zs.length : Int) := by omega
      obtain ⟨fn, tmps, assign, body, hy, hR⟩ := hY k x wr hx hJs
      simp only [iv] at c0 hy
      clear hx
      generalize hL : zs.length = len at *
      have HL := Lib.hid hL
      clear hL
      gi_wp2
      refine hR.mono ?_
      rintro e W3 ⟨rfl, hJ3, hk3⟩
      gi_wp2
      go_roundw
      case rel => exact ⟨k + 1, by omega, by simp, hJ3, hnx.trans hk3⟩
      case measure => simp [intOf]; omega
    · obtain rfl : k = zs.length := by omega
      gi_wp2
      go_end0
      exact ⟨⟨_, rfl⟩, hJs⟩
set_option maxRecDepth 100000 in
set_option maxHeartbeats 1000000 in
theorem valuesI1_nil_in (m : Nat) (l Bs : Nat) (a : Option Addr) (cap : Nat) (J : World → Prop) (W : World) (hBs : W.cell? ⟨Bs, 0, none⟩ = some (.slice a 0 cap)) (h0 : J W) :
    CallsIn Fence.wide m Tryz.prog 132 #[.func (.yield l) #[] #[], .pointer (some ⟨Bs, 0, none⟩)] W fun e W' => (∃ v, e = .returned v) ∧ J W' := by
  refine callsIn_of_wp Tryz.func132 rfl trivial ?_ rfl
  simp only [Tryz.ntmps132, List.size_toArray, List.length_cons, List.length_nil, Nat.reduceAdd, Nat.reduceSub, Array.replicate_succ, Array.replicate_zero, List.push_toArray, List.append_toArray, List.nil_append, List.cons_append]
  gi_wp2
  gi_loopw [7] (fun i wr => i = .int .i64 0 ∧ J wr) (fun _ _ => 0)
  case atStart => exact ⟨rfl, h0⟩
  case round =>
    obtain ⟨rfl, hJs⟩ := hrel
    gi_wp2
    go_end0
    exact ⟨⟨_, rfl⟩, hJs⟩
set_option maxHeartbeats 1000000 in
theorem valuesI_in (F : Fence) (n : Nat) (h5 : F.fn 116) (hro : F.round = none) (a : Option Addr) (len cap : Nat) (w : World) :
    CallsIn F n Tryz.prog 116 #[.slice a len cap] w fun e w' => e = .returned (.func (.func 132) #[] #[.pointer (some ⟨w.heap.size, 0, none⟩)]) ∧ w' = w.alloc (.cells #[.slice a len cap] 108) := by
  refine callsIn_of_wp Tryz.func116 rfl h5 ?_ hro
  simp only [Tryz.ntmps116, List.size_toArray, List.length_cons, List.length_nil, Nat.reduceAdd, Nat.reduceSub, Array.replicate_succ, Array.replicate_zero, List.push_toArray, List.append_toArray, List.nil_append, List.cons_append]
  gi_wp2
  go_ret
  exact ⟨rfl, rfl⟩
theorem valuesI_rel (m : Nat) (hm : 1 ≤ m) (Bs n₀ : Nat) (sv : Value) (zs : List Int) (hreach : zs.length ≤ 140737488351232) (w : World) (hn₀ : n₀ ≤ w.heap.size)
    (hk : Boxed w Bs 108 sv) (hI : VSl 0 n₀ w sv (zs.map iv)) :
    SeqRel Fence.wide m Tryz.prog 132 #[.pointer (some ⟨Bs, 0, none⟩)] zs.length (fun k r _ => ∃ x, zs[k]? = some x ∧ r = #[iv x]) (fun _ => Below n₀) w := fun l J W hW _ _ _ hY h0 => by
  have hc' := (hW.cell (p := ⟨Bs, 0, none⟩) hk.lt).trans hk.cell
  obtain ⟨a, cap, rfl, _, h0' | ⟨b, off, rfl, _, hb, hcs⟩⟩ := hI.below hW hn₀
  · rw [List.map_eq_nil_iff] at h0'
    subst h0'
    exact (valuesI1_nil_in m l Bs a cap (J 0) W hc' h0).mono fun e W' ⟨he, hj⟩ => ⟨he, hj⟩
  · rw [List.length_map] at hc'
    exact valuesI1_in m hm l Bs n₀ b off cap zs hreach hb J W (fun k x W1 hx hj => hY k _ W1 (List.getElem?_eq_some_iff.1 hx).1 ⟨x, hx, rfl⟩ hj) hc' hcs h0
end Go.Proofs.YtbhfajnejibaoaaGreat
namespace Go.Proofs.YtbhfajnejibaoaaGreat
open Go.RowKit Go.Shelf
attribute [local go_sem] Oper.semAt_some
def headN (l : List UInt8) : Nat := be ((sumL cb sq l).take 3)
theorem headN_le (l : List UInt8) : headN l ≤ 16777215 := by
  have := be_lt' (l := (sumL cb sq l).take 3) (k := 3) (by rw [List.length_take]; omega)
  unfold headN; omega
def sumTo12 (x k : Nat) : Nat := ((List.range k).map fun i => dig x (11 - i)).sum
theorem sumTo12_succ (x k : Nat) : sumTo12 x (k + 1) = sumTo12 x k + dig x (11 - k) := by simp [sumTo12, List.range_succ]
theorem dig_le (x p : Nat) : dig x p ≤ 3 := by unfold dig; omega
theorem sumTo12_le (x k : Nat) : sumTo12 x k ≤ 3 * k := by
  induction k with
  | zero => simp [sumTo12]
  | succ k ih => rw [sumTo12_succ]; have := dig_le x (11 - k); omega
def restN (l : List UInt8) : Nat := 36 - sumTo12 (headN l) 12
def digL (l : List UInt8) : List Int := digs (headN l) 12 ++ digs (restN l) 3
theorem digL_length (l : List UInt8) : (digL l).length = 15 := by simp [digL, digs_length]
def RestI (B x : Nat) (w : World) (k : Nat) (W : World) : Prop := Boxed W B 3 (.int .i64 (36 - (sumTo12 x k : Int))) ∧ Below w.heap.size w W
theorem restI_own {B x : Nat} {w : World} {C : Nat} (hC : w.heap.size ≤ C) : OwnFrom C (RestI B x w) :=
  OwnFrom.and (Own.from (fun s X Y row hs hg hr => blk_own B 3 (fun s : Nat => [.int .i64 (36 - (sumTo12 x s : Int))]) s X Y row hs hg hr) _) (ownFrom_below (Nat.le_refl _) hC)
set_option maxRecDepth 100000 in
set_option maxHeartbeats 8000000 in
theorem digitsOf_in (m : Nat) (hm : 12 ≤ m) (l : List UInt8) (sv : Value) (w : World) (hreach : l.length ≤ 140737488353000) (hsv : BSl 0 w.heap.size w sv l) :
    CallsIn Fence.wide m Tryz.prog 93 #[sv] w (RowW w.heap.size 3 15 ((digL l).map iv) w) := by
  have h1 : 1 ≤ m := by omega
  have hsv0 := hsv
  obtain ⟨a, cap, rfl, hcap, hcs⟩ := hsv
  clear hcs
  refine callsIn_of_wp_marks Tryz.func93 rfl trivial ?_ rfl
  simp only [Tryz.ntmps93, List.size_toArray, List.length_cons, List.length_nil, Nat.reduceAdd, Nat.reduceSub, Array.replicate_succ, Array.replicate_zero, List.push_toArray, List.append_toArray, List.nil_append, List.cons_append]
  have hl32 : (sumL cb sq l).length = 32 := sumTo_length _ 8
  have hH : Hid (headN l = be ((sumL cb sq l).take 3)) := Lib.hid rfl
  have hD : Hid (digL l = digs (headN l) 12 ++ digs (restN l) 3) := Lib.hid rfl
  have hR : Hid (restN l = 36 - sumTo12 (headN l) 12) := Lib.hid rfl
  have hx := headN_le l
  gi_wp2_with (first
    | (refine ⟨trivial, ?_⟩; gi_at_call 108; refine (sum_in (m - 1) (by omega) l _ w hreach hsv0).mono ?_; rintro e w1 ⟨v1, rfl, hown1, hb1⟩; rw [hl32] at hown1; obtain ⟨g, c, rfl⟩ := ownsRow_succ hown1; have hq1 := BSl.of_own (l := sumL cb sq l) (by rw [hl32]; exact hown1); have hcc := (show 32 ≤ c by obtain ⟨_, c', e, h, _⟩ := hq1; rw [hl32] at h; cases e; exact h))
    | (refine ⟨trivial, ?_⟩; gi_at_call 113; refine (blobInt_in (m - 1) (by omega) ((sumL cb sq l).take 3) _ w1 (by rw [List.length_take]; omega) ((BSl.take (l := sumL cb sq l) (by rw [hl32]; exact hq1) 3 (by omega)).mono (Nat.zero_le _) (Nat.le_refl _))).mono ?_; rintro e w2 ⟨rfl, hb2⟩; rw [List.take_of_length_le (by rw [List.length_take]; omega), ← hH.out])
    | (refine ⟨trivial, ?_⟩; gi_at_call 115; refine (digits_in Fence.wide (m - 1) trivial rfl _ _ _).mono ?_; rintro e w3 ⟨rfl, hw3⟩; have kn : Boxed w3 w2.heap.size 3 (.int .i64 (headN l : Nat)) := (by rw [hw3]; exact (Boxed.new _ _ _).alloc _); have km : Boxed w3 (w2.heap.size + 1) 3 (.int .i64 ((12 : Nat) : Int)) := (by rw [hw3]; exact Blk.new' (vs := [.int .i64 12]) (by simp)); have hb3 : Below w2.heap.size w2 w3 := (by rw [hw3]; exact chainA (chain0 _ _) _); clear hw3)
    | (refine ⟨trivial, ?_⟩; gi_at_call 114; refine (collectI_in (m - 1) (by omega) (headN l) 12 hx (by omega) _ _ w3 kn km).mono ?_; rintro e w4 ⟨v4, rfl, hown4, hb4⟩; obtain ⟨g4, c4, rfl⟩ := ownsRow_succ hown4)
    | (refine ⟨trivial, ?_⟩; gi_at_call 116; refine (valuesI_in Fence.wide (m - 1) trivial rfl _ _ _ _).mono ?_; rintro e w5 ⟨rfl, hw5⟩))
  clear hw5
  have hq4 := VSl.of_own (vs := (digs (headN l) 12).map iv) (by rw [List.length_map, digs_length]; exact hown4)
  have hb14 : Below w.heap.size w w4 := chain (chain (chain hb1 hb2) hb3) hb4
  replace hown4 : w4.ownsRow w.heap.size 3 1 (.slice (some ⟨g4, 0, none⟩) (11 + 1) c4) 12 ((digs (headN l) 12).map iv) := own_base hown4 (chain (chain hb1 hb2) hb3).size
  clear hown1 hq1 hb1 hb2 hb3 hb4 kn km hcc
  generalize headN l = x at *
  generalize hW5 : World.alloc _ _ = W5
  have k0 : Boxed W5 w4.heap.size 3 (.int .i64 (36 - (sumTo12 x 0 : Int))) := by rw [← hW5]; exact (Boxed.new _ _ _).alloc _
  have k2 : Boxed W5 (w4.heap.size + 1) 108 (.slice (some ⟨g4, 0, none⟩) 12 c4) := by rw [← hW5]; exact Blk.new' (vs := [_]) (by simp)
  have hB0 : Below w4.heap.size w4 W5 := by rw [← hW5]; exact chainA (chain0 _ _) _
  have hz : W5.heap.size = w4.heap.size + 2 := by rw [← hW5]; simp
  clear hW5
  refine wpIn_rangeFunc_relA rfl h1 (gf := 132) (lb := #[.pointer (some ⟨w4.heap.size + 1, 0, none⟩)]) rfl trivial (enters_of Tryz.func132 (by kernel_rfl) rfl)
    (valuesI_rel (m - 1) (by omega) (w4.heap.size + 1) w4.heap.size _ (digs x 12) (by rw [digs_length]; omega) W5 (by omega) k2 ((hq4.mono (Nat.zero_le _) (Nat.le_refl _)).below hB0 (Nat.le_refl _))) (fun h k => h.trans k) (fun X o o' h2 h3 h4 => belowK_b (w := w4) (Nat.le_refl _) _ _ o o' (by omega) h2 h3 h4) (fun X => Below.refl _ X) (Below.refl _ _) (fun _ => rfl)
    (RestI w4.heap.size x w4) (restI_own (by omega)) ⟨k0, hB0⟩ (fun _ _ _ _ _ _ h _ _ => h) ?_ ?_ ?_ ?_
  rotate_left
  · intro l k y W K _ hK
    gi_wp2
    exact hK
  · rintro r k y W hlt ⟨kr, hB⟩ hy
    rw [digs_length] at hlt
    rw [digs_at x hlt] at hy
    obtain rfl := (Option.some.inj hy).symm
    have hs := sumTo12_succ x k
    have h3 := dig_le x (11 - k)
    have hle := sumTo12_le x k
    have kc := kr.cell
    have kf := kr.frozen
    have HS := Lib.hid hs
    clear hs hy
    have b1 : (sumTo12 x k : Int) ≤ 36 := by omega
    have b2 : (dig x (12 - 1 - k) : Int) ≤ 3 := by have := dig_le x (12 - 1 - k); omega
    have h11 : 12 - 1 - k = 11 - k := by omega
    rw [h11] at b2 ⊢
    generalize dig x (11 - k) = d at *
    generalize hS : sumTo12 x k = S at *
    have HS2 := Lib.hid hS
    clear hS h11
    gi_wp2
    refine ⟨(KeepsOthers.setCell _ _ _).from _, (Below.refl w4.heap.size W).setCell (p := ⟨w4.heap.size, 0, none⟩) (Nat.le_refl _) _, ?_, hB.setCell (p := ⟨w4.heap.size, 0, none⟩) (Nat.le_refl _) _⟩
    rw [HS.out, show (36 - ((S + d : Nat) : Int)) = 36 - (S : Int) - (d : Int) by omega]
    exact kr.set _
  · rintro D W hD ⟨kr, hB⟩ hK
    rw [digs_length] at kr
    have hle := sumTo12_le x 12
    have hr : (36 - (sumTo12 x 12 : Int)) = ((restN l : Nat) : Int) := by rw [hR.out]; omega
    rw [hr] at kr
    have hr36 : restN l ≤ 36 := by rw [hR.out]; omega
    have kc := kr.cell
    have hown5 := own_below hown4 hB
    have hB5 : Below w.heap.size w W := chain hb14 hB
    clear hown4 hr hle hR k0 k2 hB0
    generalize restN l = q at *
    have hDW := (Array.getElem?_eq_some_iff.1 hK).1
    have hsz := hB5.size
    have HZ := Lib.hid hz
    clear hz
    gi_wp2_with (first
      | (refine ⟨trivial, ?_⟩; gi_at_call 115; refine (digits_in Fence.wide (m - 1) trivial rfl _ _ _).mono ?_; rintro e w6 ⟨rfl, hw6⟩; have kn : Boxed w6 W.heap.size 3 (.int .i64 (q : Nat)) := (by rw [hw6]; exact (Boxed.new _ _ _).alloc _); have km : Boxed w6 (W.heap.size + 1) 3 (.int .i64 ((3 : Nat) : Int)) := (by rw [hw6]; exact Blk.new' (vs := [.int .i64 3]) (by simp)); have hb6 : Below W.heap.size W w6 := (by rw [hw6]; exact chainA (chain0 _ _) _); clear hw6)
      | (refine ⟨trivial, ?_⟩; gi_at_call 117; refine (appendSeqI_in (m - 1) (by omega) w.heap.size 12 q 3 (by omega) (by omega) (by omega) _ _ _ _ w6 (Nat.le_trans hsz hb6.size) (own_below hown5 hb6) kn km (.inr (by omega))).mono ?_; rintro e w7 ⟨v7, rfl, hown7, hb7, hsp7⟩; obtain ⟨g7, c7, rfl⟩ := ownsRow_succ hown7))
    have hK7 : w7.heap[D]? = some (.deferred (some [])) := hsp7.others.same _ _ ((hb6.block D hDW).trans hK) rfl
    have hB' := ((hB5.trans (hb6.mono hsz)).trans hb7).trans (belowK_b (w := w) (Nat.le_refl _) _ D _ (.deferred none) (by have := HZ.out; have := hb14.size; omega) hK7 rfl rfl)
    have hown3 := ownsRow_putObj hown7 (.deferred none) hK7 rfl
    rw [← List.map_append, ← hD.out] at hown3
    refine ⟨by simp, .inl ⟨_, _, rfl, run_takeDeferred hK7, ?_⟩⟩
    refine ⟨.slice (some ⟨g7, 0, none⟩) 15 c7, ?_, ?_⟩
    · simp [results, Tryz.f93, go_sem]
    · exact ⟨_, rfl, hown3, hB'⟩
theorem digitsOf_any (l : List UInt8) (sv : Value) (w : World) (hreach : l.length ≤ 140737488353000) (hsv : BSl 0 w.heap.size w sv l) :
    Calls Tryz.prog 93 #[sv] w (RowW w.heap.size 3 15 ((digL l).map iv) w) := callsIn_wide.1 (digitsOf_in 12 (by omega) l sv w hreach hsv)
end Go.Proofs.YtbhfajnejibaoaaGreat
namespace Go.Proofs.YtbhfajnejibaoaaGreat
open Go.RowKit Go.Shelf
def digF (l : List UInt8) (k : Nat) : Nat := if k < 12 then dig (headN l) (11 - k) else dig (restN l) (14 - k)
theorem digF_le (l : List UInt8) (k : Nat) : digF l k ≤ 3 := by unfold digF; split <;> exact dig_le _ _
theorem digF_step (l : List UInt8) (k : Nat) (h : k < 12) : sumTo12 (headN l) (k + 1) = sumTo12 (headN l) k + digF l k := by rw [sumTo12_succ]; unfold digF; rw [if_pos h]
theorem digL_at (l : List UInt8) {k : Nat} (h : k < 15) : (digL l)[k]? = some (digF l k : Int) := by
  unfold digL digF
  by_cases h12 : k < 12
  · rw [List.getElem?_append_left (by rw [digs_length]; exact h12), digs_at _ h12, if_pos h12]
  · rw [List.getElem?_append_right (by rw [digs_length]; omega), digs_length, digs_at _ (by omega), if_neg h12]
    congr 3; omega
theorem digRow {lo : Nat} {W : World} {v : Value} {l : List UInt8} (h : W.ownsRow lo 3 1 v 15 ((digL l).map iv)) :
    ∃ g c, v = .slice (some ⟨g, 0, none⟩) 15 c ∧ g < W.heap.size ∧ 15 ≤ c ∧ ∀ k, k < 15 → W.cell? ⟨g, k, none⟩ = some (.int .i64 (digF l k : Int)) := by
  have hq := VSl.of_own (vs := (digL l).map iv) (by rw [List.length_map, digL_length]; exact h)
  obtain ⟨g, c, rfl⟩ := ownsRow_succ h
  obtain ⟨a', c', e, hc, h0 | ⟨b, off, ha, _, hb, hr⟩⟩ := hq
  · have := congrArg List.length h0
    rw [List.length_map, digL_length] at this
    simp at this
  · rw [List.length_map, digL_length] at e hc
    cases e
    cases ha
    exact ⟨g, c, rfl, hb, hc, fun k hk => by
      have := hr k (.int .i64 (digF l k : Int)) (by rw [List.getElem?_map, digL_at l hk]; rfl)
      rwa [Nat.zero_add] at this⟩
end Go.Proofs.YtbhfajnejibaoaaGreat
namespace Go.Proofs.YtbhfajnejibaoaaGreat
open Go.RowKit Go.Shelf
set_option maxHeartbeats 1000000 in
theorem toEnd_any (k : Int) (w : World) : Calls Tryz.prog 58 #[.int .i64 k] w fun e W' => e = .returned (.int .i64 3) ∧ w = W' := by
  go_enter Tryz.func58, Tryz.ntmps58
  go_wp2
  go_ret
  exact ⟨rfl, rfl⟩
set_option maxHeartbeats 1000000 in
theorem openAt_any (k d : Nat) (hk : k < 15) (h3 : d ≤ 3) (g c B : Nat) (w : World) (kb : Boxed w B 108 (.slice (some ⟨g, 0, none⟩) 15 c)) (hd : w.cell? ⟨g, k, none⟩ = some (.int .i64 (d : Int))) :
    Calls Tryz.prog 94 #[.int .i64 (k : Int), .pointer (some ⟨B, 0, none⟩)] w fun e W' => e = .returned (.int .i64 (3 - (d : Int))) ∧ w = W' := by
  have cb := kb.cell
  have hk' : (k : Int) < 15 := by omega
  have h3' : (d : Int) ≤ 3 := by omega
  go_enter Tryz.func94, Tryz.ntmps94
  go_wp2
  go_ret
  exact ⟨rfl, rfl⟩
set_option maxHeartbeats 1000000 in
theorem wrong_any (s : ByteArray) (hs : s.size ≤ 9223372036854775807) (w : World) : Calls Tryz.prog 111 #[.string s] w fun e W' => e = .returned (.bool (decide (s.size ≠ 8))) ∧ w = W' := by
  have hs' : (s.size : Int) ≤ 9223372036854775807 := by omega
  by_cases h8 : s.size = 8
  · have hb : ((s.size : Int) != 8) = false := by simp; omega
    have H8 := Lib.hid h8
    clear h8
    go_enter Tryz.func111, Tryz.ntmps111
    go_wp2
    go_ret
    exact ⟨by simp [H8.out], rfl⟩
  · have hb : ((s.size : Int) != 8) = true := by simp; omega
    have H8 := Lib.hid h8
    clear h8
    go_enter Tryz.func111, Tryz.ntmps111
    go_wp2
    go_ret
    exact ⟨by simp [H8.out], rfl⟩
def IdxW (zs : List ByteArray) (w : World) (e : Ending) (W' : World) : Prop := ∃ i : Int, e = .returned (.int .i64 i) ∧ ((zs.all (fun x => x.size == 8) = true ∧ i = -1) ∨ (zs.all (fun x => x.size == 8) = false ∧ 0 ≤ i ∧ i ≤ 1000000)) ∧ w = W'
set_option maxRecDepth 100000 in
set_option maxHeartbeats 2000000 in
theorem indexFunc_any (zs : List ByteArray) (hn : zs.length ≤ 1000000) (hz : ∀ x ∈ zs, x.size ≤ 9223372036854775807) (sv : Value) (w : World) (hsv : VSl 0 w.heap.size w sv (zs.map tv)) :
    Calls Tryz.prog 129 #[sv, .func (.func 111) #[] #[]] w (IdxW zs w) := by
  obtain ⟨a, cap, rfl, _, h0⟩ := hsv
  rw [List.length_map]
  have hcell : ∀ k x, zs[k]? = some x → ∃ b off, a = some ⟨b, off, none⟩ ∧ w.cell? ⟨b, off + k, none⟩ = some (.string x) := fun k x hx => by
    rcases h0 with h0 | ⟨b, off, ha, _, _, hr⟩
    · rw [List.map_eq_nil_iff] at h0; subst h0; simp at hx
    · exact ⟨b, off, ha, hr k _ (by rw [List.getElem?_map, hx]; rfl)⟩
  have HC := Lib.hid hcell
  clear hcell h0
  go_enter Tryz.func129, Tryz.ntmps129
  go_wp2
  go_loop [5, 8] (fun _ i => ∃ k : Nat, k ≤ zs.length ∧ i = .int .i64 (k : Nat) ∧ (zs.take k).all (fun x => x.size == 8) = true) (fun _ i => zs.length - (intOf i).toNat)
  case atStart => exact ⟨0, by omega, rfl, rfl⟩
  case round =>
    obtain ⟨k, hk, rfl, hall⟩ := hrel
    have HA := Lib.hid hall
    clear hall
    by_cases hlt : k < zs.length
    · obtain ⟨x, hx⟩ : ∃ x, zs[k]? = some x := ⟨_, List.getElem?_eq_getElem hlt⟩
      obtain ⟨b, off, rfl, c0⟩ := HC.out k x hx
      have hxs := hz x (List.mem_of_getElem? hx)
      have HX := Lib.hid hx
      have HZ := Lib.hid hz
      clear hx hz
      have hlt' : (k : Int) < (zs.length : Int) := by omega
      generalize hL : zs.length = len at *
      have HLn := Lib.hid hL
      clear hL
      by_cases h8 : x.size = 8
      · have hd : decide (x.size ≠ 8) = false := by simp [h8]
        have HD := Lib.hid hd
        have H8 := Lib.hid h8
        clear hd h8
        go_wp2_with (go_at_call 111; refine (wrong_any x hxs _).mono ?_; rintro e w' ⟨rfl, rfl⟩; rw [HD.out])
        go_round
        case rel =>
          refine ⟨k + 1, by omega, by simp, ?_⟩
          rw [List.take_add_one, HX.out, List.all_append, HA.out]
          simp [H8.out]
        case measure => simp [intOf]; omega
      · have hd : decide (x.size ≠ 8) = true := by simp [h8]
        have HD := Lib.hid hd
        have H8 := Lib.hid h8
        clear hd h8
        go_wp2_with (go_at_call 111; refine (wrong_any x hxs _).mono ?_; rintro e w' ⟨rfl, rfl⟩; rw [HD.out])
        go_ret
        refine ⟨_, rfl, .inr ⟨?_, by omega, by omega⟩, rfl⟩
        rw [List.all_eq_false]
        exact ⟨x, List.mem_of_getElem? HX.out, by simp [H8.out]⟩
    · obtain rfl : k = zs.length := by omega
      go_wp2
      go_ret
      refine ⟨_, rfl, .inl ⟨?_, rfl⟩, rfl⟩
      have := HA.out
      rwa [List.take_length] at this
set_option maxHeartbeats 1000000 in
theorem containsFunc_any (zs : List ByteArray) (hn : zs.length ≤ 1000000) (hz : ∀ x ∈ zs, x.size ≤ 9223372036854775807) (sv : Value) (w : World) (hsv : VSl 0 w.heap.size w sv (zs.map tv)) :
    Calls Tryz.prog 112 #[sv, .func (.func 111) #[] #[]] w fun e W' => e = .returned (.bool (!zs.all (fun x => x.size == 8))) ∧ w = W' := by
  have hsv0 := hsv
  obtain ⟨a, c, rfl⟩ := hsv0.slice
  rw [List.length_map] at hsv ⊢
  clear hsv0
  go_enter Tryz.func112, Tryz.ntmps112
  go_wp2_with fail
  refine (indexFunc_any zs hn hz _ _ hsv).mono ?_
  rintro e w' ⟨i, rfl, h, rfl⟩
  rcases h with h | h
  · obtain ⟨ha, rfl⟩ := h
    have HA := Lib.hid ha
    clear ha
    go_wp2
    go_ret
    exact ⟨by rw [HA.out]; rfl, rfl⟩
  · obtain ⟨ha, h0, h1⟩ := h
    have HA := Lib.hid ha
    clear ha
    go_wp2
    go_ret
    exact ⟨by rw [HA.out]; rfl, rfl⟩
def wf (zs : List ByteArray) : Bool := decide (zs.length = 15) && zs.all (fun x => x.size == 8)
set_option maxHeartbeats 2000000 in
theorem wellFormed_any (zs : List ByteArray) (hz : ∀ x ∈ zs, x.size ≤ 9223372036854775807) (sv : Value) (w : World) (hsv : VSl 0 w.heap.size w sv (zs.map tv)) :
    Calls Tryz.prog 92 #[sv] w fun e W' => e = .returned (.bool (wf zs)) ∧ w = W' := by
  have hsv0 := hsv
  obtain ⟨a, c, rfl⟩ := hsv0.slice
  rw [List.length_map] at hsv ⊢
  by_cases h15 : zs.length = 15
  · have hwf : wf zs = zs.all (fun x => x.size == 8) := by unfold wf; simp [h15]
    have HW := Lib.hid hwf
    clear hwf
    have hn' : zs.length ≤ 1000000 := by omega
    rw [h15] at hsv ⊢
    clear h15
    go_enter Tryz.func92, Tryz.ntmps92
    go_wp2_with fail
    refine (containsFunc_any zs hn' hz _ _ hsv).mono ?_
    rintro e w' ⟨rfl, rfl⟩
    go_wp2_with fail
    go_ret
    exact ⟨by rw [HW.out]; simp, rfl⟩
  · have hwf : wf zs = false := by unfold wf; simp [h15]
    have HW := Lib.hid hwf
    clear hwf
    have h15' : ((zs.length : Int) == 15) = false := by simp; omega
    clear h15
    go_enter Tryz.func92, Tryz.ntmps92
    go_wp2
    go_ret
    exact ⟨by rw [HW.out]; rfl, rfl⟩
end Go.Proofs.YtbhfajnejibaoaaGreat
