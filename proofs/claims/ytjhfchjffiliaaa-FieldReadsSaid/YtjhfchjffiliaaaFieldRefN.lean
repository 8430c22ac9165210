/-
  The reference's writer: a number, a text, a wide number.
-/
import Derived.Test.YtjhfchjffiliaaaFieldRefW
namespace Go.Proofs.Ytjhfchjffiliaaa
open Go.RowKit Go.Shelf

/-- An answer is stored into two cells. -/
theorem stored_at {l : List UInt8} {y : Int} {w Y : World} {sv : Value} {T : TypeId} {NB : Nat} {z : Value} {x : Int} (hsl : BSl 0 Y.heap.size Y sv l) (hB : Below w.heap.size w Y) (hNB : w.heap.size ≤ NB) (hz : ∃ a m c, z = .slice a m c)
    (kR : Blk Y NB T [z, .int .i64 x]) :
    Blk ((Y.setCell ⟨NB, 0, none⟩ sv).setCell ⟨NB, 1, none⟩ (.int .i64 y)) NB T [sv, .int .i64 y] ∧
    BSl 0 ((Y.setCell ⟨NB, 0, none⟩ sv).setCell ⟨NB, 1, none⟩ (.int .i64 y)).heap.size ((Y.setCell ⟨NB, 0, none⟩ sv).setCell ⟨NB, 1, none⟩ (.int .i64 y)) sv l ∧ Below w.heap.size w ((Y.setCell ⟨NB, 0, none⟩ sv).setCell ⟨NB, 1, none⟩ (.int .i64 y)) := by
  obtain ⟨a, m, c, rfl⟩ := hz
  obtain ⟨a2, m2, c2, rfl⟩ := hsl.shape3
  have k1 := kR.set 0 (.slice a2 m2 c2)
  refine ⟨k1.set 1 _, ?_, (hB.setCell (p := ⟨NB, 0, none⟩) hNB _).setCell (p := ⟨NB, 1, none⟩) hNB _⟩
  exact ((hsl.to (Nat.le_refl _) (grownBy_setCell4 Y NB 0 (.slice a2 m2 c2)) (fun r e => by cases e; exact noOct2 kR)).to (by simp) (grownBy_setCell4 _ NB 1 (.int .i64 y)) (fun r e => by cases e; exact noOct2 k1)).mono (Nat.le_refl _) (by simp)
/-- Behind a call whose answer is stored into the result's cells. -/
theorem refS_stored {s : St} {w Y : World} {sv : Value} {NB : Nat} {z : Value} {x : Int} (hsl : BSl 0 Y.heap.size Y sv s.1) (hB : Below w.heap.size w Y) (hNB : w.heap.size ≤ NB) (hz : ∃ a m c, z = .slice a m c)
    (kR : Blk Y NB 28 [z, .int .i64 x]) :
    Blk ((Y.setCell ⟨NB, 0, none⟩ sv).setCell ⟨NB, 1, none⟩ (.int .i64 s.2)) NB 28 [sv, .int .i64 s.2] ∧ RefS s w (.returned (.agg #[sv, .int .i64 s.2])) ((Y.setCell ⟨NB, 0, none⟩ sv).setCell ⟨NB, 1, none⟩ (.int .i64 s.2)) := by
  obtain ⟨h1, h2, h3⟩ := stored_at (y := s.2) hsl hB hNB hz kR
  exact ⟨h1, _, rfl, h2, h3⟩

set_option maxRecDepth 100000 in
set_option maxHeartbeats 2000000 in
theorem refNum6_any {s : St} (hok : OkS s) (sv : Value) (n : Int) (w : World) (hsl : BSl 0 w.heap.size w sv s.1) :
    Calls Try.prog 30 #[.agg #[sv, .int .i64 s.2], .int .i64 n] w (RefS (numS s n) w) := by
  have hmx : Try.prog.follows .mixedOrders = true := by kernel_rfl
  obtain ⟨a, m, c, rfl⟩ := hsl.shape3
  by_cases hn : 0 ≤ n ∧ n ≤ 1099511627776
  · have e1 : numS s n = addS s (octs (two n) 6) := if_pos hn
    rw [e1]
    clear e1
    obtain ⟨h0, h1⟩ := hn
    have g0 : ¬ n < 0 := by omega
    have g1 : ¬ 1099511627776 < n := by omega
    go_enter Try.func30, Try.ntmps30
    go_wp2_with fail
    generalize hW0 : World.alloc _ _ = W0
    have kA : Blk W0 w.heap.size 28 [.slice a m c, .int .i64 s.2] := by rw [← hW0]; exact (Blk.new w _ [_, _]).alloc _
    have kR : Blk W0 (w.heap.size + 1) 28 [.slice none 0 0, .int .i64 0] := by rw [← hW0]; exact Blk.new' (vs := [_, _]) (by simp)
    have hB0 : Below w.heap.size w W0 := by rw [← hW0]; exact chainA (chain0 _ _) _
    have hz0 : W0.heap.size = w.heap.size + 2 := by rw [← hW0]; simp
    clear hW0
    have HZ := Lib.hid hz0
    clear hz0
    clear g0 g1
    refine wp_region_held_drew (S := fun W => Blk W w.heap.size 28 [.slice a m c, .int .i64 s.2]) hmx kA ?_
    intro hS
    replace kR : Blk W0.drew (w.heap.size + 1) 28 [.slice none 0 0, .int .i64 0] := kR
    have hB := hB0.drew
    replace hsl : BSl 0 W0.drew.heap.size W0.drew (.slice a m c) s.1 := (hsl.below hB (Nat.le_refl _)).mono (Nat.le_refl _) hB.size
    have HZ2 : Hid (W0.drew.heap.size = w.heap.size + 2) := HZ.out
    clear HZ kA hB0
    generalize W0.drew = Y at *
    refine' wpAnyH_take (i := 0) (oi := _) (v := _) ?hi1 (by kernel_rfl) (by kernel_rfl) (by kernel_rfl) ?hQ1 (Or.inl ⟨?hw1, ?hy1⟩) hS ?rest1
    case hi1 => simp only [List.getElem?_toArray, List.getElem?_cons_zero]; rfl
    case hQ1 => exact fun _ _ _ h => h
    case hw1 => rfl
    case hy1 => intro W' hS'; obtain ⟨c0, c1⟩ := Blk.c2 hS'; go_simp; with_reducible rfl
    try simp only [Act.put, List.setIfInBounds_toArray, List.set_cons_zero, List.set_cons_succ]
    refine' wpAnyH_take (i := 1) (oi := _) (v := _) ?hi2 (by kernel_rfl) (by kernel_rfl) (by kernel_rfl) ?hQ2 (Or.inl ⟨?hw2, ?hy2⟩) hS ?rest2
    case hi2 => simp only [List.getElem?_toArray, List.getElem?_cons_succ, List.getElem?_cons_zero]; rfl
    case hQ2 => exact fun _ _ _ h => h
    case hw2 => rfl
    case hy2 => intro W' hS'; go_simp; with_reducible rfl
    try simp only [Act.put, List.setIfInBounds_toArray, List.set_cons_zero, List.set_cons_succ]
    refine wpAnyH_ready (rs := [2]) (by kernel_rfl) (by simp) ?_
    refine' AllReadyH.cons (o := _) ?ho3 (fun K hK => ?st3) AllReadyH.nil
    case ho3 => simp only [List.getElem?_toArray, List.getElem?_cons_succ, List.getElem?_cons_zero]; rfl
    case st3 =>
      go_simp
      refine (refNum_any n 6 (by omega) (by omega) _).mono ?_
      rintro e Y1 ⟨v, rfl, hv, hb1⟩
      refine hK.out _ _ (hS.below hb1 hS.lt) (fun hS => ?_)
      clear hK K
      try simp only [Act.put, List.setIfInBounds_toArray, List.set_cons_zero, List.set_cons_succ]
      replace kR := kR.below hb1 kR.lt
      replace hB := chain hB hb1
      replace hsl := (hsl.below hb1 (Nat.le_refl _)).mono (Nat.le_refl _) hb1.size
      rw [clamp6'] at hv
      obtain ⟨va, vm, vc, rfl⟩ := hv.shape3
      replace hv := hv.mono (Nat.zero_le _) (Nat.le_refl _)
      clear hb1
      refine wpAnyH_ready (rs := [3]) (by kernel_rfl) (by simp) ?_
      refine' AllReadyH.cons (o := _) ?ho4 (fun K hK => ?st4) AllReadyH.nil
      case ho4 => simp only [List.getElem?_toArray, List.getElem?_cons_succ, List.getElem?_cons_zero]; rfl
      case st4 =>
        go_simp
        refine (refPut_any hok (.slice a m c) (.slice va vm vc) (octs (two n) 6) (by rw [octs_length]; omega) _ hsl hv).mono ?_
        rintro e Y2 ⟨v2, rfl, hv2, hb2⟩
        refine hK.out _ _ (hS.below hb2 hS.lt) (fun hS => ?_)
        clear hK K
        try simp only [Act.put, List.setIfInBounds_toArray, List.set_cons_zero, List.set_cons_succ]
        replace kR := kR.below hb2 kR.lt
        replace hB := chain hB hb2
        clear hv hb2 hsl
        obtain ⟨va, vm, vc, rfl⟩ := hv2.shape3
        have hv := hv2
        clear hv2
        refine wpAnyH_ready (rs := [4]) (by kernel_rfl) (by simp) ?_
        refine' AllReadyH.cons (o := _) ?ho5 (fun K hK => ?st5) AllReadyH.nil
        case ho5 => simp only [List.getElem?_toArray, List.getElem?_cons_succ, List.getElem?_cons_zero]; rfl
        case st5 =>
          obtain ⟨r0, r1⟩ := Blk.c2 kR
          have g0 := kR.frozen 0
          have g1 := kR.frozen 1
          go_simp
          have hfin := refS_stored hv hB (Nat.le_add_right _ 1) ⟨_, _, _, rfl⟩ kR
          refine hK.out _ _ ((hS.other 0 _ (by omega)).other 1 _ (by omega)) (fun hS => ?_)
          clear hK K
          try simp only [Act.put, List.setIfInBounds_toArray, List.set_cons_zero, List.set_cons_succ]
          refine wpAnyH_done (by kernel_rfl) ?_ _
          go_wp2_with fail
          obtain ⟨q0, q1⟩ := Blk.c2 hfin.1
          exact bodyPost_ret (v := .agg #[.slice va vm vc, .int .i64 (addS s (octs (two n) 6)).2]) (by simp [results, Try.results30, go_sem, q0, q1]) rfl hfin.2
  · have e1 : numS s n = errS s 4 := if_neg hn
    rw [e1]
    clear e1
    by_cases h0 : n < 0
    all_goals
      have HN := Lib.hid hn
      clear hn
      try (have g1 : 1099511627776 < n := by have := HN.out; omega)
      go_enter Try.func30, Try.ntmps30
      go_wp2_with fail
      generalize hW0 : World.alloc _ _ = W0
      have kA : Blk W0 w.heap.size 28 [.slice a m c, .int .i64 s.2] := by rw [← hW0]; exact (Blk.new w _ [_, _]).alloc _
      have kR : Blk W0 (w.heap.size + 1) 28 [.slice none 0 0, .int .i64 0] := by rw [← hW0]; exact Blk.new' (vs := [_, _]) (by simp)
      have hB0 : Below w.heap.size w W0 := by rw [← hW0]; exact chainA (chain0 _ _) _
      have hz0 : W0.heap.size = w.heap.size + 2 := by rw [← hW0]; simp
      clear hW0
      have HZ := Lib.hid hz0
      clear hz0
      obtain ⟨c0, c1⟩ := Blk.c2 kA
      go_wp2_with (go_at_call 47; refine (refPutE_any (s := s) (.slice a m c) (.slice none 0 0) 4 (by decide) _ ((hsl.below hB0 (Nat.le_refl _)).mono (Nat.le_refl _) hB0.size)).mono ?_; rintro e Y2 ⟨v2, rfl, hv2, hb2⟩; obtain ⟨va, vm, vc, rfl⟩ := hv2.shape3; have kR2 := kR.below hb2 kR.lt; obtain ⟨r0, r1⟩ := Blk.c2 kR2; have g0 := kR2.frozen 0; have g1 := kR2.frozen 1)
      have hfin := refS_stored hv2 (chain hB0 hb2) (Nat.le_add_right _ 1) ⟨_, _, _, rfl⟩ kR2
      obtain ⟨q0, q1⟩ := Blk.c2 hfin.1
      exact bodyPost_ret (v := .agg #[.slice va vm vc, .int .i64 (errS s 4).2]) (by simp [results, Try.results30, go_sem, q0, q1]) rfl hfin.2

set_option maxRecDepth 100000 in
set_option maxHeartbeats 2000000 in
theorem refWide6_any {s : St} (hok : OkS s) (sv : Value) {a0 a1 a2 a3 : Nat} (ha : Ok4 a0 a1 a2 a3) (w : World) (hsl : BSl 0 w.heap.size w sv s.1) :
    Calls Try.prog 32 #[.agg #[sv, .int .i64 s.2], wv a0 a1 a2 a3] w (RefS (wideS s a0 a1 a2 a3) w) := by
  have hmx : Try.prog.follows .mixedOrders = true := by kernel_rfl
  obtain ⟨a, m, c, rfl⟩ := hsl.shape3
  have hl : (wide8 a0 a1 a2 a3).length = 32 := by unfold wide8; simp only [List.length_append, octs_length]
  have HL := Lib.hid hl
  clear hl
  unfold wideS
  go_enter Try.func32, Try.ntmps32
  go_wp2_with fail
  generalize hW0 : World.alloc _ _ = W0
  have kA : Blk W0 w.heap.size 28 [.slice a m c, .int .i64 s.2] := by rw [← hW0]; exact ((Blk.new w _ [_, _]).alloc _).alloc _
  have kV : BlkW W0 (w.heap.size + 1) a0 a1 a2 a3 := by rw [← hW0]; exact (Blk.new' (vs := [_, _, _, _]) (by simp)).alloc _
  have kR : Blk W0 (w.heap.size + 2) 28 [.slice none 0 0, .int .i64 0] := by rw [← hW0]; exact Blk.new' (vs := [_, _]) (by simp)
  have hB0 : Below w.heap.size w W0 := by rw [← hW0]; exact chainA (chainA (chain0 _ _) _) _
  have hz0 : W0.heap.size = w.heap.size + 3 := by rw [← hW0]; simp
  clear hW0
  have HZ := Lib.hid hz0
  clear hz0
  refine wp_region_held_drew (S := fun W => Blk W w.heap.size 28 [.slice a m c, .int .i64 s.2] ∧ BlkW W (w.heap.size + 1) a0 a1 a2 a3) hmx ⟨kA, kV⟩ ?_
  intro hS
  replace kR : Blk W0.drew (w.heap.size + 2) 28 [.slice none 0 0, .int .i64 0] := kR
  have hB := hB0.drew
  replace hsl : BSl 0 W0.drew.heap.size W0.drew (.slice a m c) s.1 := (hsl.below hB (Nat.le_refl _)).mono (Nat.le_refl _) hB.size
  have HZ2 : Hid (W0.drew.heap.size = w.heap.size + 3) := HZ.out
  clear HZ kA kV hB0
  generalize W0.drew = Y at *
  refine' wpAnyH_take (i := 0) (oi := _) (v := _) ?hi6 (by kernel_rfl) (by kernel_rfl) (by kernel_rfl) ?hQ6 (Or.inl ⟨?hw6, ?hy6⟩) hS ?rest6
  case hi6 => simp only [List.getElem?_toArray, List.getElem?_cons_zero]; rfl
  case hQ6 => exact fun _ _ _ h => h
  case hw6 => rfl
  case hy6 => intro W' hS'; obtain ⟨c0, c1⟩ := Blk.c2 hS'.1; go_simp; with_reducible rfl
  try simp only [Act.put, List.setIfInBounds_toArray, List.set_cons_zero, List.set_cons_succ]
  refine' wpAnyH_take (i := 1) (oi := _) (v := _) ?hi7 (by kernel_rfl) (by kernel_rfl) (by kernel_rfl) ?hQ7 (Or.inl ⟨?hw7, ?hy7⟩) hS ?rest7
  case hi7 => simp only [List.getElem?_toArray, List.getElem?_cons_succ, List.getElem?_cons_zero]; rfl
  case hQ7 => exact fun _ _ _ h => h
  case hw7 => rfl
  case hy7 => intro W' hS'; obtain ⟨c0, c1, c2, c3⟩ := Blk.c4 hS'.2; go_simp; with_reducible rfl
  try simp only [Act.put, List.setIfInBounds_toArray, List.set_cons_zero, List.set_cons_succ]
  refine wpAnyH_ready (rs := [2]) (by kernel_rfl) (by simp) ?_
  refine' AllReadyH.cons (o := _) ?ho8 (fun K hK => ?st8) AllReadyH.nil
  case ho8 => simp only [List.getElem?_toArray, List.getElem?_cons_succ, List.getElem?_cons_zero]; rfl
  case st8 =>
    go_simp
    refine (refWide_any ha _).mono ?_
    rintro e Y1 ⟨v, rfl, hv, hb1⟩
    refine hK.out _ _ ⟨hS.1.below hb1 hS.1.lt, hS.2.below hb1 hS.2.lt⟩ (fun hS => ?_)
    clear hK K
    try simp only [Act.put, List.setIfInBounds_toArray, List.set_cons_zero, List.set_cons_succ]
    replace kR := kR.below hb1 kR.lt
    replace hB := chain hB hb1
    replace hsl := (hsl.below hb1 (Nat.le_refl _)).mono (Nat.le_refl _) hb1.size
    obtain ⟨va, vm, vc, rfl⟩ := hv.shape3
    replace hv := hv.mono (Nat.zero_le _) (Nat.le_refl _)
    clear hb1
    refine wpAnyH_ready (rs := [3]) (by kernel_rfl) (by simp) ?_
    refine' AllReadyH.cons (o := _) ?ho9 (fun K hK => ?st9) AllReadyH.nil
    case ho9 => simp only [List.getElem?_toArray, List.getElem?_cons_succ, List.getElem?_cons_zero]; rfl
    case st9 =>
      go_simp
      refine (refPut_any hok (.slice a m c) (.slice va vm vc) (wide8 a0 a1 a2 a3) (by rw [HL.out]; omega) _ hsl hv).mono ?_
      rintro e Y2 ⟨v2, rfl, hv2, hb2⟩
      refine hK.out _ _ ⟨hS.1.below hb2 hS.1.lt, hS.2.below hb2 hS.2.lt⟩ (fun hS => ?_)
      clear hK K
      try simp only [Act.put, List.setIfInBounds_toArray, List.set_cons_zero, List.set_cons_succ]
      replace kR := kR.below hb2 kR.lt
      replace hB := chain hB hb2
      clear hv hb2 hsl
      obtain ⟨va, vm, vc, rfl⟩ := hv2.shape3
      have hv := hv2
      clear hv2
      refine wpAnyH_ready (rs := [4]) (by kernel_rfl) (by simp) ?_
      refine' AllReadyH.cons (o := _) ?ho10 (fun K hK => ?st10) AllReadyH.nil
      case ho10 => simp only [List.getElem?_toArray, List.getElem?_cons_succ, List.getElem?_cons_zero]; rfl
      case st10 =>
        obtain ⟨r0, r1⟩ := Blk.c2 kR
        have g0 := kR.frozen 0
        have g1 := kR.frozen 1
        go_simp
        have hfin := refS_stored hv hB (Nat.le_add_right _ 2) ⟨_, _, _, rfl⟩ kR
        refine hK.out _ _ ⟨(hS.1.other 0 _ (by omega)).other 1 _ (by omega), (hS.2.other 0 _ (by omega)).other 1 _ (by omega)⟩ (fun hS => ?_)
        clear hK K
        try simp only [Act.put, List.setIfInBounds_toArray, List.set_cons_zero, List.set_cons_succ]
        refine wpAnyH_done (by kernel_rfl) ?_ _
        go_wp2_with fail
        obtain ⟨q0, q1⟩ := Blk.c2 hfin.1
        exact bodyPost_ret (v := .agg #[.slice va vm vc, .int .i64 (addS s (wide8 a0 a1 a2 a3)).2]) (by simp [results, Try.results32, go_sem, q0, q1]) rfl hfin.2

set_option maxRecDepth 100000 in
set_option maxHeartbeats 2000000 in
theorem refText6_any {s : St} (hok : OkS s) (sv : Value) (t : ByteArray) (w : World) (hsl : BSl 0 w.heap.size w sv s.1) :
    Calls Try.prog 31 #[.agg #[sv, .int .i64 s.2], .string t] w (RefS (txtS s t) w) := by
  have hmx : Try.prog.follows .mixedOrders = true := by kernel_rfl
  obtain ⟨a, m, c, rfl⟩ := hsl.shape3
  by_cases hn : t.size ≤ 1024
  · have e1 : txtS s t = addS s (octs t.size 2 ++ t.data.toList) := if_pos hn
    rw [e1]
    clear e1
    have htl : t.data.toList.length = t.size := by rw [Array.length_toList]; rfl
    have g1 : ¬ (1024 : Int) < (t.size : Int) := by omega
    have HL := Lib.hid htl
    clear htl
    go_enter Try.func31, Try.ntmps31
    go_wp2_with fail
    generalize hW0 : World.alloc _ _ = W0
    have kA : Blk W0 w.heap.size 28 [.slice a m c, .int .i64 s.2] := by rw [← hW0]; exact (Blk.new w _ [_, _]).alloc _
    have kR : Blk W0 (w.heap.size + 1) 28 [.slice none 0 0, .int .i64 0] := by rw [← hW0]; exact Blk.new' (vs := [_, _]) (by simp)
    have hB0 : Below w.heap.size w W0 := by rw [← hW0]; exact chainA (chain0 _ _) _
    have hz0 : W0.heap.size = w.heap.size + 2 := by rw [← hW0]; simp
    clear hW0
    have HZ := Lib.hid hz0
    clear hz0
    clear g1
    refine wp_region_held_drew (S := fun W => Blk W w.heap.size 28 [.slice a m c, .int .i64 s.2]) hmx kA ?_
    intro hS
    replace kR : Blk W0.drew (w.heap.size + 1) 28 [.slice none 0 0, .int .i64 0] := kR
    have hB := hB0.drew
    replace hsl : BSl 0 W0.drew.heap.size W0.drew (.slice a m c) s.1 := (hsl.below hB (Nat.le_refl _)).mono (Nat.le_refl _) hB.size
    have HZ2 : Hid (W0.drew.heap.size = w.heap.size + 2) := HZ.out
    clear HZ kA hB0
    generalize W0.drew = Y at *
    refine' wpAnyH_take (i := 0) (oi := _) (v := _) ?hi11 (by kernel_rfl) (by kernel_rfl) (by kernel_rfl) ?hQ11 (Or.inl ⟨?hw11, ?hy11⟩) hS ?rest11
    case hi11 => simp only [List.getElem?_toArray, List.getElem?_cons_zero]; rfl
    case hQ11 => exact fun _ _ _ h => h
    case hw11 => rfl
    case hy11 => intro W' hS'; obtain ⟨c0, c1⟩ := Blk.c2 hS'; go_simp; with_reducible rfl
    try simp only [Act.put, List.setIfInBounds_toArray, List.set_cons_zero, List.set_cons_succ]
    refine' wpAnyH_take (i := 1) (oi := _) (v := _) ?hi12 (by kernel_rfl) (by kernel_rfl) (by kernel_rfl) ?hQ12 (Or.inl ⟨?hw12, ?hy12⟩) hS ?rest12
    case hi12 => simp only [List.getElem?_toArray, List.getElem?_cons_succ, List.getElem?_cons_zero]; rfl
    case hQ12 => exact fun _ _ _ h => h
    case hw12 => rfl
    case hy12 => intro W' hS'; go_simp; with_reducible rfl
    try simp only [Act.put, List.setIfInBounds_toArray, List.set_cons_zero, List.set_cons_succ]
    refine' wpAnyH_take (i := 2) (oi := _) (v := _) ?hi13 (by kernel_rfl) (by kernel_rfl) (by kernel_rfl) ?hQ13 (Or.inl ⟨?hw13, ?hy13⟩) hS ?rest13
    case hi13 => simp only [List.getElem?_toArray, List.getElem?_cons_succ, List.getElem?_cons_zero]; rfl
    case hQ13 => exact fun _ _ _ h => h
    case hw13 => rfl
    case hy13 => intro W' hS'; go_simp; with_reducible rfl
    try simp only [Act.put, List.setIfInBounds_toArray, List.set_cons_zero, List.set_cons_succ]
    refine' wpAnyH_take (i := 4) (oi := _) (v := _) ?hi14 (by kernel_rfl) (by kernel_rfl) (by kernel_rfl) ?hQ14 (Or.inl ⟨?hw14, ?hy14⟩) hS ?rest14
    case hi14 => simp only [List.getElem?_toArray, List.getElem?_cons_succ, List.getElem?_cons_zero]; rfl
    case hQ14 => exact fun _ _ _ h => h
    case hw14 => rfl
    case hy14 => intro W' hS'; go_simp; with_reducible rfl
    try simp only [Act.put, List.setIfInBounds_toArray, List.set_cons_zero, List.set_cons_succ]
    refine wpAnyH_ready (rs := [3, 5]) (by kernel_rfl) (by simp) ?_
    refine' AllReadyH.cons (o := _) ?ho15 (fun K hK => ?st15) (AllReadyH.cons (o := _) ?ho16 (fun K hK => ?st16) AllReadyH.nil)
    case ho15 => simp only [List.getElem?_toArray, List.getElem?_cons_succ, List.getElem?_cons_zero]; rfl
    case ho16 => simp only [List.getElem?_toArray, List.getElem?_cons_succ, List.getElem?_cons_zero]; rfl
    case st15 =>
      go_simp
      refine (refNum_any t.size 2 (by omega) (by omega) _).mono ?_
      rintro e Y1 ⟨v, rfl, hv, hb1⟩
      refine hK.out _ _ (hS.below hb1 hS.lt) (fun hS => ?_)
      clear hK K
      try simp only [Act.put, List.setIfInBounds_toArray, List.set_cons_zero, List.set_cons_succ]
      replace kR := kR.below hb1 kR.lt
      replace hB := chain hB hb1
      replace hsl := (hsl.below hb1 (Nat.le_refl _)).mono (Nat.le_refl _) hb1.size
      rw [clamp2', two_nat' (by omega)] at hv
      obtain ⟨va, vm, vc, rfl⟩ := hv.shape3
      replace hv := hv.mono (Nat.zero_le _) (Nat.le_refl _)
      clear hb1
      refine wpAnyH_ready (rs := [5]) (by kernel_rfl) (by simp) ?_
      refine' AllReadyH.cons (o := _) ?ho17 (fun K hK => ?st17) AllReadyH.nil
      case ho17 => simp only [List.getElem?_toArray, List.getElem?_cons_succ, List.getElem?_cons_zero]; rfl
      case st17 =>
        obtain ⟨c5, Y5, hcv, hc5, hb5, hz5, ho5⟩ := conv_bytes Y1 t
        have hx := (conv_bsl hc5 hz5 ho5).mono (Nat.zero_le _) (Nat.le_refl _)
        clear hz5 ho5
        go_simp
        refine hK.out _ _ (hS.below hb5 hS.lt) (fun hS => ?_)
        clear hK K
        try simp only [Act.put, List.setIfInBounds_toArray, List.set_cons_zero, List.set_cons_succ]
        replace kR := kR.below hb5 kR.lt
        replace hB := chain hB hb5
        replace hsl := (hsl.below hb5 (Nat.le_refl _)).mono (Nat.le_refl _) hb5.size
        replace hv := (hv.below hb5 (Nat.le_refl _)).mono (Nat.le_refl _) hb5.size
        clear hb5 hcv hc5
        generalize (some (⟨Y1.heap.size, 0, none⟩ : Addr)) = xa at *
        refine wpAnyH_ready (rs := [6]) (by kernel_rfl) (by simp) ?_
        refine' AllReadyH.cons (o := _) ?ho18 (fun K hK => ?st18) AllReadyH.nil
        case ho18 => simp only [List.getElem?_toArray, List.getElem?_cons_succ, List.getElem?_cons_zero]; rfl
        case st18 =>
          go_simp
          refine (refCat_any (octs t.size 2) t.data.toList (.slice va vm vc) (.slice xa t.size c5) _ (by rw [octs_length, HL.out]; omega) hv hx).mono ?_
          rintro e Y3 ⟨v3, rfl, hv3, hb1⟩
          refine hK.out _ _ (hS.below hb1 hS.lt) (fun hS => ?_)
          clear hK K
          try simp only [Act.put, List.setIfInBounds_toArray, List.set_cons_zero, List.set_cons_succ]
          replace kR := kR.below hb1 kR.lt
          replace hB := chain hB hb1
          replace hsl := (hsl.below hb1 (Nat.le_refl _)).mono (Nat.le_refl _) hb1.size
          have hv4 := (BSl.of_own hv3).mono (Nat.zero_le _) (Nat.le_refl _)
          clear hb1 hv hx hv3
          obtain ⟨va, vm, vc, rfl⟩ := hv4.shape3
          have hv := hv4
          clear hv4
          refine wpAnyH_ready (rs := [7]) (by kernel_rfl) (by simp) ?_
          refine' AllReadyH.cons (o := _) ?ho19 (fun K hK => ?st19) AllReadyH.nil
          case ho19 => simp only [List.getElem?_toArray, List.getElem?_cons_succ, List.getElem?_cons_zero]; rfl
          case st19 =>
            go_simp
            refine (refPut_any hok (.slice a m c) (.slice va vm vc) (octs t.size 2 ++ t.data.toList) (by rw [List.length_append, octs_length, HL.out]; omega) _ hsl hv).mono ?_
            rintro e Y2 ⟨v2, rfl, hv2, hb2⟩
            refine hK.out _ _ (hS.below hb2 hS.lt) (fun hS => ?_)
            clear hK K
            try simp only [Act.put, List.setIfInBounds_toArray, List.set_cons_zero, List.set_cons_succ]
            replace kR := kR.below hb2 kR.lt
            replace hB := chain hB hb2
            clear hv hb2 hsl
            obtain ⟨va, vm, vc, rfl⟩ := hv2.shape3
            have hv := hv2
            clear hv2
            refine wpAnyH_ready (rs := [8]) (by kernel_rfl) (by simp) ?_
            refine' AllReadyH.cons (o := _) ?ho20 (fun K hK => ?st20) AllReadyH.nil
            case ho20 => simp only [List.getElem?_toArray, List.getElem?_cons_succ, List.getElem?_cons_zero]; rfl
            case st20 =>
              obtain ⟨r0, r1⟩ := Blk.c2 kR
              have g0 := kR.frozen 0
              have g1 := kR.frozen 1
              go_simp
              have hfin := refS_stored hv hB (Nat.le_add_right _ 1) ⟨_, _, _, rfl⟩ kR
              refine hK.out _ _ ((hS.other 0 _ (by omega)).other 1 _ (by omega)) (fun hS => ?_)
              clear hK K
              try simp only [Act.put, List.setIfInBounds_toArray, List.set_cons_zero, List.set_cons_succ]
              refine wpAnyH_done (by kernel_rfl) ?_ _
              go_wp2_with fail
              obtain ⟨q0, q1⟩ := Blk.c2 hfin.1
              exact bodyPost_ret (v := .agg #[.slice va vm vc, .int .i64 (addS s (octs t.size 2 ++ t.data.toList)).2]) (by simp [results, Try.results31, go_sem, q0, q1]) rfl hfin.2
    case st16 =>
      obtain ⟨c5, Y5, hcv, hc5, hb5, hz5, ho5⟩ := conv_bytes Y t
      have hx := (conv_bsl hc5 hz5 ho5).mono (Nat.zero_le _) (Nat.le_refl _)
      clear hz5 ho5
      go_simp
      refine hK.out _ _ (hS.below hb5 hS.lt) (fun hS => ?_)
      clear hK K
      try simp only [Act.put, List.setIfInBounds_toArray, List.set_cons_zero, List.set_cons_succ]
      replace kR := kR.below hb5 kR.lt
      replace hB := chain hB hb5
      replace hsl := (hsl.below hb5 (Nat.le_refl _)).mono (Nat.le_refl _) hb5.size
      clear hb5 hcv hc5
      generalize (some (⟨Y.heap.size, 0, none⟩ : Addr)) = xa at *
      refine wpAnyH_ready (rs := [3]) (by kernel_rfl) (by simp) ?_
      refine' AllReadyH.cons (o := _) ?ho21 (fun K hK => ?st21) AllReadyH.nil
      case ho21 => simp only [List.getElem?_toArray, List.getElem?_cons_succ, List.getElem?_cons_zero]; rfl
      case st21 =>
        go_simp
        refine (refNum_any t.size 2 (by omega) (by omega) _).mono ?_
        rintro e Y1 ⟨v, rfl, hv, hb1⟩
        refine hK.out _ _ (hS.below hb1 hS.lt) (fun hS => ?_)
        clear hK K
        try simp only [Act.put, List.setIfInBounds_toArray, List.set_cons_zero, List.set_cons_succ]
        replace kR := kR.below hb1 kR.lt
        replace hB := chain hB hb1
        replace hsl := (hsl.below hb1 (Nat.le_refl _)).mono (Nat.le_refl _) hb1.size
        replace hx := (hx.below hb1 (Nat.le_refl _)).mono (Nat.le_refl _) hb1.size
        rw [clamp2', two_nat' (by omega)] at hv
        obtain ⟨va, vm, vc, rfl⟩ := hv.shape3
        replace hv := hv.mono (Nat.zero_le _) (Nat.le_refl _)
        clear hb1
        refine wpAnyH_ready (rs := [6]) (by kernel_rfl) (by simp) ?_
        refine' AllReadyH.cons (o := _) ?ho22 (fun K hK => ?st22) AllReadyH.nil
        case ho22 => simp only [List.getElem?_toArray, List.getElem?_cons_succ, List.getElem?_cons_zero]; rfl
        case st22 =>
          go_simp
          refine (refCat_any (octs t.size 2) t.data.toList (.slice va vm vc) (.slice xa t.size c5) _ (by rw [octs_length, HL.out]; omega) hv hx).mono ?_
          rintro e Y3 ⟨v3, rfl, hv3, hb1⟩
          refine hK.out _ _ (hS.below hb1 hS.lt) (fun hS => ?_)
          clear hK K
          try simp only [Act.put, List.setIfInBounds_toArray, List.set_cons_zero, List.set_cons_succ]
          replace kR := kR.below hb1 kR.lt
          replace hB := chain hB hb1
          replace hsl := (hsl.below hb1 (Nat.le_refl _)).mono (Nat.le_refl _) hb1.size
          have hv4 := (BSl.of_own hv3).mono (Nat.zero_le _) (Nat.le_refl _)
          clear hb1 hv hx hv3
          obtain ⟨va, vm, vc, rfl⟩ := hv4.shape3
          have hv := hv4
          clear hv4
          refine wpAnyH_ready (rs := [7]) (by kernel_rfl) (by simp) ?_
          refine' AllReadyH.cons (o := _) ?ho23 (fun K hK => ?st23) AllReadyH.nil
          case ho23 => simp only [List.getElem?_toArray, List.getElem?_cons_succ, List.getElem?_cons_zero]; rfl
          case st23 =>
            go_simp
            refine (refPut_any hok (.slice a m c) (.slice va vm vc) (octs t.size 2 ++ t.data.toList) (by rw [List.length_append, octs_length, HL.out]; omega) _ hsl hv).mono ?_
            rintro e Y2 ⟨v2, rfl, hv2, hb2⟩
            refine hK.out _ _ (hS.below hb2 hS.lt) (fun hS => ?_)
            clear hK K
            try simp only [Act.put, List.setIfInBounds_toArray, List.set_cons_zero, List.set_cons_succ]
            replace kR := kR.below hb2 kR.lt
            replace hB := chain hB hb2
            clear hv hb2 hsl
            obtain ⟨va, vm, vc, rfl⟩ := hv2.shape3
            have hv := hv2
            clear hv2
            refine wpAnyH_ready (rs := [8]) (by kernel_rfl) (by simp) ?_
            refine' AllReadyH.cons (o := _) ?ho24 (fun K hK => ?st24) AllReadyH.nil
            case ho24 => simp only [List.getElem?_toArray, List.getElem?_cons_succ, List.getElem?_cons_zero]; rfl
            case st24 =>
              obtain ⟨r0, r1⟩ := Blk.c2 kR
              have g0 := kR.frozen 0
              have g1 := kR.frozen 1
              go_simp
              have hfin := refS_stored hv hB (Nat.le_add_right _ 1) ⟨_, _, _, rfl⟩ kR
              refine hK.out _ _ ((hS.other 0 _ (by omega)).other 1 _ (by omega)) (fun hS => ?_)
              clear hK K
              try simp only [Act.put, List.setIfInBounds_toArray, List.set_cons_zero, List.set_cons_succ]
              refine wpAnyH_done (by kernel_rfl) ?_ _
              go_wp2_with fail
              obtain ⟨q0, q1⟩ := Blk.c2 hfin.1
              exact bodyPost_ret (v := .agg #[.slice va vm vc, .int .i64 (addS s (octs t.size 2 ++ t.data.toList)).2]) (by simp [results, Try.results31, go_sem, q0, q1]) rfl hfin.2
  · have e1 : txtS s t = errS s 5 := if_neg hn
    rw [e1]
    clear e1
    have g1 : (1024 : Int) < (t.size : Int) := by omega
    go_enter Try.func31, Try.ntmps31
    go_wp2_with fail
    generalize hW0 : World.alloc _ _ = W0
    have kA : Blk W0 w.heap.size 28 [.slice a m c, .int .i64 s.2] := by rw [← hW0]; exact (Blk.new w _ [_, _]).alloc _
    have kR : Blk W0 (w.heap.size + 1) 28 [.slice none 0 0, .int .i64 0] := by rw [← hW0]; exact Blk.new' (vs := [_, _]) (by simp)
    have hB0 : Below w.heap.size w W0 := by rw [← hW0]; exact chainA (chain0 _ _) _
    have hz0 : W0.heap.size = w.heap.size + 2 := by rw [← hW0]; simp
    clear hW0
    have HZ := Lib.hid hz0
    clear hz0
    obtain ⟨c0, c1⟩ := Blk.c2 kA
    go_wp2_with (go_at_call 47; refine (refPutE_any (s := s) (.slice a m c) (.slice none 0 0) 5 (by decide) _ ((hsl.below hB0 (Nat.le_refl _)).mono (Nat.le_refl _) hB0.size)).mono ?_; rintro e Y2 ⟨v2, rfl, hv2, hb2⟩; obtain ⟨va, vm, vc, rfl⟩ := hv2.shape3; have kR2 := kR.below hb2 kR.lt; obtain ⟨r0, r1⟩ := Blk.c2 kR2; have g0 := kR2.frozen 0; have g1 := kR2.frozen 1)
    have hfin := refS_stored hv2 (chain hB0 hb2) (Nat.le_add_right _ 1) ⟨_, _, _, rfl⟩ kR2
    obtain ⟨q0, q1⟩ := Blk.c2 hfin.1
    exact bodyPost_ret (v := .agg #[.slice va vm vc, .int .i64 (errS s 5).2]) (by simp [results, Try.results31, go_sem, q0, q1]) rfl hfin.2
end Go.Proofs.Ytjhfchjffiliaaa
