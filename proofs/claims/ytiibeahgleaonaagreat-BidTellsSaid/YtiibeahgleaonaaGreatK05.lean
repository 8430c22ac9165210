/-
  The reference's writer: a number, a text, a wide number.
  A writer by the reference: its blocks.
  An ask, put by the reference.
  'string(b)'; the octets of a writer by the reference.
  A bid's text, by the reference.
  Slices of values of one cell each that are read.
  ots.digits: a sequence of a number's digits of 2 bits, the highest first.
-/
import Derived.Deep.Cut
import Derived.Laws.BitsLemmas
import Derived.Outline
import Derived.Test.YtiibeahgleaonaaGreatK04
namespace Go.Proofs.YtiibeahgleaonaaGreat
open Go.RowKit Go.Shelf

/-- An answer is stored into two cells. -/
theorem stored_at {l : List UInt8} {y : Int} {w Y : World} {sv : Value} {T : TypeId} {NB : Nat} {z : Value} {x : Int} (hsl : BSl 0 Y.heap.size Y sv l) (hB : Below w.heap.size w Y) (hNB : w.heap.size ≤ NB) (hz : ∃ a m c, z = .slice a m c)
    (kR : Blk Y NB T [z, .int .i64 x]) :
    Blk ((Y.setCell ⟨NB, 0, none⟩ sv).setCell ⟨NB, 1, none⟩ (.int .i64 y)) NB T [sv, .int .i64 y] ∧
    BSl 0 ((Y.setCell ⟨NB, 0, none⟩ sv).setCell ⟨NB, 1, none⟩ (.int .i64 y)).heap.size ((Y.setCell ⟨NB, 0, none⟩ sv).setCell ⟨NB, 1, none⟩ (.int .i64 y)) sv l ∧ Below w.heap.size w ((Y.setCell ⟨NB, 0, none⟩ sv).setCell ⟨NB, 1, none⟩ (.int .i64 y)) := by
  obtain ⟨a, m, c, rfl⟩ := hz
  obtain ⟨a2, m2, c2, rfl⟩ := hsl.shape3
  have k1 := kR.set 0 (.slice a2 m2 c2)
  refine ⟨k1.set 1 _, ?_, (hB.setCell (p := ⟨NB, 0, none⟩) hNB _).setCell (p := ⟨NB, 1, none⟩) hNB _⟩
  exact ((hsl.to (Nat.le_refl _) (grownBy_setCell4 Y NB 0 (.slice a2 m2 c2)) (fun r e => by cases e; exact noOct2 kR)).to (by simp) (grownBy_setCell4 _ NB 1 (.int .i64 y)) (fun r e => by cases e; exact noOct2 k1)).mono (Nat.le_refl _) (by simp)
/-- Behind a call whose answer is stored into the result's cells. -/
theorem refS_stored {s : St} {w Y : World} {sv : Value} {NB : Nat} {z : Value} {x : Int} (hsl : BSl 0 Y.heap.size Y sv s.1) (hB : Below w.heap.size w Y) (hNB : w.heap.size ≤ NB) (hz : ∃ a m c, z = .slice a m c)
    (kR : Blk Y NB 67 [z, .int .i64 x]) :
    Blk ((Y.setCell ⟨NB, 0, none⟩ sv).setCell ⟨NB, 1, none⟩ (.int .i64 s.2)) NB 67 [sv, .int .i64 s.2] ∧ RefS s w (.returned (.agg #[sv, .int .i64 s.2])) ((Y.setCell ⟨NB, 0, none⟩ sv).setCell ⟨NB, 1, none⟩ (.int .i64 s.2)) := by
  obtain ⟨h1, h2, h3⟩ := stored_at (y := s.2) hsl hB hNB hz kR
  exact ⟨h1, _, rfl, h2, h3⟩

set_option maxRecDepth 100000 in
set_option maxHeartbeats 2000000 in
theorem refNum6_any {s : St} (hok : OkS s) (sv : Value) (n : Int) (w : World) (hsl : BSl 0 w.heap.size w sv s.1) :
    Calls Tryz.prog 32 #[.agg #[sv, .int .i64 s.2], .int .i64 n] w (RefS (numS s n) w) := by
  have hmx : Tryz.prog.follows .mixedOrders = true := by kernel_rfl
  obtain ⟨a, m, c, rfl⟩ := hsl.shape3
  by_cases hn : 0 ≤ n ∧ n ≤ 1099511627776
  · have e1 : numS s n = addS s (octs (two n) 6) := if_pos hn
    rw [e1]
    clear e1
    obtain ⟨h0, h1⟩ := hn
    have g0 : ¬ n < 0 := by omega
    have g1 : ¬ 1099511627776 < n := by omega
    go_enter Tryz.func32, Tryz.ntmps32
    go_wp2_with fail
    generalize hW0 : World.alloc _ _ = W0
    have kA : Blk W0 w.heap.size 67 [.slice a m c, .int .i64 s.2] := by rw [← hW0]; exact (Blk.new w _ [_, _]).alloc _
    have kR : Blk W0 (w.heap.size + 1) 67 [.slice none 0 0, .int .i64 0] := by rw [← hW0]; exact Blk.new' (vs := [_, _]) (by simp)
    have hB0 : Below w.heap.size w W0 := by rw [← hW0]; exact chainA (chain0 _ _) _
    have hz0 : W0.heap.size = w.heap.size + 2 := by rw [← hW0]; simp
    clear hW0
    have HZ := Lib.hid hz0
    clear hz0
    clear g0 g1
    refine wp_region_held_drew (S := fun W => Blk W w.heap.size 67 [.slice a m c, .int .i64 s.2]) hmx kA ?_
    intro hS
    replace kR : Blk W0.drew (w.heap.size + 1) 67 [.slice none 0 0, .int .i64 0] := kR
    have hB := hB0.drew
    replace hsl : BSl 0 W0.drew.heap.size W0.drew (.slice a m c) s.1 := (hsl.below hB (Nat.le_refl _)).mono (Nat.le_refl _) hB.size
    have HZ2 : Hid (W0.drew.heap.size = w.heap.size + 2) := HZ.out
    clear HZ kA hB0
    generalize W0.drew = Y at *
    refine' wpAnyH_take (i := 0) (oi := _) (v := _) ?hi1 (by kernel_rfl) (by kernel_rfl) (by kernel_rfl) ?hQ1 (Or.inl ⟨?hw1, ?hy1⟩) hS ?rest1
    case hi1 => simp only [List.getElem?_toArray, List.getElem?_cons_zero]; rfl
    case hQ1 => exact fun _ _ _ h => h
    case hw1 => rfl
    case hy1 => intro W' hS'; obtain ⟨c0, c1⟩ := Blk.c2 hS'; go_simp; with_reducible rfl
    try simp only [Act.put, List.setIfInBounds_toArray, List.set_cons_zero, List.set_cons_succ]
    refine' wpAnyH_take (i := 1) (oi := _) (v := _) ?hi2 (by kernel_rfl) (by kernel_rfl) (by kernel_rfl) ?hQ2 (Or.inl ⟨?hw2, ?hy2⟩) hS ?rest2
    case hi2 => simp only [List.getElem?_toArray, List.getElem?_cons_succ, List.getElem?_cons_zero]; rfl
    case hQ2 => exact fun _ _ _ h => h
    case hw2 => rfl
    case hy2 => intro W' hS'; go_simp; with_reducible rfl
    try simp only [Act.put, List.setIfInBounds_toArray, List.set_cons_zero, List.set_cons_succ]
    refine wpAnyH_ready (rs := [2]) (by kernel_rfl) (by simp) ?_
    refine' AllReadyH.cons (o := _) ?ho3 (fun K hK => ?st3) AllReadyH.nil
    case ho3 => simp only [List.getElem?_toArray, List.getElem?_cons_succ, List.getElem?_cons_zero]; rfl
    case st3 =>
      go_simp
      refine (refNum_any n 6 (by omega) (by omega) _).mono ?_
      rintro e Y1 ⟨v, rfl, hv, hb1⟩
      refine hK.out _ _ (hS.below hb1 hS.lt) (fun hS => ?_)
      clear hK K
      try simp only [Act.put, List.setIfInBounds_toArray, List.set_cons_zero, List.set_cons_succ]
      replace kR := kR.below hb1 kR.lt
      replace hB := chain hB hb1
      replace hsl := (hsl.below hb1 (Nat.le_refl _)).mono (Nat.le_refl _) hb1.size
      rw [clamp6'] at hv
      obtain ⟨va, vm, vc, rfl⟩ := hv.shape3
      replace hv := hv.mono (Nat.zero_le _) (Nat.le_refl _)
      clear hb1
      refine wpAnyH_ready (rs := [3]) (by kernel_rfl) (by simp) ?_
      refine' AllReadyH.cons (o := _) ?ho4 (fun K hK => ?st4) AllReadyH.nil
      case ho4 => simp only [List.getElem?_toArray, List.getElem?_cons_succ, List.getElem?_cons_zero]; rfl
      case st4 =>
        go_simp
        refine (refPut_any hok (.slice a m c) (.slice va vm vc) (octs (two n) 6) (by rw [octs_length]; omega) _ hsl hv).mono ?_
        rintro e Y2 ⟨v2, rfl, hv2, hb2⟩
        refine hK.out _ _ (hS.below hb2 hS.lt) (fun hS => ?_)
        clear hK K
        try simp only [Act.put, List.setIfInBounds_toArray, List.set_cons_zero, List.set_cons_succ]
        replace kR := kR.below hb2 kR.lt
        replace hB := chain hB hb2
        clear hv hb2 hsl
        obtain ⟨va, vm, vc, rfl⟩ := hv2.shape3
        have hv := hv2
        clear hv2
        refine wpAnyH_ready (rs := [4]) (by kernel_rfl) (by simp) ?_
        refine' AllReadyH.cons (o := _) ?ho5 (fun K hK => ?st5) AllReadyH.nil
        case ho5 => simp only [List.getElem?_toArray, List.getElem?_cons_succ, List.getElem?_cons_zero]; rfl
        case st5 =>
          obtain ⟨r0, r1⟩ := Blk.c2 kR
          have g0 := kR.frozen 0
          have g1 := kR.frozen 1
          go_simp
          have hfin := refS_stored hv hB (Nat.le_add_right _ 1) ⟨_, _, _, rfl⟩ kR
          refine hK.out _ _ ((hS.other 0 _ (by omega)).other 1 _ (by omega)) (fun hS => ?_)
          clear hK K
          try simp only [Act.put, List.setIfInBounds_toArray, List.set_cons_zero, List.set_cons_succ]
          refine wpAnyH_done (by kernel_rfl) ?_ _
          go_wp2_with fail
          obtain ⟨q0, q1⟩ := Blk.c2 hfin.1
          exact bodyPost_ret (v := .agg #[.slice va vm vc, .int .i64 (addS s (octs (two n) 6)).2]) (by simp [results, Tryz.results32, go_sem, q0, q1]) rfl hfin.2
  · have e1 : numS s n = errS s 4 := if_neg hn
    rw [e1]
    clear e1
    by_cases h0 : n < 0
    all_goals
      have HN := Lib.hid hn
      clear hn
      try (have g1 : 1099511627776 < n := by have := HN.out; omega)
      go_enter Tryz.func32, Tryz.ntmps32
      go_wp2_with fail
      generalize hW0 : World.alloc _ _ = W0
      have kA : Blk W0 w.heap.size 67 [.slice a m c, .int .i64 s.2] := by rw [← hW0]; exact (Blk.new w _ [_, _]).alloc _
      have kR : Blk W0 (w.heap.size + 1) 67 [.slice none 0 0, .int .i64 0] := by rw [← hW0]; exact Blk.new' (vs := [_, _]) (by simp)
      have hB0 : Below w.heap.size w W0 := by rw [← hW0]; exact chainA (chain0 _ _) _
      have hz0 : W0.heap.size = w.heap.size + 2 := by rw [← hW0]; simp
      clear hW0
      have HZ := Lib.hid hz0
      clear hz0
      obtain ⟨c0, c1⟩ := Blk.c2 kA
      go_wp2_with (go_at_call 53; refine (refPutE_any (s := s) (.slice a m c) (.slice none 0 0) 4 (by decide) _ ((hsl.below hB0 (Nat.le_refl _)).mono (Nat.le_refl _) hB0.size)).mono ?_; rintro e Y2 ⟨v2, rfl, hv2, hb2⟩; obtain ⟨va, vm, vc, rfl⟩ := hv2.shape3; have kR2 := kR.below hb2 kR.lt; obtain ⟨r0, r1⟩ := Blk.c2 kR2; have g0 := kR2.frozen 0; have g1 := kR2.frozen 1)
      have hfin := refS_stored hv2 (chain hB0 hb2) (Nat.le_add_right _ 1) ⟨_, _, _, rfl⟩ kR2
      obtain ⟨q0, q1⟩ := Blk.c2 hfin.1
      exact bodyPost_ret (v := .agg #[.slice va vm vc, .int .i64 (errS s 4).2]) (by simp [results, Tryz.results32, go_sem, q0, q1]) rfl hfin.2

set_option maxRecDepth 100000 in
set_option maxHeartbeats 2000000 in
theorem refWide6_any {s : St} (hok : OkS s) (sv : Value) {a0 a1 a2 a3 : Nat} (ha : Ok4 a0 a1 a2 a3) (w : World) (hsl : BSl 0 w.heap.size w sv s.1) :
    Calls Tryz.prog 33 #[.agg #[sv, .int .i64 s.2], wv a0 a1 a2 a3] w (RefS (wideS s a0 a1 a2 a3) w) := by
  have hmx : Tryz.prog.follows .mixedOrders = true := by kernel_rfl
  obtain ⟨a, m, c, rfl⟩ := hsl.shape3
  have hl : (wide8 a0 a1 a2 a3).length = 32 := by unfold wide8; simp only [List.length_append, octs_length]
  have HL := Lib.hid hl
  clear hl
  unfold wideS
  go_enter Tryz.func33, Tryz.ntmps33
  go_wp2_with fail
  generalize hW0 : World.alloc _ _ = W0
  have kA : Blk W0 w.heap.size 67 [.slice a m c, .int .i64 s.2] := by rw [← hW0]; exact ((Blk.new w _ [_, _]).alloc _).alloc _
  have kV : BlkW W0 (w.heap.size + 1) a0 a1 a2 a3 := by rw [← hW0]; exact (Blk.new' (vs := [_, _, _, _]) (by simp)).alloc _
  have kR : Blk W0 (w.heap.size + 2) 67 [.slice none 0 0, .int .i64 0] := by rw [← hW0]; exact Blk.new' (vs := [_, _]) (by simp)
  have hB0 : Below w.heap.size w W0 := by rw [← hW0]; exact chainA (chainA (chain0 _ _) _) _
  have hz0 : W0.heap.size = w.heap.size + 3 := by rw [← hW0]; simp
  clear hW0
  have HZ := Lib.hid hz0
  clear hz0
  refine wp_region_held_drew (S := fun W => Blk W w.heap.size 67 [.slice a m c, .int .i64 s.2] ∧ BlkW W (w.heap.size + 1) a0 a1 a2 a3) hmx ⟨kA, kV⟩ ?_
  intro hS
  replace kR : Blk W0.drew (w.heap.size + 2) 67 [.slice none 0 0, .int .i64 0] := kR
  have hB := hB0.drew
  replace hsl : BSl 0 W0.drew.heap.size W0.drew (.slice a m c) s.1 := (hsl.below hB (Nat.le_refl _)).mono (Nat.le_refl _) hB.size
  have HZ2 : Hid (W0.drew.heap.size = w.heap.size + 3) := HZ.out
  clear HZ kA kV hB0
  generalize W0.drew = Y at *
  refine' wpAnyH_take (i := 0) (oi := _) (v := _) ?hi6 (by kernel_rfl) (by kernel_rfl) (by kernel_rfl) ?hQ6 (Or.inl ⟨?hw6, ?hy6⟩) hS ?rest6
  case hi6 => simp only [List.getElem?_toArray, List.getElem?_cons_zero]; rfl
  case hQ6 => exact fun _ _ _ h => h
  case hw6 => rfl
  case hy6 => intro W' hS'; obtain ⟨c0, c1⟩ := Blk.c2 hS'.1; go_simp; with_reducible rfl
  try simp only [Act.put, List.setIfInBounds_toArray, List.set_cons_zero, List.set_cons_succ]
  refine' wpAnyH_take (i := 1) (oi := _) (v := _) ?hi7 (by kernel_rfl) (by kernel_rfl) (by kernel_rfl) ?hQ7 (Or.inl ⟨?hw7, ?hy7⟩) hS ?rest7
  case hi7 => simp only [List.getElem?_toArray, List.getElem?_cons_succ, List.getElem?_cons_zero]; rfl
  case hQ7 => exact fun _ _ _ h => h
  case hw7 => rfl
  case hy7 => intro W' hS'; obtain ⟨c0, c1, c2, c3⟩ := Blk.c4 hS'.2; go_simp; with_reducible rfl
  try simp only [Act.put, List.setIfInBounds_toArray, List.set_cons_zero, List.set_cons_succ]
  refine wpAnyH_ready (rs := [2]) (by kernel_rfl) (by simp) ?_
  refine' AllReadyH.cons (o := _) ?ho8 (fun K hK => ?st8) AllReadyH.nil
  case ho8 => simp only [List.getElem?_toArray, List.getElem?_cons_succ, List.getElem?_cons_zero]; rfl
  case st8 =>
    go_simp
    refine (refWide_any ha _).mono ?_
    rintro e Y1 ⟨v, rfl, hv, hb1⟩
    refine hK.out _ _ ⟨hS.1.below hb1 hS.1.lt, hS.2.below hb1 hS.2.lt⟩ (fun hS => ?_)
    clear hK K
    try simp only [Act.put, List.setIfInBounds_toArray, List.set_cons_zero, List.set_cons_succ]
    replace kR := kR.below hb1 kR.lt
    replace hB := chain hB hb1
    replace hsl := (hsl.below hb1 (Nat.le_refl _)).mono (Nat.le_refl _) hb1.size
    obtain ⟨va, vm, vc, rfl⟩ := hv.shape3
    replace hv := hv.mono (Nat.zero_le _) (Nat.le_refl _)
    clear hb1
    refine wpAnyH_ready (rs := [3]) (by kernel_rfl) (by simp) ?_
    refine' AllReadyH.cons (o := _) ?ho9 (fun K hK => ?st9) AllReadyH.nil
    case ho9 => simp only [List.getElem?_toArray, List.getElem?_cons_succ, List.getElem?_cons_zero]; rfl
    case st9 =>
      go_simp
      refine (refPut_any hok (.slice a m c) (.slice va vm vc) (wide8 a0 a1 a2 a3) (by rw [HL.out]; omega) _ hsl hv).mono ?_
      rintro e Y2 ⟨v2, rfl, hv2, hb2⟩
      refine hK.out _ _ ⟨hS.1.below hb2 hS.1.lt, hS.2.below hb2 hS.2.lt⟩ (fun hS => ?_)
      clear hK K
      try simp only [Act.put, List.setIfInBounds_toArray, List.set_cons_zero, List.set_cons_succ]
      replace kR := kR.below hb2 kR.lt
      replace hB := chain hB hb2
      clear hv hb2 hsl
      obtain ⟨va, vm, vc, rfl⟩ := hv2.shape3
      have hv := hv2
      clear hv2
      refine wpAnyH_ready (rs := [4]) (by kernel_rfl) (by simp) ?_
      refine' AllReadyH.cons (o := _) ?ho10 (fun K hK => ?st10) AllReadyH.nil
      case ho10 => simp only [List.getElem?_toArray, List.getElem?_cons_succ, List.getElem?_cons_zero]; rfl
      case st10 =>
        obtain ⟨r0, r1⟩ := Blk.c2 kR
        have g0 := kR.frozen 0
        have g1 := kR.frozen 1
        go_simp
        have hfin := refS_stored hv hB (Nat.le_add_right _ 2) ⟨_, _, _, rfl⟩ kR
        refine hK.out _ _ ⟨(hS.1.other 0 _ (by omega)).other 1 _ (by omega), (hS.2.other 0 _ (by omega)).other 1 _ (by omega)⟩ (fun hS => ?_)
        clear hK K
        try simp only [Act.put, List.setIfInBounds_toArray, List.set_cons_zero, List.set_cons_succ]
        refine wpAnyH_done (by kernel_rfl) ?_ _
        go_wp2_with fail
        obtain ⟨q0, q1⟩ := Blk.c2 hfin.1
        exact bodyPost_ret (v := .agg #[.slice va vm vc, .int .i64 (addS s (wide8 a0 a1 a2 a3)).2]) (by simp [results, Tryz.results33, go_sem, q0, q1]) rfl hfin.2

set_option maxRecDepth 100000 in
set_option maxHeartbeats 2000000 in
theorem refText6_any {s : St} (hok : OkS s) (sv : Value) (t : ByteArray) (w : World) (hsl : BSl 0 w.heap.size w sv s.1) :
    Calls Tryz.prog 35 #[.agg #[sv, .int .i64 s.2], .string t] w (RefS (txtS s t) w) := by
  have hmx : Tryz.prog.follows .mixedOrders = true := by kernel_rfl
  obtain ⟨a, m, c, rfl⟩ := hsl.shape3
  by_cases hn : t.size ≤ 1024
  · have e1 : txtS s t = addS s (octs t.size 2 ++ t.data.toList) := if_pos hn
    rw [e1]
    clear e1
    have htl : t.data.toList.length = t.size := by rw [Array.length_toList]; rfl
    have g1 : ¬ (1024 : Int) < (t.size : Int) := by omega
    have HL := Lib.hid htl
    clear htl
    go_enter Tryz.func35, Tryz.ntmps35
    go_wp2_with fail
    generalize hW0 : World.alloc _ _ = W0
    have kA : Blk W0 w.heap.size 67 [.slice a m c, .int .i64 s.2] := by rw [← hW0]; exact (Blk.new w _ [_, _]).alloc _
    have kR : Blk W0 (w.heap.size + 1) 67 [.slice none 0 0, .int .i64 0] := by rw [← hW0]; exact Blk.new' (vs := [_, _]) (by simp)
    have hB0 : Below w.heap.size w W0 := by rw [← hW0]; exact chainA (chain0 _ _) _
    have hz0 : W0.heap.size = w.heap.size + 2 := by rw [← hW0]; simp
    clear hW0
    have HZ := Lib.hid hz0
    clear hz0
    clear g1
    refine wp_region_held_drew (S := fun W => Blk W w.heap.size 67 [.slice a m c, .int .i64 s.2]) hmx kA ?_
    intro hS
    replace kR : Blk W0.drew (w.heap.size + 1) 67 [.slice none 0 0, .int .i64 0] := kR
    have hB := hB0.drew
    replace hsl : BSl 0 W0.drew.heap.size W0.drew (.slice a m c) s.1 := (hsl.below hB (Nat.le_refl _)).mono (Nat.le_refl _) hB.size
    have HZ2 : Hid (W0.drew.heap.size = w.heap.size + 2) := HZ.out
    clear HZ kA hB0
    generalize W0.drew = Y at *
    refine' wpAnyH_take (i := 0) (oi := _) (v := _) ?hi11 (by kernel_rfl) (by kernel_rfl) (by kernel_rfl) ?hQ11 (Or.inl ⟨?hw11, ?hy11⟩) hS ?rest11
    case hi11 => simp only [List.getElem?_toArray, List.getElem?_cons_zero]; rfl
    case hQ11 => exact fun _ _ _ h => h
    case hw11 => rfl
    case hy11 => intro W' hS'; obtain ⟨c0, c1⟩ := Blk.c2 hS'; go_simp; with_reducible rfl
    try simp only [Act.put, List.setIfInBounds_toArray, List.set_cons_zero, List.set_cons_succ]
    refine' wpAnyH_take (i := 1) (oi := _) (v := _) ?hi12 (by kernel_rfl) (by kernel_rfl) (by kernel_rfl) ?hQ12 (Or.inl ⟨?hw12, ?hy12⟩) hS ?rest12
    case hi12 => simp only [List.getElem?_toArray, List.getElem?_cons_succ, List.getElem?_cons_zero]; rfl
    case hQ12 => exact fun _ _ _ h => h
    case hw12 => rfl
    case hy12 => intro W' hS'; go_simp; with_reducible rfl
    try simp only [Act.put, List.setIfInBounds_toArray, List.set_cons_zero, List.set_cons_succ]
    refine' wpAnyH_take (i := 2) (oi := _) (v := _) ?hi13 (by kernel_rfl) (by kernel_rfl) (by kernel_rfl) ?hQ13 (Or.inl ⟨?hw13, ?hy13⟩) hS ?rest13
    case hi13 => simp only [List.getElem?_toArray, List.getElem?_cons_succ, List.getElem?_cons_zero]; rfl
    case hQ13 => exact fun _ _ _ h => h
    case hw13 => rfl
    case hy13 => intro W' hS'; go_simp; with_reducible rfl
    try simp only [Act.put, List.setIfInBounds_toArray, List.set_cons_zero, List.set_cons_succ]
    refine' wpAnyH_take (i := 4) (oi := _) (v := _) ?hi14 (by kernel_rfl) (by kernel_rfl) (by kernel_rfl) ?hQ14 (Or.inl ⟨?hw14, ?hy14⟩) hS ?rest14
    case hi14 => simp only [List.getElem?_toArray, List.getElem?_cons_succ, List.getElem?_cons_zero]; rfl
    case hQ14 => exact fun _ _ _ h => h
    case hw14 => rfl
    case hy14 => intro W' hS'; go_simp; with_reducible rfl
    try simp only [Act.put, List.setIfInBounds_toArray, List.set_cons_zero, List.set_cons_succ]
    refine wpAnyH_ready (rs := [3, 5]) (by kernel_rfl) (by simp) ?_
    refine' AllReadyH.cons (o := _) ?ho15 (fun K hK => ?st15) (AllReadyH.cons (o := _) ?ho16 (fun K hK => ?st16) AllReadyH.nil)
    case ho15 => simp only [List.getElem?_toArray, List.getElem?_cons_succ, List.getElem?_cons_zero]; rfl
    case ho16 => simp only [List.getElem?_toArray, List.getElem?_cons_succ, List.getElem?_cons_zero]; rfl
    case st15 =>
      go_simp
      refine (refNum_any t.size 2 (by omega) (by omega) _).mono ?_
      rintro e Y1 ⟨v, rfl, hv, hb1⟩
      refine hK.out _ _ (hS.below hb1 hS.lt) (fun hS => ?_)
      clear hK K
      try simp only [Act.put, List.setIfInBounds_toArray, List.set_cons_zero, List.set_cons_succ]
      replace kR := kR.below hb1 kR.lt
      replace hB := chain hB hb1
      replace hsl := (hsl.below hb1 (Nat.le_refl _)).mono (Nat.le_refl _) hb1.size
      rw [clamp2', two_nat' (by omega)] at hv
      obtain ⟨va, vm, vc, rfl⟩ := hv.shape3
      replace hv := hv.mono (Nat.zero_le _) (Nat.le_refl _)
      clear hb1
      refine wpAnyH_ready (rs := [5]) (by kernel_rfl) (by simp) ?_
      refine' AllReadyH.cons (o := _) ?ho17 (fun K hK => ?st17) AllReadyH.nil
      case ho17 => simp only [List.getElem?_toArray, List.getElem?_cons_succ, List.getElem?_cons_zero]; rfl
      case st17 =>
        obtain ⟨c5, Y5, hcv, hc5, hb5, hz5, ho5⟩ := conv_bytes Y1 t
        have hx := (conv_bsl hc5 hz5 ho5).mono (Nat.zero_le _) (Nat.le_refl _)
        clear hz5 ho5
        go_simp
        refine hK.out _ _ (hS.below hb5 hS.lt) (fun hS => ?_)
        clear hK K
        try simp only [Act.put, List.setIfInBounds_toArray, List.set_cons_zero, List.set_cons_succ]
        replace kR := kR.below hb5 kR.lt
        replace hB := chain hB hb5
        replace hsl := (hsl.below hb5 (Nat.le_refl _)).mono (Nat.le_refl _) hb5.size
        replace hv := (hv.below hb5 (Nat.le_refl _)).mono (Nat.le_refl _) hb5.size
        clear hb5 hcv hc5
        generalize (some (⟨Y1.heap.size, 0, none⟩ : Addr)) = xa at *
        refine wpAnyH_ready (rs := [6]) (by kernel_rfl) (by simp) ?_
        refine' AllReadyH.cons (o := _) ?ho18 (fun K hK => ?st18) AllReadyH.nil
        case ho18 => simp only [List.getElem?_toArray, List.getElem?_cons_succ, List.getElem?_cons_zero]; rfl
        case st18 =>
          go_simp
          refine (refCat_any (octs t.size 2) t.data.toList (.slice va vm vc) (.slice xa t.size c5) _ (by rw [octs_length, HL.out]; omega) hv hx).mono ?_
          rintro e Y3 ⟨v3, rfl, hv3, hb1⟩
          refine hK.out _ _ (hS.below hb1 hS.lt) (fun hS => ?_)
          clear hK K
          try simp only [Act.put, List.setIfInBounds_toArray, List.set_cons_zero, List.set_cons_succ]
          replace kR := kR.below hb1 kR.lt
          replace hB := chain hB hb1
          replace hsl := (hsl.below hb1 (Nat.le_refl _)).mono (Nat.le_refl _) hb1.size
          have hv4 := (BSl.of_own hv3).mono (Nat.zero_le _) (Nat.le_refl _)
          clear hb1 hv hx hv3
          obtain ⟨va, vm, vc, rfl⟩ := hv4.shape3
          have hv := hv4
          clear hv4
          refine wpAnyH_ready (rs := [7]) (by kernel_rfl) (by simp) ?_
          refine' AllReadyH.cons (o := _) ?ho19 (fun K hK => ?st19) AllReadyH.nil
          case ho19 => simp only [List.getElem?_toArray, List.getElem?_cons_succ, List.getElem?_cons_zero]; rfl
          case st19 =>
            go_simp
            refine (refPut_any hok (.slice a m c) (.slice va vm vc) (octs t.size 2 ++ t.data.toList) (by rw [List.length_append, octs_length, HL.out]; omega) _ hsl hv).mono ?_
            rintro e Y2 ⟨v2, rfl, hv2, hb2⟩
            refine hK.out _ _ (hS.below hb2 hS.lt) (fun hS => ?_)
            clear hK K
            try simp only [Act.put, List.setIfInBounds_toArray, List.set_cons_zero, List.set_cons_succ]
            replace kR := kR.below hb2 kR.lt
            replace hB := chain hB hb2
            clear hv hb2 hsl
            obtain ⟨va, vm, vc, rfl⟩ := hv2.shape3
            have hv := hv2
            clear hv2
            refine wpAnyH_ready (rs := [8]) (by kernel_rfl) (by simp) ?_
            refine' AllReadyH.cons (o := _) ?ho20 (fun K hK => ?st20) AllReadyH.nil
            case ho20 => simp only [List.getElem?_toArray, List.getElem?_cons_succ, List.getElem?_cons_zero]; rfl
            case st20 =>
              obtain ⟨r0, r1⟩ := Blk.c2 kR
              have g0 := kR.frozen 0
              have g1 := kR.frozen 1
              go_simp
              have hfin := refS_stored hv hB (Nat.le_add_right _ 1) ⟨_, _, _, rfl⟩ kR
              refine hK.out _ _ ((hS.other 0 _ (by omega)).other 1 _ (by omega)) (fun hS => ?_)
              clear hK K
              try simp only [Act.put, List.setIfInBounds_toArray, List.set_cons_zero, List.set_cons_succ]
              refine wpAnyH_done (by kernel_rfl) ?_ _
              go_wp2_with fail
              obtain ⟨q0, q1⟩ := Blk.c2 hfin.1
              exact bodyPost_ret (v := .agg #[.slice va vm vc, .int .i64 (addS s (octs t.size 2 ++ t.data.toList)).2]) (by simp [results, Tryz.results35, go_sem, q0, q1]) rfl hfin.2
    case st16 =>
      obtain ⟨c5, Y5, hcv, hc5, hb5, hz5, ho5⟩ := conv_bytes Y t
      have hx := (conv_bsl hc5 hz5 ho5).mono (Nat.zero_le _) (Nat.le_refl _)
      clear hz5 ho5
      go_simp
      refine hK.out _ _ (hS.below hb5 hS.lt) (fun hS => ?_)
      clear hK K
      try simp only [Act.put, List.setIfInBounds_toArray, List.set_cons_zero, List.set_cons_succ]
      replace kR := kR.below hb5 kR.lt
      replace hB := chain hB hb5
      replace hsl := (hsl.below hb5 (Nat.le_refl _)).mono (Nat.le_refl _) hb5.size
      clear hb5 hcv hc5
      generalize (some (⟨Y.heap.size, 0, none⟩ : Addr)) = xa at *
      refine wpAnyH_ready (rs := [3]) (by kernel_rfl) (by simp) ?_
      refine' AllReadyH.cons (o := _) ?ho21 (fun K hK => ?st21) AllReadyH.nil
      case ho21 => simp only [List.getElem?_toArray, List.getElem?_cons_succ, List.getElem?_cons_zero]; rfl
      case st21 =>
        go_simp
        refine (refNum_any t.size 2 (by omega) (by omega) _).mono ?_
        rintro e Y1 ⟨v, rfl, hv, hb1⟩
        refine hK.out _ _ (hS.below hb1 hS.lt) (fun hS => ?_)
        clear hK K
        try simp only [Act.put, List.setIfInBounds_toArray, List.set_cons_zero, List.set_cons_succ]
        replace kR := kR.below hb1 kR.lt
        replace hB := chain hB hb1
        replace hsl := (hsl.below hb1 (Nat.le_refl _)).mono (Nat.le_refl _) hb1.size
        replace hx := (hx.below hb1 (Nat.le_refl _)).mono (Nat.le_refl _) hb1.size
        rw [clamp2', two_nat' (by omega)] at hv
        obtain ⟨va, vm, vc, rfl⟩ := hv.shape3
        replace hv := hv.mono (Nat.zero_le _) (Nat.le_refl _)
        clear hb1
        refine wpAnyH_ready (rs := [6]) (by kernel_rfl) (by simp) ?_
        refine' AllReadyH.cons (o := _) ?ho22 (fun K hK => ?st22) AllReadyH.nil
        case ho22 => simp only [List.getElem?_toArray, List.getElem?_cons_succ, List.getElem?_cons_zero]; rfl
        case st22 =>
          go_simp
          refine (refCat_any (octs t.size 2) t.data.toList (.slice va vm vc) (.slice xa t.size c5) _ (by rw [octs_length, HL.out]; omega) hv hx).mono ?_
          rintro e Y3 ⟨v3, rfl, hv3, hb1⟩
          refine hK.out _ _ (hS.below hb1 hS.lt) (fun hS => ?_)
          clear hK K
          try simp only [Act.put, List.setIfInBounds_toArray, List.set_cons_zero, List.set_cons_succ]
          replace kR := kR.below hb1 kR.lt
          replace hB := chain hB hb1
          replace hsl := (hsl.below hb1 (Nat.le_refl _)).mono (Nat.le_refl _) hb1.size
          have hv4 := (BSl.of_own hv3).mono (Nat.zero_le _) (Nat.le_refl _)
          clear hb1 hv hx hv3
          obtain ⟨va, vm, vc, rfl⟩ := hv4.shape3
          have hv := hv4
          clear hv4
          refine wpAnyH_ready (rs := [7]) (by kernel_rfl) (by simp) ?_
          refine' AllReadyH.cons (o := _) ?ho23 (fun K hK => ?st23) AllReadyH.nil
          case ho23 => simp only [List.getElem?_toArray, List.getElem?_cons_succ, List.getElem?_cons_zero]; rfl
          case st23 =>
            go_simp
            refine (refPut_any hok (.slice a m c) (.slice va vm vc) (octs t.size 2 ++ t.data.toList) (by rw [List.length_append, octs_length, HL.out]; omega) _ hsl hv).mono ?_
            rintro e Y2 ⟨v2, rfl, hv2, hb2⟩
            refine hK.out _ _ (hS.below hb2 hS.lt) (fun hS => ?_)
            clear hK K
            try simp only [Act.put, List.setIfInBounds_toArray, List.set_cons_zero, List.set_cons_succ]
            replace kR := kR.below hb2 kR.lt
            replace hB := chain hB hb2
            clear hv hb2 hsl
            obtain ⟨va, vm, vc, rfl⟩ := hv2.shape3
            have hv := hv2
            clear hv2
            refine wpAnyH_ready (rs := [8]) (by kernel_rfl) (by simp) ?_
            refine' AllReadyH.cons (o := _) ?ho24 (fun K hK => ?st24) AllReadyH.nil
            case ho24 => simp only [List.getElem?_toArray, List.getElem?_cons_succ, List.getElem?_cons_zero]; rfl
            case st24 =>
              obtain ⟨r0, r1⟩ := Blk.c2 kR
              have g0 := kR.frozen 0
              have g1 := kR.frozen 1
              go_simp
              have hfin := refS_stored hv hB (Nat.le_add_right _ 1) ⟨_, _, _, rfl⟩ kR
              refine hK.out _ _ ((hS.other 0 _ (by omega)).other 1 _ (by omega)) (fun hS => ?_)
              clear hK K
              try simp only [Act.put, List.setIfInBounds_toArray, List.set_cons_zero, List.set_cons_succ]
              refine wpAnyH_done (by kernel_rfl) ?_ _
              go_wp2_with fail
              obtain ⟨q0, q1⟩ := Blk.c2 hfin.1
              exact bodyPost_ret (v := .agg #[.slice va vm vc, .int .i64 (addS s (octs t.size 2 ++ t.data.toList)).2]) (by simp [results, Tryz.results35, go_sem, q0, q1]) rfl hfin.2
  · have e1 : txtS s t = errS s 5 := if_neg hn
    rw [e1]
    clear e1
    have g1 : (1024 : Int) < (t.size : Int) := by omega
    go_enter Tryz.func35, Tryz.ntmps35
    go_wp2_with fail
    generalize hW0 : World.alloc _ _ = W0
    have kA : Blk W0 w.heap.size 67 [.slice a m c, .int .i64 s.2] := by rw [← hW0]; exact (Blk.new w _ [_, _]).alloc _
    have kR : Blk W0 (w.heap.size + 1) 67 [.slice none 0 0, .int .i64 0] := by rw [← hW0]; exact Blk.new' (vs := [_, _]) (by simp)
    have hB0 : Below w.heap.size w W0 := by rw [← hW0]; exact chainA (chain0 _ _) _
    have hz0 : W0.heap.size = w.heap.size + 2 := by rw [← hW0]; simp
    clear hW0
    have HZ := Lib.hid hz0
    clear hz0
    obtain ⟨c0, c1⟩ := Blk.c2 kA
    go_wp2_with (go_at_call 53; refine (refPutE_any (s := s) (.slice a m c) (.slice none 0 0) 5 (by decide) _ ((hsl.below hB0 (Nat.le_refl _)).mono (Nat.le_refl _) hB0.size)).mono ?_; rintro e Y2 ⟨v2, rfl, hv2, hb2⟩; obtain ⟨va, vm, vc, rfl⟩ := hv2.shape3; have kR2 := kR.below hb2 kR.lt; obtain ⟨r0, r1⟩ := Blk.c2 kR2; have g0 := kR2.frozen 0; have g1 := kR2.frozen 1)
    have hfin := refS_stored hv2 (chain hB0 hb2) (Nat.le_add_right _ 1) ⟨_, _, _, rfl⟩ kR2
    obtain ⟨q0, q1⟩ := Blk.c2 hfin.1
    exact bodyPost_ret (v := .agg #[.slice va vm vc, .int .i64 (errS s 5).2]) (by simp [results, Tryz.results35, go_sem, q0, q1]) rfl hfin.2
end Go.Proofs.YtiibeahgleaonaaGreat

namespace Go.Proofs.YtiibeahgleaonaaGreat
open Go.RowKit Go.Shelf

/-- The blocks of such a writer: what is taken; the thing; the result. -/
structure WW (T : TypeId) (vs : List Value) (w Y : World) (s : St) (z : Value) : Prop where
  a : Blk Y w.heap.size 67 [z, .int .i64 s.2]
  l : Blk Y (w.heap.size + 1) T vs
  r : Blk Y (w.heap.size + 2) 67 [.slice none 0 0, .int .i64 0]
  b : BSl 0 Y.heap.size Y z s.1
  w : Below w.heap.size w Y
theorem WW.below {T : TypeId} {vs : List Value} {w Y Y' : World} {s : St} {z : Value} (h : WW T vs w Y s z) (hb : Below Y.heap.size Y Y') : WW T vs w Y' s z :=
  ⟨h.a.below hb h.a.lt, h.l.below hb h.l.lt, h.r.below hb h.r.lt, (h.b.below hb (Nat.le_refl _)).mono (Nat.le_refl _) hb.size, chain h.w hb⟩
theorem WW.drew {T : TypeId} {vs : List Value} {w Y : World} {s : St} {z : Value} (h : WW T vs w Y s z) : WW T vs w Y.drew s z := h.below (Below.refl _ Y).drew
theorem WW.fin {T : TypeId} {vs : List Value} {w Y : World} {s s' : St} {z : Value} (h : WW T vs w Y s z) {sv : Value} (hv : BSl 0 Y.heap.size Y sv s'.1) :
    WW T vs w ((Y.setCell ⟨w.heap.size, 0, none⟩ sv).setCell ⟨w.heap.size, 1, none⟩ (.int .i64 s'.2)) s' sv := by
  obtain ⟨h1, h2, h3⟩ := stored_at (y := s'.2) hv h.w (Nat.le_refl _) h.b.shape3 h.a
  exact ⟨h1, (h.l.other 0 _ (by omega)).other 1 _ (by omega), (h.r.other 0 _ (by omega)).other 1 _ (by omega), h2, h3⟩
end Go.Proofs.YtiibeahgleaonaaGreat

namespace Go.Proofs.YtiibeahgleaonaaGreat
open Go.RowKit Go.Shelf

set_option maxRecDepth 100000 in
set_option maxHeartbeats 2000000 in
theorem refPutAsk_any {s : St} (hok : OkS s) (sv : Value) (i : Ak) (hi4 : Ok4 i.a0 i.a1 i.a2 i.a3) (w : World) (hsl : BSl 0 w.heap.size w sv s.1) :
    Calls Tryz.prog 34 #[.agg #[sv, .int .i64 s.2], akv i] w (RefS (putA s i) w) := by
  have hmx : Tryz.prog.follows .mixedOrders = true := by kernel_rfl
  have HG : Hid (putA s i = txtS (wideS (numS (numS (numS (numS s i.us) i.se) i.re) i.to) i.a0 i.a1 i.a2 i.a3) i.id) := Lib.hid rfl
  have hok1 : OkS (numS (numS (numS (numS s i.us) i.se) i.re) i.to) := okS_putA4 hok i
  obtain ⟨a, m, c, rfl⟩ := hsl.shape3
  go_enter Tryz.func34, Tryz.ntmps34
  go_wp2_with fail
  generalize hW0 : World.alloc _ _ = W0
  have hP : WW 26 (akc i) w W0 s (.slice a m c) := by
    have b3 := chainA (chainA (chain0 w (.cells #[.slice a m c, .int .i64 s.2] 67)) (.cells (akc i).toArray 26)) (.cells #[.slice none 0 0, .int .i64 0] 67)
    rw [← hW0]
    exact ⟨((Blk.new w _ [_, _]).alloc _).alloc _, (Blk.new' (vs := (akc i)) (by simp)).alloc _, Blk.new' (vs := [_, _]) (by simp), (hsl.below b3 (Nat.le_refl _)).mono (Nat.le_refl _) b3.size, b3⟩
  clear hW0 hsl
  refine wp_region_held_drew (S := fun W => Blk W (w.heap.size + 1) 26 (akc i)) hmx hP.l ?_
  intro hS
  replace hP := hP.drew
  generalize World.drew _ = Y at *
  refine' wpAnyH_take (i := 1) (oi := _) (v := _) ?hi1 (by kernel_rfl) (by kernel_rfl) (by kernel_rfl) ?hQ1 (Or.inl ⟨?hw1, ?hy1⟩) hS ?rest1
  case hi1 => simp only [List.getElem?_toArray, List.getElem?_cons_succ, List.getElem?_cons_zero]; rfl
  case hQ1 => exact fun _ _ _ h => h
  case hw1 => rfl
  case hy1 => intro W' hS'; go_simp; with_reducible rfl
  try simp only [Act.put, List.setIfInBounds_toArray, List.set_cons_zero, List.set_cons_succ]
  refine' wpAnyH_take (i := 2) (oi := _) (v := _) ?hi2 (by kernel_rfl) (by kernel_rfl) (by kernel_rfl) ?hQ2 (Or.inl ⟨?hw2, ?hy2⟩) hS ?rest2
  case hi2 => simp only [List.getElem?_toArray, List.getElem?_cons_succ, List.getElem?_cons_zero]; rfl
  case hQ2 => exact fun _ _ _ h => h
  case hw2 => rfl
  case hy2 => intro W' hS'; obtain ⟨c0, c1, c2, c3, c4, c5, c6, c7, c8⟩ := Blk.c9 hS'; go_simp; with_reducible rfl
  try simp only [Act.put, List.setIfInBounds_toArray, List.set_cons_zero, List.set_cons_succ]
  refine' wpAnyH_take (i := 4) (oi := _) (v := _) ?hi3 (by kernel_rfl) (by kernel_rfl) (by kernel_rfl) ?hQ3 (Or.inl ⟨?hw3, ?hy3⟩) hS ?rest3
  case hi3 => simp only [List.getElem?_toArray, List.getElem?_cons_succ, List.getElem?_cons_zero]; rfl
  case hQ3 => exact fun _ _ _ h => h
  case hw3 => rfl
  case hy3 => intro W' hS'; go_simp; with_reducible rfl
  try simp only [Act.put, List.setIfInBounds_toArray, List.set_cons_zero, List.set_cons_succ]
  refine' wpAnyH_take (i := 5) (oi := _) (v := _) ?hi4 (by kernel_rfl) (by kernel_rfl) (by kernel_rfl) ?hQ4 (Or.inl ⟨?hw4, ?hy4⟩) hS ?rest4
  case hi4 => simp only [List.getElem?_toArray, List.getElem?_cons_succ, List.getElem?_cons_zero]; rfl
  case hQ4 => exact fun _ _ _ h => h
  case hw4 => rfl
  case hy4 => intro W' hS'; obtain ⟨c0, c1, c2, c3, c4, c5, c6, c7, c8⟩ := Blk.c9 hS'; go_simp; with_reducible rfl
  try simp only [Act.put, List.setIfInBounds_toArray, List.set_cons_zero, List.set_cons_succ]
  refine' wpAnyH_take (i := 7) (oi := _) (v := _) ?hi5 (by kernel_rfl) (by kernel_rfl) (by kernel_rfl) ?hQ5 (Or.inl ⟨?hw5, ?hy5⟩) hS ?rest5
  case hi5 => simp only [List.getElem?_toArray, List.getElem?_cons_succ, List.getElem?_cons_zero]; rfl
  case hQ5 => exact fun _ _ _ h => h
  case hw5 => rfl
  case hy5 => intro W' hS'; go_simp; with_reducible rfl
  try simp only [Act.put, List.setIfInBounds_toArray, List.set_cons_zero, List.set_cons_succ]
  refine' wpAnyH_take (i := 8) (oi := _) (v := _) ?hi6 (by kernel_rfl) (by kernel_rfl) (by kernel_rfl) ?hQ6 (Or.inl ⟨?hw6, ?hy6⟩) hS ?rest6
  case hi6 => simp only [List.getElem?_toArray, List.getElem?_cons_succ, List.getElem?_cons_zero]; rfl
  case hQ6 => exact fun _ _ _ h => h
  case hw6 => rfl
  case hy6 => intro W' hS'; obtain ⟨c0, c1, c2, c3, c4, c5, c6, c7, c8⟩ := Blk.c9 hS'; go_simp; with_reducible rfl
  try simp only [Act.put, List.setIfInBounds_toArray, List.set_cons_zero, List.set_cons_succ]
  refine' wpAnyH_take (i := 10) (oi := _) (v := _) ?hi7 (by kernel_rfl) (by kernel_rfl) (by kernel_rfl) ?hQ7 (Or.inl ⟨?hw7, ?hy7⟩) hS ?rest7
  case hi7 => simp only [List.getElem?_toArray, List.getElem?_cons_succ, List.getElem?_cons_zero]; rfl
  case hQ7 => exact fun _ _ _ h => h
  case hw7 => rfl
  case hy7 => intro W' hS'; go_simp; with_reducible rfl
  try simp only [Act.put, List.setIfInBounds_toArray, List.set_cons_zero, List.set_cons_succ]
  refine' wpAnyH_take (i := 11) (oi := _) (v := _) ?hi8 (by kernel_rfl) (by kernel_rfl) (by kernel_rfl) ?hQ8 (Or.inl ⟨?hw8, ?hy8⟩) hS ?rest8
  case hi8 => simp only [List.getElem?_toArray, List.getElem?_cons_succ, List.getElem?_cons_zero]; rfl
  case hQ8 => exact fun _ _ _ h => h
  case hw8 => rfl
  case hy8 => intro W' hS'; obtain ⟨c0, c1, c2, c3, c4, c5, c6, c7, c8⟩ := Blk.c9 hS'; go_simp; with_reducible rfl
  try simp only [Act.put, List.setIfInBounds_toArray, List.set_cons_zero, List.set_cons_succ]
  refine wpAnyH_ready (rs := [0]) (by kernel_rfl) (by simp) ?_
  refine' AllReadyH.cons (o := _) ?ho9 (fun K hK => ?st9) AllReadyH.nil
  case ho9 => simp only [List.getElem?_toArray, List.getElem?_cons_zero]; rfl
  case st9 =>
    obtain ⟨a0, a1⟩ := Blk.c2 hP.a
    go_simp
    refine hK.out _ _ hS (fun hS => ?_)
    clear hK K
    try simp only [Act.put, List.setIfInBounds_toArray, List.set_cons_zero, List.set_cons_succ]
    clear a0 a1
    have hv := hP.b
    refine wpAnyH_ready (rs := [3]) (by kernel_rfl) (by simp) ?_
    refine' AllReadyH.cons (o := _) ?ho10 (fun K hK => ?st10) AllReadyH.nil
    case ho10 => simp only [List.getElem?_toArray, List.getElem?_cons_succ, List.getElem?_cons_zero]; rfl
    case st10 =>
      go_simp
      refine (refNum6_any hok _ i.us _ hv).mono ?_
      rintro e Y1 ⟨vv, rfl, hv1, hb⟩
      refine hK.out _ _ (hS.below hb hS.lt) (fun hS => ?_)
      clear hK K
      try simp only [Act.put, List.setIfInBounds_toArray, List.set_cons_zero, List.set_cons_succ]
      replace hP := hP.below hb
      clear hv hb
      obtain ⟨va, vm, vc, rfl⟩ := hv1.shape3
      have hv := hv1
      clear hv1
      refine wpAnyH_ready (rs := [6]) (by kernel_rfl) (by simp) ?_
      refine' AllReadyH.cons (o := _) ?ho11 (fun K hK => ?st11) AllReadyH.nil
      case ho11 => simp only [List.getElem?_toArray, List.getElem?_cons_succ, List.getElem?_cons_zero]; rfl
      case st11 =>
        go_simp
        refine (refNum6_any (okS_num hok _) _ i.se _ hv).mono ?_
        rintro e Y1 ⟨vv, rfl, hv1, hb⟩
        refine hK.out _ _ (hS.below hb hS.lt) (fun hS => ?_)
        clear hK K
        try simp only [Act.put, List.setIfInBounds_toArray, List.set_cons_zero, List.set_cons_succ]
        replace hP := hP.below hb
        clear hv hb
        obtain ⟨va, vm, vc, rfl⟩ := hv1.shape3
        have hv := hv1
        clear hv1
        refine wpAnyH_ready (rs := [9]) (by kernel_rfl) (by simp) ?_
        refine' AllReadyH.cons (o := _) ?ho12 (fun K hK => ?st12) AllReadyH.nil
        case ho12 => simp only [List.getElem?_toArray, List.getElem?_cons_succ, List.getElem?_cons_zero]; rfl
        case st12 =>
          go_simp
          refine (refNum6_any (okS_num (okS_num hok _) _) _ i.re _ hv).mono ?_
          rintro e Y1 ⟨vv, rfl, hv1, hb⟩
          refine hK.out _ _ (hS.below hb hS.lt) (fun hS => ?_)
          clear hK K
          try simp only [Act.put, List.setIfInBounds_toArray, List.set_cons_zero, List.set_cons_succ]
          replace hP := hP.below hb
          clear hv hb
          obtain ⟨va, vm, vc, rfl⟩ := hv1.shape3
          have hv := hv1
          clear hv1
          refine wpAnyH_ready (rs := [12]) (by kernel_rfl) (by simp) ?_
          refine' AllReadyH.cons (o := _) ?ho13 (fun K hK => ?st13) AllReadyH.nil
          case ho13 => simp only [List.getElem?_toArray, List.getElem?_cons_succ, List.getElem?_cons_zero]; rfl
          case st13 =>
            go_simp
            refine (refNum6_any (okS_num (okS_num (okS_num hok _) _) _) _ i.to _ hv).mono ?_
            rintro e Y1 ⟨vv, rfl, hv1, hb⟩
            refine hK.out _ _ (hS.below hb hS.lt) (fun hS => ?_)
            clear hK K
            try simp only [Act.put, List.setIfInBounds_toArray, List.set_cons_zero, List.set_cons_succ]
            replace hP := hP.below hb
            clear hv hb
            obtain ⟨va, vm, vc, rfl⟩ := hv1.shape3
            have hv := hv1
            clear hv1
            refine wpAnyH_ready (rs := [13]) (by kernel_rfl) (by simp) ?_
            refine' AllReadyH.cons (o := _) ?ho14 (fun K hK => ?st14) AllReadyH.nil
            case ho14 => simp only [List.getElem?_toArray, List.getElem?_cons_succ, List.getElem?_cons_zero]; rfl
            case st14 =>
              obtain ⟨a0, a1⟩ := Blk.c2 hP.a
              have fa := hP.a.frozen
              go_simp
              refine hK.out _ _ ((hS.other 0 _ (by omega)).other 1 _ (by omega)) (fun hS => ?_)
              clear hK K
              try simp only [Act.put, List.setIfInBounds_toArray, List.set_cons_zero, List.set_cons_succ]
              replace hP := WW.fin (s' := numS (numS (numS (numS s i.us) i.se) i.re) i.to) hP hv
              clear a0 a1 fa hv
              refine wpAnyH_done (by kernel_rfl) ?_ _
              go_wp2_with fail
              generalize (World.setCell (World.setCell Y1 _ _) _ _) = Y3 at *
              generalize numS (numS (numS (numS s i.us) i.se) i.re) i.to = s1 at *
              clear hS
              refine wp_region_held_drew (S := fun W => Blk W (w.heap.size + 1) 26 (akc i)) hmx hP.l ?_
              intro hS
              replace hP := hP.drew
              generalize World.drew _ = Y at *
              refine' wpAnyH_take (i := 1) (oi := _) (v := _) ?hi15 (by kernel_rfl) (by kernel_rfl) (by kernel_rfl) ?hQ15 (Or.inl ⟨?hw15, ?hy15⟩) hS ?rest15
              case hi15 => simp only [List.getElem?_toArray, List.getElem?_cons_succ, List.getElem?_cons_zero]; rfl
              case hQ15 => exact fun _ _ _ h => h
              case hw15 => rfl
              case hy15 => intro W' hS'; go_simp; with_reducible rfl
              try simp only [Act.put, List.setIfInBounds_toArray, List.set_cons_zero, List.set_cons_succ]
              refine' wpAnyH_take (i := 2) (oi := _) (v := _) ?hi16 (by kernel_rfl) (by kernel_rfl) (by kernel_rfl) ?hQ16 (Or.inl ⟨?hw16, ?hy16⟩) hS ?rest16
              case hi16 => simp only [List.getElem?_toArray, List.getElem?_cons_succ, List.getElem?_cons_zero]; rfl
              case hQ16 => exact fun _ _ _ h => h
              case hw16 => rfl
              case hy16 => intro W' hS'; obtain ⟨c0, c1, c2, c3, c4, c5, c6, c7, c8⟩ := Blk.c9 hS'; go_simp; with_reducible rfl
              try simp only [Act.put, List.setIfInBounds_toArray, List.set_cons_zero, List.set_cons_succ]
              refine' wpAnyH_take (i := 4) (oi := _) (v := _) ?hi17 (by kernel_rfl) (by kernel_rfl) (by kernel_rfl) ?hQ17 (Or.inl ⟨?hw17, ?hy17⟩) hS ?rest17
              case hi17 => simp only [List.getElem?_toArray, List.getElem?_cons_succ, List.getElem?_cons_zero]; rfl
              case hQ17 => exact fun _ _ _ h => h
              case hw17 => rfl
              case hy17 => intro W' hS'; go_simp; with_reducible rfl
              try simp only [Act.put, List.setIfInBounds_toArray, List.set_cons_zero, List.set_cons_succ]
              refine' wpAnyH_take (i := 5) (oi := _) (v := _) ?hi18 (by kernel_rfl) (by kernel_rfl) (by kernel_rfl) ?hQ18 (Or.inl ⟨?hw18, ?hy18⟩) hS ?rest18
              case hi18 => simp only [List.getElem?_toArray, List.getElem?_cons_succ, List.getElem?_cons_zero]; rfl
              case hQ18 => exact fun _ _ _ h => h
              case hw18 => rfl
              case hy18 => intro W' hS'; obtain ⟨c0, c1, c2, c3, c4, c5, c6, c7, c8⟩ := Blk.c9 hS'; go_simp; with_reducible rfl
              try simp only [Act.put, List.setIfInBounds_toArray, List.set_cons_zero, List.set_cons_succ]
              refine wpAnyH_ready (rs := [0]) (by kernel_rfl) (by simp) ?_
              refine' AllReadyH.cons (o := _) ?ho19 (fun K hK => ?st19) AllReadyH.nil
              case ho19 => simp only [List.getElem?_toArray, List.getElem?_cons_zero]; rfl
              case st19 =>
                obtain ⟨a0, a1⟩ := Blk.c2 hP.a
                go_simp
                refine hK.out _ _ hS (fun hS => ?_)
                clear hK K
                try simp only [Act.put, List.setIfInBounds_toArray, List.set_cons_zero, List.set_cons_succ]
                clear a0 a1
                have hv := hP.b
                refine wpAnyH_ready (rs := [3]) (by kernel_rfl) (by simp) ?_
                refine' AllReadyH.cons (o := _) ?ho20 (fun K hK => ?st20) AllReadyH.nil
                case ho20 => simp only [List.getElem?_toArray, List.getElem?_cons_succ, List.getElem?_cons_zero]; rfl
                case st20 =>
                  go_simp
                  refine (refWide6_any hok1 _ hi4 _ hv).mono ?_
                  rintro e Y1 ⟨vv, rfl, hv1, hb⟩
                  refine hK.out _ _ (hS.below hb hS.lt) (fun hS => ?_)
                  clear hK K
                  try simp only [Act.put, List.setIfInBounds_toArray, List.set_cons_zero, List.set_cons_succ]
                  replace hP := hP.below hb
                  clear hv hb
                  obtain ⟨va, vm, vc, rfl⟩ := hv1.shape3
                  have hv := hv1
                  clear hv1
                  refine wpAnyH_ready (rs := [6]) (by kernel_rfl) (by simp) ?_
                  refine' AllReadyH.cons (o := _) ?ho21 (fun K hK => ?st21) AllReadyH.nil
                  case ho21 => simp only [List.getElem?_toArray, List.getElem?_cons_succ, List.getElem?_cons_zero]; rfl
                  case st21 =>
                    go_simp
                    refine (refText6_any (okS_wide hok1 _ _ _ _) _ i.id _ hv).mono ?_
                    rintro e Y1 ⟨vv, rfl, hv1, hb⟩
                    refine hK.out _ _ (hS.below hb hS.lt) (fun hS => ?_)
                    clear hK K
                    try simp only [Act.put, List.setIfInBounds_toArray, List.set_cons_zero, List.set_cons_succ]
                    replace hP := hP.below hb
                    clear hv hb
                    obtain ⟨va, vm, vc, rfl⟩ := hv1.shape3
                    have hv := hv1
                    clear hv1
                    refine wpAnyH_ready (rs := [7]) (by kernel_rfl) (by simp) ?_
                    refine' AllReadyH.cons (o := _) ?ho22 (fun K hK => ?st22) AllReadyH.nil
                    case ho22 => simp only [List.getElem?_toArray, List.getElem?_cons_succ, List.getElem?_cons_zero]; rfl
                    case st22 =>
                      obtain ⟨r0, r1⟩ := Blk.c2 hP.r
                      have g0 := hP.r.frozen
                      go_simp
                      refine hK.out _ _ ((hS.other 0 _ (by omega)).other 1 _ (by omega)) (fun hS => ?_)
                      clear hK K
                      try simp only [Act.put, List.setIfInBounds_toArray, List.set_cons_zero, List.set_cons_succ]
                      refine wpAnyH_done (by kernel_rfl) ?_ _
                      have hfin := refS_stored hv hP.w (Nat.le_add_right _ 2) ⟨_, _, _, rfl⟩ hP.r
                      go_wp2_with fail
                      obtain ⟨q0, q1⟩ := Blk.c2 hfin.1
                      exact bodyPost_ret (v := .agg #[.slice va vm vc, .int .i64 (txtS (wideS s1 i.a0 i.a1 i.a2 i.a3) i.id).2]) (by simp [results, Tryz.results34, go_sem, q0, q1]; try rfl) rfl (by rw [HG.out]; exact hfin.2)
end Go.Proofs.YtiibeahgleaonaaGreat

namespace Go.Proofs.YtiibeahgleaonaaGreat
open Go.RowKit Go.Shelf

/-- 'string(b)', at this seat. -/
theorem str_of (W : World) {lo hi : Nat} {sv : Value} {l : List UInt8} (h : BSl lo hi W sv l) : (convert 35 9 sv).run Tryz.prog W = .ok (.string ⟨l.toArray⟩) W :=
  run_string (P := Tryz.prog) 35 5 9 Tryz.underlying35 Tryz.underlying5 Tryz.underlying9 W h
theorem fieldB (W : World) (a : Option Addr) (m c : Nat) (x : Int) : (Instr.field 67 (.agg #[.slice a m c, .int .i64 x]) 0).run Tryz.prog W = .ok (.slice a m c) W := by
  simp [Instr.field, asAgg, run_underlying Tryz.underlying67, go_sem]
end Go.Proofs.YtiibeahgleaonaaGreat

namespace Go.Proofs.YtiibeahgleaonaaGreat
open Go.RowKit Go.Shelf

set_option maxRecDepth 100000 in
set_option maxHeartbeats 4000000 in
theorem refText8_any (b : Bd) (hb4 : OkB b) (w : World) :
    Calls Tryz.prog 11 #[bdv b] w (OctsL (textL b) w) := by
  have hmx : Tryz.prog.follows .mixedOrders = true := by kernel_rfl
  have HC := Lib.hid (refBid_any b hb4)
  have kB := Blk.new w 28 (bdc b)
  have hB := chain0 w (.cells (bdc b).toArray 28)
  by_cases hm : maybeB b
  · have HE := Lib.hid (errB_zero hm)
    have HT : Hid (textL b = (numS (wideS (putA (numS (txtS ([], 0) bidB) b.ro) b.k) b.b0 b.b1 b.b2 b.b3) b.un).1) := Lib.hid (textL_yes hm)
    clear hm
    have ok1 := okS_txt okS_new bidB
    have ok2 := okS_num ok1 b.ro
    have ok3 := okS_putA ok2 b.k
    have ok4 := okS_wide ok3 b.b0 b.b1 b.b2 b.b3
    go_enter Tryz.func11, Tryz.ntmps11
    go_upto_region 3 with (first
      | (refine wpList_loadIf 28 (.tmp 1) rfl _ rfl rfl (bdv b) (load_bid kB) ?_)
      | (go_at_call 9; refine (HC.out _).mono ?_; rw [HE.out]; rintro e W1 ⟨rfl, hb1⟩; replace kB := kB.below hb1 kB.lt; replace hB := chain hB hb1; clear hb1))
    refine wp_region_held_drew (S := fun W => Blk W w.heap.size 28 (bdc b)) hmx kB ?_
    intro hS
    replace hB := hB.drew
    clear kB
    generalize World.drew _ = Y at *
    refine' wpAnyH_take (i := 0) (oi := _) (v := _) ?hi1 (by kernel_rfl) (by kernel_rfl) (by kernel_rfl) ?hQ1 (Or.inl ⟨?hw1, ?hy1⟩) hS ?rest1
    case hi1 => simp only [List.getElem?_toArray, List.getElem?_cons_zero]; rfl
    case hQ1 => exact fun _ _ _ h => h
    case hw1 => rfl
    case hy1 => intro W' hS'; go_simp; with_reducible rfl
    try simp only [Act.put, List.setIfInBounds_toArray, List.set_cons_zero, List.set_cons_succ]
    refine' wpAnyH_take (i := 2) (oi := _) (v := _) ?hi2 (by kernel_rfl) (by kernel_rfl) (by kernel_rfl) ?hQ2 (Or.inl ⟨?hw2, ?hy2⟩) hS ?rest2
    case hi2 => simp only [List.getElem?_toArray, List.getElem?_cons_succ, List.getElem?_cons_zero]; rfl
    case hQ2 => exact fun _ _ _ h => h
    case hw2 => rfl
    case hy2 => intro W' hS'; go_simp; with_reducible rfl
    try simp only [Act.put, List.setIfInBounds_toArray, List.set_cons_zero, List.set_cons_succ]
    refine' wpAnyH_take (i := 3) (oi := _) (v := _) ?hi3 (by kernel_rfl) (by kernel_rfl) (by kernel_rfl) ?hQ3 (Or.inl ⟨?hw3, ?hy3⟩) hS ?rest3
    case hi3 => simp only [List.getElem?_toArray, List.getElem?_cons_succ, List.getElem?_cons_zero]; rfl
    case hQ3 => exact fun _ _ _ h => h
    case hw3 => rfl
    case hy3 => intro W' hS'; have c0 := (hS'.cell 0).trans rfl; go_simp; with_reducible rfl
    try simp only [Act.put, List.setIfInBounds_toArray, List.set_cons_zero, List.set_cons_succ]
    refine' wpAnyH_take (i := 5) (oi := _) (v := _) ?hi4 (by kernel_rfl) (by kernel_rfl) (by kernel_rfl) ?hQ4 (Or.inl ⟨?hw4, ?hy4⟩) hS ?rest4
    case hi4 => simp only [List.getElem?_toArray, List.getElem?_cons_succ, List.getElem?_cons_zero]; rfl
    case hQ4 => exact fun _ _ _ h => h
    case hw4 => rfl
    case hy4 => intro W' hS'; go_simp; with_reducible rfl
    try simp only [Act.put, List.setIfInBounds_toArray, List.set_cons_zero, List.set_cons_succ]
    refine' wpAnyH_take (i := 6) (oi := _) (v := _) ?hi5 (by kernel_rfl) (by kernel_rfl) (by kernel_rfl) ?hQ5 (Or.inl ⟨?hw5, ?hy5⟩) hS ?rest5
    case hi5 => simp only [List.getElem?_toArray, List.getElem?_cons_succ, List.getElem?_cons_zero]; rfl
    case hQ5 => exact fun _ _ _ h => h
    case hw5 => rfl
    case hy5 => intro W' hS'; have c1 := (hS'.cell 1).trans rfl; have c2 := (hS'.cell 2).trans rfl; have c3 := (hS'.cell 3).trans rfl; have c4 := (hS'.cell 4).trans rfl; have c5 := (hS'.cell 5).trans rfl; have c6 := (hS'.cell 6).trans rfl; have c7 := (hS'.cell 7).trans rfl; have c8 := (hS'.cell 8).trans rfl; have c9 := (hS'.cell 9).trans rfl; go_simp; with_reducible rfl
    try simp only [Act.put, List.setIfInBounds_toArray, List.set_cons_zero, List.set_cons_succ]
    refine' wpAnyH_take (i := 8) (oi := _) (v := _) ?hi6 (by kernel_rfl) (by kernel_rfl) (by kernel_rfl) ?hQ6 (Or.inl ⟨?hw6, ?hy6⟩) hS ?rest6
    case hi6 => simp only [List.getElem?_toArray, List.getElem?_cons_succ, List.getElem?_cons_zero]; rfl
    case hQ6 => exact fun _ _ _ h => h
    case hw6 => rfl
    case hy6 => intro W' hS'; go_simp; with_reducible rfl
    try simp only [Act.put, List.setIfInBounds_toArray, List.set_cons_zero, List.set_cons_succ]
    refine' wpAnyH_take (i := 9) (oi := _) (v := _) ?hi7 (by kernel_rfl) (by kernel_rfl) (by kernel_rfl) ?hQ7 (Or.inl ⟨?hw7, ?hy7⟩) hS ?rest7
    case hi7 => simp only [List.getElem?_toArray, List.getElem?_cons_succ, List.getElem?_cons_zero]; rfl
    case hQ7 => exact fun _ _ _ h => h
    case hw7 => rfl
    case hy7 => intro W' hS'; have c10 := (hS'.cell 10).trans rfl; have c11 := (hS'.cell 11).trans rfl; have c12 := (hS'.cell 12).trans rfl; have c13 := (hS'.cell 13).trans rfl; go_simp; with_reducible rfl
    try simp only [Act.put, List.setIfInBounds_toArray, List.set_cons_zero, List.set_cons_succ]
    refine' wpAnyH_take (i := 11) (oi := _) (v := _) ?hi8 (by kernel_rfl) (by kernel_rfl) (by kernel_rfl) ?hQ8 (Or.inl ⟨?hw8, ?hy8⟩) hS ?rest8
    case hi8 => simp only [List.getElem?_toArray, List.getElem?_cons_succ, List.getElem?_cons_zero]; rfl
    case hQ8 => exact fun _ _ _ h => h
    case hw8 => rfl
    case hy8 => intro W' hS'; go_simp; with_reducible rfl
    try simp only [Act.put, List.setIfInBounds_toArray, List.set_cons_zero, List.set_cons_succ]
    refine' wpAnyH_take (i := 12) (oi := _) (v := _) ?hi9 (by kernel_rfl) (by kernel_rfl) (by kernel_rfl) ?hQ9 (Or.inl ⟨?hw9, ?hy9⟩) hS ?rest9
    case hi9 => simp only [List.getElem?_toArray, List.getElem?_cons_succ, List.getElem?_cons_zero]; rfl
    case hQ9 => exact fun _ _ _ h => h
    case hw9 => rfl
    case hy9 => intro W' hS'; have c14 := (hS'.cell 14).trans rfl; go_simp; with_reducible rfl
    try simp only [Act.put, List.setIfInBounds_toArray, List.set_cons_zero, List.set_cons_succ]
    refine wpAnyH_ready (rs := [1]) (by kernel_rfl) (by simp) ?_
    refine' AllReadyH.cons (o := _) ?ho10 (fun K hK => ?st10) AllReadyH.nil
    case ho10 => simp only [List.getElem?_toArray, List.getElem?_cons_succ, List.getElem?_cons_zero]; rfl
    case st10 =>
      go_simp
      refine (refText6_any okS_new (.slice none 0 0) bidB _ (BSl.nil _ _ _)).mono ?_
      rintro e Y1 ⟨v2, rfl, hv2, hb⟩
      refine hK.out _ _ (hS.below hb hS.lt) (fun hS => ?_)
      clear hK K
      try simp only [Act.put, List.setIfInBounds_toArray, List.set_cons_zero, List.set_cons_succ]
      replace hB := chain hB hb
      clear hb
      refine wpAnyH_ready (rs := [4]) (by kernel_rfl) (by simp) ?_
      refine' AllReadyH.cons (o := _) ?ho11 (fun K hK => ?st11) AllReadyH.nil
      case ho11 => simp only [List.getElem?_toArray, List.getElem?_cons_succ, List.getElem?_cons_zero]; rfl
      case st11 =>
        go_simp
        refine (refNum6_any ok1 _ b.ro _ hv2).mono ?_
        rintro e Y1 ⟨v3, rfl, hv3, hb⟩
        refine hK.out _ _ (hS.below hb hS.lt) (fun hS => ?_)
        clear hK K
        try simp only [Act.put, List.setIfInBounds_toArray, List.set_cons_zero, List.set_cons_succ]
        replace hB := chain hB hb
        clear hb
        refine wpAnyH_ready (rs := [7]) (by kernel_rfl) (by simp) ?_
        refine' AllReadyH.cons (o := _) ?ho12 (fun K hK => ?st12) AllReadyH.nil
        case ho12 => simp only [List.getElem?_toArray, List.getElem?_cons_succ, List.getElem?_cons_zero]; rfl
        case st12 =>
          go_simp
          refine (refPutAsk_any ok2 _ b.k hb4.k _ hv3).mono ?_
          rintro e Y1 ⟨v4, rfl, hv4, hb⟩
          refine hK.out _ _ (hS.below hb hS.lt) (fun hS => ?_)
          clear hK K
          try simp only [Act.put, List.setIfInBounds_toArray, List.set_cons_zero, List.set_cons_succ]
          replace hB := chain hB hb
          clear hb
          refine wpAnyH_ready (rs := [10]) (by kernel_rfl) (by simp) ?_
          refine' AllReadyH.cons (o := _) ?ho13 (fun K hK => ?st13) AllReadyH.nil
          case ho13 => simp only [List.getElem?_toArray, List.getElem?_cons_succ, List.getElem?_cons_zero]; rfl
          case st13 =>
            go_simp
            refine (refWide6_any ok3 _ hb4.b _ hv4).mono ?_
            rintro e Y1 ⟨v5, rfl, hv5, hb⟩
            refine hK.out _ _ (hS.below hb hS.lt) (fun hS => ?_)
            clear hK K
            try simp only [Act.put, List.setIfInBounds_toArray, List.set_cons_zero, List.set_cons_succ]
            replace hB := chain hB hb
            clear hb
            refine wpAnyH_ready (rs := [13]) (by kernel_rfl) (by simp) ?_
            refine' AllReadyH.cons (o := _) ?ho14 (fun K hK => ?st14) AllReadyH.nil
            case ho14 => simp only [List.getElem?_toArray, List.getElem?_cons_succ, List.getElem?_cons_zero]; rfl
            case st14 =>
              go_simp
              refine (refNum6_any ok4 _ b.un _ hv5).mono ?_
              rintro e Y1 ⟨v6, rfl, hv6, hb⟩
              refine hK.out _ _ (hS.below hb hS.lt) (fun hS => ?_)
              clear hK K
              try simp only [Act.put, List.setIfInBounds_toArray, List.set_cons_zero, List.set_cons_succ]
              replace hB := chain hB hb
              clear hb
              obtain ⟨va, vm, vc, rfl⟩ := hv6.shape3
              refine' wpAnyH_take (i := 14) (oi := _) (v := _) ?hi15 (by kernel_rfl) (by kernel_rfl) (by kernel_rfl) ?hQ15 (Or.inl ⟨?hw15, ?hy15⟩) hS ?rest15
              case hi15 => simp only [List.getElem?_toArray, List.getElem?_cons_succ, List.getElem?_cons_zero]; rfl
              case hQ15 => exact fun _ _ _ h => h
              case hw15 => rfl
              case hy15 => intro W' hS'; have hfb := fieldB; go_simp; with_reducible rfl
              try simp only [Act.put, List.setIfInBounds_toArray, List.set_cons_zero, List.set_cons_succ]
              refine' wpAnyH_take (i := 15) (oi := _) (v := _) ?hi16 (by kernel_rfl) (by kernel_rfl) (by kernel_rfl) ?hQ16 (Or.inl ⟨?hw16, ?hy16⟩) hS ?rest16
              case hi16 => simp only [List.getElem?_toArray, List.getElem?_cons_succ, List.getElem?_cons_zero]; rfl
              case hQ16 => exact fun _ _ _ h => h
              case hw16 => rfl
              case hy16 => intro W' hS'; go_simp; with_reducible rfl
              try simp only [Act.put, List.setIfInBounds_toArray, List.set_cons_zero, List.set_cons_succ]
              refine wpAnyH_done (by kernel_rfl) ?_ _
              go_wp2_with fail
              go_ret
              exact ⟨_, rfl, by rw [HT.out]; exact hv6, hB⟩
  · have HE := Lib.hid (errB_bad hm)
    have HT := Lib.hid (textL_no hm)
    clear hm
    go_enter Tryz.func11, Tryz.ntmps11
    go_wp2_with (first
      | (refine wpList_loadIf 28 (.tmp 1) rfl _ rfl rfl (bdv b) (load_bid kB) ?_)
      | (go_at_call 9; refine (HC.out _).mono ?_; rw [HE.out]; rintro e W1 ⟨rfl, hb1⟩; replace hB := chain hB hb1))
    go_ret
    exact ⟨_, rfl, by rw [HT.out]; exact BSl.nil _ _ _, hB⟩
end Go.Proofs.YtiibeahgleaonaaGreat

namespace Go.Proofs.YtiibeahgleaonaaGreat
open Go.RowKit Go.Shelf

/-- An int, a string, as values. -/
abbrev iv (x : Int) : Value := .int .i64 x
abbrev tv (s : ByteArray) : Value := .string s
/-- The row at b, off holds these values. -/
def Row (W : World) (b off : Nat) (vs : List Value) : Prop := ∀ k v, vs[k]? = some v → W.cell? ⟨b, off + k, none⟩ = some v
theorem Row.below {W W' : World} {n b off : Nat} {vs : List Value} (h : Row W b off vs) (hb : Below n W W') (hlt : b < n) : Row W' b off vs := fun k x hx => (hb.cell (p := ⟨b, _, none⟩) hlt).trans (h k x hx)
theorem Row.kept {W W' : World} {row : Option Nat} {b off : Nat} {vs : List Value} (h : Row W b off vs) (hb : b < W.heap.size) (hg : W.grownBy W' row) (hne : some b ≠ row) : Row W' b off vs := fun k x hx =>
  (World.cell?_of_block (a := ⟨b, _, none⟩) (hg.block b hb hne)).trans (h k x hx)
theorem Row.own {W W' : World} {row : Option Nat} {b off : Nat} {vs : List Value} (h : Row W b off vs) (hb : b < W.heap.size) (hg : W.grownBy W' row) (hr : ∀ r, row = some r → ∃ o : Obj, W.heap[r]? = some o ∧ o.isCells = false) : Row W' b off vs := fun k x hx => by
  have hc := h k x hx
  refine (World.cell?_of_block (a := ⟨b, _, none⟩) (hg.block b hb (fun e => ?_))).trans hc
  obtain ⟨o, ho, hoc⟩ := hr b e.symm
  simp only [World.cell?, ho] at hc
  cases o <;> first | (cases hoc; done) | (simp at hc)
theorem Row.part {W : World} {b off : Nat} {vs : List Value} (h : Row W b off vs) (i n : Nat) : Row W b (off + i) ((vs.drop i).take n) := fun k x hx => by
  rw [Nat.add_assoc]
  refine h _ x ?_
  have hk : k < n := by
    have := (List.getElem?_eq_some_iff.1 hx).1
    rw [List.length_take] at this
    omega
  rwa [List.getElem?_take_of_lt hk, List.getElem?_drop] at hx
/-- sv is a slice of these values, in a block from lo on, below hi; or there are none. -/
def VSl (lo hi : Nat) (W : World) (sv : Value) (vs : List Value) : Prop :=
  ∃ a cap, sv = .slice a vs.length cap ∧ vs.length ≤ cap ∧ (vs = [] ∨ ∃ b off, a = some ⟨b, off, none⟩ ∧ lo ≤ b ∧ b < hi ∧ Row W b off vs)
theorem VSl.mono {lo hi lo' hi' : Nat} {W : World} {sv : Value} {vs : List Value} (h : VSl lo hi W sv vs) (h1 : lo' ≤ lo) (h2 : hi ≤ hi') : VSl lo' hi' W sv vs := by
  obtain ⟨a, cap, e, hc, h0 | ⟨b, off, ha, hl, hh, ho⟩⟩ := h
  · exact ⟨a, cap, e, hc, .inl h0⟩
  · exact ⟨a, cap, e, hc, .inr ⟨b, off, ha, by omega, by omega, ho⟩⟩
theorem VSl.below {lo hi m : Nat} {W W' : World} {sv : Value} {vs : List Value} (h : VSl lo hi W sv vs) (hb : Below m W W') (hm : hi ≤ m) : VSl lo hi W' sv vs := by
  obtain ⟨a, cap, e, hc, h0 | ⟨b, off, ha, hl, hh, ho⟩⟩ := h
  · exact ⟨a, cap, e, hc, .inl h0⟩
  · exact ⟨a, cap, e, hc, .inr ⟨b, off, ha, hl, hh, ho.below hb (by omega)⟩⟩
theorem VSl.nil (lo hi : Nat) (W : World) : VSl lo hi W (.slice none 0 0) [] := ⟨none, 0, rfl, Nat.le_refl _, .inl rfl⟩
/-- What a row of the call's own is as a slice. -/
theorem VSl.of_own {W : World} {lo : Nat} {e : TypeId} {v : Value} {vs : List Value} (h : W.ownsRow lo e 1 v vs.length vs) : VSl lo W.heap.size W v vs := by
  rcases Nat.eq_zero_or_pos vs.length with h0 | h0
  · have hl : vs = [] := List.eq_nil_of_length_eq_zero h0
    subst hl
    rcases h.2 with ⟨rfl, _⟩ | ⟨g, cap, cur, rfl, _, _, hnc, _⟩
    · exact VSl.nil _ _ _
    · exact ⟨_, cap, rfl, hnc, .inl rfl⟩
  · obtain ⟨hl, ⟨_, h1⟩ | ⟨g, cap, cur, rfl, hg, hb, hnc, hcm, hsz, htake⟩⟩ := h
    · omega
    · refine ⟨_, cap, rfl, hnc, .inr ⟨g, 0, rfl, hg, (Array.getElem?_eq_some_iff.1 hb).1, fun k x hk => ?_⟩⟩
      have hkl : k < vs.length := (List.getElem?_eq_some_iff.1 hk).1
      have e' : cur[k]? = (cur.toList.take (vs.length * 1))[k]? := by
        rw [List.getElem?_take_of_lt (by omega)]
        simp
      simp only [World.cell?, hb, Nat.zero_add]
      rw [show (if (none : Option Nat).isSome = true then (none : Option Value) else cur[k]?) = cur[k]? from rfl, e', htake]
      exact hk
theorem VSl.slice {lo hi : Nat} {W : World} {sv : Value} {vs : List Value} (h : VSl lo hi W sv vs) : ∃ a c, sv = .slice a vs.length c := by
  obtain ⟨a, c, e, _⟩ := h
  exact ⟨a, c, e⟩
/-- A row of two and more is no box; a row from a base on is none below it. -/
theorem own_ne {W : World} {base : Nat} {e t : TypeId} {v x : Value} {n : Nat} {xs : List Value} {B : Nat} (h : W.ownsRow base e 1 v n xs) (hb : Boxed W B t x) (hne : B < base ∨ 2 ≤ n) : some B ≠ v.ownBlock := fun e' => by
  rcases h.2 with ⟨rfl, _⟩ | ⟨g, cap, cur, rfl, hg, hc, hnc, _, hsz, _⟩
  · simp [Value.ownBlock] at e'
  · obtain rfl : B = g := by simpa [Value.ownBlock] using e'
    rw [show W.heap[B]? = _ from hb] at hc
    cases hc
    simp at hsz
    omega

end Go.Proofs.YtiibeahgleaonaaGreat

namespace Go.Proofs.YtiibeahgleaonaaGreat
open Go.RowKit Go.Shelf
attribute [local go_sem] Oper.semAt_some

/-- The digit at place p of x, counted from the lowest one. -/
def dig (x p : Nat) : Nat := x / 2 ^ (p * 2) % 4
/-- The lowest N digits, the highest first. -/
def digs (x N : Nat) : List Int := (List.range N).map fun i => (dig x (N - 1 - i) : Int)
theorem digs_length (x N : Nat) : (digs x N).length = N := by simp [digs]
theorem digs_at (x : Nat) {N k : Nat} (h : k < N) : (digs x N)[k]? = some (dig x (N - 1 - k) : Int) := by unfold digs; rw [List.getElem?_map, List.getElem?_range h]; rfl

theorem and3 {a : Nat} (ha : a ≤ 9223372036854775807) : bits .and .i64 (a : Int) 3 = ((a % 4 : Nat) : Int) := by
  have e := (Go.bits_nat .i64 63 (by decide) (fun n h0 h1 => by rw [IntKind.wrap_i64]; omega) a 3 (by simp; omega) (by simp)).1
  have h : a &&& 3 = a % 4 := by
    have := Nat.and_two_pow_sub_one_eq_mod a 2
    simpa using this
  rw [h] at e
  rw [← e]
  rfl

set_option maxRecDepth 100000 in
set_option maxHeartbeats 2000000 in
theorem digits1_rel (m : Nat) (hm : 1 ≤ m) (x N : Nat) (hx : x ≤ 16777215) (hN : N ≤ 16) (Bn Bm : Nat) (w : World) (kn : Boxed w Bn 3 (.int .i64 (x : Nat))) (km : Boxed w Bm 3 (.int .i64 (N : Nat))) :
    SeqRel Fence.wide m Tryz.prog 122 #[.pointer (some ⟨Bm, 0, none⟩), .pointer (some ⟨Bn, 0, none⟩)] N (fun k r _ => ∃ y : Int, (digs x N)[k]? = some y ∧ r = #[iv y]) (fun _ => KeepB2 Bn Bm) w := fun l J W hW _ _ _ hY h0 => by
  have hcn : Boxed W Bn 3 (.int .i64 (x : Nat)) := (hW.block Bn kn.lt).trans kn
  have hcm : Boxed W Bm 3 (.int .i64 (N : Nat)) := (hW.block Bm km.lt).trans km
  refine callsIn_of_wp Tryz.func122 rfl trivial ?_ rfl
  simp only [Tryz.ntmps122, List.size_toArray, List.length_cons, List.length_nil, Nat.reduceAdd, Nat.reduceSub, Array.replicate_succ, Array.replicate_zero, List.push_toArray, List.append_toArray, List.nil_append, List.cons_append]
  have hN' : (N : Int) ≤ 16 := by omega
  have cm := hcm.cell
  gi_wp2
  clear cm
  gi_loopw [7] (fun i wr => ∃ k : Nat, k ≤ N ∧ i = .int .i64 (k : Nat) ∧ (Boxed wr Bn 3 (.int .i64 (x : Nat)) ∧ Boxed wr Bm 3 (.int .i64 (N : Nat))) ∧ J k wr) (fun i _ => N - (intOf i).toNat)
  case atStart => exact ⟨0, by omega, rfl, ⟨hcn, hcm⟩, h0⟩
  clear hcn hcm h0
  case round =>
    obtain ⟨k, hk, rfl, ⟨hbn, hbm⟩, hJ⟩ := hrel
    have cn := hbn.cell
    have cm := hbm.cell
    by_cases hlt : k < N
    · have hlt' : (k : Int) < (N : Int) := by omega
      have hD := digs_at x hlt
      have hp : (N : Int) - 1 - k = ((N - 1 - k : Nat) : Int) := by omega
      have hpl : N - 1 - k ≤ 15 := by omega
      have hpl' : ((N - 1 - k : Nat) : Int) ≤ 15 := by omega
      obtain ⟨fn, tmps, assign, body, hy, hR⟩ := hY k #[iv (dig x (N - 1 - k) : Int)] wr hlt ⟨_, hD, rfl⟩ hJ
      clear hD
      generalize N - 1 - k = p at *
      have hb : bits BinOp.and IntKind.i64 ((x : Int) / 2 ^ (p * 2)) 3 = (dig x p : Int) := by
        have hle : x / 2 ^ (p * 2) ≤ x := Nat.div_le_self _ _
        have h := and3 (a := x / 2 ^ (p * 2)) (by omega)
        rw [show (((x / 2 ^ (p * 2) : Nat)) : Int) = (x : Int) / 2 ^ (p * 2) by simp] at h
        exact h
      simp only [iv] at hy
      gi_wp2
      clear hy hb
      refine hR.mono ?_
      rintro e W3 ⟨rfl, hJ3, hk3⟩
      have hbn3 : Boxed W3 Bn 3 (.int .i64 (x : Nat)) := hk3.1.trans hbn
      have hbm3 : Boxed W3 Bm 3 (.int .i64 (N : Nat)) := hk3.2.trans hbm
      clear cn cm hp
      gi_wp2
      go_roundw
      case rel => exact ⟨k + 1, by omega, by simp, ⟨hbn3, hbm3⟩, hJ3⟩
      case measure => simp [intOf]; omega
    · obtain rfl : k = N := by omega
      gi_wp2
      go_end0
      exact ⟨⟨_, rfl⟩, hJ⟩

set_option maxHeartbeats 1000000 in
theorem digits_in (F : Fence) (m : Nat) (h : F.fn 102) (hro : F.round = none) (x N : Int) (w : World) :
    CallsIn F m Tryz.prog 102 #[.int .i64 x, .int .i64 N] w fun e w' => e = .returned (.func (.func 122) #[] #[.pointer (some ⟨w.heap.size + 1, 0, none⟩), .pointer (some ⟨w.heap.size, 0, none⟩)]) ∧ w' = (w.alloc (.cells #[.int .i64 x] 3)).alloc (.cells #[.int .i64 N] 3) := by
  refine callsIn_of_wp Tryz.func102 rfl h ?_ hro
  simp only [Tryz.ntmps102, List.size_toArray, List.length_cons, List.length_nil, Nat.reduceAdd, Nat.reduceSub, Array.replicate_succ, Array.replicate_zero, List.push_toArray, List.append_toArray, List.nil_append, List.cons_append]
  gi_wp2
  go_ret
  exact ⟨rfl, rfl⟩

end Go.Proofs.YtiibeahgleaonaaGreat
