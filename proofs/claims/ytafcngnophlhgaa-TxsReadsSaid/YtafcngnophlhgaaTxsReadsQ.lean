/-
  TxsReads answers true at every input, and leaves its arguments as they are.
  The walk of TxsReads: whatever transaction is read of any octets is as the reference's.
-/
import Derived.ChangeMaps5
import Derived.Test.YtafcngnophlhgaaK14
namespace Go.Proofs.Ytafcngnophlhgaa
open Go.RowKit Go.Shelf

theorem bslG {l : List UInt8} {W W' : World} {sv : Value} {T : TypeId} {NB : Nat} {s : St} (h : BSl 0 W.heap.size W sv l) (hg : W.grownBy W' (some NB)) (hO : ObjP T W (some ⟨NB, 0, none⟩) s) : BSl 0 W'.heap.size W' sv l :=
  (h.to (Nat.le_refl _) hg (fun r e => by cases e; exact hO.noOct)).mono (Nat.le_refl _) hg.size
set_option maxRecDepth 100000 in
set_option maxHeartbeats 8000000 in
theorem txsReads_ok {gx : Tr} {gs : St} (l : List UInt8) (hgt : getT (openS l) = (gx, gs)) (he : gs.2 = 0) (hn : gs.1 = []) (sv : Value) (w : World) (hl : l.length ≤ 140737488351232) (hsv : BSl 0 w.heap.size w sv l) :
    Calls Try.prog 4 #[sv] w fun e W' => e = .returned (.bool true) ∧ Below w.heap.size w W' := by
  have hmx : Try.prog.follows .mixedOrders = true := by kernel_rfl
  obtain ⟨sa, sm, sc, rfl⟩ := hsv.shape3
  have hrd : readT (openS l) = (gx, 0) := readT_ok hgt he hn
  have HRD : Hid (∀ W, BSl 0 W.heap.size W (.slice sa sm sc) l → Calls Try.prog 14 #[.slice sa sm sc] W fun e W' => e = .returned (.tuple #[txv gx, .int .i64 0]) ∧ Below W.heap.size W W') := Lib.hid fun W h => by have := txsRead_any l _ W hl h; rw [hrd] at this; exact this
  have HOP : Hid (∀ W, BSl 0 W.heap.size W (.slice sa sm sc) l → Calls Try.prog 18 #[.slice sa sm sc] W fun e W' => ∃ NB, e = .returned (.pointer (some ⟨NB, 0, none⟩)) ∧ W.heap.size ≤ NB ∧ ObjP 82 W' (some ⟨NB, 0, none⟩) (openS l) ∧ Below W.heap.size W W') := Lib.hid fun W h => inOpen_any l _ W hl h
  have HRO : Hid (∀ W, BSl 0 W.heap.size W (.slice sa sm sc) l → Calls Try.prog 16 #[.slice sa sm sc] W (RefR (openS l) W)) := Lib.hid fun W h => refOpen6_any l _ W h
  have HGR : Hid (∀ W v, BSl 0 W.heap.size W v (openS l).1 → Calls Try.prog 15 #[.agg #[v, .int .i64 (openS l).2]] W fun e W' => ∃ z, e = .returned (.tuple #[txv gx, .agg #[z, .int .i64 gs.2]]) ∧ BSl 0 W'.heap.size W' z gs.1 ∧ Below W.heap.size W W') := Lib.hid fun W v h => by have := refGetTx_any v W h; rw [hgt] at this; exact this
  have HGT : Hid (∀ p W, ObjP 82 W p (openS l) → Calls Try.prog 19 #[.pointer p] W (GotT 82 p (gx, gs) W)) := Lib.hid fun p W h => by have := txsGet_any W h; rw [hgt] at this; exact this
  generalize openS l = so at *
  have hB : Below w.heap.size w w := Below.refl _ _
  have HZ : Hid (gs.1.length = 0) := Lib.hid (by rw [hn]; rfl)
  have q1 : (gs.2 == 0) = true := by simpa using he
  have q2 : (gs.2 != 0) = false := by simpa using he
  have HE := Lib.hid he
  clear he hn hrd hgt hl
  go_enter Try.func4, Try.ntmps4
  go_upto_region 4 with (first
    | (go_at_call 13; refine (txsAlive_any _).mono ?_; rintro e w0 ⟨rfl, hb⟩; replace hsv := bslU hsv hb; replace hB := chain hB hb; clear hb)
    | (go_at_call 14; refine (HRD.out _ hsv).mono ?_; rintro e w1 ⟨rfl, hb⟩; replace hsv := bslU hsv hb; replace hB := chain hB hb; clear hb; have kN := Blk.new w1 30 (txc noT))
    | ((refine wpList_store_part 30 (.tmp 3) (.tmp 16) (txc gx) kN 0 (txv gx) (txc gx) ?_ ?_ ?_ ?_ ?_ ?_ ?_ ?_ ?_ ?_ ?_; (· rfl); (· rfl); (· rfl); (· rfl); (· rfl); (· rfl); (· kernel_rfl); (· exact Nat.le_of_ble_eq_true rfl); (· rfl); (· rfl))))
  clear HRD
  generalize hX : World.setRow (World.alloc w1 _) _ _ = X3
  have k3 : Blk X3 w1.heap.size 30 (txc gx) := by rw [← hX]; exact kN.row (txc gx)
  have hsv3 : BSl 0 X3.heap.size X3 (.slice sa sm sc) l := by rw [← hX]; exact bsl_row (bslU hsv (chain0 w1 (.cells (txc noT).toArray 30))) (noOctT kN) (txc gx).toArray
  have hB3 : Below w.heap.size w X3 := by rw [← hX]; exact below_setRow (chainA hB (.cells (txc noT).toArray 30)) hB.size (txc gx).toArray
  have hBw := hB.size
  clear hX kN hsv hB
  generalize w1.heap.size = B3 at *
  go_upto_region 5 with (first
    | (go_at_call 16; refine (HRO.out _ hsv3).mono ?_; rintro e w2 ⟨vo, rfl, hvo, hb⟩; obtain ⟨oa, om, oc, rfl⟩ := hvo.shape3; replace k3 := k3.below hb k3.lt; replace hsv3 := bslU hsv3 hb; replace hB3 := chain hB3 hb; clear hb)
    | (go_at_call 15; refine (HGR.out _ _ hvo).mono ?_; rintro e w3 ⟨vz, rfl, hvz, hb⟩; obtain ⟨za, zc, rfl, -⟩ := hvz.shape; replace k3 := k3.below hb k3.lt; replace hsv3 := bslU hsv3 hb; replace hB3 := chain hB3 hb; clear hb hvo; have kN5 := (Blk.new w3 30 (txc noT)).alloc (.cells #[.slice none 0 0, .int .i64 0] 45); have kN6 : Blk ((w3.alloc (.cells (txc noT).toArray 30)).alloc (.cells #[.slice none 0 0, .int .i64 0] 45)) (w3.heap.size + 1) 45 [Value.slice none 0 0, .int .i64 0] := Blk.new' (vs := [Value.slice none 0 0, .int .i64 0]) (by simp))
    | ((refine wpList_store_part 30 (.tmp 5) (.tmp 22) (txc gx) kN5 0 (txv gx) (txc gx) ?_ ?_ ?_ ?_ ?_ ?_ ?_ ?_ ?_ ?_ ?_); (· rfl); (· rfl); (· rfl); (· rfl); (· rfl); (· rfl); (· kernel_rfl); (· exact Nat.le_of_ble_eq_true rfl); (· rfl); (· rfl); have kN6b := kN6.rowO (txc gx).toArray (g := w3.heap.size) (by omega))
    | ((refine wpList_store_part 45 (.tmp 6) (.tmp 23) [Value.slice za gs.1.length zc, .int .i64 gs.2] kN6b 0 (.agg #[Value.slice za gs.1.length zc, .int .i64 gs.2]) [Value.slice za gs.1.length zc, .int .i64 gs.2] ?_ ?_ ?_ ?_ ?_ ?_ ?_ ?_ ?_ ?_ ?_); (· rfl); (· rfl); (· rfl); (· rfl); (· rfl); (· rfl); (· kernel_rfl); (· exact Nat.le_of_ble_eq_true rfl); (· rfl); (· rfl)))
  generalize hX : World.setRow (World.setRow (World.alloc (World.alloc w3 _) _) _ _) _ _ = k5X
  have hb0 := chainA (chain0 w3 (.cells (txc noT).toArray 30)) (.cells #[.slice none 0 0, .int .i64 0] 45)
  have hbX : Below w3.heap.size w3 k5X := by rw [← hX]; exact below_setRow (below_setRow hb0 (Nat.le_refl _) (txc gx).toArray) (Nat.le_succ _) [Value.slice za gs.1.length zc, .int .i64 gs.2].toArray
  have k5 : Blk k5X w3.heap.size 30 (txc gx) := by rw [← hX]; exact (kN5.row (txc gx)).rowO _ (by omega)
  have k6 : Blk k5X (w3.heap.size + 1) 45 [Value.slice za gs.1.length zc, .int .i64 gs.2] := by rw [← hX]; exact kN6b.row [Value.slice za gs.1.length zc, .int .i64 gs.2]
  clear hX kN5 kN6 kN6b hb0
  have lk3 := k3.lt
  replace k3 := k3.below hbX k3.lt
  replace hsv3 := bslU hsv3 hbX
  replace hvz := bslU hvz hbX
  replace hB3 := chain hB3 hbX
  clear hbX
  generalize w3.heap.size = k5B at *
  obtain ⟨a0, a1⟩ := Blk.c2 k6
  have hz := HZ.out
  have HN5 : Hid (B3 ≠ k5B) := Lib.hid (by omega)
  have HN6 : Hid (k5B + 1 ≠ k5B) := Lib.hid (by omega)
  have HL5 : Hid (w.heap.size ≤ k5B) := Lib.hid (by have := hBw; omega)
  go_upto_region 9 with fail
  have k3n := k3
  have k6n := k6
  have k5n := k5
  have hB5 := hB3
  clear k3 k5 k6 hB3
  clear hvz a0 a1 hz HZ HN5 HN6 HL5
  go_upto_region 11 with (first
    | (go_at_call 18; refine (HOP.out _ hsv3).mono ?_; rintro e w5 ⟨NB, rfl, hN, hO, hb⟩; have lk3n := k3n.lt; have lk5n := k5n.lt; have lk6n := k6n.lt; have hNw := Nat.le_trans hB5.size hN; replace k3n := k3n.below hb k3n.lt; replace k5n := k5n.below hb k5n.lt; replace k6n := k6n.below hb k6n.lt; replace hsv3 := bslU hsv3 hb; replace hB5 := chain hB5 hb; clear hb)
    | (go_at_call 19; refine (HGT.out _ _ hO).mono ?_; rintro e w6 ⟨rfl, q, g⟩; replace k3n := k3n.kept g (fun e => by cases e; exact absurd (Nat.lt_of_lt_of_le lk3n hN) (Nat.lt_irrefl _)); replace k5n := k5n.kept g (fun e => by cases e; exact absurd (Nat.lt_of_lt_of_le lk5n hN) (Nat.lt_irrefl _)); replace k6n := k6n.kept g (fun e => by cases e; exact absurd (Nat.lt_of_lt_of_le lk6n hN) (Nat.lt_irrefl _)); replace hsv3 := bslG hsv3 g hO; replace hB5 := hB5.grown g hB5.size (fun k e => by cases e; exact hNw); clear g hO; have kN := Blk.new w6 30 (txc noT))
    | ((refine wpList_store_part 30 (.tmp 8) (.tmp 37) (txc gx) kN 0 (txv gx) (txc gx) ?_ ?_ ?_ ?_ ?_ ?_ ?_ ?_ ?_ ?_ ?_); (· rfl); (· rfl); (· rfl); (· rfl); (· rfl); (· rfl); (· kernel_rfl); (· exact Nat.le_of_ble_eq_true rfl); (· rfl); (· rfl)))
  generalize hX : World.setRow (World.alloc w6 _) _ _ = X8
  have hb8 : Below w6.heap.size w6 X8 := by rw [← hX]; exact below_setRow (chain0 w6 (.cells (txc noT).toArray 30)) (Nat.le_refl _) (txc gx).toArray
  have k8 : Blk X8 w6.heap.size 30 (txc gx) := by rw [← hX]; exact kN.row (txc gx)
  clear hX kN HOP HGT
  replace k3n := k3n.below hb8 k3n.lt
  replace k5n := k5n.below hb8 k5n.lt
  replace k6n := k6n.below hb8 k6n.lt
  replace hsv3 := bslU hsv3 hb8
  have hO := q.below hb8
  replace hB5 := chain hB5 hb8
  clear hb8 q lk3n lk5n lk6n hN
  generalize w6.heap.size = B8 at *
  go_upto_region 12 with (first
    | (go_at_call 16; refine (HRO.out _ hsv3).mono ?_; rintro e w2 ⟨vo, rfl, hvo, hb⟩; obtain ⟨oa, om, oc, rfl⟩ := hvo.shape3; replace k3n := k3n.below hb k3n.lt; replace k5n := k5n.below hb k5n.lt; replace k6n := k6n.below hb k6n.lt; replace k8 := k8.below hb k8.lt; replace hsv3 := bslU hsv3 hb; replace hB5 := chain hB5 hb; replace hO := hO.below hb; clear hb)
    | (go_at_call 15; refine (HGR.out _ _ hvo).mono ?_; rintro e w3 ⟨vz, rfl, hvz, hb⟩; obtain ⟨za, zc, rfl, -⟩ := hvz.shape; replace k3n := k3n.below hb k3n.lt; replace k5n := k5n.below hb k5n.lt; replace k6n := k6n.below hb k6n.lt; replace k8 := k8.below hb k8.lt; replace hsv3 := bslU hsv3 hb; replace hB5 := chain hB5 hb; replace hO := hO.below hb; clear hb hvo; have kN5 := (Blk.new w3 30 (txc noT)).alloc (.cells #[.slice none 0 0, .int .i64 0] 45); have kN6 : Blk ((w3.alloc (.cells (txc noT).toArray 30)).alloc (.cells #[.slice none 0 0, .int .i64 0] 45)) (w3.heap.size + 1) 45 [Value.slice none 0 0, .int .i64 0] := Blk.new' (vs := [Value.slice none 0 0, .int .i64 0]) (by simp))
    | ((refine wpList_store_part 30 (.tmp 9) (.tmp 42) (txc gx) kN5 0 (txv gx) (txc gx) ?_ ?_ ?_ ?_ ?_ ?_ ?_ ?_ ?_ ?_ ?_); (· rfl); (· rfl); (· rfl); (· rfl); (· rfl); (· rfl); (· kernel_rfl); (· exact Nat.le_of_ble_eq_true rfl); (· rfl); (· rfl); have kN6b := kN6.rowO (txc gx).toArray (g := w3.heap.size) (by omega))
    | ((refine wpList_store_part 45 (.tmp 10) (.tmp 43) [Value.slice za gs.1.length zc, .int .i64 gs.2] kN6b 0 (.agg #[Value.slice za gs.1.length zc, .int .i64 gs.2]) [Value.slice za gs.1.length zc, .int .i64 gs.2] ?_ ?_ ?_ ?_ ?_ ?_ ?_ ?_ ?_ ?_ ?_); (· rfl); (· rfl); (· rfl); (· rfl); (· rfl); (· rfl); (· kernel_rfl); (· exact Nat.le_of_ble_eq_true rfl); (· rfl); (· rfl)))
  generalize hX : World.setRow (World.setRow (World.alloc (World.alloc w3 _) _) _ _) _ _ = k9X
  have hb0 := chainA (chain0 w3 (.cells (txc noT).toArray 30)) (.cells #[.slice none 0 0, .int .i64 0] 45)
  have hbX : Below w3.heap.size w3 k9X := by rw [← hX]; exact below_setRow (below_setRow hb0 (Nat.le_refl _) (txc gx).toArray) (Nat.le_succ _) [Value.slice za gs.1.length zc, .int .i64 gs.2].toArray
  have k9 : Blk k9X w3.heap.size 30 (txc gx) := by rw [← hX]; exact (kN5.row (txc gx)).rowO _ (by omega)
  have k10 : Blk k9X (w3.heap.size + 1) 45 [Value.slice za gs.1.length zc, .int .i64 gs.2] := by rw [← hX]; exact kN6b.row [Value.slice za gs.1.length zc, .int .i64 gs.2]
  clear hX kN5 kN6 kN6b hb0
  have lk3n := k3n.lt
  replace k3n := k3n.below hbX k3n.lt
  have lk5n := k5n.lt
  replace k5n := k5n.below hbX k5n.lt
  have lk6n := k6n.lt
  replace k6n := k6n.below hbX k6n.lt
  have lk8 := k8.lt
  replace k8 := k8.below hbX k8.lt
  replace hsv3 := bslU hsv3 hbX
  replace hvz := bslU hvz hbX
  replace hB5 := chain hB5 hbX
  replace hO := hO.below hbX
  clear hbX
  generalize w3.heap.size = k9B at *
  clear HRO HGR hsv3 hvz
  refine wp_region_held_drew (S := fun W => Below k9X.drew.heap.size k9X.drew W) hmx (Below.refl _ _) ?_
  intro hS
  replace k3n : Blk k9X.drew _ _ _ := k3n
  replace k5n : Blk k9X.drew _ _ _ := k5n
  replace k6n : Blk k9X.drew _ _ _ := k6n
  replace k8 : Blk k9X.drew _ _ _ := k8
  replace k9 : Blk k9X.drew _ _ _ := k9
  replace k10 : Blk k9X.drew _ _ _ := k10
  replace hO := hO.below (Below.refl _ k9X).drew
  have hB := hB5.drew
  clear hB5
  generalize k9X.drew = Y at *
  refine' wpAnyH_take (i := 0) (oi := _) (v := txv gx) ?hi1 (by kernel_rfl) (by kernel_rfl) (by kernel_rfl) ?hQ1 (Or.inl ⟨?hw1, ?hy1⟩) hS ?rest1
  case hi1 => simp only [List.getElem?_toArray, List.getElem?_cons_zero]; rfl
  case hQ1 => exact fun _ _ _ h => h
  case hw1 => rfl
  case hy1 => exact fun W' hS' => exec_load 30 (.tmp 3) rfl _ W' (load_tx (k3n.below hS' k3n.lt))
  try simp only [Act.put, List.setIfInBounds_toArray, List.set_cons_zero, List.set_cons_succ]
  refine' wpAnyH_take (i := 1) (oi := _) (v := txv gx) ?hi2 (by kernel_rfl) (by kernel_rfl) (by kernel_rfl) ?hQ2 (Or.inl ⟨?hw2, ?hy2⟩) hS ?rest2
  case hi2 => simp only [List.getElem?_toArray, List.getElem?_cons_succ, List.getElem?_cons_zero]; rfl
  case hQ2 => exact fun _ _ _ h => h
  case hw2 => rfl
  case hy2 => exact fun W' hS' => exec_load 30 (.tmp 5) rfl _ W' (load_tx (k5n.below hS' k5n.lt))
  try simp only [Act.put, List.setIfInBounds_toArray, List.set_cons_zero, List.set_cons_succ]
  refine' wpAnyH_take (i := 2) (oi := _) (v := .bool true) ?hi3 (by kernel_rfl) (by kernel_rfl) (by kernel_rfl) ?hQ3 (Or.inl ⟨?hw3, ?hy3⟩) hS ?rest3
  case hi3 => simp only [List.getElem?_toArray, List.getElem?_cons_succ, List.getElem?_cons_zero]; rfl
  case hQ3 => exact fun _ _ _ h => h
  case hw3 => rfl
  case hy3 => exact fun W' hS' => exec_eqS (.tmp 44) (.tmp 45) _ rfl gx rfl rfl W'
  try simp only [Act.put, List.setIfInBounds_toArray, List.set_cons_zero, List.set_cons_succ]
  refine' wpAnyH_take (i := 3) (oi := _) (v := _) ?hi4 (by kernel_rfl) (by kernel_rfl) (by kernel_rfl) ?hQ4 (Or.inl ⟨?hw4, ?hy4⟩) hS ?rest4
  case hi4 => simp only [List.getElem?_toArray, List.getElem?_cons_succ, List.getElem?_cons_zero]; rfl
  case hQ4 => exact fun _ _ _ h => h
  case hw4 => rfl
  case hy4 => intro W' hS'; go_simp; with_reducible rfl
  try simp only [Act.put, List.setIfInBounds_toArray, List.set_cons_zero, List.set_cons_succ]
  refine' wpAnyH_take (i := 4) (oi := _) (v := _) ?hi5 (by kernel_rfl) (by kernel_rfl) (by kernel_rfl) ?hQ5 (Or.inl ⟨?hw5, ?hy5⟩) hS ?rest5
  case hi5 => simp only [List.getElem?_toArray, List.getElem?_cons_succ, List.getElem?_cons_zero]; rfl
  case hQ5 => exact fun _ _ _ h => h
  case hw5 => rfl
  case hy5 => intro W' hS'; go_simp; with_reducible rfl
  try simp only [Act.put, List.setIfInBounds_toArray, List.set_cons_zero, List.set_cons_succ]
  refine' wpAnyH_take (i := 6) (oi := _) (v := _) ?hi6 (by kernel_rfl) (by kernel_rfl) (by kernel_rfl) ?hQ6 (Or.inl ⟨?hw6, ?hy6⟩) hS ?rest6
  case hi6 => simp only [List.getElem?_toArray, List.getElem?_cons_succ, List.getElem?_cons_zero]; rfl
  case hQ6 => exact fun _ _ _ h => h
  case hw6 => rfl
  case hy6 => intro W' hS'; go_simp; with_reducible rfl
  try simp only [Act.put, List.setIfInBounds_toArray, List.set_cons_zero, List.set_cons_succ]
  refine' wpAnyH_take (i := 7) (oi := _) (v := _) ?hi7 (by kernel_rfl) (by kernel_rfl) (by kernel_rfl) ?hQ7 (Or.inl ⟨?hw7, ?hy7⟩) hS ?rest7
  case hi7 => simp only [List.getElem?_toArray, List.getElem?_cons_succ, List.getElem?_cons_zero]; rfl
  case hQ7 => exact fun _ _ _ h => h
  case hw7 => rfl
  case hy7 => intro W' hS'; obtain ⟨a0, a1⟩ := Blk.c2 (k6n.below hS' k6n.lt); go_simp; with_reducible rfl
  try simp only [Act.put, List.setIfInBounds_toArray, List.set_cons_zero, List.set_cons_succ]
  refine wpAnyH_ready (rs := [5]) (by kernel_rfl) (by simp) ?_
  refine' AllReadyH.cons (o := _) ?ho8 (fun K hK => ?st8) AllReadyH.nil
  case ho8 => simp only [List.getElem?_toArray, List.getElem?_cons_succ, List.getElem?_cons_zero]; rfl
  case st8 =>
    go_simp
    refine (txsNum_any _ _).mono ?_
    rintro e Y1 ⟨rfl, rfl⟩
    refine hK.out _ _ hS (fun hS => ?_)
    clear hK K
    try simp only [Act.put, List.setIfInBounds_toArray, List.set_cons_zero, List.set_cons_succ]
    refine' wpAnyH_take (i := 8) (oi := _) (v := _) ?hi9 (by kernel_rfl) (by kernel_rfl) (by kernel_rfl) ?hQ9 (Or.inl ⟨?hw9, ?hy9⟩) hS ?rest9
    case hi9 => simp only [List.getElem?_toArray, List.getElem?_cons_succ, List.getElem?_cons_zero]; rfl
    case hQ9 => exact fun _ _ _ h => h
    case hw9 => rfl
    case hy9 => intro W' hS'; have he0 := HE.out; go_simp; with_reducible rfl
    try simp only [Act.put, List.setIfInBounds_toArray, List.set_cons_zero, List.set_cons_succ]
    refine' wpAnyH_take (i := 9) (oi := _) (v := _) ?hi10 (by kernel_rfl) (by kernel_rfl) (by kernel_rfl) ?hQ10 (Or.inl ⟨?hw10, ?hy10⟩) hS ?rest10
    case hi10 => simp only [List.getElem?_toArray, List.getElem?_cons_succ, List.getElem?_cons_zero]; rfl
    case hQ10 => exact fun _ _ _ h => h
    case hw10 => rfl
    case hy10 => intro W' hS'; go_simp; with_reducible rfl
    try simp only [Act.put, List.setIfInBounds_toArray, List.set_cons_zero, List.set_cons_succ]
    refine' wpAnyH_take (i := 10) (oi := _) (v := _) ?hi11 (by kernel_rfl) (by kernel_rfl) (by kernel_rfl) ?hQ11 (Or.inl ⟨?hw11, ?hy11⟩) hS ?rest11
    case hi11 => simp only [List.getElem?_toArray, List.getElem?_cons_succ, List.getElem?_cons_zero]; rfl
    case hQ11 => exact fun _ _ _ h => h
    case hw11 => rfl
    case hy11 => intro W' hS'; go_simp; with_reducible rfl
    try simp only [Act.put, List.setIfInBounds_toArray, List.set_cons_zero, List.set_cons_succ]
    refine' wpAnyH_take (i := 11) (oi := _) (v := txv gx) ?hi12 (by kernel_rfl) (by kernel_rfl) (by kernel_rfl) ?hQ12 (Or.inl ⟨?hw12, ?hy12⟩) hS ?rest12
    case hi12 => simp only [List.getElem?_toArray, List.getElem?_cons_succ, List.getElem?_cons_zero]; rfl
    case hQ12 => exact fun _ _ _ h => h
    case hw12 => rfl
    case hy12 => exact fun W' hS' => exec_load 30 (.tmp 8) rfl _ W' (load_tx (k8.below hS' k8.lt))
    try simp only [Act.put, List.setIfInBounds_toArray, List.set_cons_zero, List.set_cons_succ]
    refine' wpAnyH_take (i := 12) (oi := _) (v := txv gx) ?hi13 (by kernel_rfl) (by kernel_rfl) (by kernel_rfl) ?hQ13 (Or.inl ⟨?hw13, ?hy13⟩) hS ?rest13
    case hi13 => simp only [List.getElem?_toArray, List.getElem?_cons_succ, List.getElem?_cons_zero]; rfl
    case hQ13 => exact fun _ _ _ h => h
    case hw13 => rfl
    case hy13 => exact fun W' hS' => exec_load 30 (.tmp 9) rfl _ W' (load_tx (k9.below hS' k9.lt))
    try simp only [Act.put, List.setIfInBounds_toArray, List.set_cons_zero, List.set_cons_succ]
    refine' wpAnyH_take (i := 13) (oi := _) (v := .bool true) ?hi14 (by kernel_rfl) (by kernel_rfl) (by kernel_rfl) ?hQ14 (Or.inl ⟨?hw14, ?hy14⟩) hS ?rest14
    case hi14 => simp only [List.getElem?_toArray, List.getElem?_cons_succ, List.getElem?_cons_zero]; rfl
    case hQ14 => exact fun _ _ _ h => h
    case hw14 => rfl
    case hy14 => exact fun W' hS' => exec_eqS (.tmp 55) (.tmp 56) _ rfl gx rfl rfl W'
    try simp only [Act.put, List.setIfInBounds_toArray, List.set_cons_zero, List.set_cons_succ]
    refine' wpAnyH_take (i := 14) (oi := _) (v := _) ?hi15 (by kernel_rfl) (by kernel_rfl) (by kernel_rfl) ?hQ15 (Or.inl ⟨?hw15, ?hy15⟩) hS ?rest15
    case hi15 => simp only [List.getElem?_toArray, List.getElem?_cons_succ, List.getElem?_cons_zero]; rfl
    case hQ15 => exact fun _ _ _ h => h
    case hw15 => rfl
    case hy15 => intro W' hS'; go_simp; with_reducible rfl
    try simp only [Act.put, List.setIfInBounds_toArray, List.set_cons_zero, List.set_cons_succ]
    refine' wpAnyH_take (i := 15) (oi := _) (v := _) ?hi16 (by kernel_rfl) (by kernel_rfl) (by kernel_rfl) ?hQ16 (Or.inl ⟨?hw16, ?hy16⟩) hS ?rest16
    case hi16 => simp only [List.getElem?_toArray, List.getElem?_cons_succ, List.getElem?_cons_zero]; rfl
    case hQ16 => exact fun _ _ _ h => h
    case hw16 => rfl
    case hy16 => intro W' hS'; go_simp; with_reducible rfl
    try simp only [Act.put, List.setIfInBounds_toArray, List.set_cons_zero, List.set_cons_succ]
    refine' wpAnyH_take (i := 16) (oi := _) (v := _) ?hi17 (by kernel_rfl) (by kernel_rfl) (by kernel_rfl) ?hQ17 (Or.inl ⟨?hw17, ?hy17⟩) hS ?rest17
    case hi17 => simp only [List.getElem?_toArray, List.getElem?_cons_succ, List.getElem?_cons_zero]; rfl
    case hQ17 => exact fun _ _ _ h => h
    case hw17 => rfl
    case hy17 => intro W' hS'; go_simp; with_reducible rfl
    try simp only [Act.put, List.setIfInBounds_toArray, List.set_cons_zero, List.set_cons_succ]
    refine' wpAnyH_take (i := 19) (oi := _) (v := _) ?hi18 (by kernel_rfl) (by kernel_rfl) (by kernel_rfl) ?hQ18 (Or.inl ⟨?hw18, ?hy18⟩) hS ?rest18
    case hi18 => simp only [List.getElem?_toArray, List.getElem?_cons_succ, List.getElem?_cons_zero]; rfl
    case hQ18 => exact fun _ _ _ h => h
    case hw18 => rfl
    case hy18 => intro W' hS'; go_simp; with_reducible rfl
    try simp only [Act.put, List.setIfInBounds_toArray, List.set_cons_zero, List.set_cons_succ]
    refine' wpAnyH_take (i := 20) (oi := _) (v := _) ?hi19 (by kernel_rfl) (by kernel_rfl) (by kernel_rfl) ?hQ19 (Or.inl ⟨?hw19, ?hy19⟩) hS ?rest19
    case hi19 => simp only [List.getElem?_toArray, List.getElem?_cons_succ, List.getElem?_cons_zero]; rfl
    case hQ19 => exact fun _ _ _ h => h
    case hw19 => rfl
    case hy19 => intro W' hS'; obtain ⟨a0, a1⟩ := Blk.c2 (k10.below hS' k10.lt); go_simp; with_reducible rfl
    try simp only [Act.put, List.setIfInBounds_toArray, List.set_cons_zero, List.set_cons_succ]
    refine wpAnyH_ready (rs := [17]) (by kernel_rfl) (by simp) ?_
    refine' AllReadyH.cons (o := _) ?ho20 (fun K hK => ?st20) AllReadyH.nil
    case ho20 => simp only [List.getElem?_toArray, List.getElem?_cons_succ, List.getElem?_cons_zero]; rfl
    case st20 =>
      go_simp
      refine (inErr_any _ hO).mono ?_
      rintro e Y1 ⟨rfl, rfl⟩
      refine hK.out _ _ hS (fun hS => ?_)
      clear hK K
      try simp only [Act.put, List.setIfInBounds_toArray, List.set_cons_zero, List.set_cons_succ]
      refine wpAnyH_ready (rs := [18]) (by kernel_rfl) (by simp) ?_
      refine' AllReadyH.cons (o := _) ?ho21 (fun K hK => ?st21) AllReadyH.nil
      case ho21 => simp only [List.getElem?_toArray, List.getElem?_cons_succ, List.getElem?_cons_zero]; rfl
      case st21 =>
        go_simp
        refine (txsNum_any _ _).mono ?_
        rintro e Y1 ⟨rfl, rfl⟩
        refine hK.out _ _ hS (fun hS => ?_)
        clear hK K
        try simp only [Act.put, List.setIfInBounds_toArray, List.set_cons_zero, List.set_cons_succ]
        refine' wpAnyH_take (i := 21) (oi := _) (v := _) ?hi22 (by kernel_rfl) (by kernel_rfl) (by kernel_rfl) ?hQ22 (Or.inl ⟨?hw22, ?hy22⟩) hS ?rest22
        case hi22 => simp only [List.getElem?_toArray, List.getElem?_cons_succ, List.getElem?_cons_zero]; rfl
        case hQ22 => exact fun _ _ _ h => h
        case hw22 => rfl
        case hy22 => intro W' hS'; go_simp; with_reducible rfl
        try simp only [Act.put, List.setIfInBounds_toArray, List.set_cons_zero, List.set_cons_succ]
        refine' wpAnyH_take (i := 22) (oi := _) (v := _) ?hi23 (by kernel_rfl) (by kernel_rfl) (by kernel_rfl) ?hQ23 (Or.inl ⟨?hw23, ?hy23⟩) hS ?rest23
        case hi23 => simp only [List.getElem?_toArray, List.getElem?_cons_succ, List.getElem?_cons_zero]; rfl
        case hQ23 => exact fun _ _ _ h => h
        case hw23 => rfl
        case hy23 => intro W' hS'; go_simp; with_reducible rfl
        try simp only [Act.put, List.setIfInBounds_toArray, List.set_cons_zero, List.set_cons_succ]
        refine' wpAnyH_take (i := 23) (oi := _) (v := _) ?hi24 (by kernel_rfl) (by kernel_rfl) (by kernel_rfl) ?hQ24 (Or.inl ⟨?hw24, ?hy24⟩) hS ?rest24
        case hi24 => simp only [List.getElem?_toArray, List.getElem?_cons_succ, List.getElem?_cons_zero]; rfl
        case hQ24 => exact fun _ _ _ h => h
        case hw24 => rfl
        case hy24 => intro W' hS'; go_simp; with_reducible rfl
        try simp only [Act.put, List.setIfInBounds_toArray, List.set_cons_zero, List.set_cons_succ]
        refine' wpAnyH_take (i := 24) (oi := _) (v := _) ?hi25 (by kernel_rfl) (by kernel_rfl) (by kernel_rfl) ?hQ25 (Or.inl ⟨?hw25, ?hy25⟩) hS ?rest25
        case hi25 => simp only [List.getElem?_toArray, List.getElem?_cons_succ, List.getElem?_cons_zero]; rfl
        case hQ25 => exact fun _ _ _ h => h
        case hw25 => rfl
        case hy25 => intro W' hS'; go_simp; with_reducible rfl
        try simp only [Act.put, List.setIfInBounds_toArray, List.set_cons_zero, List.set_cons_succ]
        refine' wpAnyH_take (i := 26) (oi := _) (v := _) ?hi26 (by kernel_rfl) (by kernel_rfl) (by kernel_rfl) ?hQ26 (Or.inl ⟨?hw26, ?hy26⟩) hS ?rest26
        case hi26 => simp only [List.getElem?_toArray, List.getElem?_cons_succ, List.getElem?_cons_zero]; rfl
        case hQ26 => exact fun _ _ _ h => h
        case hw26 => rfl
        case hy26 => intro W' hS'; go_simp; with_reducible rfl
        try simp only [Act.put, List.setIfInBounds_toArray, List.set_cons_zero, List.set_cons_succ]
        refine' wpAnyH_take (i := 27) (oi := _) (v := _) ?hi27 (by kernel_rfl) (by kernel_rfl) (by kernel_rfl) ?hQ27 (Or.inl ⟨?hw27, ?hy27⟩) hS ?rest27
        case hi27 => simp only [List.getElem?_toArray, List.getElem?_cons_succ, List.getElem?_cons_zero]; rfl
        case hQ27 => exact fun _ _ _ h => h
        case hw27 => rfl
        case hy27 => intro W' hS'; obtain ⟨a0, a1⟩ := Blk.c2 (k10.below hS' k10.lt); go_simp; with_reducible rfl
        try simp only [Act.put, List.setIfInBounds_toArray, List.set_cons_zero, List.set_cons_succ]
        refine' wpAnyH_take (i := 28) (oi := _) (v := _) ?hi28 (by kernel_rfl) (by kernel_rfl) (by kernel_rfl) ?hQ28 (Or.inl ⟨?hw28, ?hy28⟩) hS ?rest28
        case hi28 => simp only [List.getElem?_toArray, List.getElem?_cons_succ, List.getElem?_cons_zero]; rfl
        case hQ28 => exact fun _ _ _ h => h
        case hw28 => rfl
        case hy28 => intro W' hS'; go_simp; with_reducible rfl
        try simp only [Act.put, List.setIfInBounds_toArray, List.set_cons_zero, List.set_cons_succ]
        refine wpAnyH_ready (rs := [25]) (by kernel_rfl) (by simp) ?_
        refine' AllReadyH.cons (o := _) ?ho29 (fun K hK => ?st29) AllReadyH.nil
        case ho29 => simp only [List.getElem?_toArray, List.getElem?_cons_succ, List.getElem?_cons_zero]; rfl
        case st29 =>
          go_simp
          refine (inLeft_any _ hO).mono ?_
          rintro e Y1 ⟨rfl, rfl⟩
          refine hK.out _ _ hS (fun hS => ?_)
          clear hK K
          try simp only [Act.put, List.setIfInBounds_toArray, List.set_cons_zero, List.set_cons_succ]
          refine' wpAnyH_take (i := 29) (oi := _) (v := _) ?hi30 (by kernel_rfl) (by kernel_rfl) (by kernel_rfl) ?hQ30 (Or.inl ⟨?hw30, ?hy30⟩) hS ?rest30
          case hi30 => simp only [List.getElem?_toArray, List.getElem?_cons_succ, List.getElem?_cons_zero]; rfl
          case hQ30 => exact fun _ _ _ h => h
          case hw30 => rfl
          case hy30 => intro W' hS'; go_simp; with_reducible rfl
          try simp only [Act.put, List.setIfInBounds_toArray, List.set_cons_zero, List.set_cons_succ]
          refine' wpAnyH_take (i := 30) (oi := _) (v := _) ?hi31 (by kernel_rfl) (by kernel_rfl) (by kernel_rfl) ?hQ31 (Or.inl ⟨?hw31, ?hy31⟩) hS ?rest31
          case hi31 => simp only [List.getElem?_toArray, List.getElem?_cons_succ, List.getElem?_cons_zero]; rfl
          case hQ31 => exact fun _ _ _ h => h
          case hw31 => rfl
          case hy31 => intro W' hS'; go_simp; with_reducible rfl
          try simp only [Act.put, List.setIfInBounds_toArray, List.set_cons_zero, List.set_cons_succ]
          refine' wpAnyH_take (i := 31) (oi := _) (v := _) ?hi32 (by kernel_rfl) (by kernel_rfl) (by kernel_rfl) ?hQ32 (Or.inl ⟨?hw32, ?hy32⟩) hS ?rest32
          case hi32 => simp only [List.getElem?_toArray, List.getElem?_cons_succ, List.getElem?_cons_zero]; rfl
          case hQ32 => exact fun _ _ _ h => h
          case hw32 => rfl
          case hy32 => intro W' hS'; go_simp; with_reducible rfl
          try simp only [Act.put, List.setIfInBounds_toArray, List.set_cons_zero, List.set_cons_succ]
          refine wpAnyH_done (by kernel_rfl) ?_ _
          go_wp2_with fail
          go_ret
          exact ⟨rfl, chain hB hS⟩
set_option maxRecDepth 100000 in
set_option maxHeartbeats 8000000 in
theorem txsReads_left {gx : Tr} {gs : St} (l : List UInt8) (hgt : getT (openS l) = (gx, gs)) (hn : gs.1 ≠ []) (sv : Value) (w : World) (hl : l.length ≤ 140737488351232) (hsv : BSl 0 w.heap.size w sv l) :
    Calls Try.prog 4 #[sv] w fun e W' => e = .returned (.bool true) ∧ Below w.heap.size w W' := by
  have hmx : Try.prog.follows .mixedOrders = true := by kernel_rfl
  obtain ⟨sa, sm, sc, rfl⟩ := hsv.shape3
  have hrd : readT (openS l) = (noT, (errS gs 16).2) := readT_left hgt hn
  have HRD : Hid (∀ W, BSl 0 W.heap.size W (.slice sa sm sc) l → Calls Try.prog 14 #[.slice sa sm sc] W fun e W' => e = .returned (.tuple #[txv noT, .int .i64 (errS gs 16).2]) ∧ Below W.heap.size W W') := Lib.hid fun W h => by have := txsRead_any l _ W hl h; rw [hrd] at this; exact this
  have HOP : Hid (∀ W, BSl 0 W.heap.size W (.slice sa sm sc) l → Calls Try.prog 18 #[.slice sa sm sc] W fun e W' => ∃ NB, e = .returned (.pointer (some ⟨NB, 0, none⟩)) ∧ W.heap.size ≤ NB ∧ ObjP 82 W' (some ⟨NB, 0, none⟩) (openS l) ∧ Below W.heap.size W W') := Lib.hid fun W h => inOpen_any l _ W hl h
  have HRO : Hid (∀ W, BSl 0 W.heap.size W (.slice sa sm sc) l → Calls Try.prog 16 #[.slice sa sm sc] W (RefR (openS l) W)) := Lib.hid fun W h => refOpen6_any l _ W h
  have HGR : Hid (∀ W v, BSl 0 W.heap.size W v (openS l).1 → Calls Try.prog 15 #[.agg #[v, .int .i64 (openS l).2]] W fun e W' => ∃ z, e = .returned (.tuple #[txv gx, .agg #[z, .int .i64 gs.2]]) ∧ BSl 0 W'.heap.size W' z gs.1 ∧ Below W.heap.size W W') := Lib.hid fun W v h => by have := refGetTx_any v W h; rw [hgt] at this; exact this
  have HGT : Hid (∀ p W, ObjP 82 W p (openS l) → Calls Try.prog 19 #[.pointer p] W (GotT 82 p (gx, gs) W)) := Lib.hid fun p W h => by have := txsGet_any W h; rw [hgt] at this; exact this
  generalize openS l = so at *
  have hB : Below w.heap.size w w := Below.refl _ _
  have HZ : Hid (0 < gs.1.length) := Lib.hid (List.length_pos_iff.2 hn)
  have q1 : ((errS gs 16).2 == 0) = false := by simpa using errS_ne gs
  have q2 : ((errS gs 16).2 != 0) = true := by simpa using errS_ne gs
  clear hn hrd hgt hl
  go_enter Try.func4, Try.ntmps4
  go_upto_region 4 with (first
    | (go_at_call 13; refine (txsAlive_any _).mono ?_; rintro e w0 ⟨rfl, hb⟩; replace hsv := bslU hsv hb; replace hB := chain hB hb; clear hb)
    | (go_at_call 14; refine (HRD.out _ hsv).mono ?_; rintro e w1 ⟨rfl, hb⟩; replace hsv := bslU hsv hb; replace hB := chain hB hb; clear hb; have kN := Blk.new w1 30 (txc noT))
    | ((refine wpList_store_part 30 (.tmp 3) (.tmp 16) (txc noT) kN 0 (txv noT) (txc noT) ?_ ?_ ?_ ?_ ?_ ?_ ?_ ?_ ?_ ?_ ?_; (· rfl); (· rfl); (· rfl); (· rfl); (· rfl); (· rfl); (· kernel_rfl); (· exact Nat.le_of_ble_eq_true rfl); (· rfl); (· rfl))))
  clear HRD
  generalize hX : World.setRow (World.alloc w1 _) _ _ = X3
  have k3 : Blk X3 w1.heap.size 30 (txc noT) := by rw [← hX]; exact kN.row (txc noT)
  have hsv3 : BSl 0 X3.heap.size X3 (.slice sa sm sc) l := by rw [← hX]; exact bsl_row (bslU hsv (chain0 w1 (.cells (txc noT).toArray 30))) (noOctT kN) (txc noT).toArray
  have hB3 : Below w.heap.size w X3 := by rw [← hX]; exact below_setRow (chainA hB (.cells (txc noT).toArray 30)) hB.size (txc noT).toArray
  have hBw := hB.size
  clear hX kN hsv hB
  generalize w1.heap.size = B3 at *
  go_upto_region 5 with (first
    | (go_at_call 16; refine (HRO.out _ hsv3).mono ?_; rintro e w2 ⟨vo, rfl, hvo, hb⟩; obtain ⟨oa, om, oc, rfl⟩ := hvo.shape3; replace k3 := k3.below hb k3.lt; replace hsv3 := bslU hsv3 hb; replace hB3 := chain hB3 hb; clear hb)
    | (go_at_call 15; refine (HGR.out _ _ hvo).mono ?_; rintro e w3 ⟨vz, rfl, hvz, hb⟩; obtain ⟨za, zc, rfl, -⟩ := hvz.shape; replace k3 := k3.below hb k3.lt; replace hsv3 := bslU hsv3 hb; replace hB3 := chain hB3 hb; clear hb hvo; have kN5 := (Blk.new w3 30 (txc noT)).alloc (.cells #[.slice none 0 0, .int .i64 0] 45); have kN6 : Blk ((w3.alloc (.cells (txc noT).toArray 30)).alloc (.cells #[.slice none 0 0, .int .i64 0] 45)) (w3.heap.size + 1) 45 [Value.slice none 0 0, .int .i64 0] := Blk.new' (vs := [Value.slice none 0 0, .int .i64 0]) (by simp))
    | ((refine wpList_store_part 30 (.tmp 5) (.tmp 22) (txc gx) kN5 0 (txv gx) (txc gx) ?_ ?_ ?_ ?_ ?_ ?_ ?_ ?_ ?_ ?_ ?_); (· rfl); (· rfl); (· rfl); (· rfl); (· rfl); (· rfl); (· kernel_rfl); (· exact Nat.le_of_ble_eq_true rfl); (· rfl); (· rfl); have kN6b := kN6.rowO (txc gx).toArray (g := w3.heap.size) (by omega))
    | ((refine wpList_store_part 45 (.tmp 6) (.tmp 23) [Value.slice za gs.1.length zc, .int .i64 gs.2] kN6b 0 (.agg #[Value.slice za gs.1.length zc, .int .i64 gs.2]) [Value.slice za gs.1.length zc, .int .i64 gs.2] ?_ ?_ ?_ ?_ ?_ ?_ ?_ ?_ ?_ ?_ ?_); (· rfl); (· rfl); (· rfl); (· rfl); (· rfl); (· rfl); (· kernel_rfl); (· exact Nat.le_of_ble_eq_true rfl); (· rfl); (· rfl)))
  generalize hX : World.setRow (World.setRow (World.alloc (World.alloc w3 _) _) _ _) _ _ = k5X
  have hb0 := chainA (chain0 w3 (.cells (txc noT).toArray 30)) (.cells #[.slice none 0 0, .int .i64 0] 45)
  have hbX : Below w3.heap.size w3 k5X := by rw [← hX]; exact below_setRow (below_setRow hb0 (Nat.le_refl _) (txc gx).toArray) (Nat.le_succ _) [Value.slice za gs.1.length zc, .int .i64 gs.2].toArray
  have k5 : Blk k5X w3.heap.size 30 (txc gx) := by rw [← hX]; exact (kN5.row (txc gx)).rowO _ (by omega)
  have k6 : Blk k5X (w3.heap.size + 1) 45 [Value.slice za gs.1.length zc, .int .i64 gs.2] := by rw [← hX]; exact kN6b.row [Value.slice za gs.1.length zc, .int .i64 gs.2]
  clear hX kN5 kN6 kN6b hb0
  have lk3 := k3.lt
  replace k3 := k3.below hbX k3.lt
  replace hsv3 := bslU hsv3 hbX
  replace hvz := bslU hvz hbX
  replace hB3 := chain hB3 hbX
  clear hbX
  generalize w3.heap.size = k5B at *
  obtain ⟨a0, a1⟩ := Blk.c2 k6
  have hz := HZ.out
  have HN5 : Hid (B3 ≠ k5B) := Lib.hid (by omega)
  have HN6 : Hid (k5B + 1 ≠ k5B) := Lib.hid (by omega)
  have HL5 : Hid (w.heap.size ≤ k5B) := Lib.hid (by have := hBw; omega)
  have HN3 : Hid (B3 ≠ k5B + 1) := Lib.hid (by omega)
  have HN7 : Hid (k5B ≠ k5B + 1) := Lib.hid (by omega)
  have HL6 : Hid (w.heap.size ≤ k5B + 1) := Lib.hid (by have := hBw; omega)
  go_upto_region 9 with (first
    | (go_at_call 17; refine (refSpoil_any _ _ hvz).mono ?_; rintro e w4 ⟨vs, rfl, hvs, hb⟩; obtain ⟨xa, xm, xc, rfl⟩ := hvs.shape3; replace k3 := k3.below hb k3.lt; replace k5 := k5.below hb k5.lt; replace k6 := k6.below hb k6.lt; replace hsv3 := bslU hsv3 hb; replace hB3 := chain hB3 hb; clear hb a0 a1)
    | ((refine wpList_store_part 45 (.tmp 6) (.tmp 29) [Value.slice xa xm xc, .int .i64 (errS gs 16).2] k6 0 (.agg #[Value.slice xa xm xc, .int .i64 (errS gs 16).2]) [Value.slice xa xm xc, .int .i64 (errS gs 16).2] ?_ ?_ ?_ ?_ ?_ ?_ ?_ ?_ ?_ ?_ ?_); (· rfl); (· rfl); (· rfl); (· rfl); (· rfl); (· rfl); (· kernel_rfl); (· exact Nat.le_of_ble_eq_true rfl); (· rfl); (· rfl); replace hsv3 := bsl_row hsv3 (noOct2 k6) [Value.slice xa xm xc, .int .i64 (errS gs 16).2].toArray; replace k3 := k3.rowO [Value.slice xa xm xc, .int .i64 (errS gs 16).2].toArray (g := k5B + 1) HN3.out; replace k5 := k5.rowO [Value.slice xa xm xc, .int .i64 (errS gs 16).2].toArray (g := k5B + 1) HN7.out; replace k6 := k6.row [Value.slice xa xm xc, .int .i64 (errS gs 16).2]; replace hB3 := below_setRow hB3 HL6.out [Value.slice xa xm xc, .int .i64 (errS gs 16).2].toArray; obtain ⟨a0, a1⟩ := Blk.c2 k6)
    | ((refine wpList_store_part 30 (.tmp 5) (.tmp 33) (txc noT) k5 0 (txv noT) (txc noT) ?_ ?_ ?_ ?_ ?_ ?_ ?_ ?_ ?_ ?_ ?_); (· rfl); (· rfl); (· rfl); (· rfl); (· rfl); (· rfl); (· kernel_rfl); (· exact Nat.le_of_ble_eq_true rfl); (· rfl); (· rfl); replace hsv3 := bsl_row hsv3 (noOctT k5) (txc noT).toArray; have k3n := k3.rowO (txc noT).toArray (g := k5B) HN5.out; have k6n := k6.rowO (txc noT).toArray (g := k5B) HN6.out; have k5n := k5.row (txc noT); have hB5 := below_setRow hB3 HL5.out (txc noT).toArray))
  clear k3 k5 k6 hB3
  clear hvz a0 a1 hz HZ HN5 HN6 HL5
  generalize World.setRow _ _ _ = X9 at *
  go_upto_region 11 with (first
    | (go_at_call 18; refine (HOP.out _ hsv3).mono ?_; rintro e w5 ⟨NB, rfl, hN, hO, hb⟩; have lk3n := k3n.lt; have lk5n := k5n.lt; have lk6n := k6n.lt; have hNw := Nat.le_trans hB5.size hN; replace k3n := k3n.below hb k3n.lt; replace k5n := k5n.below hb k5n.lt; replace k6n := k6n.below hb k6n.lt; replace hsv3 := bslU hsv3 hb; replace hB5 := chain hB5 hb; clear hb)
    | (go_at_call 19; refine (HGT.out _ _ hO).mono ?_; rintro e w6 ⟨rfl, q, g⟩; replace k3n := k3n.kept g (fun e => by cases e; exact absurd (Nat.lt_of_lt_of_le lk3n hN) (Nat.lt_irrefl _)); replace k5n := k5n.kept g (fun e => by cases e; exact absurd (Nat.lt_of_lt_of_le lk5n hN) (Nat.lt_irrefl _)); replace k6n := k6n.kept g (fun e => by cases e; exact absurd (Nat.lt_of_lt_of_le lk6n hN) (Nat.lt_irrefl _)); replace hsv3 := bslG hsv3 g hO; replace hB5 := hB5.grown g hB5.size (fun k e => by cases e; exact hNw); clear g hO; have kN := Blk.new w6 30 (txc noT))
    | ((refine wpList_store_part 30 (.tmp 8) (.tmp 37) (txc gx) kN 0 (txv gx) (txc gx) ?_ ?_ ?_ ?_ ?_ ?_ ?_ ?_ ?_ ?_ ?_); (· rfl); (· rfl); (· rfl); (· rfl); (· rfl); (· rfl); (· kernel_rfl); (· exact Nat.le_of_ble_eq_true rfl); (· rfl); (· rfl)))
  generalize hX : World.setRow (World.alloc w6 _) _ _ = X8
  have hb8 : Below w6.heap.size w6 X8 := by rw [← hX]; exact below_setRow (chain0 w6 (.cells (txc noT).toArray 30)) (Nat.le_refl _) (txc gx).toArray
  have k8 : Blk X8 w6.heap.size 30 (txc gx) := by rw [← hX]; exact kN.row (txc gx)
  clear hX kN HOP HGT
  replace k3n := k3n.below hb8 k3n.lt
  replace k5n := k5n.below hb8 k5n.lt
  replace k6n := k6n.below hb8 k6n.lt
  replace hsv3 := bslU hsv3 hb8
  have hO := q.below hb8
  replace hB5 := chain hB5 hb8
  clear hb8 q lk3n lk5n lk6n hN
  generalize w6.heap.size = B8 at *
  go_upto_region 12 with (first
    | (go_at_call 16; refine (HRO.out _ hsv3).mono ?_; rintro e w2 ⟨vo, rfl, hvo, hb⟩; obtain ⟨oa, om, oc, rfl⟩ := hvo.shape3; replace k3n := k3n.below hb k3n.lt; replace k5n := k5n.below hb k5n.lt; replace k6n := k6n.below hb k6n.lt; replace k8 := k8.below hb k8.lt; replace hsv3 := bslU hsv3 hb; replace hB5 := chain hB5 hb; replace hO := hO.below hb; clear hb)
    | (go_at_call 15; refine (HGR.out _ _ hvo).mono ?_; rintro e w3 ⟨vz, rfl, hvz, hb⟩; obtain ⟨za, zc, rfl, -⟩ := hvz.shape; replace k3n := k3n.below hb k3n.lt; replace k5n := k5n.below hb k5n.lt; replace k6n := k6n.below hb k6n.lt; replace k8 := k8.below hb k8.lt; replace hsv3 := bslU hsv3 hb; replace hB5 := chain hB5 hb; replace hO := hO.below hb; clear hb hvo; have kN5 := (Blk.new w3 30 (txc noT)).alloc (.cells #[.slice none 0 0, .int .i64 0] 45); have kN6 : Blk ((w3.alloc (.cells (txc noT).toArray 30)).alloc (.cells #[.slice none 0 0, .int .i64 0] 45)) (w3.heap.size + 1) 45 [Value.slice none 0 0, .int .i64 0] := Blk.new' (vs := [Value.slice none 0 0, .int .i64 0]) (by simp))
    | ((refine wpList_store_part 30 (.tmp 9) (.tmp 42) (txc gx) kN5 0 (txv gx) (txc gx) ?_ ?_ ?_ ?_ ?_ ?_ ?_ ?_ ?_ ?_ ?_); (· rfl); (· rfl); (· rfl); (· rfl); (· rfl); (· rfl); (· kernel_rfl); (· exact Nat.le_of_ble_eq_true rfl); (· rfl); (· rfl); have kN6b := kN6.rowO (txc gx).toArray (g := w3.heap.size) (by omega))
    | ((refine wpList_store_part 45 (.tmp 10) (.tmp 43) [Value.slice za gs.1.length zc, .int .i64 gs.2] kN6b 0 (.agg #[Value.slice za gs.1.length zc, .int .i64 gs.2]) [Value.slice za gs.1.length zc, .int .i64 gs.2] ?_ ?_ ?_ ?_ ?_ ?_ ?_ ?_ ?_ ?_ ?_); (· rfl); (· rfl); (· rfl); (· rfl); (· rfl); (· rfl); (· kernel_rfl); (· exact Nat.le_of_ble_eq_true rfl); (· rfl); (· rfl)))
  generalize hX : World.setRow (World.setRow (World.alloc (World.alloc w3 _) _) _ _) _ _ = k9X
  have hb0 := chainA (chain0 w3 (.cells (txc noT).toArray 30)) (.cells #[.slice none 0 0, .int .i64 0] 45)
  have hbX : Below w3.heap.size w3 k9X := by rw [← hX]; exact below_setRow (below_setRow hb0 (Nat.le_refl _) (txc gx).toArray) (Nat.le_succ _) [Value.slice za gs.1.length zc, .int .i64 gs.2].toArray
  have k9 : Blk k9X w3.heap.size 30 (txc gx) := by rw [← hX]; exact (kN5.row (txc gx)).rowO _ (by omega)
  have k10 : Blk k9X (w3.heap.size + 1) 45 [Value.slice za gs.1.length zc, .int .i64 gs.2] := by rw [← hX]; exact kN6b.row [Value.slice za gs.1.length zc, .int .i64 gs.2]
  clear hX kN5 kN6 kN6b hb0
  have lk3n := k3n.lt
  replace k3n := k3n.below hbX k3n.lt
  have lk5n := k5n.lt
  replace k5n := k5n.below hbX k5n.lt
  have lk6n := k6n.lt
  replace k6n := k6n.below hbX k6n.lt
  have lk8 := k8.lt
  replace k8 := k8.below hbX k8.lt
  replace hsv3 := bslU hsv3 hbX
  replace hvz := bslU hvz hbX
  replace hB5 := chain hB5 hbX
  replace hO := hO.below hbX
  clear hbX
  generalize w3.heap.size = k9B at *
  clear HRO HGR hsv3 hvz
  refine wp_region_held_drew (S := fun W => Below k9X.drew.heap.size k9X.drew W) hmx (Below.refl _ _) ?_
  intro hS
  replace k3n : Blk k9X.drew _ _ _ := k3n
  replace k5n : Blk k9X.drew _ _ _ := k5n
  replace k6n : Blk k9X.drew _ _ _ := k6n
  replace k8 : Blk k9X.drew _ _ _ := k8
  replace k9 : Blk k9X.drew _ _ _ := k9
  replace k10 : Blk k9X.drew _ _ _ := k10
  replace hO := hO.below (Below.refl _ k9X).drew
  have hB := hB5.drew
  clear hB5
  generalize k9X.drew = Y at *
  refine' wpAnyH_take (i := 0) (oi := _) (v := txv noT) ?hi33 (by kernel_rfl) (by kernel_rfl) (by kernel_rfl) ?hQ33 (Or.inl ⟨?hw33, ?hy33⟩) hS ?rest33
  case hi33 => simp only [List.getElem?_toArray, List.getElem?_cons_zero]; rfl
  case hQ33 => exact fun _ _ _ h => h
  case hw33 => rfl
  case hy33 => exact fun W' hS' => exec_load 30 (.tmp 3) rfl _ W' (load_tx (k3n.below hS' k3n.lt))
  try simp only [Act.put, List.setIfInBounds_toArray, List.set_cons_zero, List.set_cons_succ]
  refine' wpAnyH_take (i := 1) (oi := _) (v := txv noT) ?hi34 (by kernel_rfl) (by kernel_rfl) (by kernel_rfl) ?hQ34 (Or.inl ⟨?hw34, ?hy34⟩) hS ?rest34
  case hi34 => simp only [List.getElem?_toArray, List.getElem?_cons_succ, List.getElem?_cons_zero]; rfl
  case hQ34 => exact fun _ _ _ h => h
  case hw34 => rfl
  case hy34 => exact fun W' hS' => exec_load 30 (.tmp 5) rfl _ W' (load_tx (k5n.below hS' k5n.lt))
  try simp only [Act.put, List.setIfInBounds_toArray, List.set_cons_zero, List.set_cons_succ]
  refine' wpAnyH_take (i := 2) (oi := _) (v := .bool true) ?hi35 (by kernel_rfl) (by kernel_rfl) (by kernel_rfl) ?hQ35 (Or.inl ⟨?hw35, ?hy35⟩) hS ?rest35
  case hi35 => simp only [List.getElem?_toArray, List.getElem?_cons_succ, List.getElem?_cons_zero]; rfl
  case hQ35 => exact fun _ _ _ h => h
  case hw35 => rfl
  case hy35 => exact fun W' hS' => exec_eqS (.tmp 44) (.tmp 45) _ rfl noT rfl rfl W'
  try simp only [Act.put, List.setIfInBounds_toArray, List.set_cons_zero, List.set_cons_succ]
  refine' wpAnyH_take (i := 3) (oi := _) (v := _) ?hi36 (by kernel_rfl) (by kernel_rfl) (by kernel_rfl) ?hQ36 (Or.inl ⟨?hw36, ?hy36⟩) hS ?rest36
  case hi36 => simp only [List.getElem?_toArray, List.getElem?_cons_succ, List.getElem?_cons_zero]; rfl
  case hQ36 => exact fun _ _ _ h => h
  case hw36 => rfl
  case hy36 => intro W' hS'; go_simp; with_reducible rfl
  try simp only [Act.put, List.setIfInBounds_toArray, List.set_cons_zero, List.set_cons_succ]
  refine' wpAnyH_take (i := 4) (oi := _) (v := _) ?hi37 (by kernel_rfl) (by kernel_rfl) (by kernel_rfl) ?hQ37 (Or.inl ⟨?hw37, ?hy37⟩) hS ?rest37
  case hi37 => simp only [List.getElem?_toArray, List.getElem?_cons_succ, List.getElem?_cons_zero]; rfl
  case hQ37 => exact fun _ _ _ h => h
  case hw37 => rfl
  case hy37 => intro W' hS'; go_simp; with_reducible rfl
  try simp only [Act.put, List.setIfInBounds_toArray, List.set_cons_zero, List.set_cons_succ]
  refine' wpAnyH_take (i := 6) (oi := _) (v := _) ?hi38 (by kernel_rfl) (by kernel_rfl) (by kernel_rfl) ?hQ38 (Or.inl ⟨?hw38, ?hy38⟩) hS ?rest38
  case hi38 => simp only [List.getElem?_toArray, List.getElem?_cons_succ, List.getElem?_cons_zero]; rfl
  case hQ38 => exact fun _ _ _ h => h
  case hw38 => rfl
  case hy38 => intro W' hS'; go_simp; with_reducible rfl
  try simp only [Act.put, List.setIfInBounds_toArray, List.set_cons_zero, List.set_cons_succ]
  refine' wpAnyH_take (i := 7) (oi := _) (v := _) ?hi39 (by kernel_rfl) (by kernel_rfl) (by kernel_rfl) ?hQ39 (Or.inl ⟨?hw39, ?hy39⟩) hS ?rest39
  case hi39 => simp only [List.getElem?_toArray, List.getElem?_cons_succ, List.getElem?_cons_zero]; rfl
  case hQ39 => exact fun _ _ _ h => h
  case hw39 => rfl
  case hy39 => intro W' hS'; obtain ⟨a0, a1⟩ := Blk.c2 (k6n.below hS' k6n.lt); go_simp; with_reducible rfl
  try simp only [Act.put, List.setIfInBounds_toArray, List.set_cons_zero, List.set_cons_succ]
  refine wpAnyH_ready (rs := [5]) (by kernel_rfl) (by simp) ?_
  refine' AllReadyH.cons (o := _) ?ho40 (fun K hK => ?st40) AllReadyH.nil
  case ho40 => simp only [List.getElem?_toArray, List.getElem?_cons_succ, List.getElem?_cons_zero]; rfl
  case st40 =>
    go_simp
    refine (txsNum_any _ _).mono ?_
    rintro e Y1 ⟨rfl, rfl⟩
    refine hK.out _ _ hS (fun hS => ?_)
    clear hK K
    try simp only [Act.put, List.setIfInBounds_toArray, List.set_cons_zero, List.set_cons_succ]
    refine' wpAnyH_take (i := 8) (oi := _) (v := _) ?hi41 (by kernel_rfl) (by kernel_rfl) (by kernel_rfl) ?hQ41 (Or.inl ⟨?hw41, ?hy41⟩) hS ?rest41
    case hi41 => simp only [List.getElem?_toArray, List.getElem?_cons_succ, List.getElem?_cons_zero]; rfl
    case hQ41 => exact fun _ _ _ h => h
    case hw41 => rfl
    case hy41 => intro W' hS'; go_simp; with_reducible rfl
    try simp only [Act.put, List.setIfInBounds_toArray, List.set_cons_zero, List.set_cons_succ]
    refine' wpAnyH_take (i := 9) (oi := _) (v := _) ?hi42 (by kernel_rfl) (by kernel_rfl) (by kernel_rfl) ?hQ42 (Or.inl ⟨?hw42, ?hy42⟩) hS ?rest42
    case hi42 => simp only [List.getElem?_toArray, List.getElem?_cons_succ, List.getElem?_cons_zero]; rfl
    case hQ42 => exact fun _ _ _ h => h
    case hw42 => rfl
    case hy42 => intro W' hS'; go_simp; with_reducible rfl
    try simp only [Act.put, List.setIfInBounds_toArray, List.set_cons_zero, List.set_cons_succ]
    refine' wpAnyH_take (i := 10) (oi := _) (v := _) ?hi43 (by kernel_rfl) (by kernel_rfl) (by kernel_rfl) ?hQ43 (Or.inl ⟨?hw43, ?hy43⟩) hS ?rest43
    case hi43 => simp only [List.getElem?_toArray, List.getElem?_cons_succ, List.getElem?_cons_zero]; rfl
    case hQ43 => exact fun _ _ _ h => h
    case hw43 => rfl
    case hy43 => intro W' hS'; go_simp; with_reducible rfl
    try simp only [Act.put, List.setIfInBounds_toArray, List.set_cons_zero, List.set_cons_succ]
    refine' wpAnyH_take (i := 11) (oi := _) (v := txv gx) ?hi44 (by kernel_rfl) (by kernel_rfl) (by kernel_rfl) ?hQ44 (Or.inl ⟨?hw44, ?hy44⟩) hS ?rest44
    case hi44 => simp only [List.getElem?_toArray, List.getElem?_cons_succ, List.getElem?_cons_zero]; rfl
    case hQ44 => exact fun _ _ _ h => h
    case hw44 => rfl
    case hy44 => exact fun W' hS' => exec_load 30 (.tmp 8) rfl _ W' (load_tx (k8.below hS' k8.lt))
    try simp only [Act.put, List.setIfInBounds_toArray, List.set_cons_zero, List.set_cons_succ]
    refine' wpAnyH_take (i := 12) (oi := _) (v := txv gx) ?hi45 (by kernel_rfl) (by kernel_rfl) (by kernel_rfl) ?hQ45 (Or.inl ⟨?hw45, ?hy45⟩) hS ?rest45
    case hi45 => simp only [List.getElem?_toArray, List.getElem?_cons_succ, List.getElem?_cons_zero]; rfl
    case hQ45 => exact fun _ _ _ h => h
    case hw45 => rfl
    case hy45 => exact fun W' hS' => exec_load 30 (.tmp 9) rfl _ W' (load_tx (k9.below hS' k9.lt))
    try simp only [Act.put, List.setIfInBounds_toArray, List.set_cons_zero, List.set_cons_succ]
    refine' wpAnyH_take (i := 13) (oi := _) (v := .bool true) ?hi46 (by kernel_rfl) (by kernel_rfl) (by kernel_rfl) ?hQ46 (Or.inl ⟨?hw46, ?hy46⟩) hS ?rest46
    case hi46 => simp only [List.getElem?_toArray, List.getElem?_cons_succ, List.getElem?_cons_zero]; rfl
    case hQ46 => exact fun _ _ _ h => h
    case hw46 => rfl
    case hy46 => exact fun W' hS' => exec_eqS (.tmp 55) (.tmp 56) _ rfl gx rfl rfl W'
    try simp only [Act.put, List.setIfInBounds_toArray, List.set_cons_zero, List.set_cons_succ]
    refine' wpAnyH_take (i := 14) (oi := _) (v := _) ?hi47 (by kernel_rfl) (by kernel_rfl) (by kernel_rfl) ?hQ47 (Or.inl ⟨?hw47, ?hy47⟩) hS ?rest47
    case hi47 => simp only [List.getElem?_toArray, List.getElem?_cons_succ, List.getElem?_cons_zero]; rfl
    case hQ47 => exact fun _ _ _ h => h
    case hw47 => rfl
    case hy47 => intro W' hS'; go_simp; with_reducible rfl
    try simp only [Act.put, List.setIfInBounds_toArray, List.set_cons_zero, List.set_cons_succ]
    refine' wpAnyH_take (i := 15) (oi := _) (v := _) ?hi48 (by kernel_rfl) (by kernel_rfl) (by kernel_rfl) ?hQ48 (Or.inl ⟨?hw48, ?hy48⟩) hS ?rest48
    case hi48 => simp only [List.getElem?_toArray, List.getElem?_cons_succ, List.getElem?_cons_zero]; rfl
    case hQ48 => exact fun _ _ _ h => h
    case hw48 => rfl
    case hy48 => intro W' hS'; go_simp; with_reducible rfl
    try simp only [Act.put, List.setIfInBounds_toArray, List.set_cons_zero, List.set_cons_succ]
    refine' wpAnyH_take (i := 16) (oi := _) (v := _) ?hi49 (by kernel_rfl) (by kernel_rfl) (by kernel_rfl) ?hQ49 (Or.inl ⟨?hw49, ?hy49⟩) hS ?rest49
    case hi49 => simp only [List.getElem?_toArray, List.getElem?_cons_succ, List.getElem?_cons_zero]; rfl
    case hQ49 => exact fun _ _ _ h => h
    case hw49 => rfl
    case hy49 => intro W' hS'; go_simp; with_reducible rfl
    try simp only [Act.put, List.setIfInBounds_toArray, List.set_cons_zero, List.set_cons_succ]
    refine' wpAnyH_take (i := 19) (oi := _) (v := _) ?hi50 (by kernel_rfl) (by kernel_rfl) (by kernel_rfl) ?hQ50 (Or.inl ⟨?hw50, ?hy50⟩) hS ?rest50
    case hi50 => simp only [List.getElem?_toArray, List.getElem?_cons_succ, List.getElem?_cons_zero]; rfl
    case hQ50 => exact fun _ _ _ h => h
    case hw50 => rfl
    case hy50 => intro W' hS'; go_simp; with_reducible rfl
    try simp only [Act.put, List.setIfInBounds_toArray, List.set_cons_zero, List.set_cons_succ]
    refine' wpAnyH_take (i := 20) (oi := _) (v := _) ?hi51 (by kernel_rfl) (by kernel_rfl) (by kernel_rfl) ?hQ51 (Or.inl ⟨?hw51, ?hy51⟩) hS ?rest51
    case hi51 => simp only [List.getElem?_toArray, List.getElem?_cons_succ, List.getElem?_cons_zero]; rfl
    case hQ51 => exact fun _ _ _ h => h
    case hw51 => rfl
    case hy51 => intro W' hS'; obtain ⟨a0, a1⟩ := Blk.c2 (k10.below hS' k10.lt); go_simp; with_reducible rfl
    try simp only [Act.put, List.setIfInBounds_toArray, List.set_cons_zero, List.set_cons_succ]
    refine wpAnyH_ready (rs := [17]) (by kernel_rfl) (by simp) ?_
    refine' AllReadyH.cons (o := _) ?ho52 (fun K hK => ?st52) AllReadyH.nil
    case ho52 => simp only [List.getElem?_toArray, List.getElem?_cons_succ, List.getElem?_cons_zero]; rfl
    case st52 =>
      go_simp
      refine (inErr_any _ hO).mono ?_
      rintro e Y1 ⟨rfl, rfl⟩
      refine hK.out _ _ hS (fun hS => ?_)
      clear hK K
      try simp only [Act.put, List.setIfInBounds_toArray, List.set_cons_zero, List.set_cons_succ]
      refine wpAnyH_ready (rs := [18]) (by kernel_rfl) (by simp) ?_
      refine' AllReadyH.cons (o := _) ?ho53 (fun K hK => ?st53) AllReadyH.nil
      case ho53 => simp only [List.getElem?_toArray, List.getElem?_cons_succ, List.getElem?_cons_zero]; rfl
      case st53 =>
        go_simp
        refine (txsNum_any _ _).mono ?_
        rintro e Y1 ⟨rfl, rfl⟩
        refine hK.out _ _ hS (fun hS => ?_)
        clear hK K
        try simp only [Act.put, List.setIfInBounds_toArray, List.set_cons_zero, List.set_cons_succ]
        refine' wpAnyH_take (i := 21) (oi := _) (v := _) ?hi54 (by kernel_rfl) (by kernel_rfl) (by kernel_rfl) ?hQ54 (Or.inl ⟨?hw54, ?hy54⟩) hS ?rest54
        case hi54 => simp only [List.getElem?_toArray, List.getElem?_cons_succ, List.getElem?_cons_zero]; rfl
        case hQ54 => exact fun _ _ _ h => h
        case hw54 => rfl
        case hy54 => intro W' hS'; go_simp; with_reducible rfl
        try simp only [Act.put, List.setIfInBounds_toArray, List.set_cons_zero, List.set_cons_succ]
        refine' wpAnyH_take (i := 22) (oi := _) (v := _) ?hi55 (by kernel_rfl) (by kernel_rfl) (by kernel_rfl) ?hQ55 (Or.inl ⟨?hw55, ?hy55⟩) hS ?rest55
        case hi55 => simp only [List.getElem?_toArray, List.getElem?_cons_succ, List.getElem?_cons_zero]; rfl
        case hQ55 => exact fun _ _ _ h => h
        case hw55 => rfl
        case hy55 => intro W' hS'; go_simp; with_reducible rfl
        try simp only [Act.put, List.setIfInBounds_toArray, List.set_cons_zero, List.set_cons_succ]
        refine' wpAnyH_take (i := 23) (oi := _) (v := _) ?hi56 (by kernel_rfl) (by kernel_rfl) (by kernel_rfl) ?hQ56 (Or.inl ⟨?hw56, ?hy56⟩) hS ?rest56
        case hi56 => simp only [List.getElem?_toArray, List.getElem?_cons_succ, List.getElem?_cons_zero]; rfl
        case hQ56 => exact fun _ _ _ h => h
        case hw56 => rfl
        case hy56 => intro W' hS'; go_simp; with_reducible rfl
        try simp only [Act.put, List.setIfInBounds_toArray, List.set_cons_zero, List.set_cons_succ]
        refine' wpAnyH_take (i := 24) (oi := _) (v := _) ?hi57 (by kernel_rfl) (by kernel_rfl) (by kernel_rfl) ?hQ57 (Or.inl ⟨?hw57, ?hy57⟩) hS ?rest57
        case hi57 => simp only [List.getElem?_toArray, List.getElem?_cons_succ, List.getElem?_cons_zero]; rfl
        case hQ57 => exact fun _ _ _ h => h
        case hw57 => rfl
        case hy57 => intro W' hS'; go_simp; with_reducible rfl
        try simp only [Act.put, List.setIfInBounds_toArray, List.set_cons_zero, List.set_cons_succ]
        refine' wpAnyH_take (i := 26) (oi := _) (v := _) ?hi58 (by kernel_rfl) (by kernel_rfl) (by kernel_rfl) ?hQ58 (Or.inl ⟨?hw58, ?hy58⟩) hS ?rest58
        case hi58 => simp only [List.getElem?_toArray, List.getElem?_cons_succ, List.getElem?_cons_zero]; rfl
        case hQ58 => exact fun _ _ _ h => h
        case hw58 => rfl
        case hy58 => intro W' hS'; go_simp; with_reducible rfl
        try simp only [Act.put, List.setIfInBounds_toArray, List.set_cons_zero, List.set_cons_succ]
        refine' wpAnyH_take (i := 27) (oi := _) (v := _) ?hi59 (by kernel_rfl) (by kernel_rfl) (by kernel_rfl) ?hQ59 (Or.inl ⟨?hw59, ?hy59⟩) hS ?rest59
        case hi59 => simp only [List.getElem?_toArray, List.getElem?_cons_succ, List.getElem?_cons_zero]; rfl
        case hQ59 => exact fun _ _ _ h => h
        case hw59 => rfl
        case hy59 => intro W' hS'; obtain ⟨a0, a1⟩ := Blk.c2 (k10.below hS' k10.lt); go_simp; with_reducible rfl
        try simp only [Act.put, List.setIfInBounds_toArray, List.set_cons_zero, List.set_cons_succ]
        refine' wpAnyH_take (i := 28) (oi := _) (v := _) ?hi60 (by kernel_rfl) (by kernel_rfl) (by kernel_rfl) ?hQ60 (Or.inl ⟨?hw60, ?hy60⟩) hS ?rest60
        case hi60 => simp only [List.getElem?_toArray, List.getElem?_cons_succ, List.getElem?_cons_zero]; rfl
        case hQ60 => exact fun _ _ _ h => h
        case hw60 => rfl
        case hy60 => intro W' hS'; go_simp; with_reducible rfl
        try simp only [Act.put, List.setIfInBounds_toArray, List.set_cons_zero, List.set_cons_succ]
        refine wpAnyH_ready (rs := [25]) (by kernel_rfl) (by simp) ?_
        refine' AllReadyH.cons (o := _) ?ho61 (fun K hK => ?st61) AllReadyH.nil
        case ho61 => simp only [List.getElem?_toArray, List.getElem?_cons_succ, List.getElem?_cons_zero]; rfl
        case st61 =>
          go_simp
          refine (inLeft_any _ hO).mono ?_
          rintro e Y1 ⟨rfl, rfl⟩
          refine hK.out _ _ hS (fun hS => ?_)
          clear hK K
          try simp only [Act.put, List.setIfInBounds_toArray, List.set_cons_zero, List.set_cons_succ]
          refine' wpAnyH_take (i := 29) (oi := _) (v := _) ?hi62 (by kernel_rfl) (by kernel_rfl) (by kernel_rfl) ?hQ62 (Or.inl ⟨?hw62, ?hy62⟩) hS ?rest62
          case hi62 => simp only [List.getElem?_toArray, List.getElem?_cons_succ, List.getElem?_cons_zero]; rfl
          case hQ62 => exact fun _ _ _ h => h
          case hw62 => rfl
          case hy62 => intro W' hS'; go_simp; with_reducible rfl
          try simp only [Act.put, List.setIfInBounds_toArray, List.set_cons_zero, List.set_cons_succ]
          refine' wpAnyH_take (i := 30) (oi := _) (v := _) ?hi63 (by kernel_rfl) (by kernel_rfl) (by kernel_rfl) ?hQ63 (Or.inl ⟨?hw63, ?hy63⟩) hS ?rest63
          case hi63 => simp only [List.getElem?_toArray, List.getElem?_cons_succ, List.getElem?_cons_zero]; rfl
          case hQ63 => exact fun _ _ _ h => h
          case hw63 => rfl
          case hy63 => intro W' hS'; go_simp; with_reducible rfl
          try simp only [Act.put, List.setIfInBounds_toArray, List.set_cons_zero, List.set_cons_succ]
          refine' wpAnyH_take (i := 31) (oi := _) (v := _) ?hi64 (by kernel_rfl) (by kernel_rfl) (by kernel_rfl) ?hQ64 (Or.inl ⟨?hw64, ?hy64⟩) hS ?rest64
          case hi64 => simp only [List.getElem?_toArray, List.getElem?_cons_succ, List.getElem?_cons_zero]; rfl
          case hQ64 => exact fun _ _ _ h => h
          case hw64 => rfl
          case hy64 => intro W' hS'; go_simp; with_reducible rfl
          try simp only [Act.put, List.setIfInBounds_toArray, List.set_cons_zero, List.set_cons_succ]
          refine wpAnyH_done (by kernel_rfl) ?_ _
          go_wp2_with fail
          go_ret
          exact ⟨rfl, chain hB hS⟩
set_option maxRecDepth 100000 in
set_option maxHeartbeats 8000000 in
theorem txsReads_bad {gx : Tr} {gs : St} (l : List UInt8) (hgt : getT (openS l) = (gx, gs)) (he : gs.2 ≠ 0) (hn : gs.1 = []) (sv : Value) (w : World) (hl : l.length ≤ 140737488351232) (hsv : BSl 0 w.heap.size w sv l) :
    Calls Try.prog 4 #[sv] w fun e W' => e = .returned (.bool true) ∧ Below w.heap.size w W' := by
  have hmx : Try.prog.follows .mixedOrders = true := by kernel_rfl
  obtain ⟨sa, sm, sc, rfl⟩ := hsv.shape3
  have hrd : readT (openS l) = (noT, gs.2) := readT_bad hgt he
  have HRD : Hid (∀ W, BSl 0 W.heap.size W (.slice sa sm sc) l → Calls Try.prog 14 #[.slice sa sm sc] W fun e W' => e = .returned (.tuple #[txv noT, .int .i64 gs.2]) ∧ Below W.heap.size W W') := Lib.hid fun W h => by have := txsRead_any l _ W hl h; rw [hrd] at this; exact this
  have HOP : Hid (∀ W, BSl 0 W.heap.size W (.slice sa sm sc) l → Calls Try.prog 18 #[.slice sa sm sc] W fun e W' => ∃ NB, e = .returned (.pointer (some ⟨NB, 0, none⟩)) ∧ W.heap.size ≤ NB ∧ ObjP 82 W' (some ⟨NB, 0, none⟩) (openS l) ∧ Below W.heap.size W W') := Lib.hid fun W h => inOpen_any l _ W hl h
  have HRO : Hid (∀ W, BSl 0 W.heap.size W (.slice sa sm sc) l → Calls Try.prog 16 #[.slice sa sm sc] W (RefR (openS l) W)) := Lib.hid fun W h => refOpen6_any l _ W h
  have HGR : Hid (∀ W v, BSl 0 W.heap.size W v (openS l).1 → Calls Try.prog 15 #[.agg #[v, .int .i64 (openS l).2]] W fun e W' => ∃ z, e = .returned (.tuple #[txv gx, .agg #[z, .int .i64 gs.2]]) ∧ BSl 0 W'.heap.size W' z gs.1 ∧ Below W.heap.size W W') := Lib.hid fun W v h => by have := refGetTx_any v W h; rw [hgt] at this; exact this
  have HGT : Hid (∀ p W, ObjP 82 W p (openS l) → Calls Try.prog 19 #[.pointer p] W (GotT 82 p (gx, gs) W)) := Lib.hid fun p W h => by have := txsGet_any W h; rw [hgt] at this; exact this
  generalize openS l = so at *
  have hB : Below w.heap.size w w := Below.refl _ _
  have HZ : Hid (gs.1.length = 0) := Lib.hid (by rw [hn]; rfl)
  have q1 : (gs.2 == 0) = false := by simpa using he
  have q2 : (gs.2 != 0) = true := by simpa using he
  clear he hn hrd hgt hl
  go_enter Try.func4, Try.ntmps4
  go_upto_region 4 with (first
    | (go_at_call 13; refine (txsAlive_any _).mono ?_; rintro e w0 ⟨rfl, hb⟩; replace hsv := bslU hsv hb; replace hB := chain hB hb; clear hb)
    | (go_at_call 14; refine (HRD.out _ hsv).mono ?_; rintro e w1 ⟨rfl, hb⟩; replace hsv := bslU hsv hb; replace hB := chain hB hb; clear hb; have kN := Blk.new w1 30 (txc noT))
    | ((refine wpList_store_part 30 (.tmp 3) (.tmp 16) (txc noT) kN 0 (txv noT) (txc noT) ?_ ?_ ?_ ?_ ?_ ?_ ?_ ?_ ?_ ?_ ?_; (· rfl); (· rfl); (· rfl); (· rfl); (· rfl); (· rfl); (· kernel_rfl); (· exact Nat.le_of_ble_eq_true rfl); (· rfl); (· rfl))))
  clear HRD
  generalize hX : World.setRow (World.alloc w1 _) _ _ = X3
  have k3 : Blk X3 w1.heap.size 30 (txc noT) := by rw [← hX]; exact kN.row (txc noT)
  have hsv3 : BSl 0 X3.heap.size X3 (.slice sa sm sc) l := by rw [← hX]; exact bsl_row (bslU hsv (chain0 w1 (.cells (txc noT).toArray 30))) (noOctT kN) (txc noT).toArray
  have hB3 : Below w.heap.size w X3 := by rw [← hX]; exact below_setRow (chainA hB (.cells (txc noT).toArray 30)) hB.size (txc noT).toArray
  have hBw := hB.size
  clear hX kN hsv hB
  generalize w1.heap.size = B3 at *
  go_upto_region 5 with (first
    | (go_at_call 16; refine (HRO.out _ hsv3).mono ?_; rintro e w2 ⟨vo, rfl, hvo, hb⟩; obtain ⟨oa, om, oc, rfl⟩ := hvo.shape3; replace k3 := k3.below hb k3.lt; replace hsv3 := bslU hsv3 hb; replace hB3 := chain hB3 hb; clear hb)
    | (go_at_call 15; refine (HGR.out _ _ hvo).mono ?_; rintro e w3 ⟨vz, rfl, hvz, hb⟩; obtain ⟨za, zc, rfl, -⟩ := hvz.shape; replace k3 := k3.below hb k3.lt; replace hsv3 := bslU hsv3 hb; replace hB3 := chain hB3 hb; clear hb hvo; have kN5 := (Blk.new w3 30 (txc noT)).alloc (.cells #[.slice none 0 0, .int .i64 0] 45); have kN6 : Blk ((w3.alloc (.cells (txc noT).toArray 30)).alloc (.cells #[.slice none 0 0, .int .i64 0] 45)) (w3.heap.size + 1) 45 [Value.slice none 0 0, .int .i64 0] := Blk.new' (vs := [Value.slice none 0 0, .int .i64 0]) (by simp))
    | ((refine wpList_store_part 30 (.tmp 5) (.tmp 22) (txc gx) kN5 0 (txv gx) (txc gx) ?_ ?_ ?_ ?_ ?_ ?_ ?_ ?_ ?_ ?_ ?_); (· rfl); (· rfl); (· rfl); (· rfl); (· rfl); (· rfl); (· kernel_rfl); (· exact Nat.le_of_ble_eq_true rfl); (· rfl); (· rfl); have kN6b := kN6.rowO (txc gx).toArray (g := w3.heap.size) (by omega))
    | ((refine wpList_store_part 45 (.tmp 6) (.tmp 23) [Value.slice za gs.1.length zc, .int .i64 gs.2] kN6b 0 (.agg #[Value.slice za gs.1.length zc, .int .i64 gs.2]) [Value.slice za gs.1.length zc, .int .i64 gs.2] ?_ ?_ ?_ ?_ ?_ ?_ ?_ ?_ ?_ ?_ ?_); (· rfl); (· rfl); (· rfl); (· rfl); (· rfl); (· rfl); (· kernel_rfl); (· exact Nat.le_of_ble_eq_true rfl); (· rfl); (· rfl)))
  generalize hX : World.setRow (World.setRow (World.alloc (World.alloc w3 _) _) _ _) _ _ = k5X
  have hb0 := chainA (chain0 w3 (.cells (txc noT).toArray 30)) (.cells #[.slice none 0 0, .int .i64 0] 45)
  have hbX : Below w3.heap.size w3 k5X := by rw [← hX]; exact below_setRow (below_setRow hb0 (Nat.le_refl _) (txc gx).toArray) (Nat.le_succ _) [Value.slice za gs.1.length zc, .int .i64 gs.2].toArray
  have k5 : Blk k5X w3.heap.size 30 (txc gx) := by rw [← hX]; exact (kN5.row (txc gx)).rowO _ (by omega)
  have k6 : Blk k5X (w3.heap.size + 1) 45 [Value.slice za gs.1.length zc, .int .i64 gs.2] := by rw [← hX]; exact kN6b.row [Value.slice za gs.1.length zc, .int .i64 gs.2]
  clear hX kN5 kN6 kN6b hb0
  have lk3 := k3.lt
  replace k3 := k3.below hbX k3.lt
  replace hsv3 := bslU hsv3 hbX
  replace hvz := bslU hvz hbX
  replace hB3 := chain hB3 hbX
  clear hbX
  generalize w3.heap.size = k5B at *
  obtain ⟨a0, a1⟩ := Blk.c2 k6
  have hz := HZ.out
  have HN5 : Hid (B3 ≠ k5B) := Lib.hid (by omega)
  have HN6 : Hid (k5B + 1 ≠ k5B) := Lib.hid (by omega)
  have HL5 : Hid (w.heap.size ≤ k5B) := Lib.hid (by have := hBw; omega)
  go_upto_region 9 with (first
    | ((refine wpList_store_part 30 (.tmp 5) (.tmp 33) (txc noT) k5 0 (txv noT) (txc noT) ?_ ?_ ?_ ?_ ?_ ?_ ?_ ?_ ?_ ?_ ?_); (· rfl); (· rfl); (· rfl); (· rfl); (· rfl); (· rfl); (· kernel_rfl); (· exact Nat.le_of_ble_eq_true rfl); (· rfl); (· rfl); replace hsv3 := bsl_row hsv3 (noOctT k5) (txc noT).toArray; have k3n := k3.rowO (txc noT).toArray (g := k5B) HN5.out; have k6n := k6.rowO (txc noT).toArray (g := k5B) HN6.out; have k5n := k5.row (txc noT); have hB5 := below_setRow hB3 HL5.out (txc noT).toArray))
  clear k3 k5 k6 hB3
  clear hvz a0 a1 hz HZ HN5 HN6 HL5
  generalize World.setRow _ _ _ = X9 at *
  go_upto_region 11 with (first
    | (go_at_call 18; refine (HOP.out _ hsv3).mono ?_; rintro e w5 ⟨NB, rfl, hN, hO, hb⟩; have lk3n := k3n.lt; have lk5n := k5n.lt; have lk6n := k6n.lt; have hNw := Nat.le_trans hB5.size hN; replace k3n := k3n.below hb k3n.lt; replace k5n := k5n.below hb k5n.lt; replace k6n := k6n.below hb k6n.lt; replace hsv3 := bslU hsv3 hb; replace hB5 := chain hB5 hb; clear hb)
    | (go_at_call 19; refine (HGT.out _ _ hO).mono ?_; rintro e w6 ⟨rfl, q, g⟩; replace k3n := k3n.kept g (fun e => by cases e; exact absurd (Nat.lt_of_lt_of_le lk3n hN) (Nat.lt_irrefl _)); replace k5n := k5n.kept g (fun e => by cases e; exact absurd (Nat.lt_of_lt_of_le lk5n hN) (Nat.lt_irrefl _)); replace k6n := k6n.kept g (fun e => by cases e; exact absurd (Nat.lt_of_lt_of_le lk6n hN) (Nat.lt_irrefl _)); replace hsv3 := bslG hsv3 g hO; replace hB5 := hB5.grown g hB5.size (fun k e => by cases e; exact hNw); clear g hO; have kN := Blk.new w6 30 (txc noT))
    | ((refine wpList_store_part 30 (.tmp 8) (.tmp 37) (txc gx) kN 0 (txv gx) (txc gx) ?_ ?_ ?_ ?_ ?_ ?_ ?_ ?_ ?_ ?_ ?_); (· rfl); (· rfl); (· rfl); (· rfl); (· rfl); (· rfl); (· kernel_rfl); (· exact Nat.le_of_ble_eq_true rfl); (· rfl); (· rfl)))
  generalize hX : World.setRow (World.alloc w6 _) _ _ = X8
  have hb8 : Below w6.heap.size w6 X8 := by rw [← hX]; exact below_setRow (chain0 w6 (.cells (txc noT).toArray 30)) (Nat.le_refl _) (txc gx).toArray
  have k8 : Blk X8 w6.heap.size 30 (txc gx) := by rw [← hX]; exact kN.row (txc gx)
  clear hX kN HOP HGT
  replace k3n := k3n.below hb8 k3n.lt
  replace k5n := k5n.below hb8 k5n.lt
  replace k6n := k6n.below hb8 k6n.lt
  replace hsv3 := bslU hsv3 hb8
  have hO := q.below hb8
  replace hB5 := chain hB5 hb8
  clear hb8 q lk3n lk5n lk6n hN
  generalize w6.heap.size = B8 at *
  go_upto_region 12 with (first
    | (go_at_call 16; refine (HRO.out _ hsv3).mono ?_; rintro e w2 ⟨vo, rfl, hvo, hb⟩; obtain ⟨oa, om, oc, rfl⟩ := hvo.shape3; replace k3n := k3n.below hb k3n.lt; replace k5n := k5n.below hb k5n.lt; replace k6n := k6n.below hb k6n.lt; replace k8 := k8.below hb k8.lt; replace hsv3 := bslU hsv3 hb; replace hB5 := chain hB5 hb; replace hO := hO.below hb; clear hb)
    | (go_at_call 15; refine (HGR.out _ _ hvo).mono ?_; rintro e w3 ⟨vz, rfl, hvz, hb⟩; obtain ⟨za, zc, rfl, -⟩ := hvz.shape; replace k3n := k3n.below hb k3n.lt; replace k5n := k5n.below hb k5n.lt; replace k6n := k6n.below hb k6n.lt; replace k8 := k8.below hb k8.lt; replace hsv3 := bslU hsv3 hb; replace hB5 := chain hB5 hb; replace hO := hO.below hb; clear hb hvo; have kN5 := (Blk.new w3 30 (txc noT)).alloc (.cells #[.slice none 0 0, .int .i64 0] 45); have kN6 : Blk ((w3.alloc (.cells (txc noT).toArray 30)).alloc (.cells #[.slice none 0 0, .int .i64 0] 45)) (w3.heap.size + 1) 45 [Value.slice none 0 0, .int .i64 0] := Blk.new' (vs := [Value.slice none 0 0, .int .i64 0]) (by simp))
    | ((refine wpList_store_part 30 (.tmp 9) (.tmp 42) (txc gx) kN5 0 (txv gx) (txc gx) ?_ ?_ ?_ ?_ ?_ ?_ ?_ ?_ ?_ ?_ ?_); (· rfl); (· rfl); (· rfl); (· rfl); (· rfl); (· rfl); (· kernel_rfl); (· exact Nat.le_of_ble_eq_true rfl); (· rfl); (· rfl); have kN6b := kN6.rowO (txc gx).toArray (g := w3.heap.size) (by omega))
    | ((refine wpList_store_part 45 (.tmp 10) (.tmp 43) [Value.slice za gs.1.length zc, .int .i64 gs.2] kN6b 0 (.agg #[Value.slice za gs.1.length zc, .int .i64 gs.2]) [Value.slice za gs.1.length zc, .int .i64 gs.2] ?_ ?_ ?_ ?_ ?_ ?_ ?_ ?_ ?_ ?_ ?_); (· rfl); (· rfl); (· rfl); (· rfl); (· rfl); (· rfl); (· kernel_rfl); (· exact Nat.le_of_ble_eq_true rfl); (· rfl); (· rfl)))
  generalize hX : World.setRow (World.setRow (World.alloc (World.alloc w3 _) _) _ _) _ _ = k9X
  have hb0 := chainA (chain0 w3 (.cells (txc noT).toArray 30)) (.cells #[.slice none 0 0, .int .i64 0] 45)
  have hbX : Below w3.heap.size w3 k9X := by rw [← hX]; exact below_setRow (below_setRow hb0 (Nat.le_refl _) (txc gx).toArray) (Nat.le_succ _) [Value.slice za gs.1.length zc, .int .i64 gs.2].toArray
  have k9 : Blk k9X w3.heap.size 30 (txc gx) := by rw [← hX]; exact (kN5.row (txc gx)).rowO _ (by omega)
  have k10 : Blk k9X (w3.heap.size + 1) 45 [Value.slice za gs.1.length zc, .int .i64 gs.2] := by rw [← hX]; exact kN6b.row [Value.slice za gs.1.length zc, .int .i64 gs.2]
  clear hX kN5 kN6 kN6b hb0
  have lk3n := k3n.lt
  replace k3n := k3n.below hbX k3n.lt
  have lk5n := k5n.lt
  replace k5n := k5n.below hbX k5n.lt
  have lk6n := k6n.lt
  replace k6n := k6n.below hbX k6n.lt
  have lk8 := k8.lt
  replace k8 := k8.below hbX k8.lt
  replace hsv3 := bslU hsv3 hbX
  replace hvz := bslU hvz hbX
  replace hB5 := chain hB5 hbX
  replace hO := hO.below hbX
  clear hbX
  generalize w3.heap.size = k9B at *
  clear HRO HGR hsv3 hvz
  refine wp_region_held_drew (S := fun W => Below k9X.drew.heap.size k9X.drew W) hmx (Below.refl _ _) ?_
  intro hS
  replace k3n : Blk k9X.drew _ _ _ := k3n
  replace k5n : Blk k9X.drew _ _ _ := k5n
  replace k6n : Blk k9X.drew _ _ _ := k6n
  replace k8 : Blk k9X.drew _ _ _ := k8
  replace k9 : Blk k9X.drew _ _ _ := k9
  replace k10 : Blk k9X.drew _ _ _ := k10
  replace hO := hO.below (Below.refl _ k9X).drew
  have hB := hB5.drew
  clear hB5
  generalize k9X.drew = Y at *
  refine' wpAnyH_take (i := 0) (oi := _) (v := txv noT) ?hi65 (by kernel_rfl) (by kernel_rfl) (by kernel_rfl) ?hQ65 (Or.inl ⟨?hw65, ?hy65⟩) hS ?rest65
  case hi65 => simp only [List.getElem?_toArray, List.getElem?_cons_zero]; rfl
  case hQ65 => exact fun _ _ _ h => h
  case hw65 => rfl
  case hy65 => exact fun W' hS' => exec_load 30 (.tmp 3) rfl _ W' (load_tx (k3n.below hS' k3n.lt))
  try simp only [Act.put, List.setIfInBounds_toArray, List.set_cons_zero, List.set_cons_succ]
  refine' wpAnyH_take (i := 1) (oi := _) (v := txv noT) ?hi66 (by kernel_rfl) (by kernel_rfl) (by kernel_rfl) ?hQ66 (Or.inl ⟨?hw66, ?hy66⟩) hS ?rest66
  case hi66 => simp only [List.getElem?_toArray, List.getElem?_cons_succ, List.getElem?_cons_zero]; rfl
  case hQ66 => exact fun _ _ _ h => h
  case hw66 => rfl
  case hy66 => exact fun W' hS' => exec_load 30 (.tmp 5) rfl _ W' (load_tx (k5n.below hS' k5n.lt))
  try simp only [Act.put, List.setIfInBounds_toArray, List.set_cons_zero, List.set_cons_succ]
  refine' wpAnyH_take (i := 2) (oi := _) (v := .bool true) ?hi67 (by kernel_rfl) (by kernel_rfl) (by kernel_rfl) ?hQ67 (Or.inl ⟨?hw67, ?hy67⟩) hS ?rest67
  case hi67 => simp only [List.getElem?_toArray, List.getElem?_cons_succ, List.getElem?_cons_zero]; rfl
  case hQ67 => exact fun _ _ _ h => h
  case hw67 => rfl
  case hy67 => exact fun W' hS' => exec_eqS (.tmp 44) (.tmp 45) _ rfl noT rfl rfl W'
  try simp only [Act.put, List.setIfInBounds_toArray, List.set_cons_zero, List.set_cons_succ]
  refine' wpAnyH_take (i := 3) (oi := _) (v := _) ?hi68 (by kernel_rfl) (by kernel_rfl) (by kernel_rfl) ?hQ68 (Or.inl ⟨?hw68, ?hy68⟩) hS ?rest68
  case hi68 => simp only [List.getElem?_toArray, List.getElem?_cons_succ, List.getElem?_cons_zero]; rfl
  case hQ68 => exact fun _ _ _ h => h
  case hw68 => rfl
  case hy68 => intro W' hS'; go_simp; with_reducible rfl
  try simp only [Act.put, List.setIfInBounds_toArray, List.set_cons_zero, List.set_cons_succ]
  refine' wpAnyH_take (i := 4) (oi := _) (v := _) ?hi69 (by kernel_rfl) (by kernel_rfl) (by kernel_rfl) ?hQ69 (Or.inl ⟨?hw69, ?hy69⟩) hS ?rest69
  case hi69 => simp only [List.getElem?_toArray, List.getElem?_cons_succ, List.getElem?_cons_zero]; rfl
  case hQ69 => exact fun _ _ _ h => h
  case hw69 => rfl
  case hy69 => intro W' hS'; go_simp; with_reducible rfl
  try simp only [Act.put, List.setIfInBounds_toArray, List.set_cons_zero, List.set_cons_succ]
  refine' wpAnyH_take (i := 6) (oi := _) (v := _) ?hi70 (by kernel_rfl) (by kernel_rfl) (by kernel_rfl) ?hQ70 (Or.inl ⟨?hw70, ?hy70⟩) hS ?rest70
  case hi70 => simp only [List.getElem?_toArray, List.getElem?_cons_succ, List.getElem?_cons_zero]; rfl
  case hQ70 => exact fun _ _ _ h => h
  case hw70 => rfl
  case hy70 => intro W' hS'; go_simp; with_reducible rfl
  try simp only [Act.put, List.setIfInBounds_toArray, List.set_cons_zero, List.set_cons_succ]
  refine' wpAnyH_take (i := 7) (oi := _) (v := _) ?hi71 (by kernel_rfl) (by kernel_rfl) (by kernel_rfl) ?hQ71 (Or.inl ⟨?hw71, ?hy71⟩) hS ?rest71
  case hi71 => simp only [List.getElem?_toArray, List.getElem?_cons_succ, List.getElem?_cons_zero]; rfl
  case hQ71 => exact fun _ _ _ h => h
  case hw71 => rfl
  case hy71 => intro W' hS'; obtain ⟨a0, a1⟩ := Blk.c2 (k6n.below hS' k6n.lt); go_simp; with_reducible rfl
  try simp only [Act.put, List.setIfInBounds_toArray, List.set_cons_zero, List.set_cons_succ]
  refine wpAnyH_ready (rs := [5]) (by kernel_rfl) (by simp) ?_
  refine' AllReadyH.cons (o := _) ?ho72 (fun K hK => ?st72) AllReadyH.nil
  case ho72 => simp only [List.getElem?_toArray, List.getElem?_cons_succ, List.getElem?_cons_zero]; rfl
  case st72 =>
    go_simp
    refine (txsNum_any _ _).mono ?_
    rintro e Y1 ⟨rfl, rfl⟩
    refine hK.out _ _ hS (fun hS => ?_)
    clear hK K
    try simp only [Act.put, List.setIfInBounds_toArray, List.set_cons_zero, List.set_cons_succ]
    refine' wpAnyH_take (i := 8) (oi := _) (v := _) ?hi73 (by kernel_rfl) (by kernel_rfl) (by kernel_rfl) ?hQ73 (Or.inl ⟨?hw73, ?hy73⟩) hS ?rest73
    case hi73 => simp only [List.getElem?_toArray, List.getElem?_cons_succ, List.getElem?_cons_zero]; rfl
    case hQ73 => exact fun _ _ _ h => h
    case hw73 => rfl
    case hy73 => intro W' hS'; go_simp; with_reducible rfl
    try simp only [Act.put, List.setIfInBounds_toArray, List.set_cons_zero, List.set_cons_succ]
    refine' wpAnyH_take (i := 9) (oi := _) (v := _) ?hi74 (by kernel_rfl) (by kernel_rfl) (by kernel_rfl) ?hQ74 (Or.inl ⟨?hw74, ?hy74⟩) hS ?rest74
    case hi74 => simp only [List.getElem?_toArray, List.getElem?_cons_succ, List.getElem?_cons_zero]; rfl
    case hQ74 => exact fun _ _ _ h => h
    case hw74 => rfl
    case hy74 => intro W' hS'; go_simp; with_reducible rfl
    try simp only [Act.put, List.setIfInBounds_toArray, List.set_cons_zero, List.set_cons_succ]
    refine' wpAnyH_take (i := 10) (oi := _) (v := _) ?hi75 (by kernel_rfl) (by kernel_rfl) (by kernel_rfl) ?hQ75 (Or.inl ⟨?hw75, ?hy75⟩) hS ?rest75
    case hi75 => simp only [List.getElem?_toArray, List.getElem?_cons_succ, List.getElem?_cons_zero]; rfl
    case hQ75 => exact fun _ _ _ h => h
    case hw75 => rfl
    case hy75 => intro W' hS'; go_simp; with_reducible rfl
    try simp only [Act.put, List.setIfInBounds_toArray, List.set_cons_zero, List.set_cons_succ]
    refine' wpAnyH_take (i := 11) (oi := _) (v := txv gx) ?hi76 (by kernel_rfl) (by kernel_rfl) (by kernel_rfl) ?hQ76 (Or.inl ⟨?hw76, ?hy76⟩) hS ?rest76
    case hi76 => simp only [List.getElem?_toArray, List.getElem?_cons_succ, List.getElem?_cons_zero]; rfl
    case hQ76 => exact fun _ _ _ h => h
    case hw76 => rfl
    case hy76 => exact fun W' hS' => exec_load 30 (.tmp 8) rfl _ W' (load_tx (k8.below hS' k8.lt))
    try simp only [Act.put, List.setIfInBounds_toArray, List.set_cons_zero, List.set_cons_succ]
    refine' wpAnyH_take (i := 12) (oi := _) (v := txv gx) ?hi77 (by kernel_rfl) (by kernel_rfl) (by kernel_rfl) ?hQ77 (Or.inl ⟨?hw77, ?hy77⟩) hS ?rest77
    case hi77 => simp only [List.getElem?_toArray, List.getElem?_cons_succ, List.getElem?_cons_zero]; rfl
    case hQ77 => exact fun _ _ _ h => h
    case hw77 => rfl
    case hy77 => exact fun W' hS' => exec_load 30 (.tmp 9) rfl _ W' (load_tx (k9.below hS' k9.lt))
    try simp only [Act.put, List.setIfInBounds_toArray, List.set_cons_zero, List.set_cons_succ]
    refine' wpAnyH_take (i := 13) (oi := _) (v := .bool true) ?hi78 (by kernel_rfl) (by kernel_rfl) (by kernel_rfl) ?hQ78 (Or.inl ⟨?hw78, ?hy78⟩) hS ?rest78
    case hi78 => simp only [List.getElem?_toArray, List.getElem?_cons_succ, List.getElem?_cons_zero]; rfl
    case hQ78 => exact fun _ _ _ h => h
    case hw78 => rfl
    case hy78 => exact fun W' hS' => exec_eqS (.tmp 55) (.tmp 56) _ rfl gx rfl rfl W'
    try simp only [Act.put, List.setIfInBounds_toArray, List.set_cons_zero, List.set_cons_succ]
    refine' wpAnyH_take (i := 14) (oi := _) (v := _) ?hi79 (by kernel_rfl) (by kernel_rfl) (by kernel_rfl) ?hQ79 (Or.inl ⟨?hw79, ?hy79⟩) hS ?rest79
    case hi79 => simp only [List.getElem?_toArray, List.getElem?_cons_succ, List.getElem?_cons_zero]; rfl
    case hQ79 => exact fun _ _ _ h => h
    case hw79 => rfl
    case hy79 => intro W' hS'; go_simp; with_reducible rfl
    try simp only [Act.put, List.setIfInBounds_toArray, List.set_cons_zero, List.set_cons_succ]
    refine' wpAnyH_take (i := 15) (oi := _) (v := _) ?hi80 (by kernel_rfl) (by kernel_rfl) (by kernel_rfl) ?hQ80 (Or.inl ⟨?hw80, ?hy80⟩) hS ?rest80
    case hi80 => simp only [List.getElem?_toArray, List.getElem?_cons_succ, List.getElem?_cons_zero]; rfl
    case hQ80 => exact fun _ _ _ h => h
    case hw80 => rfl
    case hy80 => intro W' hS'; go_simp; with_reducible rfl
    try simp only [Act.put, List.setIfInBounds_toArray, List.set_cons_zero, List.set_cons_succ]
    refine' wpAnyH_take (i := 16) (oi := _) (v := _) ?hi81 (by kernel_rfl) (by kernel_rfl) (by kernel_rfl) ?hQ81 (Or.inl ⟨?hw81, ?hy81⟩) hS ?rest81
    case hi81 => simp only [List.getElem?_toArray, List.getElem?_cons_succ, List.getElem?_cons_zero]; rfl
    case hQ81 => exact fun _ _ _ h => h
    case hw81 => rfl
    case hy81 => intro W' hS'; go_simp; with_reducible rfl
    try simp only [Act.put, List.setIfInBounds_toArray, List.set_cons_zero, List.set_cons_succ]
    refine' wpAnyH_take (i := 19) (oi := _) (v := _) ?hi82 (by kernel_rfl) (by kernel_rfl) (by kernel_rfl) ?hQ82 (Or.inl ⟨?hw82, ?hy82⟩) hS ?rest82
    case hi82 => simp only [List.getElem?_toArray, List.getElem?_cons_succ, List.getElem?_cons_zero]; rfl
    case hQ82 => exact fun _ _ _ h => h
    case hw82 => rfl
    case hy82 => intro W' hS'; go_simp; with_reducible rfl
    try simp only [Act.put, List.setIfInBounds_toArray, List.set_cons_zero, List.set_cons_succ]
    refine' wpAnyH_take (i := 20) (oi := _) (v := _) ?hi83 (by kernel_rfl) (by kernel_rfl) (by kernel_rfl) ?hQ83 (Or.inl ⟨?hw83, ?hy83⟩) hS ?rest83
    case hi83 => simp only [List.getElem?_toArray, List.getElem?_cons_succ, List.getElem?_cons_zero]; rfl
    case hQ83 => exact fun _ _ _ h => h
    case hw83 => rfl
    case hy83 => intro W' hS'; obtain ⟨a0, a1⟩ := Blk.c2 (k10.below hS' k10.lt); go_simp; with_reducible rfl
    try simp only [Act.put, List.setIfInBounds_toArray, List.set_cons_zero, List.set_cons_succ]
    refine wpAnyH_ready (rs := [17]) (by kernel_rfl) (by simp) ?_
    refine' AllReadyH.cons (o := _) ?ho84 (fun K hK => ?st84) AllReadyH.nil
    case ho84 => simp only [List.getElem?_toArray, List.getElem?_cons_succ, List.getElem?_cons_zero]; rfl
    case st84 =>
      go_simp
      refine (inErr_any _ hO).mono ?_
      rintro e Y1 ⟨rfl, rfl⟩
      refine hK.out _ _ hS (fun hS => ?_)
      clear hK K
      try simp only [Act.put, List.setIfInBounds_toArray, List.set_cons_zero, List.set_cons_succ]
      refine wpAnyH_ready (rs := [18]) (by kernel_rfl) (by simp) ?_
      refine' AllReadyH.cons (o := _) ?ho85 (fun K hK => ?st85) AllReadyH.nil
      case ho85 => simp only [List.getElem?_toArray, List.getElem?_cons_succ, List.getElem?_cons_zero]; rfl
      case st85 =>
        go_simp
        refine (txsNum_any _ _).mono ?_
        rintro e Y1 ⟨rfl, rfl⟩
        refine hK.out _ _ hS (fun hS => ?_)
        clear hK K
        try simp only [Act.put, List.setIfInBounds_toArray, List.set_cons_zero, List.set_cons_succ]
        refine' wpAnyH_take (i := 21) (oi := _) (v := _) ?hi86 (by kernel_rfl) (by kernel_rfl) (by kernel_rfl) ?hQ86 (Or.inl ⟨?hw86, ?hy86⟩) hS ?rest86
        case hi86 => simp only [List.getElem?_toArray, List.getElem?_cons_succ, List.getElem?_cons_zero]; rfl
        case hQ86 => exact fun _ _ _ h => h
        case hw86 => rfl
        case hy86 => intro W' hS'; go_simp; with_reducible rfl
        try simp only [Act.put, List.setIfInBounds_toArray, List.set_cons_zero, List.set_cons_succ]
        refine' wpAnyH_take (i := 22) (oi := _) (v := _) ?hi87 (by kernel_rfl) (by kernel_rfl) (by kernel_rfl) ?hQ87 (Or.inl ⟨?hw87, ?hy87⟩) hS ?rest87
        case hi87 => simp only [List.getElem?_toArray, List.getElem?_cons_succ, List.getElem?_cons_zero]; rfl
        case hQ87 => exact fun _ _ _ h => h
        case hw87 => rfl
        case hy87 => intro W' hS'; go_simp; with_reducible rfl
        try simp only [Act.put, List.setIfInBounds_toArray, List.set_cons_zero, List.set_cons_succ]
        refine' wpAnyH_take (i := 23) (oi := _) (v := _) ?hi88 (by kernel_rfl) (by kernel_rfl) (by kernel_rfl) ?hQ88 (Or.inl ⟨?hw88, ?hy88⟩) hS ?rest88
        case hi88 => simp only [List.getElem?_toArray, List.getElem?_cons_succ, List.getElem?_cons_zero]; rfl
        case hQ88 => exact fun _ _ _ h => h
        case hw88 => rfl
        case hy88 => intro W' hS'; go_simp; with_reducible rfl
        try simp only [Act.put, List.setIfInBounds_toArray, List.set_cons_zero, List.set_cons_succ]
        refine' wpAnyH_take (i := 24) (oi := _) (v := _) ?hi89 (by kernel_rfl) (by kernel_rfl) (by kernel_rfl) ?hQ89 (Or.inl ⟨?hw89, ?hy89⟩) hS ?rest89
        case hi89 => simp only [List.getElem?_toArray, List.getElem?_cons_succ, List.getElem?_cons_zero]; rfl
        case hQ89 => exact fun _ _ _ h => h
        case hw89 => rfl
        case hy89 => intro W' hS'; go_simp; with_reducible rfl
        try simp only [Act.put, List.setIfInBounds_toArray, List.set_cons_zero, List.set_cons_succ]
        refine' wpAnyH_take (i := 26) (oi := _) (v := _) ?hi90 (by kernel_rfl) (by kernel_rfl) (by kernel_rfl) ?hQ90 (Or.inl ⟨?hw90, ?hy90⟩) hS ?rest90
        case hi90 => simp only [List.getElem?_toArray, List.getElem?_cons_succ, List.getElem?_cons_zero]; rfl
        case hQ90 => exact fun _ _ _ h => h
        case hw90 => rfl
        case hy90 => intro W' hS'; go_simp; with_reducible rfl
        try simp only [Act.put, List.setIfInBounds_toArray, List.set_cons_zero, List.set_cons_succ]
        refine' wpAnyH_take (i := 27) (oi := _) (v := _) ?hi91 (by kernel_rfl) (by kernel_rfl) (by kernel_rfl) ?hQ91 (Or.inl ⟨?hw91, ?hy91⟩) hS ?rest91
        case hi91 => simp only [List.getElem?_toArray, List.getElem?_cons_succ, List.getElem?_cons_zero]; rfl
        case hQ91 => exact fun _ _ _ h => h
        case hw91 => rfl
        case hy91 => intro W' hS'; obtain ⟨a0, a1⟩ := Blk.c2 (k10.below hS' k10.lt); go_simp; with_reducible rfl
        try simp only [Act.put, List.setIfInBounds_toArray, List.set_cons_zero, List.set_cons_succ]
        refine' wpAnyH_take (i := 28) (oi := _) (v := _) ?hi92 (by kernel_rfl) (by kernel_rfl) (by kernel_rfl) ?hQ92 (Or.inl ⟨?hw92, ?hy92⟩) hS ?rest92
        case hi92 => simp only [List.getElem?_toArray, List.getElem?_cons_succ, List.getElem?_cons_zero]; rfl
        case hQ92 => exact fun _ _ _ h => h
        case hw92 => rfl
        case hy92 => intro W' hS'; go_simp; with_reducible rfl
        try simp only [Act.put, List.setIfInBounds_toArray, List.set_cons_zero, List.set_cons_succ]
        refine wpAnyH_ready (rs := [25]) (by kernel_rfl) (by simp) ?_
        refine' AllReadyH.cons (o := _) ?ho93 (fun K hK => ?st93) AllReadyH.nil
        case ho93 => simp only [List.getElem?_toArray, List.getElem?_cons_succ, List.getElem?_cons_zero]; rfl
        case st93 =>
          go_simp
          refine (inLeft_any _ hO).mono ?_
          rintro e Y1 ⟨rfl, rfl⟩
          refine hK.out _ _ hS (fun hS => ?_)
          clear hK K
          try simp only [Act.put, List.setIfInBounds_toArray, List.set_cons_zero, List.set_cons_succ]
          refine' wpAnyH_take (i := 29) (oi := _) (v := _) ?hi94 (by kernel_rfl) (by kernel_rfl) (by kernel_rfl) ?hQ94 (Or.inl ⟨?hw94, ?hy94⟩) hS ?rest94
          case hi94 => simp only [List.getElem?_toArray, List.getElem?_cons_succ, List.getElem?_cons_zero]; rfl
          case hQ94 => exact fun _ _ _ h => h
          case hw94 => rfl
          case hy94 => intro W' hS'; go_simp; with_reducible rfl
          try simp only [Act.put, List.setIfInBounds_toArray, List.set_cons_zero, List.set_cons_succ]
          refine' wpAnyH_take (i := 30) (oi := _) (v := _) ?hi95 (by kernel_rfl) (by kernel_rfl) (by kernel_rfl) ?hQ95 (Or.inl ⟨?hw95, ?hy95⟩) hS ?rest95
          case hi95 => simp only [List.getElem?_toArray, List.getElem?_cons_succ, List.getElem?_cons_zero]; rfl
          case hQ95 => exact fun _ _ _ h => h
          case hw95 => rfl
          case hy95 => intro W' hS'; go_simp; with_reducible rfl
          try simp only [Act.put, List.setIfInBounds_toArray, List.set_cons_zero, List.set_cons_succ]
          refine' wpAnyH_take (i := 31) (oi := _) (v := _) ?hi96 (by kernel_rfl) (by kernel_rfl) (by kernel_rfl) ?hQ96 (Or.inl ⟨?hw96, ?hy96⟩) hS ?rest96
          case hi96 => simp only [List.getElem?_toArray, List.getElem?_cons_succ, List.getElem?_cons_zero]; rfl
          case hQ96 => exact fun _ _ _ h => h
          case hw96 => rfl
          case hy96 => intro W' hS'; go_simp; with_reducible rfl
          try simp only [Act.put, List.setIfInBounds_toArray, List.set_cons_zero, List.set_cons_succ]
          refine wpAnyH_done (by kernel_rfl) ?_ _
          go_wp2_with fail
          go_ret
          exact ⟨rfl, chain hB hS⟩
theorem txsReads_any (l : List UInt8) (sv : Value) (w : World) (hl : l.length ≤ 140737488351232) (hsv : BSl 0 w.heap.size w sv l) :
    Calls Try.prog 4 #[sv] w fun e W' => e = .returned (.bool true) ∧ Below w.heap.size w W' := by
  obtain ⟨gx, gs, hgt⟩ : ∃ gx gs, getT (openS l) = (gx, gs) := ⟨_, _, rfl⟩
  have hok : OkS gs := by have := okS_getT (openS_ok l); rw [hgt] at this; exact this
  by_cases he : gs.2 = 0
  · by_cases hn : gs.1 = []
    · exact txsReads_ok l hgt he hn sv w hl hsv
    · exact txsReads_left l hgt hn sv w hl hsv
  · exact txsReads_bad l hgt he (hok.1 he) sv w hl hsv
end Go.Proofs.Ytafcngnophlhgaa

namespace Go.Proofs.Ytafcngnophlhgaa
open Go.ChangeShapes Go.WideShapes Go.ChangeAt Go.RowKit Go.Deep
open Go.ChangeMaps (open_string)

set_option maxRecDepth 100000 in
theorem txsReads_lifted (os : Os) (started : os.Started) (H : Type) (enc : TypeId × Value → H) :
    ReturnsInHanded {} Try.checked os 4 .any (Rows.txsReadsSpec.pre6 enc Try.prog Try.f4 Rows.txsReadsRow.domain false) (Rows.txsReadsSpec.post enc Try.prog Try.f4 false true false false) := by
  refine returnsInHanded_of_change_sized (C := Try.checked) Try.own started (by kernel_rfl) Try.func4
    (ChangeSpec.witness6 (enc := enc) (C := Try.checked) false ⟨#[], #[.slice none 0 0], []⟩ 8 (by kernel_rfl) (by kernel_rfl) (by kernel_rfl) (by kernel_rfl)) ?_
  intro W base args ds gs before hval0 hW hcnd hsz0 _
  have hval : ∀ (j : Nat) t v, Try.f4.params[j]? = some t → args[j]? = some v → Value.okWide Try.prog W .any base t v := hval0
  have hW' := hW
  obtain ⟨p, q, hA0, hV, rfl, hfz, hnd⟩ := hW
  have hA : DataW.TrodAll enc Try.prog W 0 (fun _ => true) true Try.f4.params.toList args.toList ds p := hA0
  have hsz : (DataW.weightsEach Try.prog (Try.f4.params.toList ++ Rows.txsReadsSpec.plain.varTypes Try.prog) (ds ++ gs)).all (· ≤ reachBytes) = true := hsz0
  rw [Try.params4] at hA hval hsz
  obtain ⟨v0, d0, rfl, rfl, h0⟩ := trodAll_one hA
  obtain ⟨rfl, rfl⟩ := trodVars_none hV
  obtain ⟨a0, len0, cap0, rfl⟩ := okWide_slice Try.underlying31 (hval 0 31 v0 rfl rfl)
  have k0 := h0
  have lt0 : ∀ x ∈ p, x.block < W.heap.size := by obtain ⟨m, hm⟩ := k0; exact DataW.trod_lt m _ _ _ hm
  obtain ⟨l0, rfl, hsl0, hd0⟩ := open_bytes h0
  have hreach0 : l0.length ≤ 140737488351232 := by
    rcases hd0 with rfl | ⟨el, sp, rfl, hel⟩
    · simp
    · have := sized_slice hsz (j := 0) (t := 31) (e := 5) rfl rfl Try.underlying31
      rw [Try.bytes8] at this
      simp only [reachBytes] at this
      omega
  clear hA0 hval0
  refine (txsReads_any l0 _ W hreach0 hsl0).mono fun e W' ⟨he, bel⟩ => ?_
  subst he
  exact ⟨_, rfl, _, _, _, [], _, [], hW', trodAll_mk1 (shut_bool Try.underlying4 _), (trodAll_mk1 (Below.trod Try.laidOut (by kernel_rfl) (of_decide_eq_true (by kernel_rfl)) k0 bel lt0)), rfl, bel.frame _, fun h => by cases h⟩

theorem txsReads_over : Rows.txsReadsRow.holds Try.pinned (OpenSpec.ofChange Rows.txsReadsSpec) :=
  OpenClaim.holds_of_wide 4 Try.f4 rfl rfl rfl rfl rfl rfl rfl ⟨rfl, rfl, rfl, rfl, rfl⟩ rfl rfl rfl rfl rfl (by kernel_rfl) Try.func4 (by kernel_rfl)
    (of_decide_eq_true (by kernel_rfl)) (by unfold Func.isWrapper; first | (rw [if_pos (by decide +kernel)]; kernel_rfl) | (rw [if_neg (by decide +kernel)]; exact ⟨rfl, rfl⟩))
    (fun os started H enc _ => txsReads_lifted os started H enc)

/-- The statement. -/
theorem txsReads_proved : Rows.TxsReadsSaid := txsReads_over
end Go.Proofs.Ytafcngnophlhgaa
