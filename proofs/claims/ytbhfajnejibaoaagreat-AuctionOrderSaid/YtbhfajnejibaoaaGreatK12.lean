/-
  The reference's rows, root, path; The reference's Verify; What Verify tells, and the reference's, as one plain function; Whether a bid is valid: bid's Valid, and the reference's; A room: the best bid; a room is made, an ask is opened, a bid is kept
-/
import Derived.Outline
import Derived.Lib.AppendZeros
import Derived.Test.YtbhfajnejibaoaaGreatK11
namespace Go.Proofs.YtbhfajnejibaoaaGreat
open Go.RowKit Go.Shelf
theorem joinM_of (a b : ByteArray) : joinM a b = shortB (a ++ b).data.toList := by
  unfold joinM
  congr 1
end Go.Proofs.YtbhfajnejibaoaaGreat
namespace Go.Proofs.YtbhfajnejibaoaaGreat
open Go.RowKit Go.Shelf
theorem pieceB_of {g : ByteArray} {k : Nat} (h : 9 + 8 * k ≤ g.size) : pieceB g k = g.extract (1 + 8 * k) (9 + 8 * k) := by
  unfold pieceB
  apply ByteArray.ext
  apply Array.toList_inj.1
  simp only [ByteArray.data_extract, Array.toList_extract, List.extract_eq_take_drop]
  have h' : g.data.size = g.size := rfl
  rw [Nat.mul_comm k 8, List.drop_zero, List.take_take]
  congr 1
  omega
theorem drop_getD (zs : List ByteArray) {i k : Nat} (h : i + k < zs.length) : zs[i + k]? = some ((zs.drop i).getD k ⟨#[]⟩) := by
  rw [List.getD, List.getElem?_drop, List.getElem?_eq_getElem h]
  rfl
set_option maxRecDepth 100000 in
set_option maxHeartbeats 2000000 in
theorem refVerify_long (root : ByteArray) (tx : Value) (g : ByteArray) (hg : g.size ≠ 145) (w : World) :
    Calls Tryz.prog 28 #[.string root, tx, .string g] w (VerW 0 false w) := by
  have h1 : ((g.size : Int) == 145) = false := by simp; omega
  have h2 : ((g.size : Int) != 145) = true := by simp; omega
  go_enter Tryz.func28, Tryz.ntmps28
  go_wp2_with fail
  go_ret2
  exact ⟨rfl, Below.refl _ _⟩
theorem leafN_of {g : ByteArray} (h : 0 < g.size) : leafN g = (g[0]'h).toNat := by unfold leafN; rw [dif_pos h]
set_option maxRecDepth 100000 in
set_option maxHeartbeats 2000000 in
theorem refVerify_leaf (root : ByteArray) (tx : Value) (g : ByteArray) (hg : g.size = 145) (h8 : 8 ≤ leafN g) (w : World) :
    Calls Tryz.prog 28 #[.string root, tx, .string g] w (VerW 0 false w) := by
  have h1 : ((g.size : Int) == 145) = true := by simp; omega
  have h2 : ((g.size : Int) != 145) = false := by simp; omega
  have h0 : 0 < g.size := by omega
  rw [leafN_of h0] at h8
  have h3 : 7 < (g[0].toNat : Int) := by omega
  clear hg h8
  go_enter Tryz.func28, Tryz.ntmps28
  go_wp2_with fail
  go_ret2
  exact ⟨rfl, Below.refl _ _⟩
set_option maxRecDepth 100000 in
set_option maxHeartbeats 8000000 in
theorem refVerify_top (root : ByteArray) (l : List UInt8) (tx : Value) (g : ByteArray) (hg : g.size = 145) (h8 : leafN g < 8) (w : World) (hreach : l.length ≤ 140737488353000) (htx : BSl 0 w.heap.size w tx l) (b : Bool) (hb : b = true ↔ topB l g = root) :
    Calls Tryz.prog 28 #[.string root, tx, .string g] w (VerW (verN g b) b w) := by
  have hmx : Tryz.prog.follows .mixedOrders = true := by kernel_rfl
  obtain ⟨i0, hi, hz0, hz1, hz2⟩ := info_parts Tryz.infoStr
  have h1 : ((g.size : Int) == 145) = true := by simp; omega
  have h2 : ((g.size : Int) != 145) = false := by simp; omega
  have h0 : 0 < g.size := by omega
  have hLf := Lib.hid (leafN_of h0)
  have h3 : ¬ 7 < (g[0].toNat : Int) := by rw [leafN_of h0] at h8; omega
  have h60 : (g[0].toNat : Int) ≤ 255 := by have := g[0].toNat_lt; omega
  have HG := Lib.hid hg
  have H8 := Lib.hid h8
  have HZ := Lib.hid (fun x (h : x ∈ cutL g) => cutL_size hg h)
  have HT : Hid (topB l g = climbB (leafN g) ((cutL g).drop 15) (openB l ((cutL g).take 15)) 3) := Lib.hid rfl
  have HB := Lib.hid hb
  have HCL : Hid (cutL g = upto (pieceB g) 18) := Lib.hid rfl
  have htx0 := htx
  obtain ⟨ta, tc, rfl⟩ := bsl_slice htx
  have hg' : g.size ≤ 145 := by omega
  have hg2 : 145 ≤ g.size := by omega
  clear hg h8 htx hb
  go_enter Tryz.func28, Tryz.ntmps28
  go_wp2_with fail
  go_loopw [8, 9] (fun v i wr => ∃ k : Nat, k ≤ 18 ∧ i = .int .i64 (k : Nat) ∧ wr.ownsRow w.heap.size 9 1 v k ((upto (pieceB g) k).map tv) ∧ Below w.heap.size w wr) (fun _ i _ => 18 - (intOf i).toNat)
  case atStart => exact ⟨0, by omega, rfl, World.ownsRow_nil _ _ _ _, Below.refl _ _⟩
  case round =>
    obtain ⟨k, hk, rfl, hown, hB⟩ := hrel
    obtain ⟨va, vc, rfl⟩ := ownsRow_slice hown
    have hNW := hB.size
    by_cases hlt : k < 18
    · have HTT := Lib.hid (upto_snoc (pieceB g) k tv)
      have HP := Lib.hid (pieceB_of (g := g) (k := k) (by omega))
      have hlt' : (k : Int) < 18 := by omega
      have HLT := Lib.hid hlt
      clear hlt hk
      generalize (upto (pieceB g) k).map tv = ts at *
      go_wp2_with (at_builtin; refine wpList_append_own _ rfl _ _ 26 rfl w.heap.size 9 i0 (.string ⟨#[]⟩) 1 16 Tryz.underlying26 hi hz0 hz1 hz2 rfl (by decide) (.slice va k vc) k ts rfl (hown.alloc _) ⟨wr.heap.size, 0, none⟩ 1 1 [tv (g.extract (1 + 8 * k) (9 + 8 * k))] rfl rfl (cell_new1 _ _ _) (by simp [Value.oneCell']) (by have := HLT.out; unfold maxLen; omega) (by have := HLT.out; omega) (by simp; omega) ?_; intro v' w3 hown' hgrow _; obtain ⟨g2, c2, rfl⟩ := ownsRow_succ hown')
      have hB3 : Below w.heap.size w w3 := (hB.alloc hNW _).grown hgrow (Nat.le_trans hNW (by simp)) (fun j hj => (World.ownsRow.lt hown j hj).1)
      go_roundw
      case rel => exact ⟨k + 1, HLT.out, by simp, by rw [HTT.out, HP.out]; exact hown', hB3⟩
      case measure => have := HLT.out; simp [intOf]; omega
    · obtain rfl : k = 18 := by omega
      rw [← HCL.out] at hown
      clear hlt hk
      obtain ⟨q, c, e, hq, hx⟩ := textRow (n := 17) (zs := cutL g) (cutL_length g) hown
      have hc : 18 ≤ vc := by
        obtain ⟨_, h0 | ⟨g', cap', cur', e', _, _, hnc, _⟩⟩ := hown
        · exact absurd h0.2 (by decide)
        · cases e'; exact hnc
      cases e
      have HX := Lib.hid hx
      have hc1 : ¬ vc < 15 := by omega
      have hci : (15 : Int) ≤ (vc : Int) := by omega
      have htx2 := (htx0.below hB (Nat.le_refl _)).mono (Nat.le_refl _) hB.size
      have hV15 := partV 0 15 vc (by rw [cutL_length]; omega) (by omega) hq HX.out
      have h15 : (((cutL g).drop 0).take 15) = (cutL g).take 15 := rfl
      rw [h15] at hV15
      have hz15 : ∀ x ∈ (cutL g).take 15, x.size ≤ 9223372036854775807 := fun x hx => by rw [HZ.out x (List.mem_of_mem_take hx)]; omega
      have HZ15 := Lib.hid hz15
      have hoz := openB_size l ((cutL g).take 15)
      have hp3 : ∀ k, k < 3 → (cutL g)[15 + k]? = some (((cutL g).drop 15).getD k ⟨#[]⟩) := fun k hk => drop_getD (cutL g) (by rw [cutL_length]; omega)
      have hx3 : ∀ k, k < 3 → wr.cell? ⟨q, 15 + k, none⟩ = some (.string (((cutL g).drop 15).getD k ⟨#[]⟩)) := fun k hk => HX.out (15 + k) _ (hp3 k hk)
      have hs3 : ∀ k, k < 3 → (((cutL g).drop 15).getD k ⟨#[]⟩).size ≤ 8 := fun k hk => Nat.le_of_eq (HZ.out _ (List.mem_of_getElem? (hp3 k hk)))
      have HX3 := Lib.hid hx3
      have HS3 := Lib.hid hs3
      have HLE := Lib.hid (show leafN g ≤ 255 from leafN_le g)
      clear h15 hz15 hp3 hx3 hs3 hown hx htx0
      generalize (cutL g).take 15 = p15 at *
      generalize (cutL g).drop 15 = p3 at *
      go_wp2_with fail
      refine wp_region_held_drew (S := fun W => Below wr.heap.size wr W) hmx (Below.refl _ wr).drew ?_
      intro hS
      generalize wr.drew = Y at *
      refine' wpAnyH_take (i := 0) (oi := _) (v := _) ?hi1 (by kernel_rfl) (by kernel_rfl) (by kernel_rfl) ?hQ1 (Or.inl ⟨?hw1, ?hy1⟩) hS ?rest1
      case hi1 => simp only [List.getElem?_toArray, List.getElem?_cons_zero]; rfl
      case hQ1 => exact fun _ _ _ h => h
      case hw1 => rfl
      case hy1 => intro W' hS'; go_simp; with_reducible rfl
      try simp only [Act.put, List.setIfInBounds_toArray, List.set_cons_zero, List.set_cons_succ]
      refine' wpAnyH_take (i := 1) (oi := _) (v := _) ?hi2 (by kernel_rfl) (by kernel_rfl) (by kernel_rfl) ?hQ2 (Or.inl ⟨?hw2, ?hy2⟩) hS ?rest2
      case hi2 => simp only [List.getElem?_toArray, List.getElem?_cons_succ, List.getElem?_cons_zero]; rfl
      case hQ2 => exact fun _ _ _ h => h
      case hw2 => rfl
      case hy2 => intro W' hS'; go_simp; with_reducible rfl
      try simp only [Act.put, List.setIfInBounds_toArray, List.set_cons_zero, List.set_cons_succ]
      refine' wpAnyH_take (i := 2) (oi := _) (v := _) ?hi3 (by kernel_rfl) (by kernel_rfl) (by kernel_rfl) ?hQ3 (Or.inl ⟨?hw3, ?hy3⟩) hS ?rest3
      case hi3 => simp only [List.getElem?_toArray, List.getElem?_cons_succ, List.getElem?_cons_zero]; rfl
      case hQ3 => exact fun _ _ _ h => h
      case hw3 => rfl
      case hy3 => intro W' hS'; go_simp; with_reducible rfl
      try simp only [Act.put, List.setIfInBounds_toArray, List.set_cons_zero, List.set_cons_succ]
      refine' wpAnyH_take (i := 4) (oi := _) (v := _) ?hi4 (by kernel_rfl) (by kernel_rfl) (by kernel_rfl) ?hQ4 (Or.inl ⟨?hw4, ?hy4⟩) hS ?rest4
      case hi4 => simp only [List.getElem?_toArray, List.getElem?_cons_succ, List.getElem?_cons_zero]; rfl
      case hQ4 => exact fun _ _ _ h => h
      case hw4 => rfl
      case hy4 => intro W' hS'; go_simp; with_reducible rfl
      try simp only [Act.put, List.setIfInBounds_toArray, List.set_cons_zero, List.set_cons_succ]
      refine' wpAnyH_take (i := 5) (oi := _) (v := _) ?hi5 (by kernel_rfl) (by kernel_rfl) (by kernel_rfl) ?hQ5 (Or.inl ⟨?hw5, ?hy5⟩) hS ?rest5
      case hi5 => simp only [List.getElem?_toArray, List.getElem?_cons_succ, List.getElem?_cons_zero]; rfl
      case hQ5 => exact fun _ _ _ h => h
      case hw5 => rfl
      case hy5 => intro W' hS'; go_simp; with_reducible rfl
      try simp only [Act.put, List.setIfInBounds_toArray, List.set_cons_zero, List.set_cons_succ]
      refine' wpAnyH_take (i := 6) (oi := _) (v := _) ?hi6 (by kernel_rfl) (by kernel_rfl) (by kernel_rfl) ?hQ6 (Or.inl ⟨?hw6, ?hy6⟩) hS ?rest6
      case hi6 => simp only [List.getElem?_toArray, List.getElem?_cons_succ, List.getElem?_cons_zero]; rfl
      case hQ6 => exact fun _ _ _ h => h
      case hw6 => rfl
      case hy6 => intro W' hS'; go_simp; with_reducible rfl
      try simp only [Act.put, List.setIfInBounds_toArray, List.set_cons_zero, List.set_cons_succ]
      refine wpAnyH_ready (rs := [3]) (by kernel_rfl) (by simp) ?_
      refine' AllReadyH.cons (o := _) ?ho7 (fun K hK => ?st7) AllReadyH.nil
      case ho7 => simp only [List.getElem?_toArray, List.getElem?_cons_succ, List.getElem?_cons_zero]; rfl
      case st7 =>
        go_simp
        refine (refOpen_any l _ p15 _ _ hreach ((htx2.below hS (Nat.le_refl _)).mono (Nat.le_refl _) hS.size) ((hV15.below hS (Nat.le_refl _)).mono (Nat.le_refl _) hS.size)).mono ?_
        rintro e Y1 ⟨rfl, hb⟩
        refine hK.out _ _ (hS.trans (hb.mono hS.size)) (fun hS => ?_)
        clear hK K
        try simp only [Act.put, List.setIfInBounds_toArray, List.set_cons_zero, List.set_cons_succ]
        clear hb
        refine wpAnyH_ready (rs := [7]) (by kernel_rfl) (by simp) ?_
        refine' AllReadyH.cons (o := _) ?ho8 (fun K hK => ?st8) AllReadyH.nil
        case ho8 => simp only [List.getElem?_toArray, List.getElem?_cons_succ, List.getElem?_cons_zero]; rfl
        case st8 =>
          go_simp
          refine hK.out _ _ hS (fun hS => ?_)
          clear hK K
          try simp only [Act.put, List.setIfInBounds_toArray, List.set_cons_zero, List.set_cons_succ]
          refine wpAnyH_ready (rs := [8]) (by kernel_rfl) (by simp) ?_
          refine' AllReadyH.cons (o := _) ?ho9 (fun K hK => ?st9) AllReadyH.nil
          case ho9 => simp only [List.getElem?_toArray, List.getElem?_cons_succ, List.getElem?_cons_zero]; rfl
          case st9 =>
            go_simp
            refine hK.out _ _ hS (fun hS => ?_)
            clear hK K
            try simp only [Act.put, List.setIfInBounds_toArray, List.set_cons_zero, List.set_cons_succ]
            refine wpAnyH_done (by kernel_rfl) ?_ _
            have hB1 := hB.trans (hS.mono hB.size)
            replace HX3 := Lib.hid (fun k hk => (hS.cell (p := ⟨q, 15 + k, none⟩) hq).trans (HX3.out k hk))
            have hq1 := Nat.lt_of_lt_of_le hq hS.size
            clear hS hV15 htx2 hB HX
            rw [← hLf.out]
            generalize openB l p15 = ob at *
            generalize hn : leafN g = n at *
            have HNN := Lib.hid hn
            clear hn
            go_wp2_with fail
            go_loopw [10, 11, 12] (fun v t i wr => ∃ j k : Nat, j = 15 + k ∧ k ≤ 3 ∧ i = .int .i64 (j : Nat) ∧ t = .int .i64 ((n / 2 ^ k : Nat) : Int) ∧ v = .string (climbB n p3 ob k) ∧ Below w.heap.size w wr ∧ Below Y1.heap.size Y1 wr) (fun _ _ i _ => 18 - (intOf i).toNat)
            case atStart => exact ⟨15, 0, rfl, by omega, rfl, by have e : IntKind.i64.wrap (n : Int) = (n : Int) := (by rw [IntKind.wrap_i64]; have := HLE.out; omega); simp [e], rfl, hB1, Below.refl _ _⟩
            clear hB1
            case round =>
              rename_i wr2
              obtain ⟨j, k, hj, hk, rfl, rfl, rfl, hBw, hBY⟩ := hrel
              have HJ := Lib.hid hj
              by_cases hlt : k < 3
              · have c0 := (hBY.cell (p := ⟨q, 15 + k, none⟩) hq1).trans (HX3.out k hlt)
                rw [← hj] at c0
                have hj18 : (j : Int) < 18 := by omega
                have hys := HS3.out k hlt
                have hzs := climbB_size n p3 ob k
                have hzs' : (climbB n p3 ob k).size ≤ 8 := by omega
                have hq2 : n / 2 ^ k / 2 = n / 2 ^ (k + 1) := by rw [Nat.div_div_eq_div_mul, ← Nat.pow_succ]
                have hqi : ((n / 2 ^ k : Nat) : Int) / 2 = ((n / 2 ^ (k + 1) : Nat) : Int) := by rw [← hq2]; simp
                have HQ2 := Lib.hid hqi
                have hq7 : n / 2 ^ k ≤ n := Nat.div_le_self _ _
                have hn8 := H8.out
                have hq7' : ((n / 2 ^ k : Nat) : Int) ≤ 7 := by omega
                have HLT := Lib.hid hlt
                generalize hQ : n / 2 ^ k = Q at *
                have HQ := Lib.hid hQ
                generalize hyv : p3.getD k ⟨#[]⟩ = y at *
                have HYV := Lib.hid hyv
                generalize hcz : climbB n p3 ob k = z at *
                have HCZ := Lib.hid hcz
                clear hj hk hlt hq2 hqi hq7 hn8 hzs hQ hyv hcz
                by_cases hbit : Q % 2 = 0
                · have hbit' : (((Q : Nat) : Int) % 2 == 0) = true := by rw [show ((Q : Nat) : Int) % 2 = 0 by omega]; rfl
                  have HK : Hid (climbB n p3 ob (k + 1) = joinM z y) := Lib.hid (by rw [climbB, if_pos (by rw [HQ.out]; omega), HCZ.out, HYV.out])
                  have hadd : ¬ 9223372036854775807 < z.size + y.size := by omega
                  have hle2 : z.size + y.size ≤ 16 := by omega
                  clear hbit
                  go_wp2_with fail
                  refine (refShort_any (z ++ y) (by rw [ByteArray.size_append]; omega) _).mono ?_
                  rw [← joinM_of]
                  rintro e w5 ⟨rfl, hb5⟩
                  have hB5 := hBw.trans (hb5.mono hBw.size)
                  have hY5 := hBY.trans (hb5.mono hBY.size)
                  clear hBw hBY hb5
                  go_wp2_with fail
                  go_roundw
                  case rel => exact ⟨j + 1, k + 1, by have := HJ.out; omega, by have := HLT.out; omega, by simp, by rw [HQ2.out], by rw [HK.out], hB5, hY5⟩
                  case measure => have := HLT.out; have := HJ.out; simp [intOf]; omega
                · have hbit' : (((Q : Nat) : Int) % 2 == 0) = false := by rw [show ((Q : Nat) : Int) % 2 = 1 by omega]; rfl
                  have HK : Hid (climbB n p3 ob (k + 1) = joinM y z) := Lib.hid (by rw [climbB, if_neg (by rw [HQ.out]; omega), HCZ.out, HYV.out])
                  have hadd : ¬ 9223372036854775807 < y.size + z.size := by omega
                  have hle2 : y.size + z.size ≤ 16 := by omega
                  clear hbit
                  go_wp2_with fail
                  refine (refShort_any (y ++ z) (by rw [ByteArray.size_append]; omega) _).mono ?_
                  rw [← joinM_of]
                  rintro e w5 ⟨rfl, hb5⟩
                  have hB5 := hBw.trans (hb5.mono hBw.size)
                  have hY5 := hBY.trans (hb5.mono hBY.size)
                  clear hBw hBY hb5
                  go_wp2_with fail
                  go_roundw
                  case rel => exact ⟨j + 1, k + 1, by have := HJ.out; omega, by have := HLT.out; omega, by simp, by rw [HQ2.out], by rw [HK.out], hB5, hY5⟩
                  case measure => have := HLT.out; have := HJ.out; simp [intOf]; omega
              · obtain rfl : k = 3 := by omega
                obtain rfl : j = 18 := by omega
                rw [← HT.out]
                clear hlt hk hj
                generalize topB l g = top at *
                cases b with
                | true =>
                  obtain rfl : top = root := HB.out.1 rfl
                  have he : (top.toList == top.toList) = true := by simp
                  have hv : Hid (verN g true = (n : Int)) := Lib.hid (by unfold verN; rw [if_pos rfl, HNN.out])
                  have hlf : (g[0].toNat : Int) = (n : Int) := by rw [hLf.out]
                  have HLF := Lib.hid hlf
                  clear hlf
                  go_wp2_with fail
                  go_ret2
                  exact ⟨by rw [hv.out, ← HLF.out]; rfl, hBw⟩
                | false =>
                  have he : (top.toList == root.toList) = false := by
                    rw [beq_eq_false_iff_ne]
                    intro h
                    rw [ByteArray.toList_eq, ByteArray.toList_eq] at h
                    have h2 : top = root := ByteArray.ext (Array.toList_inj.1 h)
                    exact absurd (HB.out.2 h2) (by decide)
                  have hv : Hid (verN g false = 0) := Lib.hid rfl
                  go_wp2_with fail
                  go_ret2
                  exact ⟨by rw [hv.out]; rfl, hBw⟩
end Go.Proofs.YtbhfajnejibaoaaGreat
namespace Go.Proofs.YtbhfajnejibaoaaGreat
open Go.RowKit Go.Shelf
def verB (root : ByteArray) (l : List UInt8) (g : ByteArray) : Bool := decide (g.size = 145 ∧ leafN g < 8 ∧ topB l g = root)
def VerB (b : Bool) (w : World) (e : Ending) (W' : World) : Prop := ∃ n : Int, e = .returned (.tuple #[.int .i64 n, .bool b]) ∧ Below w.heap.size w W'
theorem verifyB_any (root : ByteArray) (l : List UInt8) (tx : Value) (g : ByteArray) (hreach : l.length ≤ 140737488353000) (w : World) (htx : BSl 0 w.heap.size w tx l) :
    Calls Tryz.prog 55 #[.string root, tx, .string g] w (VerB (verB root l g) w) := by
  by_cases hg : g.size = 145
  · by_cases h8 : leafN g < 8
    · by_cases ht : topB l g = root
      · rw [show verB root l g = true from decide_eq_true ⟨hg, h8, ht⟩]
        exact (verify_top root l tx g hg h8 w hreach htx true ⟨fun _ => ht, fun _ => rfl⟩).mono fun e W' h => ⟨_, h.1, h.2⟩
      · rw [show verB root l g = false from decide_eq_false fun h => ht h.2.2]
        exact (verify_top root l tx g hg h8 w hreach htx false ⟨fun h => (by cases h), fun h => absurd h ht⟩).mono fun e W' h => ⟨_, h.1, h.2⟩
    · rw [show verB root l g = false from decide_eq_false fun h => h8 h.2.1]
      exact (verify_leaf root tx g hg (by omega) w).mono fun e W' h => ⟨_, h.1, h.2⟩
  · rw [show verB root l g = false from decide_eq_false fun h => hg h.1]
    exact (verify_long root tx g hg w).mono fun e W' h => ⟨_, h.1, h.2⟩
theorem refVerifyB_any (root : ByteArray) (l : List UInt8) (tx : Value) (g : ByteArray) (hreach : l.length ≤ 140737488353000) (w : World) (htx : BSl 0 w.heap.size w tx l) :
    Calls Tryz.prog 28 #[.string root, tx, .string g] w (VerB (verB root l g) w) := by
  by_cases hg : g.size = 145
  · by_cases h8 : leafN g < 8
    · by_cases ht : topB l g = root
      · rw [show verB root l g = true from decide_eq_true ⟨hg, h8, ht⟩]
        exact (refVerify_top root l tx g hg h8 w hreach htx true ⟨fun _ => ht, fun _ => rfl⟩).mono fun e W' h => ⟨_, h.1, h.2⟩
      · rw [show verB root l g = false from decide_eq_false fun h => ht h.2.2]
        exact (refVerify_top root l tx g hg h8 w hreach htx false ⟨fun h => (by cases h), fun h => absurd h ht⟩).mono fun e W' h => ⟨_, h.1, h.2⟩
    · rw [show verB root l g = false from decide_eq_false fun h => h8 h.2.1]
      exact (refVerify_leaf root tx g hg (by omega) w).mono fun e W' h => ⟨_, h.1, h.2⟩
  · rw [show verB root l g = false from decide_eq_false fun h => hg h.1]
    exact (refVerify_long root tx g hg w).mono fun e W' h => ⟨_, h.1, h.2⟩
end Go.Proofs.YtbhfajnejibaoaaGreat
namespace Go.Proofs.YtbhfajnejibaoaaGreat
open Go.RowKit Go.Shelf
def validB (b : Bd) (root : ByteArray) : Bool := decide (maybeB b) && verB root (textL b) b.sg
set_option maxRecDepth 100000 in
set_option maxHeartbeats 4000000 in
theorem valid8_any (b : Bd) (hb4 : OkB b) (root : ByteArray) (w : World) :
    Calls Tryz.prog 30 #[bdv b, .string root] w fun e W' => e = .returned (.bool (validB b root)) ∧ Below w.heap.size w W' := by
  have hmx : Tryz.prog.follows .mixedOrders = true := by kernel_rfl
  have HC := Lib.hid (bidCheck_any b hb4)
  have HT := Lib.hid (text8_any b hb4)
  have kB := Blk.new w 36 (bdc b)
  have hB := chain0 w (.cells (bdc b).toArray 36)
  by_cases hm : maybeB b
  · have HE := Lib.hid (errB_zero hm)
    have HV : Hid (validB b root = verB root (textL b) b.sg) := Lib.hid (by unfold validB; rw [decide_eq_true hm, Bool.true_and])
    have HL := Lib.hid (textL_len b)
    clear hm
    generalize textL b = tl at *
    have HR := Lib.hid (fun tx W (h : BSl 0 W.heap.size W tx tl) => verifyB_any root tl tx b.sg (by have := HL.out; omega) W h)
    generalize verB root tl b.sg = vb at *
    go_enter Tryz.func30, Tryz.ntmps30
    go_upto_region 3 with (first
      | (refine wpList_loadIf 36 (.tmp 2) rfl _ rfl rfl (bdv b) (load_bid kB) ?_)
      | (go_at_call 54; refine (HC.out _).mono ?_; rw [HE.out]; rintro e W1 ⟨rfl, hb1⟩; replace kB := kB.below hb1 kB.lt; replace hB := chain hB hb1; clear hb1))
    refine wp_region_held_drew (S := fun W => Blk W w.heap.size 36 (bdc b)) hmx kB ?_
    intro hS
    replace hB := hB.drew
    clear kB
    generalize World.drew _ = Y at *
    refine' wpAnyH_take (i := 0) (oi := _) (v := _) ?hi1 (by kernel_rfl) (by kernel_rfl) (by kernel_rfl) ?hQ1 (Or.inl ⟨?hw1, ?hy1⟩) hS ?rest1
    case hi1 => simp only [List.getElem?_toArray, List.getElem?_cons_zero]; rfl
    case hQ1 => exact fun _ _ _ h => h
    case hw1 => rfl
    case hy1 => intro W' hS'; go_simp; with_reducible rfl
    try simp only [Act.put, List.setIfInBounds_toArray, List.set_cons_zero, List.set_cons_succ]
    refine' wpAnyH_take (i := 1) (oi := _) (v := bdv b) ?hi2 (by kernel_rfl) (by kernel_rfl) (by kernel_rfl) ?hQ2 (Or.inl ⟨?hw2, ?hy2⟩) hS ?rest2
    case hi2 => simp only [List.getElem?_toArray, List.getElem?_cons_succ, List.getElem?_cons_zero]; rfl
    case hQ2 => exact fun _ _ _ h => h
    case hw2 => rfl
    case hy2 => exact fun W' hS' => exec_load 36 (.tmp 2) rfl _ W' (load_bid hS')
    try simp only [Act.put, List.setIfInBounds_toArray, List.set_cons_zero, List.set_cons_succ]
    refine' wpAnyH_take (i := 3) (oi := _) (v := _) ?hi3 (by kernel_rfl) (by kernel_rfl) (by kernel_rfl) ?hQ3 (Or.inl ⟨?hw3, ?hy3⟩) hS ?rest3
    case hi3 => simp only [List.getElem?_toArray, List.getElem?_cons_succ, List.getElem?_cons_zero]; rfl
    case hQ3 => exact fun _ _ _ h => h
    case hw3 => rfl
    case hy3 => intro W' hS'; go_simp; with_reducible rfl
    try simp only [Act.put, List.setIfInBounds_toArray, List.set_cons_zero, List.set_cons_succ]
    refine' wpAnyH_take (i := 4) (oi := _) (v := _) ?hi4 (by kernel_rfl) (by kernel_rfl) (by kernel_rfl) ?hQ4 (Or.inl ⟨?hw4, ?hy4⟩) hS ?rest4
    case hi4 => simp only [List.getElem?_toArray, List.getElem?_cons_succ, List.getElem?_cons_zero]; rfl
    case hQ4 => exact fun _ _ _ h => h
    case hw4 => rfl
    case hy4 => intro W' hS'; have c15 := (hS'.cell 15).trans rfl; go_simp; with_reducible rfl
    try simp only [Act.put, List.setIfInBounds_toArray, List.set_cons_zero, List.set_cons_succ]
    refine wpAnyH_ready (rs := [2]) (by kernel_rfl) (by simp) ?_
    refine' AllReadyH.cons (o := _) ?ho5 (fun K hK => ?st5) AllReadyH.nil
    case ho5 => simp only [List.getElem?_toArray, List.getElem?_cons_succ, List.getElem?_cons_zero]; rfl
    case st5 =>
      go_simp
      refine (HT.out _).mono ?_
      rintro e Y1 ⟨v1, rfl, hv1, hb⟩
      refine hK.out _ _ (hS.below hb hS.lt) (fun hS => ?_)
      clear hK K
      try simp only [Act.put, List.setIfInBounds_toArray, List.set_cons_zero, List.set_cons_succ]
      replace hB := chain hB hb
      clear hb
      refine wpAnyH_ready (rs := [5]) (by kernel_rfl) (by simp) ?_
      refine' AllReadyH.cons (o := _) ?ho6 (fun K hK => ?st6) AllReadyH.nil
      case ho6 => simp only [List.getElem?_toArray, List.getElem?_cons_succ, List.getElem?_cons_zero]; rfl
      case st6 =>
        go_simp
        refine (HR.out _ _ hv1).mono ?_
        rintro e Y2 ⟨n2, rfl, hb⟩
        refine hK.out _ _ (hS.below hb hS.lt) (fun hS => ?_)
        clear hK K
        try simp only [Act.put, List.setIfInBounds_toArray, List.set_cons_zero, List.set_cons_succ]
        replace hB := chain hB hb
        clear hb
        refine' wpAnyH_take (i := 6) (oi := _) (v := _) ?hi7 (by kernel_rfl) (by kernel_rfl) (by kernel_rfl) ?hQ7 (Or.inl ⟨?hw7, ?hy7⟩) hS ?rest7
        case hi7 => simp only [List.getElem?_toArray, List.getElem?_cons_succ, List.getElem?_cons_zero]; rfl
        case hQ7 => exact fun _ _ _ h => h
        case hw7 => rfl
        case hy7 => intro W' hS'; go_simp; with_reducible rfl
        try simp only [Act.put, List.setIfInBounds_toArray, List.set_cons_zero, List.set_cons_succ]
        refine' wpAnyH_take (i := 7) (oi := _) (v := _) ?hi8 (by kernel_rfl) (by kernel_rfl) (by kernel_rfl) ?hQ8 (Or.inl ⟨?hw8, ?hy8⟩) hS ?rest8
        case hi8 => simp only [List.getElem?_toArray, List.getElem?_cons_succ, List.getElem?_cons_zero]; rfl
        case hQ8 => exact fun _ _ _ h => h
        case hw8 => rfl
        case hy8 => intro W' hS'; go_simp; with_reducible rfl
        try simp only [Act.put, List.setIfInBounds_toArray, List.set_cons_zero, List.set_cons_succ]
        refine' wpAnyH_take (i := 8) (oi := _) (v := _) ?hi9 (by kernel_rfl) (by kernel_rfl) (by kernel_rfl) ?hQ9 (Or.inl ⟨?hw9, ?hy9⟩) hS ?rest9
        case hi9 => simp only [List.getElem?_toArray, List.getElem?_cons_succ, List.getElem?_cons_zero]; rfl
        case hQ9 => exact fun _ _ _ h => h
        case hw9 => rfl
        case hy9 => intro W' hS'; go_simp; with_reducible rfl
        try simp only [Act.put, List.setIfInBounds_toArray, List.set_cons_zero, List.set_cons_succ]
        refine' wpAnyH_take (i := 9) (oi := _) (v := _) ?hi10 (by kernel_rfl) (by kernel_rfl) (by kernel_rfl) ?hQ10 (Or.inl ⟨?hw10, ?hy10⟩) hS ?rest10
        case hi10 => simp only [List.getElem?_toArray, List.getElem?_cons_succ, List.getElem?_cons_zero]; rfl
        case hQ10 => exact fun _ _ _ h => h
        case hw10 => rfl
        case hy10 => intro W' hS'; go_simp; with_reducible rfl
        try simp only [Act.put, List.setIfInBounds_toArray, List.set_cons_zero, List.set_cons_succ]
        refine' wpAnyH_take (i := 10) (oi := _) (v := _) ?hi11 (by kernel_rfl) (by kernel_rfl) (by kernel_rfl) ?hQ11 (Or.inl ⟨?hw11, ?hy11⟩) hS ?rest11
        case hi11 => simp only [List.getElem?_toArray, List.getElem?_cons_succ, List.getElem?_cons_zero]; rfl
        case hQ11 => exact fun _ _ _ h => h
        case hw11 => rfl
        case hy11 => intro W' hS'; go_simp; with_reducible rfl
        try simp only [Act.put, List.setIfInBounds_toArray, List.set_cons_zero, List.set_cons_succ]
        refine wpAnyH_done (by kernel_rfl) ?_ _
        go_wp2_with fail
        go_ret
        exact ⟨by rw [HV.out]; rfl, hB⟩
  · have HE := Lib.hid (errB_bad hm)
    have HV : Hid (validB b root = false) := Lib.hid (by unfold validB; rw [decide_eq_false hm, Bool.false_and])
    clear hm HT
    go_enter Tryz.func30, Tryz.ntmps30
    go_wp2_with (first
      | (refine wpList_loadIf 36 (.tmp 2) rfl _ rfl rfl (bdv b) (load_bid kB) ?_)
      | (go_at_call 54; refine (HC.out _).mono ?_; rw [HE.out]; rintro e W1 ⟨rfl, hb1⟩; replace hB := chain hB hb1))
    go_ret
    exact ⟨by rw [HV.out]; rfl, hB⟩
set_option maxRecDepth 100000 in
set_option maxHeartbeats 4000000 in
theorem refValid8_any (b : Bd) (hb4 : OkB b) (root : ByteArray) (w : World) :
    Calls Tryz.prog 12 #[bdv b, .string root] w fun e W' => e = .returned (.bool (validB b root)) ∧ Below w.heap.size w W' := by
  have hmx : Tryz.prog.follows .mixedOrders = true := by kernel_rfl
  have HC := Lib.hid (refBid_any b hb4)
  have HT := Lib.hid (refText8_any b hb4)
  have kB := Blk.new w 36 (bdc b)
  have hB := chain0 w (.cells (bdc b).toArray 36)
  by_cases hm : maybeB b
  · have HE := Lib.hid (errB_zero hm)
    have HV : Hid (validB b root = verB root (textL b) b.sg) := Lib.hid (by unfold validB; rw [decide_eq_true hm, Bool.true_and])
    have HL := Lib.hid (textL_len b)
    clear hm
    generalize textL b = tl at *
    have HR := Lib.hid (fun tx W (h : BSl 0 W.heap.size W tx tl) => refVerifyB_any root tl tx b.sg (by have := HL.out; omega) W h)
    generalize verB root tl b.sg = vb at *
    go_enter Tryz.func12, Tryz.ntmps12
    go_upto_region 3 with (first
      | (refine wpList_loadIf 36 (.tmp 2) rfl _ rfl rfl (bdv b) (load_bid kB) ?_)
      | (go_at_call 27; refine (HC.out _).mono ?_; rw [HE.out]; rintro e W1 ⟨rfl, hb1⟩; replace kB := kB.below hb1 kB.lt; replace hB := chain hB hb1; clear hb1))
    refine wp_region_held_drew (S := fun W => Blk W w.heap.size 36 (bdc b)) hmx kB ?_
    intro hS
    replace hB := hB.drew
    clear kB
    generalize World.drew _ = Y at *
    refine' wpAnyH_take (i := 0) (oi := _) (v := _) ?hi12 (by kernel_rfl) (by kernel_rfl) (by kernel_rfl) ?hQ12 (Or.inl ⟨?hw12, ?hy12⟩) hS ?rest12
    case hi12 => simp only [List.getElem?_toArray, List.getElem?_cons_zero]; rfl
    case hQ12 => exact fun _ _ _ h => h
    case hw12 => rfl
    case hy12 => intro W' hS'; go_simp; with_reducible rfl
    try simp only [Act.put, List.setIfInBounds_toArray, List.set_cons_zero, List.set_cons_succ]
    refine' wpAnyH_take (i := 1) (oi := _) (v := bdv b) ?hi13 (by kernel_rfl) (by kernel_rfl) (by kernel_rfl) ?hQ13 (Or.inl ⟨?hw13, ?hy13⟩) hS ?rest13
    case hi13 => simp only [List.getElem?_toArray, List.getElem?_cons_succ, List.getElem?_cons_zero]; rfl
    case hQ13 => exact fun _ _ _ h => h
    case hw13 => rfl
    case hy13 => exact fun W' hS' => exec_load 36 (.tmp 2) rfl _ W' (load_bid hS')
    try simp only [Act.put, List.setIfInBounds_toArray, List.set_cons_zero, List.set_cons_succ]
    refine' wpAnyH_take (i := 3) (oi := _) (v := _) ?hi14 (by kernel_rfl) (by kernel_rfl) (by kernel_rfl) ?hQ14 (Or.inl ⟨?hw14, ?hy14⟩) hS ?rest14
    case hi14 => simp only [List.getElem?_toArray, List.getElem?_cons_succ, List.getElem?_cons_zero]; rfl
    case hQ14 => exact fun _ _ _ h => h
    case hw14 => rfl
    case hy14 => intro W' hS'; go_simp; with_reducible rfl
    try simp only [Act.put, List.setIfInBounds_toArray, List.set_cons_zero, List.set_cons_succ]
    refine' wpAnyH_take (i := 4) (oi := _) (v := _) ?hi15 (by kernel_rfl) (by kernel_rfl) (by kernel_rfl) ?hQ15 (Or.inl ⟨?hw15, ?hy15⟩) hS ?rest15
    case hi15 => simp only [List.getElem?_toArray, List.getElem?_cons_succ, List.getElem?_cons_zero]; rfl
    case hQ15 => exact fun _ _ _ h => h
    case hw15 => rfl
    case hy15 => intro W' hS'; have c15 := (hS'.cell 15).trans rfl; go_simp; with_reducible rfl
    try simp only [Act.put, List.setIfInBounds_toArray, List.set_cons_zero, List.set_cons_succ]
    refine wpAnyH_ready (rs := [2]) (by kernel_rfl) (by simp) ?_
    refine' AllReadyH.cons (o := _) ?ho16 (fun K hK => ?st16) AllReadyH.nil
    case ho16 => simp only [List.getElem?_toArray, List.getElem?_cons_succ, List.getElem?_cons_zero]; rfl
    case st16 =>
      go_simp
      refine (HT.out _).mono ?_
      rintro e Y1 ⟨v1, rfl, hv1, hb⟩
      refine hK.out _ _ (hS.below hb hS.lt) (fun hS => ?_)
      clear hK K
      try simp only [Act.put, List.setIfInBounds_toArray, List.set_cons_zero, List.set_cons_succ]
      replace hB := chain hB hb
      clear hb
      refine wpAnyH_ready (rs := [5]) (by kernel_rfl) (by simp) ?_
      refine' AllReadyH.cons (o := _) ?ho17 (fun K hK => ?st17) AllReadyH.nil
      case ho17 => simp only [List.getElem?_toArray, List.getElem?_cons_succ, List.getElem?_cons_zero]; rfl
      case st17 =>
        go_simp
        refine (HR.out _ _ hv1).mono ?_
        rintro e Y2 ⟨n2, rfl, hb⟩
        refine hK.out _ _ (hS.below hb hS.lt) (fun hS => ?_)
        clear hK K
        try simp only [Act.put, List.setIfInBounds_toArray, List.set_cons_zero, List.set_cons_succ]
        replace hB := chain hB hb
        clear hb
        refine' wpAnyH_take (i := 6) (oi := _) (v := _) ?hi18 (by kernel_rfl) (by kernel_rfl) (by kernel_rfl) ?hQ18 (Or.inl ⟨?hw18, ?hy18⟩) hS ?rest18
        case hi18 => simp only [List.getElem?_toArray, List.getElem?_cons_succ, List.getElem?_cons_zero]; rfl
        case hQ18 => exact fun _ _ _ h => h
        case hw18 => rfl
        case hy18 => intro W' hS'; go_simp; with_reducible rfl
        try simp only [Act.put, List.setIfInBounds_toArray, List.set_cons_zero, List.set_cons_succ]
        refine' wpAnyH_take (i := 7) (oi := _) (v := _) ?hi19 (by kernel_rfl) (by kernel_rfl) (by kernel_rfl) ?hQ19 (Or.inl ⟨?hw19, ?hy19⟩) hS ?rest19
        case hi19 => simp only [List.getElem?_toArray, List.getElem?_cons_succ, List.getElem?_cons_zero]; rfl
        case hQ19 => exact fun _ _ _ h => h
        case hw19 => rfl
        case hy19 => intro W' hS'; go_simp; with_reducible rfl
        try simp only [Act.put, List.setIfInBounds_toArray, List.set_cons_zero, List.set_cons_succ]
        refine' wpAnyH_take (i := 8) (oi := _) (v := _) ?hi20 (by kernel_rfl) (by kernel_rfl) (by kernel_rfl) ?hQ20 (Or.inl ⟨?hw20, ?hy20⟩) hS ?rest20
        case hi20 => simp only [List.getElem?_toArray, List.getElem?_cons_succ, List.getElem?_cons_zero]; rfl
        case hQ20 => exact fun _ _ _ h => h
        case hw20 => rfl
        case hy20 => intro W' hS'; go_simp; with_reducible rfl
        try simp only [Act.put, List.setIfInBounds_toArray, List.set_cons_zero, List.set_cons_succ]
        refine' wpAnyH_take (i := 9) (oi := _) (v := _) ?hi21 (by kernel_rfl) (by kernel_rfl) (by kernel_rfl) ?hQ21 (Or.inl ⟨?hw21, ?hy21⟩) hS ?rest21
        case hi21 => simp only [List.getElem?_toArray, List.getElem?_cons_succ, List.getElem?_cons_zero]; rfl
        case hQ21 => exact fun _ _ _ h => h
        case hw21 => rfl
        case hy21 => intro W' hS'; go_simp; with_reducible rfl
        try simp only [Act.put, List.setIfInBounds_toArray, List.set_cons_zero, List.set_cons_succ]
        refine' wpAnyH_take (i := 10) (oi := _) (v := _) ?hi22 (by kernel_rfl) (by kernel_rfl) (by kernel_rfl) ?hQ22 (Or.inl ⟨?hw22, ?hy22⟩) hS ?rest22
        case hi22 => simp only [List.getElem?_toArray, List.getElem?_cons_succ, List.getElem?_cons_zero]; rfl
        case hQ22 => exact fun _ _ _ h => h
        case hw22 => rfl
        case hy22 => intro W' hS'; go_simp; with_reducible rfl
        try simp only [Act.put, List.setIfInBounds_toArray, List.set_cons_zero, List.set_cons_succ]
        refine wpAnyH_done (by kernel_rfl) ?_ _
        go_wp2_with fail
        go_ret
        exact ⟨by rw [HV.out]; rfl, hB⟩
  · have HE := Lib.hid (errB_bad hm)
    have HV : Hid (validB b root = false) := Lib.hid (by unfold validB; rw [decide_eq_false hm, Bool.false_and])
    clear hm HT
    go_enter Tryz.func12, Tryz.ntmps12
    go_wp2_with (first
      | (refine wpList_loadIf 36 (.tmp 2) rfl _ rfl rfl (bdv b) (load_bid kB) ?_)
      | (go_at_call 27; refine (HC.out _).mono ?_; rw [HE.out]; rintro e W1 ⟨rfl, hb1⟩; replace hB := chain hB hb1))
    go_ret
    exact ⟨by rw [HV.out]; rfl, hB⟩
end Go.Proofs.YtbhfajnejibaoaaGreat
namespace Go.Proofs.YtbhfajnejibaoaaGreat
open Go.RowKit Go.Shelf
attribute [local irreducible] wpFrom wpAnyH StepH
theorem fold_mem (b : Bd) (l : List Bd) : l.foldl pickB b ∈ b :: l := by
  induction l generalizing b with
  | nil => exact List.mem_singleton.2 rfl
  | cons y l ih =>
    rw [List.foldl_cons]
    rcases List.mem_cons.1 (ih (pickB b y)) with h | h
    · rw [h]
      unfold pickB
      split
      · exact List.mem_cons_of_mem _ (List.mem_cons_self ..)
      · exact List.mem_cons_self ..
    · exact List.mem_cons_of_mem _ (List.mem_cons_of_mem _ h)
theorem fold_ok {b : Bd} {l : List Bd} (h : ∀ x ∈ b :: l, OkB x) (j : Nat) : OkB ((l.take j).foldl pickB b) := by
  rcases List.mem_cons.1 (fold_mem b (l.take j)) with e | e
  · rw [e]; exact h _ (List.mem_cons_self ..)
  · exact h _ (List.mem_cons_of_mem _ (List.mem_of_mem_take e))
theorem for_ok {bs : List Bd} (h : ∀ x ∈ bs, OkB x) (a : Ak) (p : Bd → Bool) : ∀ x ∈ forB bs a p, OkB x := fun x hx => h x (List.mem_filter.1 hx).1
set_option maxRecDepth 100000 in
set_option maxHeartbeats 4000000 in
theorem rmBest_any {B : Nat} {R : Rm} {va vb : Value} (a : Ak) (now d : Int) (w : World) (hv : RmV w B R va vb) (hr : R.bs.length ≤ 1000) (hol : OkL R.ls) (hob : ∀ x ∈ R.bs, OkB x) : Calls Tryz.prog 14 #[.pointer (some ⟨B, 0, none⟩), akv a, .int .i64 now, .int .i64 d] w fun e W' => e = .returned (.tuple #[bdv ((bestR R a now).getD noB), .bool (bestR R a now).isSome]) ∧ Below w.heap.size w W' := by
  have hmx : Tryz.prog.follows .mixedOrders = true := by kernel_rfl
  have hl := hv.l
  have ho := hv.o
  have hhl := Nat.le_refl w.heap.size
  have hho := Nat.le_refl w.heap.size
  have HEl := Lib.hid (fun k x (hx : R.ls[k]? = some x) => hl.elem ltc_len hx Tryz.underlying61 (fun W => by kernel_rfl))
  obtain ⟨pl, cl, rfl⟩ := hl.slice
  have HLl := Lib.hid hl
  have HHl := Lib.hid hhl
  have HLENl := Lib.hid (show R.ls.length ≤ 9223372036854775807 from by have h := hl.len; unfold maxLen at h; omega)
  clear hl hhl
  have HEo := Lib.hid (fun k x (hx : R.bs[k]? = some x) => ho.elem bdc_len hx Tryz.underlying43 (fun W => by kernel_rfl))
  obtain ⟨po, co, rfl⟩ := ho.slice
  have HLo := Lib.hid ho
  have HHo := Lib.hid hho
  have HLENo := Lib.hid (show R.bs.length ≤ 9223372036854775807 from by have h := ho.len; unfold maxLen at h; omega)
  clear ho hho
  have HV := Lib.hid hv
  have HR := Lib.hid hr
  have HOL := Lib.hid hol
  have HOB := Lib.hid hob
  clear hr hol hob
  clear hv
  have hM := Sep.start w
  go_enter Tryz.func14, Tryz.ntmps14
  go_upto_region 0 with fail
  refine wp_region_fromM (fun W => Sep w [] [] W) hM ?_
  clear hM
  rintro Y1 hM
  refine rF (some 5) (pt Y1.heap.size 0) (Y1.alloc (.cells (akc a).toArray 34)) ?_
  replace hM := hM.alloc 34 (akc a)
  generalize World.alloc _ _ = Y2 at *
  generalize hNe : Y1.heap.size = N2 at *
  clear hNe
  refine rF (some 6) (pt Y2.heap.size 0) (Y2.alloc (.cells ([.int .i64 now]).toArray 3)) ?_
  replace hM := hM.alloc 3 ([.int .i64 now])
  generalize World.alloc _ _ = Y3 at *
  generalize hNe : Y2.heap.size = N3 at *
  clear hNe
  refine rF (some 8) (pt Y3.heap.size 0) (Y3.alloc (.cells (bdc noB).toArray 36)) ?_
  replace hM := hM.alloc 36 (bdc noB)
  generalize World.alloc _ _ = Y4 at *
  generalize hNe : Y3.heap.size = N4 at *
  clear hNe
  refine tF 4 [.val 3 (some 9) (.bool false)] trivial ?_
  refine dF ?_
  try simp only [puts, Tk.put, Act.put, List.setIfInBounds_toArray, List.set_cons_zero, List.set_cons_succ]
  go_upto_region 1 with fail
  refine wp_region_fromM (fun W => Sep w [] [.blk N4 36 (bdc noB), .blk N3 3 ([.int .i64 now]), .blk N2 34 (akc a)] W) hM ?_
  clear hM
  rintro Y5 hM
  refine tF 2 [.val 0 (some 17) (pt B 0), .load 1 (some 18) 34 (pt N2 0) (akv a)] ⟨load_part (hM.at 2 rfl) 0 (akc a) rfl _ _ Tryz.underlying34 rfl (by kernel_rfl), trivial⟩ ?_
  refine cF (some 19) 23 #[pt B 0, akv a] ((rmOpened_any a _ (HV.out.below hM.b)).mono ?_)
  rintro e Y6 ⟨rfl, hb⟩
  replace hM := hM.below hb
  clear hb
  refine tF 6 [.val 3 (some 16) (.tuple #[ltv ((openL R.ls a).getD noL), .bool (openL R.ls a).isSome]), .val 4 (some 20) (ltv ((openL R.ls a).getD noL)), .val 5 (some 21) (.bool (openL R.ls a).isSome)] trivial ?_
  refine rF (some 10) (pt Y6.heap.size 0) (Y6.alloc (.cells (ltc noL).toArray 66)) ?_
  replace hM := hM.alloc 66 (ltc noL)
  generalize World.alloc _ _ = Y7 at *
  generalize hNe : Y6.heap.size = N7 at *
  clear hNe
  have hst := sto_part (ltc ((openL R.ls a).getD noL)) (hM.at 0 rfl) 0 66 (ltv ((openL R.ls a).getD noL)) (ltc ((openL R.ls a).getD noL)) rfl (by kernel_rfl) (Nat.le_of_ble_eq_true rfl) rfl rfl
  refine sF 66 (pt N7 0) (ltv ((openL R.ls a).getD noL)) (hst) ?_
  clear hst
  replace hM := hM.set 0 (cs' := ltc ((openL R.ls a).getD noL)) rfl rfl
  generalize World.setRow _ _ _ = Y8 at *
  refine tF 9 [.val 8 (some 11) (.bool (openL R.ls a).isSome)] trivial ?_
  refine dF ?_
  try simp only [puts, Tk.put, Act.put, List.setIfInBounds_toArray, List.set_cons_zero, List.set_cons_succ]
  go_upto_region 2 with fail
  refine wp_region_M (fun W => Sep w [] [.blk N7 66 (ltc ((openL R.ls a).getD noL)), .blk N4 36 (bdc noB), .blk N3 3 ([.int .i64 now]), .blk N2 34 (akc a)] W) (fun W => Sep w [] [.blk N7 66 (ltc ((openL R.ls a).getD noL)), .blk N4 36 (bdc noB), .blk N3 3 ([.int .i64 now]), .blk N2 34 (akc a)] W) hmx hM.drew ?_
  clear hM
  rintro Y9 hM
  have hS := hM.sub (.cons_cons _ (.cons_cons _ (.cons_cons _ (.cons_cons _ .slnil))))
  refine tD 10 [.val 0 (some 22) (.bool (openL R.ls a).isSome)] trivial hS ?_
  cases hb1 : (openL R.ls a).isSome with
  | false =>
    have Hhb1 := Lib.hid hb1
    clear hb1
    refine tD 4 [.val 1 (some 23) (.bool true), .val 2 (some 24) (.bool true), .skip 3 (some 25), .skip 4 (some 26), .skip 5 (some 27), .skip 6 (some 28)] trivial hS ?_
    refine oD 7 3 (stepH_not (d := some 29) (by kernel_rfl) (And.intro hS ?_))
    refine tD 0 [.skip 8 (some 30), .skip 9 (some 31), .val 10 (some 32) (.bool true)] trivial hS ?_
    refine dD ?_
    try simp only [puts, Tk.put, Act.put, List.setIfInBounds_toArray, List.set_cons_zero, List.set_cons_succ]
    clear hS
    go_upto_region 3 with fail
    refine wp_region_fromM (fun W => Sep w [] [.blk N7 66 (ltc ((openL R.ls a).getD noL)), .blk N4 36 (bdc noB), .blk N3 3 ([.int .i64 now]), .blk N2 34 (akc a)] W) hM ?_
    clear hM
    rintro Y10 hM
    refine tF 1 [.val 0 (some 33) (bdv noB)] trivial ?_
    have hst := sto_part (bdc noB) (hM.at 1 rfl) 0 36 (bdv noB) (bdc noB) rfl (by kernel_rfl) (Nat.le_of_ble_eq_true rfl) rfl rfl
    refine sF 36 (pt N4 0) (bdv noB) (hst) ?_
    clear hst
    replace hM := hM.set 1 (cs' := bdc noB) rfl rfl
    generalize World.setRow _ _ _ = Y11 at *
    refine tF 3 [.val 2 (some 9) (.bool false)] trivial ?_
    refine dF ?_
    try simp only [puts, Tk.put, Act.put, List.setIfInBounds_toArray, List.set_cons_zero, List.set_cons_succ]
    go_wp2_with fail
    exact bodyPost_ret (v := .tuple #[bdv noB, .bool false]) (res_two rfl _ rfl rfl (lv_bd (hM.at 1 rfl))) rfl ⟨by rw [best_no Hhb1.out]; rfl, hM.b⟩
  | true =>
    have Hhb1 := Lib.hid hb1
    clear hb1
    refine tD 4 [.val 1 (some 23) (.bool false), .val 2 (some 24) (.bool false), .load 3 (some 25) 3 (pt N3 0) (.int .i64 now), .val 4 (some 26) (pt N7 9), .load 5 (some 27) 3 (pt N7 9) (.int .i64 ((openL R.ls a).getD noL).si), .val 6 (some 28) (.int .i64 d)] ⟨fun W h => ld_any _ _ Tryz.underlying3 rfl (h.at 2 rfl) 0 rfl, fun W h => ld_any _ _ Tryz.underlying3 rfl (h.at 0 rfl) 9 rfl, trivial⟩ hS ?_
    refine oD 7 3 (cD (some 29) 35 #[.int .i64 d] ((window_any d _).mono ?_))
    rintro e Y12 ⟨rfl, hb⟩
    refine And.intro (hS.below hb) ?_
    replace hS := hS.below hb
    replace hM := hM.below hb
    clear hb
    refine tD 0 [.alt 8 (some 30) (.int .i64 (IntKind.i64.wrap (((openL R.ls a).getD noL).si + 1))) (.int .i64 (((openL R.ls a).getD noL).si + 1)), .val 9 (some 31) (.bool (decide (now < (((openL R.ls a).getD noL).si + 1)))), .val 10 (some 32) (.bool (decide (now < (((openL R.ls a).getD noL).si + 1))))] ⟨congrArg (Value.int .i64) (IntWalk.i64_in _ (by have h := open_si HOL.out a; omega)), trivial⟩ hS ?_
    refine dD ?_
    try simp only [puts, Tk.put, Act.put, List.setIfInBounds_toArray, List.set_cons_zero, List.set_cons_succ]
    clear hS
    cases hb2 : decide (now < (((openL R.ls a).getD noL).si + 1)) with
    | false =>
      have Hhb2 := Lib.hid hb2
      clear hb2
      go_upto_region 4 with fail
      refine wp_region_fromM (fun W => Sep w [] [.blk N7 66 (ltc ((openL R.ls a).getD noL)), .blk N4 36 (bdc noB), .blk N3 3 ([.int .i64 now]), .blk N2 34 (akc a)] W) hM ?_
      clear hM
      rintro Y13 hM
      refine tF 3 [.val 0 (some 34) (pt B 0), .load 1 (some 35) 34 (pt N2 0) (akv a), .val 2 (some 36) (.func (.func 36) #[] #[pt N3 0])] ⟨load_part (hM.at 3 rfl) 0 (akc a) rfl _ _ Tryz.underlying34 rfl (by kernel_rfl), trivial⟩ ?_
      refine cF (some 37) 32 #[pt B 0, akv a, .func (.func 36) #[] #[pt N3 0]] ((whichB2_any now a _ (HV.out.below hM.b) HR.out (hM.at 2 rfl)).mono ?_)
      rintro e Y14 ⟨v14, rfl, hR⟩
      replace hM := hM.gain hR
      clear hR
      obtain ⟨pv14, cv14, rfl⟩ := (hM.oka 0 rfl).slice bdc_len
      refine tF 5 [.val 4 (some 12) (.slice pv14 (forB R.bs a (liveBd now)).length cv14)] trivial ?_
      refine dF ?_
      try simp only [puts, Tk.put, Act.put, List.setIfInBounds_toArray, List.set_cons_zero, List.set_cons_succ]
      have hof := for_ok HOB.out a (liveBd now)
      generalize hq : forB R.bs a (liveBd now) = lv at *
      have HQ := Lib.hid hq
      clear hq
      cases lv with
      | nil =>
        have HOF := Lib.hid hof
        clear hof
        replace hM : Sep w [] [.own bdc 36 16 (.slice pv14 0 cv14) ([]), .blk N7 66 (ltc ((openL R.ls a).getD noL)), .blk N4 36 (bdc noB), .blk N3 3 ([.int .i64 now]), .blk N2 34 (akc a)] Y14 := hM
        go_upto_region 5 with fail
        refine wp_region_fromM (fun W => Sep w [] [.own bdc 36 16 (.slice pv14 0 cv14) ([]), .blk N7 66 (ltc ((openL R.ls a).getD noL)), .blk N4 36 (bdc noB), .blk N3 3 ([.int .i64 now]), .blk N2 34 (akc a)] W) hM ?_
        clear hM
        rintro Y15 hM
        refine tF 3 [.val 0 (some 38) (.slice pv14 0 cv14), .val 1 (some 39) (.int .i64 0), .val 2 (some 40) (.bool true)] trivial ?_
        refine dF ?_
        try simp only [puts, Tk.put, Act.put, List.setIfInBounds_toArray, List.set_cons_zero, List.set_cons_succ]
        go_upto_region 6 with fail
        refine wp_region_fromM (fun W => Sep w [] [.own bdc 36 16 (.slice pv14 0 cv14) ([]), .blk N7 66 (ltc ((openL R.ls a).getD noL)), .blk N4 36 (bdc noB), .blk N3 3 ([.int .i64 now]), .blk N2 34 (akc a)] W) hM ?_
        clear hM
        rintro Y16 hM
        refine tF 1 [.val 0 (some 41) (bdv noB)] trivial ?_
        have hst := sto_part (bdc noB) (hM.at 2 rfl) 0 36 (bdv noB) (bdc noB) rfl (by kernel_rfl) (Nat.le_of_ble_eq_true rfl) rfl rfl
        refine sF 36 (pt N4 0) (bdv noB) (hst) ?_
        clear hst
        replace hM := hM.set 2 (cs' := bdc noB) rfl rfl
        generalize World.setRow _ _ _ = Y17 at *
        refine tF 3 [.val 2 (some 9) (.bool false)] trivial ?_
        refine dF ?_
        try simp only [puts, Tk.put, Act.put, List.setIfInBounds_toArray, List.set_cons_zero, List.set_cons_succ]
        go_wp2_with fail
        exact bodyPost_ret (v := .tuple #[bdv noB, .bool false]) (res_two rfl _ rfl rfl (lv_bd (hM.at 2 rfl))) rfl ⟨by rw [best_top Hhb1.out Hhb2.out, HQ.out]; rfl, hM.b⟩
      | cons b0 l =>
        have HOF := Lib.hid hof
        clear hof
        replace hM : Sep w [] [.own bdc 36 16 (.slice pv14 (l.length + 1) cv14) ((b0 :: l)), .blk N7 66 (ltc ((openL R.ls a).getD noL)), .blk N4 36 (bdc noB), .blk N3 3 ([.int .i64 now]), .blk N2 34 (akc a)] Y14 := hM
        go_upto_region 5 with fail
        refine wp_region_fromM (fun W => Sep w [] [.own bdc 36 16 (.slice pv14 (l.length + 1) cv14) ((b0 :: l)), .blk N7 66 (ltc ((openL R.ls a).getD noL)), .blk N4 36 (bdc noB), .blk N3 3 ([.int .i64 now]), .blk N2 34 (akc a)] W) hM ?_
        clear hM
        rintro Y18 hM
        refine tF 3 [.val 0 (some 38) (.slice pv14 (l.length + 1) cv14), .val 1 (some 39) (.int .i64 ((l.length + 1 : Nat) : Int)), .alt 2 (some 40) (.bool (((l.length + 1 : Nat) : Int) == 0)) (.bool false)] ⟨congrArg Value.bool (beq_eq_false_iff_ne.2 (by omega)), trivial⟩ ?_
        refine dF ?_
        try simp only [puts, Tk.put, Act.put, List.setIfInBounds_toArray, List.set_cons_zero, List.set_cons_succ]
        go_upto_region 7 with fail
        obtain ⟨bz, oz, hit, hct⟩ := (hM.oka 0 rfl).elem bdc_len (show (b0 :: l)[0]? = some b0 from rfl) Tryz.underlying43 (fun W => by kernel_rfl)
        have HIz := Lib.hid hit
        have HCz := Lib.hid hct
        clear hit hct
        refine wp_region_fromM (fun W => Sep w [] [.own bdc 36 16 (.slice pv14 (l.length + 1) cv14) ((b0 :: l)), .blk N7 66 (ltc ((openL R.ls a).getD noL)), .blk N4 36 (bdc noB), .blk N3 3 ([.int .i64 now]), .blk N2 34 (akc a)] W) hM ?_
        clear hM
        rintro Y19 hM
        refine tF 3 [.val 0 (some 42) (.slice pv14 (l.length + 1) cv14), .idx 1 (some 43) 43 (.slice pv14 (l.length + 1) cv14) (.int .i64 0) (pt bz oz), .load 2 (some 44) 36 (pt bz oz) (bdv b0)] ⟨HIz.out _, ld_cells (bdc b0) _ _ Tryz.underlying36 rfl (by kernel_rfl) (HCz.out _ (hM.oka 0 rfl)), trivial⟩ ?_
        refine rF (some 13) (pt Y19.heap.size 0) (Y19.alloc (.cells (bdc noB).toArray 36)) ?_
        replace hM := hM.alloc 36 (bdc noB)
        generalize World.alloc _ _ = Y20 at *
        generalize hNe : Y19.heap.size = N20 at *
        clear hNe
        have hst := sto_part (bdc b0) (hM.at 0 rfl) 0 36 (bdv b0) (bdc b0) rfl (by kernel_rfl) (Nat.le_of_ble_eq_true rfl) rfl rfl
        refine sF 36 (pt N20 0) (bdv b0) (hst) ?_
        clear hst
        replace hM := hM.set 0 (cs' := bdc b0) rfl rfl
        generalize World.setRow _ _ _ = Y21 at *
        refine dF ?_
        try simp only [puts, Tk.put, Act.put, List.setIfInBounds_toArray, List.set_cons_zero, List.set_cons_succ]
        obtain ⟨ta, tc, hsl, hix⟩ := own_tail (hM.oka 1 rfl) Tryz.underlying43 (by kernel_rfl) (fun W => by kernel_rfl)
        have HSL := Lib.hid hsl
        have HIX := Lib.hid hix
        clear hsl hix
        go_upto_region 8 with fail
        refine wp_region_fromM (fun W => Sep w [] [.blk N20 36 (bdc b0), .own bdc 36 16 (.slice pv14 (l.length + 1) cv14) ((b0 :: l)), .blk N7 66 (ltc ((openL R.ls a).getD noL)), .blk N4 36 (bdc noB), .blk N3 3 ([.int .i64 now]), .blk N2 34 (akc a)] W) hM ?_
        clear hM
        rintro Y22 hM
        refine tF 4 [.val 0 (some 45) (.slice pv14 (l.length + 1) cv14), .slc 1 (some 46) 43 (.slice pv14 (l.length + 1) cv14) (some (.int .i64 1)) none none (.slice ta l.length tc), .val 2 (some 47) (.int .i64 (l.length : Int)), .val 3 (some 48) (.int .i64 0)] ⟨HSL.out _, trivial⟩ ?_
        refine dF ?_
        try simp only [puts, Tk.put, Act.put, List.setIfInBounds_toArray, List.set_cons_zero, List.set_cons_succ]
        have HRL : Hid (l.length ≤ 1000) := Lib.hid (by have h1 := congrArg List.length HQ.out; have h2 : (forB R.bs a (liveBd now)).length ≤ R.bs.length := List.length_filter_le _ _; have h3 := HR.out; rw [List.length_cons] at h1; omega)
        go_wp2_with fail
        go_loopw [48] (fun i wr => ∃ j : Nat, j ≤ l.length ∧ i = .int .i64 (j : Int) ∧ Sep w [] [.blk N20 36 (bdc ((l.take j).foldl pickB b0)), .own bdc 36 16 (.slice pv14 (l.length + 1) cv14) ((b0 :: l)), .blk N7 66 (ltc ((openL R.ls a).getD noL)), .blk N4 36 (bdc noB), .blk N3 3 ([.int .i64 now]), .blk N2 34 (akc a)] wr) (fun i _ => l.length - (intOf i).toNat)
        case atStart => exact ⟨0, Nat.zero_le _, rfl, hM⟩
        clear hM
        case round =>
          obtain ⟨j, hj, rfl, hM⟩ := hrel
          by_cases hlt : j < l.length
          case pos =>
            obtain ⟨y, hy⟩ : ∃ y, l[j]? = some y := ⟨_, List.getElem?_eq_getElem hlt⟩
            have HY := Lib.hid hy
            obtain ⟨bq, oq, hit, hct⟩ := (hM.oka 1 rfl).elem bdc_len (show (b0 :: l)[j + 1]? = some y from hy) Tryz.underlying43 (fun W => by kernel_rfl)
            have HIq := Lib.hid hit
            have HCq := Lib.hid hct
            clear hit hct
            have HJ := Lib.hid hlt
            have hlt' : (j : Int) < (l.length : Int) := by omega
            clear hlt hy
            have HTF := Lib.hid (take_fold (b := b0) HY.out)
            go_upto_region 9 with fail
            refine wp_region_fromM (fun W => Sep w [] [.blk N20 36 (bdc ((l.take j).foldl pickB b0)), .own bdc 36 16 (.slice pv14 (l.length + 1) cv14) ((b0 :: l)), .blk N7 66 (ltc ((openL R.ls a).getD noL)), .blk N4 36 (bdc noB), .blk N3 3 ([.int .i64 now]), .blk N2 34 (akc a)] W) hM ?_
            clear hM
            rintro Y23 hM
            refine tF 1 [.alt 0 (some 49) (.bool (decide ((j : Int) < (l.length : Int)))) (.bool true)] ⟨congrArg Value.bool (decide_eq_true hlt'), trivial⟩ ?_
            refine dF ?_
            try simp only [puts, Tk.put, Act.put, List.setIfInBounds_toArray, List.set_cons_zero, List.set_cons_succ]
            go_upto_region 10 with fail
            refine wp_region_fromM (fun W => Sep w [] [.blk N20 36 (bdc ((l.take j).foldl pickB b0)), .own bdc 36 16 (.slice pv14 (l.length + 1) cv14) ((b0 :: l)), .blk N7 66 (ltc ((openL R.ls a).getD noL)), .blk N4 36 (bdc noB), .blk N3 3 ([.int .i64 now]), .blk N2 34 (akc a)] W) hM ?_
            clear hM
            rintro Y24 hM
            refine tF 2 [.idx 0 (some 50) 43 (.slice ta l.length tc) (.int .i64 (j : Int)) (pt bq oq), .load 1 (some 51) 36 (pt bq oq) (bdv y)] ⟨HIX.out j HJ.out _ _ _ (HIq.out w) _, ld_cells (bdc y) _ _ Tryz.underlying36 rfl (by kernel_rfl) (HCq.out _ (hM.oka 1 rfl)), trivial⟩ ?_
            refine rF (some 15) (pt Y24.heap.size 0) (Y24.alloc (.cells (bdc noB).toArray 36)) ?_
            replace hM := hM.alloc 36 (bdc noB)
            generalize World.alloc _ _ = Y25 at *
            generalize hNe : Y24.heap.size = N25 at *
            clear hNe
            have hst := sto_part (bdc y) (hM.at 0 rfl) 0 36 (bdv y) (bdc y) rfl (by kernel_rfl) (Nat.le_of_ble_eq_true rfl) rfl rfl
            refine sF 36 (pt N25 0) (bdv y) (hst) ?_
            clear hst
            replace hM := hM.set 0 (cs' := bdc y) rfl rfl
            generalize World.setRow _ _ _ = Y26 at *
            refine dF ?_
            try simp only [puts, Tk.put, Act.put, List.setIfInBounds_toArray, List.set_cons_zero, List.set_cons_succ]
            go_upto_region 11 with fail
            refine wp_region_fromM (fun W => Sep w [] [.blk N25 36 (bdc y), .blk N20 36 (bdc ((l.take j).foldl pickB b0)), .own bdc 36 16 (.slice pv14 (l.length + 1) cv14) ((b0 :: l)), .blk N7 66 (ltc ((openL R.ls a).getD noL)), .blk N4 36 (bdc noB), .blk N3 3 ([.int .i64 now]), .blk N2 34 (akc a)] W) hM ?_
            clear hM
            rintro Y27 hM
            refine tF 2 [.load 0 (some 52) 36 (pt N25 0) (bdv y), .load 1 (some 53) 36 (pt N20 0) (bdv ((l.take j).foldl pickB b0))] ⟨load_part (hM.at 0 rfl) 0 (bdc y) rfl _ _ Tryz.underlying36 rfl (by kernel_rfl), load_part (hM.at 1 rfl) 0 (bdc ((l.take j).foldl pickB b0)) rfl _ _ Tryz.underlying36 rfl (by kernel_rfl), trivial⟩ ?_
            refine cF (some 54) 37 #[bdv y, bdv ((l.take j).foldl pickB b0)] ((better_any y ((l.take j).foldl pickB b0) (HOF.out _ (List.mem_cons_of_mem _ (List.mem_of_getElem? HY.out))) (fold_ok HOF.out j) _).mono ?_)
            rintro e Y28 ⟨rfl, hb⟩
            replace hM := hM.below hb
            clear hb
            refine dF ?_
            try simp only [puts, Tk.put, Act.put, List.setIfInBounds_toArray, List.set_cons_zero, List.set_cons_succ]
            cases hb3 : betB y ((l.take j).foldl pickB b0) with
            | false =>
              have Hhb3 := Lib.hid hb3
              clear hb3
              go_upto_region 13 with fail
              refine wp_region_fromM (fun W => Sep w [] [.blk N25 36 (bdc y), .blk N20 36 (bdc ((l.take j).foldl pickB b0)), .own bdc 36 16 (.slice pv14 (l.length + 1) cv14) ((b0 :: l)), .blk N7 66 (ltc ((openL R.ls a).getD noL)), .blk N4 36 (bdc noB), .blk N3 3 ([.int .i64 now]), .blk N2 34 (akc a)] W) hM ?_
              clear hM
              rintro Y29 hM
              refine tF 2 [.alt 0 (some 56) (.int .i64 (IntKind.i64.wrap ((j : Int) + 1))) (.int .i64 ((j + 1 : Nat) : Int)), .val 1 (some 48) (.int .i64 ((j + 1 : Nat) : Int))] ⟨congrArg (Value.int .i64) ((IntWalk.i64_in _ (by have h1 := HRL.out; have := HJ.out; omega)).trans (by omega)), trivial⟩ ?_
              refine dF ?_
              try simp only [puts, Tk.put, Act.put, List.setIfInBounds_toArray, List.set_cons_zero, List.set_cons_succ]
              have hM1 := hM.sub (l' := [.blk N20 36 (bdc ((l.take j).foldl pickB b0)), .own bdc 36 16 (.slice pv14 (l.length + 1) cv14) ((b0 :: l)), .blk N7 66 (ltc ((openL R.ls a).getD noL)), .blk N4 36 (bdc noB), .blk N3 3 ([.int .i64 now]), .blk N2 34 (akc a)]) (.cons _ (.cons_cons _ (.cons_cons _ (.cons_cons _ (.cons_cons _ (.cons_cons _ (.cons_cons _ .slnil)))))))
              have HM1 := Lib.hid hM1
              clear hM hM1
              go_wp2_with fail
              go_roundw
              case rel => exact ⟨j + 1, HJ.out, rfl, by rw [HTF.out, pick_no Hhb3.out]; exact HM1.out⟩
              case measure => have := HJ.out; simp [intOf]; omega
            | true =>
              have Hhb3 := Lib.hid hb3
              clear hb3
              go_upto_region 12 with fail
              refine wp_region_fromM (fun W => Sep w [] [.blk N25 36 (bdc y), .blk N20 36 (bdc ((l.take j).foldl pickB b0)), .own bdc 36 16 (.slice pv14 (l.length + 1) cv14) ((b0 :: l)), .blk N7 66 (ltc ((openL R.ls a).getD noL)), .blk N4 36 (bdc noB), .blk N3 3 ([.int .i64 now]), .blk N2 34 (akc a)] W) hM ?_
              clear hM
              rintro Y30 hM
              refine tF 1 [.load 0 (some 55) 36 (pt N25 0) (bdv y)] ⟨load_part (hM.at 0 rfl) 0 (bdc y) rfl _ _ Tryz.underlying36 rfl (by kernel_rfl), trivial⟩ ?_
              have hst := sto_part (bdc y) (hM.at 1 rfl) 0 36 (bdv y) (bdc y) rfl (by kernel_rfl) (Nat.le_of_ble_eq_true rfl) rfl rfl
              refine sF 36 (pt N20 0) (bdv y) (hst) ?_
              clear hst
              replace hM := hM.set 1 (cs' := bdc y) rfl rfl
              generalize World.setRow _ _ _ = Y31 at *
              refine dF ?_
              try simp only [puts, Tk.put, Act.put, List.setIfInBounds_toArray, List.set_cons_zero, List.set_cons_succ]
              go_upto_region 13 with fail
              refine wp_region_fromM (fun W => Sep w [] [.blk N25 36 (bdc y), .blk N20 36 (bdc y), .own bdc 36 16 (.slice pv14 (l.length + 1) cv14) ((b0 :: l)), .blk N7 66 (ltc ((openL R.ls a).getD noL)), .blk N4 36 (bdc noB), .blk N3 3 ([.int .i64 now]), .blk N2 34 (akc a)] W) hM ?_
              clear hM
              rintro Y32 hM
              refine tF 2 [.alt 0 (some 56) (.int .i64 (IntKind.i64.wrap ((j : Int) + 1))) (.int .i64 ((j + 1 : Nat) : Int)), .val 1 (some 48) (.int .i64 ((j + 1 : Nat) : Int))] ⟨congrArg (Value.int .i64) ((IntWalk.i64_in _ (by have h1 := HRL.out; have := HJ.out; omega)).trans (by omega)), trivial⟩ ?_
              refine dF ?_
              try simp only [puts, Tk.put, Act.put, List.setIfInBounds_toArray, List.set_cons_zero, List.set_cons_succ]
              have hM1 := hM.sub (l' := [.blk N20 36 (bdc y), .own bdc 36 16 (.slice pv14 (l.length + 1) cv14) ((b0 :: l)), .blk N7 66 (ltc ((openL R.ls a).getD noL)), .blk N4 36 (bdc noB), .blk N3 3 ([.int .i64 now]), .blk N2 34 (akc a)]) (.cons _ (.cons_cons _ (.cons_cons _ (.cons_cons _ (.cons_cons _ (.cons_cons _ (.cons_cons _ .slnil)))))))
              have HM1 := Lib.hid hM1
              clear hM hM1
              go_wp2_with fail
              go_roundw
              case rel => exact ⟨j + 1, HJ.out, rfl, by rw [HTF.out, pick_yes Hhb3.out]; exact HM1.out⟩
              case measure => have := HJ.out; simp [intOf]; omega
          case neg =>
            obtain rfl : j = l.length := by omega
            go_upto_region 9 with fail
            refine wp_region_fromM (fun W => Sep w [] [.blk N20 36 (bdc ((l.take l.length).foldl pickB b0)), .own bdc 36 16 (.slice pv14 (l.length + 1) cv14) ((b0 :: l)), .blk N7 66 (ltc ((openL R.ls a).getD noL)), .blk N4 36 (bdc noB), .blk N3 3 ([.int .i64 now]), .blk N2 34 (akc a)] W) hM ?_
            clear hM
            rintro Y33 hM
            refine tF 1 [.alt 0 (some 49) (.bool (decide ((l.length : Int) < (l.length : Int)))) (.bool false)] ⟨congrArg Value.bool (decide_eq_false (by omega)), trivial⟩ ?_
            refine dF ?_
            try simp only [puts, Tk.put, Act.put, List.setIfInBounds_toArray, List.set_cons_zero, List.set_cons_succ]
            go_upto_region 14 with fail
            refine wp_region_fromM (fun W => Sep w [] [.blk N20 36 (bdc ((l.take l.length).foldl pickB b0)), .own bdc 36 16 (.slice pv14 (l.length + 1) cv14) ((b0 :: l)), .blk N7 66 (ltc ((openL R.ls a).getD noL)), .blk N4 36 (bdc noB), .blk N3 3 ([.int .i64 now]), .blk N2 34 (akc a)] W) hM ?_
            clear hM
            rintro Y34 hM
            refine tF 1 [.load 0 (some 57) 36 (pt N20 0) (bdv ((l.take l.length).foldl pickB b0))] ⟨load_part (hM.at 0 rfl) 0 (bdc ((l.take l.length).foldl pickB b0)) rfl _ _ Tryz.underlying36 rfl (by kernel_rfl), trivial⟩ ?_
            have hst := sto_part (bdc ((l.take l.length).foldl pickB b0)) (hM.at 3 rfl) 0 36 (bdv ((l.take l.length).foldl pickB b0)) (bdc ((l.take l.length).foldl pickB b0)) rfl (by kernel_rfl) (Nat.le_of_ble_eq_true rfl) rfl rfl
            refine sF 36 (pt N4 0) (bdv ((l.take l.length).foldl pickB b0)) (hst) ?_
            clear hst
            replace hM := hM.set 3 (cs' := bdc ((l.take l.length).foldl pickB b0)) rfl rfl
            generalize World.setRow _ _ _ = Y35 at *
            refine tF 3 [.val 2 (some 9) (.bool true)] trivial ?_
            refine dF ?_
            try simp only [puts, Tk.put, Act.put, List.setIfInBounds_toArray, List.set_cons_zero, List.set_cons_succ]
            go_wp2_with fail
            exact bodyPost_ret (v := .tuple #[bdv ((l.take l.length).foldl pickB b0), .bool true]) (res_two rfl _ rfl rfl (lv_bd (hM.at 3 rfl))) rfl ⟨by rw [best_top Hhb1.out Hhb2.out, HQ.out]; show _ = Ending.returned (.tuple #[bdv (l.foldl pickB b0), .bool true]); rw [List.take_length], hM.b⟩
    | true =>
      have Hhb2 := Lib.hid hb2
      clear hb2
      go_upto_region 3 with fail
      refine wp_region_fromM (fun W => Sep w [] [.blk N7 66 (ltc ((openL R.ls a).getD noL)), .blk N4 36 (bdc noB), .blk N3 3 ([.int .i64 now]), .blk N2 34 (akc a)] W) hM ?_
      clear hM
      rintro Y36 hM
      refine tF 1 [.val 0 (some 33) (bdv noB)] trivial ?_
      have hst := sto_part (bdc noB) (hM.at 1 rfl) 0 36 (bdv noB) (bdc noB) rfl (by kernel_rfl) (Nat.le_of_ble_eq_true rfl) rfl rfl
      refine sF 36 (pt N4 0) (bdv noB) (hst) ?_
      clear hst
      replace hM := hM.set 1 (cs' := bdc noB) rfl rfl
      generalize World.setRow _ _ _ = Y37 at *
      refine tF 3 [.val 2 (some 9) (.bool false)] trivial ?_
      refine dF ?_
      try simp only [puts, Tk.put, Act.put, List.setIfInBounds_toArray, List.set_cons_zero, List.set_cons_succ]
      go_wp2_with fail
      exact bodyPost_ret (v := .tuple #[bdv noB, .bool false]) (res_two rfl _ rfl rfl (lv_bd (hM.at 1 rfl))) rfl ⟨by rw [best_early Hhb1.out Hhb2.out]; rfl, hM.b⟩
def NewRm (R : Rm) (w : World) (e : Ending) (W' : World) : Prop := ∃ B va vb, e = .returned (.pointer (some ⟨B, 0, none⟩)) ∧ Sep w [] (RMR B R va vb) W'
set_option maxRecDepth 100000 in
set_option maxHeartbeats 4000000 in
theorem rmNew_nil (w : World) : Calls Tryz.prog 8 #[.slice none 0 0] w (NewRm ⟨⟨#[]⟩, ⟨#[]⟩, [], []⟩ w) := by
  have hmx : Tryz.prog.follows .mixedOrders = true := by kernel_rfl
  have hM := Sep.start w
  go_enter Tryz.func8, Tryz.ntmps8
  go_upto_region 0 with fail
  refine wp_region_fromM (fun W => Sep w [] [] W) hM ?_
  clear hM
  rintro Y1 hM
  refine tF 1 [.val 0 (some 2) (.pointer none)] trivial ?_
  refine dF ?_
  try simp only [puts, Tk.put, Act.put, List.setIfInBounds_toArray, List.set_cons_zero, List.set_cons_succ]
  go_upto_region 1 with fail
  refine wp_region_fromM (fun W => Sep w [] [] W) hM ?_
  clear hM
  rintro Y2 hM
  refine tF 1 [.val 0 (some 4) (.agg (rmc true ⟨#[]⟩ ⟨#[]⟩ (.slice none 0 0) (.slice none 0 0)).toArray)] trivial ?_
  refine rF (some 5) (pt Y2.heap.size 0) (Y2.alloc (.cells (rmc true ⟨#[]⟩ ⟨#[]⟩ (.slice none 0 0) (.slice none 0 0)).toArray 63)) ?_
  replace hM := hM.alloc 63 (rmc true ⟨#[]⟩ ⟨#[]⟩ (.slice none 0 0) (.slice none 0 0))
  generalize World.alloc _ _ = Y3 at *
  generalize hNe : Y2.heap.size = N3 at *
  clear hNe
  refine tF 3 [.val 2 (some 3) (pt N3 0)] trivial ?_
  refine dF ?_
  try simp only [puts, Tk.put, Act.put, List.setIfInBounds_toArray, List.set_cons_zero, List.set_cons_succ]
  go_upto_region 2 with fail
  refine wp_region_fromM (fun W => Sep w [] [.blk N3 63 (rmc true ⟨#[]⟩ ⟨#[]⟩ (.slice none 0 0) (.slice none 0 0))] W) hM ?_
  clear hM
  rintro Y4 hM
  refine tF 5 [.val 0 (some 6) (pt N3 0), .val 1 (some 7) (pt N3 0), .val 2 (some 8) (pt N3 1), .slc 3 (some 9) 60 (pt N3 1) none none none (.slice (some ⟨N3, 1, none⟩) 2 2), .val 4 (some 10) (.slice none 0 0)] ⟨slice_arr2 (c := 1) Tryz.underlying60 (fun W => by kernel_rfl) _ _ _, trivial⟩ ?_
  refine cpF 26 26 3 (some 11) (.slice (some ⟨N3, 1, none⟩) 2 2) (.slice none 0 0) (.int .i64 0) (run_copy_nil (P := Tryz.prog) Y4 26 26 3 9 _ 2 2 Tryz.underlying26 (by kernel_rfl)) ?_
  refine dF ?_
  try simp only [puts, Tk.put, Act.put, List.setIfInBounds_toArray, List.set_cons_zero, List.set_cons_succ]
  go_upto_region 3 with fail
  refine wp_region_fromM (fun W => Sep w [] [.blk N3 63 (rmc true ⟨#[]⟩ ⟨#[]⟩ (.slice none 0 0) (.slice none 0 0))] W) hM ?_
  clear hM
  rintro Y5 hM
  refine tF 2 [.val 0 (some 12) (pt N3 0), .val 1 (some 2) (pt N3 0)] trivial ?_
  refine dF ?_
  try simp only [puts, Tk.put, Act.put, List.setIfInBounds_toArray, List.set_cons_zero, List.set_cons_succ]
  replace hM := (hM.nil ltc 66 10).nil bdc 36 16
  go_wp2_with fail
  go_ret
  exact ⟨_, _, _, rfl, hM.pick [2, 1, 0] (by decide) rfl⟩
set_option maxRecDepth 100000 in
set_option maxHeartbeats 4000000 in
theorem rmNew_two {N : Nat} (s0 s1 : ByteArray) (w : World) (hn : Blk w N 9 [.string s0, .string s1]) : Calls Tryz.prog 8 #[.slice (some ⟨N, 0, none⟩) 2 2] w (NewRm ⟨s0, s1, [], []⟩ w) := by
  have hmx : Tryz.prog.follows .mixedOrders = true := by kernel_rfl
  have HN := Lib.hid hn
  clear hn
  have hM := Sep.start w
  go_enter Tryz.func8, Tryz.ntmps8
  go_upto_region 0 with fail
  refine wp_region_fromM (fun W => Sep w [] [] W) hM ?_
  clear hM
  rintro Y1 hM
  refine tF 1 [.val 0 (some 2) (.pointer none)] trivial ?_
  refine dF ?_
  try simp only [puts, Tk.put, Act.put, List.setIfInBounds_toArray, List.set_cons_zero, List.set_cons_succ]
  go_upto_region 1 with fail
  refine wp_region_fromM (fun W => Sep w [] [] W) hM ?_
  clear hM
  rintro Y2 hM
  refine tF 1 [.val 0 (some 4) (.agg (rmc true ⟨#[]⟩ ⟨#[]⟩ (.slice none 0 0) (.slice none 0 0)).toArray)] trivial ?_
  refine rF (some 5) (pt Y2.heap.size 0) (Y2.alloc (.cells (rmc true ⟨#[]⟩ ⟨#[]⟩ (.slice none 0 0) (.slice none 0 0)).toArray 63)) ?_
  replace hM := hM.alloc 63 (rmc true ⟨#[]⟩ ⟨#[]⟩ (.slice none 0 0) (.slice none 0 0))
  generalize World.alloc _ _ = Y3 at *
  generalize hNe : Y2.heap.size = N3 at *
  clear hNe
  refine tF 3 [.val 2 (some 3) (pt N3 0)] trivial ?_
  refine dF ?_
  try simp only [puts, Tk.put, Act.put, List.setIfInBounds_toArray, List.set_cons_zero, List.set_cons_succ]
  go_upto_region 2 with fail
  refine wp_region_fromM (fun W => Sep w [] [.blk N3 63 (rmc true ⟨#[]⟩ ⟨#[]⟩ (.slice none 0 0) (.slice none 0 0))] W) hM ?_
  clear hM
  rintro Y4 hM
  refine tF 5 [.val 0 (some 6) (pt N3 0), .val 1 (some 7) (pt N3 0), .val 2 (some 8) (pt N3 1), .slc 3 (some 9) 60 (pt N3 1) none none none (.slice (some ⟨N3, 1, none⟩) 2 2), .val 4 (some 10) (.slice (some ⟨N, 0, none⟩) 2 2)] ⟨slice_arr2 (c := 1) Tryz.underlying60 (fun W => by kernel_rfl) _ _ _, trivial⟩ ?_
  have hrun : (Builtin.copy_ #[26, 26] 3 #[.slice (some ⟨N3, 1, none⟩) 2 2, .slice (some ⟨N, 0, none⟩) 2 2]).run Tryz.prog Y4 = .ok (.int .i64 2) (Y4.setRow N3 (rmc true s0 s1 (.slice none 0 0) (.slice none 0 0)).toArray) := run_copy_row (P := Tryz.prog) Y4 26 26 3 9 N3 1 2 2 ⟨N, 0, none⟩ 2 2 (rmc true ⟨#[]⟩ ⟨#[]⟩ (.slice none 0 0) (.slice none 0 0)).toArray 63 [.string s0, .string s1] Tryz.underlying26 (by kernel_rfl) (hM.at 0 rfl) rfl (fun q u hu => by rw [addr_add, Nat.zero_add]; exact ((HN.out.below hM.b HN.out.lt).cell q).trans hu) (Nat.le_of_ble_eq_true rfl) (by simp [Value.oneCell'])
  refine cpF 26 26 3 (some 11) (.slice (some ⟨N3, 1, none⟩) 2 2) (.slice (some ⟨N, 0, none⟩) 2 2) (.int .i64 2) hrun ?_
  clear hrun
  replace hM := hM.set 0 (cs' := rmc true s0 s1 (.slice none 0 0) (.slice none 0 0)) rfl rfl
  generalize World.setRow _ _ _ = Y5 at *
  refine dF ?_
  try simp only [puts, Tk.put, Act.put, List.setIfInBounds_toArray, List.set_cons_zero, List.set_cons_succ]
  go_upto_region 3 with fail
  refine wp_region_fromM (fun W => Sep w [] [.blk N3 63 (rmc true s0 s1 (.slice none 0 0) (.slice none 0 0))] W) hM ?_
  clear hM
  rintro Y6 hM
  refine tF 2 [.val 0 (some 12) (pt N3 0), .val 1 (some 2) (pt N3 0)] trivial ?_
  refine dF ?_
  try simp only [puts, Tk.put, Act.put, List.setIfInBounds_toArray, List.set_cons_zero, List.set_cons_succ]
  replace hM := (hM.nil ltc 66 10).nil bdc 36 16
  go_wp2_with fail
  go_ret
  exact ⟨_, _, _, rfl, hM.pick [2, 1, 0] (by decide) rfl⟩
theorem clipLt_any {lo hi : Nat} {a : Option Addr} {cap : Nat} {l : List Lt} (w : World) (hl : RSl ltc lo hi w (.slice a l.length cap) l) : Calls Tryz.prog 24 #[.slice a l.length cap] w fun e W' => e = .returned (.slice a l.length l.length) ∧ W' = w := by
  have hcap : l.length ≤ cap := by obtain ⟨_, _, e, h, _⟩ := hl; cases e; exact h
  have hmax := hl.len
  unfold maxLen at hmax
  clear hl
  generalize l.length = n at *
  go_enter Tryz.func24, Tryz.ntmps24
  go_wp2
  go_ret
  exact ⟨rfl, rfl⟩
theorem clipBd_any {lo hi : Nat} {a : Option Addr} {cap : Nat} {l : List Bd} (w : World) (hl : RSl bdc lo hi w (.slice a l.length cap) l) : Calls Tryz.prog 34 #[.slice a l.length cap] w fun e W' => e = .returned (.slice a l.length l.length) ∧ W' = w := by
  have hcap : l.length ≤ cap := by obtain ⟨_, _, e, h, _⟩ := hl; cases e; exact h
  have hmax := hl.len
  unfold maxLen at hmax
  clear hl
  generalize l.length = n at *
  go_enter Tryz.func34, Tryz.ntmps34
  go_wp2
  go_ret
  exact ⟨rfl, rfl⟩
theorem open_err {R : Rm} {a : Ak} {now : Int} (h : (errA a != 0) = true) : openR R a now = (R, errA a) := if_pos (bne_iff_ne.1 h)
theorem open_is {R : Rm} {a : Ak} {now : Int} (h : (errA a != 0) = false) (h' : (openL R.ls a).isSome = true) : openR R a now = (R, 32) := by
  unfold openR
  rw [if_neg (fun e => e (bne_eq_false_iff_eq.1 h)), if_pos h']
theorem open_full {R : Rm} {a : Ak} {now : Int} (h : (errA a != 0) = false) (h' : (openL R.ls a).isSome = false) (h3 : decide (8 ≤ (R.ls.length : Int)) = true) : openR R a now = (R, 10) := by
  unfold openR
  rw [if_neg (fun e => e (bne_eq_false_iff_eq.1 h)), if_neg (by rw [h']; decide), if_pos (by have h := of_decide_eq_true h3; omega)]
theorem open_yes {R : Rm} {a : Ak} {now z : Int} (h : (errA a != 0) = false) (h' : (openL R.ls a).isSome = false) (h3 : decide (8 ≤ (R.ls.length : Int)) = false) (hz : sinceI now = z) : openR R a now = ({ R with ls := R.ls ++ [⟨a, z⟩] }, 0) := by
  unfold openR
  rw [if_neg (fun e => e (bne_eq_false_iff_eq.1 h)), if_neg (by rw [h']; decide), if_neg (by have h := of_decide_eq_false h3; omega), hz]
theorem since_neg {t : Int} (h : decide (t < 0) = true) : sinceI t = 0 := if_pos (.inl (of_decide_eq_true h))
theorem since_big {t : Int} (h : decide (1099511627776 < t) = true) : sinceI t = 0 := if_pos (.inr (of_decide_eq_true h))
theorem since_in {t : Int} (h : decide (t < 0) = false) (h' : decide (1099511627776 < t) = false) : sinceI t = t := if_neg fun e => e.elim (of_decide_eq_false h) (of_decide_eq_false h')
theorem since_ok (t : Int) : 0 ≤ sinceI t ∧ sinceI t ≤ 1099511627776 := by unfold sinceI; split <;> omega
theorem takes_no1 {V : Bool} {R : Rm} {b : Bd} {now : Int} (h : (openL R.ls b.k).isSome = false) : takesB V R b now = false := by unfold takesB; rw [h]; rfl
theorem takes_no2 {V : Bool} {R : Rm} {b : Bd} {now : Int} (h : decide (b.un < now) = true) : takesB V R b now = false := by unfold takesB; rw [show decide (now ≤ b.un) = false from decide_eq_false (by have h := of_decide_eq_true h; omega), Bool.false_and, Bool.and_false]
theorem takes_no3 {V : Bool} {R : Rm} {b : Bd} {now : Int} (h : V = false) : takesB V R b now = false := by unfold takesB; rw [h, Bool.false_and, Bool.and_false, Bool.and_false]
theorem takes_no4 {V : Bool} {R : Rm} {b : Bd} {now : Int} (h : decide (0 < ((forB R.bs b.k (byB b.ro)).length : Int)) = true) : takesB V R b now = false := by
  have h := of_decide_eq_true h
  unfold takesB
  rw [show (forB R.bs b.k (byB b.ro)).isEmpty = false by cases e : forB R.bs b.k (byB b.ro) with | nil => rw [e] at h; exact absurd h (by decide) | cons => rfl]
  rw [Bool.and_false, Bool.and_false, Bool.and_false]
theorem takes_yes {V : Bool} {R : Rm} {b : Bd} {now : Int} (h1 : (openL R.ls b.k).isSome = true) (h2 : decide (b.un < now) = false) (h3 : V = true) (h : decide (0 < ((forB R.bs b.k (byB b.ro)).length : Int)) = false) : takesB V R b now = true := by
  have h := of_decide_eq_false h
  unfold takesB
  rw [h1, h3, show decide (now ≤ b.un) = true from decide_eq_true (by have h := of_decide_eq_false h2; omega), List.length_eq_zero_iff.1 (show (forB R.bs b.k (byB b.ro)).length = 0 by omega)]
  rfl
theorem bid_no {V : Bool} {R : Rm} {b : Bd} {now : Int} (h : takesB V R b now = false) : bidR V R b now = (R, false) := if_neg (by rw [h]; decide)
theorem bid_yes {V : Bool} {R : Rm} {b : Bd} {now : Int} (h : takesB V R b now = true) : bidR V R b now = ({ R with bs := R.bs ++ [b] }, true) := if_pos h
set_option maxRecDepth 100000 in
set_option maxHeartbeats 4000000 in
theorem rmOpen_any {B : Nat} {R : Rm} {va vb : Value} (a : Ak) (now : Int) (w : World) (h : ROk (.join (RMR B R va vb)) w) : Calls Tryz.prog 10 #[.pointer (some ⟨B, 0, none⟩), akv a, .int .i64 now] w (RmR B (.join (RMR B R va vb)) (openR R a now).1 (.int .i64 (openR R a now).2) w) := by
  have hmx : Tryz.prog.follows .mixedOrders = true := by kernel_rfl
  have hM := Sep.begin h
  obtain ⟨pa, ca, rfl⟩ := (hM.oka 1 rfl).slice ltc_len
  obtain ⟨pb, cb, rfl⟩ := (hM.oka 2 rfl).slice bdc_len
  clear h
  replace hM : Sep w (Res.join (RMR B R (.slice pa R.ls.length ca) (.slice pb R.bs.length cb))).foot [.blk B 63 (rmc true R.r0 R.r1 (.slice pa R.ls.length ca) (.slice pb R.bs.length cb)), .own ltc 66 10 (.slice pa R.ls.length ca) (R.ls), .own bdc 36 16 (.slice pb R.bs.length cb) (R.bs)] w := hM
  go_enter Tryz.func10, Tryz.ntmps10
  go_upto_region 0 with fail
  refine wp_region_fromM (fun W => Sep w (Res.join (RMR B R (.slice pa R.ls.length ca) (.slice pb R.bs.length cb))).foot [.blk B 63 (rmc true R.r0 R.r1 (.slice pa R.ls.length ca) (.slice pb R.bs.length cb)), .own ltc 66 10 (.slice pa R.ls.length ca) (R.ls), .own bdc 36 16 (.slice pb R.bs.length cb) (R.bs)] W) hM ?_
  clear hM
  rintro Y1 hM
  refine rF (some 4) (pt Y1.heap.size 0) (Y1.alloc (.cells (akc a).toArray 34)) ?_
  replace hM := hM.alloc 34 (akc a)
  generalize World.alloc _ _ = Y2 at *
  generalize hNe : Y1.heap.size = N2 at *
  clear hNe
  refine tF 2 [.val 1 (some 6) (.int .i64 0)] trivial ?_
  refine dF ?_
  try simp only [puts, Tk.put, Act.put, List.setIfInBounds_toArray, List.set_cons_zero, List.set_cons_succ]
  go_upto_region 1 with fail
  refine wp_region_fromM (fun W => Sep w (Res.join (RMR B R (.slice pa R.ls.length ca) (.slice pb R.bs.length cb))).foot [.blk N2 34 (akc a), .blk B 63 (rmc true R.r0 R.r1 (.slice pa R.ls.length ca) (.slice pb R.bs.length cb)), .own ltc 66 10 (.slice pa R.ls.length ca) (R.ls), .own bdc 36 16 (.slice pb R.bs.length cb) (R.bs)] W) hM ?_
  clear hM
  rintro Y3 hM
  refine tF 1 [.val 0 (some 10) (pt B 0)] trivial ?_
  refine cF (some 11) 21 #[pt B 0] ((rmThere_yes _ (hM.at 1 rfl)).mono ?_)
  rintro e Y4 ⟨rfl, hb⟩
  replace hM := hM.below hb
  clear hb
  refine tF 3 [.val 2 (some 12) (.bool false)] trivial ?_
  refine dF ?_
  try simp only [puts, Tk.put, Act.put, List.setIfInBounds_toArray, List.set_cons_zero, List.set_cons_succ]
  go_upto_region 3 with fail
  refine wp_region_fromM (fun W => Sep w (Res.join (RMR B R (.slice pa R.ls.length ca) (.slice pb R.bs.length cb))).foot [.blk N2 34 (akc a), .blk B 63 (rmc true R.r0 R.r1 (.slice pa R.ls.length ca) (.slice pb R.bs.length cb)), .own ltc 66 10 (.slice pa R.ls.length ca) (R.ls), .own bdc 36 16 (.slice pb R.bs.length cb) (R.bs)] W) hM ?_
  clear hM
  rintro Y5 hM
  refine tF 1 [.load 0 (some 13) 34 (pt N2 0) (akv a)] ⟨load_part (hM.at 0 rfl) 0 (akc a) rfl _ _ Tryz.underlying34 rfl (by kernel_rfl), trivial⟩ ?_
  refine cF (some 14) 22 #[akv a] ((checkAsk_any a _).mono ?_)
  rintro e Y6 ⟨rfl, hb⟩
  replace hM := hM.below hb
  clear hb
  refine tF 3 [.val 2 (some 7) (.int .i64 (errA a))] trivial ?_
  refine dF ?_
  try simp only [puts, Tk.put, Act.put, List.setIfInBounds_toArray, List.set_cons_zero, List.set_cons_succ]
  go_upto_region 4 with fail
  refine wp_region_fromM (fun W => Sep w (Res.join (RMR B R (.slice pa R.ls.length ca) (.slice pb R.bs.length cb))).foot [.blk N2 34 (akc a), .blk B 63 (rmc true R.r0 R.r1 (.slice pa R.ls.length ca) (.slice pb R.bs.length cb)), .own ltc 66 10 (.slice pa R.ls.length ca) (R.ls), .own bdc 36 16 (.slice pb R.bs.length cb) (R.bs)] W) hM ?_
  clear hM
  rintro Y7 hM
  refine tF 2 [.val 0 (some 15) (.int .i64 (errA a)), .val 1 (some 16) (.bool ((errA a) != 0))] trivial ?_
  refine dF ?_
  try simp only [puts, Tk.put, Act.put, List.setIfInBounds_toArray, List.set_cons_zero, List.set_cons_succ]
  cases hb1 : (errA a) != 0 with
  | false =>
    have Hhb1 := Lib.hid hb1
    clear hb1
    go_upto_region 6 with fail
    refine wp_region_fromM (fun W => Sep w (Res.join (RMR B R (.slice pa R.ls.length ca) (.slice pb R.bs.length cb))).foot [.blk N2 34 (akc a), .blk B 63 (rmc true R.r0 R.r1 (.slice pa R.ls.length ca) (.slice pb R.bs.length cb)), .own ltc 66 10 (.slice pa R.ls.length ca) (R.ls), .own bdc 36 16 (.slice pb R.bs.length cb) (R.bs)] W) hM ?_
    clear hM
    rintro Y8 hM
    refine tF 2 [.val 0 (some 19) (pt B 0), .load 1 (some 20) 34 (pt N2 0) (akv a)] ⟨load_part (hM.at 0 rfl) 0 (akc a) rfl _ _ Tryz.underlying34 rfl (by kernel_rfl), trivial⟩ ?_
    refine cF (some 21) 23 #[pt B 0, akv a] ((rmOpened_any a _ (⟨hM.at 1 rfl, (hM.oka 2 rfl).rsl ltc_len, (hM.oka 3 rfl).rsl bdc_len⟩)).mono ?_)
    rintro e Y9 ⟨rfl, hb⟩
    replace hM := hM.below hb
    clear hb
    refine tF 6 [.val 3 (some 18) (.tuple #[ltv ((openL R.ls a).getD noL), .bool (openL R.ls a).isSome]), .val 4 (some 22) (ltv ((openL R.ls a).getD noL)), .val 5 (some 23) (.bool (openL R.ls a).isSome)] trivial ?_
    refine rF (some 8) (pt Y9.heap.size 0) (Y9.alloc (.cells (ltc noL).toArray 66)) ?_
    replace hM := hM.alloc 66 (ltc noL)
    generalize World.alloc _ _ = Y10 at *
    generalize hNe : Y9.heap.size = N10 at *
    clear hNe
    have hst := sto_part (ltc ((openL R.ls a).getD noL)) (hM.at 0 rfl) 0 66 (ltv ((openL R.ls a).getD noL)) (ltc ((openL R.ls a).getD noL)) rfl (by kernel_rfl) (Nat.le_of_ble_eq_true rfl) rfl rfl
    refine sF 66 (pt N10 0) (ltv ((openL R.ls a).getD noL)) (hst) ?_
    clear hst
    replace hM := hM.set 0 (cs' := ltc ((openL R.ls a).getD noL)) rfl rfl
    generalize World.setRow _ _ _ = Y11 at *
    refine tF 9 [.val 8 (some 9) (.bool (openL R.ls a).isSome)] trivial ?_
    refine dF ?_
    try simp only [puts, Tk.put, Act.put, List.setIfInBounds_toArray, List.set_cons_zero, List.set_cons_succ]
    go_upto_region 7 with fail
    refine wp_region_fromM (fun W => Sep w (Res.join (RMR B R (.slice pa R.ls.length ca) (.slice pb R.bs.length cb))).foot [.blk N10 66 (ltc ((openL R.ls a).getD noL)), .blk N2 34 (akc a), .blk B 63 (rmc true R.r0 R.r1 (.slice pa R.ls.length ca) (.slice pb R.bs.length cb)), .own ltc 66 10 (.slice pa R.ls.length ca) (R.ls), .own bdc 36 16 (.slice pb R.bs.length cb) (R.bs)] W) hM ?_
    clear hM
    rintro Y12 hM
    refine tF 1 [.val 0 (some 24) (.bool (openL R.ls a).isSome)] trivial ?_
    refine dF ?_
    try simp only [puts, Tk.put, Act.put, List.setIfInBounds_toArray, List.set_cons_zero, List.set_cons_succ]
    cases hb2 : (openL R.ls a).isSome with
    | false =>
      have Hhb2 := Lib.hid hb2
      clear hb2
      go_upto_region 9 with fail
      refine wp_region_fromM (fun W => Sep w (Res.join (RMR B R (.slice pa R.ls.length ca) (.slice pb R.bs.length cb))).foot [.blk N10 66 (ltc ((openL R.ls a).getD noL)), .blk N2 34 (akc a), .blk B 63 (rmc true R.r0 R.r1 (.slice pa R.ls.length ca) (.slice pb R.bs.length cb)), .own ltc 66 10 (.slice pa R.ls.length ca) (R.ls), .own bdc 36 16 (.slice pb R.bs.length cb) (R.bs)] W) hM ?_
      clear hM
      rintro Y13 hM
      refine tF 6 [.val 0 (some 25) (pt B 0), .val 1 (some 26) (pt B 0), .val 2 (some 27) (pt B 3), .load 3 (some 28) 61 (pt B 3) (.slice pa R.ls.length ca), .val 4 (some 29) (.int .i64 (R.ls.length : Int)), .val 5 (some 30) (.bool (decide (8 ≤ (R.ls.length : Int))))] ⟨ld_any _ _ Tryz.underlying61 rfl (hM.at 2 rfl) 3 rfl, trivial⟩ ?_
      refine dF ?_
      try simp only [puts, Tk.put, Act.put, List.setIfInBounds_toArray, List.set_cons_zero, List.set_cons_succ]
      cases hb3 : decide (8 ≤ (R.ls.length : Int)) with
      | false =>
        have Hhb3 := Lib.hid hb3
        clear hb3
        go_upto_region 11 with fail
        refine wp_region_fromM (fun W => Sep w (Res.join (RMR B R (.slice pa R.ls.length ca) (.slice pb R.bs.length cb))).foot [.blk N10 66 (ltc ((openL R.ls a).getD noL)), .blk N2 34 (akc a), .blk B 63 (rmc true R.r0 R.r1 (.slice pa R.ls.length ca) (.slice pb R.bs.length cb)), .own ltc 66 10 (.slice pa R.ls.length ca) (R.ls), .own bdc 36 16 (.slice pb R.bs.length cb) (R.bs)] W) hM ?_
        clear hM
        rintro Y14 hM
        refine tF 3 [.val 0 (some 31) (.int .i64 now), .val 1 (some 32) (.bool (decide (now < 0))), .val 2 (some 33) (.bool (decide (now < 0)))] trivial ?_
        cases hb4 : decide (now < 0) with
        | false =>
          have Hhb4 := Lib.hid hb4
          clear hb4
          refine tF 6 [.val 3 (some 34) (.int .i64 now), .val 4 (some 35) (.bool (decide (1099511627776 < now))), .val 5 (some 36) (.bool (decide (1099511627776 < now)))] trivial ?_
          refine dF ?_
          try simp only [puts, Tk.put, Act.put, List.setIfInBounds_toArray, List.set_cons_zero, List.set_cons_succ]
          cases hb5 : decide (1099511627776 < now) with
          | false =>
            have Hhb5 := Lib.hid hb5
            clear hb5
            go_upto_region 13 with fail
            refine wp_region_M (fun W => Sep w (Res.join (RMR B R (.slice pa R.ls.length ca) (.slice pb R.bs.length cb))).foot [.blk N10 66 (ltc ((openL R.ls a).getD noL)), .blk N2 34 (akc a), .own bdc 36 16 (.slice pb R.bs.length cb) (R.bs)] W) (fun W => Sep w (Res.join (RMR B R (.slice pa R.ls.length ca) (.slice pb R.bs.length cb))).foot [.blk N10 66 (ltc ((openL R.ls a).getD noL)), .blk N2 34 (akc a), .blk B 63 (rmc true R.r0 R.r1 (.slice pa R.ls.length ca) (.slice pb R.bs.length cb)), .own ltc 66 10 (.slice pa R.ls.length ca) (R.ls), .own bdc 36 16 (.slice pb R.bs.length cb) (R.bs)] W) hmx hM.drew ?_
            clear hM
            rintro Y15 hM
            have hS := hM.sub (.cons_cons _ (.cons_cons _ (.cons _ (.cons _ (.cons_cons _ .slnil)))))
            refine tD 7 [.val 0 (some 37) (pt B 0), .val 1 (some 38) (pt B 0), .val 2 (some 39) (pt B 0), .val 3 (some 40) (pt B 3), .load 6 (some 43) 34 (pt N2 0) (akv a), .val 7 (some 44) (.int .i64 now), .val 8 (some 45) (ltv (Lt.mk a now))] ⟨fun W h => load_part (h.at 1 rfl) 0 (akc a) rfl _ _ Tryz.underlying34 rfl (by kernel_rfl), trivial⟩ hS ?_
            refine oT 4 9 6 ?_ ?_
            · refine lD (some 41) 61 (pt B 3) (.slice pa R.ls.length ca) (ld_any _ _ Tryz.underlying61 rfl (hM.at 2 rfl) 3 rfl) (hS) ?_
              refine oT 5 9 5 ?_ ?_
              · refine cD (some 42) 24 #[.slice pa R.ls.length ca] ((clipLt_any _ ((hM.oka 3 rfl).rsl ltc_len)).mono ?_)
                rintro e Y16 ⟨rfl, rfl⟩
                refine And.intro (hS) ?_
                refine oD 9 4 (rD (some 46) (.slice (some ⟨Y16.heap.size, 0, none⟩) 1 1) (Y16.alloc (.cells (ltc (Lt.mk a now)).toArray 66)) (hS.other _) ?_)
                replace hS := hS.other (.cells (ltc (Lt.mk a now)).toArray 66)
                replace hM := hM.alloc 66 (ltc (Lt.mk a now))
                generalize World.alloc _ _ = Y17 at *
                generalize hNe : Y16.heap.size = N17 at *
                clear hNe
                obtain ⟨v18, Y18, hrun, ht⟩ := own_clip1 infoLt rfl (by decide) Tryz.underlying61 ltc_len ltc_one (hM.oka 4 rfl) (Lt.mk a now) (hM.at 0 rfl) (by decide) (by have h := of_decide_eq_false Hhb3.out; omega) 61
                obtain ⟨pv18, cv18, rfl⟩ := ht.ok.slice ltc_len
                have hM1 := hM.turn 4 rfl ht rfl
                clear ht
                refine oD 10 3 (stepH_append (d := some 47) (t := 61) (t' := 61) (ty := 61) (v := .slice pa R.ls.length R.ls.length) (x := .slice (some ⟨N17, 0, none⟩) 1 1) (by kernel_rfl) hrun (hM1.sub (.cons _ (.cons_cons _ (.cons_cons _ (.cons _ (.cons _ (.cons_cons _ .slnil))))))) ?_)
                replace hS := hM1.sub (.cons _ (.cons_cons _ (.cons_cons _ (.cons _ (.cons _ (.cons_cons _ .slnil))))))
                replace hM := hM1
                clear hM1 hrun
                refine tD 1 [.val 11 (some 48) (pt B 0), .val 12 (some 49) (pt B 3)] trivial hS ?_
                have hst := (sto_part (rmc true R.r0 R.r1 (.slice pv18 (R.ls ++ [Lt.mk a now]).length cv18) (.slice pb R.bs.length cb)) (hM.at 3 rfl) 3 61 (.slice pv18 (R.ls ++ [Lt.mk a now]).length cv18) ([.slice pv18 (R.ls ++ [Lt.mk a now]).length cv18]) rfl (by kernel_rfl) (Nat.le_of_ble_eq_true rfl) rfl rfl)
                have hM1 := hM.set 3 (cs' := rmc true R.r0 R.r1 (.slice pv18 (R.ls ++ [Lt.mk a now]).length cv18) (.slice pb R.bs.length cb)) rfl rfl
                refine oD 13 0 (sD 61 (pt B 3) (.slice pv18 (R.ls ++ [Lt.mk a now]).length cv18) (hst) (hM1.sub (.cons _ (.cons_cons _ (.cons_cons _ (.cons _ (.cons _ (.cons_cons _ .slnil))))))) ?_)
                clear hst
                replace hS := hM1.sub (.cons _ (.cons_cons _ (.cons_cons _ (.cons _ (.cons _ (.cons_cons _ .slnil))))))
                replace hM := hM1
                clear hM1
                generalize World.setRow _ _ _ = Y19 at *
                refine dD ?_
                try simp only [puts, Tk.put, Act.put, List.setIfInBounds_toArray, List.set_cons_zero, List.set_cons_succ]
                clear hS
                go_upto_region 14 with fail
                refine wp_region_fromM (fun W => Sep w (Res.join (RMR B R (.slice pa R.ls.length ca) (.slice pb R.bs.length cb))).foot [.blk N17 66 (ltc (Lt.mk a now)), .blk N10 66 (ltc ((openL R.ls a).getD noL)), .blk N2 34 (akc a), .blk B 63 (rmc true R.r0 R.r1 (.slice pv18 (R.ls ++ [Lt.mk a now]).length cv18) (.slice pb R.bs.length cb)), .own ltc 66 10 (.slice pv18 (R.ls ++ [Lt.mk a now]).length cv18) (R.ls ++ [Lt.mk a now]), .own bdc 36 16 (.slice pb R.bs.length cb) (R.bs)] W) hM ?_
                clear hM
                rintro Y20 hM
                refine tF 1 [.val 0 (some 6) (.int .i64 0)] trivial ?_
                refine dF ?_
                try simp only [puts, Tk.put, Act.put, List.setIfInBounds_toArray, List.set_cons_zero, List.set_cons_succ]
                go_wp2_with fail
                go_ret
                rw [open_yes Hhb1.out Hhb2.out Hhb3.out (since_in Hhb4.out Hhb5.out)]
                exact ⟨rfl, _, _, Sep.fin (hM.pick [3, 4, 5] (by decide) rfl) (List.Sublist.refl _)⟩
              · refine rD (some 46) (.slice (some ⟨Y15.heap.size, 0, none⟩) 1 1) (Y15.alloc (.cells (ltc (Lt.mk a now)).toArray 66)) (hS.other _) ?_
                replace hS := hS.other (.cells (ltc (Lt.mk a now)).toArray 66)
                replace hM := hM.alloc 66 (ltc (Lt.mk a now))
                generalize World.alloc _ _ = Y21 at *
                generalize hNe : Y15.heap.size = N21 at *
                clear hNe
                refine oD 5 4 (cD (some 42) 24 #[.slice pa R.ls.length ca] ((clipLt_any _ ((hM.oka 4 rfl).rsl ltc_len)).mono ?_))
                rintro e Y22 ⟨rfl, rfl⟩
                refine And.intro (hS) ?_
                obtain ⟨v23, Y23, hrun, ht⟩ := own_clip1 infoLt rfl (by decide) Tryz.underlying61 ltc_len ltc_one (hM.oka 4 rfl) (Lt.mk a now) (hM.at 0 rfl) (by decide) (by have h := of_decide_eq_false Hhb3.out; omega) 61
                obtain ⟨pv23, cv23, rfl⟩ := ht.ok.slice ltc_len
                have hM1 := hM.turn 4 rfl ht rfl
                clear ht
                refine oD 10 3 (stepH_append (d := some 47) (t := 61) (t' := 61) (ty := 61) (v := .slice pa R.ls.length R.ls.length) (x := .slice (some ⟨N21, 0, none⟩) 1 1) (by kernel_rfl) hrun (hM1.sub (.cons _ (.cons_cons _ (.cons_cons _ (.cons _ (.cons _ (.cons_cons _ .slnil))))))) ?_)
                replace hS := hM1.sub (.cons _ (.cons_cons _ (.cons_cons _ (.cons _ (.cons _ (.cons_cons _ .slnil))))))
                replace hM := hM1
                clear hM1 hrun
                refine tD 1 [.val 11 (some 48) (pt B 0), .val 12 (some 49) (pt B 3)] trivial hS ?_
                have hst := (sto_part (rmc true R.r0 R.r1 (.slice pv23 (R.ls ++ [Lt.mk a now]).length cv23) (.slice pb R.bs.length cb)) (hM.at 3 rfl) 3 61 (.slice pv23 (R.ls ++ [Lt.mk a now]).length cv23) ([.slice pv23 (R.ls ++ [Lt.mk a now]).length cv23]) rfl (by kernel_rfl) (Nat.le_of_ble_eq_true rfl) rfl rfl)
                have hM1 := hM.set 3 (cs' := rmc true R.r0 R.r1 (.slice pv23 (R.ls ++ [Lt.mk a now]).length cv23) (.slice pb R.bs.length cb)) rfl rfl
                refine oD 13 0 (sD 61 (pt B 3) (.slice pv23 (R.ls ++ [Lt.mk a now]).length cv23) (hst) (hM1.sub (.cons _ (.cons_cons _ (.cons_cons _ (.cons _ (.cons _ (.cons_cons _ .slnil))))))) ?_)
                clear hst
                replace hS := hM1.sub (.cons _ (.cons_cons _ (.cons_cons _ (.cons _ (.cons _ (.cons_cons _ .slnil))))))
                replace hM := hM1
                clear hM1
                generalize World.setRow _ _ _ = Y24 at *
                refine dD ?_
                try simp only [puts, Tk.put, Act.put, List.setIfInBounds_toArray, List.set_cons_zero, List.set_cons_succ]
                clear hS
                go_upto_region 14 with fail
                refine wp_region_fromM (fun W => Sep w (Res.join (RMR B R (.slice pa R.ls.length ca) (.slice pb R.bs.length cb))).foot [.blk N21 66 (ltc (Lt.mk a now)), .blk N10 66 (ltc ((openL R.ls a).getD noL)), .blk N2 34 (akc a), .blk B 63 (rmc true R.r0 R.r1 (.slice pv23 (R.ls ++ [Lt.mk a now]).length cv23) (.slice pb R.bs.length cb)), .own ltc 66 10 (.slice pv23 (R.ls ++ [Lt.mk a now]).length cv23) (R.ls ++ [Lt.mk a now]), .own bdc 36 16 (.slice pb R.bs.length cb) (R.bs)] W) hM ?_
                clear hM
                rintro Y25 hM
                refine tF 1 [.val 0 (some 6) (.int .i64 0)] trivial ?_
                refine dF ?_
                try simp only [puts, Tk.put, Act.put, List.setIfInBounds_toArray, List.set_cons_zero, List.set_cons_succ]
                go_wp2_with fail
                go_ret
                rw [open_yes Hhb1.out Hhb2.out Hhb3.out (since_in Hhb4.out Hhb5.out)]
                exact ⟨rfl, _, _, Sep.fin (hM.pick [3, 4, 5] (by decide) rfl) (List.Sublist.refl _)⟩
            · refine rD (some 46) (.slice (some ⟨Y15.heap.size, 0, none⟩) 1 1) (Y15.alloc (.cells (ltc (Lt.mk a now)).toArray 66)) (hS.other _) ?_
              replace hS := hS.other (.cells (ltc (Lt.mk a now)).toArray 66)
              replace hM := hM.alloc 66 (ltc (Lt.mk a now))
              generalize World.alloc _ _ = Y26 at *
              generalize hNe : Y15.heap.size = N26 at *
              clear hNe
              refine oD 4 5 (lD (some 41) 61 (pt B 3) (.slice pa R.ls.length ca) (ld_any _ _ Tryz.underlying61 rfl (hM.at 3 rfl) 3 rfl) (hS) ?_)
              refine oD 5 4 (cD (some 42) 24 #[.slice pa R.ls.length ca] ((clipLt_any _ ((hM.oka 4 rfl).rsl ltc_len)).mono ?_))
              rintro e Y27 ⟨rfl, rfl⟩
              refine And.intro (hS) ?_
              obtain ⟨v28, Y28, hrun, ht⟩ := own_clip1 infoLt rfl (by decide) Tryz.underlying61 ltc_len ltc_one (hM.oka 4 rfl) (Lt.mk a now) (hM.at 0 rfl) (by decide) (by have h := of_decide_eq_false Hhb3.out; omega) 61
              obtain ⟨pv28, cv28, rfl⟩ := ht.ok.slice ltc_len
              have hM1 := hM.turn 4 rfl ht rfl
              clear ht
              refine oD 10 3 (stepH_append (d := some 47) (t := 61) (t' := 61) (ty := 61) (v := .slice pa R.ls.length R.ls.length) (x := .slice (some ⟨N26, 0, none⟩) 1 1) (by kernel_rfl) hrun (hM1.sub (.cons _ (.cons_cons _ (.cons_cons _ (.cons _ (.cons _ (.cons_cons _ .slnil))))))) ?_)
              replace hS := hM1.sub (.cons _ (.cons_cons _ (.cons_cons _ (.cons _ (.cons _ (.cons_cons _ .slnil))))))
              replace hM := hM1
              clear hM1 hrun
              refine tD 1 [.val 11 (some 48) (pt B 0), .val 12 (some 49) (pt B 3)] trivial hS ?_
              have hst := (sto_part (rmc true R.r0 R.r1 (.slice pv28 (R.ls ++ [Lt.mk a now]).length cv28) (.slice pb R.bs.length cb)) (hM.at 3 rfl) 3 61 (.slice pv28 (R.ls ++ [Lt.mk a now]).length cv28) ([.slice pv28 (R.ls ++ [Lt.mk a now]).length cv28]) rfl (by kernel_rfl) (Nat.le_of_ble_eq_true rfl) rfl rfl)
              have hM1 := hM.set 3 (cs' := rmc true R.r0 R.r1 (.slice pv28 (R.ls ++ [Lt.mk a now]).length cv28) (.slice pb R.bs.length cb)) rfl rfl
              refine oD 13 0 (sD 61 (pt B 3) (.slice pv28 (R.ls ++ [Lt.mk a now]).length cv28) (hst) (hM1.sub (.cons _ (.cons_cons _ (.cons_cons _ (.cons _ (.cons _ (.cons_cons _ .slnil))))))) ?_)
              clear hst
              replace hS := hM1.sub (.cons _ (.cons_cons _ (.cons_cons _ (.cons _ (.cons _ (.cons_cons _ .slnil))))))
              replace hM := hM1
              clear hM1
              generalize World.setRow _ _ _ = Y29 at *
              refine dD ?_
              try simp only [puts, Tk.put, Act.put, List.setIfInBounds_toArray, List.set_cons_zero, List.set_cons_succ]
              clear hS
              go_upto_region 14 with fail
              refine wp_region_fromM (fun W => Sep w (Res.join (RMR B R (.slice pa R.ls.length ca) (.slice pb R.bs.length cb))).foot [.blk N26 66 (ltc (Lt.mk a now)), .blk N10 66 (ltc ((openL R.ls a).getD noL)), .blk N2 34 (akc a), .blk B 63 (rmc true R.r0 R.r1 (.slice pv28 (R.ls ++ [Lt.mk a now]).length cv28) (.slice pb R.bs.length cb)), .own ltc 66 10 (.slice pv28 (R.ls ++ [Lt.mk a now]).length cv28) (R.ls ++ [Lt.mk a now]), .own bdc 36 16 (.slice pb R.bs.length cb) (R.bs)] W) hM ?_
              clear hM
              rintro Y30 hM
              refine tF 1 [.val 0 (some 6) (.int .i64 0)] trivial ?_
              refine dF ?_
              try simp only [puts, Tk.put, Act.put, List.setIfInBounds_toArray, List.set_cons_zero, List.set_cons_succ]
              go_wp2_with fail
              go_ret
              rw [open_yes Hhb1.out Hhb2.out Hhb3.out (since_in Hhb4.out Hhb5.out)]
              exact ⟨rfl, _, _, Sep.fin (hM.pick [3, 4, 5] (by decide) rfl) (List.Sublist.refl _)⟩
          | true =>
            have Hhb5 := Lib.hid hb5
            clear hb5
            go_upto_region 12 with fail
            refine wp_region_fromM (fun W => Sep w (Res.join (RMR B R (.slice pa R.ls.length ca) (.slice pb R.bs.length cb))).foot [.blk N10 66 (ltc ((openL R.ls a).getD noL)), .blk N2 34 (akc a), .blk B 63 (rmc true R.r0 R.r1 (.slice pa R.ls.length ca) (.slice pb R.bs.length cb)), .own ltc 66 10 (.slice pa R.ls.length ca) (R.ls), .own bdc 36 16 (.slice pb R.bs.length cb) (R.bs)] W) hM ?_
            clear hM
            rintro Y31 hM
            refine tF 1 [.val 0 (some 2) (.int .i64 0)] trivial ?_
            refine dF ?_
            try simp only [puts, Tk.put, Act.put, List.setIfInBounds_toArray, List.set_cons_zero, List.set_cons_succ]
            go_upto_region 13 with fail
            refine wp_region_M (fun W => Sep w (Res.join (RMR B R (.slice pa R.ls.length ca) (.slice pb R.bs.length cb))).foot [.blk N10 66 (ltc ((openL R.ls a).getD noL)), .blk N2 34 (akc a), .own bdc 36 16 (.slice pb R.bs.length cb) (R.bs)] W) (fun W => Sep w (Res.join (RMR B R (.slice pa R.ls.length ca) (.slice pb R.bs.length cb))).foot [.blk N10 66 (ltc ((openL R.ls a).getD noL)), .blk N2 34 (akc a), .blk B 63 (rmc true R.r0 R.r1 (.slice pa R.ls.length ca) (.slice pb R.bs.length cb)), .own ltc 66 10 (.slice pa R.ls.length ca) (R.ls), .own bdc 36 16 (.slice pb R.bs.length cb) (R.bs)] W) hmx hM.drew ?_
            clear hM
            rintro Y32 hM
            have hS := hM.sub (.cons_cons _ (.cons_cons _ (.cons _ (.cons _ (.cons_cons _ .slnil)))))
            refine tD 7 [.val 0 (some 37) (pt B 0), .val 1 (some 38) (pt B 0), .val 2 (some 39) (pt B 0), .val 3 (some 40) (pt B 3), .load 6 (some 43) 34 (pt N2 0) (akv a), .val 7 (some 44) (.int .i64 0), .val 8 (some 45) (ltv (Lt.mk a 0))] ⟨fun W h => load_part (h.at 1 rfl) 0 (akc a) rfl _ _ Tryz.underlying34 rfl (by kernel_rfl), trivial⟩ hS ?_
            refine oT 4 9 6 ?_ ?_
            · refine lD (some 41) 61 (pt B 3) (.slice pa R.ls.length ca) (ld_any _ _ Tryz.underlying61 rfl (hM.at 2 rfl) 3 rfl) (hS) ?_
              refine oT 5 9 5 ?_ ?_
              · refine cD (some 42) 24 #[.slice pa R.ls.length ca] ((clipLt_any _ ((hM.oka 3 rfl).rsl ltc_len)).mono ?_)
                rintro e Y33 ⟨rfl, rfl⟩
                refine And.intro (hS) ?_
                refine oD 9 4 (rD (some 46) (.slice (some ⟨Y33.heap.size, 0, none⟩) 1 1) (Y33.alloc (.cells (ltc (Lt.mk a 0)).toArray 66)) (hS.other _) ?_)
                replace hS := hS.other (.cells (ltc (Lt.mk a 0)).toArray 66)
                replace hM := hM.alloc 66 (ltc (Lt.mk a 0))
                generalize World.alloc _ _ = Y34 at *
                generalize hNe : Y33.heap.size = N34 at *
                clear hNe
                obtain ⟨v35, Y35, hrun, ht⟩ := own_clip1 infoLt rfl (by decide) Tryz.underlying61 ltc_len ltc_one (hM.oka 4 rfl) (Lt.mk a 0) (hM.at 0 rfl) (by decide) (by have h := of_decide_eq_false Hhb3.out; omega) 61
                obtain ⟨pv35, cv35, rfl⟩ := ht.ok.slice ltc_len
                have hM1 := hM.turn 4 rfl ht rfl
                clear ht
                refine oD 10 3 (stepH_append (d := some 47) (t := 61) (t' := 61) (ty := 61) (v := .slice pa R.ls.length R.ls.length) (x := .slice (some ⟨N34, 0, none⟩) 1 1) (by kernel_rfl) hrun (hM1.sub (.cons _ (.cons_cons _ (.cons_cons _ (.cons _ (.cons _ (.cons_cons _ .slnil))))))) ?_)
                replace hS := hM1.sub (.cons _ (.cons_cons _ (.cons_cons _ (.cons _ (.cons _ (.cons_cons _ .slnil))))))
                replace hM := hM1
                clear hM1 hrun
                refine tD 1 [.val 11 (some 48) (pt B 0), .val 12 (some 49) (pt B 3)] trivial hS ?_
                have hst := (sto_part (rmc true R.r0 R.r1 (.slice pv35 (R.ls ++ [Lt.mk a 0]).length cv35) (.slice pb R.bs.length cb)) (hM.at 3 rfl) 3 61 (.slice pv35 (R.ls ++ [Lt.mk a 0]).length cv35) ([.slice pv35 (R.ls ++ [Lt.mk a 0]).length cv35]) rfl (by kernel_rfl) (Nat.le_of_ble_eq_true rfl) rfl rfl)
                have hM1 := hM.set 3 (cs' := rmc true R.r0 R.r1 (.slice pv35 (R.ls ++ [Lt.mk a 0]).length cv35) (.slice pb R.bs.length cb)) rfl rfl
                refine oD 13 0 (sD 61 (pt B 3) (.slice pv35 (R.ls ++ [Lt.mk a 0]).length cv35) (hst) (hM1.sub (.cons _ (.cons_cons _ (.cons_cons _ (.cons _ (.cons _ (.cons_cons _ .slnil))))))) ?_)
                clear hst
                replace hS := hM1.sub (.cons _ (.cons_cons _ (.cons_cons _ (.cons _ (.cons _ (.cons_cons _ .slnil))))))
                replace hM := hM1
                clear hM1
                generalize World.setRow _ _ _ = Y36 at *
                refine dD ?_
                try simp only [puts, Tk.put, Act.put, List.setIfInBounds_toArray, List.set_cons_zero, List.set_cons_succ]
                clear hS
                go_upto_region 14 with fail
                refine wp_region_fromM (fun W => Sep w (Res.join (RMR B R (.slice pa R.ls.length ca) (.slice pb R.bs.length cb))).foot [.blk N34 66 (ltc (Lt.mk a 0)), .blk N10 66 (ltc ((openL R.ls a).getD noL)), .blk N2 34 (akc a), .blk B 63 (rmc true R.r0 R.r1 (.slice pv35 (R.ls ++ [Lt.mk a 0]).length cv35) (.slice pb R.bs.length cb)), .own ltc 66 10 (.slice pv35 (R.ls ++ [Lt.mk a 0]).length cv35) (R.ls ++ [Lt.mk a 0]), .own bdc 36 16 (.slice pb R.bs.length cb) (R.bs)] W) hM ?_
                clear hM
                rintro Y37 hM
                refine tF 1 [.val 0 (some 6) (.int .i64 0)] trivial ?_
                refine dF ?_
                try simp only [puts, Tk.put, Act.put, List.setIfInBounds_toArray, List.set_cons_zero, List.set_cons_succ]
                go_wp2_with fail
                go_ret
                rw [open_yes Hhb1.out Hhb2.out Hhb3.out (since_big Hhb5.out)]
                exact ⟨rfl, _, _, Sep.fin (hM.pick [3, 4, 5] (by decide) rfl) (List.Sublist.refl _)⟩
              · refine rD (some 46) (.slice (some ⟨Y32.heap.size, 0, none⟩) 1 1) (Y32.alloc (.cells (ltc (Lt.mk a 0)).toArray 66)) (hS.other _) ?_
                replace hS := hS.other (.cells (ltc (Lt.mk a 0)).toArray 66)
                replace hM := hM.alloc 66 (ltc (Lt.mk a 0))
                generalize World.alloc _ _ = Y38 at *
                generalize hNe : Y32.heap.size = N38 at *
                clear hNe
                refine oD 5 4 (cD (some 42) 24 #[.slice pa R.ls.length ca] ((clipLt_any _ ((hM.oka 4 rfl).rsl ltc_len)).mono ?_))
                rintro e Y39 ⟨rfl, rfl⟩
                refine And.intro (hS) ?_
                obtain ⟨v40, Y40, hrun, ht⟩ := own_clip1 infoLt rfl (by decide) Tryz.underlying61 ltc_len ltc_one (hM.oka 4 rfl) (Lt.mk a 0) (hM.at 0 rfl) (by decide) (by have h := of_decide_eq_false Hhb3.out; omega) 61
                obtain ⟨pv40, cv40, rfl⟩ := ht.ok.slice ltc_len
                have hM1 := hM.turn 4 rfl ht rfl
                clear ht
                refine oD 10 3 (stepH_append (d := some 47) (t := 61) (t' := 61) (ty := 61) (v := .slice pa R.ls.length R.ls.length) (x := .slice (some ⟨N38, 0, none⟩) 1 1) (by kernel_rfl) hrun (hM1.sub (.cons _ (.cons_cons _ (.cons_cons _ (.cons _ (.cons _ (.cons_cons _ .slnil))))))) ?_)
                replace hS := hM1.sub (.cons _ (.cons_cons _ (.cons_cons _ (.cons _ (.cons _ (.cons_cons _ .slnil))))))
                replace hM := hM1
                clear hM1 hrun
                refine tD 1 [.val 11 (some 48) (pt B 0), .val 12 (some 49) (pt B 3)] trivial hS ?_
                have hst := (sto_part (rmc true R.r0 R.r1 (.slice pv40 (R.ls ++ [Lt.mk a 0]).length cv40) (.slice pb R.bs.length cb)) (hM.at 3 rfl) 3 61 (.slice pv40 (R.ls ++ [Lt.mk a 0]).length cv40) ([.slice pv40 (R.ls ++ [Lt.mk a 0]).length cv40]) rfl (by kernel_rfl) (Nat.le_of_ble_eq_true rfl) rfl rfl)
                have hM1 := hM.set 3 (cs' := rmc true R.r0 R.r1 (.slice pv40 (R.ls ++ [Lt.mk a 0]).length cv40) (.slice pb R.bs.length cb)) rfl rfl
                refine oD 13 0 (sD 61 (pt B 3) (.slice pv40 (R.ls ++ [Lt.mk a 0]).length cv40) (hst) (hM1.sub (.cons _ (.cons_cons _ (.cons_cons _ (.cons _ (.cons _ (.cons_cons _ .slnil))))))) ?_)
                clear hst
                replace hS := hM1.sub (.cons _ (.cons_cons _ (.cons_cons _ (.cons _ (.cons _ (.cons_cons _ .slnil))))))
                replace hM := hM1
                clear hM1
                generalize World.setRow _ _ _ = Y41 at *
                refine dD ?_
                try simp only [puts, Tk.put, Act.put, List.setIfInBounds_toArray, List.set_cons_zero, List.set_cons_succ]
                clear hS
                go_upto_region 14 with fail
                refine wp_region_fromM (fun W => Sep w (Res.join (RMR B R (.slice pa R.ls.length ca) (.slice pb R.bs.length cb))).foot [.blk N38 66 (ltc (Lt.mk a 0)), .blk N10 66 (ltc ((openL R.ls a).getD noL)), .blk N2 34 (akc a), .blk B 63 (rmc true R.r0 R.r1 (.slice pv40 (R.ls ++ [Lt.mk a 0]).length cv40) (.slice pb R.bs.length cb)), .own ltc 66 10 (.slice pv40 (R.ls ++ [Lt.mk a 0]).length cv40) (R.ls ++ [Lt.mk a 0]), .own bdc 36 16 (.slice pb R.bs.length cb) (R.bs)] W) hM ?_
                clear hM
                rintro Y42 hM
                refine tF 1 [.val 0 (some 6) (.int .i64 0)] trivial ?_
                refine dF ?_
                try simp only [puts, Tk.put, Act.put, List.setIfInBounds_toArray, List.set_cons_zero, List.set_cons_succ]
                go_wp2_with fail
                go_ret
                rw [open_yes Hhb1.out Hhb2.out Hhb3.out (since_big Hhb5.out)]
                exact ⟨rfl, _, _, Sep.fin (hM.pick [3, 4, 5] (by decide) rfl) (List.Sublist.refl _)⟩
            · refine rD (some 46) (.slice (some ⟨Y32.heap.size, 0, none⟩) 1 1) (Y32.alloc (.cells (ltc (Lt.mk a 0)).toArray 66)) (hS.other _) ?_
              replace hS := hS.other (.cells (ltc (Lt.mk a 0)).toArray 66)
              replace hM := hM.alloc 66 (ltc (Lt.mk a 0))
              generalize World.alloc _ _ = Y43 at *
              generalize hNe : Y32.heap.size = N43 at *
              clear hNe
              refine oD 4 5 (lD (some 41) 61 (pt B 3) (.slice pa R.ls.length ca) (ld_any _ _ Tryz.underlying61 rfl (hM.at 3 rfl) 3 rfl) (hS) ?_)
              refine oD 5 4 (cD (some 42) 24 #[.slice pa R.ls.length ca] ((clipLt_any _ ((hM.oka 4 rfl).rsl ltc_len)).mono ?_))
              rintro e Y44 ⟨rfl, rfl⟩
              refine And.intro (hS) ?_
              obtain ⟨v45, Y45, hrun, ht⟩ := own_clip1 infoLt rfl (by decide) Tryz.underlying61 ltc_len ltc_one (hM.oka 4 rfl) (Lt.mk a 0) (hM.at 0 rfl) (by decide) (by have h := of_decide_eq_false Hhb3.out; omega) 61
              obtain ⟨pv45, cv45, rfl⟩ := ht.ok.slice ltc_len
              have hM1 := hM.turn 4 rfl ht rfl
              clear ht
              refine oD 10 3 (stepH_append (d := some 47) (t := 61) (t' := 61) (ty := 61) (v := .slice pa R.ls.length R.ls.length) (x := .slice (some ⟨N43, 0, none⟩) 1 1) (by kernel_rfl) hrun (hM1.sub (.cons _ (.cons_cons _ (.cons_cons _ (.cons _ (.cons _ (.cons_cons _ .slnil))))))) ?_)
              replace hS := hM1.sub (.cons _ (.cons_cons _ (.cons_cons _ (.cons _ (.cons _ (.cons_cons _ .slnil))))))
              replace hM := hM1
              clear hM1 hrun
              refine tD 1 [.val 11 (some 48) (pt B 0), .val 12 (some 49) (pt B 3)] trivial hS ?_
              have hst := (sto_part (rmc true R.r0 R.r1 (.slice pv45 (R.ls ++ [Lt.mk a 0]).length cv45) (.slice pb R.bs.length cb)) (hM.at 3 rfl) 3 61 (.slice pv45 (R.ls ++ [Lt.mk a 0]).length cv45) ([.slice pv45 (R.ls ++ [Lt.mk a 0]).length cv45]) rfl (by kernel_rfl) (Nat.le_of_ble_eq_true rfl) rfl rfl)
              have hM1 := hM.set 3 (cs' := rmc true R.r0 R.r1 (.slice pv45 (R.ls ++ [Lt.mk a 0]).length cv45) (.slice pb R.bs.length cb)) rfl rfl
              refine oD 13 0 (sD 61 (pt B 3) (.slice pv45 (R.ls ++ [Lt.mk a 0]).length cv45) (hst) (hM1.sub (.cons _ (.cons_cons _ (.cons_cons _ (.cons _ (.cons _ (.cons_cons _ .slnil))))))) ?_)
              clear hst
              replace hS := hM1.sub (.cons _ (.cons_cons _ (.cons_cons _ (.cons _ (.cons _ (.cons_cons _ .slnil))))))
              replace hM := hM1
              clear hM1
              generalize World.setRow _ _ _ = Y46 at *
              refine dD ?_
              try simp only [puts, Tk.put, Act.put, List.setIfInBounds_toArray, List.set_cons_zero, List.set_cons_succ]
              clear hS
              go_upto_region 14 with fail
              refine wp_region_fromM (fun W => Sep w (Res.join (RMR B R (.slice pa R.ls.length ca) (.slice pb R.bs.length cb))).foot [.blk N43 66 (ltc (Lt.mk a 0)), .blk N10 66 (ltc ((openL R.ls a).getD noL)), .blk N2 34 (akc a), .blk B 63 (rmc true R.r0 R.r1 (.slice pv45 (R.ls ++ [Lt.mk a 0]).length cv45) (.slice pb R.bs.length cb)), .own ltc 66 10 (.slice pv45 (R.ls ++ [Lt.mk a 0]).length cv45) (R.ls ++ [Lt.mk a 0]), .own bdc 36 16 (.slice pb R.bs.length cb) (R.bs)] W) hM ?_
              clear hM
              rintro Y47 hM
              refine tF 1 [.val 0 (some 6) (.int .i64 0)] trivial ?_
              refine dF ?_
              try simp only [puts, Tk.put, Act.put, List.setIfInBounds_toArray, List.set_cons_zero, List.set_cons_succ]
              go_wp2_with fail
              go_ret
              rw [open_yes Hhb1.out Hhb2.out Hhb3.out (since_big Hhb5.out)]
              exact ⟨rfl, _, _, Sep.fin (hM.pick [3, 4, 5] (by decide) rfl) (List.Sublist.refl _)⟩
        | true =>
          have Hhb4 := Lib.hid hb4
          clear hb4
          refine tF 6 [.skip 3 (some 34), .skip 4 (some 35), .val 5 (some 36) (.bool true)] trivial ?_
          refine dF ?_
          try simp only [puts, Tk.put, Act.put, List.setIfInBounds_toArray, List.set_cons_zero, List.set_cons_succ]
          go_upto_region 12 with fail
          refine wp_region_fromM (fun W => Sep w (Res.join (RMR B R (.slice pa R.ls.length ca) (.slice pb R.bs.length cb))).foot [.blk N10 66 (ltc ((openL R.ls a).getD noL)), .blk N2 34 (akc a), .blk B 63 (rmc true R.r0 R.r1 (.slice pa R.ls.length ca) (.slice pb R.bs.length cb)), .own ltc 66 10 (.slice pa R.ls.length ca) (R.ls), .own bdc 36 16 (.slice pb R.bs.length cb) (R.bs)] W) hM ?_
          clear hM
          rintro Y48 hM
          refine tF 1 [.val 0 (some 2) (.int .i64 0)] trivial ?_
          refine dF ?_
          try simp only [puts, Tk.put, Act.put, List.setIfInBounds_toArray, List.set_cons_zero, List.set_cons_succ]
          go_upto_region 13 with fail
          refine wp_region_M (fun W => Sep w (Res.join (RMR B R (.slice pa R.ls.length ca) (.slice pb R.bs.length cb))).foot [.blk N10 66 (ltc ((openL R.ls a).getD noL)), .blk N2 34 (akc a), .own bdc 36 16 (.slice pb R.bs.length cb) (R.bs)] W) (fun W => Sep w (Res.join (RMR B R (.slice pa R.ls.length ca) (.slice pb R.bs.length cb))).foot [.blk N10 66 (ltc ((openL R.ls a).getD noL)), .blk N2 34 (akc a), .blk B 63 (rmc true R.r0 R.r1 (.slice pa R.ls.length ca) (.slice pb R.bs.length cb)), .own ltc 66 10 (.slice pa R.ls.length ca) (R.ls), .own bdc 36 16 (.slice pb R.bs.length cb) (R.bs)] W) hmx hM.drew ?_
          clear hM
          rintro Y49 hM
          have hS := hM.sub (.cons_cons _ (.cons_cons _ (.cons _ (.cons _ (.cons_cons _ .slnil)))))
          refine tD 7 [.val 0 (some 37) (pt B 0), .val 1 (some 38) (pt B 0), .val 2 (some 39) (pt B 0), .val 3 (some 40) (pt B 3), .load 6 (some 43) 34 (pt N2 0) (akv a), .val 7 (some 44) (.int .i64 0), .val 8 (some 45) (ltv (Lt.mk a 0))] ⟨fun W h => load_part (h.at 1 rfl) 0 (akc a) rfl _ _ Tryz.underlying34 rfl (by kernel_rfl), trivial⟩ hS ?_
          refine oT 4 9 6 ?_ ?_
          · refine lD (some 41) 61 (pt B 3) (.slice pa R.ls.length ca) (ld_any _ _ Tryz.underlying61 rfl (hM.at 2 rfl) 3 rfl) (hS) ?_
            refine oT 5 9 5 ?_ ?_
            · refine cD (some 42) 24 #[.slice pa R.ls.length ca] ((clipLt_any _ ((hM.oka 3 rfl).rsl ltc_len)).mono ?_)
              rintro e Y50 ⟨rfl, rfl⟩
              refine And.intro (hS) ?_
              refine oD 9 4 (rD (some 46) (.slice (some ⟨Y50.heap.size, 0, none⟩) 1 1) (Y50.alloc (.cells (ltc (Lt.mk a 0)).toArray 66)) (hS.other _) ?_)
              replace hS := hS.other (.cells (ltc (Lt.mk a 0)).toArray 66)
              replace hM := hM.alloc 66 (ltc (Lt.mk a 0))
              generalize World.alloc _ _ = Y51 at *
              generalize hNe : Y50.heap.size = N51 at *
              clear hNe
              obtain ⟨v52, Y52, hrun, ht⟩ := own_clip1 infoLt rfl (by decide) Tryz.underlying61 ltc_len ltc_one (hM.oka 4 rfl) (Lt.mk a 0) (hM.at 0 rfl) (by decide) (by have h := of_decide_eq_false Hhb3.out; omega) 61
              obtain ⟨pv52, cv52, rfl⟩ := ht.ok.slice ltc_len
              have hM1 := hM.turn 4 rfl ht rfl
              clear ht
              refine oD 10 3 (stepH_append (d := some 47) (t := 61) (t' := 61) (ty := 61) (v := .slice pa R.ls.length R.ls.length) (x := .slice (some ⟨N51, 0, none⟩) 1 1) (by kernel_rfl) hrun (hM1.sub (.cons _ (.cons_cons _ (.cons_cons _ (.cons _ (.cons _ (.cons_cons _ .slnil))))))) ?_)
              replace hS := hM1.sub (.cons _ (.cons_cons _ (.cons_cons _ (.cons _ (.cons _ (.cons_cons _ .slnil))))))
              replace hM := hM1
              clear hM1 hrun
              refine tD 1 [.val 11 (some 48) (pt B 0), .val 12 (some 49) (pt B 3)] trivial hS ?_
              have hst := (sto_part (rmc true R.r0 R.r1 (.slice pv52 (R.ls ++ [Lt.mk a 0]).length cv52) (.slice pb R.bs.length cb)) (hM.at 3 rfl) 3 61 (.slice pv52 (R.ls ++ [Lt.mk a 0]).length cv52) ([.slice pv52 (R.ls ++ [Lt.mk a 0]).length cv52]) rfl (by kernel_rfl) (Nat.le_of_ble_eq_true rfl) rfl rfl)
              have hM1 := hM.set 3 (cs' := rmc true R.r0 R.r1 (.slice pv52 (R.ls ++ [Lt.mk a 0]).length cv52) (.slice pb R.bs.length cb)) rfl rfl
              refine oD 13 0 (sD 61 (pt B 3) (.slice pv52 (R.ls ++ [Lt.mk a 0]).length cv52) (hst) (hM1.sub (.cons _ (.cons_cons _ (.cons_cons _ (.cons _ (.cons _ (.cons_cons _ .slnil))))))) ?_)
              clear hst
              replace hS := hM1.sub (.cons _ (.cons_cons _ (.cons_cons _ (.cons _ (.cons _ (.cons_cons _ .slnil))))))
              replace hM := hM1
              clear hM1
              generalize World.setRow _ _ _ = Y53 at *
              refine dD ?_
              try simp only [puts, Tk.put, Act.put, List.setIfInBounds_toArray, List.set_cons_zero, List.set_cons_succ]
              clear hS
              go_upto_region 14 with fail
              refine wp_region_fromM (fun W => Sep w (Res.join (RMR B R (.slice pa R.ls.length ca) (.slice pb R.bs.length cb))).foot [.blk N51 66 (ltc (Lt.mk a 0)), .blk N10 66 (ltc ((openL R.ls a).getD noL)), .blk N2 34 (akc a), .blk B 63 (rmc true R.r0 R.r1 (.slice pv52 (R.ls ++ [Lt.mk a 0]).length cv52) (.slice pb R.bs.length cb)), .own ltc 66 10 (.slice pv52 (R.ls ++ [Lt.mk a 0]).length cv52) (R.ls ++ [Lt.mk a 0]), .own bdc 36 16 (.slice pb R.bs.length cb) (R.bs)] W) hM ?_
              clear hM
              rintro Y54 hM
              refine tF 1 [.val 0 (some 6) (.int .i64 0)] trivial ?_
              refine dF ?_
              try simp only [puts, Tk.put, Act.put, List.setIfInBounds_toArray, List.set_cons_zero, List.set_cons_succ]
              go_wp2_with fail
              go_ret
              rw [open_yes Hhb1.out Hhb2.out Hhb3.out (since_neg Hhb4.out)]
              exact ⟨rfl, _, _, Sep.fin (hM.pick [3, 4, 5] (by decide) rfl) (List.Sublist.refl _)⟩
            · refine rD (some 46) (.slice (some ⟨Y49.heap.size, 0, none⟩) 1 1) (Y49.alloc (.cells (ltc (Lt.mk a 0)).toArray 66)) (hS.other _) ?_
              replace hS := hS.other (.cells (ltc (Lt.mk a 0)).toArray 66)
              replace hM := hM.alloc 66 (ltc (Lt.mk a 0))
              generalize World.alloc _ _ = Y55 at *
              generalize hNe : Y49.heap.size = N55 at *
              clear hNe
              refine oD 5 4 (cD (some 42) 24 #[.slice pa R.ls.length ca] ((clipLt_any _ ((hM.oka 4 rfl).rsl ltc_len)).mono ?_))
              rintro e Y56 ⟨rfl, rfl⟩
              refine And.intro (hS) ?_
              obtain ⟨v57, Y57, hrun, ht⟩ := own_clip1 infoLt rfl (by decide) Tryz.underlying61 ltc_len ltc_one (hM.oka 4 rfl) (Lt.mk a 0) (hM.at 0 rfl) (by decide) (by have h := of_decide_eq_false Hhb3.out; omega) 61
              obtain ⟨pv57, cv57, rfl⟩ := ht.ok.slice ltc_len
              have hM1 := hM.turn 4 rfl ht rfl
              clear ht
              refine oD 10 3 (stepH_append (d := some 47) (t := 61) (t' := 61) (ty := 61) (v := .slice pa R.ls.length R.ls.length) (x := .slice (some ⟨N55, 0, none⟩) 1 1) (by kernel_rfl) hrun (hM1.sub (.cons _ (.cons_cons _ (.cons_cons _ (.cons _ (.cons _ (.cons_cons _ .slnil))))))) ?_)
              replace hS := hM1.sub (.cons _ (.cons_cons _ (.cons_cons _ (.cons _ (.cons _ (.cons_cons _ .slnil))))))
              replace hM := hM1
              clear hM1 hrun
              refine tD 1 [.val 11 (some 48) (pt B 0), .val 12 (some 49) (pt B 3)] trivial hS ?_
              have hst := (sto_part (rmc true R.r0 R.r1 (.slice pv57 (R.ls ++ [Lt.mk a 0]).length cv57) (.slice pb R.bs.length cb)) (hM.at 3 rfl) 3 61 (.slice pv57 (R.ls ++ [Lt.mk a 0]).length cv57) ([.slice pv57 (R.ls ++ [Lt.mk a 0]).length cv57]) rfl (by kernel_rfl) (Nat.le_of_ble_eq_true rfl) rfl rfl)
              have hM1 := hM.set 3 (cs' := rmc true R.r0 R.r1 (.slice pv57 (R.ls ++ [Lt.mk a 0]).length cv57) (.slice pb R.bs.length cb)) rfl rfl
              refine oD 13 0 (sD 61 (pt B 3) (.slice pv57 (R.ls ++ [Lt.mk a 0]).length cv57) (hst) (hM1.sub (.cons _ (.cons_cons _ (.cons_cons _ (.cons _ (.cons _ (.cons_cons _ .slnil))))))) ?_)
              clear hst
              replace hS := hM1.sub (.cons _ (.cons_cons _ (.cons_cons _ (.cons _ (.cons _ (.cons_cons _ .slnil))))))
              replace hM := hM1
              clear hM1
              generalize World.setRow _ _ _ = Y58 at *
              refine dD ?_
              try simp only [puts, Tk.put, Act.put, List.setIfInBounds_toArray, List.set_cons_zero, List.set_cons_succ]
              clear hS
              go_upto_region 14 with fail
              refine wp_region_fromM (fun W => Sep w (Res.join (RMR B R (.slice pa R.ls.length ca) (.slice pb R.bs.length cb))).foot [.blk N55 66 (ltc (Lt.mk a 0)), .blk N10 66 (ltc ((openL R.ls a).getD noL)), .blk N2 34 (akc a), .blk B 63 (rmc true R.r0 R.r1 (.slice pv57 (R.ls ++ [Lt.mk a 0]).length cv57) (.slice pb R.bs.length cb)), .own ltc 66 10 (.slice pv57 (R.ls ++ [Lt.mk a 0]).length cv57) (R.ls ++ [Lt.mk a 0]), .own bdc 36 16 (.slice pb R.bs.length cb) (R.bs)] W) hM ?_
              clear hM
              rintro Y59 hM
              refine tF 1 [.val 0 (some 6) (.int .i64 0)] trivial ?_
              refine dF ?_
              try simp only [puts, Tk.put, Act.put, List.setIfInBounds_toArray, List.set_cons_zero, List.set_cons_succ]
              go_wp2_with fail
              go_ret
              rw [open_yes Hhb1.out Hhb2.out Hhb3.out (since_neg Hhb4.out)]
              exact ⟨rfl, _, _, Sep.fin (hM.pick [3, 4, 5] (by decide) rfl) (List.Sublist.refl _)⟩
          · refine rD (some 46) (.slice (some ⟨Y49.heap.size, 0, none⟩) 1 1) (Y49.alloc (.cells (ltc (Lt.mk a 0)).toArray 66)) (hS.other _) ?_
            replace hS := hS.other (.cells (ltc (Lt.mk a 0)).toArray 66)
            replace hM := hM.alloc 66 (ltc (Lt.mk a 0))
            generalize World.alloc _ _ = Y60 at *
            generalize hNe : Y49.heap.size = N60 at *
            clear hNe
            refine oD 4 5 (lD (some 41) 61 (pt B 3) (.slice pa R.ls.length ca) (ld_any _ _ Tryz.underlying61 rfl (hM.at 3 rfl) 3 rfl) (hS) ?_)
            refine oD 5 4 (cD (some 42) 24 #[.slice pa R.ls.length ca] ((clipLt_any _ ((hM.oka 4 rfl).rsl ltc_len)).mono ?_))
            rintro e Y61 ⟨rfl, rfl⟩
            refine And.intro (hS) ?_
            obtain ⟨v62, Y62, hrun, ht⟩ := own_clip1 infoLt rfl (by decide) Tryz.underlying61 ltc_len ltc_one (hM.oka 4 rfl) (Lt.mk a 0) (hM.at 0 rfl) (by decide) (by have h := of_decide_eq_false Hhb3.out; omega) 61
            obtain ⟨pv62, cv62, rfl⟩ := ht.ok.slice ltc_len
            have hM1 := hM.turn 4 rfl ht rfl
            clear ht
            refine oD 10 3 (stepH_append (d := some 47) (t := 61) (t' := 61) (ty := 61) (v := .slice pa R.ls.length R.ls.length) (x := .slice (some ⟨N60, 0, none⟩) 1 1) (by kernel_rfl) hrun (hM1.sub (.cons _ (.cons_cons _ (.cons_cons _ (.cons _ (.cons _ (.cons_cons _ .slnil))))))) ?_)
            replace hS := hM1.sub (.cons _ (.cons_cons _ (.cons_cons _ (.cons _ (.cons _ (.cons_cons _ .slnil))))))
            replace hM := hM1
            clear hM1 hrun
            refine tD 1 [.val 11 (some 48) (pt B 0), .val 12 (some 49) (pt B 3)] trivial hS ?_
            have hst := (sto_part (rmc true R.r0 R.r1 (.slice pv62 (R.ls ++ [Lt.mk a 0]).length cv62) (.slice pb R.bs.length cb)) (hM.at 3 rfl) 3 61 (.slice pv62 (R.ls ++ [Lt.mk a 0]).length cv62) ([.slice pv62 (R.ls ++ [Lt.mk a 0]).length cv62]) rfl (by kernel_rfl) (Nat.le_of_ble_eq_true rfl) rfl rfl)
            have hM1 := hM.set 3 (cs' := rmc true R.r0 R.r1 (.slice pv62 (R.ls ++ [Lt.mk a 0]).length cv62) (.slice pb R.bs.length cb)) rfl rfl
            refine oD 13 0 (sD 61 (pt B 3) (.slice pv62 (R.ls ++ [Lt.mk a 0]).length cv62) (hst) (hM1.sub (.cons _ (.cons_cons _ (.cons_cons _ (.cons _ (.cons _ (.cons_cons _ .slnil))))))) ?_)
            clear hst
            replace hS := hM1.sub (.cons _ (.cons_cons _ (.cons_cons _ (.cons _ (.cons _ (.cons_cons _ .slnil))))))
            replace hM := hM1
            clear hM1
            generalize World.setRow _ _ _ = Y63 at *
            refine dD ?_
            try simp only [puts, Tk.put, Act.put, List.setIfInBounds_toArray, List.set_cons_zero, List.set_cons_succ]
            clear hS
            go_upto_region 14 with fail
            refine wp_region_fromM (fun W => Sep w (Res.join (RMR B R (.slice pa R.ls.length ca) (.slice pb R.bs.length cb))).foot [.blk N60 66 (ltc (Lt.mk a 0)), .blk N10 66 (ltc ((openL R.ls a).getD noL)), .blk N2 34 (akc a), .blk B 63 (rmc true R.r0 R.r1 (.slice pv62 (R.ls ++ [Lt.mk a 0]).length cv62) (.slice pb R.bs.length cb)), .own ltc 66 10 (.slice pv62 (R.ls ++ [Lt.mk a 0]).length cv62) (R.ls ++ [Lt.mk a 0]), .own bdc 36 16 (.slice pb R.bs.length cb) (R.bs)] W) hM ?_
            clear hM
            rintro Y64 hM
            refine tF 1 [.val 0 (some 6) (.int .i64 0)] trivial ?_
            refine dF ?_
            try simp only [puts, Tk.put, Act.put, List.setIfInBounds_toArray, List.set_cons_zero, List.set_cons_succ]
            go_wp2_with fail
            go_ret
            rw [open_yes Hhb1.out Hhb2.out Hhb3.out (since_neg Hhb4.out)]
            exact ⟨rfl, _, _, Sep.fin (hM.pick [3, 4, 5] (by decide) rfl) (List.Sublist.refl _)⟩
      | true =>
        have Hhb3 := Lib.hid hb3
        clear hb3
        go_upto_region 10 with fail
        refine wp_region_fromM (fun W => Sep w (Res.join (RMR B R (.slice pa R.ls.length ca) (.slice pb R.bs.length cb))).foot [.blk N10 66 (ltc ((openL R.ls a).getD noL)), .blk N2 34 (akc a), .blk B 63 (rmc true R.r0 R.r1 (.slice pa R.ls.length ca) (.slice pb R.bs.length cb)), .own ltc 66 10 (.slice pa R.ls.length ca) (R.ls), .own bdc 36 16 (.slice pb R.bs.length cb) (R.bs)] W) hM ?_
        clear hM
        rintro Y65 hM
        refine tF 1 [.val 0 (some 6) (.int .i64 10)] trivial ?_
        refine dF ?_
        try simp only [puts, Tk.put, Act.put, List.setIfInBounds_toArray, List.set_cons_zero, List.set_cons_succ]
        go_wp2_with fail
        go_ret
        rw [open_full Hhb1.out Hhb2.out Hhb3.out]
        exact ⟨rfl, _, _, Sep.fin (hM.pick [2, 3, 4] (by decide) rfl) (List.Sublist.refl _)⟩
    | true =>
      have Hhb2 := Lib.hid hb2
      clear hb2
      go_upto_region 8 with fail
      refine wp_region_fromM (fun W => Sep w (Res.join (RMR B R (.slice pa R.ls.length ca) (.slice pb R.bs.length cb))).foot [.blk N10 66 (ltc ((openL R.ls a).getD noL)), .blk N2 34 (akc a), .blk B 63 (rmc true R.r0 R.r1 (.slice pa R.ls.length ca) (.slice pb R.bs.length cb)), .own ltc 66 10 (.slice pa R.ls.length ca) (R.ls), .own bdc 36 16 (.slice pb R.bs.length cb) (R.bs)] W) hM ?_
      clear hM
      rintro Y66 hM
      refine tF 1 [.val 0 (some 6) (.int .i64 32)] trivial ?_
      refine dF ?_
      try simp only [puts, Tk.put, Act.put, List.setIfInBounds_toArray, List.set_cons_zero, List.set_cons_succ]
      go_wp2_with fail
      go_ret
      rw [open_is Hhb1.out Hhb2.out]
      exact ⟨rfl, _, _, Sep.fin (hM.pick [2, 3, 4] (by decide) rfl) (List.Sublist.refl _)⟩
  | true =>
    have Hhb1 := Lib.hid hb1
    clear hb1
    go_upto_region 5 with fail
    refine wp_region_fromM (fun W => Sep w (Res.join (RMR B R (.slice pa R.ls.length ca) (.slice pb R.bs.length cb))).foot [.blk N2 34 (akc a), .blk B 63 (rmc true R.r0 R.r1 (.slice pa R.ls.length ca) (.slice pb R.bs.length cb)), .own ltc 66 10 (.slice pa R.ls.length ca) (R.ls), .own bdc 36 16 (.slice pb R.bs.length cb) (R.bs)] W) hM ?_
    clear hM
    rintro Y67 hM
    refine tF 2 [.val 0 (some 17) (.int .i64 (errA a)), .val 1 (some 6) (.int .i64 (errA a))] trivial ?_
    refine dF ?_
    try simp only [puts, Tk.put, Act.put, List.setIfInBounds_toArray, List.set_cons_zero, List.set_cons_succ]
    go_wp2_with fail
    go_ret
    rw [open_err Hhb1.out]
    exact ⟨rfl, _, _, Sep.fin (hM.pick [1, 2, 3] (by decide) rfl) (List.Sublist.refl _)⟩
set_option maxRecDepth 100000 in
set_option maxHeartbeats 4000000 in
theorem rmBid_any {B : Nat} {R : Rm} {va vb : Value} (b : Bd) (now : Int) (w : World) (h : ROk (.join (RMR B R va vb)) w) (hb4 : OkB b) (hr : R.bs.length ≤ 1000) : Calls Tryz.prog 13 #[.pointer (some ⟨B, 0, none⟩), bdv b, .int .i64 now] w (RmR B (.join (RMR B R va vb)) (bidR (validB b (rootR R b.ro)) R b now).1 (.bool (bidR (validB b (rootR R b.ro)) R b now).2) w) := by
  have hmx : Tryz.prog.follows .mixedOrders = true := by kernel_rfl
  have hM := Sep.begin h
  obtain ⟨pa, ca, rfl⟩ := (hM.oka 1 rfl).slice ltc_len
  obtain ⟨pb, cb, rfl⟩ := (hM.oka 2 rfl).slice bdc_len
  have HB4 := Lib.hid hb4
  have HR := Lib.hid hr
  clear hb4 hr
  clear h
  replace hM : Sep w (Res.join (RMR B R (.slice pa R.ls.length ca) (.slice pb R.bs.length cb))).foot [.blk B 63 (rmc true R.r0 R.r1 (.slice pa R.ls.length ca) (.slice pb R.bs.length cb)), .own ltc 66 10 (.slice pa R.ls.length ca) (R.ls), .own bdc 36 16 (.slice pb R.bs.length cb) (R.bs)] w := hM
  go_enter Tryz.func13, Tryz.ntmps13
  go_upto_region 0 with fail
  refine wp_region_fromM (fun W => Sep w (Res.join (RMR B R (.slice pa R.ls.length ca) (.slice pb R.bs.length cb))).foot [.blk B 63 (rmc true R.r0 R.r1 (.slice pa R.ls.length ca) (.slice pb R.bs.length cb)), .own ltc 66 10 (.slice pa R.ls.length ca) (R.ls), .own bdc 36 16 (.slice pb R.bs.length cb) (R.bs)] W) hM ?_
  clear hM
  rintro Y1 hM
  refine rF (some 4) (pt Y1.heap.size 0) (Y1.alloc (.cells (bdc b).toArray 36)) ?_
  replace hM := hM.alloc 36 (bdc b)
  generalize World.alloc _ _ = Y2 at *
  generalize hNe : Y1.heap.size = N2 at *
  clear hNe
  refine tF 2 [.val 1 (some 6) (.bool false)] trivial ?_
  refine dF ?_
  try simp only [puts, Tk.put, Act.put, List.setIfInBounds_toArray, List.set_cons_zero, List.set_cons_succ]
  go_upto_region 1 with fail
  refine wp_region_fromM (fun W => Sep w (Res.join (RMR B R (.slice pa R.ls.length ca) (.slice pb R.bs.length cb))).foot [.blk N2 36 (bdc b), .blk B 63 (rmc true R.r0 R.r1 (.slice pa R.ls.length ca) (.slice pb R.bs.length cb)), .own ltc 66 10 (.slice pa R.ls.length ca) (R.ls), .own bdc 36 16 (.slice pb R.bs.length cb) (R.bs)] W) hM ?_
  clear hM
  rintro Y3 hM
  refine tF 3 [.val 0 (some 10) (pt B 0), .val 1 (some 11) (pt N2 1), .load 2 (some 12) 34 (pt N2 1) (akv b.k)] ⟨load_part (hM.at 0 rfl) 1 (akc b.k) rfl _ _ Tryz.underlying34 rfl (by kernel_rfl), trivial⟩ ?_
  refine cF (some 13) 23 #[pt B 0, akv b.k] ((rmOpened_any b.k _ (⟨hM.at 1 rfl, (hM.oka 2 rfl).rsl ltc_len, (hM.oka 3 rfl).rsl bdc_len⟩)).mono ?_)
  rintro e Y4 ⟨rfl, hb⟩
  replace hM := hM.below hb
  clear hb
  refine tF 7 [.val 4 (some 9) (.tuple #[ltv ((openL R.ls b.k).getD noL), .bool (openL R.ls b.k).isSome]), .val 5 (some 14) (ltv ((openL R.ls b.k).getD noL)), .val 6 (some 15) (.bool (openL R.ls b.k).isSome)] trivial ?_
  refine rF (some 7) (pt Y4.heap.size 0) (Y4.alloc (.cells (ltc noL).toArray 66)) ?_
  replace hM := hM.alloc 66 (ltc noL)
  generalize World.alloc _ _ = Y5 at *
  generalize hNe : Y4.heap.size = N5 at *
  clear hNe
  have hst := sto_part (ltc ((openL R.ls b.k).getD noL)) (hM.at 0 rfl) 0 66 (ltv ((openL R.ls b.k).getD noL)) (ltc ((openL R.ls b.k).getD noL)) rfl (by kernel_rfl) (Nat.le_of_ble_eq_true rfl) rfl rfl
  refine sF 66 (pt N5 0) (ltv ((openL R.ls b.k).getD noL)) (hst) ?_
  clear hst
  replace hM := hM.set 0 (cs' := ltc ((openL R.ls b.k).getD noL)) rfl rfl
  generalize World.setRow _ _ _ = Y6 at *
  refine tF 10 [.val 9 (some 8) (.bool (openL R.ls b.k).isSome)] trivial ?_
  refine dF ?_
  try simp only [puts, Tk.put, Act.put, List.setIfInBounds_toArray, List.set_cons_zero, List.set_cons_succ]
  go_upto_region 2 with fail
  refine wp_region_M (fun W => Sep w (Res.join (RMR B R (.slice pa R.ls.length ca) (.slice pb R.bs.length cb))).foot [.blk N5 66 (ltc ((openL R.ls b.k).getD noL)), .blk N2 36 (bdc b), .blk B 63 (rmc true R.r0 R.r1 (.slice pa R.ls.length ca) (.slice pb R.bs.length cb)), .own ltc 66 10 (.slice pa R.ls.length ca) (R.ls), .own bdc 36 16 (.slice pb R.bs.length cb) (R.bs)] W) (fun W => Sep w (Res.join (RMR B R (.slice pa R.ls.length ca) (.slice pb R.bs.length cb))).foot [.blk N5 66 (ltc ((openL R.ls b.k).getD noL)), .blk N2 36 (bdc b), .blk B 63 (rmc true R.r0 R.r1 (.slice pa R.ls.length ca) (.slice pb R.bs.length cb)), .own ltc 66 10 (.slice pa R.ls.length ca) (R.ls), .own bdc 36 16 (.slice pb R.bs.length cb) (R.bs)] W) hmx hM.drew ?_
  clear hM
  rintro Y7 hM
  have hS := hM.sub (.cons_cons _ (.cons_cons _ (.cons_cons _ (.cons_cons _ (.cons_cons _ .slnil)))))
  refine tD 16 [.val 0 (some 16) (.bool (openL R.ls b.k).isSome)] trivial hS ?_
  cases hb1 : (openL R.ls b.k).isSome with
  | false =>
    have Hhb1 := Lib.hid hb1
    clear hb1
    refine tD 4 [.val 1 (some 17) (.bool true), .val 2 (some 18) (.bool true), .skip 3 (some 19), .skip 4 (some 20), .skip 5 (some 21), .skip 6 (some 22), .val 7 (some 23) (.bool true), .val 8 (some 24) (.bool true), .skip 9 (some 25), .skip 10 (some 26), .skip 11 (some 27), .skip 12 (some 28)] trivial hS ?_
    refine oD 13 3 (stepH_not (d := some 29) (by kernel_rfl) (And.intro hS ?_))
    refine oD 14 2 (stepH_not (d := some 30) (by kernel_rfl) (And.intro hS ?_))
    refine tD 0 [.skip 15 (some 31), .val 16 (some 32) (.bool true)] trivial hS ?_
    refine dD ?_
    try simp only [puts, Tk.put, Act.put, List.setIfInBounds_toArray, List.set_cons_zero, List.set_cons_succ]
    clear hS
    go_upto_region 3 with fail
    refine wp_region_fromM (fun W => Sep w (Res.join (RMR B R (.slice pa R.ls.length ca) (.slice pb R.bs.length cb))).foot [.blk N5 66 (ltc ((openL R.ls b.k).getD noL)), .blk N2 36 (bdc b), .blk B 63 (rmc true R.r0 R.r1 (.slice pa R.ls.length ca) (.slice pb R.bs.length cb)), .own ltc 66 10 (.slice pa R.ls.length ca) (R.ls), .own bdc 36 16 (.slice pb R.bs.length cb) (R.bs)] W) hM ?_
    clear hM
    rintro Y8 hM
    refine tF 1 [.val 0 (some 6) (.bool false)] trivial ?_
    refine dF ?_
    try simp only [puts, Tk.put, Act.put, List.setIfInBounds_toArray, List.set_cons_zero, List.set_cons_succ]
    go_wp2_with fail
    go_ret
    rw [bid_no (takes_no1 Hhb1.out)]
    exact ⟨rfl, _, _, Sep.fin (hM.pick [2, 3, 4] (by decide) rfl) (List.Sublist.refl _)⟩
  | true =>
    have Hhb1 := Lib.hid hb1
    clear hb1
    refine tD 8 [.val 1 (some 17) (.bool false), .val 2 (some 18) (.bool false), .val 3 (some 19) (.int .i64 now), .val 4 (some 20) (pt N2 14), .load 5 (some 21) 3 (pt N2 14) (.int .i64 b.un), .val 6 (some 22) (.bool (decide (b.un < now))), .val 7 (some 23) (.bool (decide (b.un < now))), .val 8 (some 24) (.bool (decide (b.un < now)))] ⟨fun W h => ld_any _ _ Tryz.underlying3 rfl (h.at 1 rfl) 14 rfl, trivial⟩ hS ?_
    cases hb2 : decide (b.un < now) with
    | false =>
      have Hhb2 := Lib.hid hb2
      clear hb2
      refine tD 4 [.load 9 (some 25) 36 (pt N2 0) (bdv b), .val 10 (some 26) (pt B 0), .val 11 (some 27) (pt N2 0), .load 12 (some 28) 3 (pt N2 0) (.int .i64 b.ro)] ⟨fun W h => load_part (h.at 1 rfl) 0 (bdc b) rfl _ _ Tryz.underlying36 rfl (by kernel_rfl), fun W h => ld_any _ _ Tryz.underlying3 rfl (h.at 1 rfl) 0 rfl, trivial⟩ hS ?_
      refine oD 13 3 (cD (some 29) 31 #[pt B 0, .int .i64 b.ro] ((rmRoot_any b.ro _ (⟨hM.at 2 rfl, (hM.oka 3 rfl).rsl ltc_len, (hM.oka 4 rfl).rsl bdc_len⟩)).mono ?_))
      rintro e Y9 ⟨rfl, hb⟩
      refine And.intro (hS.below hb) ?_
      replace hS := hS.below hb
      replace hM := hM.below hb
      clear hb
      refine oD 14 2 (cD (some 30) 30 #[bdv b, .string (rootR R b.ro)] ((valid8_any b HB4.out (rootR R b.ro) _).mono ?_))
      rintro e Y10 ⟨rfl, hb⟩
      refine And.intro (hS.below hb) ?_
      replace hS := hS.below hb
      replace hM := hM.below hb
      clear hb
      cases hb3 : validB b (rootR R b.ro) with
      | false =>
        have Hhb3 := Lib.hid hb3
        clear hb3
        refine tD 0 [.val 15 (some 31) (.bool true), .val 16 (some 32) (.bool true)] trivial hS ?_
        refine dD ?_
        try simp only [puts, Tk.put, Act.put, List.setIfInBounds_toArray, List.set_cons_zero, List.set_cons_succ]
        clear hS
        go_upto_region 3 with fail
        refine wp_region_fromM (fun W => Sep w (Res.join (RMR B R (.slice pa R.ls.length ca) (.slice pb R.bs.length cb))).foot [.blk N5 66 (ltc ((openL R.ls b.k).getD noL)), .blk N2 36 (bdc b), .blk B 63 (rmc true R.r0 R.r1 (.slice pa R.ls.length ca) (.slice pb R.bs.length cb)), .own ltc 66 10 (.slice pa R.ls.length ca) (R.ls), .own bdc 36 16 (.slice pb R.bs.length cb) (R.bs)] W) hM ?_
        clear hM
        rintro Y11 hM
        refine tF 1 [.val 0 (some 6) (.bool false)] trivial ?_
        refine dF ?_
        try simp only [puts, Tk.put, Act.put, List.setIfInBounds_toArray, List.set_cons_zero, List.set_cons_succ]
        go_wp2_with fail
        go_ret
        rw [bid_no (takes_no3 Hhb3.out)]
        exact ⟨rfl, _, _, Sep.fin (hM.pick [2, 3, 4] (by decide) rfl) (List.Sublist.refl _)⟩
      | true =>
        have Hhb3 := Lib.hid hb3
        clear hb3
        refine tD 0 [.val 15 (some 31) (.bool false), .val 16 (some 32) (.bool false)] trivial hS ?_
        refine dD ?_
        try simp only [puts, Tk.put, Act.put, List.setIfInBounds_toArray, List.set_cons_zero, List.set_cons_succ]
        clear hS
        go_upto_region 4 with fail
        refine wp_region_fromM (fun W => Sep w (Res.join (RMR B R (.slice pa R.ls.length ca) (.slice pb R.bs.length cb))).foot [.blk N5 66 (ltc ((openL R.ls b.k).getD noL)), .blk N2 36 (bdc b), .blk B 63 (rmc true R.r0 R.r1 (.slice pa R.ls.length ca) (.slice pb R.bs.length cb)), .own ltc 66 10 (.slice pa R.ls.length ca) (R.ls), .own bdc 36 16 (.slice pb R.bs.length cb) (R.bs)] W) hM ?_
        clear hM
        rintro Y12 hM
        refine tF 4 [.val 0 (some 33) (pt B 0), .val 1 (some 34) (pt N2 1), .load 2 (some 35) 34 (pt N2 1) (akv b.k), .val 3 (some 36) (.func (.func 33) #[] #[pt N2 0])] ⟨load_part (hM.at 1 rfl) 1 (akc b.k) rfl _ _ Tryz.underlying34 rfl (by kernel_rfl), trivial⟩ ?_
        refine cF (some 37) 32 #[pt B 0, akv b.k, .func (.func 33) #[] #[pt N2 0]] ((whichB1_any b b.k _ (⟨hM.at 2 rfl, (hM.oka 3 rfl).rsl ltc_len, (hM.oka 4 rfl).rsl bdc_len⟩) HR.out (hM.at 1 rfl)).mono ?_)
        rintro e Y13 ⟨v13, rfl, hR⟩
        replace hM := hM.gain hR
        clear hR
        obtain ⟨pv13, cv13, rfl⟩ := (hM.oka 0 rfl).slice bdc_len
        refine tF 7 [.val 5 (some 38) (.int .i64 ((forB R.bs b.k (byB b.ro)).length : Int)), .val 6 (some 39) (.bool (decide (0 < ((forB R.bs b.k (byB b.ro)).length : Int))))] trivial ?_
        refine dF ?_
        try simp only [puts, Tk.put, Act.put, List.setIfInBounds_toArray, List.set_cons_zero, List.set_cons_succ]
        cases hb4 : decide (0 < ((forB R.bs b.k (byB b.ro)).length : Int)) with
        | false =>
          have Hhb4 := Lib.hid hb4
          clear hb4
          go_upto_region 6 with fail
          refine wp_region_M (fun W => Sep w (Res.join (RMR B R (.slice pa R.ls.length ca) (.slice pb R.bs.length cb))).foot [.own bdc 36 16 (.slice pv13 (forB R.bs b.k (byB b.ro)).length cv13) (forB R.bs b.k (byB b.ro)), .blk N5 66 (ltc ((openL R.ls b.k).getD noL)), .blk N2 36 (bdc b), .own ltc 66 10 (.slice pa R.ls.length ca) (R.ls)] W) (fun W => Sep w (Res.join (RMR B R (.slice pa R.ls.length ca) (.slice pb R.bs.length cb))).foot [.own bdc 36 16 (.slice pv13 (forB R.bs b.k (byB b.ro)).length cv13) (forB R.bs b.k (byB b.ro)), .blk N5 66 (ltc ((openL R.ls b.k).getD noL)), .blk N2 36 (bdc b), .blk B 63 (rmc true R.r0 R.r1 (.slice pa R.ls.length ca) (.slice pb R.bs.length cb)), .own ltc 66 10 (.slice pa R.ls.length ca) (R.ls), .own bdc 36 16 (.slice pb R.bs.length cb) (R.bs)] W) hmx hM.drew ?_
          clear hM
          rintro Y14 hM
          have hS := hM.sub (.cons_cons _ (.cons_cons _ (.cons_cons _ (.cons _ (.cons_cons _ (.cons _ .slnil))))))
          refine tD 7 [.val 0 (some 40) (pt B 0), .val 1 (some 41) (pt B 0), .val 2 (some 42) (pt B 0), .val 3 (some 43) (pt B 4), .load 6 (some 46) 36 (pt N2 0) (bdv b)] ⟨fun W h => load_part (h.at 2 rfl) 0 (bdc b) rfl _ _ Tryz.underlying36 rfl (by kernel_rfl), trivial⟩ hS ?_
          refine oT 4 7 6 ?_ ?_
          · refine lD (some 44) 43 (pt B 4) (.slice pb R.bs.length cb) (ld_any _ _ Tryz.underlying43 rfl (hM.at 3 rfl) 4 rfl) (hS) ?_
            refine oT 5 7 5 ?_ ?_
            · refine cD (some 45) 34 #[.slice pb R.bs.length cb] ((clipBd_any _ ((hM.oka 5 rfl).rsl bdc_len)).mono ?_)
              rintro e Y15 ⟨rfl, rfl⟩
              refine And.intro (hS) ?_
              refine oD 7 4 (rD (some 47) (.slice (some ⟨Y15.heap.size, 0, none⟩) 1 1) (Y15.alloc (.cells (bdc b).toArray 36)) (hS.other _) ?_)
              replace hS := hS.other (.cells (bdc b).toArray 36)
              replace hM := hM.alloc 36 (bdc b)
              generalize World.alloc _ _ = Y16 at *
              generalize hNe : Y15.heap.size = N16 at *
              clear hNe
              obtain ⟨v17, Y17, hrun, ht⟩ := own_clip1 infoBd rfl (by decide) Tryz.underlying43 bdc_len bdc_one (hM.oka 6 rfl) b (hM.at 0 rfl) (by decide) (by have h := HR.out; omega) 43
              obtain ⟨pv17, cv17, rfl⟩ := ht.ok.slice bdc_len
              have hM1 := hM.turn 6 rfl ht rfl
              clear ht
              refine oD 8 3 (stepH_append (d := some 48) (t := 43) (t' := 43) (ty := 43) (v := .slice pb R.bs.length R.bs.length) (x := .slice (some ⟨N16, 0, none⟩) 1 1) (by kernel_rfl) hrun (hM1.sub (.cons _ (.cons_cons _ (.cons_cons _ (.cons_cons _ (.cons _ (.cons_cons _ (.cons _ .slnil)))))))) ?_)
              replace hS := hM1.sub (.cons _ (.cons_cons _ (.cons_cons _ (.cons_cons _ (.cons _ (.cons_cons _ (.cons _ .slnil)))))))
              replace hM := hM1
              clear hM1 hrun
              refine tD 1 [.val 9 (some 49) (pt B 0), .val 10 (some 50) (pt B 4)] trivial hS ?_
              have hst := (sto_part (rmc true R.r0 R.r1 (.slice pa R.ls.length ca) (.slice pv17 (R.bs ++ [b]).length cv17)) (hM.at 4 rfl) 4 43 (.slice pv17 (R.bs ++ [b]).length cv17) ([.slice pv17 (R.bs ++ [b]).length cv17]) rfl (by kernel_rfl) (Nat.le_of_ble_eq_true rfl) rfl rfl)
              have hM1 := hM.set 4 (cs' := rmc true R.r0 R.r1 (.slice pa R.ls.length ca) (.slice pv17 (R.bs ++ [b]).length cv17)) rfl rfl
              refine oD 11 0 (sD 43 (pt B 4) (.slice pv17 (R.bs ++ [b]).length cv17) (hst) (hM1.sub (.cons _ (.cons_cons _ (.cons_cons _ (.cons_cons _ (.cons _ (.cons_cons _ (.cons _ .slnil)))))))) ?_)
              clear hst
              replace hS := hM1.sub (.cons _ (.cons_cons _ (.cons_cons _ (.cons_cons _ (.cons _ (.cons_cons _ (.cons _ .slnil)))))))
              replace hM := hM1
              clear hM1
              generalize World.setRow _ _ _ = Y18 at *
              refine dD ?_
              try simp only [puts, Tk.put, Act.put, List.setIfInBounds_toArray, List.set_cons_zero, List.set_cons_succ]
              clear hS
              go_upto_region 7 with fail
              refine wp_region_fromM (fun W => Sep w (Res.join (RMR B R (.slice pa R.ls.length ca) (.slice pb R.bs.length cb))).foot [.blk N16 36 (bdc b), .own bdc 36 16 (.slice pv13 (forB R.bs b.k (byB b.ro)).length cv13) (forB R.bs b.k (byB b.ro)), .blk N5 66 (ltc ((openL R.ls b.k).getD noL)), .blk N2 36 (bdc b), .blk B 63 (rmc true R.r0 R.r1 (.slice pa R.ls.length ca) (.slice pv17 (R.bs ++ [b]).length cv17)), .own ltc 66 10 (.slice pa R.ls.length ca) (R.ls), .own bdc 36 16 (.slice pv17 (R.bs ++ [b]).length cv17) (R.bs ++ [b])] W) hM ?_
              clear hM
              rintro Y19 hM
              refine tF 1 [.val 0 (some 6) (.bool true)] trivial ?_
              refine dF ?_
              try simp only [puts, Tk.put, Act.put, List.setIfInBounds_toArray, List.set_cons_zero, List.set_cons_succ]
              go_wp2_with fail
              go_ret
              rw [bid_yes (takes_yes Hhb1.out Hhb2.out Hhb3.out Hhb4.out)]
              exact ⟨rfl, _, _, Sep.fin (hM.pick [4, 5, 6] (by decide) rfl) (List.Sublist.refl _)⟩
            · refine rD (some 47) (.slice (some ⟨Y14.heap.size, 0, none⟩) 1 1) (Y14.alloc (.cells (bdc b).toArray 36)) (hS.other _) ?_
              replace hS := hS.other (.cells (bdc b).toArray 36)
              replace hM := hM.alloc 36 (bdc b)
              generalize World.alloc _ _ = Y20 at *
              generalize hNe : Y14.heap.size = N20 at *
              clear hNe
              refine oD 5 4 (cD (some 45) 34 #[.slice pb R.bs.length cb] ((clipBd_any _ ((hM.oka 6 rfl).rsl bdc_len)).mono ?_))
              rintro e Y21 ⟨rfl, rfl⟩
              refine And.intro (hS) ?_
              obtain ⟨v22, Y22, hrun, ht⟩ := own_clip1 infoBd rfl (by decide) Tryz.underlying43 bdc_len bdc_one (hM.oka 6 rfl) b (hM.at 0 rfl) (by decide) (by have h := HR.out; omega) 43
              obtain ⟨pv22, cv22, rfl⟩ := ht.ok.slice bdc_len
              have hM1 := hM.turn 6 rfl ht rfl
              clear ht
              refine oD 8 3 (stepH_append (d := some 48) (t := 43) (t' := 43) (ty := 43) (v := .slice pb R.bs.length R.bs.length) (x := .slice (some ⟨N20, 0, none⟩) 1 1) (by kernel_rfl) hrun (hM1.sub (.cons _ (.cons_cons _ (.cons_cons _ (.cons_cons _ (.cons _ (.cons_cons _ (.cons _ .slnil)))))))) ?_)
              replace hS := hM1.sub (.cons _ (.cons_cons _ (.cons_cons _ (.cons_cons _ (.cons _ (.cons_cons _ (.cons _ .slnil)))))))
              replace hM := hM1
              clear hM1 hrun
              refine tD 1 [.val 9 (some 49) (pt B 0), .val 10 (some 50) (pt B 4)] trivial hS ?_
              have hst := (sto_part (rmc true R.r0 R.r1 (.slice pa R.ls.length ca) (.slice pv22 (R.bs ++ [b]).length cv22)) (hM.at 4 rfl) 4 43 (.slice pv22 (R.bs ++ [b]).length cv22) ([.slice pv22 (R.bs ++ [b]).length cv22]) rfl (by kernel_rfl) (Nat.le_of_ble_eq_true rfl) rfl rfl)
              have hM1 := hM.set 4 (cs' := rmc true R.r0 R.r1 (.slice pa R.ls.length ca) (.slice pv22 (R.bs ++ [b]).length cv22)) rfl rfl
              refine oD 11 0 (sD 43 (pt B 4) (.slice pv22 (R.bs ++ [b]).length cv22) (hst) (hM1.sub (.cons _ (.cons_cons _ (.cons_cons _ (.cons_cons _ (.cons _ (.cons_cons _ (.cons _ .slnil)))))))) ?_)
              clear hst
              replace hS := hM1.sub (.cons _ (.cons_cons _ (.cons_cons _ (.cons_cons _ (.cons _ (.cons_cons _ (.cons _ .slnil)))))))
              replace hM := hM1
              clear hM1
              generalize World.setRow _ _ _ = Y23 at *
              refine dD ?_
              try simp only [puts, Tk.put, Act.put, List.setIfInBounds_toArray, List.set_cons_zero, List.set_cons_succ]
              clear hS
              go_upto_region 7 with fail
              refine wp_region_fromM (fun W => Sep w (Res.join (RMR B R (.slice pa R.ls.length ca) (.slice pb R.bs.length cb))).foot [.blk N20 36 (bdc b), .own bdc 36 16 (.slice pv13 (forB R.bs b.k (byB b.ro)).length cv13) (forB R.bs b.k (byB b.ro)), .blk N5 66 (ltc ((openL R.ls b.k).getD noL)), .blk N2 36 (bdc b), .blk B 63 (rmc true R.r0 R.r1 (.slice pa R.ls.length ca) (.slice pv22 (R.bs ++ [b]).length cv22)), .own ltc 66 10 (.slice pa R.ls.length ca) (R.ls), .own bdc 36 16 (.slice pv22 (R.bs ++ [b]).length cv22) (R.bs ++ [b])] W) hM ?_
              clear hM
              rintro Y24 hM
              refine tF 1 [.val 0 (some 6) (.bool true)] trivial ?_
              refine dF ?_
              try simp only [puts, Tk.put, Act.put, List.setIfInBounds_toArray, List.set_cons_zero, List.set_cons_succ]
              go_wp2_with fail
              go_ret
              rw [bid_yes (takes_yes Hhb1.out Hhb2.out Hhb3.out Hhb4.out)]
              exact ⟨rfl, _, _, Sep.fin (hM.pick [4, 5, 6] (by decide) rfl) (List.Sublist.refl _)⟩
          · refine rD (some 47) (.slice (some ⟨Y14.heap.size, 0, none⟩) 1 1) (Y14.alloc (.cells (bdc b).toArray 36)) (hS.other _) ?_
            replace hS := hS.other (.cells (bdc b).toArray 36)
            replace hM := hM.alloc 36 (bdc b)
            generalize World.alloc _ _ = Y25 at *
            generalize hNe : Y14.heap.size = N25 at *
            clear hNe
            refine oD 4 5 (lD (some 44) 43 (pt B 4) (.slice pb R.bs.length cb) (ld_any _ _ Tryz.underlying43 rfl (hM.at 4 rfl) 4 rfl) (hS) ?_)
            refine oD 5 4 (cD (some 45) 34 #[.slice pb R.bs.length cb] ((clipBd_any _ ((hM.oka 6 rfl).rsl bdc_len)).mono ?_))
            rintro e Y26 ⟨rfl, rfl⟩
            refine And.intro (hS) ?_
            obtain ⟨v27, Y27, hrun, ht⟩ := own_clip1 infoBd rfl (by decide) Tryz.underlying43 bdc_len bdc_one (hM.oka 6 rfl) b (hM.at 0 rfl) (by decide) (by have h := HR.out; omega) 43
            obtain ⟨pv27, cv27, rfl⟩ := ht.ok.slice bdc_len
            have hM1 := hM.turn 6 rfl ht rfl
            clear ht
            refine oD 8 3 (stepH_append (d := some 48) (t := 43) (t' := 43) (ty := 43) (v := .slice pb R.bs.length R.bs.length) (x := .slice (some ⟨N25, 0, none⟩) 1 1) (by kernel_rfl) hrun (hM1.sub (.cons _ (.cons_cons _ (.cons_cons _ (.cons_cons _ (.cons _ (.cons_cons _ (.cons _ .slnil)))))))) ?_)
            replace hS := hM1.sub (.cons _ (.cons_cons _ (.cons_cons _ (.cons_cons _ (.cons _ (.cons_cons _ (.cons _ .slnil)))))))
            replace hM := hM1
            clear hM1 hrun
            refine tD 1 [.val 9 (some 49) (pt B 0), .val 10 (some 50) (pt B 4)] trivial hS ?_
            have hst := (sto_part (rmc true R.r0 R.r1 (.slice pa R.ls.length ca) (.slice pv27 (R.bs ++ [b]).length cv27)) (hM.at 4 rfl) 4 43 (.slice pv27 (R.bs ++ [b]).length cv27) ([.slice pv27 (R.bs ++ [b]).length cv27]) rfl (by kernel_rfl) (Nat.le_of_ble_eq_true rfl) rfl rfl)
            have hM1 := hM.set 4 (cs' := rmc true R.r0 R.r1 (.slice pa R.ls.length ca) (.slice pv27 (R.bs ++ [b]).length cv27)) rfl rfl
            refine oD 11 0 (sD 43 (pt B 4) (.slice pv27 (R.bs ++ [b]).length cv27) (hst) (hM1.sub (.cons _ (.cons_cons _ (.cons_cons _ (.cons_cons _ (.cons _ (.cons_cons _ (.cons _ .slnil)))))))) ?_)
            clear hst
            replace hS := hM1.sub (.cons _ (.cons_cons _ (.cons_cons _ (.cons_cons _ (.cons _ (.cons_cons _ (.cons _ .slnil)))))))
            replace hM := hM1
            clear hM1
            generalize World.setRow _ _ _ = Y28 at *
            refine dD ?_
            try simp only [puts, Tk.put, Act.put, List.setIfInBounds_toArray, List.set_cons_zero, List.set_cons_succ]
            clear hS
            go_upto_region 7 with fail
            refine wp_region_fromM (fun W => Sep w (Res.join (RMR B R (.slice pa R.ls.length ca) (.slice pb R.bs.length cb))).foot [.blk N25 36 (bdc b), .own bdc 36 16 (.slice pv13 (forB R.bs b.k (byB b.ro)).length cv13) (forB R.bs b.k (byB b.ro)), .blk N5 66 (ltc ((openL R.ls b.k).getD noL)), .blk N2 36 (bdc b), .blk B 63 (rmc true R.r0 R.r1 (.slice pa R.ls.length ca) (.slice pv27 (R.bs ++ [b]).length cv27)), .own ltc 66 10 (.slice pa R.ls.length ca) (R.ls), .own bdc 36 16 (.slice pv27 (R.bs ++ [b]).length cv27) (R.bs ++ [b])] W) hM ?_
            clear hM
            rintro Y29 hM
            refine tF 1 [.val 0 (some 6) (.bool true)] trivial ?_
            refine dF ?_
            try simp only [puts, Tk.put, Act.put, List.setIfInBounds_toArray, List.set_cons_zero, List.set_cons_succ]
            go_wp2_with fail
            go_ret
            rw [bid_yes (takes_yes Hhb1.out Hhb2.out Hhb3.out Hhb4.out)]
            exact ⟨rfl, _, _, Sep.fin (hM.pick [4, 5, 6] (by decide) rfl) (List.Sublist.refl _)⟩
        | true =>
          have Hhb4 := Lib.hid hb4
          clear hb4
          go_upto_region 5 with fail
          refine wp_region_fromM (fun W => Sep w (Res.join (RMR B R (.slice pa R.ls.length ca) (.slice pb R.bs.length cb))).foot [.own bdc 36 16 (.slice pv13 (forB R.bs b.k (byB b.ro)).length cv13) (forB R.bs b.k (byB b.ro)), .blk N5 66 (ltc ((openL R.ls b.k).getD noL)), .blk N2 36 (bdc b), .blk B 63 (rmc true R.r0 R.r1 (.slice pa R.ls.length ca) (.slice pb R.bs.length cb)), .own ltc 66 10 (.slice pa R.ls.length ca) (R.ls), .own bdc 36 16 (.slice pb R.bs.length cb) (R.bs)] W) hM ?_
          clear hM
          rintro Y30 hM
          refine tF 1 [.val 0 (some 6) (.bool false)] trivial ?_
          refine dF ?_
          try simp only [puts, Tk.put, Act.put, List.setIfInBounds_toArray, List.set_cons_zero, List.set_cons_succ]
          go_wp2_with fail
          go_ret
          rw [bid_no (takes_no4 Hhb4.out)]
          exact ⟨rfl, _, _, Sep.fin (hM.pick [3, 4, 5] (by decide) rfl) (List.Sublist.refl _)⟩
    | true =>
      have Hhb2 := Lib.hid hb2
      clear hb2
      refine tD 4 [.skip 9 (some 25), .skip 10 (some 26), .skip 11 (some 27), .skip 12 (some 28)] trivial hS ?_
      refine oD 13 3 (stepH_not (d := some 29) (by kernel_rfl) (And.intro hS ?_))
      refine oD 14 2 (stepH_not (d := some 30) (by kernel_rfl) (And.intro hS ?_))
      refine tD 0 [.skip 15 (some 31), .val 16 (some 32) (.bool true)] trivial hS ?_
      refine dD ?_
      try simp only [puts, Tk.put, Act.put, List.setIfInBounds_toArray, List.set_cons_zero, List.set_cons_succ]
      clear hS
      go_upto_region 3 with fail
      refine wp_region_fromM (fun W => Sep w (Res.join (RMR B R (.slice pa R.ls.length ca) (.slice pb R.bs.length cb))).foot [.blk N5 66 (ltc ((openL R.ls b.k).getD noL)), .blk N2 36 (bdc b), .blk B 63 (rmc true R.r0 R.r1 (.slice pa R.ls.length ca) (.slice pb R.bs.length cb)), .own ltc 66 10 (.slice pa R.ls.length ca) (R.ls), .own bdc 36 16 (.slice pb R.bs.length cb) (R.bs)] W) hM ?_
      clear hM
      rintro Y31 hM
      refine tF 1 [.val 0 (some 6) (.bool false)] trivial ?_
      refine dF ?_
      try simp only [puts, Tk.put, Act.put, List.setIfInBounds_toArray, List.set_cons_zero, List.set_cons_succ]
      go_wp2_with fail
      go_ret
      rw [bid_no (takes_no2 Hhb2.out)]
      exact ⟨rfl, _, _, Sep.fin (hM.pick [2, 3, 4] (by decide) rfl) (List.Sublist.refl _)⟩
end Go.Proofs.YtbhfajnejibaoaaGreat
