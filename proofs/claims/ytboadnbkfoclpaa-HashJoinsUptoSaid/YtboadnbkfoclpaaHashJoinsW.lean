/-
  The walk of HashJoins: it answers true at every list of texts of bounded bulk.
-/
import Derived.Test.YtboadnbkfoclpaaHashAlive
import Derived.Test.YtboadnbkfoclpaaHashText
import Derived.Test.YtboadnbkfoclpaaRefSum
import Derived.Test.YtboadnbkfoclpaaConcat
import Derived.Test.YtboadnbkfoclpaaHeldMono
import Derived.Outline
namespace Go.Proofs.Ytboadnbkfoclpaa
open Go.RowKit Go.Shelf

/-- The same slices, as they lie in a later world. -/
def sxUp {o n n' : Nat} {w w' : World} (hb : Below n w w') (hn : n ≤ n') (zs : List (SX o n w)) : List (SX o n' w') := zs.map fun x => ⟨x.1, (x.2.1.below hb (Nat.le_refl _)).mono (Nat.le_refl _) hn, x.2.2⟩
theorem sxUp_flat {o n n' : Nat} {w w' : World} (hb : Below n w w') (hn : n ≤ n') (zs : List (SX o n w)) : flat (sxUp hb hn zs) = flat zs := by unfold flat sxUp; rw [List.map_map]; rfl
theorem sxUp_length {o n n' : Nat} {w w' : World} (hb : Below n w w') (hn : n ≤ n') (zs : List (SX o n w)) : (sxUp hb hn zs).length = zs.length := by simp [sxUp]
theorem sxUp_ssl {o n n' m m' : Nat} {w w' W W' : World} {sv : Value} (hb : Below n w w') (hn : n ≤ n') (zs : List (SX o n w)) (h : SSl m W sv zs) (hW : Below m W W') (hm : m ≤ m') : SSl m' W' sv (sxUp hb hn zs) := by
  obtain ⟨a, cap, e, h0⟩ := h
  refine ⟨a, cap, by rw [sxUp_length]; exact e, ?_⟩
  rcases h0 with rfl | ⟨b, off, ha, hl, hr⟩
  · exact .inl rfl
  · refine .inr ⟨b, off, ha, by omega, fun k x hx => ?_⟩
    unfold sxUp at hx
    rw [List.getElem?_map] at hx
    obtain ⟨y, hy, rfl⟩ := Option.map_eq_some_iff.1 hx
    exact (hW.cell (p := ⟨b, _, none⟩) hl).trans (hr k y hy)

set_option maxRecDepth 100000 in
set_option maxHeartbeats 40000000 in
theorem hashJoins_any {o : Nat} (sv : Value) (w : World) (zs : List (SX o w.heap.size w)) (ho : o ≤ 1048576) (hlen : zs.length ≤ 1048576) (hfl : (flat zs).length ≤ 1048576) (hsv : SSl w.heap.size w sv zs) :
    Calls Try.prog 5 #[sv] w fun e W' => e = .returned (.bool true) ∧ Below w.heap.size w W' := by
  have hmx : Try.prog.follows .mixedOrders = true := by kernel_rfl
  obtain ⟨i0, hi, hz0, hz1, hz2⟩ := info_parts Try.infoByte
  have hsv0 := hsv
  obtain ⟨a, cap, rfl, hcs⟩ := hsv
  have HR := Lib.hid (show ∀ k x, zs[k]? = some x → ∃ b off, a = some ⟨b, off, none⟩ ∧ b < w.heap.size ∧ w.cell? ⟨b, off + k, none⟩ = some x.1.1 from fun k x hx => by
    rcases hcs with rfl | ⟨b, off, ha, hb, hr⟩
    · simp at hx
    · exact ⟨b, off, ha, hb, hr k x hx⟩)
  clear hcs
  have HO := Lib.hid (Nat.mul_le_mul hlen ho)
  go_enter Try.func5, Try.ntmps5
  go_wp2_with fail
  refine (hashAlive_any _).mono ?_
  rintro e w1 ⟨rfl, hb1⟩
  go_wp2_with fail
  go_loopw [3, 4] (fun v i wr => ∃ k : Nat, k ≤ zs.length ∧ i = .int .i64 k ∧ wr.ownsRow w.heap.size 5 1 v (flat (zs.take k)).length ((flat (zs.take k)).map bv) ∧ Below w.heap.size w wr) (fun _ i _ => zs.length - (intOf i).toNat)
  case atStart => exact ⟨0, by omega, rfl, World.ownsRow_nil _ _ _ _, hb1⟩
  clear hb1
  case round =>
    obtain ⟨k, hk, rfl, hown, hB⟩ := hrel
    by_cases hlt : k < zs.length
    · obtain ⟨x, hx⟩ : ∃ x, zs[k]? = some x := ⟨_, List.getElem?_eq_getElem hlt⟩
      obtain ⟨b, off, rfl, hb, c0⟩ := HR.out k x hx
      replace c0 := (hB.cell (p := ⟨b, off + k, none⟩) hb).trans c0
      have hxs' := x.2.1.below hB (Nat.le_refl _)
      obtain ⟨xa, xc, hxe, _⟩ := x.2.1
      rw [hxe] at c0 hxs'
      have HS := Lib.hid (flat_take zs hx)
      have h2 := flat_prefix zs (k + 1)
      rw [HS.out, List.length_append] at h2
      have hk0 : (k : Int) < (zs.length : Int) := by omega
      have hNW : w.heap.size ≤ wr.heap.size := hB.size
      clear hxe hx
      have HL : Hid ((flat (zs.take (k + 1))).length = (flat (zs.take k)).length + x.1.2.length) := Lib.hid (by rw [HS.out, List.length_append])
      go_wp2_with (at_builtin; refine wpList_append_b _ rfl _ _ 22 rfl w.heap.size 5 i0 (.int .u8 0) Try.underlying22 hi hz0 hz1 hz2 rfl _ (flat (zs.take k)).length ((flat (zs.take k)).map bv) rfl hown _ x.1.2 rfl hxs' (by omega) hNW ?_; intro v' w1 hown' hgrow)
      refine ⟨⟨k + 1, by omega, by simp, ?_, hB.grown hgrow hNW (fun j hj => (World.ownsRow.lt hown j hj).1)⟩, by simp [intOf]; omega⟩
      rw [HS.out, List.map_append, List.length_append]
      exact hown'
    · obtain rfl : k = zs.length := by omega
      rw [List.take_length] at hown
      clear hlt hk
      obtain ⟨va, vc, rfl⟩ := ownsRow_slice hown
      by_cases hbig : 2000 < (flat zs).length
      · have hbig' : (2000 : Int) < ((flat zs).length : Int) := by omega
        go_wp2_with fail
        go_ret
        exact ⟨rfl, hB⟩
      have hbig' : ¬ (2000 : Int) < ((flat zs).length : Int) := by omega
      have hNW : w.heap.size ≤ wr.heap.size := hB.size
      have hall := BSl.of_own hown
      generalize hF : flat zs = fl at *
      have HF := Lib.hid hF
      clear hF hown
      go_wp2_with fail
      refine (refSum_any fl _ _ (by omega) (hall.mono (Nat.zero_le _) (Nat.le_refl _))).mono ?_
      rintro e w2 ⟨rv, rfl, hown2, hb2⟩
      have hcv := run_string (P := Try.prog) 22 5 9 Try.underlying22 Try.underlying5 Try.underlying9 w2 (BSl.of_own hown2)
      change (convert 22 9 rv).run Try.prog w2 = .ok (.string (sumS fl)) w2 at hcv
      have h8 : 8 ≤ (sumS fl).size := by rw [sumS_size]; omega
      have h8' : (8 : Int) ≤ ((sumS fl).size : Int) := by omega
      have hB2 : Below w.heap.size w w2 := hB.trans (hb2.mono hNW)
      clear hown2 hall hb2 hB
      generalize hst : sumS fl = st at *
      have HST := Lib.hid hst
      clear hst
      go_wp2_with fail
      refine wp_region_held_drew (S := fun W => Below w2.heap.size w2 W) hmx (Below.refl _ w2).drew ?_
      intro hS
      replace hB2 : Below w.heap.size w w2.drew := hB2.drew
      refine wpAnyH_mono (S' := fun W => Below w2.drew.heap.size w2.drew W) (fun W h => (Below.refl _ w2).drew.trans h) _ _ _ _ ?_
      replace hS : Below w2.drew.heap.size w2.drew w2.drew := Below.refl _ _
      generalize w2.drew = w3 at *
      refine' wpAnyH_take (i := 0) (oi := _) (v := _) ?hi0 (by kernel_rfl) (by kernel_rfl) (by kernel_rfl) ?hQ0 (Or.inl ⟨?hw0, ?hy0⟩) hS ?rest0
      case hi0 => simp only [List.getElem?_toArray, List.getElem?_cons_zero]; rfl
      case hQ0 => exact fun _ _ _ h => h
      case hw0 => rfl
      case hy0 => intro W' hS'; go_simp; with_reducible rfl
      try simp only [Act.put, List.setIfInBounds_toArray, List.set_cons_zero, List.set_cons_succ]
      refine' wpAnyH_take (i := 2) (oi := _) (v := _) ?hi2 (by kernel_rfl) (by kernel_rfl) (by kernel_rfl) ?hQ2 (Or.inl ⟨?hw2, ?hy2⟩) hS ?rest2
      case hi2 => simp only [List.getElem?_toArray, List.getElem?_cons_succ, List.getElem?_cons_zero]; rfl
      case hQ2 => exact fun _ _ _ h => h
      case hw2 => rfl
      case hy2 => intro W' hS'; go_simp; with_reducible rfl
      try simp only [Act.put, List.setIfInBounds_toArray, List.set_cons_zero, List.set_cons_succ]
      refine wpAnyH_ready (rs := [1]) (by kernel_rfl) (by simp) ?_
      refine' AllReadyH.cons (o := _) ?ho1 (fun K hK => ?st1) AllReadyH.nil
      case ho1 => simp only [List.getElem?_toArray, List.getElem?_cons_succ, List.getElem?_cons_zero]; rfl
      go_simp
      refine (text_any _ _ (sxUp hB2 hB2.size zs) (by rw [sxUp_length]; omega) (by rw [sxUp_length]; exact Nat.le_trans HO.out (by omega)) (by rw [sxUp_flat, HF.out]; omega) (sxUp_ssl _ _ zs hsv0 hB2 hB2.size)).mono ?_
      rintro e w4 ⟨rfl, hb⟩
      refine hK.out _ _ hb (fun hS2 => ?_)
      clear hK K hS2
      try simp only [Act.put, List.setIfInBounds_toArray, List.set_cons_zero, List.set_cons_succ]
      refine wpAnyH_mono (S' := fun W => Below w4.heap.size w4 W) (fun W h => chain hb h) _ _ _ _ ?_
      replace hS : Below w4.heap.size w4 w4 := Below.refl _ _
      replace hB2 := hB2.trans (hb.mono hB2.size)
      rw [sxUp_flat, HF.out, HST.out]
      clear hb
      refine' wpAnyH_take (i := 3) (oi := _) (v := _) ?hi3 (by kernel_rfl) (by kernel_rfl) (by kernel_rfl) ?hQ3 (Or.inl ⟨?hw3, ?hy3⟩) hS ?rest3
      case hi3 => simp only [List.getElem?_toArray, List.getElem?_cons_succ, List.getElem?_cons_zero]; rfl
      case hQ3 => exact fun _ _ _ h => h
      case hw3 => rfl
      case hy3 => intro W' hS'; go_simp; with_reducible rfl
      try simp only [Act.put, List.setIfInBounds_toArray, List.set_cons_zero, List.set_cons_succ]
      refine' wpAnyH_take (i := 4) (oi := _) (v := _) ?hi4 (by kernel_rfl) (by kernel_rfl) (by kernel_rfl) ?hQ4 (Or.inl ⟨?hw4, ?hy4⟩) hS ?rest4
      case hi4 => simp only [List.getElem?_toArray, List.getElem?_cons_succ, List.getElem?_cons_zero]; rfl
      case hQ4 => exact fun _ _ _ h => h
      case hw4 => rfl
      case hy4 => intro W' hS'; go_simp; with_reducible rfl
      try simp only [Act.put, List.setIfInBounds_toArray, List.set_cons_zero, List.set_cons_succ]
      refine' wpAnyH_take (i := 5) (oi := _) (v := _) ?hi5 (by kernel_rfl) (by kernel_rfl) (by kernel_rfl) ?hQ5 (Or.inl ⟨?hw5, ?hy5⟩) hS ?rest5
      case hi5 => simp only [List.getElem?_toArray, List.getElem?_cons_succ, List.getElem?_cons_zero]; rfl
      case hQ5 => exact fun _ _ _ h => h
      case hw5 => rfl
      case hy5 => intro W' hS'; go_simp; with_reducible rfl
      try simp only [Act.put, List.setIfInBounds_toArray, List.set_cons_zero, List.set_cons_succ]
      refine' wpAnyH_take (i := 7) (oi := _) (v := _) ?hi7 (by kernel_rfl) (by kernel_rfl) (by kernel_rfl) ?hQ7 (Or.inl ⟨?hw7, ?hy7⟩) hS ?rest7
      case hi7 => simp only [List.getElem?_toArray, List.getElem?_cons_succ, List.getElem?_cons_zero]; rfl
      case hQ7 => exact fun _ _ _ h => h
      case hw7 => rfl
      case hy7 => intro W' hS'; go_simp; with_reducible rfl
      try simp only [Act.put, List.setIfInBounds_toArray, List.set_cons_zero, List.set_cons_succ]
      refine' wpAnyH_take (i := 8) (oi := _) (v := _) ?hi8 (by kernel_rfl) (by kernel_rfl) (by kernel_rfl) ?hQ8 (Or.inl ⟨?hw8, ?hy8⟩) hS ?rest8
      case hi8 => simp only [List.getElem?_toArray, List.getElem?_cons_succ, List.getElem?_cons_zero]; rfl
      case hQ8 => exact fun _ _ _ h => h
      case hw8 => rfl
      case hy8 => intro W' hS'; go_simp; with_reducible rfl
      try simp only [Act.put, List.setIfInBounds_toArray, List.set_cons_zero, List.set_cons_succ]
      refine wpAnyH_ready (rs := [6]) (by kernel_rfl) (by simp) ?_
      refine' AllReadyH.cons (o := _) ?ho6 (fun K hK => ?st6) AllReadyH.nil
      case ho6 => simp only [List.getElem?_toArray, List.getElem?_cons_succ, List.getElem?_cons_zero]; rfl
      go_simp
      refine (short_any _ _ (sxUp hB2 hB2.size zs) (by rw [sxUp_length]; omega) (by rw [sxUp_length]; exact Nat.le_trans HO.out (by omega)) (by rw [sxUp_flat, HF.out]; omega) (sxUp_ssl _ _ zs hsv0 hB2 hB2.size)).mono ?_
      rintro e w5 ⟨rfl, hb⟩
      refine hK.out _ _ hb (fun hS2 => ?_)
      clear hK K hS2
      try simp only [Act.put, List.setIfInBounds_toArray, List.set_cons_zero, List.set_cons_succ]
      refine wpAnyH_mono (S' := fun W => Below w5.heap.size w5 W) (fun W h => chain hb h) _ _ _ _ ?_
      replace hS : Below w5.heap.size w5 w5 := Below.refl _ _
      replace hB2 := hB2.trans (hb.mono hB2.size)
      rw [sxUp_flat, HF.out, HST.out]
      clear hb
      refine' wpAnyH_take (i := 9) (oi := _) (v := _) ?hi9 (by kernel_rfl) (by kernel_rfl) (by kernel_rfl) ?hQ9 (Or.inl ⟨?hw9, ?hy9⟩) hS ?rest9
      case hi9 => simp only [List.getElem?_toArray, List.getElem?_cons_succ, List.getElem?_cons_zero]; rfl
      case hQ9 => exact fun _ _ _ h => h
      case hw9 => rfl
      case hy9 => intro W' hS'; go_simp; with_reducible rfl
      try simp only [Act.put, List.setIfInBounds_toArray, List.set_cons_zero, List.set_cons_succ]
      refine' wpAnyH_take (i := 10) (oi := _) (v := _) ?hi10 (by kernel_rfl) (by kernel_rfl) (by kernel_rfl) ?hQ10 (Or.inl ⟨?hw10, ?hy10⟩) hS ?rest10
      case hi10 => simp only [List.getElem?_toArray, List.getElem?_cons_succ, List.getElem?_cons_zero]; rfl
      case hQ10 => exact fun _ _ _ h => h
      case hw10 => rfl
      case hy10 => intro W' hS'; go_simp; with_reducible rfl
      try simp only [Act.put, List.setIfInBounds_toArray, List.set_cons_zero, List.set_cons_succ]
      refine' wpAnyH_take (i := 11) (oi := _) (v := _) ?hi11 (by kernel_rfl) (by kernel_rfl) (by kernel_rfl) ?hQ11 (Or.inl ⟨?hw11, ?hy11⟩) hS ?rest11
      case hi11 => simp only [List.getElem?_toArray, List.getElem?_cons_succ, List.getElem?_cons_zero]; rfl
      case hQ11 => exact fun _ _ _ h => h
      case hw11 => rfl
      case hy11 => intro W' hS'; go_simp; with_reducible rfl
      try simp only [Act.put, List.setIfInBounds_toArray, List.set_cons_zero, List.set_cons_succ]
      refine wpAnyH_done (by kernel_rfl) ?_ _
      go_wp2
      go_ret
      exact ⟨rfl, hB2⟩
end Go.Proofs.Ytboadnbkfoclpaa
