/-
  The walk of BlobCuts: it answers true at every text of bounded length and every size.
-/
import Derived.Test.YtamoemoclklhdaaBlobTellsW
import Derived.Test.YtamoemoclklhdaaBlobOwnW
namespace Go.Proofs.Ytamoemoclklhdaa
open Go.RowKit Go.Shelf

theorem chc_le {L s : Nat} (hs : 1 ≤ s) : chc L s ≤ L := by
  rcases Nat.lt_or_ge L (chc L s) with h | h
  · have := (chc_lt hs).1 h
    have h2 := Nat.le_mul_of_pos_right L (show 0 < s by omega)
    omega
  · exact h
theorem cut_flat {l : List UInt8} {L s : Nat} (hL : l.length = L) (hs : 1 ≤ s) : ((chs L s).map (piece l)).flatten = l := by
  have key : ∀ k, k ≤ chc L s → (((chs L s).take k).map (piece l)).flatten = l.take (min (k * s) L) := by
    intro k
    induction k with
    | zero => intro _; simp
    | succ k ih =>
      intro hk
      have hkL := (chc_lt (L := L) hs).1 hk
      rw [List.take_add_one, chs_at hk, List.map_append, List.flatten_append, ih (by omega)]
      show l.take (min (k * s) L) ++ (piece l (chn L s k) ++ []) = _
      rw [List.append_nil, chn_of hkL]
      unfold piece
      dsimp only
      rw [Nat.min_eq_left (Nat.le_of_lt hkL), ← List.take_add]
      congr 1
      rw [Nat.succ_mul]
      omega
  have h := key (chc L s) (Nat.le_refl _)
  rw [List.take_of_length_le (by rw [chs_length]; exact Nat.le_refl _)] at h
  rw [h]
  have hn : ¬ chc L s * s < L := fun e => Nat.lt_irrefl _ ((chc_lt hs).2 e)
  rw [Nat.min_eq_right (by omega), List.take_of_length_le (by omega)]
theorem sx_of {o n : Nat} {W : World} : ∀ (vs : List Value) (bs : List (List UInt8)), vs.length = bs.length → (∀ (k : Nat) (v : Value) (b : List UInt8), vs[k]? = some v → bs[k]? = some b → BSl 0 n W v b ∧ b.length ≤ o) →
    ∃ zs : List (SX o n W), zs.length = vs.length ∧ (∀ (k : Nat) (x : SX o n W), zs[k]? = some x → vs[k]? = some x.1.1) ∧ flat zs = bs.flatten
  | [], [], _, _ => ⟨[], rfl, fun k x h => by simp at h, rfl⟩
  | [], _ :: _, h, _ => by simp at h
  | _ :: _, [], h, _ => by simp at h
  | v :: vs, b :: bs, h, H => by
    obtain ⟨zs, h1, h2, h3⟩ := sx_of vs bs (by simpa using h) (fun k v' b' hv hb => H (k + 1) v' b' (by simpa using hv) (by simpa using hb))
    refine ⟨⟨(v, b), H 0 v b rfl rfl⟩ :: zs, by simp [h1], fun k x hx => ?_, ?_⟩
    · rcases k with _ | k
      · simp at hx; rw [← hx]; rfl
      · simp at hx; simpa using h2 k x hx
    · have e : flat ((⟨(v, b), H 0 v b rfl rfl⟩ : SX o n W) :: zs) = b ++ flat zs := by simp [flat]
      rw [e, h3, List.flatten_cons]

set_option maxRecDepth 100000 in
set_option maxHeartbeats 40000000 in
theorem blobCuts_any (a : Option Addr) (cap : Nat) (l : List UInt8) (L : Nat) (hL : l.length = L) (size : Int) (hsize : size ≤ 9223372036854775807) (s : Nat) (hs : (1 ≤ size ∧ (s : Int) = size) ∨ (size < 1 ∧ 1 ≤ L ∧ (s : Int) = (L : Int)) ∨ (size < 1 ∧ L = 0 ∧ (s : Int) = 1))
    (hreach : L ≤ 1048576) (hcap' : cap ≤ 9223372036854775807) (w : World) (hsb : BSl 0 w.heap.size w (.slice a L cap) l) :
    Calls Try.prog 5 #[.slice a L cap, .int .i64 size] w fun e W' => e = .returned (.bool true) ∧ Below w.heap.size w W' := by
  have hmx : Try.prog.follows .mixedOrders = true := by kernel_rfl
  have hs1 : 1 ≤ s := by omega
  have hn := chc_le (L := L) hs1
  have HL := Lib.hid hL
  have HSZ := Lib.hid hs
  clear hL hs
  go_enter Try.func5, Try.ntmps5
  go_wp2_with fail
  refine (blobAlive_any _).mono ?_
  rintro e w1 ⟨rfl, hb1⟩
  replace hsb := (hsb.below hb1 (Nat.le_refl _))
  go_wp2_with fail
  refine (cut_any l L HL.out a cap size hsize s HSZ.out (by omega) (by omega) hcap' w1 (hsb.mono (Nat.le_refl _) hb1.size)).mono ?_
  rintro e w2 ⟨d, vs, rfl, hd, hp, hb2⟩
  replace hsb := hsb.below hb2 hb1.size
  have d2 := chain hb1 hb2
  have hz : w.heap.size ≤ w2.heap.size := d2.size
  clear hb1 hb2
  obtain ⟨da, dc, rfl⟩ := ownsRow_slice hd
  have hpl : ∀ (k : Nat) (b : List UInt8), ((chs L s).map (piece l))[k]? = some b → b.length ≤ L := fun k b hb => by
    rw [List.getElem?_map] at hb
    obtain ⟨p, _, rfl⟩ := Option.map_eq_some_iff.1 hb
    rw [piece_length HL.out]
    have := p.2
    omega
  obtain ⟨zs, hz1, hz2, hz3⟩ := sx_of (o := L) (n := w2.drew.heap.size) (W := w2.drew) vs _ hp.1 (fun k v b hv hb => ⟨((BSl.of_own (e := 5) (hp.2 k v b hv hb)).mono (Nat.zero_le _) (Nat.le_refl _)).below (Below.refl _ w2).drew (Nat.le_refl _), hpl k b hb⟩)
  have hvl : vs.length = chc L s := by have := hp.1; rw [List.length_map, chs_length] at this; exact this
  rw [cut_flat HL.out hs1] at hz3
  have hssl : SSl w2.drew.heap.size w2.drew (.slice da (chc L s) dc) zs := by
    refine ⟨da, dc, by rw [hz1, hvl], ?_⟩
    rcases Nat.eq_zero_or_pos (chc L s) with h0 | h0
    · exact .inl (List.eq_nil_of_length_eq_zero (by rw [hz1, hvl, h0]))
    · obtain ⟨g, c', e, _, hg⟩ := hd.form h0
      cases e
      exact .inr ⟨g, 0, rfl, hg, fun k x hx => by
        have hk : k < chc L s := by have := (List.getElem?_eq_some_iff.1 hx).1; omega
        show w2.cell? _ = _
        rw [Nat.zero_add, hd.cellAt k (by omega)]
        exact hz2 k x hx⟩
  have hmul : zs.length * L ≤ 1048576 * 1048576 := Nat.mul_le_mul (by omega) hreach
  have HP := Lib.hid hp
  have HD := Lib.hid hd
  have HF := Lib.hid hz3
  clear hp hd hpl hz2 hz3
  go_wp2_with fail
  refine wp_region_held_drew (S := fun W => Below w2.heap.size w2 W) hmx (Below.refl _ w2).drew ?_
  intro hS
  refine' wpAnyH_take (i := 0) (oi := _) (v := _) ?hi0 (by kernel_rfl) (by kernel_rfl) (by kernel_rfl) ?hQ0 (Or.inl ⟨?hw0, ?hy0⟩) hS ?rest0
  case hi0 => simp only [List.getElem?_toArray, List.getElem?_cons_zero]; rfl
  case hQ0 => exact fun _ _ _ h => h
  case hw0 => rfl
  case hy0 => intro W' hS'; go_simp; with_reducible rfl
  try simp only [Act.put, List.setIfInBounds_toArray, List.set_cons_zero, List.set_cons_succ]
  refine' wpAnyH_take (i := 3) (oi := _) (v := _) ?hi3 (by kernel_rfl) (by kernel_rfl) (by kernel_rfl) ?hQ3 (Or.inl ⟨?hw3, ?hy3⟩) hS ?rest3
  case hi3 => simp only [List.getElem?_toArray, List.getElem?_cons_succ, List.getElem?_cons_zero]; rfl
  case hQ3 => exact fun _ _ _ h => h
  case hw3 => rfl
  case hy3 => intro W' hS'; go_simp; with_reducible rfl
  try simp only [Act.put, List.setIfInBounds_toArray, List.set_cons_zero, List.set_cons_succ]
  refine' wpAnyH_take (i := 4) (oi := _) (v := _) ?hi4 (by kernel_rfl) (by kernel_rfl) (by kernel_rfl) ?hQ4 (Or.inl ⟨?hw4, ?hy4⟩) hS ?rest4
  case hi4 => simp only [List.getElem?_toArray, List.getElem?_cons_succ, List.getElem?_cons_zero]; rfl
  case hQ4 => exact fun _ _ _ h => h
  case hw4 => rfl
  case hy4 => intro W' hS'; have hcv := run_string (P := Try.prog) 22 5 9 Try.underlying22 Try.underlying5 Try.underlying9 W' (hsb.below hS' hz); go_simp; with_reducible rfl
  try simp only [Act.put, List.setIfInBounds_toArray, List.set_cons_zero, List.set_cons_succ]
  refine wpAnyH_ready (rs := [1]) (by kernel_rfl) (by simp) ?_
  refine' AllReadyH.cons (o := _) ?ho1 (fun K hK => ?st1) AllReadyH.nil
  case ho1 => simp only [List.getElem?_toArray, List.getElem?_cons_succ, List.getElem?_cons_zero]; rfl
  go_simp
  refine (cat_any _ _ zs (by omega) (by omega) hssl).mono ?_
  rintro e w3 ⟨c, rfl, hc, hb⟩
  rw [HF.out] at hc
  refine hK.out _ _ ((Below.refl _ w2).drew.trans hb) (fun hS2 => ?_)
  clear hK K hS
  try simp only [Act.put, List.setIfInBounds_toArray, List.set_cons_zero, List.set_cons_succ]
  refine wpAnyH_mono (S' := fun W => Below w3.heap.size w3 W) (fun W h => chain hS2 h) _ _ _ _ ?_
  have hS : Below w3.heap.size w3 w3 := Below.refl _ _
  clear hb hssl
  refine' wpAnyH_take (i := 2) (oi := _) (v := _) ?hi2 (by kernel_rfl) (by kernel_rfl) (by kernel_rfl) ?hQ2 (Or.inl ⟨?hw2, ?hy2⟩) hS ?rest2
  case hi2 => simp only [List.getElem?_toArray, List.getElem?_cons_succ, List.getElem?_cons_zero]; rfl
  case hQ2 => exact fun _ _ _ h => h
  case hw2 => rfl
  case hy2 => intro W' hS'; have hcv := run_string (P := Try.prog) 22 5 9 Try.underlying22 Try.underlying5 Try.underlying9 W' (hc.below hS' (Nat.le_refl _)); go_simp; with_reducible rfl
  try simp only [Act.put, List.setIfInBounds_toArray, List.set_cons_zero, List.set_cons_succ]
  refine' wpAnyH_take (i := 5) (oi := _) (v := _) ?hi5 (by kernel_rfl) (by kernel_rfl) (by kernel_rfl) ?hQ5 (Or.inl ⟨?hw5, ?hy5⟩) hS ?rest5
  case hi5 => simp only [List.getElem?_toArray, List.getElem?_cons_succ, List.getElem?_cons_zero]; rfl
  case hQ5 => exact fun _ _ _ h => h
  case hw5 => rfl
  case hy5 => intro W' hS'; go_simp; with_reducible rfl
  try simp only [Act.put, List.setIfInBounds_toArray, List.set_cons_zero, List.set_cons_succ]
  refine wpAnyH_done (by kernel_rfl) ?_ _
  have hd3 := own_below HD.out hS2
  have hp3 := HP.out.to fun v b ho => own_below ho hS2
  have d3 := chain d2 hS2
  clear hc hS HD HP hsb
  by_cases hs0 : size < 1
  · have hS1 : (L = 0 ∧ chc L s = 0) ∨ (1 ≤ L ∧ chc L s = 1) := by
      rcases HSZ.out with ⟨h, _⟩ | ⟨_, h, e⟩ | ⟨_, rfl, e⟩
      · omega
      · obtain rfl : s = L := by omega
        exact .inr ⟨h, chc_one h⟩
      · exact .inl ⟨rfl, chc_nil s hs1⟩
    rcases hS1 with ⟨rfl, hc0⟩ | ⟨h1, hc1⟩
    · rw [hc0]
      clear hc0
      go_wp2
      go_ret
      exact ⟨rfl, d3⟩
    · rw [hc1]
      clear hc1
      have h1' : 1 ≤ (L : Int) := by omega
      go_wp2
      all_goals
        go_ret
        by_cases hL1 : L = 1
        · subst hL1
          exact ⟨rfl, d3⟩
        · first | exact ⟨rfl, d3⟩ | omega
  · obtain rfl : size = (s : Int) := by
      rcases HSZ.out with ⟨_, e⟩ | ⟨h, _⟩ | ⟨h, _⟩
      · exact e.symm
      · omega
      · omega
    clear hs0 HSZ
    have hs1' : ¬ (s : Int) < 1 := by omega
    have hrn : chc L s ≤ 1048576 := by omega
    generalize hN : chc L s = n at *
    have HN := Lib.hid hN
    clear hN
    go_wp2_with fail
    go_loop [6] (fun i => ∃ k : Nat, k ≤ n ∧ i = .int .i64 k) (fun i => n - (intOf i).toNat)
    case atStart => exact ⟨0, Nat.zero_le _, rfl⟩
    case round =>
      obtain ⟨k, hk, rfl⟩ := hrel
      by_cases hlt : k < n
      · obtain ⟨v, hv⟩ : ∃ v, vs[k]? = some v := ⟨_, List.getElem?_eq_getElem (by omega)⟩
        have hkc : k < chc L s := by rw [HN.out]; exact hlt
        have hkL := (chc_lt (L := L) hs1).1 hkc
        have hbk : ((chs L s).map (piece l))[k]? = some (piece l (chn L s k)) := by rw [List.getElem?_map, chs_at hkc]; rfl
        have hrow := hp3.2 k v _ hv hbk
        rw [piece_length HL.out, chn_of hkL] at hrow
        dsimp only at hrow
        obtain ⟨va, vc, rfl⟩ := ownsRow_slice hrow
        obtain ⟨g, gc, hge, _, hgl⟩ := hd3.form (by omega)
        cases hge
        have hcell := hd3.cellAt k (by omega)
        rw [hv] at hcell
        have hlast : k + 1 < n → min s (L - k * s) = s := fun h => by
          have h2 := (chc_lt (L := L) (k := k + 1) hs1).1 (by rw [HN.out]; exact h)
          rw [Nat.succ_mul] at h2
          omega
        have he1 : 1 ≤ min s (L - k * s) := by omega
        have he2 : min s (L - k * s) ≤ s := by omega
        clear hrow hbk hv hkc hkL hd3 hp3
        generalize min s (L - k * s) = e at *
        have hkn : (k : Int) < (n : Int) := by omega
        by_cases hl : k + 1 < n
        · obtain rfl := hlast hl
          clear hlast
          have hl' : (k : Int) < (n : Int) - 1 := by omega
          go_wp2
          exact ⟨⟨k + 1, by omega, by simp⟩, by simp [intOf]; omega⟩
        · clear hlast
          have hl' : ¬ (k : Int) < (n : Int) - 1 := by omega
          have he1' : ¬ (e : Int) < 1 := by omega
          have he2' : ¬ (s : Int) < (e : Int) := by omega
          go_wp2
          exact ⟨⟨k + 1, by omega, by simp⟩, by simp [intOf]; omega⟩
      · obtain rfl : k = n := by omega
        go_wp2
        go_ret
        exact ⟨rfl, d3⟩

end Go.Proofs.Ytamoemoclklhdaa
