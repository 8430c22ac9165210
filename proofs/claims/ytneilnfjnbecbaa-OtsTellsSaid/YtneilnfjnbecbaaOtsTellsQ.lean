/-
  OtsTells answers true at every input, and leaves its arguments as they are.
  The walk of OtsTells: digits, chains, beginnings, the public one and a signature are as the reference says.
  Lists against each other that are one.
-/
import Derived.Deep.QuietTactic
import Derived.BigQuiet
import Derived.Outline
import Derived.ChangeMaps5
import Derived.Test.YtneilnfjnbecbaaK14
namespace Go.Proofs.Ytneilnfjnbecbaa
open Go.RowKit Go.Shelf

theorem Below.drewN {n : Nat} (w : World) (k : Nat) : Below n w (w.drewN k) := ⟨rfl, rfl, rfl, Nat.le_refl _, fun _ _ => rfl⟩

set_option maxRecDepth 100000 in
set_option maxHeartbeats 4000000 in
theorem intsEq_any (zs : List Int) (hn : zs.length ≤ 1000000) (s1 s2 : Value) (w : World) (h1 : VSl 0 w.heap.size w s1 (zs.map iv)) (h2 : VSl 0 w.heap.size w s2 (zs.map iv)) :
    Calls Try.prog 8 #[s1, s2] w fun e W' => e = .returned (.bool true) ∧ Below w.heap.size w W' := by
  have row : ∀ {sv : Value}, VSl 0 w.heap.size w sv (zs.map iv) → ∃ a c, sv = .slice a zs.length c ∧ ∀ k x, zs[k]? = some x → ∃ b off, a = some ⟨b, off, none⟩ ∧ b < w.heap.size ∧ w.cell? ⟨b, off + k, none⟩ = some (iv x) := fun h => by
    obtain ⟨a, c, e, _, h0⟩ := h
    rw [List.length_map] at e
    refine ⟨a, c, e, fun k x hx => ?_⟩
    rcases h0 with h0 | ⟨b, off, ha, _, hb, hr⟩
    · rw [List.map_eq_nil_iff] at h0; subst h0; simp at hx
    · exact ⟨b, off, ha, hb, hr k _ (by rw [List.getElem?_map, hx]; rfl)⟩
  obtain ⟨a1, c1, rfl, r1⟩ := row h1
  obtain ⟨a2, c2, rfl, r2⟩ := row h2
  have R1 := Lib.hid r1
  have R2 := Lib.hid r2
  clear row h1 h2 r1 r2
  go_enter Try.func8, Try.ntmps8
  go_wp2
  go_loopw [5] (fun i wr => ∃ k : Nat, k ≤ zs.length ∧ i = .int .i64 (k : Nat) ∧ Below w.heap.size w wr) (fun i _ => zs.length - (intOf i).toNat)
  case atStart => exact ⟨0, by omega, rfl, Below.refl _ _⟩
  case round =>
    obtain ⟨k, hk, rfl, hB⟩ := hrel
    by_cases hlt : k < zs.length
    · obtain ⟨x, hx⟩ : ∃ x, zs[k]? = some x := ⟨_, List.getElem?_eq_getElem hlt⟩
      obtain ⟨b1, o1, rfl, hb1, e1⟩ := R1.out k x hx
      obtain ⟨b2, o2, rfl, hb2, e2⟩ := R2.out k x hx
      replace e1 := (hB.cell (p := ⟨b1, o1 + k, none⟩) hb1).trans e1
      replace e2 := (hB.cell (p := ⟨b2, o2 + k, none⟩) hb2).trans e2
      simp only [iv] at e1 e2
      have hlt' : (k : Int) < (zs.length : Int) := by omega
      have HLT := Lib.hid hlt
      clear hx hk hlt
      generalize hL : zs.length = len at *
      have HLn := Lib.hid hL
      clear hL
      go_wp2_with fail
      go_quiet (fail)
      go_wp2_with fail
      go_roundw
      case rel => exact ⟨k + 1, HLT.out, by simp, hB.trans (Below.drewN _ _)⟩
      case measure => have := HLT.out; simp [intOf]; omega
    · obtain rfl : k = zs.length := by omega
      go_wp2_with fail
      go_ret
      exact ⟨rfl, hB⟩

set_option maxRecDepth 100000 in
set_option maxHeartbeats 4000000 in
theorem textsEq_any (zs : List ByteArray) (hn : zs.length ≤ 1000000) (s1 s2 : Value) (w : World) (h1 : VSl 0 w.heap.size w s1 (zs.map tv)) (h2 : VSl 0 w.heap.size w s2 (zs.map tv)) :
    Calls Try.prog 13 #[s1, s2] w fun e W' => e = .returned (.bool true) ∧ Below w.heap.size w W' := by
  have row : ∀ {sv : Value}, VSl 0 w.heap.size w sv (zs.map tv) → ∃ a c, sv = .slice a zs.length c ∧ ∀ k x, zs[k]? = some x → ∃ b off, a = some ⟨b, off, none⟩ ∧ b < w.heap.size ∧ w.cell? ⟨b, off + k, none⟩ = some (tv x) := fun h => by
    obtain ⟨a, c, e, _, h0⟩ := h
    rw [List.length_map] at e
    refine ⟨a, c, e, fun k x hx => ?_⟩
    rcases h0 with h0 | ⟨b, off, ha, _, hb, hr⟩
    · rw [List.map_eq_nil_iff] at h0; subst h0; simp at hx
    · exact ⟨b, off, ha, hb, hr k _ (by rw [List.getElem?_map, hx]; rfl)⟩
  obtain ⟨a1, c1, rfl, r1⟩ := row h1
  obtain ⟨a2, c2, rfl, r2⟩ := row h2
  have R1 := Lib.hid r1
  have R2 := Lib.hid r2
  clear row h1 h2 r1 r2
  go_enter Try.func13, Try.ntmps13
  go_wp2
  go_loopw [5] (fun i wr => ∃ k : Nat, k ≤ zs.length ∧ i = .int .i64 (k : Nat) ∧ Below w.heap.size w wr) (fun i _ => zs.length - (intOf i).toNat)
  case atStart => exact ⟨0, by omega, rfl, Below.refl _ _⟩
  case round =>
    obtain ⟨k, hk, rfl, hB⟩ := hrel
    by_cases hlt : k < zs.length
    · obtain ⟨x, hx⟩ : ∃ x, zs[k]? = some x := ⟨_, List.getElem?_eq_getElem hlt⟩
      obtain ⟨b1, o1, rfl, hb1, e1⟩ := R1.out k x hx
      obtain ⟨b2, o2, rfl, hb2, e2⟩ := R2.out k x hx
      replace e1 := (hB.cell (p := ⟨b1, o1 + k, none⟩) hb1).trans e1
      replace e2 := (hB.cell (p := ⟨b2, o2 + k, none⟩) hb2).trans e2
      simp only [tv] at e1 e2
      have hlt' : (k : Int) < (zs.length : Int) := by omega
      have HLT := Lib.hid hlt
      clear hx hk hlt
      generalize hL : zs.length = len at *
      have HLn := Lib.hid hL
      clear hL
      go_wp2_with fail
      go_quiet (fail)
      go_wp2_with fail
      go_roundw
      case rel => exact ⟨k + 1, HLT.out, by simp, hB.trans (Below.drewN _ _)⟩
      case measure => have := HLT.out; simp [intOf]; omega
    · obtain rfl : k = zs.length := by omega
      go_wp2_with fail
      go_ret
      exact ⟨rfl, hB⟩
end Go.Proofs.Ytneilnfjnbecbaa

namespace Go.Proofs.Ytneilnfjnbecbaa
open Go.RowKit Go.Shelf

theorem BSl.up {W W' : World} {sv : Value} {l : List UInt8} (h : BSl 0 W.heap.size W sv l) (hb : Below W.heap.size W W') : BSl 0 W'.heap.size W' sv l := (h.below hb (Nat.le_refl _)).mono (Nat.le_refl _) hb.size
theorem VSl.up {W W' : World} {sv : Value} {vs : List Value} (h : VSl 0 W.heap.size W sv vs) (hb : Below W.heap.size W W') : VSl 0 W'.heap.size W' sv vs := (h.below hb (Nat.le_refl _)).mono (Nat.le_refl _) hb.size

set_option maxRecDepth 100000 in
set_option maxHeartbeats 8000000 in
theorem otsTells_any (s : ByteArray) (hs : s.size ≤ 140737488352000) (z : Int) (a : Option Addr) (cap : Nat) (l : List UInt8) (hreach : l.length ≤ 140737488351232) (n : Int) (w : World) (hsb : BSl 0 w.heap.size w (.slice a l.length cap) l) :
    Calls Try.prog 3 #[.string s, .int .i64 z, .slice a l.length cap, .int .i64 n] w fun e W' => e = .returned (.bool true) ∧ Below w.heap.size w W' := by
  go_enter Try.func3, Try.ntmps3
  go_wp2_with fail
  refine (otsAlive_any _).mono ?_
  rintro e w1 ⟨rfl, hb1⟩
  have hsb1 := BSl.up hsb hb1
  clear hsb
  go_wp2_with fail
  refine (digitsOf_any l _ _ (by omega) hsb1).mono ?_
  rintro e w2 ⟨v2, rfl, hown2, hb2⟩
  have hq2 := VSl.of_own (vs := (digL l).map iv) (by rw [List.length_map, digL_length]; exact hown2)
  obtain ⟨g2, c2, rfl⟩ := ownsRow_succ hown2
  have hsb2 := BSl.up hsb1 hb2
  have hB2 := chain hb1 hb2
  clear hown2 hsb1 hb1 hb2
  go_wp2_with fail
  refine (refDigits_any l _ _ (by omega) hsb2).mono ?_
  rintro e w3 ⟨v3, rfl, hown3, hb3⟩
  have hq3 := VSl.of_own (vs := (digL l).map iv) (by rw [List.length_map, digL_length]; exact hown3)
  obtain ⟨g3, c3, rfl⟩ := ownsRow_succ hown3
  have hsb3 := BSl.up hsb2 hb3
  have hB3 := chain hB2 hb3
  have hq23 := VSl.up (hq2.mono (Nat.zero_le _) (Nat.le_refl _)) hb3
  have hdl := digL_length l
  have HDL := Lib.hid hdl
  clear hown3 hsb2 hB2 hb3 hq2 hdl
  go_wp2_with fail
  refine (intsEq_any (digL l) (by rw [HDL.out]; omega) _ _ _ hq23 (hq3.mono (Nat.zero_le _) (Nat.le_refl _))).mono ?_
  rintro e w4 ⟨rfl, hb4⟩
  have hsb4 := BSl.up hsb3 hb4
  have hB4 := chain hB3 hb4
  clear hsb3 hB3 hb4 hq23 hq3
  go_wp2_with fail
  refine (walk_any s (by omega) n _).mono ?_
  rintro e w5 ⟨rfl, hb5⟩
  have hsb5 := BSl.up hsb4 hb5
  have hB5 := chain hB4 hb5
  clear hsb4 hB4 hb5
  go_wp2_with fail
  refine (refWalk_any s (by omega) n _).mono ?_
  rintro e w6 ⟨rfl, hb6⟩
  have hsb6 := BSl.up hsb5 hb6
  have hB6 := chain hB5 hb6
  clear hsb5 hB5 hb6
  generalize linkB s (stp n) = lk at *
  go_wp2_with fail
  refine (begin_any s hs z _).mono ?_
  rintro e w7 ⟨v7, rfl, hown7, hb7⟩
  have hbl := begs_length s (lfN z)
  have hq7 := VSl.of_own (vs := (begs s (lfN z)).map tv) (by rw [List.length_map, hbl]; exact hown7)
  obtain ⟨g7, c7, rfl⟩ := ownsRow_succ hown7
  have hsb7 := BSl.up hsb6 hb7
  have hB7 := chain hB6 hb7
  have HBL := Lib.hid hbl
  clear hown7 hsb6 hB6 hb7 hbl
  go_wp2_with fail
  refine (refBegin_any s hs z _).mono ?_
  rintro e w8 ⟨v8, rfl, hown8, hb8⟩
  have hq8 := VSl.of_own (vs := (begs s (lfN z)).map tv) (by rw [List.length_map, HBL.out]; exact hown8)
  obtain ⟨g8, c8, rfl⟩ := ownsRow_succ hown8
  have hsb8 := BSl.up hsb7 hb8
  have hB8 := chain hB7 hb8
  have hq78 := VSl.up (hq7.mono (Nat.zero_le _) (Nat.le_refl _)) hb8
  clear hown8 hsb7 hB7 hb8 hq7
  go_wp2_with fail
  refine (textsEq_any (begs s (lfN z)) (by rw [HBL.out]; omega) _ _ _ hq78 (hq8.mono (Nat.zero_le _) (Nat.le_refl _))).mono ?_
  rintro e w9 ⟨rfl, hb9⟩
  have hsb9 := BSl.up hsb8 hb9
  have hB9 := chain hB8 hb9
  clear hsb8 hB8 hb9 hq78 hq8
  go_wp2_with fail
  refine (public_any s hs z _).mono ?_
  rintro e w10 ⟨rfl, hb10⟩
  have hsb10 := BSl.up hsb9 hb10
  have hB10 := chain hB9 hb10
  clear hsb9 hB9 hb10
  go_wp2_with fail
  refine (refPublic_any s hs z _).mono ?_
  rintro e w11 ⟨rfl, hb11⟩
  have hsb11 := BSl.up hsb10 hb11
  have hB11 := chain hB10 hb11
  clear hsb10 hB10 hb11
  generalize publicB s (lfN z) = pb at *
  go_wp2_with fail
  refine (sign_any s hs z l _ _ (by omega) hsb11).mono ?_
  rintro e w12 ⟨v12, rfl, hown12, hb12⟩
  have hsl : (signL s (lfN z) l).length = 15 := by unfold signL; rw [walked_length, HBL.out]
  have hq12 := VSl.of_own (vs := (signL s (lfN z) l).map tv) (by rw [List.length_map, hsl]; exact hown12)
  obtain ⟨g12, c12, rfl⟩ := ownsRow_succ hown12
  have hsb12 := BSl.up hsb11 hb12
  have hB12 := chain hB11 hb12
  have HSL := Lib.hid hsl
  clear hown12 hsb11 hB11 hb12 hsl
  go_wp2_with fail
  refine (refParts_any s hs z l _ _ (by omega) hsb12).mono ?_
  rintro e w13 ⟨v13, rfl, hown13, hb13⟩
  have hq13 := VSl.of_own (vs := (signL s (lfN z) l).map tv) (by rw [List.length_map, HSL.out]; exact hown13)
  obtain ⟨g13, c13, rfl⟩ := ownsRow_succ hown13
  have hB13 := chain hB12 hb13
  have hq123 := VSl.up (hq12.mono (Nat.zero_le _) (Nat.le_refl _)) hb13
  clear hown13 hsb12 hB12 hb13 hq12
  go_wp2_with fail
  refine (textsEq_any (signL s (lfN z) l) (by rw [HSL.out]; omega) _ _ _ hq123 (hq13.mono (Nat.zero_le _) (Nat.le_refl _))).mono ?_
  rintro e w14 ⟨rfl, hb14⟩
  have hB14 := chain hB13 hb14
  clear hB13 hb14 hq123 hq13
  go_wp2_with fail
  go_ret
  exact ⟨rfl, hB14⟩
end Go.Proofs.Ytneilnfjnbecbaa

namespace Go.Proofs.Ytneilnfjnbecbaa
open Go.ChangeShapes Go.WideShapes Go.ChangeAt Go.RowKit Go.Deep
open Go.ChangeMaps (open_string)

set_option maxRecDepth 100000 in
theorem otsTells_lifted (os : Os) (started : os.Started) (H : Type) (enc : TypeId × Value → H) :
    ReturnsInHanded {} Try.checked os 3 .any (Rows.otsTellsSpec.pre6 enc Try.prog Try.f3 Rows.otsTellsRow.domain false) (Rows.otsTellsSpec.post enc Try.prog Try.f3 false true false false) := by
  refine returnsInHanded_of_change_sized (C := Try.checked) Try.own started (by kernel_rfl) Try.func3
    (ChangeSpec.witness6 (enc := enc) (C := Try.checked) false ⟨#[], #[.string ⟨#[]⟩, .int .i64 0, .slice none 0 0, .int .i64 0], []⟩ 8 (by kernel_rfl) (by kernel_rfl) (by kernel_rfl) (by kernel_rfl)) ?_
  intro W base args ds gs before hval0 hW hcnd hsz0 _
  have hval : ∀ (j : Nat) t v, Try.f3.params[j]? = some t → args[j]? = some v → Value.okWide Try.prog W .any base t v := hval0
  have hW' := hW
  obtain ⟨p, q, hA0, hV, rfl, hfz, hnd⟩ := hW
  have hA : DataW.TrodAll enc Try.prog W 0 (fun _ => true) true Try.f3.params.toList args.toList ds p := hA0
  have hsz : (DataW.weightsEach Try.prog (Try.f3.params.toList ++ Rows.otsTellsSpec.plain.varTypes Try.prog) (ds ++ gs)).all (· ≤ reachBytes) = true := hsz0
  rw [Try.params3] at hA hval hsz
  obtain ⟨v0, v1, v2, v3, d0, d1, d2, d3, p0, p1, p2, p3, rfl, rfl, rfl, h0, h1, h2, h3⟩ := trodAll_four hA
  obtain ⟨rfl, rfl⟩ := trodVars_none hV
  obtain ⟨a2, len2, cap2, rfl⟩ := okWide_slice Try.underlying22 (hval 2 22 v2 rfl rfl)
  have k0 := h0
  have k1 := h1
  have k2 := h2
  have k3 := h3
  have lt0 : ∀ x ∈ p0, x.block < W.heap.size := by obtain ⟨m, hm⟩ := k0; exact DataW.trod_lt m _ _ _ hm
  have lt1 : ∀ x ∈ p1, x.block < W.heap.size := by obtain ⟨m, hm⟩ := k1; exact DataW.trod_lt m _ _ _ hm
  have lt2 : ∀ x ∈ p2, x.block < W.heap.size := by obtain ⟨m, hm⟩ := k2; exact DataW.trod_lt m _ _ _ hm
  have lt3 : ∀ x ∈ p3, x.block < W.heap.size := by obtain ⟨m, hm⟩ := k3; exact DataW.trod_lt m _ _ _ hm
  obtain ⟨s0, rfl, ds0, _, _⟩ := open_string Try.underlying9 (hval 0 9 v0 rfl rfl) h0
  have hs0 : s0.size ≤ 140737488351232 := by
    have := sized_string hsz (j := 0) (t := 9) (bytes := s0.data.toList) rfl (by rw [ds0]; rfl)
    simp only [reachBytes] at this
    exact this
  obtain ⟨z1, rfl, _, _, wf1⟩ := open_int Try.underlying3 (hval 1 3 v1 rfl rfl) h1
  obtain ⟨zl1, zh1⟩ := wf_i64 wf1
  obtain ⟨l2, rfl, hsl2, hd2⟩ := open_bytes h2
  have hreach2 : l2.length ≤ 140737488351232 := by
    rcases hd2 with rfl | ⟨el, sp, rfl, hel⟩
    · simp
    · have := sized_slice hsz (j := 2) (t := 22) (e := 5) rfl rfl Try.underlying22
      rw [Try.bytes8] at this
      simp only [reachBytes] at this
      omega
  obtain ⟨z3, rfl, _, _, wf3⟩ := open_int Try.underlying3 (hval 3 3 v3 rfl rfl) h3
  obtain ⟨zl3, zh3⟩ := wf_i64 wf3
  clear hA0 hval0
  refine (otsTells_any s0 (by omega) z1 a2 cap2 l2 hreach2 z3 W hsl2).mono fun e W' ⟨he, bel⟩ => ?_
  subst he
  exact ⟨_, rfl, _, _, _, [], _, [], hW', trodAll_mk1 (shut_bool Try.underlying4 _), (trodAll_mk4 (Below.trod Try.laidOut (by kernel_rfl) (of_decide_eq_true (by kernel_rfl)) k0 bel lt0) (Below.trod Try.laidOut (by kernel_rfl) (of_decide_eq_true (by kernel_rfl)) k1 bel lt1) (Below.trod Try.laidOut (by kernel_rfl) (of_decide_eq_true (by kernel_rfl)) k2 bel lt2) (Below.trod Try.laidOut (by kernel_rfl) (of_decide_eq_true (by kernel_rfl)) k3 bel lt3)), rfl, bel.frame _, fun h => by cases h⟩

theorem otsTells_over : Rows.otsTellsRow.holds Try.pinned (OpenSpec.ofChange Rows.otsTellsSpec) :=
  OpenClaim.holds_of_wide 3 Try.f3 rfl rfl rfl rfl rfl rfl rfl ⟨rfl, rfl, rfl, rfl, rfl⟩ rfl rfl rfl rfl rfl (by kernel_rfl) Try.func3 (by kernel_rfl)
    (of_decide_eq_true (by kernel_rfl)) (by unfold Func.isWrapper; first | (rw [if_pos (by decide +kernel)]; kernel_rfl) | (rw [if_neg (by decide +kernel)]; exact ⟨rfl, rfl⟩))
    (fun os started H enc _ => otsTells_lifted os started H enc)

/-- The statement. -/
theorem otsTells_proved : Rows.OtsTellsSaid := otsTells_over
end Go.Proofs.Ytneilnfjnbecbaa
