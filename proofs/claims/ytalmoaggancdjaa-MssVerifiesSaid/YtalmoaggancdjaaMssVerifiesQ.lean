/-
  MssVerifies answers true at every input, and leaves its arguments as they are.
  The walk of MssVerifies: whether a signature leads to a root, and its leaf, are as the reference says.
-/
import Derived.Outline
import Derived.ChangeMaps5
import Derived.Test.YtalmoaggancdjaaK14
namespace Go.Proofs.Ytalmoaggancdjaa
open Go.RowKit Go.Shelf

/-- What Verify tells: of both alike. -/
theorem verify_both (root : ByteArray) (l : List UInt8) (tx : Value) (g : ByteArray) (hreach : l.length ≤ 140737488353000) :
    ∃ (n : Int) (b : Bool), (∀ w : World, BSl 0 w.heap.size w tx l → Calls Try.prog 14 #[.string root, tx, .string g] w (VerW n b w)) ∧
      ∀ w : World, BSl 0 w.heap.size w tx l → Calls Try.prog 15 #[.string root, tx, .string g] w (VerW n b w) := by
  by_cases hg : g.size = 145
  · by_cases h8 : leafN g < 8
    · by_cases ht : topB l g = root
      · exact ⟨_, true, fun w hw => verify_top root l tx g hg h8 w hreach hw true ⟨fun _ => ht, fun _ => rfl⟩, fun w hw => refVerify_top root l tx g hg h8 w hreach hw true ⟨fun _ => ht, fun _ => rfl⟩⟩
      · exact ⟨_, false, fun w hw => verify_top root l tx g hg h8 w hreach hw false ⟨fun h => (by cases h), fun h => absurd h ht⟩, fun w hw => refVerify_top root l tx g hg h8 w hreach hw false ⟨fun h => (by cases h), fun h => absurd h ht⟩⟩
    · exact ⟨0, false, fun w _ => verify_leaf root tx g hg (by omega) w, fun w _ => refVerify_leaf root tx g hg (by omega) w⟩
  · exact ⟨0, false, fun w _ => verify_long root tx g hg w, fun w _ => refVerify_long root tx g hg w⟩

set_option maxRecDepth 100000 in
set_option maxHeartbeats 4000000 in
theorem mssVerifies_any (root : ByteArray) (a : Option Addr) (cap : Nat) (l : List UInt8) (g : ByteArray) (hgz : g.size ≤ 9223372036854775807) (hreach : l.length ≤ 140737488351232) (w : World) (hsb : BSl 0 w.heap.size w (.slice a l.length cap) l) :
    Calls Try.prog 4 #[.string root, .slice a l.length cap, .string g] w fun e W' => e = .returned (.bool true) ∧ Below w.heap.size w W' := by
  obtain ⟨n, b, hV, hR⟩ := verify_both root l (.slice a l.length cap) g (by omega)
  have HV := Lib.hid hV
  have HR := Lib.hid hR
  clear hV hR
  by_cases h0 : 0 < g.size
  · have hi : 0 < (g.size : Int) := by omega
    have HL : Hid (leafI g = (g[0].toNat : Int)) := Lib.hid (by unfold leafI; rw [dif_pos h0])
    have hx : (g[0].toNat : Int) ≤ 255 := by have := g[0].toNat_lt; omega
    go_enter Try.func4, Try.ntmps4
    go_wp2_with fail
    refine (HV.out _ hsb).mono ?_
    rintro e w1 ⟨rfl, hb1⟩
    go_wp2_with fail
    refine (HR.out _ ((hsb.below hb1 (Nat.le_refl _)).mono (Nat.le_refl _) hb1.size)).mono ?_
    rintro e w2 ⟨rfl, hb2⟩
    have hB2 := chain hb1 hb2
    clear hb1 hb2
    go_wp2_with fail
    refine (leaf_any g _).mono ?_
    rw [HL.out]
    rintro e w3 ⟨rfl, rfl⟩
    go_wp2_with fail
    refine (mssAlive_any _).mono ?_
    rintro e w4 ⟨rfl, hb4⟩
    go_wp2_with fail
    go_ret
    exact ⟨rfl, chain hB2 hb4⟩
  · have hi : ¬ 0 < (g.size : Int) := by omega
    have HL : Hid (leafI g = -1) := Lib.hid (by unfold leafI; rw [dif_neg h0])
    go_enter Try.func4, Try.ntmps4
    go_wp2_with fail
    refine (HV.out _ hsb).mono ?_
    rintro e w1 ⟨rfl, hb1⟩
    go_wp2_with fail
    refine (HR.out _ ((hsb.below hb1 (Nat.le_refl _)).mono (Nat.le_refl _) hb1.size)).mono ?_
    rintro e w2 ⟨rfl, hb2⟩
    have hB2 := chain hb1 hb2
    clear hb1 hb2
    go_wp2_with fail
    refine (leaf_any g _).mono ?_
    rw [HL.out]
    rintro e w3 ⟨rfl, rfl⟩
    go_wp2_with fail
    refine (mssAlive_any _).mono ?_
    rintro e w4 ⟨rfl, hb4⟩
    go_wp2_with fail
    go_ret
    exact ⟨rfl, chain hB2 hb4⟩
end Go.Proofs.Ytalmoaggancdjaa

namespace Go.Proofs.Ytalmoaggancdjaa
open Go.ChangeShapes Go.WideShapes Go.ChangeAt Go.RowKit Go.Deep
open Go.ChangeMaps (open_string)

set_option maxRecDepth 100000 in
theorem mssVerifies_lifted (os : Os) (started : os.Started) (H : Type) (enc : TypeId × Value → H) :
    ReturnsInHanded {} Try.checked os 4 .any (Rows.mssVerifiesSpec.pre6 enc Try.prog Try.f4 Rows.mssVerifiesRow.domain false) (Rows.mssVerifiesSpec.post enc Try.prog Try.f4 false true false false) := by
  refine returnsInHanded_of_change_sized (C := Try.checked) Try.own started (by kernel_rfl) Try.func4
    (ChangeSpec.witness6 (enc := enc) (C := Try.checked) false ⟨#[], #[.string ⟨#[]⟩, .slice none 0 0, .string ⟨#[]⟩], []⟩ 8 (by kernel_rfl) (by kernel_rfl) (by kernel_rfl) (by kernel_rfl)) ?_
  intro W base args ds gs before hval0 hW hcnd hsz0 _
  have hval : ∀ (j : Nat) t v, Try.f4.params[j]? = some t → args[j]? = some v → Value.okWide Try.prog W .any base t v := hval0
  have hW' := hW
  obtain ⟨p, q, hA0, hV, rfl, hfz, hnd⟩ := hW
  have hA : DataW.TrodAll enc Try.prog W 0 (fun _ => true) true Try.f4.params.toList args.toList ds p := hA0
  have hsz : (DataW.weightsEach Try.prog (Try.f4.params.toList ++ Rows.mssVerifiesSpec.plain.varTypes Try.prog) (ds ++ gs)).all (· ≤ reachBytes) = true := hsz0
  rw [Try.params4] at hA hval hsz
  obtain ⟨v0, v1, v2, d0, d1, d2, p0, p1, p2, rfl, rfl, rfl, h0, h1, h2⟩ := trodAll_three hA
  obtain ⟨rfl, rfl⟩ := trodVars_none hV
  obtain ⟨a1, len1, cap1, rfl⟩ := okWide_slice Try.underlying24 (hval 1 24 v1 rfl rfl)
  have k0 := h0
  have k1 := h1
  have k2 := h2
  have lt0 : ∀ x ∈ p0, x.block < W.heap.size := by obtain ⟨m, hm⟩ := k0; exact DataW.trod_lt m _ _ _ hm
  have lt1 : ∀ x ∈ p1, x.block < W.heap.size := by obtain ⟨m, hm⟩ := k1; exact DataW.trod_lt m _ _ _ hm
  have lt2 : ∀ x ∈ p2, x.block < W.heap.size := by obtain ⟨m, hm⟩ := k2; exact DataW.trod_lt m _ _ _ hm
  obtain ⟨s0, rfl, ds0, _, _⟩ := open_string Try.underlying9 (hval 0 9 v0 rfl rfl) h0
  have hs0 : s0.size ≤ 140737488351232 := by
    have := sized_string hsz (j := 0) (t := 9) (bytes := s0.data.toList) rfl (by rw [ds0]; rfl)
    simp only [reachBytes] at this
    exact this
  obtain ⟨l1, rfl, hsl1, hd1⟩ := open_bytes h1
  have hreach1 : l1.length ≤ 140737488351232 := by
    rcases hd1 with rfl | ⟨el, sp, rfl, hel⟩
    · simp
    · have := sized_slice hsz (j := 1) (t := 24) (e := 5) rfl rfl Try.underlying24
      rw [Try.bytes8] at this
      simp only [reachBytes] at this
      omega
  obtain ⟨s2, rfl, ds2, _, _⟩ := open_string Try.underlying9 (hval 2 9 v2 rfl rfl) h2
  have hs2 : s2.size ≤ 140737488351232 := by
    have := sized_string hsz (j := 2) (t := 9) (bytes := s2.data.toList) rfl (by rw [ds2]; rfl)
    simp only [reachBytes] at this
    exact this
  clear hA0 hval0
  refine (mssVerifies_any s0 a1 cap1 l1 s2 (by omega) hreach1 W hsl1).mono fun e W' ⟨he, bel⟩ => ?_
  subst he
  exact ⟨_, rfl, _, _, _, [], _, [], hW', trodAll_mk1 (shut_bool Try.underlying4 _), (trodAll_mk3 (Below.trod Try.laidOut (by kernel_rfl) (of_decide_eq_true (by kernel_rfl)) k0 bel lt0) (Below.trod Try.laidOut (by kernel_rfl) (of_decide_eq_true (by kernel_rfl)) k1 bel lt1) (Below.trod Try.laidOut (by kernel_rfl) (of_decide_eq_true (by kernel_rfl)) k2 bel lt2)), rfl, bel.frame _, fun h => by cases h⟩

theorem mssVerifies_over : Rows.mssVerifiesRow.holds Try.pinned (OpenSpec.ofChange Rows.mssVerifiesSpec) :=
  OpenClaim.holds_of_wide 4 Try.f4 rfl rfl rfl rfl rfl rfl rfl ⟨rfl, rfl, rfl, rfl, rfl⟩ rfl rfl rfl rfl rfl (by kernel_rfl) Try.func4 (by kernel_rfl)
    (of_decide_eq_true (by kernel_rfl)) (by unfold Func.isWrapper; first | (rw [if_pos (by decide +kernel)]; kernel_rfl) | (rw [if_neg (by decide +kernel)]; exact ⟨rfl, rfl⟩))
    (fun os started H enc _ => mssVerifies_lifted os started H enc)

/-- The statement. -/
theorem mssVerifies_proved : Rows.MssVerifiesSaid := mssVerifies_over
end Go.Proofs.Ytalmoaggancdjaa
