/-
  OtsOpens answers true at every input, and leaves its arguments as they are.
  The walk of OtsOpens: what any parts open to is as the reference says.
  A slice of strings among the arguments.
-/
import Derived.Deep.Strs
import Derived.Outline
import Derived.ChangeMaps5
import Derived.Test.YtneilnfjnbecbaaK14
namespace Go.Proofs.Ytneilnfjnbecbaa
open Go.ChangeShapes Go.WideShapes Go.ChangeAt Go.RowKit Go.Deep

theorem Try.cellsStr : Try.prog.cellsOf 9 = 1 := by kernel_rfl
theorem Try.bytesStr : Try.prog.bytesOf 9 = 16 := by kernel_rfl

theorem open_texts {H : Type} {enc : TypeId × Value → H} {W : World} {base : Nat} {spare : Nat → Bool} {held : Bool} {a : Option Addr} {len cap : Nat} {d : DataW H} {p : List MemPlace}
    (h : DataW.Trod enc Try.prog W base spare held 29 (.slice a len cap) d p) : ∃ zs : List ByteArray, len = zs.length ∧ VSl 0 W.heap.size W (.slice a len cap) (zs.map tv) ∧ (∀ x ∈ zs, x.size ≤ 9223372036854775807) ∧ (zs = [] ∨ ∃ el sp, d = .slice el sp ∧ el.length = zs.length) := by
  obtain ⟨fuel, hf⟩ := h
  rcases open_strs Try.underlying29 Try.underlying9 Try.cellsStr hf with h0 | ⟨ad, l, c, m, Sx, hcs, hb, hl, hm, hmm, hx, hi⟩
  · obtain ⟨hcs, _⟩ := h0
    simp [Value.cells] at hcs
    obtain ⟨rfl, rfl, rfl⟩ := hcs
    exact ⟨[], rfl, VSl.nil _ _ _, fun x hx => by simp at hx, .inl rfl⟩
  · simp [Value.cells] at hcs
    obtain ⟨rfl, rfl, rfl⟩ := hcs
    have hlm : len ≤ m := by rw [hmm]; split <;> omega
    refine ⟨(List.range len).map Sx, by simp, ⟨some ad, cap, by simp, by simpa using hl, ?_⟩, fun x hx => ?_, .inr ⟨_, _, (Prod.mk.inj hx).1, by simp⟩⟩
    · by_cases hlen : len = 0
      · left; subst hlen; simp
      · obtain ⟨h0, _⟩ := hi 0 (by omega)
        obtain ⟨b, off, sp⟩ := ad
        have hsp : sp = none := by
          cases sp with
          | none => rfl
          | some _ => simp [Addr.add, World.cell?] at h0; split at h0 <;> simp at h0
        subst hsp
        refine .inr ⟨b, off, rfl, Nat.zero_le _, World.block_lt_of_cell? W _ h0, fun k x hx => ?_⟩
        have hk : k < len := by have := (List.getElem?_eq_some_iff.1 hx).1; simpa using this
        rw [List.getElem?_map, List.getElem?_map, List.getElem?_range hk] at hx
        cases hx
        have := (hi k (by omega)).1
        rwa [add_plain] at this
    · obtain ⟨i, hi', rfl⟩ := List.mem_map.1 hx
      exact (hi i (by have := List.mem_range.1 hi'; omega)).2

end Go.Proofs.Ytneilnfjnbecbaa

namespace Go.Proofs.Ytneilnfjnbecbaa
open Go.RowKit Go.Shelf

set_option maxRecDepth 100000 in
set_option maxHeartbeats 2000000 in
theorem otsOpens_any (a : Option Addr) (cap : Nat) (l : List UInt8) (hreach : l.length ≤ 140737488351232) (sa : Option Addr) (sc : Nat) (zs : List ByteArray) (hz : ∀ x ∈ zs, x.size ≤ 9223372036854775807) (w : World) (hsb : BSl 0 w.heap.size w (.slice a l.length cap) l) (hsv : VSl 0 w.heap.size w (.slice sa zs.length sc) (zs.map tv)) :
    Calls Try.prog 4 #[.slice a l.length cap, .slice sa zs.length sc] w fun e W' => e = .returned (.bool true) ∧ Below w.heap.size w W' := by
  go_enter Try.func4, Try.ntmps4
  go_wp2_with fail
  refine (open_any l _ zs _ _ (by omega) hz hsb hsv).mono ?_
  rintro e w1 ⟨rfl, hb1⟩
  have hsb1 := (hsb.below hb1 (Nat.le_refl _)).mono (Nat.le_refl _) hb1.size
  have hsv1 := (hsv.below hb1 (Nat.le_refl _)).mono (Nat.le_refl _) hb1.size
  clear hsb hsv
  go_wp2_with fail
  refine (refOpen_any l _ zs _ _ (by omega) hsb1 hsv1).mono ?_
  rintro e w2 ⟨rfl, hb2⟩
  clear hsb1 hsv1
  generalize openB l zs = o at *
  go_wp2_with fail
  refine (otsAlive_any _).mono ?_
  rintro e w3 ⟨rfl, hb3⟩
  go_wp2_with fail
  go_ret
  exact ⟨rfl, chain (chain hb1 hb2) hb3⟩
end Go.Proofs.Ytneilnfjnbecbaa

namespace Go.Proofs.Ytneilnfjnbecbaa
open Go.ChangeShapes Go.WideShapes Go.ChangeAt Go.RowKit Go.Deep
open Go.ChangeMaps (open_string)

set_option maxRecDepth 100000 in
theorem otsOpens_lifted (os : Os) (started : os.Started) (H : Type) (enc : TypeId × Value → H) :
    ReturnsInHanded {} Try.checked os 4 .any (Rows.otsOpensSpec.pre6 enc Try.prog Try.f4 Rows.otsOpensRow.domain false) (Rows.otsOpensSpec.post enc Try.prog Try.f4 false true false false) := by
  refine returnsInHanded_of_change_sized (C := Try.checked) Try.own started (by kernel_rfl) Try.func4
    (ChangeSpec.witness6 (enc := enc) (C := Try.checked) false ⟨#[], #[.slice none 0 0, .slice none 0 0], []⟩ 8 (by kernel_rfl) (by kernel_rfl) (by kernel_rfl) (by kernel_rfl)) ?_
  intro W base args ds gs before hval0 hW hcnd hsz0 _
  have hval : ∀ (j : Nat) t v, Try.f4.params[j]? = some t → args[j]? = some v → Value.okWide Try.prog W .any base t v := hval0
  have hW' := hW
  obtain ⟨p, q, hA0, hV, rfl, hfz, hnd⟩ := hW
  have hA : DataW.TrodAll enc Try.prog W 0 (fun _ => true) true Try.f4.params.toList args.toList ds p := hA0
  have hsz : (DataW.weightsEach Try.prog (Try.f4.params.toList ++ Rows.otsOpensSpec.plain.varTypes Try.prog) (ds ++ gs)).all (· ≤ reachBytes) = true := hsz0
  rw [Try.params4] at hA hval hsz
  obtain ⟨v0, v1, d0, d1, p0, p1, rfl, rfl, rfl, h0, h1⟩ := trodAll_two hA
  obtain ⟨rfl, rfl⟩ := trodVars_none hV
  obtain ⟨a0, len0, cap0, rfl⟩ := okWide_slice Try.underlying22 (hval 0 22 v0 rfl rfl)
  obtain ⟨a1, len1, cap1, rfl⟩ := okWide_slice Try.underlying29 (hval 1 29 v1 rfl rfl)
  have k0 := h0
  have k1 := h1
  have lt0 : ∀ x ∈ p0, x.block < W.heap.size := by obtain ⟨m, hm⟩ := k0; exact DataW.trod_lt m _ _ _ hm
  have lt1 : ∀ x ∈ p1, x.block < W.heap.size := by obtain ⟨m, hm⟩ := k1; exact DataW.trod_lt m _ _ _ hm
  obtain ⟨l0, rfl, hsl0, hd0⟩ := open_bytes h0
  have hreach0 : l0.length ≤ 140737488351232 := by
    rcases hd0 with rfl | ⟨el, sp, rfl, hel⟩
    · simp
    · have := sized_slice hsz (j := 0) (t := 22) (e := 5) rfl rfl Try.underlying22
      rw [Try.bytes8] at this
      simp only [reachBytes] at this
      omega
  obtain ⟨l1, rfl, hsl1, hm1, _⟩ := open_texts h1
  clear hA0 hval0
  refine (otsOpens_any a0 cap0 l0 hreach0 a1 cap1 l1 hm1 W hsl0 hsl1).mono fun e W' ⟨he, bel⟩ => ?_
  subst he
  exact ⟨_, rfl, _, _, _, [], _, [], hW', trodAll_mk1 (shut_bool Try.underlying4 _), (trodAll_mk2 (Below.trod Try.laidOut (by kernel_rfl) (of_decide_eq_true (by kernel_rfl)) k0 bel lt0) (Below.trod Try.laidOut (by kernel_rfl) (of_decide_eq_true (by kernel_rfl)) k1 bel lt1)), rfl, bel.frame _, fun h => by cases h⟩

theorem otsOpens_over : Rows.otsOpensRow.holds Try.pinned (OpenSpec.ofChange Rows.otsOpensSpec) :=
  OpenClaim.holds_of_wide 4 Try.f4 rfl rfl rfl rfl rfl rfl rfl ⟨rfl, rfl, rfl, rfl, rfl⟩ rfl rfl rfl rfl rfl (by kernel_rfl) Try.func4 (by kernel_rfl)
    (of_decide_eq_true (by kernel_rfl)) (by unfold Func.isWrapper; first | (rw [if_pos (by decide +kernel)]; kernel_rfl) | (rw [if_neg (by decide +kernel)]; exact ⟨rfl, rfl⟩))
    (fun os started H enc _ => otsOpens_lifted os started H enc)

/-- The statement. -/
theorem otsOpens_proved : Rows.OtsOpensSaid := otsOpens_over
end Go.Proofs.Ytneilnfjnbecbaa
