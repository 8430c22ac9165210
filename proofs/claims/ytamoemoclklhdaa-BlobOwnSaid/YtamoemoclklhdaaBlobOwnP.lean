/-
  BlobOwn answers true at every text, and leaves it as it is.
-/
import Derived.Test.YtamoemoclklhdaaBytesOpen
import Derived.Test.YtamoemoclklhdaaBlobOwnW
namespace Go.Proofs.Ytamoemoclklhdaa
open Go.ChangeShapes Go.WideShapes Go.ChangeAt Go.RowKit Go.Deep

theorem blobOwn_all (a : Option Addr) (cap : Nat) (l : List UInt8) (hreach : l.length ≤ 140737488351232) (w : World) (hsb : BSl 0 w.heap.size w (.slice a l.length cap) l) :
    Calls Try.prog 6 #[.slice a l.length cap] w fun e W' => e = .returned (.bool true) ∧ Below w.heap.size w W' := by
  rcases Nat.eq_zero_or_pos l.length with h0 | h0
  · rw [h0] at hsb ⊢
    exact blobOwn_nil a cap l h0 (by omega) w hsb
  · exact blobOwn_some a cap l l.length rfl h0 hreach w hsb

set_option maxRecDepth 100000 in
theorem blobOwn_lifted (os : Os) (started : os.Started) (H : Type) (enc : TypeId × Value → H) :
    ReturnsInHanded {} Try.checked os 6 .any (Rows.blobOwnSpec.pre6 enc Try.prog Try.f6 Rows.blobOwnRow.domain false) (Rows.blobOwnSpec.post enc Try.prog Try.f6 false true false false) := by
  refine returnsInHanded_of_change_sized (C := Try.checked) Try.own started (by kernel_rfl) Try.func6
    (ChangeSpec.witness6 (enc := enc) (C := Try.checked) false ⟨#[], #[.slice none 0 0], []⟩ 8 (by kernel_rfl) (by kernel_rfl) (by kernel_rfl) (by kernel_rfl)) ?_
  intro W base args ds gs before hval0 hW hcnd hsz0 _
  have hval : ∀ (j : Nat) t v, Try.f6.params[j]? = some t → args[j]? = some v → Value.okWide Try.prog W .any base t v := hval0
  have hW' := hW
  obtain ⟨p, q, hA0, hV, rfl, hfz, hnd⟩ := hW
  have hA : DataW.TrodAll enc Try.prog W 0 (fun _ => true) true Try.f6.params.toList args.toList ds p := hA0
  have hsz : (DataW.weightsEach Try.prog (Try.f6.params.toList ++ Rows.blobOwnSpec.plain.varTypes Try.prog) (ds ++ gs)).all (· ≤ reachBytes) = true := hsz0
  rw [Try.params6] at hA hval hsz
  obtain ⟨v0, d0, rfl, rfl, h0⟩ := trodAll_one hA
  obtain ⟨rfl, rfl⟩ := trodVars_none hV
  obtain ⟨a, len, cap, rfl⟩ := okWide_slice Try.underlying22 (hval 0 22 v0 rfl rfl)
  have k0 := h0
  have lt0 : ∀ x ∈ p, x.block < W.heap.size := by obtain ⟨m, hm⟩ := k0; exact DataW.trod_lt m _ _ _ hm
  obtain ⟨zs, rfl, hsl, hd⟩ := open_bytes h0
  have hreach : zs.length ≤ 140737488351232 := by
    rcases hd with rfl | ⟨el, sp, rfl, hel⟩
    · simp
    · have := sized_slice hsz (j := 0) (t := 22) (e := 5) rfl rfl Try.underlying22
      rw [Try.bytes8] at this
      simp only [reachBytes] at this
      omega
  clear hA0 hval0
  refine (blobOwn_all a cap zs hreach W hsl).mono fun e W' ⟨he, bel⟩ => ?_
  subst he
  exact ⟨_, rfl, _, _, _, [], _, [], hW', trodAll_mk1 (shut_bool Try.underlying4 _), (trodAll_mk1 (Below.trod Try.laidOut (by kernel_rfl) (of_decide_eq_true (by kernel_rfl)) k0 bel lt0)), rfl, bel.frame _, fun h => by cases h⟩

theorem blobOwn_over : Rows.blobOwnRow.holds Try.pinned (OpenSpec.ofChange Rows.blobOwnSpec) :=
  OpenClaim.holds_of_wide 6 Try.f6 rfl rfl rfl rfl rfl rfl rfl ⟨rfl, rfl, rfl, rfl, rfl⟩ rfl rfl rfl rfl rfl (by kernel_rfl) Try.func6 (by kernel_rfl)
    (of_decide_eq_true (by kernel_rfl)) (by unfold Func.isWrapper; first | (rw [if_pos (by decide +kernel)]; kernel_rfl) | (rw [if_neg (by decide +kernel)]; exact ⟨rfl, rfl⟩))
    (fun os started H enc _ => blobOwn_lifted os started H enc)

/-- The statement. -/
theorem blobOwn_proved : Rows.BlobOwnSaid := blobOwn_over
end Go.Proofs.Ytamoemoclklhdaa
