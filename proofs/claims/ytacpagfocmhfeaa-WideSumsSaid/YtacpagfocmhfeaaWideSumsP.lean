/-
  WideSums answers true at every list of wide numbers and every wide number, and leaves its arguments as they are.
-/
import Derived.Test.YtacpagfocmhfeaaWideOpen
import Derived.Test.YtacpagfocmhfeaaWideSumsW
import Derived.Deep.Slices
import Derived.SizedLaws
namespace Go.Proofs.Ytacpagfocmhfeaa
open Go.ChangeShapes Go.WideShapes Go.ChangeAt Go.RowKit Go.Deep

theorem Try.bytes24 : Try.prog.bytesOf 24 = 32 := by kernel_rfl

theorem list_of {α : Type} {Q : Nat → α → Prop} : ∀ {n : Nat}, (∀ i, i < n → ∃ x, Q i x) → ∃ l : List α, l.length = n ∧ ∀ k x, l[k]? = some x → Q k x
  | 0, _ => ⟨[], rfl, fun k x h => by simp at h⟩
  | n + 1, h => by
    obtain ⟨l, hl, hq⟩ := list_of (n := n) (fun i hi => h i (by omega))
    obtain ⟨y, hy⟩ := h n (by omega)
    refine ⟨l ++ [y], by simp [hl], fun k x hx => ?_⟩
    by_cases hk : k < n
    · rw [List.getElem?_append_left (by omega)] at hx
      exact hq k x hx
    · rw [List.getElem?_append_right (by omega)] at hx
      have : k = n := by
        have := (List.getElem?_eq_some_iff.1 hx).1
        simp at this
        omega
      subst this
      simp [hl] at hx
      rw [← hx]; exact hy

theorem add_plain (b off q : Nat) : (⟨b, off, none⟩ : Addr).add q = ⟨b, off + q, none⟩ := by cases q <;> simp [Addr.add]

theorem open_wides {H : Type} {enc : TypeId × Value → H} {W : World} {base : Nat} {spare : Nat → Bool} {held : Bool} {a : Option Addr} {len cap : Nat} {d : DataW H} {p : List MemPlace}
    (h : DataW.Trod enc Try.prog W base spare held 37 (.slice a len cap) d p) : ∃ zs : List WW, WSl W.heap.size W (.slice a len cap) zs ∧ (zs = [] ∨ ∃ el sp, d = .slice el sp ∧ el.length = zs.length) := by
  obtain ⟨fuel, hf⟩ := h
  rcases open_slice Try.underlying37 hf with h0 | ⟨ad, l, c, m, n, D, Pl, hcs, hb, hl, hm, hmm, hx, hi⟩
  · obtain ⟨hcs, _⟩ := h0
    simp [Value.cells] at hcs
    obtain ⟨rfl, rfl, rfl⟩ := hcs
    exact ⟨[], ⟨none, 0, rfl, .inl rfl⟩, .inl rfl⟩
  · simp [Value.cells] at hcs
    obtain ⟨rfl, rfl, rfl⟩ := hcs
    have hlm : len ≤ m := by rw [hmm]; split <;> omega
    have key : ∀ i, i < len → ∃ x : WW, W.cell? (ad.add (i * 4 + 0)) = some (.int .u64 (x.1.1 : Nat)) ∧ W.cell? (ad.add (i * 4 + 1)) = some (.int .u64 (x.1.2.1 : Nat)) ∧ W.cell? (ad.add (i * 4 + 2)) = some (.int .u64 (x.1.2.2.1 : Nat)) ∧ W.cell? (ad.add (i * 4 + 3)) = some (.int .u64 (x.1.2.2.2 : Nat)) := fun i hil => by
      obtain ⟨cs', hc, ht⟩ := hi i (by omega)
      rw [Try.cells24] at hc
      obtain ⟨_, hcl, hat⟩ := World.cells?_some hc
      obtain ⟨c0, c1, c2, c3, rfl⟩ : ∃ c0 c1 c2 c3, cs' = [c0, c1, c2, c3] := by
        obtain ⟨c0, c1, c2, c3, e⟩ := Joins.array4 (cs := cs'.toArray) (by simpa using hcl)
        exact ⟨c0, c1, c2, c3, by simpa using congrArg Array.toList e⟩
      obtain ⟨y0, y1, y2, y3, q, _, hy0, hy1, hy2, hy3⟩ := trod_array4 Try.underlying24 Try.cells22 ht
      obtain ⟨x0, e0, rfl, w0⟩ := DataW.trod_int Try.underlying22 hy0
      obtain ⟨x1, e1, rfl, w1⟩ := DataW.trod_int Try.underlying22 hy1
      obtain ⟨x2, e2, rfl, w2⟩ := DataW.trod_int Try.underlying22 hy2
      obtain ⟨x3, e3, rfl, w3⟩ := DataW.trod_int Try.underlying22 hy3
      simp at e0 e1 e2 e3
      subst e0 e1 e2 e3
      obtain ⟨a0, rfl, l0⟩ := wf_u64 w0
      obtain ⟨a1, rfl, l1⟩ := wf_u64 w1
      obtain ⟨a2, rfl, l2⟩ := wf_u64 w2
      obtain ⟨a3, rfl, l3⟩ := wf_u64 w3
      have g0 := hat 0 (by omega)
      have g1 := hat 1 (by omega)
      have g2 := hat 2 (by omega)
      have g3 := hat 3 (by omega)
      rw [Go.Deep.add_add] at g0 g1 g2 g3
      exact ⟨⟨(a0, a1, a2, a3), l0, l1, l2, l3⟩, g0, g1, g2, g3⟩
    obtain ⟨zs, hz, hq⟩ := list_of key
    refine ⟨zs, ⟨some ad, cap, by rw [hz], ?_⟩, .inr ⟨_, _, (Prod.mk.inj hx).1, by simp [hz]⟩⟩
    by_cases hlen : len = 0
    · exact .inl (List.length_eq_zero_iff.1 (by omega))
    · obtain ⟨x, h0, _⟩ := key 0 (by omega)
      obtain ⟨b, off, sp⟩ := ad
      have hsp : sp = none := by
        cases sp with
        | none => rfl
        | some _ => simp [Addr.add, World.cell?] at h0; split at h0 <;> simp at h0
      subst hsp
      refine .inr ⟨b, off, rfl, World.block_lt_of_cell? W _ h0, fun k x hx => ?_⟩
      obtain ⟨k0, k1, k2, k3⟩ := hq k x hx
      rw [add_plain] at k0 k1 k2 k3
      simp only [Nat.add_zero, ← Nat.add_assoc] at k0 k1 k2 k3
      exact ⟨k0, k1, k2, k3⟩

set_option maxRecDepth 100000 in
theorem wideSums_lifted (os : Os) (started : os.Started) (H : Type) (enc : TypeId × Value → H) :
    ReturnsInHanded {} Try.checked os 6 .any (Rows.wideSumsSpec.pre6 enc Try.prog Try.f6 Rows.wideSumsRow.domain false) (Rows.wideSumsSpec.post enc Try.prog Try.f6 false true false false) := by
  refine returnsInHanded_of_change_sized (C := Try.checked) Try.own started (by kernel_rfl) Try.func6
    (ChangeSpec.witness6 (enc := enc) (C := Try.checked) false ⟨#[], #[.slice none 0 0, .agg #[.int .u64 0, .int .u64 0, .int .u64 0, .int .u64 0]], []⟩ 8 (by kernel_rfl) (by kernel_rfl) (by kernel_rfl) (by kernel_rfl)) ?_
  intro W base args ds gs before hval0 hW hcnd hsz0 _
  have hval : ∀ (j : Nat) t v, Try.f6.params[j]? = some t → args[j]? = some v → Value.okWide Try.prog W .any base t v := hval0
  have hW' := hW
  obtain ⟨p, q, hA0, hV, rfl, hfz, hnd⟩ := hW
  have hA : DataW.TrodAll enc Try.prog W 0 (fun _ => true) true Try.f6.params.toList args.toList ds p := hA0
  have hsz : (DataW.weightsEach Try.prog (Try.f6.params.toList ++ Rows.wideSumsSpec.plain.varTypes Try.prog) (ds ++ gs)).all (· ≤ reachBytes) = true := hsz0
  rw [Try.params6] at hA hval hsz
  obtain ⟨v0, v1, d0, d1, p0, p1, rfl, rfl, rfl, h0, h1⟩ := trodAll_two hA
  obtain ⟨rfl, rfl⟩ := trodVars_none hV
  obtain ⟨a, len, cap, rfl⟩ := okWide_slice Try.underlying37 (hval 0 37 v0 rfl rfl)
  have k0 := h0
  have k1 := h1
  have lt0 : ∀ x ∈ p0, x.block < W.heap.size := by obtain ⟨m, hm⟩ := k0; exact DataW.trod_lt m _ _ _ hm
  have lt1 : ∀ x ∈ p1, x.block < W.heap.size := by obtain ⟨m, hm⟩ := k1; exact DataW.trod_lt m _ _ _ hm
  obtain ⟨zs, hsl, hd⟩ := open_wides h0
  obtain ⟨a0, a1, a2, a3, ha, rfl⟩ := open_wide (hval 1 24 v1 rfl rfl) h1
  have hreach : zs.length * 32 ≤ 140737488351232 := by
    rcases hd with rfl | ⟨el, sp, rfl, hel⟩
    · simp
    · have := sized_slice hsz (j := 0) (t := 37) (e := 24) rfl rfl Try.underlying37
      rw [Try.bytes24] at this
      simp only [reachBytes] at this
      omega
  clear hA0 hval0
  refine (sums_any a len cap zs hreach ha W hsl).mono fun e W' ⟨he, bel⟩ => ?_
  subst he
  exact ⟨_, rfl, _, _, _, [], _, [], hW', trodAll_mk1 (shut_bool Try.underlying4 _), (trodAll_mk2 (Below.trod Try.laidOut (by kernel_rfl) (of_decide_eq_true (by kernel_rfl)) k0 bel lt0) (Below.trod Try.laidOut (by kernel_rfl) (of_decide_eq_true (by kernel_rfl)) k1 bel lt1)), rfl, bel.frame _, fun h => by cases h⟩

theorem wideSums_over : Rows.wideSumsRow.holds Try.pinned (OpenSpec.ofChange Rows.wideSumsSpec) :=
  OpenClaim.holds_of_wide 6 Try.f6 rfl rfl rfl rfl rfl rfl rfl ⟨rfl, rfl, rfl, rfl, rfl⟩ rfl rfl rfl rfl rfl (by kernel_rfl) Try.func6 (by kernel_rfl)
    (of_decide_eq_true (by kernel_rfl)) (by unfold Func.isWrapper; first | (rw [if_pos (by decide +kernel)]; kernel_rfl) | (rw [if_neg (by decide +kernel)]; exact ⟨rfl, rfl⟩))
    (fun os started H enc _ => wideSums_lifted os started H enc)

/-- The statement. -/
theorem wideSums_proved : Rows.WideSumsSaid := wideSums_over
end Go.Proofs.Ytacpagfocmhfeaa
