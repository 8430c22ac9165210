/-
  A list of texts among the arguments; its bulk.
-/
import Derived.Test.YtboadnbkfoclpaaBytesOpen
import Derived.Test.YtboadnbkfoclpaaValuesS
import Derived.JoinedCond
namespace Go.Proofs.Ytboadnbkfoclpaa
open Go.ChangeShapes Go.WideShapes Go.ChangeAt Go.RowKit Go.Deep

theorem bulk_pos {H : Type} (d : DataW H) : 0 < Rows.uptoBulk d := by
  cases d with
  | lit l => cases l <;> simp [Rows.uptoBulk]
  | _ => simp [Rows.uptoBulk]
theorem bulk_len {H : Type} : ∀ l : List (DataW H), l.length ≤ Rows.uptoBulkAll l
  | [] => Nat.zero_le _
  | d :: l => by have h1 := bulk_pos d; have h2 := bulk_len l; simp only [Rows.uptoBulkAll, List.length_cons]; omega
theorem Try.cellsB : Try.prog.cellsOf 22 = 1 := by kernel_rfl

theorem open_bytes1 {H : Type} {enc : TypeId × Value → H} {W : World} {base : Nat} {spare : Nat → Bool} {held : Bool} {fuel : Nat} {v : Value} {d : DataW H} {p : List MemPlace}
    (hf : DataW.trod enc Try.prog W base spare held fuel 22 [v] = some (d, p)) : ∃ zs : List UInt8, BSl 0 W.heap.size W v zs ∧ zs.length ≤ Rows.uptoBulk d := by
  rcases open_slice1 Try.underlying22 Try.cells8 hf with h0 | ⟨ad, len, cap, m, n, V, D, Pl, hcs, hb, hl, hm, hmm, hx, hi⟩
  · obtain ⟨hcs, _⟩ := h0
    cases hcs
    exact ⟨[], BSl.nil _ _ _, Nat.zero_le _⟩
  · cases hcs
    have hlm : len ≤ m := by rw [hmm]; split <;> omega
    have key : ∀ i, i < len → ∃ x : UInt8, W.cell? (ad.add i) = some (bv x) := fun i hil => by
      obtain ⟨hc, ht⟩ := hi i (by omega)
      obtain ⟨x, e, _, w0⟩ := DataW.trod_int Try.underlying5 ht
      simp at e
      obtain ⟨b, rfl⟩ := wf_u8 w0
      exact ⟨b, by rw [hc, e]⟩
    obtain ⟨zs, hz, hq⟩ := list_of key
    have hd : d = .slice ((List.range len).map D) ((List.range (m - len)).map fun j => D (len + j)) := (Prod.mk.inj hx).1
    refine ⟨zs, ⟨some ad, cap, by rw [hz], by rw [hz]; exact hl, ?_⟩, ?_⟩
    · by_cases hlen : len = 0
      · exact .inl (List.length_eq_zero_iff.1 (by omega))
      · obtain ⟨x, h0⟩ := key 0 (by omega)
        obtain ⟨b, off, sp⟩ := ad
        have hsp : sp = none := by
          cases sp with
          | none => rfl
          | some _ => simp [Addr.add, World.cell?] at h0; split at h0 <;> simp at h0
        subst hsp
        refine .inr ⟨b, off, rfl, Nat.zero_le _, World.block_lt_of_cell? W _ h0, fun k x hx => ?_⟩
        have := hq k x hx
        rwa [add_plain] at this
    · rw [hd]
      have := bulk_len ((List.range len).map D)
      simp only [Rows.uptoBulk]
      simp at this
      omega

theorem bulk_flat {H : Type} {o n : Nat} {w : World} (D : Nat → DataW H) : ∀ (zs : List (SX o n w)) (i : Nat), (∀ k x, zs[k]? = some x → x.1.2.length ≤ Rows.uptoBulk (D (i + k))) → (flat zs).length ≤ Rows.uptoBulkAll ((List.range' i zs.length).map D)
  | [], _, _ => by simp [flat]
  | x :: zs, i, h => by
    have h0 := h 0 x rfl
    have ih := bulk_flat D zs (i + 1) (fun k y hy => by have := h (k + 1) y (by simpa using hy); rwa [show i + (k + 1) = i + 1 + k by omega] at this)
    have e : flat (x :: zs) = x.1.2 ++ flat zs := by simp [flat]
    rw [e, List.length_append, List.length_cons, List.range'_succ, List.map_cons]
    simp only [Rows.uptoBulkAll]
    simp only [Nat.add_zero] at h0
    omega

theorem open_bytess {H : Type} {enc : TypeId × Value → H} {W : World} {base : Nat} {spare : Nat → Bool} {held : Bool} {a : Option Addr} {len cap : Nat} {d : DataW H} {p : List MemPlace}
    (h : DataW.Trod enc Try.prog W base spare held 32 (.slice a len cap) d p) (hk : Rows.uptoBulk d ≤ 1048576) :
    ∃ zs : List (SX 1048576 W.heap.size W), SSl W.heap.size W (.slice a len cap) zs ∧ zs.length ≤ 1048576 ∧ (flat zs).length ≤ 1048576 := by
  obtain ⟨fuel, hf⟩ := h
  rcases open_slice1 Try.underlying32 Try.cellsB hf with h0 | ⟨ad, l, c, m, n, V, D, Pl, hcs, hb, hl, hm, hmm, hx, hi⟩
  · obtain ⟨hcs, _⟩ := h0
    simp [Value.cells] at hcs
    obtain ⟨rfl, rfl, rfl⟩ := hcs
    exact ⟨[], ⟨none, 0, rfl, .inl rfl⟩, by simp, by simp [flat]⟩
  · simp [Value.cells] at hcs
    obtain ⟨rfl, rfl, rfl⟩ := hcs
    have hlm : len ≤ m := by rw [hmm]; split <;> omega
    have hd : d = .slice ((List.range len).map D) ((List.range (m - len)).map fun j => D (len + j)) := (Prod.mk.inj hx).1
    have hall : Rows.uptoBulkAll ((List.range len).map D) ≤ 1048576 := by
      rw [hd] at hk
      simp only [Rows.uptoBulk] at hk
      omega
    have hone : ∀ (l : List (DataW H)) (x : DataW H), x ∈ l → Rows.uptoBulk x ≤ Rows.uptoBulkAll l := fun l => by
      induction l with
      | nil => intro x hx; cases hx
      | cons y l ih =>
        intro x hx
        simp only [Rows.uptoBulkAll]
        rcases List.mem_cons.1 hx with rfl | hx
        · omega
        · have := ih x hx; omega
    have key : ∀ i, i < len → ∃ x : SX 1048576 W.heap.size W, W.cell? (ad.add i) = some x.1.1 ∧ x.1.2.length ≤ Rows.uptoBulk (D i) := fun i hil => by
      obtain ⟨hc, ht⟩ := hi i (by omega)
      obtain ⟨zs, hz, hzl⟩ := open_bytes1 ht
      have hle := hone _ (D i) (List.mem_map.2 ⟨i, List.mem_range.2 hil, rfl⟩)
      exact ⟨⟨(V i, zs), hz, by dsimp only; omega⟩, hc, hzl⟩
    obtain ⟨zs, hz, hq⟩ := list_of key
    have hlen : zs.length ≤ 1048576 := by
      have := bulk_len ((List.range len).map D)
      simp at this
      omega
    have hfl := bulk_flat D zs 0 (fun k x hx => by rw [Nat.zero_add]; exact (hq k x hx).2)
    rw [hz, ← List.range_eq_range'] at hfl
    refine ⟨zs, ⟨some ad, cap, by rw [hz], ?_⟩, hlen, by omega⟩
    by_cases hl0 : len = 0
    · exact .inl (List.length_eq_zero_iff.1 (by omega))
    · obtain ⟨x, h0, _⟩ := key 0 (by omega)
      obtain ⟨b, off, sp⟩ := ad
      have hsp : sp = none := by
        cases sp with
        | none => rfl
        | some _ => simp [Addr.add, World.cell?] at h0; split at h0 <;> simp at h0
      subst hsp
      refine .inr ⟨b, off, rfl, World.block_lt_of_cell? W _ h0, fun k x hx => ?_⟩
      have := (hq k x hx).1
      rwa [add_plain] at this
end Go.Proofs.Ytboadnbkfoclpaa
