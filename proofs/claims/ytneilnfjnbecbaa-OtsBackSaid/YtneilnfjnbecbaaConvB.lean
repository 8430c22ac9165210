/-
  '[]byte(s)'; the beginning of a sum as a string.
-/
import Derived.Test.YtneilnfjnbecbaaHashText
import Derived.Test.YtneilnfjnbecbaaVsl
import Derived.Lib.ConvBytes
import Derived.Laws.AppendOwn
namespace Go.Proofs.Ytneilnfjnbecbaa
open Go.RowKit Go.Shelf

/-- '[]byte(s)': a new row of the string's octets. -/
theorem conv_bytes (w : World) (s : ByteArray) : ∃ c W', (convert 9 22 (.string s)).run Try.prog w = .ok (.slice (some ⟨w.heap.size, 0, none⟩) s.size c) W' ∧ s.size ≤ c ∧ Below w.heap.size w W' ∧ W'.heap.size = w.heap.size + 1 ∧ Octs W' w.heap.size 0 s.data.toList := by
  refine ⟨_, _, Lib.run_convert_string_bytes w 9 22 5 s Try.underlying9 Try.underlying22 Try.underlying5, grownCap_ge _ _ _ _, ?_, Lib.bytesWorld_size _ _ _, fun k x hx => ?_⟩
  · refine ⟨rfl, rfl, rfl, by rw [Lib.bytesWorld_size]; omega, fun k hk => Lib.bytesWorld_at_old _ _ _ k hk⟩
  · have hk : k < s.size := (List.getElem?_eq_some_iff.1 hx).1
    rw [Nat.zero_add, Lib.bytesWorld_cell w _ s k hk]
    simp only [List.getD, hx, Option.getD_some]
theorem conv_bsl {w W : World} {s : ByteArray} {c : Nat} (hc : s.size ≤ c) (hz : W.heap.size = w.heap.size + 1) (ho : Octs W w.heap.size 0 s.data.toList) : BSl w.heap.size W.heap.size W (.slice (some ⟨w.heap.size, 0, none⟩) s.size c) s.data.toList :=
  ⟨_, c, rfl, hc, .inr ⟨_, 0, rfl, Nat.le_refl _, by omega, ho⟩⟩

/-- The first eight octets of a text's sum, as a string. -/
def shortB (l : List UInt8) : ByteArray := (sumS l).extract 0 8
theorem shortB_list (l : List UInt8) : (shortB l).data.toList = (sumL cb sq l).take 8 := by
  unfold shortB sumS
  simp [ByteArray.extract, ByteArray.copySlice]
theorem shortB_size (l : List UInt8) : (shortB l).size = 8 := by
  show (shortB l).data.size = 8
  rw [← Array.length_toList, shortB_list, List.length_take, show (sumL cb sq l).length = 32 from sumTo_length _ 8]
  rfl
theorem sx_list {o n : Nat} {w : World} : ∀ (vls : List (Value × List UInt8)), (∀ p ∈ vls, BSl 0 n w p.1 p.2 ∧ p.2.length ≤ o) → ∃ zs : List (SX o n w), zs.map (fun x => x.1) = vls
  | [], _ => ⟨[], rfl⟩
  | p :: vls, h => by
    obtain ⟨zs, hz⟩ := sx_list vls (fun q hq => h q (List.mem_cons_of_mem _ hq))
    exact ⟨⟨p, h p List.mem_cons_self⟩ :: zs, by rw [List.map_cons, hz]⟩
theorem flat_of {o n : Nat} {w : World} {zs : List (SX o n w)} {vls : List (Value × List UInt8)} (h : zs.map (fun x => x.1) = vls) : flat zs = (vls.map (·.2)).flatten := by
  rw [← h, List.map_map]; rfl
/-- Short of a row of texts. -/
theorem short_of (W : World) (sv : Value) (vls : List (Value × List UInt8)) (hn : vls.length ≤ 1000000) (h : ∀ p ∈ vls, BSl 0 W.heap.size W p.1 p.2 ∧ p.2.length ≤ 140737488353000) (hfl : (vls.map (·.2)).flatten.length ≤ 140737488353000) (hsv : VSl 0 W.heap.size W sv (vls.map (·.1))) :
    Calls Try.prog 52 #[sv] W fun e W' => e = .returned (.string (shortB (vls.map (·.2)).flatten)) ∧ Below W.heap.size W W' := by
  obtain ⟨zs, hz⟩ := sx_list (o := 140737488353000) vls h
  have hl : zs.length = vls.length := by rw [← hz, List.length_map]
  have hf := flat_of hz
  have := short_any sv W zs (by omega) (by rw [hf]; exact hfl) (by
    obtain ⟨a, cap, e, _, h0⟩ := hsv
    refine ⟨a, cap, by rw [e, List.length_map, hl], ?_⟩
    rcases h0 with h0 | ⟨b, off, ha, _, hb, hr⟩
    · left
      apply List.eq_nil_of_length_eq_zero
      rw [hl]
      simpa using congrArg List.length h0
    · refine .inr ⟨b, off, ha, hb, fun k x hx => hr k _ ?_⟩
      rw [List.getElem?_map, ← hz, List.getElem?_map, hx]
      rfl)
  rw [hf] at this
  exact this
/-- Short of one text, of a row just laid. -/
theorem short_one (W : World) (v : Value) (l : List UInt8) (h : BSl 0 W.heap.size W v l) (hl : l.length ≤ 140737488353000) :
    Calls Try.prog 52 #[.slice (some ⟨W.heap.size, 0, none⟩) 1 1] (W.alloc (.cells #[v] 22)) fun e W' => e = .returned (.string (shortB l)) ∧ Below W.heap.size W W' := by
  have hb : Below W.heap.size W (W.alloc (.cells #[v] 22)) := chain0 _ _
  have hs := short_of (W.alloc (.cells #[v] 22)) (.slice (some ⟨W.heap.size, 0, none⟩) 1 1) [(v, l)] (by simp) (fun p hp => by
    rw [List.mem_singleton] at hp
    subst hp
    exact ⟨(h.below hb (Nat.le_refl _)).mono (Nat.le_refl _) hb.size, hl⟩) (by simpa using hl) ⟨_, 1, rfl, Nat.le_refl _, .inr ⟨_, 0, rfl, Nat.zero_le _, by simp, fun k x hx => by
      have hk : k = 0 := by have := (List.getElem?_eq_some_iff.1 hx).1; simp at this; omega
      subst hk
      cases hx
      exact (Boxed.new W 22 v).cell⟩⟩
  refine hs.mono fun e W' ⟨he, hb2⟩ => ⟨?_, chain hb hb2⟩
  rw [he]
  simp
/-- The link behind k links. -/
def linkB (s : ByteArray) : Nat → ByteArray
  | 0 => s
  | k + 1 => shortB (linkB s k).data.toList
theorem linkB_size (s : ByteArray) (k : Nat) : (linkB s k).size ≤ max s.size 8 := by
  cases k with
  | zero => exact Nat.le_max_left _ _
  | succ k => rw [show linkB s (k + 1) = shortB _ from rfl, shortB_size]; exact Nat.le_max_right _ _
end Go.Proofs.Ytneilnfjnbecbaa
