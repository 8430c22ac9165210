/-
  The reference's writer of fields.
-/
import Derived.Test.YtjhfchjffiliaaaFieldM
import Derived.Test.YtjhfchjffiliaaaRefCat
import Derived.Test.YtjhfchjffiliaaaRefNum
import Derived.Test.YtjhfchjffiliaaaRefWide
import Derived.Test.YtjhfchjffiliaaaConv
import Derived.Test.YtjhfchjffiliaaaHeldMono
import Derived.Outline
namespace Go.Proofs.Ytjhfchjffiliaaa
open Go.RowKit Go.Shelf

/-- Octets and an error's number, as a struct. -/
def RefS (s : St) (w : World) (e : Ending) (W' : World) : Prop := ∃ sv, e = .returned (.agg #[sv, .int .i64 s.2]) ∧ BSl 0 W'.heap.size W' sv s.1 ∧ Below w.heap.size w W'
theorem RefS.on {s : St} {w w1 : World} {e : Ending} {W' : World} (h : RefS s w1 e W') (hb : Below w.heap.size w w1) : RefS s w e W' := by
  obtain ⟨sv, he, hs, hB⟩ := h
  exact ⟨sv, he, hs, chain hb hB⟩

theorem clamp6' : clamp 6 = 6 := rfl
theorem clamp2' : clamp 2 = 2 := rfl
theorem two_nat' {n : Nat} (h : n < 18446744073709551616) : two (n : Int) = n := by unfold two; omega
theorem Blk.c2 {W : World} {B : Nat} {t : TypeId} {v0 v1 : Value} (h : Blk W B t [v0, v1]) : W.cell? ⟨B, 0, none⟩ = some v0 ∧ W.cell? ⟨B, 1, none⟩ = some v1 := ⟨h.cell 0, h.cell 1⟩
theorem noOct2 {W : World} {B : Nat} {T : TypeId} {a : Option Addr} {n c : Nat} {x : Int} (h : Blk W B T [.slice a n c, .int .i64 x]) : NoOct W B := noOct_blk h (by
  intro v hv y
  simp only [List.mem_cons, List.not_mem_nil, or_false] at hv
  rcases hv with rfl | rfl <;> simp [bv])
set_option maxRecDepth 100000 in
theorem refPutE_any {s : St} (sv s2 : Value) (x : Int) (hx : x ≠ 0) (w : World) (hsl : BSl 0 w.heap.size w sv s.1) :
    Calls Try.prog 47 #[.agg #[sv, .int .i64 s.2], s2, .int .i64 x] w (RefS (errS s x) w) := by
  obtain ⟨a, m, c, rfl⟩ := hsl.shape3
  have hx1 : (x != 0) = true := by simpa using hx
  by_cases hf : s.2 = 0
  · have e1 : errS s x = ([], x) := if_pos hf
    rw [e1]
    clear e1
    have hf1 : (s.2 != 0) = false := by simpa using hf
    have hf2 : (s.2 == 0) = true := by simpa using hf
    clear hf
    go_enter Try.func47, Try.ntmps47
    go_wp2
    exact bodyPost_ret (v := .agg #[.slice none 0 0, .int .i64 x]) (by simp [results, Try.results47, go_sem]) rfl ⟨_, rfl, BSl.nil _ _ _, chainA (chain0 w _) _⟩
  · rw [errS_bad hf]
    have hf1 : (s.2 != 0) = true := by simpa using hf
    have hf2 : (s.2 == 0) = false := by simpa using hf
    clear hf
    go_enter Try.func47, Try.ntmps47
    go_wp2
    have hB : Below w.heap.size w ((w.alloc (.cells #[.slice a m c, .int .i64 s.2] 28)).alloc (.cells #[.slice a m c, .int .i64 s.2] 28)) := chainA (chain0 _ _) _
    exact bodyPost_ret (v := .agg #[.slice a m c, .int .i64 s.2]) (by simp [results, Try.results47, go_sem]) rfl ⟨_, rfl, (hsl.below hB (Nat.le_refl _)).mono (Nat.le_refl _) hB.size, hB⟩
set_option maxRecDepth 100000 in
set_option maxHeartbeats 1000000 in
theorem refPut_any {s : St} (hok : OkS s) (sv s2 : Value) (l : List UInt8) (hl : l.length ≤ 140737488345000) (w : World) (hsl : BSl 0 w.heap.size w sv s.1) (hs2 : BSl 0 w.heap.size w s2 l) :
    Calls Try.prog 47 #[.agg #[sv, .int .i64 s.2], s2, .int .i64 0] w (RefS (addS s l) w) := by
  have h82 := hok.2
  obtain ⟨a, c, rfl, -⟩ := hsl.shape
  obtain ⟨a2, c2, rfl, -⟩ := hs2.shape
  by_cases hf : s.2 = 0
  · have e1 : addS s l = if s.1.length + l.length ≤ 8192 then (s.1 ++ l, 0) else ([], 5) := if_pos hf
    rw [e1]
    clear e1
    have hf1 : (s.2 != 0) = false := by simpa using hf
    have hf2 : (s.2 == 0) = true := by simpa using hf
    have HF := Lib.hid hf
    clear hf
    generalize hn : s.1.length = n at *
    generalize hk : l.length = k at *
    have HN := Lib.hid hn
    have HK := Lib.hid hk
    clear hn hk
    by_cases hfit : n + k ≤ 8192
    · rw [if_pos hfit]
      have hgt : ¬ ((8192 : Int) < (n : Int) + (k : Int)) := by omega
      go_enter Try.func47, Try.ntmps47
      go_wp2_with (go_at_call 49; refine (refCat_any s.1 l (.slice a n c) (.slice a2 k c2) _ (by have := HN.out; have := HK.out; omega) ((hsl.below (chainA (chain0 w _) _) (Nat.le_refl _)).mono (Nat.le_refl _) (by simp; omega)) ((hs2.below (chainA (chain0 w _) _) (Nat.le_refl _)).mono (Nat.le_refl _) (by simp; omega))).mono ?_; rintro e w1 ⟨v, rfl, hv, hb1⟩; obtain ⟨va, vm, vc, rfl⟩ := (BSl.of_own hv).shape3; have kR : Blk w1 (w.heap.size + 1) 28 [.slice none 0 0, .int .i64 0] := (Blk.new' (by simp)).below hb1 (by simp); have r0 := kR.c2.1; have r1 := kR.c2.2; have g0 := kR.frozen 0; have g1 := kR.frozen 1)
      have hB1 := chain (chainA (chain0 w _) _) hb1
      have hB := (hB1.setCell (p := ⟨w.heap.size + 1, 0, none⟩) (by simp) (.slice va vm vc)).setCell (p := ⟨w.heap.size + 1, 1, none⟩) (by simp) (.int .i64 0)
      have kR2 := (kR.set 0 (.slice va vm vc)).set 1 (.int .i64 0)
      obtain ⟨q0, q1⟩ := Blk.c2 kR2
      exact bodyPost_ret (v := .agg #[.slice va vm vc, .int .i64 0]) (by simp [results, Try.results47, go_sem, q0, q1]) rfl ⟨_, rfl, ((((BSl.of_own hv).to (Nat.le_refl _) (grownBy_setCell4 w1 (w.heap.size + 1) 0 (.slice va vm vc)) (fun r e => by cases e; exact noOct2 kR)).to (by simp) (grownBy_setCell4 _ (w.heap.size + 1) 1 (.int .i64 0)) (fun r e => by cases e; exact noOct2 (kR.set 0 _)))).mono (Nat.zero_le _) (by simp), hB⟩
    · rw [if_neg hfit]
      have hgt : (8192 : Int) < (n : Int) + (k : Int) := by omega
      go_enter Try.func47, Try.ntmps47
      go_wp2
      exact bodyPost_ret (v := .agg #[.slice none 0 0, .int .i64 5]) (by simp [results, Try.results47, go_sem]) rfl ⟨_, rfl, BSl.nil _ _ _, chainA (chain0 w _) _⟩
  · rw [addS_bad hf]
    have hf1 : (s.2 != 0) = true := by simpa using hf
    have hf2 : (s.2 == 0) = false := by simpa using hf
    clear hf
    generalize hn : s.1.length = n at *
    generalize hk : l.length = k at *
    clear hn hk
    go_enter Try.func47, Try.ntmps47
    go_wp2
    have hB : Below w.heap.size w ((w.alloc (.cells #[.slice a n c, .int .i64 s.2] 28)).alloc (.cells #[.slice a n c, .int .i64 s.2] 28)) := chainA (chain0 _ _) _
    exact bodyPost_ret (v := .agg #[.slice a n c, .int .i64 s.2]) (by simp [results, Try.results47, go_sem]) rfl ⟨_, rfl, (hsl.below hB (Nat.le_refl _)).mono (Nat.le_refl _) hB.size, hB⟩
end Go.Proofs.Ytjhfchjffiliaaa
