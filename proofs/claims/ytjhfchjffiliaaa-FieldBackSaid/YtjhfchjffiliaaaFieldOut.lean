/-
  field.Out: which error it has, and how it takes octets.
-/
import Derived.Test.YtjhfchjffiliaaaFieldM
import Derived.Test.YtjhfchjffiliaaaNumO
import Derived.Test.YtjhfchjffiliaaaCat
import Derived.Test.YtjhfchjffiliaaaClone
import Derived.Test.YtjhfchjffiliaaaConv
namespace Go.Proofs.Ytjhfchjffiliaaa
open Go.RowKit Go.Shelf

theorem fault_nil (w : World) :
    Calls Try.prog 46 #[.pointer none] w fun e W' => e = .returned (.int .i64 9) ∧ w = W' := by
  go_enter Try.func46, Try.ntmps46
  go_wp2
  go_ret
  exact ⟨rfl, rfl⟩
theorem fault_at {B : Nat} {m : Bool} {sv : Value} {x : Int} (w : World) (h : Blk w B 58 [.bool m, sv, .int .i64 x]) :
    Calls Try.prog 46 #[.pointer (some ⟨B, 0, none⟩)] w fun e W' => e = .returned (.int .i64 (if m then x else 9)) ∧ w = W' := by
  obtain ⟨c0, -, c2⟩ := h.c3
  cases m
  all_goals
    go_enter Try.func46, Try.ntmps46
    go_wp2
    go_ret
    exact ⟨rfl, rfl⟩
theorem fault_any {p : Option Addr} {s : St} (w : World) (h : ObjP 58 w p s) :
    Calls Try.prog 46 #[.pointer p] w fun e W' => e = .returned (.int .i64 s.2) ∧ w = W' := by
  rcases h with ⟨rfl, rfl⟩ | ⟨B, m, a, n, c, x, rfl, hb, ⟨rfl, rfl⟩ | ⟨rfl, rfl, _, _⟩⟩
  · exact fault_nil w
  · exact fault_at w hb
  · exact fault_at w hb

/-- fail keeps the first error. -/
theorem outFail_any {p : Option Addr} {s : St} (x : Int) (w : World) (h : ObjP 58 w p s) :
    Calls Try.prog 41 #[.pointer p, .int .i64 x] w (DidS 58 p (errS s x) w) := by
  by_cases hf : s.2 = 0
  · have h' := h
    rcases h with ⟨rfl, rfl⟩ | ⟨B, m, a, n, c, x0, rfl, hb, ⟨rfl, rfl⟩ | ⟨rfl, hx, hok, hsl⟩⟩
    · simp at hf
    · simp at hf
    have e1 : errS s x = ([], x) := if_pos hf
    rw [e1]
    clear e1
    have HF := Lib.hid hf
    have HX := Lib.hid hx
    clear hf hx
    obtain ⟨-, c1, c2⟩ := hb.c3
    have f1 := hb.frozen 1
    have f2 := hb.frozen 2
    go_enter Try.func41, Try.ntmps41
    go_wp2_with (go_at_call 46; refine (fault_any _ h').mono ?_; rw [HF.out]; rintro e w' ⟨rfl, rfl⟩)
    go_end0
    refine ⟨rfl, .inr ⟨B, true, none, 0, 0, x, rfl, ?_, .inr ⟨rfl, rfl, ⟨fun _ => rfl, by simp⟩, BSl.nil _ _ _⟩⟩, ?_⟩
    · exact (hb.set 1 (.slice none 0 0)).set 2 (.int .i64 x)
    · exact (grownBy_setCell4 w B 1 _).trans (grownBy_setCell4 _ B 2 _)
  · rw [errS_bad hf]
    have hf1 : (s.2 == 0) = false := by simpa using hf
    go_enter Try.func41, Try.ntmps41
    go_wp2_with (go_at_call 46; refine (fault_any _ h).mono ?_; rintro e w' ⟨rfl, rfl⟩)
    go_end0
    exact ⟨rfl, h, World.grownBy.refl _ _⟩

/-- Cat of two that have just been laid side by side. -/
theorem cat2_any (l1 l2 : List UInt8) (s1 s2 : Value) (w : World) (hl : l1.length + l2.length ≤ 140737488355328) (h1 : BSl 0 w.heap.size w s1 l1) (h2 : BSl 0 w.heap.size w s2 l2) :
    Calls Try.prog 44 #[.slice (some ⟨w.heap.size, 0, none⟩) 2 2] (w.alloc (.cells #[s1, s2] 23)) (ByW (l1 ++ l2) (w.alloc (.cells #[s1, s2] 23))) := by
  have hb := chain0 w (.cells #[s1, s2] 23)
  have hz : (w.alloc (.cells #[s1, s2] 23)).heap.size = w.heap.size + 1 := by simp
  have k : Blk (w.alloc (.cells #[s1, s2] 23)) w.heap.size 23 [s1, s2] := Blk.new w 23 [s1, s2]
  generalize w.alloc (.cells #[s1, s2] 23) = W at *
  let zs : List (SX 140737488355328 W.heap.size W) := [⟨(s1, l1), (h1.below hb (Nat.le_refl _)).mono (Nat.le_refl _) (by omega), by simp only; omega⟩, ⟨(s2, l2), (h2.below hb (Nat.le_refl _)).mono (Nat.le_refl _) (by omega), by simp only; omega⟩]
  have hfl : flat zs = l1 ++ l2 := by simp [flat, zs]
  have := cat_any (.slice (some ⟨w.heap.size, 0, none⟩) 2 2) W zs (by simp [zs]) (by rw [hfl, List.length_append]; exact hl)
    ⟨_, _, rfl, .inr ⟨w.heap.size, 0, rfl, by omega, fun i x hx => by
      rw [Nat.zero_add, k.cell i]
      match i, hx with
      | 0, hx => simp only [zs, List.getElem?_cons_zero, Option.some.injEq] at hx; rw [← hx]; rfl
      | 1, hx => simp only [zs, List.getElem?_cons_zero, List.getElem?_cons_succ, Option.some.injEq] at hx; rw [← hx]; rfl
      | i + 2, hx => simp [zs] at hx⟩⟩
  rw [hfl] at this
  exact this

/-- put takes a field's octets. -/
theorem outPut_any {p : Option Addr} {s : St} (l : List UInt8) (sv : Value) (w : World) (h : ObjP 58 w p s) (hl : l.length ≤ 140737488345000) (hsv : BSl 0 w.heap.size w sv l) :
    Calls Try.prog 42 #[.pointer p, sv] w (DidS 58 p (addS s l) w) := by
  by_cases hf : s.2 = 0
  · have h' := h
    rcases h with ⟨rfl, rfl⟩ | ⟨B, m, a, n, c, x0, rfl, hb, ⟨rfl, rfl⟩ | ⟨rfl, hx, hok, hsl⟩⟩
    · simp at hf
    · simp at hf
    have hsv0 := hsv
    obtain ⟨a2, c2', rfl, _, _⟩ := hsv0
    have hsl0 := hsl
    obtain ⟨a', c', e', _, _⟩ := hsl0
    cases e'
    have h82 := hok.2
    have e1 : addS s l = if s.1.length + l.length ≤ 8192 then (s.1 ++ l, 0) else ([], 5) := if_pos hf
    rw [e1]
    clear e1
    have HF := Lib.hid hf
    have HX := Lib.hid hx
    clear hf hx
    obtain ⟨-, c1, -⟩ := hb.c3
    have f1 := hb.frozen 1
    generalize hn : s.1.length = n at *
    generalize hk : l.length = k at *
    have HN := Lib.hid hn
    have HK := Lib.hid hk
    clear hn hk
    have kp : ∀ {w1 : World}, Below (w.alloc (.cells #[Value.slice a n c, Value.slice a2 k c2'] 23)).heap.size (w.alloc (.cells #[Value.slice a n c, Value.slice a2 k c2'] 23)) w1 → Blk w1 B 58 [.bool true, .slice a n c, .int .i64 x0] := fun hb1 =>
      (hb.alloc _).below hb1 (Nat.lt_of_lt_of_le hb.lt (by simp))
    by_cases hfit : n + k ≤ 8192
    · rw [if_pos hfit]
      have hgt : ¬ ((8192 : Int) < (n : Int) + (k : Int)) := by omega
      go_enter Try.func42, Try.ntmps42
      go_wp2_with (first
        | (go_at_call 46; refine (fault_any _ h').mono ?_; rw [HF.out]; rintro e w' ⟨rfl, rfl⟩)
        | (go_at_call 44; (refine (cat2_any s.1 l (Value.slice a n c) (Value.slice a2 k c2') w (by have := HN.out; have := HK.out; omega) hsl hsv).mono ?_; rintro e w1 ⟨v, rfl, hv, hb1⟩; obtain ⟨va, vc, rfl, hvc⟩ := hv.shape; have c1' := (kp hb1).c3.2.1; have f1' := (kp hb1).frozen 1)))
      go_end0
      have K1 := kp hb1
      rw [List.length_append] at hv
      have G1 := grownBy_setCell4 w1 B 1 (.slice va (s.1.length + l.length) vc)
      refine ⟨rfl, .inr ⟨B, true, va, s.1.length + l.length, vc, x0, rfl, K1.set 1 _, .inr ⟨rfl, HF.out.symm.trans HX.out, ⟨fun k => absurd rfl k, ?_⟩, ?_⟩⟩, ((World.grownBy_alloc w _ (some B)).trans (grew hb1 _)).trans G1⟩
      · have := HN.out; have := HK.out
        simp only [List.length_append]; omega
      · exact (hv.to (Nat.le_refl _) G1 (fun r e => by cases e; exact noOct3 K1)).mono (Nat.zero_le _) G1.size
    · rw [if_neg hfit]
      have hgt : (8192 : Int) < (n : Int) + (k : Int) := by omega
      go_enter Try.func42, Try.ntmps42
      go_wp2_with (first
        | (go_at_call 46; refine (fault_any _ h').mono ?_; rw [HF.out]; rintro e w' ⟨rfl, rfl⟩)
        | (go_at_call 41; refine (outFail_any _ _ h').mono ?_; rintro e w' ⟨rfl, hO, hG⟩))
      go_end0
      exact ⟨rfl, (show errS s 5 = ([], 5) from if_pos HF.out) ▸ hO, hG⟩
  · rw [addS_bad hf]
    have hf1 : (s.2 == 0) = false := by simpa using hf
    have hf2 : (s.2 != 0) = true := by simpa using hf
    go_enter Try.func42, Try.ntmps42
    go_wp2_with (go_at_call 46; refine (fault_any _ h).mono ?_; rintro e w' ⟨rfl, rfl⟩)
    go_end0
    exact ⟨rfl, h, World.grownBy.refl _ _⟩

theorem clamp6 : clamp 6 = 6 := rfl
theorem clamp2 : clamp 2 = 2 := rfl
theorem two_nat {n : Nat} (h : n < 18446744073709551616) : two (n : Int) = n := by unfold two; omega
theorem DidS.chain {T : TypeId} {p : Option Addr} {s : St} {w w1 : World} {e : Ending} {W' : World} (h : DidS T p s w1 e W') (hb : Below w.heap.size w w1) : DidS T p s w e W' :=
  ⟨h.1, h.2.1, (grew hb _).trans h.2.2⟩

theorem outNum_any {p : Option Addr} {s : St} (n : Int) (w : World) (h : ObjP 58 w p s) :
    Calls Try.prog 25 #[.pointer p, .int .i64 n] w (DidS 58 p (numS s n) w) := by
  by_cases hn : 0 ≤ n ∧ n ≤ 1099511627776
  · have e1 : numS s n = addS s (octs (two n) 6) := if_pos hn
    rw [e1]
    clear e1
    obtain ⟨h0, h1⟩ := hn
    have g0 : ¬ n < 0 := by omega
    have g1 : ¬ 1099511627776 < n := by omega
    go_enter Try.func25, Try.ntmps25
    go_wp2_with (first
      | (go_at_call 43; refine (num_any n 6 (by omega) (by omega) w).mono ?_; rintro e w1 ⟨v, rfl, hv, hb1⟩; rw [clamp6] at hv)
      | (go_at_call 42; refine (outPut_any _ _ w1 (h.below hb1) (by rw [octs_length]; omega) (hv.mono (Nat.zero_le _) (Nat.le_refl _))).mono ?_; rintro e w' ⟨rfl, hO, hG⟩))
    go_end0
    exact ⟨rfl, hO, (grew hb1 _).trans hG⟩
  · have e1 : numS s n = errS s 4 := if_neg hn
    rw [e1]
    clear e1
    by_cases h0 : n < 0
    all_goals
      have HN := Lib.hid hn
      clear hn
      try (have g1 : 1099511627776 < n := by have := HN.out; omega)
      go_enter Try.func25, Try.ntmps25
      go_wp2_with (first
        | (go_at_call 41; refine (outFail_any _ _ h).mono ?_; rintro e w' ⟨rfl, hO, hG⟩))
      go_end0
      exact ⟨rfl, hO, hG⟩

set_option maxRecDepth 100000 in
set_option maxHeartbeats 1000000 in
theorem outText_any {p : Option Addr} {s : St} (t : ByteArray) (w : World) (h : ObjP 58 w p s) :
    Calls Try.prog 26 #[.pointer p, .string t] w (DidS 58 p (txtS s t) w) := by
  by_cases hn : t.size ≤ 1024
  · have e1 : txtS s t = addS s (octs t.size 2 ++ t.data.toList) := if_pos hn
    rw [e1]
    clear e1
    have htl : t.data.toList.length = t.size := by rw [Array.length_toList]; rfl
    have g1 : ¬ (1024 : Int) < (t.size : Int) := by omega
    have HL := Lib.hid htl
    clear htl
    go_enter Try.func26, Try.ntmps26
    go_wp2_with (first
      | (go_at_call 43; refine (num_any t.size 2 (by omega) (by omega) w).mono ?_; rintro e w1 ⟨v, rfl, hv, hb1⟩; rw [clamp2, two_nat (by omega)] at hv; obtain ⟨va, vm, vc, rfl⟩ := hv.shape3; obtain ⟨c2, w2, hcv, hc2, hb2, hz2, ho2⟩ := conv_bytes w1 t; have HZ2 := Lib.hid hz2; clear hz2; have hB2 := RowKit.Below.trans hb1 (hb2.mono hb1.size))
      | (go_at_call 44; refine (cat2_any (octs t.size 2) t.data.toList (.slice va vm vc) (.slice (some ⟨w1.heap.size, 0, none⟩) t.size c2) w2 (by rw [octs_length, HL.out]; omega) ((hv.below hb2 (Nat.le_refl _)).mono (Nat.zero_le _) hb2.size) ((conv_bsl hc2 HZ2.out ho2).mono (Nat.zero_le _) (Nat.le_refl _))).mono ?_; rintro e w3 ⟨v3, rfl, hv3, hb3⟩; have hB3 := RowKit.Below.trans (hB2.alloc hB2.size _) (hb3.mono (Nat.le_trans hB2.size (by simp))))
      | (go_at_call 42; refine (outPut_any (octs t.size 2 ++ t.data.toList) v3 w3 (h.below hB3) (by rw [List.length_append, octs_length, HL.out]; omega) (hv3.mono (Nat.zero_le _) (Nat.le_refl _))).mono ?_; rintro e w' ⟨rfl, hO, hG⟩))
    go_end0
    exact ⟨rfl, hO, (grew hB3 _).trans hG⟩
  · have e1 : txtS s t = errS s 5 := if_neg hn
    rw [e1]
    clear e1
    have g1 : (1024 : Int) < (t.size : Int) := by omega
    go_enter Try.func26, Try.ntmps26
    go_wp2_with (first
      | (go_at_call 41; refine (outFail_any _ _ h).mono ?_; rintro e w' ⟨rfl, hO, hG⟩))
    go_end0
    exact ⟨rfl, hO, hG⟩

set_option maxRecDepth 100000 in
theorem outWide_any {p : Option Addr} {s : St} {a0 a1 a2 a3 : Nat} (ha : Ok4 a0 a1 a2 a3) (w : World) (h : ObjP 58 w p s) :
    Calls Try.prog 27 #[.pointer p, wv a0 a1 a2 a3] w (DidS 58 p (wideS s a0 a1 a2 a3) w) := by
  have hl : (wide8 a0 a1 a2 a3).length = 32 := by unfold wide8; simp only [List.length_append, octs_length]
  have HL := Lib.hid hl
  clear hl
  go_enter Try.func27, Try.ntmps27
  go_wp2_with (first
    | (go_at_call 45; refine (blobWide_any ha _).mono ?_; rintro e w1 ⟨v, rfl, hv, hb1⟩; have hB1 := chain (chain0 w _) hb1)
    | (go_at_call 42; refine (outPut_any _ _ w1 (h.below hB1) (by rw [HL.out]; omega) (hv.mono (Nat.zero_le _) (Nat.le_refl _))).mono ?_; rintro e w' ⟨rfl, hO, hG⟩))
  go_end0
  exact ⟨rfl, hO, (grew hB1 _).trans hG⟩

/-- The octets, and the error. -/
def ToldS (s : St) (w : World) (e : Ending) (W' : World) : Prop := ∃ sv, e = .returned (.tuple #[sv, .int .i64 s.2]) ∧ BSl 0 W'.heap.size W' sv s.1 ∧ Below w.heap.size w W'
theorem outDone_any {p : Option Addr} {s : St} (w : World) (h : ObjP 58 w p s) :
    Calls Try.prog 28 #[.pointer p] w (ToldS s w) := by
  by_cases hf : s.2 = 0
  · have h' := h
    rcases h with ⟨rfl, rfl⟩ | ⟨B, m, a, n, c, x0, rfl, hb, ⟨rfl, rfl⟩ | ⟨rfl, hx, hok, hsl⟩⟩
    · simp at hf
    · simp at hf
    have h82 := hok.2
    obtain ⟨-, c1, -⟩ := hb.c3
    have HF := Lib.hid hf
    clear hf hx
    go_enter Try.func28, Try.ntmps28
    go_wp2_with (first
      | (go_at_call 46; refine (fault_any _ h').mono ?_; rw [HF.out]; rintro e w' ⟨rfl, rfl⟩)
      | (go_at_call 33; refine (clone_any s.1 _ _ (by omega) hsl (Nat.le_refl _)).mono ?_; rintro e w1 ⟨v, rfl, hv, hb1⟩))
    go_ret2
    exact ⟨v, by rw [HF.out]; rfl, (BSl.of_own hv).mono (Nat.zero_le _) (Nat.le_refl _), hb1⟩
  · have hs1 := h.ok.1 hf
    have hf1 : (s.2 == 0) = false := by simpa using hf
    have hf2 : (s.2 != 0) = true := by simpa using hf
    have HS := Lib.hid hs1
    clear hs1
    go_enter Try.func28, Try.ntmps28
    go_wp2_with (first
      | (go_at_call 46; refine (fault_any _ h).mono ?_; rintro e w' ⟨rfl, rfl⟩))
    go_ret2
    exact ⟨_, rfl, by rw [HS.out]; exact BSl.nil _ _ _, Below.refl _ _⟩

/-- A new one. -/
theorem outNew_any (w : World) :
    Calls Try.prog 29 #[] w fun e W' => e = .returned (.pointer (some ⟨w.heap.size, 0, none⟩)) ∧ W'.heap.size = w.heap.size + 1 ∧ ObjP 58 W' (some ⟨w.heap.size, 0, none⟩) ([], 0) ∧ Below w.heap.size w W' := by
  go_enter Try.func29, Try.ntmps29
  go_wp2
  go_ret
  exact ⟨rfl, by simp, .inr ⟨_, true, none, 0, 0, 0, rfl, Blk.new w _ [_, _, _], .inr ⟨rfl, rfl, ⟨fun _ => rfl, by simp⟩, BSl.nil _ _ _⟩⟩, chain0 _ _⟩
end Go.Proofs.Ytjhfchjffiliaaa
