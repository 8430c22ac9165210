/-
  field.In: how it reads.
  The words of a wide number's 32 octets.
  What is written of one field is read again: plain functions, for any field.
  What is put of fields, and read again.
  What is put of an ask that may be, and read again.
  blob.Num hands back a row of its own.
-/
import Derived.Maps.Range
import Derived.Outline
import Derived.Test.YtiibeahgleaonaaK03
namespace Go.Proofs.Ytiibeahgleaonaa
open Go.RowKit Go.Shelf

theorem err_nil (w : World) :
    Calls Try.prog 15 #[.pointer none] w fun e W' => e = .returned (.int .i64 9) ∧ w = W' := by
  go_enter Try.func15, Try.ntmps15
  go_wp2
  go_ret
  exact ⟨rfl, rfl⟩
theorem err_at {B : Nat} {m : Bool} {sv : Value} {x : Int} (w : World) (h : Blk w B 66 [.bool m, sv, .int .i64 x]) :
    Calls Try.prog 15 #[.pointer (some ⟨B, 0, none⟩)] w fun e W' => e = .returned (.int .i64 (if m then x else 9)) ∧ w = W' := by
  obtain ⟨c0, -, c2⟩ := h.c3
  cases m
  all_goals
    go_enter Try.func15, Try.ntmps15
    go_wp2
    go_ret
    exact ⟨rfl, rfl⟩
theorem inErr_any {p : Option Addr} {s : St} (w : World) (h : ObjP 66 w p s) :
    Calls Try.prog 15 #[.pointer p] w fun e W' => e = .returned (.int .i64 s.2) ∧ w = W' := by
  rcases h with ⟨rfl, rfl⟩ | ⟨B, m, a, n, c, x, rfl, hb, ⟨rfl, rfl⟩ | ⟨rfl, rfl, _, _⟩⟩
  · exact err_nil w
  · exact err_at w hb
  · exact err_at w hb

theorem inFail_any {p : Option Addr} {s : St} (x : Int) (w : World) (h : ObjP 66 w p s) :
    Calls Try.prog 57 #[.pointer p, .int .i64 x] w (DidS 66 p (errS s x) w) := by
  by_cases hf : s.2 = 0
  · have h' := h
    rcases h with ⟨rfl, rfl⟩ | ⟨B, m, a, n, c, x0, rfl, hb, ⟨rfl, rfl⟩ | ⟨rfl, hx, hok, hsl⟩⟩
    · simp at hf
    · simp at hf
    have e1 : errS s x = ([], x) := if_pos hf
    rw [e1]
    clear e1
    have HF := Lib.hid hf
    have HX := Lib.hid hx
    clear hf hx
    obtain ⟨-, c1, c2⟩ := hb.c3
    have f1 := hb.frozen 1
    have f2 := hb.frozen 2
    go_enter Try.func57, Try.ntmps57
    go_wp2_with (go_at_call 15; refine (inErr_any _ h').mono ?_; rw [HF.out]; rintro e w' ⟨rfl, rfl⟩)
    go_end0
    refine ⟨rfl, .inr ⟨B, true, none, 0, 0, x, rfl, ?_, .inr ⟨rfl, rfl, ⟨fun _ => rfl, by simp⟩, BSl.nil _ _ _⟩⟩, ?_⟩
    · exact (hb.set 1 (.slice none 0 0)).set 2 (.int .i64 x)
    · exact (grownBy_setCell4 w B 1 _).trans (grownBy_setCell4 _ B 2 _)
  · rw [errS_bad hf]
    have hf1 : (s.2 == 0) = false := by simpa using hf
    go_enter Try.func57, Try.ntmps57
    go_wp2_with (go_at_call 15; refine (inErr_any _ h).mono ?_; rintro e w' ⟨rfl, rfl⟩)
    go_end0
    exact ⟨rfl, h, World.grownBy.refl _ _⟩
theorem inSpoil_any {p : Option Addr} {s : St} (w : World) (h : ObjP 66 w p s) :
    Calls Try.prog 36 #[.pointer p] w (DidS 66 p (errS s 16) w) := by
  go_enter Try.func36, Try.ntmps36
  go_wp2_with (go_at_call 57; refine (inFail_any _ _ h).mono ?_; rintro e w' ⟨rfl, hO, hG⟩)
  go_end0
  exact ⟨rfl, hO, hG⟩

theorem inLeft_any {p : Option Addr} {s : St} (w : World) (h : ObjP 66 w p s) :
    Calls Try.prog 17 #[.pointer p] w fun e W' => e = .returned (.int .i64 (s.1.length : Nat)) ∧ w = W' := by
  by_cases hf : s.2 = 0
  · have h' := h
    rcases h with ⟨rfl, rfl⟩ | ⟨B, m, a, n, c, x0, rfl, hb, ⟨rfl, rfl⟩ | ⟨rfl, hx, hok, hsl⟩⟩
    · simp at hf
    · simp at hf
    have hsl0 := hsl
    obtain ⟨a', c', e', _, _⟩ := hsl0
    cases e'
    have HF := Lib.hid hf
    have HX := Lib.hid hx
    clear hf hx
    obtain ⟨-, c1, c2⟩ := hb.c3
    generalize s.1.length = n at *
    go_enter Try.func17, Try.ntmps17
    go_wp2_with (go_at_call 15; refine (inErr_any _ h').mono ?_; rw [HF.out]; rintro e w' ⟨rfl, rfl⟩)
    go_ret
    exact ⟨rfl, rfl⟩
  · have hs1 := h.ok.1 hf
    have hf1 : (s.2 == 0) = false := by simpa using hf
    have hf2 : (s.2 != 0) = true := by simpa using hf
    have HS := Lib.hid hs1
    clear hs1
    go_enter Try.func17, Try.ntmps17
    go_wp2_with (go_at_call 15; refine (inErr_any _ h).mono ?_; rintro e w' ⟨rfl, rfl⟩)
    go_ret
    exact ⟨by rw [HS.out]; rfl, rfl⟩

theorem bsl_take {lo hi : Nat} {W : World} {a : Option Addr} {n c : Nat} {l : List UInt8} (h : BSl lo hi W (.slice a n c) l) {k : Nat} (hk : k ≤ l.length) : BSl lo hi W (.slice a k k) (l.take k) := by
  obtain ⟨a', c', e, hc, h0⟩ := h
  cases e
  refine ⟨a, k, by rw [List.length_take, Nat.min_eq_left hk], by rw [List.length_take]; omega, ?_⟩
  rcases h0 with rfl | ⟨b, off, ha, hl, hh, ho⟩
  · exact .inl (by simp)
  · refine .inr ⟨b, off, ha, hl, hh, fun i x hx => ho i x ?_⟩
    have hi : i < k := by have := (List.getElem?_eq_some_iff.1 hx).1; rw [List.length_take] at this; omega
    rwa [List.getElem?_take_of_lt hi] at hx
theorem bsl_drop {lo hi : Nat} {W : World} {a : Option Addr} {n c : Nat} {l : List UInt8} (h : BSl lo hi W (.slice a n c) l) {k : Nat} (hk : k ≤ l.length) : BSl lo hi W (.slice (a.map fun x => x.add k) (n - k) (c - k)) (l.drop k) := by
  obtain ⟨a', c', e, hc, h0⟩ := h
  cases e
  refine ⟨_, _, by rw [List.length_drop], by rw [List.length_drop]; omega, ?_⟩
  rcases h0 with rfl | ⟨b, off, rfl, hl, hh, ho⟩
  · exact .inl (by simp)
  · have hp : (⟨b, off, none⟩ : Addr).add k = ⟨b, off + k, none⟩ := by cases k <;> simp [Addr.add]
    refine .inr ⟨b, off + k, by simp [hp], hl, hh, fun i x hx => ?_⟩
    rw [List.getElem?_drop] at hx
    have := ho _ x hx
    rwa [← Nat.add_assoc] at this
theorem bsl_none {lo hi : Nat} {W : World} {a : Option Addr} {n c : Nat} {l : List UInt8} (h : BSl lo hi W (.slice a n c) l) {k : Nat} (hk : k ≤ l.length) (hck : c = k) : BSl lo hi W (.slice a (n - k) (c - k)) (l.drop k) := by
  obtain ⟨a', c', e, hc, h0⟩ := h
  cases e
  have e : l.drop k = [] := List.drop_of_length_le (by omega)
  rw [e]
  exact ⟨_, _, by rw [show l.length - k = 0 by omega]; rfl, by simp, .inl rfl⟩
/-- What is lent, and the state behind it. -/
def LentS (T : TypeId) (p : Option Addr) (r : List UInt8 × St) (w : World) (e : Ending) (W' : World) : Prop :=
  ∃ sv, e = .returned sv ∧ BSl 0 W'.heap.size W' sv r.1 ∧ ObjP T W' p r.2 ∧ w.grownBy W' (p.map (·.block))

set_option maxRecDepth 100000 in
set_option maxHeartbeats 1000000 in
theorem inLend_any {p : Option Addr} {s : St} (k : Nat) (hk : k ≤ 100000) (w : World) (h : ObjP 66 w p s) :
    Calls Try.prog 56 #[.pointer p, .int .i64 (k : Nat)] w (LentS 66 p (takeS s k) w) := by
  by_cases hf : s.2 = 0
  · by_cases hfit : k ≤ s.1.length
    · rw [takeS_ok hf hfit]
      have h' := h
      rcases h with ⟨rfl, rfl⟩ | ⟨B, m, a, n, c, x0, rfl, hb, ⟨rfl, rfl⟩ | ⟨rfl, hx, hok, hsl⟩⟩
      · simp at hf
      · simp at hf
      have hsl0 := hsl
      obtain ⟨a', c', e', hcap, h0⟩ := hsl0
      cases e'
      have HF := Lib.hid hf
      have HX := Lib.hid hx
      clear hf hx
      obtain ⟨-, c1, c2⟩ := hb.c3
      have f1 := hb.frozen 1
      generalize hn : s.1.length = n at *
      have HN := Lib.hid hn
      clear hn
      have hgt : ¬ ((n : Int) < (k : Int)) := by omega
      have hle : (k : Int) ≤ (n : Int) := by omega
      have hle2 : (k : Int) ≤ (c : Int) := by omega
      have hfin : ∀ V, (∃ a' n' c', V = Value.slice a' n' c') → BSl 0 w.heap.size w V (s.1.drop k) → LentS 66 (some ⟨B, 0, none⟩) (s.1.take k, s.1.drop k, 0) w (.returned (.slice a k k)) (w.setCell ⟨B, 1, none⟩ V) := by
        rintro V ⟨a', n', c', rfl⟩ hV
        have G1 := grownBy_setCell4 w B 1 (.slice a' n' c')
        have hno : ∀ r, some B = some r → NoOct w r := fun r e => by cases e; exact noOct3 hb
        refine ⟨_, rfl, ((bsl_take hsl (by rw [HN.out]; exact hfit)).to (Nat.le_refl _) G1 hno).mono (Nat.le_refl _) G1.size, .inr ⟨B, true, a', n', c', x0, rfl, hb.set 1 _, .inr ⟨rfl, HF.out.symm.trans HX.out, ⟨fun k => absurd rfl k, ?_⟩, ((hV.to (Nat.le_refl _) G1 hno).mono (Nat.le_refl _) G1.size)⟩⟩, G1⟩
        have := hok.2
        simp only [List.length_drop]; omega
      have HFIN := Lib.hid hfin
      have HDR := Lib.hid (bsl_drop hsl (k := k) (by rw [HN.out]; exact hfit))
      have HDN := Lib.hid (fun e => bsl_none hsl (k := k) (by rw [HN.out]; exact hfit) e)
      clear hfin
      by_cases hck : c = k
      · subst hck
        go_enter Try.func56, Try.ntmps56
        go_wp2_with (first
          | (go_at_call 17; refine (inLeft_any _ h').mono ?_; rw [HN.out]; rintro e w' ⟨rfl, rfl⟩)
          | (go_at_call 15; refine (inErr_any _ h').mono ?_; rw [HF.out]; rintro e w' ⟨rfl, rfl⟩))
        go_ret
        have := HFIN.out _ ⟨_, _, _, rfl⟩ (HDN.out (by trivial))
        rw [show n - c = 0 by omega, Nat.sub_self] at this
        exact this
      · go_enter Try.func56, Try.ntmps56
        go_wp2_with (first
          | (go_at_call 17; refine (inLeft_any _ h').mono ?_; rw [HN.out]; rintro e w' ⟨rfl, rfl⟩)
          | (go_at_call 15; refine (inErr_any _ h').mono ?_; rw [HF.out]; rintro e w' ⟨rfl, rfl⟩))
        go_ret
        exact HFIN.out _ ⟨_, _, _, rfl⟩ HDR.out
    · rw [takeS_short hf (by omega)]
      have hgt : (s.1.length : Int) < (k : Int) := by omega
      have e5 := Lib.hid (show errS s 16 = ([], 16) from if_pos hf)
      clear hf
      go_enter Try.func56, Try.ntmps56
      go_wp2_with (first
        | (go_at_call 17; refine (inLeft_any _ h).mono ?_; rintro e w' ⟨rfl, rfl⟩)
        | (go_at_call 57; refine (inFail_any _ _ h).mono ?_; rw [e5.out]; rintro e w1 ⟨rfl, hO, hG⟩)
        | (go_at_call 15; refine (inErr_any _ hO).mono ?_; rintro e w' ⟨rfl, rfl⟩))
      go_ret
      exact ⟨_, rfl, BSl.nil _ _ _, hO, hG⟩
  · rw [takeS_bad hf]
    have hs1 := h.ok.1 hf
    have hf1 : (s.2 == 0) = false := by simpa using hf
    have hf2 : (s.2 != 0) = true := by simpa using hf
    have HE := Lib.hid (errS_bad hf 16)
    have HL : Hid ((s.1.length : Nat) = 0) := by rw [hs1]; exact Lib.hid rfl
    clear hs1 hf
    by_cases h0 : k = 0
    · subst h0
      go_enter Try.func56, Try.ntmps56
      go_wp2_with (first
        | (go_at_call 17; refine (inLeft_any _ h).mono ?_; rw [HL.out]; rintro e w' ⟨rfl, rfl⟩)
        | (go_at_call 15; refine (inErr_any _ h).mono ?_; rintro e w' ⟨rfl, rfl⟩))
      go_ret
      exact ⟨_, rfl, BSl.nil _ _ _, h, World.grownBy.refl _ _⟩
    · have hgt : (0 : Int) < (k : Int) := by omega
      go_enter Try.func56, Try.ntmps56
      go_wp2_with (first
        | (go_at_call 17; refine (inLeft_any _ h).mono ?_; rw [HL.out]; rintro e w' ⟨rfl, rfl⟩)
        | (go_at_call 57; refine (inFail_any _ _ h).mono ?_; rw [HE.out]; rintro e w1 ⟨rfl, hO, hG⟩)
        | (go_at_call 15; refine (inErr_any _ hO).mono ?_; rintro e w' ⟨rfl, rfl⟩))
      go_ret
      exact ⟨_, rfl, BSl.nil _ _ _, hO, hG⟩

/-- A number is read, or none; the state behind it. -/
def NumS (T : TypeId) (p : Option Addr) (r : Nat × St) (w : World) (e : Ending) (W' : World) : Prop :=
  e = .returned (.int .i64 (r.1 : Nat)) ∧ ObjP T W' p r.2 ∧ w.grownBy W' (p.map (·.block))
theorem be7_le (l : List UInt8) : be (l.take 7) ≤ 72057594037927935 := by
  have := be_lt' (l := l.take 7) (k := 7) (by rw [List.length_take]; omega)
  omega

set_option maxRecDepth 100000 in
theorem inMost_any {p : Option Addr} {s : St} (size : Nat) (most : Int) (hk : size ≤ 100000) (w : World) (h : ObjP 66 w p s) :
    Calls Try.prog 54 #[.pointer p, .int .i64 (size : Nat), .int .i64 most] w (NumS 66 p (mostS s size most) w) := by
  have hl := takeS_len s size
  have hb7 := be7_le (takeS s size).1
  have he : (takeS s size).2.2 ≠ 0 → be ((takeS s size).1.take 7) = 0 := fun e => by rw [takeS_err e]; rfl
  have H := inLend_any (p := p) size hk w h
  unfold mostS
  generalize takeS s size = r at *
  have HB := Lib.hid (fun sv w1 hs => blobInt_any r.1 sv w1 (by omega) hs)
  generalize be (r.1.take 7) = b at *
  by_cases hlt : most < (b : Int)
  · by_cases hf : r.2.2 = 0
    · rw [if_pos ⟨hf, hlt⟩]
      have e5 := Lib.hid (show errS r.2 4 = ([], 4) from if_pos hf)
      clear hf he
      go_enter Try.func54, Try.ntmps54
      go_wp2_with (first
        | (go_at_call 56; refine H.mono ?_; rintro e w1 ⟨v, rfl, hv, hO1, hG1⟩)
        | (go_at_call 66; refine (HB.out _ _ hv).mono ?_; rintro e w2 ⟨rfl, hb2⟩)
        | (go_at_call 57; refine (inFail_any _ _ (hO1.below hb2)).mono ?_; rw [e5.out]; rintro e w3 ⟨rfl, hO3, hG3⟩))
      go_ret
      exact ⟨rfl, hO3, (hG1.trans (grew hb2 _)).trans hG3⟩
    · rw [if_neg (fun e => hf e.1)]
      obtain rfl := he hf
      have e5 := Lib.hid (errS_bad hf 4)
      clear hf he
      go_enter Try.func54, Try.ntmps54
      go_wp2_with (first
        | (go_at_call 56; refine H.mono ?_; rintro e w1 ⟨v, rfl, hv, hO1, hG1⟩)
        | (go_at_call 66; refine (HB.out _ _ hv).mono ?_; rintro e w2 ⟨rfl, hb2⟩)
        | (go_at_call 57; refine (inFail_any _ _ (hO1.below hb2)).mono ?_; rw [e5.out]; rintro e w3 ⟨rfl, hO3, hG3⟩))
      go_ret
      exact ⟨rfl, hO3, (hG1.trans (grew hb2 _)).trans hG3⟩
  · rw [if_neg (fun e => hlt e.2)]
    clear he
    go_enter Try.func54, Try.ntmps54
    go_wp2_with (first
      | (go_at_call 56; refine H.mono ?_; rintro e w1 ⟨v, rfl, hv, hO1, hG1⟩)
      | (go_at_call 66; refine (HB.out _ _ hv).mono ?_; rintro e w2 ⟨rfl, hb2⟩))
    go_ret
    exact ⟨rfl, hO1.below hb2, hG1.trans (grew hb2 _)⟩

theorem inNumP_any {p : Option Addr} {s : St} (most m : Int) (hm : (1099511627776 < most ∧ m = 1099511627776) ∨ (¬ 1099511627776 < most ∧ m = most)) (w : World) (h : ObjP 66 w p s) :
    Calls Try.prog 33 #[.pointer p, .int .i64 most] w (NumS 66 p (mostS s 6 m) w) := by
  have H : Calls Try.prog 54 #[.pointer p, .int .i64 6, .int .i64 m] w (NumS 66 p (mostS s 6 m) w) := inMost_any (p := p) 6 m (by omega) w h
  rcases hm with ⟨hc, rfl⟩ | ⟨hc, rfl⟩
  all_goals
    go_enter Try.func33, Try.ntmps33
    go_wp2_with (go_at_call 54; refine H.mono ?_; rintro e w1 ⟨rfl, hO1, hG1⟩)
    go_ret
    exact ⟨rfl, hO1, hG1⟩
theorem inNum_any {p : Option Addr} {s : St} (most : Int) (w : World) (h : ObjP 66 w p s) :
    Calls Try.prog 33 #[.pointer p, .int .i64 most] w (NumS 66 p (mostS s 6 (min most 1099511627776)) w) := inNumP_any most _ (by omega) w h

/-- A text is read, or none; the state behind it. -/
def TxtS (T : TypeId) (p : Option Addr) (r : List UInt8 × St) (w : World) (e : Ending) (W' : World) : Prop :=
  e = .returned (.string ⟨r.1.toArray⟩) ∧ ObjP T W' p r.2 ∧ w.grownBy W' (p.map (·.block))
theorem be2_le (l : List UInt8) (h : l.length ≤ 2) : be (l.take 7) ≤ 65535 := by
  have := be_lt' (l := l.take 7) (k := 2) (by rw [List.length_take]; omega)
  omega
theorem most2_le (s : St) (m : Int) : (mostS s 2 m).1 ≤ 65535 := by
  unfold mostS; split
  · simp
  · exact be2_le _ (takeS_len _ _)
theorem inTextP_any {p : Option Addr} {s : St} (most m : Int) (hm : (1024 < most ∧ m = 1024) ∨ (¬ 1024 < most ∧ m = most)) (w : World) (h : ObjP 66 w p s) :
    Calls Try.prog 35 #[.pointer p, .int .i64 most] w (TxtS 66 p (gtxtS s m) w) := by
  have H : Calls Try.prog 54 #[.pointer p, .int .i64 2, .int .i64 m] w (NumS 66 p (mostS s 2 m) w) := inMost_any (p := p) 2 m (by omega) w h
  have h6 := most2_le s m
  unfold gtxtS
  generalize mostS s 2 m = r at *
  rcases hm with ⟨hc, rfl⟩ | ⟨hc, rfl⟩
  all_goals
    go_enter Try.func35, Try.ntmps35
    go_wp2_with (first
      | (go_at_call 54; refine H.mono ?_; rintro e w1 ⟨rfl, hO1, hG1⟩)
      | (go_at_call 56; refine (inLend_any r.1 (by omega) w1 hO1).mono ?_; rintro e w2 ⟨v, rfl, hv, hO2, hG2⟩; have hst := run_string (P := Try.prog) 27 5 9 Try.underlying27 Try.underlying5 Try.underlying9 w2 hv))
    go_ret
    exact ⟨rfl, hO2, hG1.trans hG2⟩
theorem inText_any {p : Option Addr} {s : St} (most : Int) (w : World) (h : ObjP 66 w p s) :
    Calls Try.prog 35 #[.pointer p, .int .i64 most] w (TxtS 66 p (gtxtS s (min most 1024)) w) := inTextP_any most _ (by omega) w h

/-- A wide number is read, or none. -/
def WidS (T : TypeId) (p : Option Addr) (r : List UInt8 × St) (w : World) (e : Ending) (W' : World) : Prop :=
  e = .returned (wv (wdS r.1 0) (wdS r.1 1) (wdS r.1 2) (wdS r.1 3)) ∧ ObjP T W' p r.2 ∧ w.grownBy W' (p.map (·.block))
theorem unwideS_any (l : List UInt8) (sv : Value) (w : World) (hsv : BSl 0 w.heap.size w sv l) :
    Calls Try.prog 55 #[sv] w fun e W' => e = .returned (.tuple #[wv (wdS l 0) (wdS l 1) (wdS l 2) (wdS l 3), .bool (decide (l.length = 32))]) ∧ Below w.heap.size w W' := by
  refine (unwide_any l sv w hsv).mono ?_
  rintro e W' (⟨h, he, hb⟩ | ⟨h, he, hb⟩)
  · exact ⟨by rw [he]; unfold wdS; simp only [h, if_true, decide_true], hb⟩
  · exact ⟨by rw [he]; unfold wdS; simp only [h, if_false, decide_false], hb⟩
/-- Words are stored into a block of the call's own. -/
theorem wide_stored {T Tw : TypeId} {p : Option Addr} {s : St} {w w0 w1 w2 : World} {a0 a1 a2 a3 : Int} {b0 b1 b2 b3 : Int} (hO : ObjP T w1 p s) (hG0 : w.grownBy w0 (p.map (·.block))) (hG1 : w0.grownBy w1 (p.map (·.block))) (hb2 : Below w1.heap.size w1 w2) (o : Obj)
    (kR : Blk w2 w.heap.size Tw [.int .u64 b0, .int .u64 b1, .int .u64 b2, .int .u64 b3]) (hne : some w.heap.size ≠ p.map (·.block)) :
    Blk (((((w2.alloc o).setCell ⟨w.heap.size, 0, none⟩ (.int .u64 a0)).setCell ⟨w.heap.size, 1, none⟩ (.int .u64 a1)).setCell ⟨w.heap.size, 2, none⟩ (.int .u64 a2)).setCell ⟨w.heap.size, 3, none⟩ (.int .u64 a3)) w.heap.size Tw [.int .u64 a0, .int .u64 a1, .int .u64 a2, .int .u64 a3] ∧
    ObjP T (((((w2.alloc o).setCell ⟨w.heap.size, 0, none⟩ (.int .u64 a0)).setCell ⟨w.heap.size, 1, none⟩ (.int .u64 a1)).setCell ⟨w.heap.size, 2, none⟩ (.int .u64 a2)).setCell ⟨w.heap.size, 3, none⟩ (.int .u64 a3)) p s ∧
    w.grownBy (((((w2.alloc o).setCell ⟨w.heap.size, 0, none⟩ (.int .u64 a0)).setCell ⟨w.heap.size, 1, none⟩ (.int .u64 a1)).setCell ⟨w.heap.size, 2, none⟩ (.int .u64 a2)).setCell ⟨w.heap.size, 3, none⟩ (.int .u64 a3)) (p.map (·.block)) := by
  have k0 := kR.alloc o
  have k1 := k0.set 0 (.int .u64 a0)
  have k2 := k1.set 1 (.int .u64 a1)
  have k3 := k2.set 2 (.int .u64 a2)
  have k4 := k3.set 3 (.int .u64 a3)
  have O0 : ObjP T (w2.alloc o) p s := (hO.below hb2).below (chain0 _ _)
  have st : ∀ (W : World) (i : Nat) (v : Value), NoOct W w.heap.size → ObjP T W p s → ObjP T (W.setCell ⟨w.heap.size, i, none⟩ v) p s := fun W i v hno h => h.to (grownBy_setCell4 W w.heap.size i v) (fun r e => by cases e; exact ⟨hno, fun e => hne e.symm⟩)
  have O1 := st _ 0 (.int .u64 a0) (noOct4 k0) O0
  have O2 := st _ 1 (.int .u64 a1) (noOct4 k1) O1
  have O3 := st _ 2 (.int .u64 a2) (noOct4 k2) O2
  have O4 := st _ 3 (.int .u64 a3) (noOct4 k3) O3
  have G0 : w.grownBy (w2.alloc o) (p.map (·.block)) := ((hG0.trans hG1).trans (grew hb2 _)).trans (World.grownBy_alloc _ _ _)
  have sg : ∀ (W : World) (i : Nat) (v : Value), w.grownBy W (p.map (·.block)) → w.grownBy (W.setCell ⟨w.heap.size, i, none⟩ v) (p.map (·.block)) := fun W i v h => h.andThen (grownBy_setCell4 W w.heap.size i v) (fun j e => by cases e; exact .inl (Nat.le_refl _))
  exact ⟨k4, O4, sg _ _ _ (sg _ _ _ (sg _ _ _ (sg _ _ _ G0)))⟩
set_option maxRecDepth 100000 in
set_option maxHeartbeats 1000000 in
theorem inWide_any {p : Option Addr} {s : St} (w : World) (h : ObjP 66 w p s) :
    Calls Try.prog 34 #[.pointer p] w (WidS 66 p (takeS s 32) w) := by
  have hne := ptr_lt h (Nat.le_refl _)
  have hO0 := h.below (chain0 w (.cells #[.int .u64 0, .int .u64 0, .int .u64 0, .int .u64 0] 24))
  have kR0 : Blk (w.alloc (.cells #[.int .u64 0, .int .u64 0, .int .u64 0, .int .u64 0] 24)) w.heap.size 24 [.int .u64 0, .int .u64 0, .int .u64 0, .int .u64 0] := Blk.new w _ [_, _, _, _]
  have hG0 : w.grownBy (w.alloc (.cells #[.int .u64 0, .int .u64 0, .int .u64 0, .int .u64 0] 24)) (p.map (·.block)) := World.grownBy_alloc _ _ _
  have H := inLend_any (p := p) 32 (by omega) _ hO0
  generalize takeS s 32 = r at *
  have HU := Lib.hid (fun sv w1 hs => unwideS_any r.1 sv w1 hs)
  have HN := Lib.hid hne
  clear h hO0 hne
  generalize hq0 : wdS r.1 0 = a0 at *
  have HQ0 := Lib.hid hq0
  clear hq0
  generalize hq1 : wdS r.1 1 = a1 at *
  have HQ1 := Lib.hid hq1
  clear hq1
  generalize hq2 : wdS r.1 2 = a2 at *
  have HQ2 := Lib.hid hq2
  clear hq2
  generalize hq3 : wdS r.1 3 = a3 at *
  have HQ3 := Lib.hid hq3
  clear hq3
  generalize (decide (r.1.length = 32)) = bb at *
  go_enter Try.func34, Try.ntmps34
  go_wp2_with (first
    | (go_at_call 56; refine H.mono ?_; rintro e w1 ⟨v, rfl, hv, hO1, hG1⟩)
    | (go_at_call 55; refine (HU.out _ _ hv).mono ?_; rintro e w2 ⟨rfl, hb2⟩; have kR2 := (kR0.kept hG1 HN.out).below hb2 (kR0.kept hG1 HN.out).lt; have r0 := fun o => (Blk.c4 (kR2.alloc o)).1; have r1 := fun o => (Blk.c4 (kR2.alloc o)).2.1; have r2 := fun o => (Blk.c4 (kR2.alloc o)).2.2.1; have r3 := fun o => (Blk.c4 (kR2.alloc o)).2.2.2; have g0 := fun o => (kR2.alloc o).frozen 0; have g1 := fun o => (kR2.alloc o).frozen 1; have g2 := fun o => (kR2.alloc o).frozen 2; have g3 := fun o => (kR2.alloc o).frozen 3))
  obtain ⟨kR3, hO3, hG3⟩ := wide_stored (p := p) hO1 hG0 hG1 hb2 (.cells #[.int .u64 a0, .int .u64 a1, .int .u64 a2, .int .u64 a3] 24) kR2 HN.out (a0 := a0) (a1 := a1) (a2 := a2) (a3 := a3)
  obtain ⟨q0, q1, q2, q3⟩ := Blk.c4 kR3
  exact bodyPost_ret (v := wv a0 a1 a2 a3) (by simp [results, Try.results34, go_sem, q0, q1, q2, q3]) rfl ⟨by rw [HQ0.out, HQ1.out, HQ2.out, HQ3.out], hO3, hG3⟩

/-- An In of octets. -/
def openS (l : List UInt8) : St := if l.length ≤ 8192 then (l, 0) else ([], 5)
theorem openS_ok (l : List UInt8) : OkS (openS l) := by
  unfold openS; split
  · exact ⟨fun k => absurd rfl k, by simpa using ‹_›⟩
  · exact ⟨fun _ => rfl, by simp⟩
theorem inOpen_any (l : List UInt8) (sv : Value) (w : World) (hl : l.length ≤ 140737488351232) (hsv : BSl 0 w.heap.size w sv l) :
    Calls Try.prog 11 #[sv] w fun e W' => ∃ NB, e = .returned (.pointer (some ⟨NB, 0, none⟩)) ∧ w.heap.size ≤ NB ∧ ObjP 66 W' (some ⟨NB, 0, none⟩) (openS l) ∧ Below w.heap.size w W' := by
  obtain ⟨a, c, rfl, -⟩ := hsv.shape
  have HOK := openS_ok l
  unfold openS at *
  generalize hn : l.length = n at *
  have HN := Lib.hid hn
  clear hn
  by_cases hfit : n ≤ 8192
  · rw [if_pos hfit] at *
    have hgt : ¬ (8192 : Int) < (n : Int) := by omega
    go_enter Try.func11, Try.ntmps11
    go_wp2_with (go_at_call 24; refine (clone_any l _ w (by rw [HN.out]; omega) hsv (Nat.le_refl _)).mono ?_; rintro e w1 ⟨v, rfl, hv, hb1⟩; obtain ⟨va, vm, vc, rfl⟩ := (BSl.of_own hv).shape3)
    go_ret
    have hB := chainA hb1 (.cells #[.bool true, .slice va vm vc, .int .i64 0] 66)
    have hB1 := chain0 w1 (.cells #[.bool true, .slice va vm vc, .int .i64 0] 66)
    exact ⟨w1.heap.size, rfl, hb1.size, .inr ⟨_, true, va, vm, vc, 0, rfl, Blk.new w1 _ [_, _, _], .inr ⟨rfl, rfl, HOK, (((BSl.of_own hv).below hB1 (Nat.le_refl _)).mono (Nat.zero_le _) hB1.size)⟩⟩, hB⟩
  · rw [if_neg hfit] at *
    have hgt : (8192 : Int) < (n : Int) := by omega
    go_enter Try.func11, Try.ntmps11
    go_wp2
    go_ret
    exact ⟨w.heap.size, rfl, Nat.le_refl _, .inr ⟨_, true, none, 0, 0, 5, rfl, Blk.new w _ [_, _, _], .inr ⟨rfl, rfl, HOK, BSl.nil _ _ _⟩⟩, chain0 _ _⟩
end Go.Proofs.Ytiibeahgleaonaa

namespace Go.Proofs.Ytiibeahgleaonaa
open Go.RowKit Go.Shelf

theorem wide8_length (a0 a1 a2 a3 : Nat) : (wide8 a0 a1 a2 a3).length = 32 := by simp [wide8, octs_length]
theorem uwd_wide8 {a0 a1 a2 a3 : Nat} (ha : Ok4 a0 a1 a2 a3) : uwd (wide8 a0 a1 a2 a3) 32 0 = a0 ∧ uwd (wide8 a0 a1 a2 a3) 32 1 = a1 ∧ uwd (wide8 a0 a1 a2 a3) 32 2 = a2 ∧ uwd (wide8 a0 a1 a2 a3) 32 3 = a3 := by
  obtain ⟨h0, h1, h2, h3⟩ := ha
  have hb : ∀ a, a < M → be (octs a 8) = a := fun a h => by
    rw [be_octs]
    exact Nat.mod_eq_of_lt (by unfold M at h; omega)
  have l8 : ∀ a, (octs a 8).length = 8 := fun a => octs_length a 8
  unfold uwd
  rw [List.take_of_length_le (l := wide8 a0 a1 a2 a3) (by rw [wide8_length]; omega)]
  unfold wide8
  refine ⟨?_, ?_, ?_, ?_⟩
  · rw [show 8 * (3 - 0) = 8 + (8 + 8) from rfl, ← List.drop_drop, ← List.drop_drop, List.drop_left' (l8 _), List.drop_left' (l8 _), List.drop_left' (l8 _), List.take_of_length_le (by rw [l8]; omega), hb _ h0]
  · rw [show 8 * (3 - 1) = 8 + 8 from rfl, ← List.drop_drop, List.drop_left' (l8 _), List.drop_left' (l8 _), List.take_left' (l8 _), hb _ h1]
  · rw [show 8 * (3 - 2) = 8 from rfl, List.drop_left' (l8 _), List.take_left' (l8 _), hb _ h2]
  · rw [show 8 * (3 - 3) = 0 from rfl, List.drop_zero, List.take_left' (l8 _), hb _ h3]
end Go.Proofs.Ytiibeahgleaonaa

namespace Go.Proofs.Ytiibeahgleaonaa
open Go.RowKit Go.Shelf

theorem addS_zero {s : St} {l : List UInt8} (h : (addS s l).2 = 0) : s.2 = 0 ∧ (addS s l).1 = s.1 ++ l := by
  unfold addS at *; split
  · rename_i h0
    rw [if_pos h0] at h
    split
    · exact ⟨h0, rfl⟩
    · rename_i h1; rw [if_neg h1] at h; exact absurd h (by decide)
  · rename_i h0
    rw [if_neg h0] at h
    exact absurd h h0
theorem errS_zero {s : St} {x : Int} (hx : x ≠ 0) : (errS s x).2 ≠ 0 := by
  unfold errS; split
  · exact hx
  · assumption
theorem be_six {n : Int} (h0 : 0 ≤ n) (h1 : n ≤ 1099511627776) : (be (octs (two n) 6) : Int) = n := by
  rw [be_octs]
  unfold two
  omega
theorem be_two {n : Nat} (h : n ≤ 1024) : be (octs n 2) = n := by rw [be_octs]; omega

theorem mostS_ok {x R : List UInt8} {k : Nat} (hk : x.length = k) (h7 : k ≤ 7) {m : Int} (hm : (be x : Int) ≤ m) : mostS (x ++ R, 0) k m = (be x, (R, 0)) := by
  have e : takeS (x ++ R, 0) k = (x, (R, 0)) := by
    rw [takeS_ok rfl (by simp only [List.length_append]; omega), List.take_left' hk, List.drop_left' hk]
  unfold mostS
  rw [e]
  dsimp only
  rw [List.take_of_length_le (by omega), if_neg (by intro h; have := h.2; omega)]
theorem mostS_short {p : List UInt8} {k : Nat} (hk : p.length < k) (m : Int) : mostS (p, 0) k m = (0, ([], 16)) := by
  unfold mostS
  rw [takeS_short rfl hk, if_neg (by intro h; exact absurd h.1 (by decide))]
  rfl
theorem mostS_bad {s : St} (h : s.2 ≠ 0) (k : Nat) (m : Int) : mostS s k m = (0, s) := by
  unfold mostS
  rw [takeS_bad h, if_neg (fun e => h e.1)]
  rfl
theorem gtxtS_bad {s : St} (h : s.2 ≠ 0) (m : Int) : gtxtS s m = ([], s) := by
  unfold gtxtS
  rw [mostS_bad h, takeS_bad h]
theorem numS_zero {s : St} {n : Int} (h : (numS s n).2 = 0) : s.2 = 0 ∧ (0 ≤ n ∧ n ≤ 1099511627776) ∧ (numS s n).1 = s.1 ++ octs (two n) 6 := by
  unfold numS at *; split
  · rename_i h1
    rw [if_pos h1] at h
    obtain ⟨a, b⟩ := addS_zero h
    exact ⟨a, h1, b⟩
  · rename_i h1
    rw [if_neg h1] at h
    exact absurd h (errS_zero (by decide))
theorem txtS_zero {s : St} {t : ByteArray} (h : (txtS s t).2 = 0) : s.2 = 0 ∧ t.size ≤ 1024 ∧ (txtS s t).1 = s.1 ++ (octs t.size 2 ++ t.data.toList) := by
  unfold txtS at *; split
  · rename_i h1
    rw [if_pos h1] at h
    obtain ⟨a, b⟩ := addS_zero h
    exact ⟨a, h1, b⟩
  · rename_i h1
    rw [if_neg h1] at h
    exact absurd h (errS_zero (by decide))
theorem rd_num {n : Int} (h0 : 0 ≤ n) (h1 : n ≤ 1099511627776) {m : Int} (hm : n ≤ m) (R : List UInt8) : mostS (octs (two n) 6 ++ R, 0) 6 m = (be (octs (two n) 6), (R, 0)) ∧ (be (octs (two n) 6) : Int) = n := by
  have hb := be_six h0 h1
  exact ⟨mostS_ok (octs_length _ _) (by omega) (by omega), hb⟩
theorem rd_txt {t : ByteArray} (h1 : t.size ≤ 1024) {m : Int} (hm : (t.size : Int) ≤ m) (R : List UInt8) : gtxtS (octs t.size 2 ++ (t.data.toList ++ R), 0) m = (t.data.toList, (R, 0)) := by
  have hb := be_two h1
  have hl : t.data.toList.length = t.size := by rw [Array.length_toList]; rfl
  unfold gtxtS
  rw [mostS_ok (octs_length _ _) (by omega) (by omega), hb]
  rw [takeS_ok rfl (by simp only [List.length_append]; omega), List.take_left' hl, List.drop_left' hl]
theorem rd_wide {a0 a1 a2 a3 : Nat} (h4 : Ok4 a0 a1 a2 a3) (R : List UInt8) : takeS (wide8 a0 a1 a2 a3 ++ R, 0) 32 = (wide8 a0 a1 a2 a3, (R, 0)) ∧ wdS (wide8 a0 a1 a2 a3) 0 = a0 ∧ wdS (wide8 a0 a1 a2 a3) 1 = a1 ∧ wdS (wide8 a0 a1 a2 a3) 2 = a2 ∧ wdS (wide8 a0 a1 a2 a3) 3 = a3 := by
  have hl := wide8_length a0 a1 a2 a3
  obtain ⟨q0, q1, q2, q3⟩ := uwd_wide8 h4
  refine ⟨?_, ?_⟩
  · rw [takeS_ok rfl (by simp only [List.length_append]; omega), List.take_left' hl, List.drop_left' hl]
  · unfold wdS
    simp only [hl, if_true]
    exact ⟨q0, q1, q2, q3⟩
end Go.Proofs.Ytiibeahgleaonaa

namespace Go.Proofs.Ytiibeahgleaonaa
open Go.RowKit Go.Shelf

theorem add_ok {l x : List UInt8} (h : l.length + x.length ≤ 8192) : addS (l, 0) x = (l ++ x, 0) := by
  unfold addS; rw [if_pos rfl, if_pos h]
theorem num_ok {l : List UInt8} {n : Int} (h0 : 0 ≤ n) (h1 : n ≤ 1099511627776) (h : l.length ≤ 8000) : numS (l, 0) n = (l ++ octs (two n) 6, 0) := by
  unfold numS; rw [if_pos ⟨h0, h1⟩, add_ok (by rw [octs_length]; omega)]
theorem txt_ok {l : List UInt8} {t : ByteArray} (h1 : t.size ≤ 100) (h : l.length ≤ 8000) : txtS (l, 0) t = (l ++ (octs t.size 2 ++ t.data.toList), 0) := by
  have hl : t.data.toList.length = t.size := by rw [Array.length_toList]; rfl
  unfold txtS; rw [if_pos (by omega), add_ok (by rw [List.length_append, octs_length, hl]; omega)]
theorem wide_ok {l : List UInt8} {a0 a1 a2 a3 : Nat} (h : l.length ≤ 8000) : wideS (l, 0) a0 a1 a2 a3 = (l ++ wide8 a0 a1 a2 a3, 0) := by
  unfold wideS; rw [add_ok (by rw [wide8_length]; omega)]

/-- A text's octets. -/
def encT (t : ByteArray) : List UInt8 := octs t.size 2 ++ t.data.toList
theorem encT_length (t : ByteArray) : (encT t).length = t.size + 2 := by
  have hl : t.data.toList.length = t.size := by rw [Array.length_toList]; rfl
  rw [encT, List.length_append, octs_length, hl]; omega
def encN (n : Int) : List UInt8 := octs (two n) 6
theorem encN_length (n : Int) : (encN n).length = 6 := octs_length _ _
theorem rdT {t : ByteArray} {m : Int} (h1 : t.size ≤ 1024) (hm : (t.size : Int) ≤ m) (R : List UInt8) : gtxtS (encT t ++ R, 0) m = (t.data.toList, (R, 0)) := by
  rw [encT, List.append_assoc]; exact rd_txt h1 hm R
theorem rdN {n : Int} (h0 : 0 ≤ n) (h1 : n ≤ 1099511627776) (R : List UInt8) : ∃ k : Nat, mostS (encN n ++ R, 0) 6 1099511627776 = (k, (R, 0)) ∧ (k : Int) = n := by
  obtain ⟨h, e⟩ := rd_num h0 h1 h1 R
  exact ⟨_, h, e⟩
theorem str_of_list (t : ByteArray) : str t.data.toList = t := by cases t; rfl
end Go.Proofs.Ytiibeahgleaonaa

namespace Go.Proofs.Ytiibeahgleaonaa
open Go.RowKit Go.Shelf

/-- An ask's octets. -/
def encA (a : Ak) : List UInt8 := encN a.us ++ (encN a.se ++ (encN a.re ++ (encN a.to ++ (wide8 a.a0 a.a1 a.a2 a.a3 ++ encT a.id))))
theorem putA_ok {a : Ak} (h : maybeA a) : putA ([], 0) a = (encA a, 0) := by
  obtain ⟨⟨h0, h0'⟩, ⟨h1, h1'⟩, ⟨h2, h2'⟩, ⟨h3, h3'⟩, h4, h5, h5'⟩ := h
  unfold putA putA4
  rw [num_ok h0 (by omega) (by simp)]
  rw [num_ok h1 (by omega) (by simp [octs_length])]
  rw [num_ok h2 (by omega) (by simp [octs_length])]
  rw [num_ok h3 (by omega) (by simp [octs_length])]
  rw [wide_ok (by simp [octs_length])]
  rw [txt_ok (by omega) (by simp [octs_length, wide8_length])]
  unfold encA encT encN
  simp only [List.nil_append, List.append_assoc]
theorem encA_length {a : Ak} (h : maybeA a) : (encA a).length ≤ 100 := by
  obtain ⟨_, _, _, _, _, _, h5'⟩ := h
  simp only [encA, List.length_append, encT_length, encN_length, wide8_length]; omega
theorem getA_ok {a : Ak} (h : maybeA a) (h4 : Ok4 a.a0 a.a1 a.a2 a.a3) (R : List UInt8) : getA (encA a ++ R, 0) = (a, (R, 0)) := by
  have h' := h
  obtain ⟨⟨h0, h0'⟩, ⟨h1, h1'⟩, ⟨h2, h2'⟩, ⟨h3, h3'⟩, _, h5, h5'⟩ := h
  have hE : encA a ++ R = encN a.us ++ (encN a.se ++ (encN a.re ++ (encN a.to ++ (wide8 a.a0 a.a1 a.a2 a.a3 ++ (encT a.id ++ R))))) := by
    unfold encA; simp only [List.append_assoc]
  rw [hE]
  obtain ⟨k0, e0, q0⟩ := rdN h0 (by omega) (encN a.se ++ (encN a.re ++ (encN a.to ++ (wide8 a.a0 a.a1 a.a2 a.a3 ++ (encT a.id ++ R)))))
  obtain ⟨k1, e1, q1⟩ := rdN h1 (by omega) (encN a.re ++ (encN a.to ++ (wide8 a.a0 a.a1 a.a2 a.a3 ++ (encT a.id ++ R))))
  obtain ⟨k2, e2, q2⟩ := rdN h2 (by omega) (encN a.to ++ (wide8 a.a0 a.a1 a.a2 a.a3 ++ (encT a.id ++ R)))
  obtain ⟨k3, e3, q3⟩ := rdN h3 (by omega) (wide8 a.a0 a.a1 a.a2 a.a3 ++ (encT a.id ++ R))
  obtain ⟨e4, w0, w1, w2, w3⟩ := rd_wide h4 (encT a.id ++ R)
  have e5 : gtxtS (encT a.id ++ R, 0) 16 = _ := rdT (by omega) (by omega) _
  generalize hS : (encN a.us ++ (encN a.se ++ (encN a.re ++ (encN a.to ++ (wide8 a.a0 a.a1 a.a2 a.a3 ++ (encT a.id ++ R))))), (0 : Int)) = S at *
  have f0 := (rfl : ad0 S = mostS S 6 big).trans e0
  have f1 := (rfl : ad1 S = mostS (ad0 S).2 6 big).trans ((congrArg (fun x : Nat × St => mostS x.2 6 big) f0).trans e1)
  have f2 := (rfl : ad2 S = mostS (ad1 S).2 6 big).trans ((congrArg (fun x : Nat × St => mostS x.2 6 big) f1).trans e2)
  have f3 := (rfl : ad3 S = mostS (ad2 S).2 6 big).trans ((congrArg (fun x : Nat × St => mostS x.2 6 big) f2).trans e3)
  have f4 := (rfl : ad4 S = takeS (ad3 S).2 32).trans ((congrArg (fun x : Nat × St => takeS x.2 32) f3).trans e4)
  have f5 := (rfl : ad5 S = gtxtS (ad4 S).2 16).trans ((congrArg (fun x : List UInt8 × St => gtxtS x.2 16) f4).trans e5)
  have hraw : rawA S = a := by
    unfold rawA
    rw [f0, f1, f2, f3, f4, f5, str_of_list]
    simp only [q0, q1, q2, q3, w0, w1, w2, w3]
  rw [getA_yes (by rw [f5]) (by rw [hraw]; exact h'), hraw, f5]
end Go.Proofs.Ytiibeahgleaonaa

namespace Go.Proofs.Ytiibeahgleaonaa
open Go.RowKit Go.Shelf
attribute [local go_sem] Oper.semAt_some

set_option maxRecDepth 100000 in
set_option maxHeartbeats 4000000 in
theorem numO_in (m : Nat) (hm : 3 ≤ m) (n size : Int) (hs : -9223372036854775808 ≤ size) (hs' : size ≤ 9223372036854775807) (w : World) :
    CallsIn Fence.wide m Try.prog 42 #[.int .i64 n, .int .i64 size] w (ByO (octs (two n) (clamp size)) w) := by
  have h1 : 1 ≤ m := by omega
  refine callsIn_of_wp_marks Try.func42 rfl trivial ?_ rfl
  simp only [Try.ntmps42, List.size_toArray, List.length_cons, List.length_nil, Nat.reduceAdd, Nat.reduceSub, Array.replicate_succ, Array.replicate_zero, List.push_toArray, List.append_toArray, List.nil_append, List.cons_append]
  obtain ⟨i0, hi, hz0, hz1, hz2⟩ := info_parts Try.infoByte
  have hU : IntKind.u64.wrap n = (two n : Nat) := wrap_two n
  have hx : two n < M := by unfold two M; omega
  generalize two n = x at *
  have H8 := clamp_le size
  have hCC := clamp_cases size
  generalize clamp size = s at *
  rcases hCC with ⟨hc0, hC⟩ | ⟨hc0, hc8, hC⟩ | ⟨hc8, hC⟩
  all_goals
    have HC := Lib.hid hC
    clear hC
    gi_wp2_with (refine ⟨trivial, ?_⟩; gi_at_call 60; refine (octets_in Fence.wide (m - 1) trivial rfl _ _ _).mono ?_; rintro e w' ⟨rfl, rfl⟩)
    generalize hW5 : World.alloc _ _ = W5
    have k0 : Boxed W5 w.heap.size 27 (.slice none 0 0) := by rw [← hW5]; exact ((Boxed.new _ _ _).alloc _).alloc _
    have k1 : Boxed W5 (w.heap.size + 1) 22 (.int .u64 (x : Nat)) := by rw [← hW5]; exact (Blk.new' (vs := [.int .u64 (x : Nat)]) (by simp)).alloc _
    have k2 : Boxed W5 (w.heap.size + 1 + 1) 3 (.int .i64 (s : Nat)) := by rw [HC.out, ← hW5]; exact Blk.new' (vs := [.int .i64 _]) (by simp)
    have hB0 : Below w.heap.size w W5 := by rw [← hW5]; exact chainA (chainA (chain0 _ _) _) _
    have hz : W5.heap.size = w.heap.size + 3 := by rw [← hW5]; simp
    clear hW5
    refine wpIn_rangeFunc_ownF (S := fun ys => ys = octs x s) rfl h1 (gf := 70) (lb := #[.pointer (some ⟨w.heap.size + 1 + 1, 0, none⟩), .pointer (some ⟨w.heap.size + 1, 0, none⟩)]) rfl trivial (enters_of Try.func70 (by kernel_rfl) rfl)
      (octets1_stops Fence.wide (m - 1) trivial rfl (by omega) x s H8 (w.heap.size + 1) (w.heap.size + 1 + 1) W5 k1.lt k2.lt (k1.cell) k2.cell (KeepB (w.heap.size + 1)) (fun A B h => World.cell?_of_block h)) KeepB.t (KeepB.b k1.lt) (Below.refl _ _) (fun _ => rfl)
      (NumI w.heap.size (w.heap.size + 1) x w) (fun _ _ _ => False) (numI_own (Nat.le_refl _) (by omega)) (fun _ _ _ _ _ hs _ _ => hs)
      ⟨⟨⟨_, k0, World.ownsRow_nil _ _ _ _, trivial⟩, k1⟩, hB0⟩ ?_ ?_ ?_ ?_ ?_
    rotate_left
    · intro l x W K hK
      gi_wp2
      exact hK
    · rintro l pre o W ⟨⟨⟨v, kv, hown, _⟩, kn⟩, hB⟩ hlt
      have ko := kv.cell
      have kf := kv.frozen
      have hNW : w.heap.size ≤ W.heap.size := hB.size
      gi_wp2_with (gi_at_builtin; refine wpListIn_append_own _ rfl _ _ 27 rfl w.heap.size 5 i0 (.int .u8 0) 1 1 Try.underlying27 hi hz0 hz1 hz2 rfl (by decide) v pre.length (pre.map bv) rfl (hown.alloc _) ⟨W.heap.size, 0, none⟩ 1 1 [bv o] rfl rfl (cell_one_new _ _ _) (by simp [Value.oneCell']) (by unfold maxLen; omega) (by omega) (by simp; omega) ?_; intro v' w1 hown' hgrow _; obtain ⟨g, cap, rfl⟩ := ownsRow_succ hown'; obtain ⟨hv1, kv', hrow', hk3, hbw⟩ := kv.appended (by decide) hown hNW (Nat.le_refl _) hown' hgrow; have ko1 := hv1.cell; have kf1 := hv1.frozen)
      have hn1 : W.heap.size ≤ w1.heap.size := Nat.le_trans (by simp) hgrow.size
      have kn1 : Boxed w1 (w.heap.size + 1) 22 (.int .u64 (x : Nat)) := (kn.alloc _).kept hgrow (Boxed.not_row kn (by decide) hown)
      have kn3 := kn1.kept (grownBy_setCell' w1 w.heap.size (.slice (some ⟨g, 0, none⟩) (pre.length + 1) cap)) (by simp)
      exact ⟨hk3, kn3.trans kn.symm, ⟨⟨_, kv', by simpa using hrow', trivial⟩, kn3⟩, hB.trans hbw⟩
    · rintro D ys W hD rfl ⟨⟨⟨v, kv, hown, _⟩, kn⟩, hB⟩ hK
      have ko := kv.cell
      have HZ := Lib.hid hz
      clear hz
      gi_wp2
      have hB' := hB.trans (belowK_b (w := w) (Nat.le_refl _) _ D _ (.deferred none) (by have := HZ.out; omega) hK rfl rfl)
      have hown3 := ownsRow_putObj hown (.deferred none) hK rfl
      refine ⟨by simp, .inl ⟨_, _, rfl, run_takeDeferred hK, ?_⟩⟩
      refine ⟨v, ?_, ?_⟩
      · simp [results, Try.f42, go_sem]
      · exact ⟨v, rfl, hown3, hB'⟩
    · rintro D c pre W _ _ h _
      exact h.elim

theorem numO_any (n size : Int) (hs : -9223372036854775808 ≤ size) (hs' : size ≤ 9223372036854775807) (w : World) :
    Calls Try.prog 42 #[.int .i64 n, .int .i64 size] w (ByO (octs (two n) (clamp size)) w) := callsIn_wide.1 (numO_in 3 (by omega) n size hs hs' w)
end Go.Proofs.Ytiibeahgleaonaa
