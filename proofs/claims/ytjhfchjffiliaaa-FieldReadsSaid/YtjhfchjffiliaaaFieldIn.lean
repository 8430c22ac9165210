/-
  field.In: how it reads.
-/
import Derived.Test.YtjhfchjffiliaaaFieldM
import Derived.Test.YtjhfchjffiliaaaClone
import Derived.Test.YtjhfchjffiliaaaBlobInt
import Derived.Test.YtjhfchjffiliaaaUnwide
import Derived.Maps.Range
import Derived.Outline
namespace Go.Proofs.Ytjhfchjffiliaaa
open Go.RowKit Go.Shelf

theorem err_nil (w : World) :
    Calls Try.prog 21 #[.pointer none] w fun e W' => e = .returned (.int .i64 9) ∧ w = W' := by
  go_enter Try.func21, Try.ntmps21
  go_wp2
  go_ret
  exact ⟨rfl, rfl⟩
theorem err_at {B : Nat} {m : Bool} {sv : Value} {x : Int} (w : World) (h : Blk w B 61 [.bool m, sv, .int .i64 x]) :
    Calls Try.prog 21 #[.pointer (some ⟨B, 0, none⟩)] w fun e W' => e = .returned (.int .i64 (if m then x else 9)) ∧ w = W' := by
  obtain ⟨c0, -, c2⟩ := h.c3
  cases m
  all_goals
    go_enter Try.func21, Try.ntmps21
    go_wp2
    go_ret
    exact ⟨rfl, rfl⟩
theorem inErr_any {p : Option Addr} {s : St} (w : World) (h : ObjP 61 w p s) :
    Calls Try.prog 21 #[.pointer p] w fun e W' => e = .returned (.int .i64 s.2) ∧ w = W' := by
  rcases h with ⟨rfl, rfl⟩ | ⟨B, m, a, n, c, x, rfl, hb, ⟨rfl, rfl⟩ | ⟨rfl, rfl, _, _⟩⟩
  · exact err_nil w
  · exact err_at w hb
  · exact err_at w hb

theorem inFail_any {p : Option Addr} {s : St} (x : Int) (w : World) (h : ObjP 61 w p s) :
    Calls Try.prog 40 #[.pointer p, .int .i64 x] w (DidS 61 p (errS s x) w) := by
  by_cases hf : s.2 = 0
  · have h' := h
    rcases h with ⟨rfl, rfl⟩ | ⟨B, m, a, n, c, x0, rfl, hb, ⟨rfl, rfl⟩ | ⟨rfl, hx, hok, hsl⟩⟩
    · simp at hf
    · simp at hf
    have e1 : errS s x = ([], x) := if_pos hf
    rw [e1]
    clear e1
    have HF := Lib.hid hf
    have HX := Lib.hid hx
    clear hf hx
    obtain ⟨-, c1, c2⟩ := hb.c3
    have f1 := hb.frozen 1
    have f2 := hb.frozen 2
    go_enter Try.func40, Try.ntmps40
    go_wp2_with (go_at_call 21; refine (inErr_any _ h').mono ?_; rw [HF.out]; rintro e w' ⟨rfl, rfl⟩)
    go_end0
    refine ⟨rfl, .inr ⟨B, true, none, 0, 0, x, rfl, ?_, .inr ⟨rfl, rfl, ⟨fun _ => rfl, by simp⟩, BSl.nil _ _ _⟩⟩, ?_⟩
    · exact (hb.set 1 (.slice none 0 0)).set 2 (.int .i64 x)
    · exact (grownBy_setCell4 w B 1 _).trans (grownBy_setCell4 _ B 2 _)
  · rw [errS_bad hf]
    have hf1 : (s.2 == 0) = false := by simpa using hf
    go_enter Try.func40, Try.ntmps40
    go_wp2_with (go_at_call 21; refine (inErr_any _ h).mono ?_; rintro e w' ⟨rfl, rfl⟩)
    go_end0
    exact ⟨rfl, h, World.grownBy.refl _ _⟩
theorem inSpoil_any {p : Option Addr} {s : St} (w : World) (h : ObjP 61 w p s) :
    Calls Try.prog 23 #[.pointer p] w (DidS 61 p (errS s 16) w) := by
  go_enter Try.func23, Try.ntmps23
  go_wp2_with (go_at_call 40; refine (inFail_any _ _ h).mono ?_; rintro e w' ⟨rfl, hO, hG⟩)
  go_end0
  exact ⟨rfl, hO, hG⟩

theorem inLeft_any {p : Option Addr} {s : St} (w : World) (h : ObjP 61 w p s) :
    Calls Try.prog 22 #[.pointer p] w fun e W' => e = .returned (.int .i64 (s.1.length : Nat)) ∧ w = W' := by
  by_cases hf : s.2 = 0
  · have h' := h
    rcases h with ⟨rfl, rfl⟩ | ⟨B, m, a, n, c, x0, rfl, hb, ⟨rfl, rfl⟩ | ⟨rfl, hx, hok, hsl⟩⟩
    · simp at hf
    · simp at hf
    have hsl0 := hsl
    obtain ⟨a', c', e', _, _⟩ := hsl0
    cases e'
    have HF := Lib.hid hf
    have HX := Lib.hid hx
    clear hf hx
    obtain ⟨-, c1, c2⟩ := hb.c3
    generalize s.1.length = n at *
    go_enter Try.func22, Try.ntmps22
    go_wp2_with (go_at_call 21; refine (inErr_any _ h').mono ?_; rw [HF.out]; rintro e w' ⟨rfl, rfl⟩)
    go_ret
    exact ⟨rfl, rfl⟩
  · have hs1 := h.ok.1 hf
    have hf1 : (s.2 == 0) = false := by simpa using hf
    have hf2 : (s.2 != 0) = true := by simpa using hf
    have HS := Lib.hid hs1
    clear hs1
    go_enter Try.func22, Try.ntmps22
    go_wp2_with (go_at_call 21; refine (inErr_any _ h).mono ?_; rintro e w' ⟨rfl, rfl⟩)
    go_ret
    exact ⟨by rw [HS.out]; rfl, rfl⟩

theorem bsl_take {lo hi : Nat} {W : World} {a : Option Addr} {n c : Nat} {l : List UInt8} (h : BSl lo hi W (.slice a n c) l) {k : Nat} (hk : k ≤ l.length) : BSl lo hi W (.slice a k k) (l.take k) := by
  obtain ⟨a', c', e, hc, h0⟩ := h
  cases e
  refine ⟨a, k, by rw [List.length_take, Nat.min_eq_left hk], by rw [List.length_take]; omega, ?_⟩
  rcases h0 with rfl | ⟨b, off, ha, hl, hh, ho⟩
  · exact .inl (by simp)
  · refine .inr ⟨b, off, ha, hl, hh, fun i x hx => ho i x ?_⟩
    have hi : i < k := by have := (List.getElem?_eq_some_iff.1 hx).1; rw [List.length_take] at this; omega
    rwa [List.getElem?_take_of_lt hi] at hx
theorem bsl_drop {lo hi : Nat} {W : World} {a : Option Addr} {n c : Nat} {l : List UInt8} (h : BSl lo hi W (.slice a n c) l) {k : Nat} (hk : k ≤ l.length) : BSl lo hi W (.slice (a.map fun x => x.add k) (n - k) (c - k)) (l.drop k) := by
  obtain ⟨a', c', e, hc, h0⟩ := h
  cases e
  refine ⟨_, _, by rw [List.length_drop], by rw [List.length_drop]; omega, ?_⟩
  rcases h0 with rfl | ⟨b, off, rfl, hl, hh, ho⟩
  · exact .inl (by simp)
  · have hp : (⟨b, off, none⟩ : Addr).add k = ⟨b, off + k, none⟩ := by cases k <;> simp [Addr.add]
    refine .inr ⟨b, off + k, by simp [hp], hl, hh, fun i x hx => ?_⟩
    rw [List.getElem?_drop] at hx
    have := ho _ x hx
    rwa [← Nat.add_assoc] at this
theorem bsl_none {lo hi : Nat} {W : World} {a : Option Addr} {n c : Nat} {l : List UInt8} (h : BSl lo hi W (.slice a n c) l) {k : Nat} (hk : k ≤ l.length) (hck : c = k) : BSl lo hi W (.slice a (n - k) (c - k)) (l.drop k) := by
  obtain ⟨a', c', e, hc, h0⟩ := h
  cases e
  have e : l.drop k = [] := List.drop_of_length_le (by omega)
  rw [e]
  exact ⟨_, _, by rw [show l.length - k = 0 by omega]; rfl, by simp, .inl rfl⟩
/-- What is lent, and the state behind it. -/
def LentS (T : TypeId) (p : Option Addr) (r : List UInt8 × St) (w : World) (e : Ending) (W' : World) : Prop :=
  ∃ sv, e = .returned sv ∧ BSl 0 W'.heap.size W' sv r.1 ∧ ObjP T W' p r.2 ∧ w.grownBy W' (p.map (·.block))

set_option maxRecDepth 100000 in
set_option maxHeartbeats 1000000 in
theorem inLend_any {p : Option Addr} {s : St} (k : Nat) (hk : k ≤ 100000) (w : World) (h : ObjP 61 w p s) :
    Calls Try.prog 37 #[.pointer p, .int .i64 (k : Nat)] w (LentS 61 p (takeS s k) w) := by
  by_cases hf : s.2 = 0
  · by_cases hfit : k ≤ s.1.length
    · rw [takeS_ok hf hfit]
      have h' := h
      rcases h with ⟨rfl, rfl⟩ | ⟨B, m, a, n, c, x0, rfl, hb, ⟨rfl, rfl⟩ | ⟨rfl, hx, hok, hsl⟩⟩
      · simp at hf
      · simp at hf
      have hsl0 := hsl
      obtain ⟨a', c', e', hcap, h0⟩ := hsl0
      cases e'
      have HF := Lib.hid hf
      have HX := Lib.hid hx
      clear hf hx
      obtain ⟨-, c1, c2⟩ := hb.c3
      have f1 := hb.frozen 1
      generalize hn : s.1.length = n at *
      have HN := Lib.hid hn
      clear hn
      have hgt : ¬ ((n : Int) < (k : Int)) := by omega
      have hle : (k : Int) ≤ (n : Int) := by omega
      have hle2 : (k : Int) ≤ (c : Int) := by omega
      have hfin : ∀ V, (∃ a' n' c', V = Value.slice a' n' c') → BSl 0 w.heap.size w V (s.1.drop k) → LentS 61 (some ⟨B, 0, none⟩) (s.1.take k, s.1.drop k, 0) w (.returned (.slice a k k)) (w.setCell ⟨B, 1, none⟩ V) := by
        rintro V ⟨a', n', c', rfl⟩ hV
        have G1 := grownBy_setCell4 w B 1 (.slice a' n' c')
        have hno : ∀ r, some B = some r → NoOct w r := fun r e => by cases e; exact noOct3 hb
        refine ⟨_, rfl, ((bsl_take hsl (by rw [HN.out]; exact hfit)).to (Nat.le_refl _) G1 hno).mono (Nat.le_refl _) G1.size, .inr ⟨B, true, a', n', c', x0, rfl, hb.set 1 _, .inr ⟨rfl, HF.out.symm.trans HX.out, ⟨fun k => absurd rfl k, ?_⟩, ((hV.to (Nat.le_refl _) G1 hno).mono (Nat.le_refl _) G1.size)⟩⟩, G1⟩
        have := hok.2
        simp only [List.length_drop]; omega
      have HFIN := Lib.hid hfin
      have HDR := Lib.hid (bsl_drop hsl (k := k) (by rw [HN.out]; exact hfit))
      have HDN := Lib.hid (fun e => bsl_none hsl (k := k) (by rw [HN.out]; exact hfit) e)
      clear hfin
      by_cases hck : c = k
      · subst hck
        go_enter Try.func37, Try.ntmps37
        go_wp2_with (first
          | (go_at_call 22; refine (inLeft_any _ h').mono ?_; rw [HN.out]; rintro e w' ⟨rfl, rfl⟩)
          | (go_at_call 21; refine (inErr_any _ h').mono ?_; rw [HF.out]; rintro e w' ⟨rfl, rfl⟩))
        go_ret
        have := HFIN.out _ ⟨_, _, _, rfl⟩ (HDN.out (by trivial))
        rw [show n - c = 0 by omega, Nat.sub_self] at this
        exact this
      · go_enter Try.func37, Try.ntmps37
        go_wp2_with (first
          | (go_at_call 22; refine (inLeft_any _ h').mono ?_; rw [HN.out]; rintro e w' ⟨rfl, rfl⟩)
          | (go_at_call 21; refine (inErr_any _ h').mono ?_; rw [HF.out]; rintro e w' ⟨rfl, rfl⟩))
        go_ret
        exact HFIN.out _ ⟨_, _, _, rfl⟩ HDR.out
    · rw [takeS_short hf (by omega)]
      have hgt : (s.1.length : Int) < (k : Int) := by omega
      have e5 := Lib.hid (show errS s 16 = ([], 16) from if_pos hf)
      clear hf
      go_enter Try.func37, Try.ntmps37
      go_wp2_with (first
        | (go_at_call 22; refine (inLeft_any _ h).mono ?_; rintro e w' ⟨rfl, rfl⟩)
        | (go_at_call 40; refine (inFail_any _ _ h).mono ?_; rw [e5.out]; rintro e w1 ⟨rfl, hO, hG⟩)
        | (go_at_call 21; refine (inErr_any _ hO).mono ?_; rintro e w' ⟨rfl, rfl⟩))
      go_ret
      exact ⟨_, rfl, BSl.nil _ _ _, hO, hG⟩
  · rw [takeS_bad hf]
    have hs1 := h.ok.1 hf
    have hf1 : (s.2 == 0) = false := by simpa using hf
    have hf2 : (s.2 != 0) = true := by simpa using hf
    have HE := Lib.hid (errS_bad hf 16)
    have HL : Hid ((s.1.length : Nat) = 0) := by rw [hs1]; exact Lib.hid rfl
    clear hs1 hf
    by_cases h0 : k = 0
    · subst h0
      go_enter Try.func37, Try.ntmps37
      go_wp2_with (first
        | (go_at_call 22; refine (inLeft_any _ h).mono ?_; rw [HL.out]; rintro e w' ⟨rfl, rfl⟩)
        | (go_at_call 21; refine (inErr_any _ h).mono ?_; rintro e w' ⟨rfl, rfl⟩))
      go_ret
      exact ⟨_, rfl, BSl.nil _ _ _, h, World.grownBy.refl _ _⟩
    · have hgt : (0 : Int) < (k : Int) := by omega
      go_enter Try.func37, Try.ntmps37
      go_wp2_with (first
        | (go_at_call 22; refine (inLeft_any _ h).mono ?_; rw [HL.out]; rintro e w' ⟨rfl, rfl⟩)
        | (go_at_call 40; refine (inFail_any _ _ h).mono ?_; rw [HE.out]; rintro e w1 ⟨rfl, hO, hG⟩)
        | (go_at_call 21; refine (inErr_any _ hO).mono ?_; rintro e w' ⟨rfl, rfl⟩))
      go_ret
      exact ⟨_, rfl, BSl.nil _ _ _, hO, hG⟩

/-- A number is read, or none; the state behind it. -/
def NumS (T : TypeId) (p : Option Addr) (r : Nat × St) (w : World) (e : Ending) (W' : World) : Prop :=
  e = .returned (.int .i64 (r.1 : Nat)) ∧ ObjP T W' p r.2 ∧ w.grownBy W' (p.map (·.block))
theorem be7_le (l : List UInt8) : be (l.take 7) ≤ 72057594037927935 := by
  have := be_lt' (l := l.take 7) (k := 7) (by rw [List.length_take]; omega)
  omega

set_option maxRecDepth 100000 in
theorem inMost_any {p : Option Addr} {s : St} (size : Nat) (most : Int) (hk : size ≤ 100000) (w : World) (h : ObjP 61 w p s) :
    Calls Try.prog 36 #[.pointer p, .int .i64 (size : Nat), .int .i64 most] w (NumS 61 p (mostS s size most) w) := by
  have hl := takeS_len s size
  have hb7 := be7_le (takeS s size).1
  have he : (takeS s size).2.2 ≠ 0 → be ((takeS s size).1.take 7) = 0 := fun e => by rw [takeS_err e]; rfl
  have H := inLend_any (p := p) size hk w h
  unfold mostS
  generalize takeS s size = r at *
  have HB := Lib.hid (fun sv w1 hs => blobInt_any r.1 sv w1 (by omega) hs)
  generalize be (r.1.take 7) = b at *
  by_cases hlt : most < (b : Int)
  · by_cases hf : r.2.2 = 0
    · rw [if_pos ⟨hf, hlt⟩]
      have e5 := Lib.hid (show errS r.2 4 = ([], 4) from if_pos hf)
      clear hf he
      go_enter Try.func36, Try.ntmps36
      go_wp2_with (first
        | (go_at_call 37; refine H.mono ?_; rintro e w1 ⟨v, rfl, hv, hO1, hG1⟩)
        | (go_at_call 51; refine (HB.out _ _ hv).mono ?_; rintro e w2 ⟨rfl, hb2⟩)
        | (go_at_call 40; refine (inFail_any _ _ (hO1.below hb2)).mono ?_; rw [e5.out]; rintro e w3 ⟨rfl, hO3, hG3⟩))
      go_ret
      exact ⟨rfl, hO3, (hG1.trans (grew hb2 _)).trans hG3⟩
    · rw [if_neg (fun e => hf e.1)]
      obtain rfl := he hf
      have e5 := Lib.hid (errS_bad hf 4)
      clear hf he
      go_enter Try.func36, Try.ntmps36
      go_wp2_with (first
        | (go_at_call 37; refine H.mono ?_; rintro e w1 ⟨v, rfl, hv, hO1, hG1⟩)
        | (go_at_call 51; refine (HB.out _ _ hv).mono ?_; rintro e w2 ⟨rfl, hb2⟩)
        | (go_at_call 40; refine (inFail_any _ _ (hO1.below hb2)).mono ?_; rw [e5.out]; rintro e w3 ⟨rfl, hO3, hG3⟩))
      go_ret
      exact ⟨rfl, hO3, (hG1.trans (grew hb2 _)).trans hG3⟩
  · rw [if_neg (fun e => hlt e.2)]
    clear he
    go_enter Try.func36, Try.ntmps36
    go_wp2_with (first
      | (go_at_call 37; refine H.mono ?_; rintro e w1 ⟨v, rfl, hv, hO1, hG1⟩)
      | (go_at_call 51; refine (HB.out _ _ hv).mono ?_; rintro e w2 ⟨rfl, hb2⟩))
    go_ret
    exact ⟨rfl, hO1.below hb2, hG1.trans (grew hb2 _)⟩

theorem inNumP_any {p : Option Addr} {s : St} (most m : Int) (hm : (1099511627776 < most ∧ m = 1099511627776) ∨ (¬ 1099511627776 < most ∧ m = most)) (w : World) (h : ObjP 61 w p s) :
    Calls Try.prog 16 #[.pointer p, .int .i64 most] w (NumS 61 p (mostS s 6 m) w) := by
  have H : Calls Try.prog 36 #[.pointer p, .int .i64 6, .int .i64 m] w (NumS 61 p (mostS s 6 m) w) := inMost_any (p := p) 6 m (by omega) w h
  rcases hm with ⟨hc, rfl⟩ | ⟨hc, rfl⟩
  all_goals
    go_enter Try.func16, Try.ntmps16
    go_wp2_with (go_at_call 36; refine H.mono ?_; rintro e w1 ⟨rfl, hO1, hG1⟩)
    go_ret
    exact ⟨rfl, hO1, hG1⟩
theorem inNum_any {p : Option Addr} {s : St} (most : Int) (w : World) (h : ObjP 61 w p s) :
    Calls Try.prog 16 #[.pointer p, .int .i64 most] w (NumS 61 p (mostS s 6 (min most 1099511627776)) w) := inNumP_any most _ (by omega) w h

/-- A text is read, or none; the state behind it. -/
def TxtS (T : TypeId) (p : Option Addr) (r : List UInt8 × St) (w : World) (e : Ending) (W' : World) : Prop :=
  e = .returned (.string ⟨r.1.toArray⟩) ∧ ObjP T W' p r.2 ∧ w.grownBy W' (p.map (·.block))
theorem be2_le (l : List UInt8) (h : l.length ≤ 2) : be (l.take 7) ≤ 65535 := by
  have := be_lt' (l := l.take 7) (k := 2) (by rw [List.length_take]; omega)
  omega
theorem most2_le (s : St) (m : Int) : (mostS s 2 m).1 ≤ 65535 := by
  unfold mostS; split
  · simp
  · exact be2_le _ (takeS_len _ _)
theorem inTextP_any {p : Option Addr} {s : St} (most m : Int) (hm : (1024 < most ∧ m = 1024) ∨ (¬ 1024 < most ∧ m = most)) (w : World) (h : ObjP 61 w p s) :
    Calls Try.prog 18 #[.pointer p, .int .i64 most] w (TxtS 61 p (gtxtS s m) w) := by
  have H : Calls Try.prog 36 #[.pointer p, .int .i64 2, .int .i64 m] w (NumS 61 p (mostS s 2 m) w) := inMost_any (p := p) 2 m (by omega) w h
  have h6 := most2_le s m
  unfold gtxtS
  generalize mostS s 2 m = r at *
  rcases hm with ⟨hc, rfl⟩ | ⟨hc, rfl⟩
  all_goals
    go_enter Try.func18, Try.ntmps18
    go_wp2_with (first
      | (go_at_call 36; refine H.mono ?_; rintro e w1 ⟨rfl, hO1, hG1⟩)
      | (go_at_call 37; refine (inLend_any r.1 (by omega) w1 hO1).mono ?_; rintro e w2 ⟨v, rfl, hv, hO2, hG2⟩; have hst := run_string (P := Try.prog) 23 5 9 Try.underlying23 Try.underlying5 Try.underlying9 w2 hv))
    go_ret
    exact ⟨rfl, hO2, hG1.trans hG2⟩
theorem inText_any {p : Option Addr} {s : St} (most : Int) (w : World) (h : ObjP 61 w p s) :
    Calls Try.prog 18 #[.pointer p, .int .i64 most] w (TxtS 61 p (gtxtS s (min most 1024)) w) := inTextP_any most _ (by omega) w h

/-- Word i of 32 octets; 0, if there are not so many. -/
def wdS (l : List UInt8) (i : Nat) : Nat := if l.length = 32 then uwd l 32 i else 0
/-- A wide number is read, or none. -/
def WidS (T : TypeId) (p : Option Addr) (r : List UInt8 × St) (w : World) (e : Ending) (W' : World) : Prop :=
  e = .returned (wv (wdS r.1 0) (wdS r.1 1) (wdS r.1 2) (wdS r.1 3)) ∧ ObjP T W' p r.2 ∧ w.grownBy W' (p.map (·.block))
theorem unwideS_any (l : List UInt8) (sv : Value) (w : World) (hsv : BSl 0 w.heap.size w sv l) :
    Calls Try.prog 39 #[sv] w fun e W' => e = .returned (.tuple #[wv (wdS l 0) (wdS l 1) (wdS l 2) (wdS l 3), .bool (decide (l.length = 32))]) ∧ Below w.heap.size w W' := by
  refine (unwide_any l sv w hsv).mono ?_
  rintro e W' (⟨h, he, hb⟩ | ⟨h, he, hb⟩)
  · exact ⟨by rw [he]; unfold wdS; simp only [h, if_true, decide_true], hb⟩
  · exact ⟨by rw [he]; unfold wdS; simp only [h, if_false, decide_false], hb⟩
theorem ptr_lt {T : TypeId} {W : World} {p : Option Addr} {s : St} (h : ObjP T W p s) {n : Nat} (hn : W.heap.size ≤ n) : some n ≠ p.map (·.block) := by
  rcases h with ⟨rfl, _⟩ | ⟨B, m, a, n', c, x, rfl, hb, _⟩
  · simp
  · intro e
    have := hb.lt
    have : n = B := by simpa using e
    omega
theorem noOct4 {W : World} {B : Nat} {T : TypeId} {b0 b1 b2 b3 : Int} (h : Blk W B T [.int .u64 b0, .int .u64 b1, .int .u64 b2, .int .u64 b3]) : NoOct W B := noOct_blk h (by
  intro v hv y
  simp only [List.mem_cons, List.not_mem_nil, or_false] at hv
  rcases hv with rfl | rfl | rfl | rfl <;> simp [bv])
/-- Words are stored into a block of the call's own. -/
theorem wide_stored {T Tw : TypeId} {p : Option Addr} {s : St} {w w0 w1 w2 : World} {a0 a1 a2 a3 : Int} {b0 b1 b2 b3 : Int} (hO : ObjP T w1 p s) (hG0 : w.grownBy w0 (p.map (·.block))) (hG1 : w0.grownBy w1 (p.map (·.block))) (hb2 : Below w1.heap.size w1 w2) (o : Obj)
    (kR : Blk w2 w.heap.size Tw [.int .u64 b0, .int .u64 b1, .int .u64 b2, .int .u64 b3]) (hne : some w.heap.size ≠ p.map (·.block)) :
    Blk (((((w2.alloc o).setCell ⟨w.heap.size, 0, none⟩ (.int .u64 a0)).setCell ⟨w.heap.size, 1, none⟩ (.int .u64 a1)).setCell ⟨w.heap.size, 2, none⟩ (.int .u64 a2)).setCell ⟨w.heap.size, 3, none⟩ (.int .u64 a3)) w.heap.size Tw [.int .u64 a0, .int .u64 a1, .int .u64 a2, .int .u64 a3] ∧
    ObjP T (((((w2.alloc o).setCell ⟨w.heap.size, 0, none⟩ (.int .u64 a0)).setCell ⟨w.heap.size, 1, none⟩ (.int .u64 a1)).setCell ⟨w.heap.size, 2, none⟩ (.int .u64 a2)).setCell ⟨w.heap.size, 3, none⟩ (.int .u64 a3)) p s ∧
    w.grownBy (((((w2.alloc o).setCell ⟨w.heap.size, 0, none⟩ (.int .u64 a0)).setCell ⟨w.heap.size, 1, none⟩ (.int .u64 a1)).setCell ⟨w.heap.size, 2, none⟩ (.int .u64 a2)).setCell ⟨w.heap.size, 3, none⟩ (.int .u64 a3)) (p.map (·.block)) := by
  have k0 := kR.alloc o
  have k1 := k0.set 0 (.int .u64 a0)
  have k2 := k1.set 1 (.int .u64 a1)
  have k3 := k2.set 2 (.int .u64 a2)
  have k4 := k3.set 3 (.int .u64 a3)
  have O0 : ObjP T (w2.alloc o) p s := (hO.below hb2).below (chain0 _ _)
  have st : ∀ (W : World) (i : Nat) (v : Value), NoOct W w.heap.size → ObjP T W p s → ObjP T (W.setCell ⟨w.heap.size, i, none⟩ v) p s := fun W i v hno h => h.to (grownBy_setCell4 W w.heap.size i v) (fun r e => by cases e; exact ⟨hno, fun e => hne e.symm⟩)
  have O1 := st _ 0 (.int .u64 a0) (noOct4 k0) O0
  have O2 := st _ 1 (.int .u64 a1) (noOct4 k1) O1
  have O3 := st _ 2 (.int .u64 a2) (noOct4 k2) O2
  have O4 := st _ 3 (.int .u64 a3) (noOct4 k3) O3
  have G0 : w.grownBy (w2.alloc o) (p.map (·.block)) := ((hG0.trans hG1).trans (grew hb2 _)).trans (World.grownBy_alloc _ _ _)
  have sg : ∀ (W : World) (i : Nat) (v : Value), w.grownBy W (p.map (·.block)) → w.grownBy (W.setCell ⟨w.heap.size, i, none⟩ v) (p.map (·.block)) := fun W i v h => h.andThen (grownBy_setCell4 W w.heap.size i v) (fun j e => by cases e; exact .inl (Nat.le_refl _))
  exact ⟨k4, O4, sg _ _ _ (sg _ _ _ (sg _ _ _ (sg _ _ _ G0)))⟩
set_option maxRecDepth 100000 in
set_option maxHeartbeats 1000000 in
theorem inWide_any {p : Option Addr} {s : St} (w : World) (h : ObjP 61 w p s) :
    Calls Try.prog 20 #[.pointer p] w (WidS 61 p (takeS s 32) w) := by
  have hne := ptr_lt h (Nat.le_refl _)
  have hO0 := h.below (chain0 w (.cells #[.int .u64 0, .int .u64 0, .int .u64 0, .int .u64 0] 40))
  have kR0 : Blk (w.alloc (.cells #[.int .u64 0, .int .u64 0, .int .u64 0, .int .u64 0] 40)) w.heap.size 40 [.int .u64 0, .int .u64 0, .int .u64 0, .int .u64 0] := Blk.new w _ [_, _, _, _]
  have hG0 : w.grownBy (w.alloc (.cells #[.int .u64 0, .int .u64 0, .int .u64 0, .int .u64 0] 40)) (p.map (·.block)) := World.grownBy_alloc _ _ _
  have H := inLend_any (p := p) 32 (by omega) _ hO0
  generalize takeS s 32 = r at *
  have HU := Lib.hid (fun sv w1 hs => unwideS_any r.1 sv w1 hs)
  have HN := Lib.hid hne
  clear h hO0 hne
  generalize hq0 : wdS r.1 0 = a0 at *
  have HQ0 := Lib.hid hq0
  clear hq0
  generalize hq1 : wdS r.1 1 = a1 at *
  have HQ1 := Lib.hid hq1
  clear hq1
  generalize hq2 : wdS r.1 2 = a2 at *
  have HQ2 := Lib.hid hq2
  clear hq2
  generalize hq3 : wdS r.1 3 = a3 at *
  have HQ3 := Lib.hid hq3
  clear hq3
  generalize (decide (r.1.length = 32)) = bb at *
  go_enter Try.func20, Try.ntmps20
  go_wp2_with (first
    | (go_at_call 37; refine H.mono ?_; rintro e w1 ⟨v, rfl, hv, hO1, hG1⟩)
    | (go_at_call 39; refine (HU.out _ _ hv).mono ?_; rintro e w2 ⟨rfl, hb2⟩; have kR2 := (kR0.kept hG1 HN.out).below hb2 (kR0.kept hG1 HN.out).lt; have r0 := fun o => (Blk.c4 (kR2.alloc o)).1; have r1 := fun o => (Blk.c4 (kR2.alloc o)).2.1; have r2 := fun o => (Blk.c4 (kR2.alloc o)).2.2.1; have r3 := fun o => (Blk.c4 (kR2.alloc o)).2.2.2; have g0 := fun o => (kR2.alloc o).frozen 0; have g1 := fun o => (kR2.alloc o).frozen 1; have g2 := fun o => (kR2.alloc o).frozen 2; have g3 := fun o => (kR2.alloc o).frozen 3))
  obtain ⟨kR3, hO3, hG3⟩ := wide_stored (p := p) hO1 hG0 hG1 hb2 (.cells #[.int .u64 a0, .int .u64 a1, .int .u64 a2, .int .u64 a3] 40) kR2 HN.out (a0 := a0) (a1 := a1) (a2 := a2) (a3 := a3)
  obtain ⟨q0, q1, q2, q3⟩ := Blk.c4 kR3
  exact bodyPost_ret (v := wv a0 a1 a2 a3) (by simp [results, Try.results20, go_sem, q0, q1, q2, q3]) rfl ⟨by rw [HQ0.out, HQ1.out, HQ2.out, HQ3.out], hO3, hG3⟩

/-- An In of octets. -/
def openS (l : List UInt8) : St := if l.length ≤ 8192 then (l, 0) else ([], 5)
theorem openS_ok (l : List UInt8) : OkS (openS l) := by
  unfold openS; split
  · exact ⟨fun k => absurd rfl k, by simpa using ‹_›⟩
  · exact ⟨fun _ => rfl, by simp⟩
theorem inOpen_any (l : List UInt8) (sv : Value) (w : World) (hl : l.length ≤ 140737488351232) (hsv : BSl 0 w.heap.size w sv l) :
    Calls Try.prog 12 #[sv] w fun e W' => ∃ NB, e = .returned (.pointer (some ⟨NB, 0, none⟩)) ∧ w.heap.size ≤ NB ∧ ObjP 61 W' (some ⟨NB, 0, none⟩) (openS l) ∧ Below w.heap.size w W' := by
  obtain ⟨a, c, rfl, -⟩ := hsv.shape
  have HOK := openS_ok l
  unfold openS at *
  generalize hn : l.length = n at *
  have HN := Lib.hid hn
  clear hn
  by_cases hfit : n ≤ 8192
  · rw [if_pos hfit] at *
    have hgt : ¬ (8192 : Int) < (n : Int) := by omega
    go_enter Try.func12, Try.ntmps12
    go_wp2_with (go_at_call 33; refine (clone_any l _ w (by rw [HN.out]; omega) hsv (Nat.le_refl _)).mono ?_; rintro e w1 ⟨v, rfl, hv, hb1⟩; obtain ⟨va, vm, vc, rfl⟩ := (BSl.of_own hv).shape3)
    go_ret
    have hB := chainA hb1 (.cells #[.bool true, .slice va vm vc, .int .i64 0] 61)
    have hB1 := chain0 w1 (.cells #[.bool true, .slice va vm vc, .int .i64 0] 61)
    exact ⟨w1.heap.size, rfl, hb1.size, .inr ⟨_, true, va, vm, vc, 0, rfl, Blk.new w1 _ [_, _, _], .inr ⟨rfl, rfl, HOK, (((BSl.of_own hv).below hB1 (Nat.le_refl _)).mono (Nat.zero_le _) hB1.size)⟩⟩, hB⟩
  · rw [if_neg hfit] at *
    have hgt : (8192 : Int) < (n : Int) := by omega
    go_enter Try.func12, Try.ntmps12
    go_wp2
    go_ret
    exact ⟨w.heap.size, rfl, Nat.le_refl _, .inr ⟨_, true, none, 0, 0, 5, rfl, Blk.new w _ [_, _, _], .inr ⟨rfl, rfl, HOK, BSl.nil _ _ _⟩⟩, chain0 _ _⟩
end Go.Proofs.Ytjhfchjffiliaaa
