/-
  field.In: how it reads.
  A message as a plain thing; whether it may be; what is put of it, and read, as states of octets; what is left of it.
  The words of a wide number's 32 octets.
  What is written of one field is read again: plain functions, for any field.
  What is put of fields, and read again.
  What is put of an ask that may be, and read again.
  '==' and '!=' of two wide numbers are those of their words.
  An element of an array by value.
  Which transfers and sides' data may be: deal's Check and Sound.
  The cells of a block that is known whole.
  blob.Num hands back a row of its own.
  A range over a function whose body never leaves, where the iterator has a loop over an iterator of its own.
-/
import Derived.Maps.Range
import Derived.Outline
import Derived.Laws.StructEq
import Derived.WalkSpells
import Derived.Laws.CopyOwn
import Derived.Great.BuildSlice
import Derived.RangeFuncNested
import Derived.RangeFuncCalls
import Derived.RangeFuncIn
import Derived.WalkKit
import Derived.Test.YtigdenlnnnfjlaaProg
import Derived.Test.YtigdenlnnnfjlaaK02
namespace Go.Proofs.Ytigdenlnnnfjlaa
open Go.RowKit Go.Shelf

theorem err_nil (w : World) :
    Calls Try.prog 33 #[.pointer none] w fun e W' => e = .returned (.int .i64 9) ∧ w = W' := by
  go_enter Try.func33, Try.ntmps33
  go_wp2
  go_ret
  exact ⟨rfl, rfl⟩
theorem err_at {B : Nat} {m : Bool} {sv : Value} {x : Int} (w : World) (h : Blk w B 106 [.bool m, sv, .int .i64 x]) :
    Calls Try.prog 33 #[.pointer (some ⟨B, 0, none⟩)] w fun e W' => e = .returned (.int .i64 (if m then x else 9)) ∧ w = W' := by
  obtain ⟨c0, -, c2⟩ := h.c3
  cases m
  all_goals
    go_enter Try.func33, Try.ntmps33
    go_wp2
    go_ret
    exact ⟨rfl, rfl⟩
theorem inErr_any {p : Option Addr} {s : St} (w : World) (h : ObjP 106 w p s) :
    Calls Try.prog 33 #[.pointer p] w fun e W' => e = .returned (.int .i64 s.2) ∧ w = W' := by
  rcases h with ⟨rfl, rfl⟩ | ⟨B, m, a, n, c, x, rfl, hb, ⟨rfl, rfl⟩ | ⟨rfl, rfl, _, _⟩⟩
  · exact err_nil w
  · exact err_at w hb
  · exact err_at w hb

theorem inFail_any {p : Option Addr} {s : St} (x : Int) (w : World) (h : ObjP 106 w p s) :
    Calls Try.prog 66 #[.pointer p, .int .i64 x] w (DidS 106 p (errS s x) w) := by
  by_cases hf : s.2 = 0
  · have h' := h
    rcases h with ⟨rfl, rfl⟩ | ⟨B, m, a, n, c, x0, rfl, hb, ⟨rfl, rfl⟩ | ⟨rfl, hx, hok, hsl⟩⟩
    · simp at hf
    · simp at hf
    have e1 : errS s x = ([], x) := if_pos hf
    rw [e1]
    clear e1
    have HF := Lib.hid hf
    have HX := Lib.hid hx
    clear hf hx
    obtain ⟨-, c1, c2⟩ := hb.c3
    have f1 := hb.frozen 1
    have f2 := hb.frozen 2
    go_enter Try.func66, Try.ntmps66
    go_wp2_with (go_at_call 33; refine (inErr_any _ h').mono ?_; rw [HF.out]; rintro e w' ⟨rfl, rfl⟩)
    go_end0
    refine ⟨rfl, .inr ⟨B, true, none, 0, 0, x, rfl, ?_, .inr ⟨rfl, rfl, ⟨fun _ => rfl, by simp⟩, BSl.nil _ _ _⟩⟩, ?_⟩
    · exact (hb.set 1 (.slice none 0 0)).set 2 (.int .i64 x)
    · exact (grownBy_setCell4 w B 1 _).trans (grownBy_setCell4 _ B 2 _)
  · rw [errS_bad hf]
    have hf1 : (s.2 == 0) = false := by simpa using hf
    go_enter Try.func66, Try.ntmps66
    go_wp2_with (go_at_call 33; refine (inErr_any _ h).mono ?_; rintro e w' ⟨rfl, rfl⟩)
    go_end0
    exact ⟨rfl, h, World.grownBy.refl _ _⟩
theorem inSpoil_any {p : Option Addr} {s : St} (w : World) (h : ObjP 106 w p s) :
    Calls Try.prog 32 #[.pointer p] w (DidS 106 p (errS s 16) w) := by
  go_enter Try.func32, Try.ntmps32
  go_wp2_with (go_at_call 66; refine (inFail_any _ _ h).mono ?_; rintro e w' ⟨rfl, hO, hG⟩)
  go_end0
  exact ⟨rfl, hO, hG⟩

theorem inLeft_any {p : Option Addr} {s : St} (w : World) (h : ObjP 106 w p s) :
    Calls Try.prog 31 #[.pointer p] w fun e W' => e = .returned (.int .i64 (s.1.length : Nat)) ∧ w = W' := by
  by_cases hf : s.2 = 0
  · have h' := h
    rcases h with ⟨rfl, rfl⟩ | ⟨B, m, a, n, c, x0, rfl, hb, ⟨rfl, rfl⟩ | ⟨rfl, hx, hok, hsl⟩⟩
    · simp at hf
    · simp at hf
    have hsl0 := hsl
    obtain ⟨a', c', e', _, _⟩ := hsl0
    cases e'
    have HF := Lib.hid hf
    have HX := Lib.hid hx
    clear hf hx
    obtain ⟨-, c1, c2⟩ := hb.c3
    generalize s.1.length = n at *
    go_enter Try.func31, Try.ntmps31
    go_wp2_with (go_at_call 33; refine (inErr_any _ h').mono ?_; rw [HF.out]; rintro e w' ⟨rfl, rfl⟩)
    go_ret
    exact ⟨rfl, rfl⟩
  · have hs1 := h.ok.1 hf
    have hf1 : (s.2 == 0) = false := by simpa using hf
    have hf2 : (s.2 != 0) = true := by simpa using hf
    have HS := Lib.hid hs1
    clear hs1
    go_enter Try.func31, Try.ntmps31
    go_wp2_with (go_at_call 33; refine (inErr_any _ h).mono ?_; rintro e w' ⟨rfl, rfl⟩)
    go_ret
    exact ⟨by rw [HS.out]; rfl, rfl⟩

theorem bsl_take {lo hi : Nat} {W : World} {a : Option Addr} {n c : Nat} {l : List UInt8} (h : BSl lo hi W (.slice a n c) l) {k : Nat} (hk : k ≤ l.length) : BSl lo hi W (.slice a k k) (l.take k) := by
  obtain ⟨a', c', e, hc, h0⟩ := h
  cases e
  refine ⟨a, k, by rw [List.length_take, Nat.min_eq_left hk], by rw [List.length_take]; omega, ?_⟩
  rcases h0 with rfl | ⟨b, off, ha, hl, hh, ho⟩
  · exact .inl (by simp)
  · refine .inr ⟨b, off, ha, hl, hh, fun i x hx => ho i x ?_⟩
    have hi : i < k := by have := (List.getElem?_eq_some_iff.1 hx).1; rw [List.length_take] at this; omega
    rwa [List.getElem?_take_of_lt hi] at hx
theorem bsl_drop {lo hi : Nat} {W : World} {a : Option Addr} {n c : Nat} {l : List UInt8} (h : BSl lo hi W (.slice a n c) l) {k : Nat} (hk : k ≤ l.length) : BSl lo hi W (.slice (a.map fun x => x.add k) (n - k) (c - k)) (l.drop k) := by
  obtain ⟨a', c', e, hc, h0⟩ := h
  cases e
  refine ⟨_, _, by rw [List.length_drop], by rw [List.length_drop]; omega, ?_⟩
  rcases h0 with rfl | ⟨b, off, rfl, hl, hh, ho⟩
  · exact .inl (by simp)
  · have hp : (⟨b, off, none⟩ : Addr).add k = ⟨b, off + k, none⟩ := by cases k <;> simp [Addr.add]
    refine .inr ⟨b, off + k, by simp [hp], hl, hh, fun i x hx => ?_⟩
    rw [List.getElem?_drop] at hx
    have := ho _ x hx
    rwa [← Nat.add_assoc] at this
theorem bsl_none {lo hi : Nat} {W : World} {a : Option Addr} {n c : Nat} {l : List UInt8} (h : BSl lo hi W (.slice a n c) l) {k : Nat} (hk : k ≤ l.length) (hck : c = k) : BSl lo hi W (.slice a (n - k) (c - k)) (l.drop k) := by
  obtain ⟨a', c', e, hc, h0⟩ := h
  cases e
  have e : l.drop k = [] := List.drop_of_length_le (by omega)
  rw [e]
  exact ⟨_, _, by rw [show l.length - k = 0 by omega]; rfl, by simp, .inl rfl⟩
/-- What is lent, and the state behind it. -/
def LentS (T : TypeId) (p : Option Addr) (r : List UInt8 × St) (w : World) (e : Ending) (W' : World) : Prop :=
  ∃ sv, e = .returned sv ∧ BSl 0 W'.heap.size W' sv r.1 ∧ ObjP T W' p r.2 ∧ w.grownBy W' (p.map (·.block))

set_option maxRecDepth 100000 in
set_option maxHeartbeats 1000000 in
theorem inLend_any {p : Option Addr} {s : St} (k : Nat) (hk : k ≤ 100000) (w : World) (h : ObjP 106 w p s) :
    Calls Try.prog 85 #[.pointer p, .int .i64 (k : Nat)] w (LentS 106 p (takeS s k) w) := by
  by_cases hf : s.2 = 0
  · by_cases hfit : k ≤ s.1.length
    · rw [takeS_ok hf hfit]
      have h' := h
      rcases h with ⟨rfl, rfl⟩ | ⟨B, m, a, n, c, x0, rfl, hb, ⟨rfl, rfl⟩ | ⟨rfl, hx, hok, hsl⟩⟩
      · simp at hf
      · simp at hf
      have hsl0 := hsl
      obtain ⟨a', c', e', hcap, h0⟩ := hsl0
      cases e'
      have HF := Lib.hid hf
      have HX := Lib.hid hx
      clear hf hx
      obtain ⟨-, c1, c2⟩ := hb.c3
      have f1 := hb.frozen 1
      generalize hn : s.1.length = n at *
      have HN := Lib.hid hn
      clear hn
      have hgt : ¬ ((n : Int) < (k : Int)) := by omega
      have hle : (k : Int) ≤ (n : Int) := by omega
      have hle2 : (k : Int) ≤ (c : Int) := by omega
      have hfin : ∀ V, (∃ a' n' c', V = Value.slice a' n' c') → BSl 0 w.heap.size w V (s.1.drop k) → LentS 106 (some ⟨B, 0, none⟩) (s.1.take k, s.1.drop k, 0) w (.returned (.slice a k k)) (w.setCell ⟨B, 1, none⟩ V) := by
        rintro V ⟨a', n', c', rfl⟩ hV
        have G1 := grownBy_setCell4 w B 1 (.slice a' n' c')
        have hno : ∀ r, some B = some r → NoOct w r := fun r e => by cases e; exact noOct3 hb
        refine ⟨_, rfl, ((bsl_take hsl (by rw [HN.out]; exact hfit)).to (Nat.le_refl _) G1 hno).mono (Nat.le_refl _) G1.size, .inr ⟨B, true, a', n', c', x0, rfl, hb.set 1 _, .inr ⟨rfl, HF.out.symm.trans HX.out, ⟨fun k => absurd rfl k, ?_⟩, ((hV.to (Nat.le_refl _) G1 hno).mono (Nat.le_refl _) G1.size)⟩⟩, G1⟩
        have := hok.2
        simp only [List.length_drop]; omega
      have HFIN := Lib.hid hfin
      have HDR := Lib.hid (bsl_drop hsl (k := k) (by rw [HN.out]; exact hfit))
      have HDN := Lib.hid (fun e => bsl_none hsl (k := k) (by rw [HN.out]; exact hfit) e)
      clear hfin
      by_cases hck : c = k
      · subst hck
        go_enter Try.func85, Try.ntmps85
        go_wp2_with (first
          | (go_at_call 31; refine (inLeft_any _ h').mono ?_; rw [HN.out]; rintro e w' ⟨rfl, rfl⟩)
          | (go_at_call 33; refine (inErr_any _ h').mono ?_; rw [HF.out]; rintro e w' ⟨rfl, rfl⟩))
        go_ret
        have := HFIN.out _ ⟨_, _, _, rfl⟩ (HDN.out (by trivial))
        rw [show n - c = 0 by omega, Nat.sub_self] at this
        exact this
      · go_enter Try.func85, Try.ntmps85
        go_wp2_with (first
          | (go_at_call 31; refine (inLeft_any _ h').mono ?_; rw [HN.out]; rintro e w' ⟨rfl, rfl⟩)
          | (go_at_call 33; refine (inErr_any _ h').mono ?_; rw [HF.out]; rintro e w' ⟨rfl, rfl⟩))
        go_ret
        exact HFIN.out _ ⟨_, _, _, rfl⟩ HDR.out
    · rw [takeS_short hf (by omega)]
      have hgt : (s.1.length : Int) < (k : Int) := by omega
      have e5 := Lib.hid (show errS s 16 = ([], 16) from if_pos hf)
      clear hf
      go_enter Try.func85, Try.ntmps85
      go_wp2_with (first
        | (go_at_call 31; refine (inLeft_any _ h).mono ?_; rintro e w' ⟨rfl, rfl⟩)
        | (go_at_call 66; refine (inFail_any _ _ h).mono ?_; rw [e5.out]; rintro e w1 ⟨rfl, hO, hG⟩)
        | (go_at_call 33; refine (inErr_any _ hO).mono ?_; rintro e w' ⟨rfl, rfl⟩))
      go_ret
      exact ⟨_, rfl, BSl.nil _ _ _, hO, hG⟩
  · rw [takeS_bad hf]
    have hs1 := h.ok.1 hf
    have hf1 : (s.2 == 0) = false := by simpa using hf
    have hf2 : (s.2 != 0) = true := by simpa using hf
    have HE := Lib.hid (errS_bad hf 16)
    have HL : Hid ((s.1.length : Nat) = 0) := by rw [hs1]; exact Lib.hid rfl
    clear hs1 hf
    by_cases h0 : k = 0
    · subst h0
      go_enter Try.func85, Try.ntmps85
      go_wp2_with (first
        | (go_at_call 31; refine (inLeft_any _ h).mono ?_; rw [HL.out]; rintro e w' ⟨rfl, rfl⟩)
        | (go_at_call 33; refine (inErr_any _ h).mono ?_; rintro e w' ⟨rfl, rfl⟩))
      go_ret
      exact ⟨_, rfl, BSl.nil _ _ _, h, World.grownBy.refl _ _⟩
    · have hgt : (0 : Int) < (k : Int) := by omega
      go_enter Try.func85, Try.ntmps85
      go_wp2_with (first
        | (go_at_call 31; refine (inLeft_any _ h).mono ?_; rw [HL.out]; rintro e w' ⟨rfl, rfl⟩)
        | (go_at_call 66; refine (inFail_any _ _ h).mono ?_; rw [HE.out]; rintro e w1 ⟨rfl, hO, hG⟩)
        | (go_at_call 33; refine (inErr_any _ hO).mono ?_; rintro e w' ⟨rfl, rfl⟩))
      go_ret
      exact ⟨_, rfl, BSl.nil _ _ _, hO, hG⟩

/-- A number is read, or none; the state behind it. -/
def NumS (T : TypeId) (p : Option Addr) (r : Nat × St) (w : World) (e : Ending) (W' : World) : Prop :=
  e = .returned (.int .i64 (r.1 : Nat)) ∧ ObjP T W' p r.2 ∧ w.grownBy W' (p.map (·.block))
theorem be7_le (l : List UInt8) : be (l.take 7) ≤ 72057594037927935 := by
  have := be_lt' (l := l.take 7) (k := 7) (by rw [List.length_take]; omega)
  omega

set_option maxRecDepth 100000 in
theorem inMost_any {p : Option Addr} {s : St} (size : Nat) (most : Int) (hk : size ≤ 100000) (w : World) (h : ObjP 106 w p s) :
    Calls Try.prog 83 #[.pointer p, .int .i64 (size : Nat), .int .i64 most] w (NumS 106 p (mostS s size most) w) := by
  have hl := takeS_len s size
  have hb7 := be7_le (takeS s size).1
  have he : (takeS s size).2.2 ≠ 0 → be ((takeS s size).1.take 7) = 0 := fun e => by rw [takeS_err e]; rfl
  have H := inLend_any (p := p) size hk w h
  unfold mostS
  generalize takeS s size = r at *
  have HB := Lib.hid (fun sv w1 hs => blobInt_any r.1 sv w1 (by omega) hs)
  generalize be (r.1.take 7) = b at *
  by_cases hlt : most < (b : Int)
  · by_cases hf : r.2.2 = 0
    · rw [if_pos ⟨hf, hlt⟩]
      have e5 := Lib.hid (show errS r.2 4 = ([], 4) from if_pos hf)
      clear hf he
      go_enter Try.func83, Try.ntmps83
      go_wp2_with (first
        | (go_at_call 85; refine H.mono ?_; rintro e w1 ⟨v, rfl, hv, hO1, hG1⟩)
        | (go_at_call 94; refine (HB.out _ _ hv).mono ?_; rintro e w2 ⟨rfl, hb2⟩)
        | (go_at_call 66; refine (inFail_any _ _ (hO1.below hb2)).mono ?_; rw [e5.out]; rintro e w3 ⟨rfl, hO3, hG3⟩))
      go_ret
      exact ⟨rfl, hO3, (hG1.trans (grew hb2 _)).trans hG3⟩
    · rw [if_neg (fun e => hf e.1)]
      obtain rfl := he hf
      have e5 := Lib.hid (errS_bad hf 4)
      clear hf he
      go_enter Try.func83, Try.ntmps83
      go_wp2_with (first
        | (go_at_call 85; refine H.mono ?_; rintro e w1 ⟨v, rfl, hv, hO1, hG1⟩)
        | (go_at_call 94; refine (HB.out _ _ hv).mono ?_; rintro e w2 ⟨rfl, hb2⟩)
        | (go_at_call 66; refine (inFail_any _ _ (hO1.below hb2)).mono ?_; rw [e5.out]; rintro e w3 ⟨rfl, hO3, hG3⟩))
      go_ret
      exact ⟨rfl, hO3, (hG1.trans (grew hb2 _)).trans hG3⟩
  · rw [if_neg (fun e => hlt e.2)]
    clear he
    go_enter Try.func83, Try.ntmps83
    go_wp2_with (first
      | (go_at_call 85; refine H.mono ?_; rintro e w1 ⟨v, rfl, hv, hO1, hG1⟩)
      | (go_at_call 94; refine (HB.out _ _ hv).mono ?_; rintro e w2 ⟨rfl, hb2⟩))
    go_ret
    exact ⟨rfl, hO1.below hb2, hG1.trans (grew hb2 _)⟩

theorem inNumP_any {p : Option Addr} {s : St} (most m : Int) (hm : (1099511627776 < most ∧ m = 1099511627776) ∨ (¬ 1099511627776 < most ∧ m = most)) (w : World) (h : ObjP 106 w p s) :
    Calls Try.prog 59 #[.pointer p, .int .i64 most] w (NumS 106 p (mostS s 6 m) w) := by
  have H : Calls Try.prog 83 #[.pointer p, .int .i64 6, .int .i64 m] w (NumS 106 p (mostS s 6 m) w) := inMost_any (p := p) 6 m (by omega) w h
  rcases hm with ⟨hc, rfl⟩ | ⟨hc, rfl⟩
  all_goals
    go_enter Try.func59, Try.ntmps59
    go_wp2_with (go_at_call 83; refine H.mono ?_; rintro e w1 ⟨rfl, hO1, hG1⟩)
    go_ret
    exact ⟨rfl, hO1, hG1⟩
theorem inNum_any {p : Option Addr} {s : St} (most : Int) (w : World) (h : ObjP 106 w p s) :
    Calls Try.prog 59 #[.pointer p, .int .i64 most] w (NumS 106 p (mostS s 6 (min most 1099511627776)) w) := inNumP_any most _ (by omega) w h

/-- A text is read, or none; the state behind it. -/
def TxtS (T : TypeId) (p : Option Addr) (r : List UInt8 × St) (w : World) (e : Ending) (W' : World) : Prop :=
  e = .returned (.string ⟨r.1.toArray⟩) ∧ ObjP T W' p r.2 ∧ w.grownBy W' (p.map (·.block))
theorem be2_le (l : List UInt8) (h : l.length ≤ 2) : be (l.take 7) ≤ 65535 := by
  have := be_lt' (l := l.take 7) (k := 2) (by rw [List.length_take]; omega)
  omega
theorem most2_le (s : St) (m : Int) : (mostS s 2 m).1 ≤ 65535 := by
  unfold mostS; split
  · simp
  · exact be2_le _ (takeS_len _ _)
theorem inTextP_any {p : Option Addr} {s : St} (most m : Int) (hm : (1024 < most ∧ m = 1024) ∨ (¬ 1024 < most ∧ m = most)) (w : World) (h : ObjP 106 w p s) :
    Calls Try.prog 65 #[.pointer p, .int .i64 most] w (TxtS 106 p (gtxtS s m) w) := by
  have H : Calls Try.prog 83 #[.pointer p, .int .i64 2, .int .i64 m] w (NumS 106 p (mostS s 2 m) w) := inMost_any (p := p) 2 m (by omega) w h
  have h6 := most2_le s m
  unfold gtxtS
  generalize mostS s 2 m = r at *
  rcases hm with ⟨hc, rfl⟩ | ⟨hc, rfl⟩
  all_goals
    go_enter Try.func65, Try.ntmps65
    go_wp2_with (first
      | (go_at_call 83; refine H.mono ?_; rintro e w1 ⟨rfl, hO1, hG1⟩)
      | (go_at_call 85; refine (inLend_any r.1 (by omega) w1 hO1).mono ?_; rintro e w2 ⟨v, rfl, hv, hO2, hG2⟩; have hst := run_string (P := Try.prog) 35 5 9 Try.underlying35 Try.underlying5 Try.underlying9 w2 hv))
    go_ret
    exact ⟨rfl, hO2, hG1.trans hG2⟩
theorem inText_any {p : Option Addr} {s : St} (most : Int) (w : World) (h : ObjP 106 w p s) :
    Calls Try.prog 65 #[.pointer p, .int .i64 most] w (TxtS 106 p (gtxtS s (min most 1024)) w) := inTextP_any most _ (by omega) w h

/-- A wide number is read, or none. -/
def WidS (T : TypeId) (p : Option Addr) (r : List UInt8 × St) (w : World) (e : Ending) (W' : World) : Prop :=
  e = .returned (wv (wdS r.1 0) (wdS r.1 1) (wdS r.1 2) (wdS r.1 3)) ∧ ObjP T W' p r.2 ∧ w.grownBy W' (p.map (·.block))
theorem unwideS_any (l : List UInt8) (sv : Value) (w : World) (hsv : BSl 0 w.heap.size w sv l) :
    Calls Try.prog 84 #[sv] w fun e W' => e = .returned (.tuple #[wv (wdS l 0) (wdS l 1) (wdS l 2) (wdS l 3), .bool (decide (l.length = 32))]) ∧ Below w.heap.size w W' := by
  refine (unwide_any l sv w hsv).mono ?_
  rintro e W' (⟨h, he, hb⟩ | ⟨h, he, hb⟩)
  · exact ⟨by rw [he]; unfold wdS; simp only [h, if_true, decide_true], hb⟩
  · exact ⟨by rw [he]; unfold wdS; simp only [h, if_false, decide_false], hb⟩
/-- Words are stored into a block of the call's own. -/
theorem wide_stored {T Tw : TypeId} {p : Option Addr} {s : St} {w w0 w1 w2 : World} {a0 a1 a2 a3 : Int} {b0 b1 b2 b3 : Int} (hO : ObjP T w1 p s) (hG0 : w.grownBy w0 (p.map (·.block))) (hG1 : w0.grownBy w1 (p.map (·.block))) (hb2 : Below w1.heap.size w1 w2) (o : Obj)
    (kR : Blk w2 w.heap.size Tw [.int .u64 b0, .int .u64 b1, .int .u64 b2, .int .u64 b3]) (hne : some w.heap.size ≠ p.map (·.block)) :
    Blk (((((w2.alloc o).setCell ⟨w.heap.size, 0, none⟩ (.int .u64 a0)).setCell ⟨w.heap.size, 1, none⟩ (.int .u64 a1)).setCell ⟨w.heap.size, 2, none⟩ (.int .u64 a2)).setCell ⟨w.heap.size, 3, none⟩ (.int .u64 a3)) w.heap.size Tw [.int .u64 a0, .int .u64 a1, .int .u64 a2, .int .u64 a3] ∧
    ObjP T (((((w2.alloc o).setCell ⟨w.heap.size, 0, none⟩ (.int .u64 a0)).setCell ⟨w.heap.size, 1, none⟩ (.int .u64 a1)).setCell ⟨w.heap.size, 2, none⟩ (.int .u64 a2)).setCell ⟨w.heap.size, 3, none⟩ (.int .u64 a3)) p s ∧
    w.grownBy (((((w2.alloc o).setCell ⟨w.heap.size, 0, none⟩ (.int .u64 a0)).setCell ⟨w.heap.size, 1, none⟩ (.int .u64 a1)).setCell ⟨w.heap.size, 2, none⟩ (.int .u64 a2)).setCell ⟨w.heap.size, 3, none⟩ (.int .u64 a3)) (p.map (·.block)) := by
  have k0 := kR.alloc o
  have k1 := k0.set 0 (.int .u64 a0)
  have k2 := k1.set 1 (.int .u64 a1)
  have k3 := k2.set 2 (.int .u64 a2)
  have k4 := k3.set 3 (.int .u64 a3)
  have O0 : ObjP T (w2.alloc o) p s := (hO.below hb2).below (chain0 _ _)
  have st : ∀ (W : World) (i : Nat) (v : Value), NoOct W w.heap.size → ObjP T W p s → ObjP T (W.setCell ⟨w.heap.size, i, none⟩ v) p s := fun W i v hno h => h.to (grownBy_setCell4 W w.heap.size i v) (fun r e => by cases e; exact ⟨hno, fun e => hne e.symm⟩)
  have O1 := st _ 0 (.int .u64 a0) (noOct4 k0) O0
  have O2 := st _ 1 (.int .u64 a1) (noOct4 k1) O1
  have O3 := st _ 2 (.int .u64 a2) (noOct4 k2) O2
  have O4 := st _ 3 (.int .u64 a3) (noOct4 k3) O3
  have G0 : w.grownBy (w2.alloc o) (p.map (·.block)) := ((hG0.trans hG1).trans (grew hb2 _)).trans (World.grownBy_alloc _ _ _)
  have sg : ∀ (W : World) (i : Nat) (v : Value), w.grownBy W (p.map (·.block)) → w.grownBy (W.setCell ⟨w.heap.size, i, none⟩ v) (p.map (·.block)) := fun W i v h => h.andThen (grownBy_setCell4 W w.heap.size i v) (fun j e => by cases e; exact .inl (Nat.le_refl _))
  exact ⟨k4, O4, sg _ _ _ (sg _ _ _ (sg _ _ _ (sg _ _ _ G0)))⟩
set_option maxRecDepth 100000 in
set_option maxHeartbeats 1000000 in
theorem inWide_any {p : Option Addr} {s : St} (w : World) (h : ObjP 106 w p s) :
    Calls Try.prog 64 #[.pointer p] w (WidS 106 p (takeS s 32) w) := by
  have hne := ptr_lt h (Nat.le_refl _)
  have hO0 := h.below (chain0 w (.cells #[.int .u64 0, .int .u64 0, .int .u64 0, .int .u64 0] 24))
  have kR0 : Blk (w.alloc (.cells #[.int .u64 0, .int .u64 0, .int .u64 0, .int .u64 0] 24)) w.heap.size 24 [.int .u64 0, .int .u64 0, .int .u64 0, .int .u64 0] := Blk.new w _ [_, _, _, _]
  have hG0 : w.grownBy (w.alloc (.cells #[.int .u64 0, .int .u64 0, .int .u64 0, .int .u64 0] 24)) (p.map (·.block)) := World.grownBy_alloc _ _ _
  have H := inLend_any (p := p) 32 (by omega) _ hO0
  generalize takeS s 32 = r at *
  have HU := Lib.hid (fun sv w1 hs => unwideS_any r.1 sv w1 hs)
  have HN := Lib.hid hne
  clear h hO0 hne
  generalize hq0 : wdS r.1 0 = a0 at *
  have HQ0 := Lib.hid hq0
  clear hq0
  generalize hq1 : wdS r.1 1 = a1 at *
  have HQ1 := Lib.hid hq1
  clear hq1
  generalize hq2 : wdS r.1 2 = a2 at *
  have HQ2 := Lib.hid hq2
  clear hq2
  generalize hq3 : wdS r.1 3 = a3 at *
  have HQ3 := Lib.hid hq3
  clear hq3
  generalize (decide (r.1.length = 32)) = bb at *
  go_enter Try.func64, Try.ntmps64
  go_wp2_with (first
    | (go_at_call 85; refine H.mono ?_; rintro e w1 ⟨v, rfl, hv, hO1, hG1⟩)
    | (go_at_call 84; refine (HU.out _ _ hv).mono ?_; rintro e w2 ⟨rfl, hb2⟩; have kR2 := (kR0.kept hG1 HN.out).below hb2 (kR0.kept hG1 HN.out).lt; have r0 := fun o => (Blk.c4 (kR2.alloc o)).1; have r1 := fun o => (Blk.c4 (kR2.alloc o)).2.1; have r2 := fun o => (Blk.c4 (kR2.alloc o)).2.2.1; have r3 := fun o => (Blk.c4 (kR2.alloc o)).2.2.2; have g0 := fun o => (kR2.alloc o).frozen 0; have g1 := fun o => (kR2.alloc o).frozen 1; have g2 := fun o => (kR2.alloc o).frozen 2; have g3 := fun o => (kR2.alloc o).frozen 3))
  obtain ⟨kR3, hO3, hG3⟩ := wide_stored (p := p) hO1 hG0 hG1 hb2 (.cells #[.int .u64 a0, .int .u64 a1, .int .u64 a2, .int .u64 a3] 24) kR2 HN.out (a0 := a0) (a1 := a1) (a2 := a2) (a3 := a3)
  obtain ⟨q0, q1, q2, q3⟩ := Blk.c4 kR3
  exact bodyPost_ret (v := wv a0 a1 a2 a3) (by simp [results, Try.results64, go_sem, q0, q1, q2, q3]) rfl ⟨by rw [HQ0.out, HQ1.out, HQ2.out, HQ3.out], hO3, hG3⟩

/-- An In of octets. -/
def openS (l : List UInt8) : St := if l.length ≤ 8192 then (l, 0) else ([], 5)
theorem openS_ok (l : List UInt8) : OkS (openS l) := by
  unfold openS; split
  · exact ⟨fun k => absurd rfl k, by simpa using ‹_›⟩
  · exact ⟨fun _ => rfl, by simp⟩
theorem inOpen_any (l : List UInt8) (sv : Value) (w : World) (hl : l.length ≤ 140737488351232) (hsv : BSl 0 w.heap.size w sv l) :
    Calls Try.prog 29 #[sv] w fun e W' => ∃ NB, e = .returned (.pointer (some ⟨NB, 0, none⟩)) ∧ w.heap.size ≤ NB ∧ ObjP 106 W' (some ⟨NB, 0, none⟩) (openS l) ∧ Below w.heap.size w W' := by
  obtain ⟨a, c, rfl, -⟩ := hsv.shape
  have HOK := openS_ok l
  unfold openS at *
  generalize hn : l.length = n at *
  have HN := Lib.hid hn
  clear hn
  by_cases hfit : n ≤ 8192
  · rw [if_pos hfit] at *
    have hgt : ¬ (8192 : Int) < (n : Int) := by omega
    go_enter Try.func29, Try.ntmps29
    go_wp2_with (go_at_call 54; refine (clone_any l _ w (by rw [HN.out]; omega) hsv (Nat.le_refl _)).mono ?_; rintro e w1 ⟨v, rfl, hv, hb1⟩; obtain ⟨va, vm, vc, rfl⟩ := (BSl.of_own hv).shape3)
    go_ret
    have hB := chainA hb1 (.cells #[.bool true, .slice va vm vc, .int .i64 0] 106)
    have hB1 := chain0 w1 (.cells #[.bool true, .slice va vm vc, .int .i64 0] 106)
    exact ⟨w1.heap.size, rfl, hb1.size, .inr ⟨_, true, va, vm, vc, 0, rfl, Blk.new w1 _ [_, _, _], .inr ⟨rfl, rfl, HOK, (((BSl.of_own hv).below hB1 (Nat.le_refl _)).mono (Nat.zero_le _) hB1.size)⟩⟩, hB⟩
  · rw [if_neg hfit] at *
    have hgt : (8192 : Int) < (n : Int) := by omega
    go_enter Try.func29, Try.ntmps29
    go_wp2
    go_ret
    exact ⟨w.heap.size, rfl, Nat.le_refl _, .inr ⟨_, true, none, 0, 0, 5, rfl, Blk.new w _ [_, _, _], .inr ⟨rfl, rfl, HOK, BSl.nil _ _ _⟩⟩, chain0 _ _⟩
end Go.Proofs.Ytigdenlnnnfjlaa

namespace Go.Proofs.Ytigdenlnnnfjlaa
open Go.RowKit Go.Shelf

structure Ms where
  kd : Int
  ak : Ak
  bd : Bd
  iv : Trf
  vr : Sid
  f0 : Nat
  f1 : Nat
  f2 : Nat
  f3 : Nat
  sg : ByteArray
/-- A message's cells, and its value. -/
abbrev msc (m : Ms) : List Value := [.int .i64 m.kd, .int .i64 m.ak.us, .int .i64 m.ak.se, .int .i64 m.ak.re, .int .i64 m.ak.to, .int .u64 (m.ak.a0 : Nat), .int .u64 (m.ak.a1 : Nat), .int .u64 (m.ak.a2 : Nat), .int .u64 (m.ak.a3 : Nat), .string m.ak.id, .int .i64 m.bd.ro, .int .i64 m.bd.k.us, .int .i64 m.bd.k.se, .int .i64 m.bd.k.re, .int .i64 m.bd.k.to, .int .u64 (m.bd.k.a0 : Nat), .int .u64 (m.bd.k.a1 : Nat), .int .u64 (m.bd.k.a2 : Nat), .int .u64 (m.bd.k.a3 : Nat), .string m.bd.k.id, .int .u64 (m.bd.b0 : Nat), .int .u64 (m.bd.b1 : Nat), .int .u64 (m.bd.b2 : Nat), .int .u64 (m.bd.b3 : Nat), .int .i64 m.bd.un, .string m.bd.sg, .int .i64 m.iv.us, .string m.iv.rt, .int .i64 m.iv.ro, .int .i64 m.iv.se, .int .i64 m.iv.re, .int .i64 m.iv.to, .string m.iv.id, .int .u64 (m.vr.a0 : Nat), .int .u64 (m.vr.a1 : Nat), .int .u64 (m.vr.a2 : Nat), .int .u64 (m.vr.a3 : Nat), .int .i64 m.vr.x, .int .u64 (m.f0 : Nat), .int .u64 (m.f1 : Nat), .int .u64 (m.f2 : Nat), .int .u64 (m.f3 : Nat), .string m.sg]
abbrev msv (m : Ms) : Value := .agg (msc m).toArray
def noM : Ms := ⟨0, noA, noB, noI, noV, 0, 0, 0, 0, emptyB⟩
structure OkM (m : Ms) : Prop where
  a : OkA m.ak
  b : OkB m.bd
  v : Ok4 m.vr.a0 m.vr.a1 m.vr.a2 m.vr.a3
  f : Ok4 m.f0 m.f1 m.f2 m.f3
/-- Why a release may not be. -/
def errL (m : Ms) : Int := if maybeI m.iv then (if maybeV m.vr then (if m.sg.size ≤ 1024 then 0 else 5) else 36) else 39
def errG (m : Ms) : Int := if m.kd = 1 then errA m.ak else if m.kd = 2 then errB m.bd else if m.kd = 3 then errL m else 12
/-- A bid's fields, without the octets of its word, and its signature. -/
def putD (s : St) (b : Bd) : St := txtS (numS (wideS (putA (numS s b.ro) b.k) b.b0 b.b1 b.b2 b.b3) b.un) b.sg
def putR (s : St) (m : Ms) : St := txtS (wideS (putV (putI s m.iv) m.vr) m.f0 m.f1 m.f2 m.f3) m.sg
def putG (m : Ms) : St := if m.kd = 1 then putA (numS ([], 0) m.kd) m.ak else if m.kd = 2 then putD (numS ([], 0) m.kd) m.bd else putR (numS ([], 0) m.kd) m
def octG (m : Ms) : St := if errG m = 0 then putG m else ([], errG m)
theorem octG_yes {m : Ms} (h : errG m = 0) : octG m = putG m := if_pos h
theorem octG_no {m : Ms} (h : errG m ≠ 0) : octG m = ([], errG m) := if_neg h
/-- A bid's fields are read: router, ask, amount, until, signature. -/
def bd0 (s : St) : Nat × St := mostS s 6 big
def bd1 (s : St) : Ak × St := getA (bd0 s).2
def bd2 (s : St) : List UInt8 × St := takeS (bd1 s).2 32
def bd3 (s : St) : Nat × St := mostS (bd2 s).2 6 big
def bd4 (s : St) : List UInt8 × St := gtxtS (bd3 s).2 1024
def rawD (s : St) : Bd := ⟨((bd0 s).1 : Nat), (bd1 s).1, wdS (bd2 s).1 0, wdS (bd2 s).1 1, wdS (bd2 s).1 2, wdS (bd2 s).1 3, ((bd3 s).1 : Nat), str (bd4 s).1⟩
/-- A release's fields are read: transfer, side's data, fee, signature. -/
def ld0 (s : St) : Trf × St := getI s
def ld1 (s : St) : Sid × St := getV (ld0 s).2
def ld2 (s : St) : List UInt8 × St := takeS (ld1 s).2 32
def ld3 (s : St) : List UInt8 × St := gtxtS (ld2 s).2 1024
def gd0 (s : St) : Nat × St := mostS s 6 big
def kdG (s : St) : Int := ((gd0 s).1 : Nat)
/-- What is read by its kind, whether it may be or not; the state behind it. -/
def rawG (s : St) : Ms × St :=
  if kdG s = 1 then ({ noM with kd := 1, ak := (getA (gd0 s).2).1 }, (getA (gd0 s).2).2)
  else if kdG s = 2 then ({ noM with kd := 2, bd := rawD (gd0 s).2 }, (bd4 (gd0 s).2).2)
  else if kdG s = 3 then ({ noM with kd := 3, iv := (ld0 (gd0 s).2).1, vr := (ld1 (gd0 s).2).1, f0 := wdS (ld2 (gd0 s).2).1 0, f1 := wdS (ld2 (gd0 s).2).1 1, f2 := wdS (ld2 (gd0 s).2).1 2, f3 := wdS (ld2 (gd0 s).2).1 3, sg := str (ld3 (gd0 s).2).1 }, (ld3 (gd0 s).2).2)
  else ({ noM with kd := kdG s }, (gd0 s).2)
/-- What is told of octets. -/
def readG (s : St) : Ms × Int := if (rawG s).2.2 = 0 then (if errG (rawG s).1 = 0 ∧ (rawG s).2.1 = [] then ((rawG s).1, 0) else (noM, 16)) else (noM, (rawG s).2.2)
/-- A message with the fields of its kind alone. -/
def plainM (m : Ms) : Ms :=
  if m.kd = 1 then { noM with kd := m.kd, ak := m.ak } else if m.kd = 2 then { noM with kd := m.kd, bd := m.bd } else if m.kd = 3 then { noM with kd := m.kd, iv := m.iv, vr := m.vr, f0 := m.f0, f1 := m.f1, f2 := m.f2, f3 := m.f3, sg := m.sg } else { noM with kd := m.kd }
end Go.Proofs.Ytigdenlnnnfjlaa

namespace Go.Proofs.Ytigdenlnnnfjlaa
open Go.RowKit Go.Shelf

theorem wide8_length (a0 a1 a2 a3 : Nat) : (wide8 a0 a1 a2 a3).length = 32 := by simp [wide8, octs_length]
theorem uwd_wide8 {a0 a1 a2 a3 : Nat} (ha : Ok4 a0 a1 a2 a3) : uwd (wide8 a0 a1 a2 a3) 32 0 = a0 ∧ uwd (wide8 a0 a1 a2 a3) 32 1 = a1 ∧ uwd (wide8 a0 a1 a2 a3) 32 2 = a2 ∧ uwd (wide8 a0 a1 a2 a3) 32 3 = a3 := by
  obtain ⟨h0, h1, h2, h3⟩ := ha
  have hb : ∀ a, a < M → be (octs a 8) = a := fun a h => by
    rw [be_octs]
    exact Nat.mod_eq_of_lt (by unfold M at h; omega)
  have l8 : ∀ a, (octs a 8).length = 8 := fun a => octs_length a 8
  unfold uwd
  rw [List.take_of_length_le (l := wide8 a0 a1 a2 a3) (by rw [wide8_length]; omega)]
  unfold wide8
  refine ⟨?_, ?_, ?_, ?_⟩
  · rw [show 8 * (3 - 0) = 8 + (8 + 8) from rfl, ← List.drop_drop, ← List.drop_drop, List.drop_left' (l8 _), List.drop_left' (l8 _), List.drop_left' (l8 _), List.take_of_length_le (by rw [l8]; omega), hb _ h0]
  · rw [show 8 * (3 - 1) = 8 + 8 from rfl, ← List.drop_drop, List.drop_left' (l8 _), List.drop_left' (l8 _), List.take_left' (l8 _), hb _ h1]
  · rw [show 8 * (3 - 2) = 8 from rfl, List.drop_left' (l8 _), List.take_left' (l8 _), hb _ h2]
  · rw [show 8 * (3 - 3) = 0 from rfl, List.drop_zero, List.take_left' (l8 _), hb _ h3]
end Go.Proofs.Ytigdenlnnnfjlaa

namespace Go.Proofs.Ytigdenlnnnfjlaa
open Go.RowKit Go.Shelf

theorem addS_zero {s : St} {l : List UInt8} (h : (addS s l).2 = 0) : s.2 = 0 ∧ (addS s l).1 = s.1 ++ l := by
  unfold addS at *; split
  · rename_i h0
    rw [if_pos h0] at h
    split
    · exact ⟨h0, rfl⟩
    · rename_i h1; rw [if_neg h1] at h; exact absurd h (by decide)
  · rename_i h0
    rw [if_neg h0] at h
    exact absurd h h0
theorem errS_zero {s : St} {x : Int} (hx : x ≠ 0) : (errS s x).2 ≠ 0 := by
  unfold errS; split
  · exact hx
  · assumption
theorem be_six {n : Int} (h0 : 0 ≤ n) (h1 : n ≤ 1099511627776) : (be (octs (two n) 6) : Int) = n := by
  rw [be_octs]
  unfold two
  omega
theorem be_two {n : Nat} (h : n ≤ 1024) : be (octs n 2) = n := by rw [be_octs]; omega

theorem mostS_ok {x R : List UInt8} {k : Nat} (hk : x.length = k) (h7 : k ≤ 7) {m : Int} (hm : (be x : Int) ≤ m) : mostS (x ++ R, 0) k m = (be x, (R, 0)) := by
  have e : takeS (x ++ R, 0) k = (x, (R, 0)) := by
    rw [takeS_ok rfl (by simp only [List.length_append]; omega), List.take_left' hk, List.drop_left' hk]
  unfold mostS
  rw [e]
  dsimp only
  rw [List.take_of_length_le (by omega), if_neg (by intro h; have := h.2; omega)]
theorem mostS_short {p : List UInt8} {k : Nat} (hk : p.length < k) (m : Int) : mostS (p, 0) k m = (0, ([], 16)) := by
  unfold mostS
  rw [takeS_short rfl hk, if_neg (by intro h; exact absurd h.1 (by decide))]
  rfl
theorem mostS_bad {s : St} (h : s.2 ≠ 0) (k : Nat) (m : Int) : mostS s k m = (0, s) := by
  unfold mostS
  rw [takeS_bad h, if_neg (fun e => h e.1)]
  rfl
theorem gtxtS_bad {s : St} (h : s.2 ≠ 0) (m : Int) : gtxtS s m = ([], s) := by
  unfold gtxtS
  rw [mostS_bad h, takeS_bad h]
theorem numS_zero {s : St} {n : Int} (h : (numS s n).2 = 0) : s.2 = 0 ∧ (0 ≤ n ∧ n ≤ 1099511627776) ∧ (numS s n).1 = s.1 ++ octs (two n) 6 := by
  unfold numS at *; split
  · rename_i h1
    rw [if_pos h1] at h
    obtain ⟨a, b⟩ := addS_zero h
    exact ⟨a, h1, b⟩
  · rename_i h1
    rw [if_neg h1] at h
    exact absurd h (errS_zero (by decide))
theorem txtS_zero {s : St} {t : ByteArray} (h : (txtS s t).2 = 0) : s.2 = 0 ∧ t.size ≤ 1024 ∧ (txtS s t).1 = s.1 ++ (octs t.size 2 ++ t.data.toList) := by
  unfold txtS at *; split
  · rename_i h1
    rw [if_pos h1] at h
    obtain ⟨a, b⟩ := addS_zero h
    exact ⟨a, h1, b⟩
  · rename_i h1
    rw [if_neg h1] at h
    exact absurd h (errS_zero (by decide))
theorem rd_num {n : Int} (h0 : 0 ≤ n) (h1 : n ≤ 1099511627776) {m : Int} (hm : n ≤ m) (R : List UInt8) : mostS (octs (two n) 6 ++ R, 0) 6 m = (be (octs (two n) 6), (R, 0)) ∧ (be (octs (two n) 6) : Int) = n := by
  have hb := be_six h0 h1
  exact ⟨mostS_ok (octs_length _ _) (by omega) (by omega), hb⟩
theorem rd_txt {t : ByteArray} (h1 : t.size ≤ 1024) {m : Int} (hm : (t.size : Int) ≤ m) (R : List UInt8) : gtxtS (octs t.size 2 ++ (t.data.toList ++ R), 0) m = (t.data.toList, (R, 0)) := by
  have hb := be_two h1
  have hl : t.data.toList.length = t.size := by rw [Array.length_toList]; rfl
  unfold gtxtS
  rw [mostS_ok (octs_length _ _) (by omega) (by omega), hb]
  rw [takeS_ok rfl (by simp only [List.length_append]; omega), List.take_left' hl, List.drop_left' hl]
theorem rd_wide {a0 a1 a2 a3 : Nat} (h4 : Ok4 a0 a1 a2 a3) (R : List UInt8) : takeS (wide8 a0 a1 a2 a3 ++ R, 0) 32 = (wide8 a0 a1 a2 a3, (R, 0)) ∧ wdS (wide8 a0 a1 a2 a3) 0 = a0 ∧ wdS (wide8 a0 a1 a2 a3) 1 = a1 ∧ wdS (wide8 a0 a1 a2 a3) 2 = a2 ∧ wdS (wide8 a0 a1 a2 a3) 3 = a3 := by
  have hl := wide8_length a0 a1 a2 a3
  obtain ⟨q0, q1, q2, q3⟩ := uwd_wide8 h4
  refine ⟨?_, ?_⟩
  · rw [takeS_ok rfl (by simp only [List.length_append]; omega), List.take_left' hl, List.drop_left' hl]
  · unfold wdS
    simp only [hl, if_true]
    exact ⟨q0, q1, q2, q3⟩
end Go.Proofs.Ytigdenlnnnfjlaa

namespace Go.Proofs.Ytigdenlnnnfjlaa
open Go.RowKit Go.Shelf

theorem add_ok {l x : List UInt8} (h : l.length + x.length ≤ 8192) : addS (l, 0) x = (l ++ x, 0) := by
  unfold addS; rw [if_pos rfl, if_pos h]
theorem num_ok {l : List UInt8} {n : Int} (h0 : 0 ≤ n) (h1 : n ≤ 1099511627776) (h : l.length ≤ 8000) : numS (l, 0) n = (l ++ octs (two n) 6, 0) := by
  unfold numS; rw [if_pos ⟨h0, h1⟩, add_ok (by rw [octs_length]; omega)]
theorem txt_ok {l : List UInt8} {t : ByteArray} (h1 : t.size ≤ 100) (h : l.length ≤ 8000) : txtS (l, 0) t = (l ++ (octs t.size 2 ++ t.data.toList), 0) := by
  have hl : t.data.toList.length = t.size := by rw [Array.length_toList]; rfl
  unfold txtS; rw [if_pos (by omega), add_ok (by rw [List.length_append, octs_length, hl]; omega)]
theorem wide_ok {l : List UInt8} {a0 a1 a2 a3 : Nat} (h : l.length ≤ 8000) : wideS (l, 0) a0 a1 a2 a3 = (l ++ wide8 a0 a1 a2 a3, 0) := by
  unfold wideS; rw [add_ok (by rw [wide8_length]; omega)]

/-- A text's octets. -/
def encT (t : ByteArray) : List UInt8 := octs t.size 2 ++ t.data.toList
theorem encT_length (t : ByteArray) : (encT t).length = t.size + 2 := by
  have hl : t.data.toList.length = t.size := by rw [Array.length_toList]; rfl
  rw [encT, List.length_append, octs_length, hl]; omega
def encN (n : Int) : List UInt8 := octs (two n) 6
theorem encN_length (n : Int) : (encN n).length = 6 := octs_length _ _
theorem rdT {t : ByteArray} {m : Int} (h1 : t.size ≤ 1024) (hm : (t.size : Int) ≤ m) (R : List UInt8) : gtxtS (encT t ++ R, 0) m = (t.data.toList, (R, 0)) := by
  rw [encT, List.append_assoc]; exact rd_txt h1 hm R
theorem rdN {n : Int} (h0 : 0 ≤ n) (h1 : n ≤ 1099511627776) (R : List UInt8) : ∃ k : Nat, mostS (encN n ++ R, 0) 6 1099511627776 = (k, (R, 0)) ∧ (k : Int) = n := by
  obtain ⟨h, e⟩ := rd_num h0 h1 h1 R
  exact ⟨_, h, e⟩
theorem str_of_list (t : ByteArray) : str t.data.toList = t := by cases t; rfl
end Go.Proofs.Ytigdenlnnnfjlaa

namespace Go.Proofs.Ytigdenlnnnfjlaa
open Go.RowKit Go.Shelf

/-- An ask's octets. -/
def encA (a : Ak) : List UInt8 := encN a.us ++ (encN a.se ++ (encN a.re ++ (encN a.to ++ (wide8 a.a0 a.a1 a.a2 a.a3 ++ encT a.id))))
theorem putA_ok {a : Ak} (h : maybeA a) : putA ([], 0) a = (encA a, 0) := by
  obtain ⟨⟨h0, h0'⟩, ⟨h1, h1'⟩, ⟨h2, h2'⟩, ⟨h3, h3'⟩, h4, h5, h5'⟩ := h
  unfold putA putA4
  rw [num_ok h0 (by omega) (by simp)]
  rw [num_ok h1 (by omega) (by simp [octs_length])]
  rw [num_ok h2 (by omega) (by simp [octs_length])]
  rw [num_ok h3 (by omega) (by simp [octs_length])]
  rw [wide_ok (by simp [octs_length])]
  rw [txt_ok (by omega) (by simp [octs_length, wide8_length])]
  unfold encA encT encN
  simp only [List.nil_append, List.append_assoc]
theorem encA_length {a : Ak} (h : maybeA a) : (encA a).length ≤ 100 := by
  obtain ⟨_, _, _, _, _, _, h5'⟩ := h
  simp only [encA, List.length_append, encT_length, encN_length, wide8_length]; omega
theorem getA_ok {a : Ak} (h : maybeA a) (h4 : Ok4 a.a0 a.a1 a.a2 a.a3) (R : List UInt8) : getA (encA a ++ R, 0) = (a, (R, 0)) := by
  have h' := h
  obtain ⟨⟨h0, h0'⟩, ⟨h1, h1'⟩, ⟨h2, h2'⟩, ⟨h3, h3'⟩, _, h5, h5'⟩ := h
  have hE : encA a ++ R = encN a.us ++ (encN a.se ++ (encN a.re ++ (encN a.to ++ (wide8 a.a0 a.a1 a.a2 a.a3 ++ (encT a.id ++ R))))) := by
    unfold encA; simp only [List.append_assoc]
  rw [hE]
  obtain ⟨k0, e0, q0⟩ := rdN h0 (by omega) (encN a.se ++ (encN a.re ++ (encN a.to ++ (wide8 a.a0 a.a1 a.a2 a.a3 ++ (encT a.id ++ R)))))
  obtain ⟨k1, e1, q1⟩ := rdN h1 (by omega) (encN a.re ++ (encN a.to ++ (wide8 a.a0 a.a1 a.a2 a.a3 ++ (encT a.id ++ R))))
  obtain ⟨k2, e2, q2⟩ := rdN h2 (by omega) (encN a.to ++ (wide8 a.a0 a.a1 a.a2 a.a3 ++ (encT a.id ++ R)))
  obtain ⟨k3, e3, q3⟩ := rdN h3 (by omega) (wide8 a.a0 a.a1 a.a2 a.a3 ++ (encT a.id ++ R))
  obtain ⟨e4, w0, w1, w2, w3⟩ := rd_wide h4 (encT a.id ++ R)
  have e5 : gtxtS (encT a.id ++ R, 0) 16 = _ := rdT (by omega) (by omega) _
  generalize hS : (encN a.us ++ (encN a.se ++ (encN a.re ++ (encN a.to ++ (wide8 a.a0 a.a1 a.a2 a.a3 ++ (encT a.id ++ R))))), (0 : Int)) = S at *
  have f0 := (rfl : ad0 S = mostS S 6 big).trans e0
  have f1 := (rfl : ad1 S = mostS (ad0 S).2 6 big).trans ((congrArg (fun x : Nat × St => mostS x.2 6 big) f0).trans e1)
  have f2 := (rfl : ad2 S = mostS (ad1 S).2 6 big).trans ((congrArg (fun x : Nat × St => mostS x.2 6 big) f1).trans e2)
  have f3 := (rfl : ad3 S = mostS (ad2 S).2 6 big).trans ((congrArg (fun x : Nat × St => mostS x.2 6 big) f2).trans e3)
  have f4 := (rfl : ad4 S = takeS (ad3 S).2 32).trans ((congrArg (fun x : Nat × St => takeS x.2 32) f3).trans e4)
  have f5 := (rfl : ad5 S = gtxtS (ad4 S).2 16).trans ((congrArg (fun x : List UInt8 × St => gtxtS x.2 16) f4).trans e5)
  have hraw : rawA S = a := by
    unfold rawA
    rw [f0, f1, f2, f3, f4, f5, str_of_list]
    simp only [q0, q1, q2, q3, w0, w1, w2, w3]
  rw [getA_yes (by rw [f5]) (by rw [hraw]; exact h'), hraw, f5]
end Go.Proofs.Ytigdenlnnnfjlaa

namespace Go.Proofs.Ytigdenlnnnfjlaa
open Go.RowKit Go.Shelf

/-- The same words. -/
def wEq (a0 a1 a2 a3 b0 b1 b2 b3 : Int) : Bool := decide (a0 = b0 ∧ a1 = b1 ∧ a2 = b2 ∧ a3 = b3)
theorem wEq_refl (a0 a1 a2 a3 : Int) : wEq a0 a1 a2 a3 a0 a1 a2 a3 = true := by simp [wEq]
theorem wEq_of {a0 a1 a2 a3 b0 b1 b2 b3 : Int} (h : a0 = b0 ∧ a1 = b1 ∧ a2 = b2 ∧ a3 = b3) : wEq a0 a1 a2 a3 b0 b1 b2 b3 = true := decide_eq_true h
theorem wEq_not {a0 a1 a2 a3 b0 b1 b2 b3 : Int} (h : ¬ (a0 = b0 ∧ a1 = b1 ∧ a2 = b2 ∧ a3 = b3)) : wEq a0 a1 a2 a3 b0 b1 b2 b3 = false := decide_eq_false h

theorem run_equalIn_wide' (d : Nat) (a0 a1 a2 a3 b0 b1 b2 b3 : Int) (w : World) :
    (Op.equalIn (d + 2) 24 (.agg #[.int .u64 a0, .int .u64 a1, .int .u64 a2, .int .u64 a3]) (.agg #[.int .u64 b0, .int .u64 b1, .int .u64 b2, .int .u64 b3])).run Try.prog w = .ok (wEq a0 a1 a2 a3 b0 b1 b2 b3) w := by
  have e : ∀ a b : Int, (Op.equalIn (d + 1) 22 (.int .u64 a) (.int .u64 b)).run Try.prog w = .ok (a == b) w := fun a b => run_equalIn_int w d 22 .u64 .u64 a b Try.underlying22
  rw [show d + 2 = (d + 1) + 1 from rfl]
  unfold Op.equalIn
  by_cases h0 : a0 = b0
  · subst h0
    by_cases h1 : a1 = b1
    · subst h1
      by_cases h2 : a2 = b2
      · subst h2
        by_cases h3 : a3 = b3
        · subst h3
          simp [run_underlying Try.underlying24, List.range', part, e, Result.andThen, wEq]
        · simp [run_underlying Try.underlying24, List.range', part, e, Result.andThen, wEq, h3]
      · simp [run_underlying Try.underlying24, List.range', part, e, Result.andThen, wEq, h2]
    · simp [run_underlying Try.underlying24, List.range', part, e, Result.andThen, wEq, h1]
  · simp [run_underlying Try.underlying24, List.range', part, e, Result.andThen, wEq, h0]

/-- As the walk meets it. -/
theorem run_equalIn_wide (a0 a1 a2 a3 b0 b1 b2 b3 : Int) (w : World) :
    (Op.equalIn 10000 24 (.agg #[.int .u64 a0, .int .u64 a1, .int .u64 a2, .int .u64 a3]) (.agg #[.int .u64 b0, .int .u64 b1, .int .u64 b2, .int .u64 b3])).run Try.prog w = .ok (wEq a0 a1 a2 a3 b0 b1 b2 b3) w :=
  run_equalIn_wide' 9998 a0 a1 a2 a3 b0 b1 b2 b3 w

end Go.Proofs.Ytigdenlnnnfjlaa

namespace Go.Proofs.Ytigdenlnnnfjlaa
open Go.RowKit Go.Shelf

/-- An element of an array by value. -/
theorem wpList_indexTo {P : Program} {ops : Array Oper} {rest : List Oper} {o : Oper} {a : Act} {w : World} {Q : Exit → Act → World → Prop} (hg : o.guard = none) (t : TypeId) (x y : Operand) (ho : o.op = .index t x y)
    (d : Option Tmp) (hd : o.dst = d) (v : Value) (hf : (Instr.index t (a.eval x) (a.eval y)).run P w = .ok v w)
    (h : wpList P ops Q rest (a.put d v) w) : wpList P ops Q (o :: rest) a w := by
  subst hd
  refine wpList_plain hg fun K hK => ?_
  unfold Oper.wp execOp
  simp only [ho, Sem.run_bind, hf, Result.andThen_ok]
  exact hK _ _ h
end Go.Proofs.Ytigdenlnnnfjlaa

namespace Go.Proofs.Ytigdenlnnnfjlaa
open Go.RowKit Go.Shelf

/-- A number is where it may be. -/
def holdB (n l m : Int) : Bool := decide (l ≤ n ∧ n ≤ m)
theorem hold_yes {n l m : Int} (h1 : l ≤ n) (h2 : n ≤ m) : holdB n l m = true := decide_eq_true ⟨h1, h2⟩
theorem hold_no {n l m : Int} (h : ¬ (l ≤ n ∧ n ≤ m)) : holdB n l m = false := decide_eq_false h
theorem holds_any (n l m : Int) (w : World) :
    Calls Try.prog 90 #[.agg #[.int .i64 n, .int .i64 l, .int .i64 m]] w fun e W' => e = .returned (.bool (holdB n l m)) ∧ Below w.heap.size w W' := by
  by_cases h1 : l ≤ n
  · by_cases h2 : n ≤ m
    · rw [hold_yes h1 h2]
      go_enter Try.func90, Try.ntmps90
      go_wp2
      go_ret
      exact ⟨rfl, chain0 _ _⟩
    · rw [hold_no (by omega)]
      go_enter Try.func90, Try.ntmps90
      go_wp2
      go_ret
      exact ⟨rfl, chain0 _ _⟩
  · rw [hold_no (by omega)]
    go_enter Try.func90, Try.ntmps90
    go_wp2
    go_ret
    exact ⟨rfl, chain0 _ _⟩

/-- The bounds of a transfer. -/
abbrev bndc (i : Trf) : Array Value := #[.int .i64 i.us, .int .i64 0, .int .i64 1, .int .i64 (i.rt.size : Nat), .int .i64 8, .int .i64 8, .int .i64 i.ro, .int .i64 2, .int .i64 3, .int .i64 i.se, .int .i64 0, .int .i64 1, .int .i64 i.re, .int .i64 0, .int .i64 1, .int .i64 i.to, .int .i64 0, .int .i64 7, .int .i64 (i.id.size : Nat), .int .i64 1, .int .i64 16]
abbrev bndv (i : Trf) : Value := .agg (bndc i)
def z21 : List Value := [.int .i64 0, .int .i64 0, .int .i64 0, .int .i64 0, .int .i64 0, .int .i64 0, .int .i64 0, .int .i64 0, .int .i64 0, .int .i64 0, .int .i64 0, .int .i64 0, .int .i64 0, .int .i64 0, .int .i64 0, .int .i64 0, .int .i64 0, .int .i64 0, .int .i64 0, .int .i64 0, .int .i64 0]
set_option maxRecDepth 100000 in
theorem bounds_any (i : Trf) (w : World) :
    Calls Try.prog 89 #[ivv i] w fun e W' => e = .returned (bndv i) ∧ Below w.heap.size w W' := by
  have HB := Lib.hid (fun (W : World) (hz : W.heap.size = w.heap.size + 1) => Blk.new' (vs := z21) (t := 152) hz)
  go_enter Try.func89, Try.ntmps89
  go_wp2_with (refine wpList_buildTo rfl 152 _ rfl (some 26) rfl (bndc i) (by kernel_rfl) ?_; go_must (refine wpList_store_rowTo rfl 152 (.tmp 2) (.tmp 26) rfl rfl (w.heap.size + 1) (bndc i) rfl rfl 152 z21.toArray (HB.out _ (by simp)) (by kernel_rfl) rfl (by simp [bndc, Value.oneCell']) ?_))
  have hg := setRow_heap _ _ _ (bndc i) _ _ (HB.out (w.alloc (.cells #[.int .i64 i.us, .string i.rt, .int .i64 i.ro, .int .i64 i.se, .int .i64 i.re, .int .i64 i.to, .string i.id] 30)) (by simp))
  have hr := fun tmps hp => results_cell_row (P := Try.prog) (fn := Try.f89) (p := 2) (ty := 152) rfl tmps _ (w.heap.size + 1) _ (bndc i) (0, 0) _ hp hg Try.underlying152 rfl (by kernel_rfl)
  exact bodyPost_ret (v := bndv i) (hr _ rfl) rfl ⟨rfl, below_setRow (chainA (chain0 w _) _) (Nat.le_add_right _ 1) _⟩

/-- Bound k of a transfer. -/
def bN (i : Trf) (k : Nat) : Int := match k with | 0 => i.us | 1 => i.rt.size | 2 => i.ro | 3 => i.se | 4 => i.re | 5 => i.to | _ => i.id.size
def bL (k : Nat) : Int := match k with | 0 => 0 | 1 => 8 | 2 => 2 | 3 => 0 | 4 => 0 | 5 => 0 | _ => 1
def bM (k : Nat) : Int := match k with | 0 => 1 | 1 => 8 | 2 => 3 | 3 => 1 | 4 => 1 | 5 => 7 | _ => 16
def bOk (i : Trf) (k : Nat) : Bool := holdB (bN i k) (bL k) (bM k)
theorem may_of {i : Trf} (h : ∀ j, j < 7 → bOk i j = true) : maybeI i := by
  have g := fun j hj => of_decide_eq_true (h j hj)
  have h0 : 0 ≤ i.us ∧ i.us ≤ 1 := g 0 (by omega)
  have h1 : 8 ≤ (i.rt.size : Int) ∧ (i.rt.size : Int) ≤ 8 := g 1 (by omega)
  have h2 : 2 ≤ i.ro ∧ i.ro ≤ 3 := g 2 (by omega)
  have h3 : 0 ≤ i.se ∧ i.se ≤ 1 := g 3 (by omega)
  have h4 : 0 ≤ i.re ∧ i.re ≤ 1 := g 4 (by omega)
  have h5 : 0 ≤ i.to ∧ i.to ≤ 7 := g 5 (by omega)
  have h6 : 1 ≤ (i.id.size : Int) ∧ (i.id.size : Int) ≤ 16 := g 6 (by omega)
  exact ⟨h0, by omega, h2, h3, h4, h5, by omega, by omega⟩
theorem may_not {i : Trf} {j : Nat} (hj : j < 7) (h : bOk i j = false) : ¬ maybeI i := by
  intro ⟨h0, h1, h2, h3, h4, h5, h6, h7⟩
  have g := of_decide_eq_false h
  apply g
  match j, hj with
  | 0, _ => exact h0
  | 1, _ => exact ⟨show (8 : Int) ≤ (i.rt.size : Int) by omega, show (i.rt.size : Int) ≤ 8 by omega⟩
  | 2, _ => exact h2
  | 3, _ => exact h3
  | 4, _ => exact h4
  | 5, _ => exact h5
  | 6, _ => exact ⟨show (1 : Int) ≤ (i.id.size : Int) by omega, show (i.id.size : Int) ≤ 16 by omega⟩

set_option maxRecDepth 100000 in
theorem idx_bound (i : Trf) (w : World) {k : Nat} (hk : k < 7) :
    (Instr.index 152 (bndv i) (.int .i64 k)).run Try.prog w = .ok (.agg #[.int .i64 (bN i k), .int .i64 (bL k), .int .i64 (bM k)]) w := by
  have hs : ∀ j : Nat, (sizeOf 151).run Try.prog w = .ok 3 w := fun _ => by kernel_rfl
  have e1 : (Instr.index 152 (bndv i) (.int .i64 k)).run Try.prog w = .ok (.agg (List.take 3 (List.drop (k * 3) (bndc i).toList)).toArray) w := by
    have h1 : (0 : Int) ≤ (k : Int) ∧ (k : Int) < 7 := ⟨by omega, by omega⟩
    simp [Instr.index, run_underlying Try.underlying152, asIntOf, h1, hs 0, go_sem]
    exact fun h => absurd h (by omega)
  rw [e1]
  match k, hk with
  | 0, _ => rfl
  | 1, _ => rfl
  | 2, _ => rfl
  | 3, _ => rfl
  | 4, _ => rfl
  | 5, _ => rfl
  | 6, _ => rfl

set_option maxRecDepth 100000 in
set_option maxHeartbeats 1000000 in
theorem check_any (i : Trf) (w : World) :
    Calls Try.prog 76 #[ivv i] w fun e W' => e = .returned (.int .i64 (errI i)) ∧ Below w.heap.size w W' := by
  have HB := Lib.hid (bounds_any i)
  go_enter Try.func76, Try.ntmps76
  go_wp2_with (go_at_call 89; refine (HB.out _).mono ?_; rintro e w1 ⟨rfl, hb1⟩)
  have hB := chain (chain0 w _) hb1
  go_loopw [7] (fun n wr => ∃ k : Nat, k ≤ 7 ∧ n = .int .i64 k ∧ (∀ j, j < k → bOk i j = true) ∧ Below w.heap.size w wr) (fun n _ => 7 - (intOf n).toNat)
  case atStart => exact ⟨0, by omega, rfl, fun j hj => absurd hj (by omega), hB⟩
  case round =>
    clear hb1 hB
    obtain ⟨k, hk, rfl, hall, hB⟩ := hrel
    have HA := Lib.hid hall
    clear hall
    by_cases hlt : k < 7
    · have hlt' : (k : Int) < 7 := by omega
      have HI := Lib.hid (fun W => idx_bound i W hlt)
      have H0 := holds_any (bN i k) (bL k) (bM k)
      by_cases hb : bOk i k = true
      · have HN : Hid (∀ j, j < k + 1 → bOk i j = true) := Lib.hid fun j hj => by
          by_cases hjk : j < k
          · exact HA.out j hjk
          · obtain rfl : j = k := by omega
            exact hb
        rw [show holdB (bN i k) (bL k) (bM k) = true from hb] at H0
        have H1 := Lib.hid H0
        clear H0 hb HA HB
        generalize bN i k = x0 at *
        generalize bL k = x1 at *
        generalize bM k = x2 at *
        go_wp2_with (first
          | (go_at_call 90; refine (H1.out _).mono ?_; rintro e w2 ⟨rfl, hb2⟩)
          | (refine wpList_indexTo rfl 152 (.tmp 6) (.tmp 7) rfl (some 9) rfl _ (HI.out _) ?_))
        go_roundw
        case rel => exact ⟨k + 1, by omega, by go_num, HN.out, chain (chainA hB _) hb2⟩
        case measure => simp [intOf]; omega
      · replace hb : bOk i k = false := by simpa using hb
        have HN := Lib.hid (may_not hlt hb)
        rw [show holdB (bN i k) (bL k) (bM k) = false from hb] at H0
        have H1 := Lib.hid H0
        clear H0 hb HA HB
        generalize bN i k = x0 at *
        generalize bL k = x1 at *
        generalize bM k = x2 at *
        go_wp2_with (first
          | (go_at_call 90; refine (H1.out _).mono ?_; rintro e w2 ⟨rfl, hb2⟩)
          | (refine wpList_indexTo rfl 152 (.tmp 6) (.tmp 7) rfl (some 9) rfl _ (HI.out _) ?_))
        go_ret
        exact ⟨by rw [errI, if_neg HN.out]; rfl, chain (chainA hB _) hb2⟩
    · obtain rfl : k = 7 := by omega
      go_wp2
      go_ret
      exact ⟨by rw [errI, if_pos (may_of HA.out)]; rfl, hB⟩

theorem holdV {v : Sid} : holdB v.x 0 1099511627776 = decide (0 ≤ v.x ∧ v.x ≤ 1099511627776) := rfl
set_option maxRecDepth 100000 in
theorem sound_any (v : Sid) (w : World) :
    Calls Try.prog 77 #[svv v] w fun e W' => e = .returned (.int .i64 (errV v)) ∧ Below w.heap.size w W' := by
  have hweq := @run_equalIn_wide
  by_cases h0 : v.a0 = 0 ∧ v.a1 = 0 ∧ v.a2 = 0 ∧ v.a3 = 0
  · have hE : errV v = 36 := if_neg fun h => h.1 h0
    rw [hE]
    have hq : wEq (v.a0 : Nat) (v.a1 : Nat) (v.a2 : Nat) (v.a3 : Nat) 0 0 0 0 = true := by
      obtain ⟨e0, e1, e2, e3⟩ := h0
      rw [e0, e1, e2, e3]; rfl
    clear hE h0
    go_enter Try.func77, Try.ntmps77
    go_wp2
    go_ret
    exact ⟨rfl, chainA (chain0 w _) _⟩
  · have hq : wEq (v.a0 : Nat) (v.a1 : Nat) (v.a2 : Nat) (v.a3 : Nat) 0 0 0 0 = false := wEq_not (by omega)
    have H0 := holds_any v.x 0 1099511627776
    by_cases hx : 0 ≤ v.x ∧ v.x ≤ 1099511627776
    · have hE : errV v = 0 := if_pos ⟨h0, hx⟩
      rw [hold_yes hx.1 hx.2] at H0
      rw [hE]
      have H1 := Lib.hid H0
      clear H0 h0 hx hE
      go_enter Try.func77, Try.ntmps77
      go_wp2_with (go_at_call 90; refine (H1.out _).mono ?_; rintro e w2 ⟨rfl, hb2⟩)
      go_ret
      exact ⟨rfl, chain (chainA (chain0 w _) _) hb2⟩
    · have hE : errV v = 36 := if_neg fun h => hx h.2
      rw [hold_no hx] at H0
      rw [hE]
      have H1 := Lib.hid H0
      clear H0 h0 hx hE
      go_enter Try.func77, Try.ntmps77
      go_wp2_with (go_at_call 90; refine (H1.out _).mono ?_; rintro e w2 ⟨rfl, hb2⟩)
      go_ret
      exact ⟨rfl, chain (chainA (chain0 w _) _) hb2⟩
end Go.Proofs.Ytigdenlnnnfjlaa

namespace Go.Proofs.Ytigdenlnnnfjlaa
open Go.RowKit Go.Shelf

theorem Blk.c7 {W : World} {B : Nat} {t : TypeId} {v0 v1 v2 v3 v4 v5 v6 : Value} (h : Blk W B t [v0, v1, v2, v3, v4, v5, v6]) :
    W.cell? ⟨B, 0, none⟩ = some v0 ∧ W.cell? ⟨B, 1, none⟩ = some v1 ∧ W.cell? ⟨B, 2, none⟩ = some v2 ∧ W.cell? ⟨B, 3, none⟩ = some v3 ∧ W.cell? ⟨B, 4, none⟩ = some v4 ∧ W.cell? ⟨B, 5, none⟩ = some v5 ∧ W.cell? ⟨B, 6, none⟩ = some v6 :=
  ⟨h.cell 0, h.cell 1, h.cell 2, h.cell 3, h.cell 4, h.cell 5, h.cell 6⟩
theorem Blk.c5 {W : World} {B : Nat} {t : TypeId} {v0 v1 v2 v3 v4 : Value} (h : Blk W B t [v0, v1, v2, v3, v4]) :
    W.cell? ⟨B, 0, none⟩ = some v0 ∧ W.cell? ⟨B, 1, none⟩ = some v1 ∧ W.cell? ⟨B, 2, none⟩ = some v2 ∧ W.cell? ⟨B, 3, none⟩ = some v3 ∧ W.cell? ⟨B, 4, none⟩ = some v4 :=
  ⟨h.cell 0, h.cell 1, h.cell 2, h.cell 3, h.cell 4⟩
theorem Blk.c6 {W : World} {B : Nat} {t : TypeId} {v0 v1 v2 v3 v4 v5 : Value} (h : Blk W B t [v0, v1, v2, v3, v4, v5]) :
    W.cell? ⟨B, 0, none⟩ = some v0 ∧ W.cell? ⟨B, 1, none⟩ = some v1 ∧ W.cell? ⟨B, 2, none⟩ = some v2 ∧ W.cell? ⟨B, 3, none⟩ = some v3 ∧ W.cell? ⟨B, 4, none⟩ = some v4 ∧ W.cell? ⟨B, 5, none⟩ = some v5 :=
  ⟨h.cell 0, h.cell 1, h.cell 2, h.cell 3, h.cell 4, h.cell 5⟩
theorem Blk.c9 {W : World} {B : Nat} {t : TypeId} {v0 v1 v2 v3 v4 v5 v6 v7 v8 : Value} (h : Blk W B t [v0, v1, v2, v3, v4, v5, v6, v7, v8]) :
    W.cell? ⟨B, 0, none⟩ = some v0 ∧ W.cell? ⟨B, 1, none⟩ = some v1 ∧ W.cell? ⟨B, 2, none⟩ = some v2 ∧ W.cell? ⟨B, 3, none⟩ = some v3 ∧ W.cell? ⟨B, 4, none⟩ = some v4 ∧ W.cell? ⟨B, 5, none⟩ = some v5 ∧ W.cell? ⟨B, 6, none⟩ = some v6 ∧ W.cell? ⟨B, 7, none⟩ = some v7 ∧ W.cell? ⟨B, 8, none⟩ = some v8 :=
  ⟨h.cell 0, h.cell 1, h.cell 2, h.cell 3, h.cell 4, h.cell 5, h.cell 6, h.cell 7, h.cell 8⟩
theorem Blk.c16 {W : World} {B : Nat} {t : TypeId} {v0 v1 v2 v3 v4 v5 v6 v7 v8 v9 v10 v11 v12 v13 v14 v15 : Value} (h : Blk W B t [v0, v1, v2, v3, v4, v5, v6, v7, v8, v9, v10, v11, v12, v13, v14, v15]) :
    W.cell? ⟨B, 0, none⟩ = some v0 ∧ W.cell? ⟨B, 1, none⟩ = some v1 ∧ W.cell? ⟨B, 2, none⟩ = some v2 ∧ W.cell? ⟨B, 3, none⟩ = some v3 ∧ W.cell? ⟨B, 4, none⟩ = some v4 ∧ W.cell? ⟨B, 5, none⟩ = some v5 ∧ W.cell? ⟨B, 6, none⟩ = some v6 ∧ W.cell? ⟨B, 7, none⟩ = some v7 ∧ W.cell? ⟨B, 8, none⟩ = some v8 ∧ W.cell? ⟨B, 9, none⟩ = some v9 ∧ W.cell? ⟨B, 10, none⟩ = some v10 ∧ W.cell? ⟨B, 11, none⟩ = some v11 ∧ W.cell? ⟨B, 12, none⟩ = some v12 ∧ W.cell? ⟨B, 13, none⟩ = some v13 ∧ W.cell? ⟨B, 14, none⟩ = some v14 ∧ W.cell? ⟨B, 15, none⟩ = some v15 :=
  ⟨h.cell 0, h.cell 1, h.cell 2, h.cell 3, h.cell 4, h.cell 5, h.cell 6, h.cell 7, h.cell 8, h.cell 9, h.cell 10, h.cell 11, h.cell 12, h.cell 13, h.cell 14, h.cell 15⟩
end Go.Proofs.Ytigdenlnnnfjlaa

namespace Go.Proofs.Ytigdenlnnnfjlaa
open Go.RowKit Go.Shelf
attribute [local go_sem] Oper.semAt_some

set_option maxRecDepth 100000 in
set_option maxHeartbeats 4000000 in
theorem numO_in (m : Nat) (hm : 3 ≤ m) (n size : Int) (hs : -9223372036854775808 ≤ size) (hs' : size ≤ 9223372036854775807) (w : World) :
    CallsIn Fence.wide m Try.prog 50 #[.int .i64 n, .int .i64 size] w (ByO (octs (two n) (clamp size)) w) := by
  have h1 : 1 ≤ m := by omega
  refine callsIn_of_wp_marks Try.func50 rfl trivial ?_ rfl
  simp only [Try.ntmps50, List.size_toArray, List.length_cons, List.length_nil, Nat.reduceAdd, Nat.reduceSub, Array.replicate_succ, Array.replicate_zero, List.push_toArray, List.append_toArray, List.nil_append, List.cons_append]
  obtain ⟨i0, hi, hz0, hz1, hz2⟩ := info_parts Try.infoByte
  have hU : IntKind.u64.wrap n = (two n : Nat) := wrap_two n
  have hx : two n < M := by unfold two M; omega
  generalize two n = x at *
  have H8 := clamp_le size
  have hCC := clamp_cases size
  generalize clamp size = s at *
  rcases hCC with ⟨hc0, hC⟩ | ⟨hc0, hc8, hC⟩ | ⟨hc8, hC⟩
  all_goals
    have HC := Lib.hid hC
    clear hC
    gi_wp2_with (refine ⟨trivial, ?_⟩; gi_at_call 78; refine (octets_in Fence.wide (m - 1) trivial rfl _ _ _).mono ?_; rintro e w' ⟨rfl, rfl⟩)
    generalize hW5 : World.alloc _ _ = W5
    have k0 : Boxed W5 w.heap.size 35 (.slice none 0 0) := by rw [← hW5]; exact ((Boxed.new _ _ _).alloc _).alloc _
    have k1 : Boxed W5 (w.heap.size + 1) 22 (.int .u64 (x : Nat)) := by rw [← hW5]; exact (Blk.new' (vs := [.int .u64 (x : Nat)]) (by simp)).alloc _
    have k2 : Boxed W5 (w.heap.size + 1 + 1) 3 (.int .i64 (s : Nat)) := by rw [HC.out, ← hW5]; exact Blk.new' (vs := [.int .i64 _]) (by simp)
    have hB0 : Below w.heap.size w W5 := by rw [← hW5]; exact chainA (chainA (chain0 _ _) _) _
    have hz : W5.heap.size = w.heap.size + 3 := by rw [← hW5]; simp
    clear hW5
    refine wpIn_rangeFunc_ownF (S := fun ys => ys = octs x s) rfl h1 (gf := 91) (lb := #[.pointer (some ⟨w.heap.size + 1 + 1, 0, none⟩), .pointer (some ⟨w.heap.size + 1, 0, none⟩)]) rfl trivial (enters_of Try.func91 (by kernel_rfl) rfl)
      (octets1_stops Fence.wide (m - 1) trivial rfl (by omega) x s H8 (w.heap.size + 1) (w.heap.size + 1 + 1) W5 k1.lt k2.lt (k1.cell) k2.cell (KeepB (w.heap.size + 1)) (fun A B h => World.cell?_of_block h)) KeepB.t (KeepB.b k1.lt) (Below.refl _ _) (fun _ => rfl)
      (NumI w.heap.size (w.heap.size + 1) x w) (fun _ _ _ => False) (numI_own (Nat.le_refl _) (by omega)) (fun _ _ _ _ _ hs _ _ => hs)
      ⟨⟨⟨_, k0, World.ownsRow_nil _ _ _ _, trivial⟩, k1⟩, hB0⟩ ?_ ?_ ?_ ?_ ?_
    rotate_left
    · intro l x W K hK
      gi_wp2
      exact hK
    · rintro l pre o W ⟨⟨⟨v, kv, hown, _⟩, kn⟩, hB⟩ hlt
      have ko := kv.cell
      have kf := kv.frozen
      have hNW : w.heap.size ≤ W.heap.size := hB.size
      gi_wp2_with (gi_at_builtin; refine wpListIn_append_own _ rfl _ _ 35 rfl w.heap.size 5 i0 (.int .u8 0) 1 1 Try.underlying35 hi hz0 hz1 hz2 rfl (by decide) v pre.length (pre.map bv) rfl (hown.alloc _) ⟨W.heap.size, 0, none⟩ 1 1 [bv o] rfl rfl (cell_one_new _ _ _) (by simp [Value.oneCell']) (by unfold maxLen; omega) (by omega) (by simp; omega) ?_; intro v' w1 hown' hgrow _; obtain ⟨g, cap, rfl⟩ := ownsRow_succ hown'; obtain ⟨hv1, kv', hrow', hk3, hbw⟩ := kv.appended (by decide) hown hNW (Nat.le_refl _) hown' hgrow; have ko1 := hv1.cell; have kf1 := hv1.frozen)
      have hn1 : W.heap.size ≤ w1.heap.size := Nat.le_trans (by simp) hgrow.size
      have kn1 : Boxed w1 (w.heap.size + 1) 22 (.int .u64 (x : Nat)) := (kn.alloc _).kept hgrow (Boxed.not_row kn (by decide) hown)
      have kn3 := kn1.kept (grownBy_setCell' w1 w.heap.size (.slice (some ⟨g, 0, none⟩) (pre.length + 1) cap)) (by simp)
      exact ⟨hk3, kn3.trans kn.symm, ⟨⟨_, kv', by simpa using hrow', trivial⟩, kn3⟩, hB.trans hbw⟩
    · rintro D ys W hD rfl ⟨⟨⟨v, kv, hown, _⟩, kn⟩, hB⟩ hK
      have ko := kv.cell
      have HZ := Lib.hid hz
      clear hz
      gi_wp2
      have hB' := hB.trans (belowK_b (w := w) (Nat.le_refl _) _ D _ (.deferred none) (by have := HZ.out; omega) hK rfl rfl)
      have hown3 := ownsRow_putObj hown (.deferred none) hK rfl
      refine ⟨by simp, .inl ⟨_, _, rfl, run_takeDeferred hK, ?_⟩⟩
      refine ⟨v, ?_, ?_⟩
      · simp [results, Try.f50, go_sem]
      · exact ⟨v, rfl, hown3, hB'⟩
    · rintro D c pre W _ _ h _
      exact h.elim

theorem numO_any (n size : Int) (hs : -9223372036854775808 ≤ size) (hs' : size ≤ 9223372036854775807) (w : World) :
    Calls Try.prog 50 #[.int .i64 n, .int .i64 size] w (ByO (octs (two n) (clamp size)) w) := callsIn_wide.1 (numO_in 3 (by omega) n size hs hs' w)
end Go.Proofs.Ytigdenlnnnfjlaa

namespace Go.Proofs.Ytigdenlnnnfjlaa
open Go.RowKit

variable {F : Fence} {n : Nat} {P : Program}

/-- An iterator that gives ys to rounds that go on: J k holds behind k rounds; it may be asked to abide the turn of whatever is no cells, from the iterator's own blocks on. -/
def SeqAll {α : Type} (F : Fence) (n : Nat) (P : Program) (g : Nat) (lb : Array Value) (encs : α → Array Value) (Kp : Nat → World → World → Prop) (ys : List α) (w : World) : Prop :=
  ∀ (l : Nat) (J : Nat → World → Prop) (W : World), Below w.heap.size w W → w.heap.size ≤ l → l < W.heap.size → OwnFrom W.heap.size J →
    (∀ k x W1, ys[k]? = some x → J k W1 → YieldAt F (n - 1) P l (encs x) W1 fun e W' => e = .returned (.bool true) ∧ J (k + 1) W' ∧ Kp l W1 W') →
    J 0 W → CallsIn F n P g (#[.func (.yield l) #[] #[]] ++ lb) W fun e W' => (∃ v, e = .returned v) ∧ J ys.length W'
/-- A round's body that goes on. -/
def goesOn (B : Nat) (Kp : World → World → Prop) (I : World → Prop) (W : World) : Exit → Act → World → Prop
  | .normal, _, W' => KeepsFrom B W W' ∧ Kp W W' ∧ I W'
  | _, _, _ => False

theorem wpIn_rangeFunc_all {α : Type} {g : Operand} {ps : Array Tmp} {assign body : Code} {Q : Exit → Act → World → Prop} {a : Act} {w : World}
    (hro : F.round = none) (h1 : 1 ≤ n) {gf : Nat} {lb : Array Value} (hg : a.eval g = .func (.func gf) #[] lb) (hFg : F.fn gf) (eg : ∀ args w, (callFunc gf args).run P w = .ok (.enter gf args) w)
    {encs : α → Array Value} {Kp : Nat → World → World → Prop} {ys : List α} {w0 : World} (hseq : SeqAll F (n - 1) P gf lb encs Kp ys w0)
    (hKt : ∀ {A B C : World}, Kp (w.heap.size + 1) A B → Kp (w.heap.size + 1) B C → Kp (w.heap.size + 1) A C) (hKb : ∀ (W : World) (o o' : Obj), W.heap[w.heap.size + 1]? = some o → o.isCells = false → o.isWalk = false → Kp (w.heap.size + 1) W (W.putObj (w.heap.size + 1) o')) (hb0 : Below w0.heap.size w0 w) (hps : ∀ x, (encs x).size = ps.size)
    (I : Nat → World → Prop) (hI : OwnFrom w.heap.size I) (h0 : I 0 w) (Ax : α → Act → World → Prop) (hAx : ∀ x a', OwnFrom w.heap.size (fun (_ : Unit) W => Ax x a' W))
    (hassign : ∀ (l k : Nat) (x : α) (W : World) (K : Act → World → Prop), I k W → (∀ a' W', KeepsFrom w.heap.size W W' → Kp (w.heap.size + 1) W W' → I k W' → Ax x a' W' → K a' W') →
      assign.wpIn (F.inRound l) (n - 1 - 1) P (Exit.then K (fun _ _ _ => False)) { tmps := (ps.zip (encs x)).foldl (fun t (p, v) => t.setIfInBounds p v) a.tmps, defers := [] } W)
    (hbody : ∀ (l k : Nat) (x : α) (a' : Act) (W : World), ys[k]? = some x → I k W → Ax x a' W → body.wpIn (F.inRound l) (n - 1 - 1) P (goesOn w.heap.size (Kp (w.heap.size + 1)) (I (k + 1)) W) a' W)
    (hdone : ∀ (D : Nat) (W : World), w.heap.size ≤ D → I ys.length W → W.heap[D]? = some (.deferred (some [])) → Q .normal { a with defers := { target := .collected D, args := #[] } :: a.defers } W) :
    (Code.rangeFunc g ps assign body).wpIn F n P Q a w := by
  refine wpIn_rangeFunc fun fn hfn => ?_
  rw [hro]
  have hZ : w.heap.size < w.heap.size + 1 := Nat.lt_succ_self _
  -- what the loop's record holds while no round runs
  have R0 : { r : Loop // r.state = .ready ∧ r.pending = none ∧ r = { state := .ready, pending := none, fn, tmps := a.tmps, params := ps, assign, body, defers := w.heap.size } } := ⟨_, rfl, rfl, rfl⟩
  obtain ⟨r, hr1, hr2, hre⟩ := R0
  have hrun := run_enterLoop_outer (P := P) (w := w) fn a.tmps ps assign body
  rw [← hre] at hrun
  generalize hW1 : (w.alloc (.deferred (some []))).alloc (.loop r) = W1 at hrun
  have hsz : W1.heap.size = w.heap.size + 2 := by rw [← hW1]; simp
  have gw : w.grownBy (w.alloc (.deferred (some []))) none := World.grownBy_alloc _ _ _
  have hl1 : W1.heap[w.heap.size + 1]? = some (.loop r) := by
    rw [← hW1]; simpa using World.alloc_heap_new (w.alloc (.deferred (some []))) (.loop r)
  have hd1 : W1.heap[w.heap.size]? = some (.deferred (some [])) := by
    rw [← hW1]; exact (Below.heap_alloc _ _ _ (by simp)).trans (World.alloc_heap_new _ _)
  have hi1 : I 0 W1 := by rw [← hW1]; exact hI.alloc _ (hI.alloc _ h0)
  have hB1 : Below w0.heap.size w0 W1 := by
    rw [← hW1]; exact hb0.trans (((Below.refl w.heap.size w).alloc (Nat.le_refl _) _).alloc (by simp) _ |>.mono hb0.size)
  refine ⟨_, _, W1, { target := .fn (.func gf) lb, args := #[.func (.yield (w.heap.size + 1)) #[] #[]] }, W1, gf, #[.func (.yield (w.heap.size + 1)) #[] #[]] ++ lb, W1, hrun, by simp only [resolve, hg]; simp [go_sem], fun f' hf' => ?_, by simp [invoke, go_sem, eg], fun _ => h1, ?_⟩
  · simp [Target.leads] at hf'; subst hf'; exact hFg
  refine (hseq (w.heap.size + 1) (fun k W => I k W ∧ W.heap[w.heap.size + 1]? = some (.loop r) ∧ W.heap[w.heap.size]? = some (.deferred (some []))) W1 hB1 (by have := hb0.size; omega) (by omega)
    (fun s A B row ⟨hi, hl, hd⟩ hg' hrow => ⟨hI s A B row hi hg' (fun q e => ⟨by have := (hrow q e).1; omega, (hrow q e).2⟩),
      (hg'.block _ (Array.getElem?_eq_some_iff.1 hl).1 (fun e => by have := (hrow _ e.symm).1; omega)).trans hl,
      (hg'.block _ (Array.getElem?_eq_some_iff.1 hd).1 (fun e => by have := (hrow _ e.symm).1; omega)).trans hd⟩) ?_ ⟨hi1, hl1, hd1⟩).mono ?_
  · rintro k x W hx ⟨hi, hl, hd⟩
    have hy := run_yield (P := P) (args := encs x) hl (by rw [hre]; exact hps x)
    have hy' := hy
    rw [hre] at hy'
    refine ⟨_, _, _, _, hy', roundIn_of_wpIn hfn (hassign _ k x W _ hi fun a' Wa hkf hkp hia hax => ?_)⟩
    have hla := hkf.same _ _ (by omega) hl rfl
    have hda := hkf.same _ _ (Nat.le_refl _) hd rfl
    have hlt := (Array.getElem?_eq_some_iff.1 hla).1
    refine ⟨_, run_beginRound hla hr1, ?_⟩
    have hlb : (Wa.putObj (w.heap.size + 1) (.loop { r with state := .busy })).heap[w.heap.size + 1]? = some (.loop { r with state := .busy }) := World.putObj_heap_same hlt
    have hdb : (Wa.putObj (w.heap.size + 1) (.loop { r with state := .busy })).heap[w.heap.size]? = some (.deferred (some [])) := (World.putObj_heap_other (by omega)).trans hda
    have hkb := hKb Wa _ (.loop { r with state := .busy }) hla rfl rfl
    refine wpIn_mono (hbody _ k x a' _ hx (hI.putObj _ hia (by omega) hla rfl) ((hAx x a').putObj (s := ()) _ hax (by omega) hla rfl)) ?_
    rintro e a3 W3 hp
    cases e with
    | normal =>
      obtain ⟨hk3, hkp3, hi3⟩ := hp
      have hl3 := hk3.same _ _ (by omega) hlb rfl
      have hd3 := hk3.same _ _ (Nat.le_refl _) hdb rfl
      have hend := run_endRound (P := P) none hl3
      have hr' : ({ { r with state := .busy } with state := if (none : Option Code).isNone then .ready else .done, pending := none } : Loop) = r := by
        rw [hre]; simp
      rw [hr'] at hend
      refine ⟨_, _, hend, rfl, ⟨hI.putObj _ hi3 (by omega) hl3 rfl, World.putObj_heap_same (Array.getElem?_eq_some_iff.1 hl3).1, (World.putObj_heap_other (by omega)).trans hd3⟩, ?_⟩
      exact hKt hkp (hKt hkb (hKt hkp3 (hKb _ _ _ hl3 rfl rfl)))
    | ret => exact hp.elim
    | exit id => exact hp.elim
    | goto t => exact hp.elim
    | panic c => exact hp.elim
    | outgrown => exact hp.elim
  · rintro e W2 ⟨⟨v, rfl⟩, hi, hl, hd⟩
    have hend := run_endLoop (P := P) hl (by rw [hr1]; simp)
    rw [hr2] at hend
    exact ⟨none, _, hend, hdone _ _ (Nat.le_refl _) (hI.putObj _ hi (by omega) hl rfl) ((World.putObj_heap_other (by omega)).trans hd)⟩

/-- The same, the temporaries behind the assignment named. -/
theorem wpIn_rangeFunc_allA {α : Type} {g : Operand} {ps : Array Tmp} {assign body : Code} {Q : Exit → Act → World → Prop} {a : Act} {w : World}
    (hro : F.round = none) (h1 : 1 ≤ n) {gf : Nat} {lb : Array Value} (hg : a.eval g = .func (.func gf) #[] lb) (hFg : F.fn gf) (eg : ∀ args w, (callFunc gf args).run P w = .ok (.enter gf args) w)
    {encs : α → Array Value} {Kp : Nat → World → World → Prop} {ys : List α} {w0 : World} (hseq : SeqAll F (n - 1) P gf lb encs Kp ys w0)
    (hKt : ∀ {A B C : World}, Kp (w.heap.size + 1) A B → Kp (w.heap.size + 1) B C → Kp (w.heap.size + 1) A C) (hKb : ∀ (W : World) (o o' : Obj), W.heap[w.heap.size + 1]? = some o → o.isCells = false → o.isWalk = false → Kp (w.heap.size + 1) W (W.putObj (w.heap.size + 1) o')) (hKr : ∀ W, Kp (w.heap.size + 1) W W) (hb0 : Below w0.heap.size w0 w) (hps : ∀ x, (encs x).size = ps.size)
    (I : Nat → World → Prop) (hI : OwnFrom w.heap.size I) (h0 : I 0 w) (a₁ : α → Act)
    (hassign : ∀ (l : Nat) (x : α) (W : World) (K : Act → World → Prop), K (a₁ x) W →
      assign.wpIn (F.inRound l) (n - 1 - 1) P (Exit.then K (fun _ _ _ => False)) { tmps := (ps.zip (encs x)).foldl (fun t (p, v) => t.setIfInBounds p v) a.tmps, defers := [] } W)
    (hbody : ∀ (l k : Nat) (x : α) (W : World), ys[k]? = some x → I k W → body.wpIn (F.inRound l) (n - 1 - 1) P (goesOn w.heap.size (Kp (w.heap.size + 1)) (I (k + 1)) W) (a₁ x) W)
    (hdone : ∀ (D : Nat) (W : World), w.heap.size ≤ D → I ys.length W → W.heap[D]? = some (.deferred (some [])) → Q .normal { a with defers := { target := .collected D, args := #[] } :: a.defers } W) :
    (Code.rangeFunc g ps assign body).wpIn F n P Q a w :=
  wpIn_rangeFunc_all hro h1 hg hFg eg hseq (fun h k => hKt h k) hKb hb0 hps I hI h0 (fun x a' _ => a' = a₁ x) (fun _ _ _ _ _ _ hs _ _ => hs)
    (fun l k x W K hi hK => hassign l x W K (hK _ _ (KeepsFrom.refl _ _) (hKr W) hi rfl)) (fun l k x a' W hx hi e => by subst e; exact hbody l k x W hx hi) hdone

/-- All but two blocks lie as they lay. -/
def AllBut (B l : Nat) (W W' : World) : Prop := W.heap.size ≤ W'.heap.size ∧ ∀ k, k < W.heap.size → k ≠ B → k ≠ l → W'.heap[k]? = W.heap[k]?
theorem AllBut.refl (B l : Nat) (W : World) : AllBut B l W W := ⟨Nat.le_refl _, fun _ _ _ _ => rfl⟩
theorem AllBut.t {B l : Nat} {X Y Z : World} (h : AllBut B l X Y) (k : AllBut B l Y Z) : AllBut B l X Z :=
  ⟨Nat.le_trans h.1 k.1, fun j hj h1 h2 => (k.2 j (Nat.lt_of_lt_of_le hj h.1) h1 h2).trans (h.2 j hj h1 h2)⟩
theorem AllBut.b (B l : Nat) (W : World) (o' : Obj) : AllBut B l W (W.putObj l o') := ⟨by simp, fun j _ _ h2 => World.putObj_heap_other h2⟩
theorem AllBut.of_below {B l : Nat} {W W' : World} (h : Below W.heap.size W W') : AllBut B l W W' := ⟨h.size, fun j hj _ _ => h.block j hj⟩
theorem AllBut.of_grown {B l : Nat} {W W' : World} (h : W.grownBy W' (some B)) : AllBut B l W W' := ⟨h.size, fun j hj h1 _ => h.block j hj (fun e => h1 (Option.some.inj e))⟩
theorem grown_of_below {W W' : World} (h : Below W.heap.size W W') : W.grownBy W' none := ⟨h.os, h.tape, h.output, h.size, fun j hj _ => h.block j hj⟩
theorem roundIn_any {l' m m' : Nat} {P : Program} {l : Nat} {f : FuncId} {tmps : Array Value} {assign body : Code} {w : World} {R : Ending → World → Prop} (h : RoundIn Fence.wide m P l f tmps assign body w R) : RoundIn (Fence.wide.inRound l') m' P l f tmps assign body w R :=
  ⟨h.1, fun c cs _ => h.2 c cs (room_wide _)⟩
end Go.Proofs.Ytigdenlnnnfjlaa
