/-
  What is written is read again; a beginning that is shorter is not.
-/
import Derived.Test.YtjhfchjffiliaaaFieldL
import Derived.Test.YtjhfchjffiliaaaFieldIn
import Derived.Test.YtjhfchjffiliaaaWide8
namespace Go.Proofs.Ytjhfchjffiliaaa
open Go.RowKit Go.Shelf

/-- A field's octets. -/
def encF (f : Fld) : List UInt8 := if kindF f.k = 0 then octs (two f.n) 6 else if kindF f.k = 1 then octs f.t.size 2 ++ f.t.data.toList else wide8 f.a0 f.a1 f.a2 f.a3
/-- A field that can be put. -/
def okE (f : Fld) : Prop := (kindF f.k = 0 → 0 ≤ f.n ∧ f.n ≤ 1099511627776) ∧ (kindF f.k = 1 → f.t.size ≤ 1024)
def encL (l : List Fld) : List UInt8 := (l.map encF).flatten
theorem encL_cons (f : Fld) (l : List Fld) : encL (f :: l) = encF f ++ encL l := by simp [encL]

theorem addS_zero {s : St} {l : List UInt8} (h : (addS s l).2 = 0) : s.2 = 0 ∧ (addS s l).1 = s.1 ++ l := by
  unfold addS at *; split
  · rename_i h0
    rw [if_pos h0] at h
    split
    · exact ⟨h0, rfl⟩
    · rename_i h1; rw [if_neg h1] at h; exact absurd h (by decide)
  · rename_i h0
    rw [if_neg h0] at h
    exact absurd h h0
theorem errS_zero {s : St} {x : Int} (hx : x ≠ 0) : (errS s x).2 ≠ 0 := by
  unfold errS; split
  · exact hx
  · assumption
theorem stepS_zero {s : St} {f : Fld} (h : (stepS s f).2 = 0) : s.2 = 0 ∧ okE f ∧ (stepS s f).1 = s.1 ++ encF f := by
  unfold stepS encF okE at *
  split
  · rename_i h0
    rw [if_pos h0] at h
    unfold numS at *
    split
    · rename_i h1
      rw [if_pos h1] at h
      obtain ⟨a, b⟩ := addS_zero h
      exact ⟨a, ⟨fun _ => h1, fun e => by omega⟩, b⟩
    · rename_i h1
      rw [if_neg h1] at h
      exact absurd h (errS_zero (by decide))
  · rename_i h0
    rw [if_neg h0] at h
    split
    · rename_i h1
      rw [if_pos h1] at h
      unfold txtS at *
      split
      · rename_i h2
        rw [if_pos h2] at h
        obtain ⟨a, b⟩ := addS_zero h
        exact ⟨a, ⟨fun e => by omega, fun _ => h2⟩, b⟩
      · rename_i h2
        rw [if_neg h2] at h
        exact absurd h (errS_zero (by decide))
    · rename_i h1
      rw [if_neg h1] at h
      obtain ⟨a, b⟩ := addS_zero h
      exact ⟨a, ⟨fun e => absurd e h0, fun e => absurd e h1⟩, b⟩
theorem foldS_zero : ∀ (l : List Fld) (s : St), (l.foldl stepS s).2 = 0 → s.2 = 0 ∧ (∀ f ∈ l, okE f) ∧ (l.foldl stepS s).1 = s.1 ++ encL l
  | [], s, h => ⟨h, (fun f hf => by cases hf), (by simp [encL])⟩
  | f :: l, s, h => by
    obtain ⟨a, b, c⟩ := foldS_zero l (stepS s f) h
    obtain ⟨d, e, g⟩ := stepS_zero a
    refine ⟨d, fun x hx => ?_, ?_⟩
    · rcases List.mem_cons.1 hx with rfl | hx
      · exact e
      · exact b x hx
    · rw [List.foldl_cons, c, g, encL_cons, List.append_assoc]
theorem allS_zero {l : List Fld} (h : (allS l).2 = 0) : (∀ f ∈ l, okE f) ∧ (allS l).1 = encL l := by
  obtain ⟨_, b, c⟩ := foldS_zero l _ h
  exact ⟨b, by rw [show allS l = l.foldl stepS ([], 0) from rfl, c]; rfl⟩

theorem be_six {n : Int} (h0 : 0 ≤ n) (h1 : n ≤ 1099511627776) : (be (octs (two n) 6) : Int) = n := by
  rw [be_octs]
  unfold two
  omega
theorem be_two {n : Nat} (h : n ≤ 1024) : be (octs n 2) = n := by rw [be_octs]; omega

theorem mostS_ok {x R : List UInt8} {k : Nat} (hk : x.length = k) (h7 : k ≤ 7) {m : Int} (hm : (be x : Int) ≤ m) : mostS (x ++ R, 0) k m = (be x, (R, 0)) := by
  have e : takeS (x ++ R, 0) k = (x, (R, 0)) := by
    rw [takeS_ok rfl (by simp only [List.length_append]; omega), List.take_left' hk, List.drop_left' hk]
  unfold mostS
  rw [e]
  dsimp only
  rw [List.take_of_length_le (by omega), if_neg (by intro h; have := h.2; omega)]
theorem mostS_short {p : List UInt8} {k : Nat} (hk : p.length < k) (m : Int) : mostS (p, 0) k m = (0, ([], 16)) := by
  unfold mostS
  rw [takeS_short rfl hk, if_neg (by intro h; exact absurd h.1 (by decide))]
  rfl
theorem mostS_bad {s : St} (h : s.2 ≠ 0) (k : Nat) (m : Int) : mostS s k m = (0, s) := by
  unfold mostS
  rw [takeS_bad h, if_neg (fun e => h e.1)]
  rfl
theorem gtxtS_bad {s : St} (h : s.2 ≠ 0) (m : Int) : gtxtS s m = ([], s) := by
  unfold gtxtS
  rw [mostS_bad h, takeS_bad h]

/-- What is read of a field, with the greatest bounds. -/
def rdS (s : St) (f : Fld) : St := if kindF f.k = 0 then (mostS s 6 1099511627776).2 else if kindF f.k = 1 then (gtxtS s 1024).2 else (takeS s 32).2
theorem rdS_bad {s : St} (h : s.2 ≠ 0) (f : Fld) : rdS s f = s := by
  unfold rdS
  rw [mostS_bad h, gtxtS_bad h, takeS_bad h]
  simp

theorem back_num {f : Fld} (hk : kindF f.k = 0) (he : okE f) (R : List UInt8) : ((mostS (encF f ++ R, 0) 6 1099511627776).1 : Int) = f.n ∧ (mostS (encF f ++ R, 0) 6 1099511627776).2 = (R, 0) := by
  obtain ⟨h0, h1⟩ := he.1 hk
  have e : encF f = octs (two f.n) 6 := if_pos hk
  have hb := be_six h0 h1
  rw [e, mostS_ok (octs_length _ _) (by omega) (by omega)]
  exact ⟨hb, rfl⟩
theorem back_txt {f : Fld} (hk : kindF f.k = 1) (he : okE f) (R : List UInt8) : gtxtS (encF f ++ R, 0) 1024 = (f.t.data.toList, (R, 0)) := by
  have h1 := he.2 hk
  have e : encF f = octs f.t.size 2 ++ f.t.data.toList := by unfold encF; rw [if_neg (by omega), if_pos hk]
  have hb := be_two h1
  have hl : f.t.data.toList.length = f.t.size := by rw [Array.length_toList]; rfl
  unfold gtxtS
  rw [e, List.append_assoc, mostS_ok (octs_length _ _) (by omega) (by omega), hb]
  rw [takeS_ok rfl (by simp only [List.length_append]; omega), List.take_left' hl, List.drop_left' hl]
theorem back_wide {f : Fld} (hk : kindF f.k = 2) (h4 : Ok4 f.a0 f.a1 f.a2 f.a3) (R : List UInt8) : (takeS (encF f ++ R, 0) 32).2 = (R, 0) ∧ wdS (takeS (encF f ++ R, 0) 32).1 0 = f.a0 ∧ wdS (takeS (encF f ++ R, 0) 32).1 1 = f.a1 ∧ wdS (takeS (encF f ++ R, 0) 32).1 2 = f.a2 ∧ wdS (takeS (encF f ++ R, 0) 32).1 3 = f.a3 := by
  have e : encF f = wide8 f.a0 f.a1 f.a2 f.a3 := by unfold encF; rw [if_neg (by omega), if_neg (by omega)]
  have hl := wide8_length f.a0 f.a1 f.a2 f.a3
  obtain ⟨q0, q1, q2, q3⟩ := uwd_wide8 h4
  rw [e, takeS_ok rfl (by simp only [List.length_append]; omega), List.take_left' hl, List.drop_left' hl]
  unfold wdS
  simp only [hl, if_true]
  exact ⟨trivial, q0, q1, q2, q3⟩
theorem back_rd {f : Fld} (he : okE f) (R : List UInt8) : rdS (encF f ++ R, 0) f = (R, 0) := by
  unfold rdS
  rcases kindF_cases f.k with hk | hk | hk
  · rw [if_pos hk, (back_num hk he R).2]
  · rw [if_neg (by omega), if_pos hk, back_txt hk he R]
  · rw [if_neg (by omega), if_neg (by omega)]
    have e : encF f = wide8 f.a0 f.a1 f.a2 f.a3 := by unfold encF; rw [if_neg (by omega), if_neg (by omega)]
    have hl := wide8_length f.a0 f.a1 f.a2 f.a3
    rw [e, takeS_ok rfl (by simp only [List.length_append]; omega), List.drop_left' hl]

/-- A beginning of these octets, shorter than they; or the error of too few. -/
def CutS (s : St) (l : List UInt8) : Prop := s = ([], 16) ∨ ∃ p q, s = (p, 0) ∧ p ++ q = l ∧ q ≠ []
theorem cut_short {p q x R : List UInt8} (h : p ++ q = x ++ R) (hl : p.length < x.length) : ∃ y, x = p ++ y ∧ y ≠ [] := by
  have := List.append_eq_append_iff.1 h
  rcases this with ⟨a, h1, h2⟩ | ⟨a, h1, h2⟩
  · refine ⟨a, h1, fun e => ?_⟩
    rw [e, List.append_nil] at h1
    rw [h1] at hl
    omega
  · rw [h1, List.length_append] at hl
    omega
theorem cut_long {p q x R : List UInt8} (h : p ++ q = x ++ R) (hl : x.length ≤ p.length) : ∃ p', p = x ++ p' ∧ p' ++ q = R := by
  have := List.append_eq_append_iff.1 h
  rcases this with ⟨a, h1, h2⟩ | ⟨a, h1, h2⟩
  · have ha : a = [] := by
      apply List.eq_nil_of_length_eq_zero
      have := congrArg List.length h1
      rw [List.length_append] at this
      omega
    subst ha
    exact ⟨[], by simpa using h1.symm, by simpa using h2⟩
  · exact ⟨a, h1, h2.symm⟩
theorem cut_rd {s : St} {f : Fld} (he : okE f) {R : List UInt8} (h : CutS s (encF f ++ R)) : CutS (rdS s f) R := by
  rcases h with rfl | ⟨p, q, rfl, hpq, hq⟩
  · left; exact rdS_bad (by decide) f
  · by_cases hl : (encF f).length ≤ p.length
    · obtain ⟨p', rfl, h2⟩ := cut_long hpq hl
      rw [back_rd he]
      exact .inr ⟨p', q, rfl, h2, hq⟩
    · left
      obtain ⟨y, hy, hy0⟩ := cut_short hpq (by omega)
      unfold rdS
      rcases kindF_cases f.k with hk | hk | hk
      · rw [if_pos hk]
        have e : encF f = octs (two f.n) 6 := if_pos hk
        rw [e, octs_length] at hl
        rw [mostS_short (by omega)]
      · rw [if_neg (by omega), if_pos hk]
        have h1 := he.2 hk
        have e : encF f = octs f.t.size 2 ++ f.t.data.toList := by unfold encF; rw [if_neg (by omega), if_pos hk]
        have ht : f.t.data.toList.length = f.t.size := by rw [Array.length_toList]; rfl
        rw [e, List.length_append, octs_length, ht] at hl
        unfold gtxtS
        by_cases h2 : p.length < 2
        · rw [mostS_short h2]
          rfl
        · obtain ⟨p', rfl, h3⟩ := cut_long (x := octs f.t.size 2) (R := f.t.data.toList) (p := p) (q := y) (by rw [← hy, e]) (by rw [octs_length]; omega)
          rw [mostS_ok (octs_length _ _) (by omega) (by rw [be_two h1]; omega), be_two h1]
          rw [List.length_append, octs_length] at hl
          rw [takeS_short rfl (by simp only; omega)]
      · rw [if_neg (by omega), if_neg (by omega)]
        have e : encF f = wide8 f.a0 f.a1 f.a2 f.a3 := by unfold encF; rw [if_neg (by omega), if_neg (by omega)]
        rw [e, wide8_length] at hl
        rw [takeS_short rfl (by simp only; omega)]
theorem cut_end {s : St} (h : CutS s []) : s = ([], 16) := by
  rcases h with h | ⟨p, q, _, hpq, hq⟩
  · exact h
  · exact absurd (List.append_eq_nil_iff.1 hpq).2 hq
end Go.Proofs.Ytjhfchjffiliaaa
