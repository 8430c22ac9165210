/-
  What is put of a transfer and a side's data that may be, and read again.
  What is read of octets is those octets: each field that was read is what it is written as.
  What is put of a message that may be, and read again; what is read of octets, and put again; a beginning, and more behind it.
  What is read of octets has words that are words; what Read tells, way by way.
  A struct that is known whole is loaded in one step.
  A whole row is stored: what becomes of blocks.
  A part of a block that is known whole is loaded, or stored: one step.
  A message in memory: what is loaded of it.
  wide.down hands back a sequence of a number's four words with their places, the highest first.
  wide.Cmp tells which of two wide numbers is greater.
-/
import Derived.Laws.Rows
import Derived.Laws.CopyOwn
import Derived.Laws.CopyRow
import Derived.Test.YtigdenlnnnfjlaaK04
namespace Go.Proofs.Ytigdenlnnnfjlaa
open Go.RowKit Go.Shelf

/-- A transfer's octets; a side's. -/
def encI (i : Trf) : List UInt8 := encT invB ++ (encN i.us ++ (encT i.rt ++ (encN i.ro ++ (encN i.se ++ (encN i.re ++ (encN i.to ++ encT i.id))))))
def encV (v : Sid) : List UInt8 := wide8 v.a0 v.a1 v.a2 v.a3 ++ encN v.x
theorem invB_size : invB.size = 3 := rfl
theorem actB_size : actB.size = 3 := rfl
theorem putI_ok {i : Trf} (h : maybeI i) : putI ([], 0) i = (encI i, 0) := by
  obtain ⟨⟨h0, h0'⟩, h1, ⟨h2, h2'⟩, ⟨h3, h3'⟩, ⟨h4, h4'⟩, ⟨h5, h5'⟩, h6, h6'⟩ := h
  unfold putI putI2 putI1
  rw [txt_ok (t := invB) (by decide) (by simp)]
  rw [num_ok h0 (by omega) (by simp [octs_length, invB])]
  rw [txt_ok (by omega) (by simp [octs_length, invB])]
  have hr : i.rt.data.toList.length = 8 := by rw [Array.length_toList]; exact h1
  rw [num_ok (by omega) (by omega) (by simp only [List.length_append, octs_length, hr]; simp [invB])]
  rw [num_ok h3 (by omega) (by simp only [List.length_append, octs_length, hr]; simp [invB])]
  rw [num_ok h4 (by omega) (by simp only [List.length_append, octs_length, hr]; simp [invB])]
  rw [num_ok h5 (by omega) (by simp only [List.length_append, octs_length, hr]; simp [invB])]
  rw [txt_ok (by omega) (by simp only [List.length_append, octs_length, hr]; simp [invB])]
  unfold encI encT encN
  simp only [List.nil_append, List.append_assoc]
theorem encI_length {i : Trf} (h : maybeI i) : (encI i).length ≤ 100 := by
  obtain ⟨_, h1, _, _, _, _, _, h6'⟩ := h
  simp only [encI, List.length_append, encT_length, encN_length, invB_size]; omega
theorem encV_length (v : Sid) : (encV v).length = 38 := by
  simp only [encV, List.length_append, encN_length, wide8_length]
theorem putV_ok {l : List UInt8} {v : Sid} (h : maybeV v) (hl : l.length ≤ 1000) : putV (l, 0) v = (l ++ encV v, 0) := by
  obtain ⟨_, h0, h1⟩ := h
  unfold putV
  rw [wide_ok (by omega), num_ok h0 h1 (by rw [List.length_append, wide8_length]; omega), List.append_assoc]
  rfl

theorem getI_ok {i : Trf} (h : maybeI i) (R : List UInt8) : getI (encI i ++ R, 0) = (i, (R, 0)) := by
  have h' := h
  obtain ⟨⟨h0, h0'⟩, h1, ⟨h2, h2'⟩, ⟨h3, h3'⟩, ⟨h4, h4'⟩, ⟨h5, h5'⟩, h6, h6'⟩ := h
  have hE : encI i ++ R = encT invB ++ (encN i.us ++ (encT i.rt ++ (encN i.ro ++ (encN i.se ++ (encN i.re ++ (encN i.to ++ (encT i.id ++ R))))))) := by
    unfold encI; simp only [List.append_assoc]
  rw [hE]
  have e0 : rd0 (encT invB ++ (encN i.us ++ (encT i.rt ++ (encN i.ro ++ (encN i.se ++ (encN i.re ++ (encN i.to ++ (encT i.id ++ R))))))), 0) = _ := rdT (by decide) (by decide) _
  obtain ⟨k1, e1, q1⟩ := rdN h0 (by omega) (encT i.rt ++ (encN i.ro ++ (encN i.se ++ (encN i.re ++ (encN i.to ++ (encT i.id ++ R))))))
  have e2 : gtxtS (encT i.rt ++ (encN i.ro ++ (encN i.se ++ (encN i.re ++ (encN i.to ++ (encT i.id ++ R))))), 0) 8 = _ := rdT (by omega) (by omega) _
  obtain ⟨k3, e3, q3⟩ := rdN (n := i.ro) (by omega) (by omega) (encN i.se ++ (encN i.re ++ (encN i.to ++ (encT i.id ++ R))))
  obtain ⟨k4, e4, q4⟩ := rdN h3 (by omega) (encN i.re ++ (encN i.to ++ (encT i.id ++ R)))
  obtain ⟨k5, e5, q5⟩ := rdN h4 (by omega) (encN i.to ++ (encT i.id ++ R))
  obtain ⟨k6, e6, q6⟩ := rdN h5 (by omega) (encT i.id ++ R)
  have e7 : gtxtS (encT i.id ++ R, 0) 16 = _ := rdT (by omega) (by omega) _
  generalize hS : (encT invB ++ (encN i.us ++ (encT i.rt ++ (encN i.ro ++ (encN i.se ++ (encN i.re ++ (encN i.to ++ (encT i.id ++ R))))))), (0 : Int)) = S at *
  have f1 := (rfl : rd1 S = mostS (rd0 S).2 6 big).trans ((congrArg (fun x : List UInt8 × St => mostS x.2 6 big) e0).trans e1)
  have f2 := (rfl : rd2 S = gtxtS (rd1 S).2 8).trans ((congrArg (fun x : Nat × St => gtxtS x.2 8) f1).trans e2)
  have f3 := (rfl : rd3 S = mostS (rd2 S).2 6 big).trans ((congrArg (fun x : List UInt8 × St => mostS x.2 6 big) f2).trans e3)
  have f4 := (rfl : rd4 S = mostS (rd3 S).2 6 big).trans ((congrArg (fun x : Nat × St => mostS x.2 6 big) f3).trans e4)
  have f5 := (rfl : rd5 S = mostS (rd4 S).2 6 big).trans ((congrArg (fun x : Nat × St => mostS x.2 6 big) f4).trans e5)
  have f6 := (rfl : rd6 S = mostS (rd5 S).2 6 big).trans ((congrArg (fun x : Nat × St => mostS x.2 6 big) f5).trans e6)
  have f7 := (rfl : rd7 S = gtxtS (rd6 S).2 16).trans ((congrArg (fun x : Nat × St => gtxtS x.2 16) f6).trans e7)
  have hraw : rawI S = i := by
    unfold rawI
    rw [f1, f2, f3, f4, f5, f6, f7, str_of_list, str_of_list]
    simp only [q1, q3, q4, q5, q6]
  have hg : goodI S := by
    refine ⟨?_, by rw [hraw]; exact h'⟩
    rw [e0]
    exact str_of_list invB
  rw [getI_yes (by rw [f7]) hg, hraw, f7]
theorem getV_ok {v : Sid} (h : maybeV v) (h4 : Ok4 v.a0 v.a1 v.a2 v.a3) (R : List UInt8) : getV (encV v ++ R, 0) = (v, (R, 0)) := by
  have h' := h
  obtain ⟨_, h0, h1⟩ := h
  obtain ⟨e0, w0, w1, w2, w3⟩ := rd_wide h4 (encN v.x ++ R)
  obtain ⟨k, e1, q1⟩ := rdN h0 h1 R
  have f0 : vd0 (encV v ++ R, 0) = (wide8 v.a0 v.a1 v.a2 v.a3, (encN v.x ++ R, 0)) := by
    unfold vd0 encV; rw [List.append_assoc]; exact e0
  have f1 : vd1 (encV v ++ R, 0) = (k, (R, 0)) := by unfold vd1; rw [f0]; exact e1
  have hraw : rawV (encV v ++ R, 0) = v := by
    unfold rawV
    rw [f0, f1]
    simp only [w0, w1, w2, w3, q1]
  rw [getV_yes (by rw [f1]) (by rw [hraw]; exact h'), hraw, f1]

theorem txt_ok2 {l : List UInt8} {t : ByteArray} (h1 : t.size ≤ 1024) (h : l.length ≤ 7000) : txtS (l, 0) t = (l ++ encT t, 0) := by
  have hl := encT_length t
  unfold txtS
  rw [if_pos h1]
  exact add_ok (by have : (encT t).length = t.size + 2 := hl; unfold encT at this; omega)
theorem num_ok2 {l : List UInt8} {n : Int} (h0 : 0 ≤ n) (h1 : n ≤ 1099511627776) (h : l.length ≤ 8000) : numS (l, 0) n = (l ++ encN n, 0) := num_ok h0 h1 h
theorem putI_at {l : List UInt8} {i : Trf} (h : maybeI i) (hl : l.length ≤ 1000) : putI (l, 0) i = (l ++ encI i, 0) := by
  obtain ⟨⟨h0, h0'⟩, h1, ⟨h2, h2'⟩, ⟨h3, h3'⟩, ⟨h4, h4'⟩, ⟨h5, h5'⟩, h6, h6'⟩ := h
  have t0 := encT_length invB
  have t1 := encT_length i.rt
  have n0 := encN_length i.us
  have n1 := encN_length i.ro
  have n2 := encN_length i.se
  have n3 := encN_length i.re
  have n4 := encN_length i.to
  rw [invB_size] at t0
  unfold putI putI2 putI1
  rw [txt_ok2 (t := invB) (by decide) (by omega)]
  rw [num_ok2 h0 (by omega) (by simp only [List.length_append]; omega)]
  rw [txt_ok2 (by omega) (by simp only [List.length_append]; omega)]
  rw [num_ok2 (by omega) (by omega) (by simp only [List.length_append]; omega)]
  rw [num_ok2 h3 (by omega) (by simp only [List.length_append]; omega)]
  rw [num_ok2 h4 (by omega) (by simp only [List.length_append]; omega)]
  rw [num_ok2 h5 (by omega) (by simp only [List.length_append]; omega)]
  rw [txt_ok2 (by omega) (by simp only [List.length_append]; omega)]
  unfold encI
  simp only [List.append_assoc]
end Go.Proofs.Ytigdenlnnnfjlaa

namespace Go.Proofs.Ytigdenlnnnfjlaa
open Go.RowKit Go.Shelf

/-- A number of octets has these octets. -/
theorem octs_be (l : List UInt8) : octs (be l) l.length = l := by
  have h : ∀ (n : Nat) (l : List UInt8), l.length = n → octs (be l) n = l := by
    intro n
    induction n with
    | zero => intro l hl; rw [List.length_eq_zero_iff.1 hl]; rfl
    | succ n ih =>
      intro l hl
      have hne : l ≠ [] := fun e => by rw [e] at hl; simp at hl
      obtain ⟨r, x, rfl⟩ : ∃ r x, l = r ++ [x] := ⟨l.dropLast, l.getLast hne, (List.dropLast_concat_getLast hne).symm⟩
      have hr : r.length = n := by simpa using hl
      have hx := x.toNat_lt
      rw [octs_snoc, be_snoc]
      have h1 : (be r * 256 + x.toNat) / 256 = be r := by omega
      have h2 : oct (be r * 256 + x.toNat) 0 = x := by
        unfold oct
        rw [show (be r * 256 + x.toNat) / 2 ^ (0 * 8) = be r * 256 + x.toNat by simp]
        apply UInt8.toNat_inj.1
        rw [UInt8.toNat_ofNat']
        omega
      rw [h1, h2, ih r hr]
  exact h l.length l rfl
theorem two_of {n : Nat} (h : n < 18446744073709551616) : two (n : Int) = n := by unfold two; omega
theorem take_zero_err {s : St} {n : Nat} (h : (takeS s n).2.2 = 0) : s.2 = 0 ∧ n ≤ s.1.length ∧ takeS s n = (s.1.take n, (s.1.drop n, 0)) := by
  by_cases h0 : s.2 = 0
  · by_cases h1 : n ≤ s.1.length
    · exact ⟨h0, h1, takeS_ok h0 h1⟩
    · rw [takeS_short h0 (by omega)] at h
      exact absurd h (by decide)
  · rw [takeS_bad h0] at h
    exact absurd h h0
theorem most_zero_err {s : St} {n : Nat} {m : Int} (h : (mostS s n m).2.2 = 0) : s.2 = 0 ∧ n ≤ s.1.length ∧ mostS s n m = (be ((s.1.take n).take 7), (s.1.drop n, 0)) ∧ (be ((s.1.take n).take 7) : Int) ≤ m := by
  unfold mostS at h ⊢
  by_cases hc : (takeS s n).2.2 = 0 ∧ m < (be ((takeS s n).1.take 7) : Int)
  · rw [if_pos hc] at h
    exact absurd h (by decide)
  · rw [if_neg hc] at h ⊢
    obtain ⟨h0, h1, h2⟩ := take_zero_err h
    rw [h2] at hc ⊢
    exact ⟨h0, h1, rfl, by
      rcases Int.lt_or_le m (be ((s.1.take n).take 7) : Int) with h3 | h3
      · exact absurd ⟨rfl, h3⟩ hc
      · exact h3⟩
/-- A number that is read. -/
theorem rb_num {s : St} (h : (mostS s 6 big).2.2 = 0) : s.2 = 0 ∧ s.1 = encN ((mostS s 6 big).1 : Nat) ++ (mostS s 6 big).2.1 := by
  obtain ⟨h0, h1, h2, h3⟩ := most_zero_err h
  refine ⟨h0, ?_⟩
  rw [h2]
  have hl : (s.1.take 6).length = 6 := by rw [List.length_take]; omega
  have ht : (s.1.take 6).take 7 = s.1.take 6 := List.take_of_length_le (by omega)
  rw [ht] at h3 ⊢
  have ho := octs_be (s.1.take 6)
  rw [hl] at ho
  show s.1 = octs (two ((be (s.1.take 6) : Nat) : Int)) 6 ++ s.1.drop 6
  rw [two_of (by have : (be (s.1.take 6) : Int) ≤ 1099511627776 := h3; omega), ho, List.take_append_drop]
/-- A text that is read. -/
theorem rb_txt {s : St} {m : Int} (h : (gtxtS s m).2.2 = 0) : s.2 = 0 ∧ s.1 = encT (str (gtxtS s m).1) ++ (gtxtS s m).2.1 := by
  unfold gtxtS at h ⊢
  obtain ⟨g0, g1, g2⟩ := take_zero_err h
  obtain ⟨h0, h1, h2, h3⟩ := most_zero_err g0
  refine ⟨h0, ?_⟩
  rw [g2]
  rw [h2] at g1 ⊢
  have hl : (s.1.take 2).length = 2 := by rw [List.length_take]; omega
  have ht : (s.1.take 2).take 7 = s.1.take 2 := List.take_of_length_le (by omega)
  rw [ht] at g1 ⊢
  have ho := octs_be (s.1.take 2)
  rw [hl] at ho
  dsimp only at g1 ⊢
  have hz : (str ((s.1.drop 2).take (be (s.1.take 2)))).size = be (s.1.take 2) := by
    show ((s.1.drop 2).take (be (s.1.take 2))).toArray.size = _
    rw [List.size_toArray, List.length_take]; omega
  unfold encT
  rw [hz, ho]
  show s.1 = s.1.take 2 ++ (s.1.drop 2).take (be (s.1.take 2)) ++ (s.1.drop 2).drop (be (s.1.take 2))
  rw [List.append_assoc, List.take_append_drop, List.take_append_drop]
theorem wide8_of {l : List UInt8} (h : l.length = 32) : wide8 (wdS l 0) (wdS l 1) (wdS l 2) (wdS l 3) = l ∧ Ok4 (wdS l 0) (wdS l 1) (wdS l 2) (wdS l 3) := by
  have hw : ∀ q, wdS l q = be ((l.drop (8 * (3 - q))).take 8) := fun q => by
    unfold wdS uwd
    rw [if_pos h, List.take_of_length_le (l := l) (by omega)]
  have l8 : ∀ k, k ≤ 24 → ((l.drop k).take 8).length = 8 := fun k hk => by rw [List.length_take, List.length_drop]; omega
  have ho : ∀ k, k ≤ 24 → octs (be ((l.drop k).take 8)) 8 = (l.drop k).take 8 := fun k hk => by
    have := octs_be ((l.drop k).take 8)
    rw [l8 k hk] at this
    exact this
  have hM : ∀ k, k ≤ 24 → be ((l.drop k).take 8) < M := fun k hk => by
    have := be_lt ((l.drop k).take 8)
    rw [l8 k hk] at this
    unfold M; omega
  rw [hw 0, hw 1, hw 2, hw 3]
  refine ⟨?_, hM _ (by omega), hM _ (by omega), hM _ (by omega), hM _ (by omega)⟩
  unfold wide8
  rw [ho _ (by omega), ho _ (by omega), ho _ (by omega), ho _ (by omega)]
  have e1 : ∀ k, (l.drop k).take 8 ++ l.drop (k + 8) = l.drop k := fun k => by
    rw [← List.drop_drop]; exact List.take_append_drop 8 _
  have e4 : (l.drop 24).take 8 = l.drop 24 := List.take_of_length_le (by rw [List.length_drop]; omega)
  show (l.drop 0).take 8 ++ ((l.drop 8).take 8 ++ ((l.drop 16).take 8 ++ (l.drop 24).take 8)) = l
  rw [e4, e1 16, e1 8, e1 0]
  rfl
/-- A wide number that is read. -/
theorem rb_wide {s : St} (h : (takeS s 32).2.2 = 0) : s.2 = 0 ∧ s.1 = wide8 (wdS (takeS s 32).1 0) (wdS (takeS s 32).1 1) (wdS (takeS s 32).1 2) (wdS (takeS s 32).1 3) ++ (takeS s 32).2.1 ∧ Ok4 (wdS (takeS s 32).1 0) (wdS (takeS s 32).1 1) (wdS (takeS s 32).1 2) (wdS (takeS s 32).1 3) := by
  obtain ⟨h0, h1, h2⟩ := take_zero_err h
  rw [h2]
  obtain ⟨hw, hk⟩ := wide8_of (l := s.1.take 32) (by rw [List.length_take]; omega)
  refine ⟨h0, ?_, hk⟩
  dsimp only
  rw [hw, List.take_append_drop]
/-- A transfer that is read. -/
theorem rb_inv {s : St} (h : (getI s).2.2 = 0) : s.2 = 0 ∧ s.1 = encI (getI s).1 ++ (getI s).2.1 ∧ maybeI (getI s).1 := by
  have hc : (rd7 s).2.2 = 0 ∧ goodI s := by
    by_cases hc : (rd7 s).2.2 = 0 ∧ goodI s
    · exact hc
    · unfold getI at h
      rw [if_neg hc] at h
      exact absurd h (errS_ne _)
  rw [getI_yes hc.1 hc.2]
  obtain ⟨h7, e7⟩ := rb_txt (s := (rd6 s).2) (m := 16) hc.1
  obtain ⟨h6, e6⟩ := rb_num (s := (rd5 s).2) h7
  obtain ⟨h5, e5⟩ := rb_num (s := (rd4 s).2) h6
  obtain ⟨h4, e4⟩ := rb_num (s := (rd3 s).2) h5
  obtain ⟨h3, e3⟩ := rb_num (s := (rd2 s).2) h4
  obtain ⟨h2, e2⟩ := rb_txt (s := (rd1 s).2) (m := 8) h3
  obtain ⟨h1, e1⟩ := rb_num (s := (rd0 s).2) h2
  obtain ⟨h0, e0⟩ := rb_txt (s := s) (m := 16) h1
  refine ⟨h0, ?_, hc.2.2⟩
  have f0 : s.1 = encT (str (rd0 s).1) ++ (rd0 s).2.1 := e0
  have f1 : (rd0 s).2.1 = encN ((rd1 s).1 : Nat) ++ (rd1 s).2.1 := e1
  have f2 : (rd1 s).2.1 = encT (str (rd2 s).1) ++ (rd2 s).2.1 := e2
  have f3 : (rd2 s).2.1 = encN ((rd3 s).1 : Nat) ++ (rd3 s).2.1 := e3
  have f4 : (rd3 s).2.1 = encN ((rd4 s).1 : Nat) ++ (rd4 s).2.1 := e4
  have f5 : (rd4 s).2.1 = encN ((rd5 s).1 : Nat) ++ (rd5 s).2.1 := e5
  have f6 : (rd5 s).2.1 = encN ((rd6 s).1 : Nat) ++ (rd6 s).2.1 := e6
  have f7 : (rd6 s).2.1 = encT (str (rd7 s).1) ++ (rd7 s).2.1 := e7
  rw [f0, f1, f2, f3, f4, f5, f6, f7, hc.2.1]
  unfold encI rawI
  simp only [List.append_assoc]
/-- A side's data that is read. -/
theorem rb_var {s : St} (h : (getV s).2.2 = 0) : s.2 = 0 ∧ s.1 = encV (getV s).1 ++ (getV s).2.1 ∧ maybeV (getV s).1 ∧ Ok4 (getV s).1.a0 (getV s).1.a1 (getV s).1.a2 (getV s).1.a3 := by
  have hc : (vd1 s).2.2 = 0 ∧ maybeV (rawV s) := by
    by_cases hc : (vd1 s).2.2 = 0 ∧ maybeV (rawV s)
    · exact hc
    · unfold getV at h
      rw [if_neg hc] at h
      exact absurd h (errS_ne _)
  rw [getV_yes hc.1 hc.2]
  obtain ⟨h1, e1⟩ := rb_num (s := (vd0 s).2) hc.1
  obtain ⟨h0, e0, hk⟩ := rb_wide (s := s) h1
  have f0 : s.1 = wide8 (wdS (vd0 s).1 0) (wdS (vd0 s).1 1) (wdS (vd0 s).1 2) (wdS (vd0 s).1 3) ++ (vd0 s).2.1 := e0
  have f1 : (vd0 s).2.1 = encN ((vd1 s).1 : Nat) ++ (vd1 s).2.1 := e1
  refine ⟨h0, ?_, hc.2, hk⟩
  rw [f0, f1]
  unfold encV rawV
  simp only [List.append_assoc]
end Go.Proofs.Ytigdenlnnnfjlaa

namespace Go.Proofs.Ytigdenlnnnfjlaa
open Go.RowKit Go.Shelf

/-- An ask that is read. -/
theorem rb_ask {s : St} (h : (getA s).2.2 = 0) : s.2 = 0 ∧ s.1 = encA (getA s).1 ++ (getA s).2.1 ∧ maybeA (getA s).1 ∧ OkA (getA s).1 := by
  have hc : (ad5 s).2.2 = 0 ∧ maybeA (rawA s) := by
    by_cases hc : (ad5 s).2.2 = 0 ∧ maybeA (rawA s)
    · exact hc
    · unfold getA at h
      rw [if_neg hc] at h
      exact absurd h (errS_ne _)
  rw [getA_yes hc.1 hc.2]
  obtain ⟨h5, e5⟩ := rb_txt (s := (ad4 s).2) (m := 16) hc.1
  obtain ⟨h4, e4, k4⟩ := rb_wide (s := (ad3 s).2) h5
  obtain ⟨h3, e3⟩ := rb_num (s := (ad2 s).2) h4
  obtain ⟨h2, e2⟩ := rb_num (s := (ad1 s).2) h3
  obtain ⟨h1, e1⟩ := rb_num (s := (ad0 s).2) h2
  obtain ⟨h0, e0⟩ := rb_num (s := s) h1
  have f0 : s.1 = encN ((ad0 s).1 : Nat) ++ (ad0 s).2.1 := e0
  have f1 : (ad0 s).2.1 = encN ((ad1 s).1 : Nat) ++ (ad1 s).2.1 := e1
  have f2 : (ad1 s).2.1 = encN ((ad2 s).1 : Nat) ++ (ad2 s).2.1 := e2
  have f3 : (ad2 s).2.1 = encN ((ad3 s).1 : Nat) ++ (ad3 s).2.1 := e3
  have f4 : (ad3 s).2.1 = wide8 (wdS (ad4 s).1 0) (wdS (ad4 s).1 1) (wdS (ad4 s).1 2) (wdS (ad4 s).1 3) ++ (ad4 s).2.1 := e4
  have f5 : (ad4 s).2.1 = encT (str (ad5 s).1) ++ (ad5 s).2.1 := e5
  refine ⟨h0, ?_, hc.2, ⟨k4⟩⟩
  rw [f0, f1, f2, f3, f4, f5]
  unfold encA rawA
  simp only [List.append_assoc]
theorem putA_at {l : List UInt8} {a : Ak} (h : maybeA a) (hl : l.length ≤ 1000) : putA (l, 0) a = (l ++ encA a, 0) := by
  obtain ⟨⟨h0, h0'⟩, ⟨h1, h1'⟩, ⟨h2, h2'⟩, ⟨h3, h3'⟩, h4, h5, h5'⟩ := h
  have n0 := encN_length a.us
  have n1 := encN_length a.se
  have n2 := encN_length a.re
  have n3 := encN_length a.to
  have n4 := wide8_length a.a0 a.a1 a.a2 a.a3
  unfold putA putA4
  rw [num_ok2 h0 (by omega) (by omega)]
  rw [num_ok2 h1 (by omega) (by simp only [List.length_append]; omega)]
  rw [num_ok2 h2 (by omega) (by simp only [List.length_append]; omega)]
  rw [num_ok2 h3 (by omega) (by simp only [List.length_append]; omega)]
  rw [wide_ok (by simp only [List.length_append]; omega)]
  rw [txt_ok2 (by omega) (by simp only [List.length_append]; omega)]
  unfold encA
  simp only [List.append_assoc]
/-- A message's octets. -/
def encD (b : Bd) : List UInt8 := encN b.ro ++ (encA b.k ++ (wide8 b.b0 b.b1 b.b2 b.b3 ++ (encN b.un ++ encT b.sg)))
def encR (m : Ms) : List UInt8 := encI m.iv ++ (encV m.vr ++ (wide8 m.f0 m.f1 m.f2 m.f3 ++ encT m.sg))
def encG (m : Ms) : List UInt8 := encN m.kd ++ (if m.kd = 1 then encA m.ak else if m.kd = 2 then encD m.bd else encR m)
theorem errG_kind {m : Ms} (h : errG m = 0) : m.kd = 1 ∧ maybeA m.ak ∨ m.kd = 2 ∧ maybeB m.bd ∨ m.kd = 3 ∧ maybeI m.iv ∧ maybeV m.vr ∧ m.sg.size ≤ 1024 := by
  unfold errG at h
  by_cases k1 : m.kd = 1
  · rw [if_pos k1] at h
    by_cases ha : maybeA m.ak
    · exact .inl ⟨k1, ha⟩
    · rw [errA_bad ha] at h; exact absurd h (by decide)
  · rw [if_neg k1] at h
    by_cases k2 : m.kd = 2
    · rw [if_pos k2] at h
      by_cases hb : maybeB m.bd
      · exact .inr (.inl ⟨k2, hb⟩)
      · rw [errB_bad hb] at h; exact absurd h (by decide)
    · rw [if_neg k2] at h
      by_cases k3 : m.kd = 3
      · rw [if_pos k3, errL] at h
        by_cases hi : maybeI m.iv
        · rw [if_pos hi] at h
          by_cases hv : maybeV m.vr
          · rw [if_pos hv] at h
            by_cases hs : m.sg.size ≤ 1024
            · exact .inr (.inr ⟨k3, hi, hv, hs⟩)
            · rw [if_neg hs] at h; exact absurd h (by decide)
          · rw [if_neg hv] at h; exact absurd h (by decide)
        · rw [if_neg hi] at h; exact absurd h (by decide)
      · rw [if_neg k3] at h; exact absurd h (by decide)
theorem putG_ok {m : Ms} (h : errG m = 0) : putG m = (encG m, 0) ∧ (encG m).length ≤ 8192 := by
  have n0 := encN_length m.kd
  have hk : ∀ (h1 : 1 ≤ m.kd) (h2 : m.kd ≤ 3), numS ([], 0) m.kd = (encN m.kd, 0) := fun h1 h2 => by
    rw [num_ok2 (by omega) (by omega) (by simp), List.nil_append]
  unfold putG encG
  rcases errG_kind h with ⟨k, ha⟩ | ⟨k, hb⟩ | ⟨k, hi, hv, hs⟩
  · rw [if_pos k, if_pos k, hk (by omega) (by omega)]
    have la := encA_length ha
    exact ⟨putA_at ha (by omega), by rw [List.length_append]; omega⟩
  · have k1 : ¬ m.kd = 1 := by omega
    rw [if_neg k1, if_neg k1, if_pos k, if_pos k, hk (by omega) (by omega)]
    obtain ⟨⟨r0, r1⟩, ha, hz, _, ⟨u0, u1⟩, hs⟩ := hb
    have la := encA_length ha
    have l0 := encN_length m.bd.ro
    have l1 := wide8_length m.bd.b0 m.bd.b1 m.bd.b2 m.bd.b3
    have l2 := encN_length m.bd.un
    have l3 := encT_length m.bd.sg
    refine ⟨?_, by unfold encD; simp only [List.length_append]; omega⟩
    unfold putD encD
    rw [num_ok2 (by omega) (by omega) (by omega), putA_at ha (by simp only [List.length_append]; omega), wide_ok (by simp only [List.length_append]; omega), num_ok2 u0 u1 (by simp only [List.length_append]; omega), txt_ok2 hs (by simp only [List.length_append]; omega)]
    simp only [List.append_assoc]
  · have k1 : ¬ m.kd = 1 := by omega
    have k2 : ¬ m.kd = 2 := by omega
    rw [if_neg k1, if_neg k1, if_neg k2, if_neg k2, hk (by omega) (by omega)]
    have li := encI_length hi
    have lv := encV_length m.vr
    have l1 := wide8_length m.f0 m.f1 m.f2 m.f3
    have l3 := encT_length m.sg
    refine ⟨?_, by unfold encR; simp only [List.length_append]; omega⟩
    unfold putR encR
    rw [putI_at hi (by omega), putV_ok hv (by simp only [List.length_append]; omega), wide_ok (by simp only [List.length_append]; omega), txt_ok2 hs (by simp only [List.length_append]; omega)]
    simp only [List.append_assoc]
/-- A message that is put is read, whatever stands behind it. -/
theorem rawG_enc {m : Ms} (h : errG m = 0) (hm : OkM m) (R : List UInt8) : rawG (encG m ++ R, 0) = (plainM m, (R, 0)) := by
  have hk : 1 ≤ m.kd ∧ m.kd ≤ 3 := by rcases errG_kind h with ⟨k, _⟩ | ⟨k, _⟩ | ⟨k, _⟩ <;> omega
  obtain ⟨x0, e0, q0⟩ := rdN (n := m.kd) (by omega) (by omega) ((if m.kd = 1 then encA m.ak else if m.kd = 2 then encD m.bd else encR m) ++ R)
  have f0 : gd0 (encG m ++ R, 0) = (x0, ((if m.kd = 1 then encA m.ak else if m.kd = 2 then encD m.bd else encR m) ++ R, 0)) := by
    unfold gd0 encG; rw [List.append_assoc]; exact e0
  have fk : kdG (encG m ++ R, 0) = m.kd := by unfold kdG; rw [f0]; exact q0
  unfold rawG plainM
  rw [fk, f0]
  dsimp only
  rcases errG_kind h with ⟨k, ha⟩ | ⟨k, hb⟩ | ⟨k, hi, hv, hs⟩
  · rw [if_pos k, if_pos k, if_pos k, getA_ok ha hm.a.k, k]
  · have k1 : ¬ m.kd = 1 := by omega
    rw [if_neg k1, if_pos k, if_neg k1, if_pos k, if_neg k1, if_pos k, k]
    obtain ⟨⟨r0, r1⟩, ha, hz, _, ⟨u0, u1⟩, hs⟩ := hb
    have hE : encD m.bd ++ R = encN m.bd.ro ++ (encA m.bd.k ++ (wide8 m.bd.b0 m.bd.b1 m.bd.b2 m.bd.b3 ++ (encN m.bd.un ++ (encT m.bd.sg ++ R)))) := by
      unfold encD; simp only [List.append_assoc]
    rw [hE]
    obtain ⟨y0, g0, p0⟩ := rdN (n := m.bd.ro) (by omega) (by omega) (encA m.bd.k ++ (wide8 m.bd.b0 m.bd.b1 m.bd.b2 m.bd.b3 ++ (encN m.bd.un ++ (encT m.bd.sg ++ R))))
    have g1 := getA_ok ha hm.b.k (wide8 m.bd.b0 m.bd.b1 m.bd.b2 m.bd.b3 ++ (encN m.bd.un ++ (encT m.bd.sg ++ R)))
    obtain ⟨g2, w0, w1, w2, w3⟩ := rd_wide hm.b.b (encN m.bd.un ++ (encT m.bd.sg ++ R))
    obtain ⟨y3, g3, p3⟩ := rdN (n := m.bd.un) u0 u1 (encT m.bd.sg ++ R)
    have g4 := rdT (t := m.bd.sg) (m := 1024) hs (by omega) R
    generalize hS : (encN m.bd.ro ++ (encA m.bd.k ++ (wide8 m.bd.b0 m.bd.b1 m.bd.b2 m.bd.b3 ++ (encN m.bd.un ++ (encT m.bd.sg ++ R)))), (0 : Int)) = S at *
    have c0 : bd0 S = (y0, _) := g0
    have c1 := (rfl : bd1 S = getA (bd0 S).2).trans ((congrArg (fun x : Nat × St => getA x.2) c0).trans g1)
    have c2 := (rfl : bd2 S = takeS (bd1 S).2 32).trans ((congrArg (fun x : Ak × St => takeS x.2 32) c1).trans g2)
    have c3 := (rfl : bd3 S = mostS (bd2 S).2 6 big).trans ((congrArg (fun x : List UInt8 × St => mostS x.2 6 big) c2).trans g3)
    have c4 := (rfl : bd4 S = gtxtS (bd3 S).2 1024).trans ((congrArg (fun x : Nat × St => gtxtS x.2 1024) c3).trans g4)
    unfold rawD
    rw [c0, c1, c2, c3, c4, str_of_list]
    simp only [p0, p3, w0, w1, w2, w3]
  · have k1 : ¬ m.kd = 1 := by omega
    have k2 : ¬ m.kd = 2 := by omega
    rw [if_neg k1, if_neg k2, if_pos k, if_neg k1, if_neg k2, if_neg k1, if_neg k2, if_pos k, k]
    have hE : encR m ++ R = encI m.iv ++ (encV m.vr ++ (wide8 m.f0 m.f1 m.f2 m.f3 ++ (encT m.sg ++ R))) := by
      unfold encR; simp only [List.append_assoc]
    rw [hE]
    have g0 := getI_ok hi (encV m.vr ++ (wide8 m.f0 m.f1 m.f2 m.f3 ++ (encT m.sg ++ R)))
    have g1 := getV_ok hv hm.v (wide8 m.f0 m.f1 m.f2 m.f3 ++ (encT m.sg ++ R))
    obtain ⟨g2, w0, w1, w2, w3⟩ := rd_wide hm.f (encT m.sg ++ R)
    have g3 := rdT (t := m.sg) (m := 1024) hs (by omega) R
    generalize hS : (encI m.iv ++ (encV m.vr ++ (wide8 m.f0 m.f1 m.f2 m.f3 ++ (encT m.sg ++ R))), (0 : Int)) = S at *
    have c0 : ld0 S = (m.iv, _) := g0
    have c1 := (rfl : ld1 S = getV (ld0 S).2).trans ((congrArg (fun x : Trf × St => getV x.2) c0).trans g1)
    have c2 := (rfl : ld2 S = takeS (ld1 S).2 32).trans ((congrArg (fun x : Sid × St => takeS x.2 32) c1).trans g2)
    have c3 := (rfl : ld3 S = gtxtS (ld2 S).2 1024).trans ((congrArg (fun x : List UInt8 × St => gtxtS x.2 1024) c2).trans g3)
    rw [c0, c1, c2, c3, str_of_list]
    simp only [w0, w1, w2, w3]
theorem errG_plain {m : Ms} (h : errG m = 0) : errG (plainM m) = 0 := by
  rcases errG_kind h with ⟨k, ha⟩ | ⟨k, hb⟩ | ⟨k, hi, hv, hs⟩
  · have e : plainM m = { noM with kd := m.kd, ak := m.ak } := if_pos k
    have g : errG { noM with kd := m.kd, ak := m.ak } = errA m.ak := if_pos k
    rw [e, g]
    exact errA_zero ha
  · have k1 : ¬ m.kd = 1 := by omega
    have e : plainM m = { noM with kd := m.kd, bd := m.bd } := (if_neg k1).trans (if_pos k)
    have g : errG { noM with kd := m.kd, bd := m.bd } = errB m.bd := (if_neg k1).trans (if_pos k)
    rw [e, g]
    exact errB_zero hb
  · have k1 : ¬ m.kd = 1 := by omega
    have k2 : ¬ m.kd = 2 := by omega
    have e : plainM m = { noM with kd := m.kd, iv := m.iv, vr := m.vr, f0 := m.f0, f1 := m.f1, f2 := m.f2, f3 := m.f3, sg := m.sg } := (if_neg k1).trans ((if_neg k2).trans (if_pos k))
    have g : errG { noM with kd := m.kd, iv := m.iv, vr := m.vr, f0 := m.f0, f1 := m.f1, f2 := m.f2, f3 := m.f3, sg := m.sg } = errL m := (if_neg k1).trans ((if_neg k2).trans (if_pos k))
    rw [e, g]
    unfold errL
    rw [if_pos hi, if_pos hv, if_pos hs]
/-- What is put comes back. -/
theorem msg_back {m : Ms} (h : errG m = 0) (hm : OkM m) : octG m = (encG m, 0) ∧ (encG m).length ≤ 8192 ∧ readG (openS (encG m)) = (plainM m, 0) := by
  obtain ⟨h1, h2⟩ := putG_ok h
  refine ⟨by rw [octG_yes h, h1], h2, ?_⟩
  have ho : openS (encG m) = (encG m, 0) := if_pos h2
  have hr := rawG_enc h hm []
  rw [List.append_nil] at hr
  rw [ho]
  unfold readG
  rw [hr]
  exact (if_pos rfl).trans (if_pos ⟨errG_plain h, rfl⟩)
theorem ok4_0 : Ok4 0 0 0 0 := ⟨M_pos, M_pos, M_pos, M_pos⟩
/-- What is read is what is put of it. -/
theorem rawG_dec {s : St} (h : (rawG s).2.2 = 0) (hE : errG (rawG s).1 = 0) : s.2 = 0 ∧ s.1 = encG (rawG s).1 ++ (rawG s).2.1 ∧ OkM (rawG s).1 := by
  have hk : (rawG s).1.kd = kdG s := by
    unfold rawG
    split
    · rename_i k; exact k.symm
    · split
      · rename_i k; exact k.symm
      · split
        · rename_i k; exact k.symm
        · rfl
  have hdone : ∀ (X : List UInt8), (gd0 s).2.2 = 0 → (gd0 s).2.1 = X → s.2 = 0 ∧ s.1 = encN (kdG s) ++ X := fun X g0 g1 => by
    obtain ⟨a0, a1⟩ := rb_num (s := s) g0
    have a2 : s.1 = encN (kdG s) ++ (gd0 s).2.1 := a1
    exact ⟨a0, by rw [a2, g1]⟩
  have hc := errG_kind hE
  rw [hk] at hc
  unfold rawG at h hE ⊢
  by_cases k1 : kdG s = 1
  · rw [if_pos k1] at h hE ⊢
    obtain ⟨b0, b1, _, b3⟩ := rb_ask h
    obtain ⟨c0, c1⟩ := hdone _ b0 b1
    refine ⟨c0, ?_, ⟨b3, ⟨ok4_0, ok4_0⟩, ok4_0, ok4_0⟩⟩
    rw [c1, k1]
    unfold encG
    rw [if_pos rfl, List.append_assoc]
  · rw [if_neg k1] at h hE ⊢
    by_cases k2 : kdG s = 2
    · rw [if_pos k2] at h hE ⊢
      obtain ⟨a4, e4⟩ := rb_txt (s := (bd3 (gd0 s).2).2) (m := 1024) h
      obtain ⟨a3, e3⟩ := rb_num (s := (bd2 (gd0 s).2).2) a4
      obtain ⟨a2, e2, k4⟩ := rb_wide (s := (bd1 (gd0 s).2).2) a3
      obtain ⟨a1, e1, _, kA⟩ := rb_ask (s := (bd0 (gd0 s).2).2) a2
      obtain ⟨a0, e0⟩ := rb_num (s := (gd0 s).2) a1
      have f0 : (gd0 s).2.1 = encN ((bd0 (gd0 s).2).1 : Nat) ++ (bd0 (gd0 s).2).2.1 := e0
      have f1 : (bd0 (gd0 s).2).2.1 = encA (bd1 (gd0 s).2).1 ++ (bd1 (gd0 s).2).2.1 := e1
      have f2 : (bd1 (gd0 s).2).2.1 = wide8 (wdS (bd2 (gd0 s).2).1 0) (wdS (bd2 (gd0 s).2).1 1) (wdS (bd2 (gd0 s).2).1 2) (wdS (bd2 (gd0 s).2).1 3) ++ (bd2 (gd0 s).2).2.1 := e2
      have f3 : (bd2 (gd0 s).2).2.1 = encN ((bd3 (gd0 s).2).1 : Nat) ++ (bd3 (gd0 s).2).2.1 := e3
      have f4 : (bd3 (gd0 s).2).2.1 = encT (str (bd4 (gd0 s).2).1) ++ (bd4 (gd0 s).2).2.1 := e4
      obtain ⟨c0, c1⟩ := hdone _ a0 f0
      refine ⟨c0, ?_, ⟨⟨ok4_0⟩, ⟨kA.k, k4⟩, ok4_0, ok4_0⟩⟩
      rw [c1, f1, f2, f3, f4, k2]
      unfold encG encD rawD
      dsimp only
      rw [if_neg (by decide), if_pos rfl]
      simp only [List.append_assoc]
    · rw [if_neg k2] at h hE ⊢
      by_cases k3 : kdG s = 3
      · rw [if_pos k3] at h hE ⊢
        obtain ⟨a3, e3⟩ := rb_txt (s := (ld2 (gd0 s).2).2) (m := 1024) h
        obtain ⟨a2, e2, k4⟩ := rb_wide (s := (ld1 (gd0 s).2).2) a3
        obtain ⟨a1, e1, _, kv⟩ := rb_var (s := (ld0 (gd0 s).2).2) a2
        obtain ⟨a0, e0, _⟩ := rb_inv (s := (gd0 s).2) a1
        have f0 : (gd0 s).2.1 = encI (ld0 (gd0 s).2).1 ++ (ld0 (gd0 s).2).2.1 := e0
        have f1 : (ld0 (gd0 s).2).2.1 = encV (ld1 (gd0 s).2).1 ++ (ld1 (gd0 s).2).2.1 := e1
        have f2 : (ld1 (gd0 s).2).2.1 = wide8 (wdS (ld2 (gd0 s).2).1 0) (wdS (ld2 (gd0 s).2).1 1) (wdS (ld2 (gd0 s).2).1 2) (wdS (ld2 (gd0 s).2).1 3) ++ (ld2 (gd0 s).2).2.1 := e2
        have f3 : (ld2 (gd0 s).2).2.1 = encT (str (ld3 (gd0 s).2).1) ++ (ld3 (gd0 s).2).2.1 := e3
        obtain ⟨c0, c1⟩ := hdone _ a0 f0
        refine ⟨c0, ?_, ⟨⟨ok4_0⟩, ⟨ok4_0, ok4_0⟩, kv, k4⟩⟩
        rw [c1, f1, f2, f3, k3]
        unfold encG encR
        dsimp only
        rw [if_neg (by decide), if_neg (by decide)]
        simp only [List.append_assoc]
      · rcases hc with ⟨k, _⟩ | ⟨k, _⟩ | ⟨k, _⟩
        · exact absurd k k1
        · exact absurd k k2
        · exact absurd k k3
theorem readG_zero {s : St} (h : (readG s).2 = 0) : (rawG s).2 = ([], 0) ∧ errG (rawG s).1 = 0 ∧ readG s = ((rawG s).1, 0) := by
  unfold readG at h ⊢
  by_cases h0 : (rawG s).2.2 = 0
  · rw [if_pos h0] at h ⊢
    by_cases h1 : errG (rawG s).1 = 0 ∧ (rawG s).2.1 = []
    · rw [if_pos h1]
      exact ⟨Prod.ext h1.2 h0, h1.1, rfl⟩
    · rw [if_neg h1] at h; exact absurd h (by decide)
  · rw [if_neg h0] at h; exact absurd h h0
theorem openS_zero {b : List UInt8} (h : (openS b).2 = 0) : openS b = (b, 0) ∧ b.length ≤ 8192 := by
  unfold openS at h ⊢
  by_cases hb : b.length ≤ 8192
  · rw [if_pos hb]; exact ⟨rfl, hb⟩
  · rw [if_neg hb] at h; exact absurd h (by decide)
theorem msg_octets {b : List UInt8} (h : (readG (openS b)).2 = 0) : OkM (readG (openS b)).1 ∧ errG (readG (openS b)).1 = 0 ∧ octG (readG (openS b)).1 = (b, 0) ∧ b = encG (readG (openS b)).1 ∧ b.length ≤ 8192 := by
  obtain ⟨h1, h2, h3⟩ := readG_zero h
  obtain ⟨a0, a1, a2⟩ := rawG_dec (by rw [h1]) h2
  obtain ⟨o1, o2⟩ := openS_zero a0
  rw [h3]
  rw [h1, List.append_nil, o1] at a1
  have a1' : b = encG (rawG (openS b)).1 := by rw [o1]; exact a1
  refine ⟨a2, h2, ?_, a1', o2⟩
  show octG (rawG (openS b)).1 = (b, 0)
  rw [octG_yes h2, (putG_ok h2).1, ← a1']
theorem msg_none {s : St} (h : (readG s).2 ≠ 0) : (readG s).1 = noM := by
  unfold readG at h ⊢
  by_cases h0 : (rawG s).2.2 = 0
  · rw [if_pos h0] at h ⊢
    by_cases h1 : errG (rawG s).1 = 0 ∧ (rawG s).2.1 = []
    · rw [if_pos h1] at h; exact absurd rfl h
    · rw [if_neg h1]
  · rw [if_neg h0]
/-- With more behind it it is none's. -/
theorem msg_more {m : Ms} (h : errG m = 0) (hm : OkM m) {R : List UInt8} (hR : R ≠ []) : (readG (openS (encG m ++ R))).2 ≠ 0 := by
  intro hz
  obtain ⟨h1, h2, h3⟩ := readG_zero hz
  obtain ⟨a0, _, _⟩ := rawG_dec (by rw [h1]) h2
  rw [(openS_zero a0).1, rawG_enc h hm R] at h1
  exact hR (congrArg Prod.fst h1)
/-- A beginning is none's. -/
theorem msg_cut {m : Ms} (h : errG m = 0) (hm : OkM m) {c : Nat} (hc : c < (encG m).length) : (readG (openS ((encG m).take c))).2 ≠ 0 := by
  intro hz
  obtain ⟨k1, k2, _, k4, _⟩ := msg_octets hz
  have hne : (encG m).drop c ≠ [] := fun e => by
    have := congrArg List.length e
    rw [List.length_drop] at this
    simp at this
    omega
  have hb := msg_more k2 k1 hne
  rw [← k4, List.take_append_drop, (msg_back h hm).2.2] at hb
  exact hb rfl
end Go.Proofs.Ytigdenlnnnfjlaa

namespace Go.Proofs.Ytigdenlnnnfjlaa
open Go.RowKit Go.Shelf

theorem ok4_wd (l : List UInt8) : Ok4 (wdS l 0) (wdS l 1) (wdS l 2) (wdS l 3) := by
  by_cases h : l.length = 32
  · exact (wide8_of h).2
  · have e : ∀ i, wdS l i = 0 := fun i => if_neg h
    rw [e, e, e, e]
    exact ok4_0
theorem okA_get (s : St) : OkA (getA s).1 := by
  unfold getA
  split
  · exact ⟨ok4_wd _⟩
  · exact ⟨ok4_0⟩
theorem okV_get (s : St) : Ok4 (getV s).1.a0 (getV s).1.a1 (getV s).1.a2 (getV s).1.a3 := by
  unfold getV
  split
  · exact ok4_wd _
  · exact ok4_0
theorem okB_raw (s : St) : OkB (rawD s) := ⟨(okA_get (bd0 s).2).k, ok4_wd _⟩
theorem okB_no : OkB noB := ⟨ok4_0, ok4_0⟩
theorem okA_no : OkA noA := ⟨ok4_0⟩
theorem okM_no : OkM noM := ⟨okA_no, okB_no, ok4_0, ok4_0⟩
theorem okM_raw (s : St) : OkM (rawG s).1 := by
  unfold rawG
  split
  · exact ⟨okA_get _, okB_no, ok4_0, ok4_0⟩
  · split
    · exact ⟨okA_no, okB_raw _, ok4_0, ok4_0⟩
    · split
      · exact ⟨okA_no, okB_no, okV_get _, ok4_wd _⟩
      · exact okM_no.1 |> fun _ => ⟨okA_no, okB_no, ok4_0, ok4_0⟩
theorem okM_plain {m : Ms} (h : OkM m) : OkM (plainM m) := by
  unfold plainM
  split
  · exact ⟨h.a, okB_no, ok4_0, ok4_0⟩
  · split
    · exact ⟨okA_no, h.b, ok4_0, ok4_0⟩
    · split
      · exact ⟨okA_no, okB_no, h.v, h.f⟩
      · exact ⟨okA_no, okB_no, ok4_0, ok4_0⟩
theorem okM_read (s : St) : OkM (readG s).1 := by
  unfold readG
  split
  · split
    · exact okM_raw s
    · exact okM_no
  · exact okM_no
theorem okS_rawG {s : St} (h : OkS s) : OkS (rawG s).2 := by
  unfold rawG
  have h0 : OkS (gd0 s).2 := okS_most h _ _
  split
  · exact okS_getA h0
  · split
    · exact okS_gtxt (okS_most (okS_take (okS_getA (okS_most h0 _ _)) _) _ _) _
    · split
      · exact okS_gtxt (okS_take (okS_getV (okS_getI h0)) _) _
      · exact h0
theorem readG_ok {s : St} {m : Ms} {g : St} (h : rawG s = (m, g)) (h1 : g.2 = 0) (h2 : g.1 = []) (h3 : errG m = 0) : readG s = (m, 0) := by
  unfold readG; rw [h]; exact (if_pos h1).trans (if_pos ⟨h3, h2⟩)
theorem readG_bad {s : St} {m : Ms} {g : St} (h : rawG s = (m, g)) (h1 : g.2 ≠ 0) : readG s = (noM, g.2) := by
  unfold readG; rw [h]; exact if_neg h1
theorem readG_sp {s : St} {m : Ms} {g : St} (h : rawG s = (m, g)) (h1 : errG m ≠ 0 ∨ g.1 ≠ []) : readG s = (noM, (errS g 16).2) := by
  by_cases h0 : g.2 = 0
  · have e : errS g 16 = ([], 16) := if_pos h0
    rw [e]
    unfold readG; rw [h]; exact (if_pos h0).trans (if_neg fun k => h1.elim (fun q => q k.1) (fun q => q k.2))
  · rw [readG_bad h h0, errS_bad h0]
end Go.Proofs.Ytigdenlnnnfjlaa

namespace Go.Proofs.Ytigdenlnnnfjlaa
open Go.RowKit Go.Shelf

/-- A load whose value is known, guarded or not: as one step. -/
theorem wpList_loadIf {P : Program} {ops : Array Oper} {rest : List Oper} {o : Oper} {a : Act} {w : World} {Q : Exit → Act → World → Prop} (ty : TypeId) (x : Operand) (ho : o.op = .load ty x) (d : Option Tmp) (hd : o.dst = d)
    (hw : Region.wanted o (yielded ops a.tmps) = true) (v : Value) (hrun : (Instr.loadAt ty (a.eval x)).run P w = .ok v w) (h : wpList P ops Q rest (a.put d v) w) : wpList P ops Q (o :: rest) a w := by
  subst hd
  refine wpList_step fun K hK => ?_
  rw [if_pos hw]
  unfold Oper.wp execOp
  simp only [ho, Sem.run_bind, hrun, Result.andThen_ok]
  exact hK _ _ h
end Go.Proofs.Ytigdenlnnnfjlaa

namespace Go.Proofs.Ytigdenlnnnfjlaa
open Go.RowKit Go.Shelf

theorem Blk.row {w : World} {g : Nat} {t : TypeId} {old : List Value} (hg : Blk w g t old) (vs : List Value) : Blk (w.setRow g vs.toArray) g t vs := setRow_heap w g _ _ t _ hg
theorem Blk.rowO {w : World} {B g : Nat} {t : TypeId} {vs : List Value} (h : Blk w B t vs) (cs : Array Value) (hne : B ≠ g) : Blk (w.setRow g cs) B t vs := (setRow_other w g B cs hne).trans h
/-- A load, carried out. -/
theorem exec_load {P : Program} {ρ : Operand → Value} {o : Oper} (ty : TypeId) (x : Operand) (ho : o.op = .load ty x) (v : Value) (w : World) (hrun : (Instr.loadAt ty (ρ x)).run P w = .ok v w) : (execOp ρ o).run P w = .ok (.value v) w := by
  unfold execOp
  simp only [ho, Sem.run_bind, hrun, Result.andThen_ok]
  rfl
end Go.Proofs.Ytigdenlnnnfjlaa

namespace Go.Proofs.Ytigdenlnnnfjlaa
open Go.RowKit Go.Shelf

theorem addr_add (B o j : Nat) : (⟨B, o, none⟩ : Addr).add j = ⟨B, o + j, none⟩ := by unfold Addr.add; split <;> simp_all
/-- A struct, or an array, within a block. -/
theorem load_part {W : World} {B : Nat} {T : TypeId} {vs : List Value} (h : Blk W B T vs) (o : Nat) (ns : List Value) (hn : (vs.drop o).take ns.length = ns) (ty : TypeId) (d : TypeDesc) (hu : Try.prog.underlying ty = some d)
    (hd : (match d with | .struct _ | .array _ _ => true | _ => false) = true) (hi : (Try.prog.info? ty).map (·.size) = some ns.length) :
    (Instr.loadAt ty (.pointer (some ⟨B, o, none⟩))).run Try.prog W = .ok (.agg ns.toArray) W := by
  have hl : (loadCells ⟨B, o, none⟩ ns.length).run Try.prog W = .ok ns.toArray W :=
    run_loadCells_list (P := Try.prog) W ⟨B, o, none⟩ ns (fun j v hv => by
      rw [addr_add, h.cell]
      rw [← hn, List.getElem?_take] at hv
      split at hv
      · simpa using hv
      · cases hv)
  cases hq : Try.prog.info? ty with
  | none => simp [hq] at hi
  | some i =>
    have hs : i.size = ns.length := by simpa [hq] using hi
    have hagg : (isAgg ty).run Try.prog W = .ok true W := by
      unfold isAgg
      rw [Sem.run_bind, run_underlying hu W]
      cases d <;> simp_all
    simp [Instr.loadAt, Instr.sureAddr, loadVar, Sem.run_bind, hagg, sizeOf, typeInfo, hq, hs, hl]
/-- The row with ns from place o on. -/
def laid (vs : List Value) (o : Nat) (ns : List Value) : List Value := vs.take o ++ ns ++ vs.drop (o + ns.length)
theorem run_store_part {W : World} {B : Nat} {T : TypeId} {vs : List Value} (h : Blk W B T vs) (o : Nat) (v : Value) (ty : TypeId) (hi : (Try.prog.info? ty).map (·.size) = some v.cells.size) (hle : o + v.cells.size ≤ vs.length) (h1 : v.cells.all (·.oneCell') = true) :
    (Instr.storeAt ty (.pointer (some ⟨B, o, none⟩)) v).run Try.prog W = .ok () (W.setRow B (laid vs o v.cells.toList).toArray) := by
  have hs := run_storeCells_at (P := Try.prog) B o T v.cells.toList 0 vs.toArray W h (by simpa using hle) (fun x hx => (Array.all_eq_true_iff_forall_mem.1 h1) x (by simpa using hx))
  cases hq : Try.prog.info? ty with
  | none => simp [hq] at hi
  | some i =>
    have hz : v.cells.size = i.size := by simp [hq] at hi; omega
    have hs2 : (storeCells ⟨B, o, none⟩ v.cells.toList).run Try.prog W = .ok () (W.setRow B (laid vs o v.cells.toList).toArray) := by simpa only [laid, Nat.add_zero] using hs
    simp only [Instr.storeAt, Instr.sureAddr, Sem.run_bind, Sem.run_pure, Result.andThen_ok]
    generalize hc : v.cells = c at *
    simp [storeVar, sizeOf, typeInfo, hq, hz, hc, hs2]
theorem wp_store_part {o : Oper} {a : Act} {w : World} {K : Act → World → Prop} {Q : Exit → Act → World → Prop} {T : TypeId} (ty : TypeId) (x y : Operand) {vs : List Value} (ws : List Value) {B : Nat} (hB : Blk w B T vs) (k : Nat) (v : Value) (ns : List Value) (ho : o.op = .store ty x y) (hd : o.dst = none)
    (hx : a.eval x = .pointer (some ⟨B, k, none⟩)) (hy : a.eval y = v) (hv : v.cells.toList = ns) (hi : (Try.prog.info? ty).map (·.size) = some ns.length) (hle : k + ns.length ≤ vs.length) (h1 : ns.all (·.oneCell') = true) (hws : laid vs k ns = ws)
    (h : K a (w.setRow B ws.toArray)) : o.wp Try.prog a w K Q := by
  subst hws
  subst hv
  unfold Oper.wp execOp
  simp only [ho, hx, hy, Sem.run_bind, run_store_part hB k v ty (by simpa using hi) (by simpa using hle) (by rw [← Array.all_toList]; exact h1), Result.andThen_ok]
  have h2 : K (a.put o.dst undef) (w.setRow B (laid vs k v.cells.toList).toArray) := by rw [hd]; exact h
  exact h2
theorem wpList_store_part {ops : Array Oper} {rest : List Oper} {o : Oper} {a : Act} {w : World} {Q : Exit → Act → World → Prop} {T : TypeId} (ty : TypeId) (x y : Operand) {vs : List Value} (ws : List Value) {B : Nat} (hB : Blk w B T vs) (k : Nat) (v : Value) (ns : List Value) (ho : o.op = .store ty x y) (hd : o.dst = none) (hgd : o.guard = none)
    (hx : a.eval x = .pointer (some ⟨B, k, none⟩)) (hy : a.eval y = v) (hv : v.cells.toList = ns) (hi : (Try.prog.info? ty).map (·.size) = some ns.length) (hle : k + ns.length ≤ vs.length) (h1 : ns.all (·.oneCell') = true) (hws : laid vs k ns = ws)
    (h : wpList Try.prog ops Q rest a (w.setRow B ws.toArray)) : wpList Try.prog ops Q (o :: rest) a w :=
  wpList_plain hgd fun _ hK => wp_store_part ty x y ws hB k v ns ho hd hx hy hv hi hle h1 hws (hK _ _ h)
theorem grownBy_row (W : World) (B : Nat) (cs : Array Value) : W.grownBy (W.setRow B cs) (some B) := ⟨rfl, rfl, rfl, by simp, fun k _ hr => setRow_other W B k cs (fun e => hr (by rw [e]))⟩
theorem grown_row {w W : World} {row : Option Nat} {B : Nat} (h : w.grownBy W row) (hB : w.heap.size ≤ B) (cs : Array Value) : w.grownBy (W.setRow B cs) row := by
  have g := grownBy_row W B cs
  exact ⟨g.os.trans h.os, g.tape.trans h.tape, g.output.trans h.output, Nat.le_trans h.size g.size, fun k hk hr => (g.block k (Nat.lt_of_lt_of_le hk h.size) (by intro e; cases e; omega)).trans (h.block k hk hr)⟩
theorem objP_row {T : TypeId} {W : World} {p : Option Addr} {s : St} {B : Nat} (h : ObjP T W p s) (hno : NoOct W B) (hne : some B ≠ p.map (·.block)) (cs : Array Value) : ObjP T (W.setRow B cs) p s :=
  h.to (grownBy_row W B cs) (fun r e => by cases e; exact ⟨hno, fun e => hne e.symm⟩)
theorem bsl_row {W : World} {sv : Value} {l : List UInt8} {B : Nat} (h : BSl 0 W.heap.size W sv l) (hno : NoOct W B) (cs : Array Value) : BSl 0 (W.setRow B cs).heap.size (W.setRow B cs) sv l :=
  (h.to (Nat.le_refl _) (grownBy_row W B cs) (fun r e => by cases e; exact hno)).mono (Nat.le_refl _) (by simp)
theorem bslS {lo hi : Nat} {W : World} {sv : Value} {l : List UInt8} (h : BSl lo hi W sv l) : ∃ a m c, sv = .slice a m c := h.shape3
end Go.Proofs.Ytigdenlnnnfjlaa

namespace Go.Proofs.Ytigdenlnnnfjlaa
open Go.RowKit Go.Shelf

theorem load_ms {W : World} {B : Nat} {m : Ms} (h : Blk W B 34 (msc m)) : (Instr.loadAt 34 (.pointer (some ⟨B, 0, none⟩))).run Try.prog W = .ok (msv m) W :=
  load_part h 0 (msc m) rfl _ _ Try.underlying34 rfl (by kernel_rfl)
theorem load_mak {W : World} {B : Nat} {m : Ms} (h : Blk W B 34 (msc m)) : (Instr.loadAt 26 (.pointer (some ⟨B, 1, none⟩))).run Try.prog W = .ok (akv m.ak) W :=
  load_part h 1 (akc m.ak) rfl _ _ Try.underlying26 rfl (by kernel_rfl)
theorem load_mbd {W : World} {B : Nat} {m : Ms} (h : Blk W B 34 (msc m)) : (Instr.loadAt 28 (.pointer (some ⟨B, 10, none⟩))).run Try.prog W = .ok (bdv m.bd) W :=
  load_part h 10 (bdc m.bd) rfl _ _ Try.underlying28 rfl (by kernel_rfl)
theorem load_mbk {W : World} {B : Nat} {m : Ms} (h : Blk W B 34 (msc m)) : (Instr.loadAt 26 (.pointer (some ⟨B, 11, none⟩))).run Try.prog W = .ok (akv m.bd.k) W :=
  load_part h 11 (akc m.bd.k) rfl _ _ Try.underlying26 rfl (by kernel_rfl)
theorem load_mba {W : World} {B : Nat} {m : Ms} (h : Blk W B 34 (msc m)) : (Instr.loadAt 24 (.pointer (some ⟨B, 20, none⟩))).run Try.prog W = .ok (wv m.bd.b0 m.bd.b1 m.bd.b2 m.bd.b3) W :=
  load_part h 20 [.int .u64 (m.bd.b0 : Nat), .int .u64 (m.bd.b1 : Nat), .int .u64 (m.bd.b2 : Nat), .int .u64 (m.bd.b3 : Nat)] rfl _ _ Try.underlying24 rfl (by kernel_rfl)
theorem load_miv {W : World} {B : Nat} {m : Ms} (h : Blk W B 34 (msc m)) : (Instr.loadAt 30 (.pointer (some ⟨B, 26, none⟩))).run Try.prog W = .ok (ivv m.iv) W :=
  load_part h 26 (ivc m.iv) rfl _ _ Try.underlying30 rfl (by kernel_rfl)
theorem load_mvr {W : World} {B : Nat} {m : Ms} (h : Blk W B 34 (msc m)) : (Instr.loadAt 32 (.pointer (some ⟨B, 33, none⟩))).run Try.prog W = .ok (svv m.vr) W :=
  load_part h 33 (svc m.vr) rfl _ _ Try.underlying32 rfl (by kernel_rfl)
theorem load_mfe {W : World} {B : Nat} {m : Ms} (h : Blk W B 34 (msc m)) : (Instr.loadAt 24 (.pointer (some ⟨B, 38, none⟩))).run Try.prog W = .ok (wv m.f0 m.f1 m.f2 m.f3) W :=
  load_part h 38 [.int .u64 (m.f0 : Nat), .int .u64 (m.f1 : Nat), .int .u64 (m.f2 : Nat), .int .u64 (m.f3 : Nat)] rfl _ _ Try.underlying24 rfl (by kernel_rfl)
/-- A bid's parts. -/
theorem load_bd {W : World} {B : Nat} {b : Bd} (h : Blk W B 28 (bdc b)) : (Instr.loadAt 28 (.pointer (some ⟨B, 0, none⟩))).run Try.prog W = .ok (bdv b) W :=
  load_part h 0 (bdc b) rfl _ _ Try.underlying28 rfl (by kernel_rfl)
theorem load_bk {W : World} {B : Nat} {b : Bd} (h : Blk W B 28 (bdc b)) : (Instr.loadAt 26 (.pointer (some ⟨B, 1, none⟩))).run Try.prog W = .ok (akv b.k) W :=
  load_part h 1 (akc b.k) rfl _ _ Try.underlying26 rfl (by kernel_rfl)
theorem load_ba {W : World} {B : Nat} {b : Bd} (h : Blk W B 28 (bdc b)) : (Instr.loadAt 24 (.pointer (some ⟨B, 10, none⟩))).run Try.prog W = .ok (wv b.b0 b.b1 b.b2 b.b3) W :=
  load_part h 10 [.int .u64 (b.b0 : Nat), .int .u64 (b.b1 : Nat), .int .u64 (b.b2 : Nat), .int .u64 (b.b3 : Nat)] rfl _ _ Try.underlying24 rfl (by kernel_rfl)
/-- None of them is an octet. -/
def noBv8 (v : Value) : Bool := match v with | .int .u8 _ => false | _ => true
theorem noOct_p {vs : List Value} (h : vs.all noBv8 = true) : ∀ u ∈ vs, ∀ y, u ≠ bv y := fun u hu y e => by
  have h1 := (List.all_eq_true.1 h) u hu
  rw [e] at h1
  exact absurd h1 (by simp [noBv8])
theorem noOctM {W : World} {B : Nat} {T : TypeId} {m : Ms} (h : Blk W B T (msc m)) : NoOct W B := noOct_blk h (noOct_p rfl)
theorem noOctB {W : World} {B : Nat} {T : TypeId} {b : Bd} (h : Blk W B T (bdc b)) : NoOct W B := noOct_blk h (noOct_p rfl)
end Go.Proofs.Ytigdenlnnnfjlaa

namespace Go.Proofs.Ytigdenlnnnfjlaa
open Go.RowKit Go.Shelf
attribute [local go_sem] Oper.semAt_some

set_option maxRecDepth 100000 in
set_option maxHeartbeats 4000000 in
theorem down1_stops (F : Fence) (n : Nat) (h : F.fn 96) (hro : F.round = none) (hn : 1 ≤ n) {a0 a1 a2 a3 : Nat} (ha : Ok4 a0 a1 a2 a3) (B : Nat) (w : World) (hb : BlkW w B a0 a1 a2 a3) :
    SeqStopsK F n Try.prog 96 #[.pointer (some ⟨B, 0, none⟩)] pwEnc (KeepB B) (fun ys => ys = downs ha) (fun pre => pre <+: downs ha) 4 w := fun l J Jx W hW _ _ hY h0 => by
  have hb' : BlkW W B a0 a1 a2 a3 := hb.below hW hb.lt
  clear hb
  refine callsIn_of_wp Try.func96 rfl h ?_ hro
  simp only [Try.ntmps96, List.size_toArray, List.length_cons, List.length_nil, Nat.reduceAdd, Nat.reduceSub, Array.replicate_succ, Array.replicate_zero, List.push_toArray, List.append_toArray, List.nil_append, List.cons_append]
  gi_wp2
  gi_loopw [3] (fun i wr => ∃ k : Nat, k ≤ 4 ∧ i = .int .i64 (3 - (k : Int)) ∧ BlkW wr B a0 a1 a2 a3 ∧ J ((downs ha).take k) wr) (fun i _ => ((intOf i) + 1).toNat)
  case atStart => exact ⟨0, by omega, rfl, hb', h0⟩
  case round =>
    obtain ⟨k, hk, rfl, hbr, hJs⟩ := hrel
    obtain ⟨x0, x1, x2, x3⟩ := hbr.c4
    have hk' : k = 0 ∨ k = 1 ∨ k = 2 ∨ k = 3 ∨ k = 4 := by omega
    rcases hk' with rfl | rfl | rfl | rfl | rfl
    · obtain ⟨fn, tmps, assign, body, hy, hR⟩ := hY _ (pw 3 a3 (by omega) ha.h3) wr hJs (by simp [downs])
      change (Instr.yield l #[.int .i64 3, .int .u64 (a3 : Int)]).run _ _ = _ at hy
      gi_wp2
      refine hR.mono ?_
      rintro e W3 (⟨rfl, hJ3, hk3⟩ | ⟨rfl, hJx3⟩)
      · replace hbr : BlkW W3 B a0 a1 a2 a3 := hk3.trans hbr
        clear x0 x1 x2 x3
        gi_wp2
        go_roundw
        case rel => exact ⟨1, by omega, by simp, hbr, hJ3⟩
        case measure => simp [intOf]
      · gi_wp2
        refine bodyPost_ret (results_none rfl _ _ _) rfl ?_
        exact ⟨⟨_, rfl⟩, .inr ⟨(downs ha).take 1, List.take_prefix _ _, hJx3⟩⟩
    · obtain ⟨fn, tmps, assign, body, hy, hR⟩ := hY _ (pw 2 a2 (by omega) ha.h2) wr hJs (by simp [downs])
      change (Instr.yield l #[.int .i64 2, .int .u64 (a2 : Int)]).run _ _ = _ at hy
      gi_wp2
      refine hR.mono ?_
      rintro e W3 (⟨rfl, hJ3, hk3⟩ | ⟨rfl, hJx3⟩)
      · replace hbr : BlkW W3 B a0 a1 a2 a3 := hk3.trans hbr
        clear x0 x1 x2 x3
        gi_wp2
        go_roundw
        case rel => exact ⟨2, by omega, by simp, hbr, hJ3⟩
        case measure => simp [intOf]
      · gi_wp2
        refine bodyPost_ret (results_none rfl _ _ _) rfl ?_
        exact ⟨⟨_, rfl⟩, .inr ⟨(downs ha).take 2, List.take_prefix _ _, hJx3⟩⟩
    · obtain ⟨fn, tmps, assign, body, hy, hR⟩ := hY _ (pw 1 a1 (by omega) ha.h1) wr hJs (by simp [downs])
      change (Instr.yield l #[.int .i64 1, .int .u64 (a1 : Int)]).run _ _ = _ at hy
      gi_wp2
      refine hR.mono ?_
      rintro e W3 (⟨rfl, hJ3, hk3⟩ | ⟨rfl, hJx3⟩)
      · replace hbr : BlkW W3 B a0 a1 a2 a3 := hk3.trans hbr
        clear x0 x1 x2 x3
        gi_wp2
        go_roundw
        case rel => exact ⟨3, by omega, by simp, hbr, hJ3⟩
        case measure => simp [intOf]
      · gi_wp2
        refine bodyPost_ret (results_none rfl _ _ _) rfl ?_
        exact ⟨⟨_, rfl⟩, .inr ⟨(downs ha).take 3, List.take_prefix _ _, hJx3⟩⟩
    · obtain ⟨fn, tmps, assign, body, hy, hR⟩ := hY _ (pw 0 a0 (by omega) ha.h0) wr hJs (by simp [downs])
      change (Instr.yield l #[.int .i64 0, .int .u64 (a0 : Int)]).run _ _ = _ at hy
      gi_wp2
      refine hR.mono ?_
      rintro e W3 (⟨rfl, hJ3, hk3⟩ | ⟨rfl, hJx3⟩)
      · replace hbr : BlkW W3 B a0 a1 a2 a3 := hk3.trans hbr
        clear x0 x1 x2 x3
        gi_wp2
        go_roundw
        case rel => exact ⟨4, by omega, by simp, hbr, hJ3⟩
        case measure => simp [intOf]
      · gi_wp2
        refine bodyPost_ret (results_none rfl _ _ _) rfl ?_
        exact ⟨⟨_, rfl⟩, .inr ⟨(downs ha).take 4, List.take_prefix _ _, hJx3⟩⟩
    · gi_wp2
      go_end0
      exact ⟨⟨_, rfl⟩, .inl ⟨_, rfl, hJs⟩⟩

set_option maxHeartbeats 1000000 in
theorem down_in (F : Fence) (n : Nat) (h : F.fn 87) (hro : F.round = none) (a0 a1 a2 a3 : Nat) (w : World) :
    CallsIn F n Try.prog 87 #[wv a0 a1 a2 a3] w fun e w' => e = .returned (.func (.func 96) #[] #[.pointer (some ⟨w.heap.size, 0, none⟩)]) ∧ w' = w.alloc (.cells #[.int .u64 a0, .int .u64 a1, .int .u64 a2, .int .u64 a3] 24) := by
  refine callsIn_of_wp Try.func87 rfl h ?_ hro
  simp only [Try.ntmps87, List.size_toArray, List.length_cons, List.length_nil, Nat.reduceAdd, Nat.reduceSub, Array.replicate_succ, Array.replicate_zero, List.push_toArray, List.append_toArray, List.nil_append, List.cons_append]
  gi_wp2
  go_ret
  exact ⟨rfl, rfl⟩

end Go.Proofs.Ytigdenlnnnfjlaa

namespace Go.Proofs.Ytigdenlnnnfjlaa
open Go.RowKit Go.Shelf
attribute [local go_sem] Oper.semAt_some

set_option maxHeartbeats 1000000 in
theorem compare_any (x y : Nat) (w : World) : Calls Try.prog 88 #[.int .u64 (x : Int), .int .u64 (y : Int)] w fun e w' => e = .returned (.int .i64 (cmpN x y)) ∧ w' = w := by
  have hxx : ((x : Int) == (x : Int)) = true := by simp
  have hyy : ((y : Int) == (y : Int)) = true := by simp
  rcases Nat.lt_trichotomy x y with h | h | h
  · have h1 : (x : Int) < (y : Int) := by omega
    have HC : Hid (cmpN x y = -1) := Lib.hid (by unfold cmpN; rw [if_pos h])
    go_enter Try.func88, Try.ntmps88
    go_wp2
    go_ret
    exact ⟨by rw [HC.out]; rfl, rfl⟩
  · have h1 : ¬ (x : Int) < (y : Int) := by omega
    have h2 : ¬ (y : Int) < (x : Int) := by omega
    have HC : Hid (cmpN x y = 0) := Lib.hid (by unfold cmpN; rw [if_neg (by omega), if_neg (by omega)])
    clear h
    go_enter Try.func88, Try.ntmps88
    go_wp2
    go_ret
    exact ⟨by rw [HC.out]; rfl, rfl⟩
  · have h1 : ¬ (x : Int) < (y : Int) := by omega
    have h2 : (y : Int) < (x : Int) := by omega
    have HC : Hid (cmpN x y = 1) := Lib.hid (by unfold cmpN; rw [if_neg (by omega), if_pos h])
    go_enter Try.func88, Try.ntmps88
    go_wp2
    go_ret
    exact ⟨by rw [HC.out]; rfl, rfl⟩

/-- The first word that differs. -/
def fd (b : Nat → Nat) (pre : List PW) : Option PW := pre.find? fun p => decide (p.1.2 ≠ b p.1.1)
theorem fd_hit {b : Nat → Nat} {pre : List PW} {x : PW} (h : fd b pre = none) (hx : x.1.2 ≠ b x.1.1) : fd b (pre ++ [x]) = some x := by
  unfold fd at *; rw [List.find?_append, h]; simp [hx]
theorem fd_miss {b : Nat → Nat} {pre : List PW} {x : PW} (h : fd b pre = none) (hx : x.1.2 = b x.1.1) : fd b (pre ++ [x]) = none := by
  unfold fd at *; rw [List.find?_append, h]; simp [hx]
theorem fd_prefix {b : Nat → Nat} {pre ys : List PW} {p : PW} (h : fd b pre = some p) (hp : pre <+: ys) : fd b ys = some p := by
  obtain ⟨t, rfl⟩ := hp
  unfold fd at *; rw [List.find?_append, h]; rfl

theorem cmp_words {a0 a1 a2 a3 b0 b1 b2 b3 : Nat} (ha : Ok4 a0 a1 a2 a3) (hb : Ok4 b0 b1 b2 b3) :
    cmpN (val a0 a1 a2 a3) (val b0 b1 b2 b3) = if a3 ≠ b3 then cmpN a3 b3 else if a2 ≠ b2 then cmpN a2 b2 else if a1 ≠ b1 then cmpN a1 b1 else if a0 ≠ b0 then cmpN a0 b0 else 0 := by
  obtain ⟨h0, h1, h2, h3⟩ := ha
  obtain ⟨k0, k1, k2, k3⟩ := hb
  have less : ∀ {x y X Y : Nat}, x < M → y < M → X < Y → x + M * X < y + M * Y := fun {x y X Y} hx hy h => by
    have : M * (X + 1) ≤ M * Y := Nat.mul_le_mul_left _ h
    rw [Nat.mul_add] at this
    omega
  have step : ∀ {x y X Y : Nat}, x < M → y < M → cmpN (x + M * X) (y + M * Y) = if X ≠ Y then cmpN X Y else cmpN x y := fun {x y X Y} hx hy => by
    unfold cmpN
    rcases Nat.lt_trichotomy X Y with h | h | h
    · rw [if_pos (less hx hy h), if_pos (by omega), if_pos h]
    · subst h
      rw [if_neg (by omega : ¬ X ≠ X)]
      simp only [Nat.add_lt_add_iff_right]
    · have := less hy hx h
      rw [if_neg (by omega), if_pos this, if_pos (by omega), if_neg (by omega), if_pos h]
  unfold val
  rw [step h0 k0, step h1 k1, step h2 k2]
  by_cases e3 : a3 = b3
  · subst e3
    by_cases e2 : a2 = b2
    · subst e2
      by_cases e1 : a1 = b1
      · subst e1
        by_cases e0 : a0 = b0
        · subst e0; simp [cmpN]
        · simp [e0]
      · have : a1 + M * (a2 + M * a3) ≠ b1 + M * (a2 + M * a3) := by omega
        simp [e1]
    · have l1 : a2 + M * a3 ≠ b2 + M * a3 := by omega
      have l2 : a1 + M * (a2 + M * a3) ≠ b1 + M * (b2 + M * a3) := by
        rcases Nat.lt_trichotomy (a2 + M * a3) (b2 + M * a3) with h | h | h
        · have := less h1 k1 h; omega
        · exact absurd h l1
        · have := less k1 h1 h; omega
      simp [e2, l2]
  · have l1 : a2 + M * a3 ≠ b2 + M * b3 := by
      rcases Nat.lt_trichotomy a3 b3 with h | h | h
      · have := less h2 k2 h; omega
      · exact absurd h e3
      · have := less k2 h2 h; omega
    have l2 : a1 + M * (a2 + M * a3) ≠ b1 + M * (b2 + M * b3) := by
      rcases Nat.lt_trichotomy (a2 + M * a3) (b2 + M * b3) with h | h | h
      · have := less h1 k1 h; omega
      · exact absurd h l1
      · have := less k1 h1 h; omega
    simp [e3, l1, l2]

theorem fd_downs {a0 a1 a2 a3 b0 b1 b2 b3 : Nat} (ha : Ok4 a0 a1 a2 a3) (hb : Ok4 b0 b1 b2 b3) : ((fd (word b0 b1 b2 b3) (downs ha)).map fun p => cmpN p.1.2 (word b0 b1 b2 b3 p.1.1)).getD 0 = cmpN (val a0 a1 a2 a3) (val b0 b1 b2 b3) := by
  rw [cmp_words ha hb]
  by_cases h3 : a3 = b3
  · by_cases h2 : a2 = b2
    · by_cases h1 : a1 = b1
      · by_cases h0 : a0 = b0
        · simp [fd, downs, pw, word, List.find?, h0, h1, h2, h3]
        · simp [fd, downs, pw, word, List.find?, h0, h1, h2, h3]
      · simp [fd, downs, pw, word, List.find?, h1, h2, h3]
    · simp [fd, downs, pw, word, List.find?, h2, h3]
  · simp [fd, downs, pw, word, h3]

set_option maxRecDepth 100000 in
set_option maxHeartbeats 4000000 in
theorem cmp_in (n : Nat) (hn : 3 ≤ n) {a0 a1 a2 a3 b0 b1 b2 b3 : Nat} (ha : Ok4 a0 a1 a2 a3) (hb : Ok4 b0 b1 b2 b3) (w : World) :
    CallsIn Fence.wide n Try.prog 75 #[wv a0 a1 a2 a3, wv b0 b1 b2 b3] w fun e W' => e = .returned (.int .i64 (cmpN (val a0 a1 a2 a3) (val b0 b1 b2 b3))) ∧ Below w.heap.size w W' := by
  have h1 : 1 ≤ n := by omega
  refine callsIn_of_wp_marks Try.func75 rfl trivial ?_ rfl
  simp only [Try.ntmps75, List.size_toArray, List.length_cons, List.length_nil, Nat.reduceAdd, Nat.reduceSub, Array.replicate_succ, Array.replicate_zero, List.push_toArray, List.append_toArray, List.nil_append, List.cons_append]
  gi_wp2_with (refine ⟨trivial, ?_⟩; gi_at_call 87; refine (down_in Fence.wide (n - 1) trivial rfl _ _ _ _ _).mono ?_; rintro e w' ⟨rfl, rfl⟩)
  generalize hW5 : World.alloc _ _ = W5
  have k1 : Blk W5 (w.heap.size + 1) 24 (ws (word b0 b1 b2 b3)) := by rw [← hW5]; exact ((Blk.new' (by simp)).alloc _).alloc _
  have k2 : Blk W5 (w.heap.size + 1 + 1) 3 [.int .i64 0] := by rw [← hW5]; exact (Blk.new' (by simp)).alloc _
  have k5 : BlkW W5 (w.heap.size + 1 + 1 + 1) a0 a1 a2 a3 := by rw [← hW5]; exact Blk.new' (by simp)
  have hB0 : Below w.heap.size w W5 := by rw [← hW5]; exact chainA (chainA (chainA (chain0 _ _) _) _) _
  have hz : W5.heap.size = w.heap.size + 4 := by rw [← hW5]; simp
  clear hW5
  refine wpIn_rangeFunc_ownF (S := fun ys => ys = downs ha) rfl h1 (gf := 96) (lb := #[.pointer (some ⟨w.heap.size + 1 + 1 + 1, 0, none⟩)]) rfl trivial (enters_of Try.func96 (by kernel_rfl) rfl)
    (down1_stops Fence.wide (n - 1) trivial rfl (by omega) ha (w.heap.size + 1 + 1 + 1) W5 k5) KeepB.t (KeepB.b k5.lt) (Below.refl _ _) (fun _ => rfl)
    (fun pre W => (Blk W (w.heap.size + 1) 24 (ws (word b0 b1 b2 b3)) ∧ Blk W (w.heap.size + 1 + 1) 3 [.int .i64 0] ∧ fd (word b0 b1 b2 b3) pre = none) ∧ Below w.heap.size w W)
    (fun c pre W => (Blk W (w.heap.size + 1 + 1) 3 [.int .i64 (((fd (word b0 b1 b2 b3) pre).map fun p => cmpN p.1.2 (word b0 b1 b2 b3 p.1.1)).getD 0)] ∧ c = .ret ∧ ∃ p, fd (word b0 b1 b2 b3) pre = some p) ∧ Below w.heap.size w W)
    (OwnFrom.and (Own.from (fun s A B row hs hg hr => ⟨blk_own _ _ (fun _ => _) s A B row hs.1 hg hr, blk_own _ _ (fun _ => _) s A B row hs.2.1 hg hr, hs.2.2⟩) _) (ownFrom_below (Nat.le_refl _) (by omega)))
    (fun c => OwnFrom.and (Own.from (fun s A B row hs hg hr => ⟨blk_own _ _ (fun pre => [.int .i64 (((fd (word b0 b1 b2 b3) pre).map fun p => cmpN p.1.2 (word b0 b1 b2 b3 p.1.1)).getD 0)]) s A B row hs.1 hg hr, hs.2⟩) _) (ownFrom_below (Nat.le_refl _) (by omega)))
    ⟨⟨k1, k2, rfl⟩, hB0⟩
    (fun x => { tmps := #[wv a0 a1 a2 a3, wv b0 b1 b2 b3, .pointer (some ⟨w.heap.size, 0, none⟩), .pointer (some ⟨w.heap.size + 1, 0, none⟩), .pointer (some ⟨w.heap.size + 1 + 1, 0, none⟩), .int .i64 (x.1.1 : Int), .int .u64 (x.1.2 : Int), undef, wv a0 a1 a2 a3, .func (.func 96) #[] #[.pointer (some ⟨w.heap.size + 1 + 1 + 1, 0, none⟩)], .int .i64 (x.1.1 : Int), .int .u64 (x.1.2 : Int), undef, undef, undef, undef, undef, undef, undef, undef], defers := [] }) ?assign ?body ?done ?stop
  case assign =>
    intro l x W K hK
    gi_wp2
    exact hK
  case body =>
    rintro l pre ⟨⟨i, x⟩, hi, hx⟩ W ⟨⟨k1, k2, hf⟩, hB⟩ _
    dsimp only at hi hx
    have hf' := fun (e : x ≠ word b0 b1 b2 b3 i) => fd_hit (b := word b0 b1 b2 b3) (x := ⟨(i, x), hi, hx⟩) hf e
    have hg' := fun (e : x = word b0 b1 b2 b3 i) => fd_miss (b := word b0 b1 b2 b3) (x := ⟨(i, x), hi, hx⟩) hf e
    have HF := Lib.hid hf'
    have HG := Lib.hid hg'
    clear hf hf' hg'
    have hi' : (i : Int) < 4 := by omega
    have c1 := k1.cell i
    rw [ws_at _ hi] at c1
    have c2 : W.cell? ⟨w.heap.size + 1 + 1, 0, none⟩ = some (.int .i64 0) := k2.cell 0
    have f2 := k2.frozen 0
    have hne : cmpN x (word b0 b1 b2 b3 i) = 0 ↔ x = word b0 b1 b2 b3 i := by
      unfold cmpN
      split
      · omega
      · split <;> omega
    have HN := Lib.hid hne
    clear hne
    gi_wp2_with fail
    refine ⟨trivial, (fun _ => by omega), ?_⟩
    refine (CallsIn.inRound l (callsIn_wide.2 (compare_any _ _ _))).mono ?_
    rintro e w' ⟨rfl, rfl⟩
    generalize hcg : cmpN x (word b0 b1 b2 b3 i) = c at *
    have HC := Lib.hid hcg
    clear hcg
    by_cases hc0 : c = 0
    · have hcb : (c == 0) = true := by simp [hc0]
      have hxe := HN.out.1 hc0
      have HX := Lib.hid hxe
      clear hxe hc0
      gi_wp2
      exact ⟨KeepsOthers.refl _, KeepB.refl _ _, ⟨k1, k2, HG.out HX.out⟩, hB⟩
    · have hcb : (c == 0) = false := by simp [hc0]
      have hxe : x ≠ word b0 b1 b2 b3 i := fun e => hc0 (HN.out.2 e)
      have HX := Lib.hid hxe
      clear hxe hc0
      gi_wp2
      refine ⟨KeepsOthers.setCell _ _ _, ⟨?_, rfl, _, HF.out HX.out⟩, hB.setCell (p := ⟨w.heap.size + 1 + 1, 0, none⟩) (by simp; omega) _⟩
      rw [HF.out HX.out]
      have kk := k2.set 0 (.int .i64 c)
      rw [← HC.out] at kk ⊢
      exact kk
  case done =>
    rintro D ys W hD rfl ⟨⟨k1, k2, hf⟩, hB⟩ hK
    have c2 : W.cell? ⟨w.heap.size + 1 + 1, 0, none⟩ = some (.int .i64 0) := k2.cell 0
    have f2 := k2.frozen 0
    have hbits := fd_downs ha hb
    rw [hf] at hbits
    have HB := Lib.hid hbits
    have HF := Lib.hid hf
    clear hbits hf
    gi_wp2
    have hK' := (KeepsOthers.setCell W ⟨w.heap.size + 1 + 1, 0, none⟩ (.int .i64 0)).same D _ hK rfl
    have k2' := (k2.set 0 (.int .i64 0)).kept (grownBy_putObj' _ D (.deferred none)) (by intro e; cases e; omega)
    have r0 := k2'.cell 0
    simp only [List.set_cons_zero, List.getElem?_cons_zero] at r0
    have hB' := (hB.setCell (p := ⟨w.heap.size + 1 + 1, 0, none⟩) (by simp; omega) (.int .i64 0)).trans (belowK_b (w := w) (Nat.le_refl _) _ D _ (.deferred none) (by omega) hK' rfl rfl)
    refine ⟨by simp, .inl ⟨_, _, rfl, run_takeDeferred hK', ?_⟩⟩
    refine ⟨.int .i64 0, ?_, ?_⟩
    · simp [results, Try.f75, go_sem, r0]
    · exact ⟨by rw [← HB.out]; rfl, hB'⟩
  case stop =>
    rintro D c pre W hD hpre ⟨⟨k2, rfl, hp⟩, hB⟩ hK
    obtain ⟨p, hp⟩ := hp
    have hbits : ((fd (word b0 b1 b2 b3) pre).map fun p => cmpN p.1.2 (word b0 b1 b2 b3 p.1.1)).getD 0 = cmpN (val a0 a1 a2 a3) (val b0 b1 b2 b3) := by rw [hp, ← fd_prefix hp hpre]; exact fd_downs ha hb
    rw [hbits] at k2
    clear hbits hp
    gi_wp2
    have k2' := k2.kept (grownBy_putObj' _ D (.deferred none)) (by intro e; cases e; omega)
    have r0 := k2'.cell 0
    simp only [List.getElem?_cons_zero] at r0
    have hB' := hB.trans (belowK_b (w := w) (Nat.le_refl _) _ D _ (.deferred none) (by omega) hK rfl rfl)
    refine ⟨by simp, .inl ⟨_, _, rfl, run_takeDeferred hK, ?_⟩⟩
    refine ⟨.int .i64 (cmpN (val a0 a1 a2 a3) (val b0 b1 b2 b3)), ?_, ?_⟩
    · simp [results, Try.f75, go_sem, r0]
    · exact ⟨rfl, hB'⟩

theorem cmp_any {a0 a1 a2 a3 b0 b1 b2 b3 : Nat} (ha : Ok4 a0 a1 a2 a3) (hb : Ok4 b0 b1 b2 b3) (w : World) :
    Calls Try.prog 75 #[wv a0 a1 a2 a3, wv b0 b1 b2 b3] w fun e W' => e = .returned (.int .i64 (cmpN (val a0 a1 a2 a3) (val b0 b1 b2 b3))) ∧ Below w.heap.size w W' := callsIn_wide.1 (cmp_in 3 (by omega) ha hb w)
end Go.Proofs.Ytigdenlnnnfjlaa
