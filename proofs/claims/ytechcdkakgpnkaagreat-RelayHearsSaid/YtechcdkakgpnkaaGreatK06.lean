/-
  What is put of a transfer and a side's data that may be, and read again; What is read of octets is those octets: each field that was read is what it is written as; What is put of a message that may be, and read again; what is read of octets, and put again; a beginning, and more behind it; What is read of octets has words that are words; what Read tells, way by way; Which asks and bids may be: bid'
-/
import Derived.Outline
import Derived.Deep.Cut
import Derived.Test.YtechcdkakgpnkaaGreatK05
namespace Go.Proofs.YtechcdkakgpnkaaGreat
open Go.RowKit Go.Shelf
def encI (i : Trf) : List UInt8 := encT invB ++ (encN i.us ++ (encT i.rt ++ (encN i.ro ++ (encN i.se ++ (encN i.re ++ (encN i.to ++ encT i.id))))))
def encV (v : Sid) : List UInt8 := wide8 v.a0 v.a1 v.a2 v.a3 ++ encN v.x
theorem invB_size : invB.size = 3 := rfl
theorem encI_length {i : Trf} (h : maybeI i) : (encI i).length ≤ 100 := by
  obtain ⟨_, h1, _, _, _, _, _, h6'⟩ := h
  simp only [encI, List.length_append, encT_length, encN_length, invB_size]; omega
theorem encV_length (v : Sid) : (encV v).length = 38 := by
  simp only [encV, List.length_append, encN_length, wide8_length]
theorem putV_ok {l : List UInt8} {v : Sid} (h : maybeV v) (hl : l.length ≤ 1000) : putV (l, 0) v = (l ++ encV v, 0) := by
  obtain ⟨_, h0, h1⟩ := h
  unfold putV
  rw [wide_ok (by omega), num_ok h0 h1 (by rw [List.length_append, wide8_length]; omega), List.append_assoc]
  rfl
theorem getI_ok {i : Trf} (h : maybeI i) (R : List UInt8) : getI (encI i ++ R, 0) = (i, (R, 0)) := by
  have h' := h
  obtain ⟨⟨h0, h0'⟩, h1, ⟨h2, h2'⟩, ⟨h3, h3'⟩, ⟨h4, h4'⟩, ⟨h5, h5'⟩, h6, h6'⟩ := h
  have hE : encI i ++ R = encT invB ++ (encN i.us ++ (encT i.rt ++ (encN i.ro ++ (encN i.se ++ (encN i.re ++ (encN i.to ++ (encT i.id ++ R))))))) := by
    unfold encI; simp only [List.append_assoc]
  rw [hE]
  have e0 : rd0 (encT invB ++ (encN i.us ++ (encT i.rt ++ (encN i.ro ++ (encN i.se ++ (encN i.re ++ (encN i.to ++ (encT i.id ++ R))))))), 0) = _ := rdT (by decide) (by decide) _
  obtain ⟨k1, e1, q1⟩ := rdN h0 (by omega) (encT i.rt ++ (encN i.ro ++ (encN i.se ++ (encN i.re ++ (encN i.to ++ (encT i.id ++ R))))))
  have e2 : gtxtS (encT i.rt ++ (encN i.ro ++ (encN i.se ++ (encN i.re ++ (encN i.to ++ (encT i.id ++ R))))), 0) 8 = _ := rdT (by omega) (by omega) _
  obtain ⟨k3, e3, q3⟩ := rdN (n := i.ro) (by omega) (by omega) (encN i.se ++ (encN i.re ++ (encN i.to ++ (encT i.id ++ R))))
  obtain ⟨k4, e4, q4⟩ := rdN h3 (by omega) (encN i.re ++ (encN i.to ++ (encT i.id ++ R)))
  obtain ⟨k5, e5, q5⟩ := rdN h4 (by omega) (encN i.to ++ (encT i.id ++ R))
  obtain ⟨k6, e6, q6⟩ := rdN h5 (by omega) (encT i.id ++ R)
  have e7 : gtxtS (encT i.id ++ R, 0) 16 = _ := rdT (by omega) (by omega) _
  generalize hS : (encT invB ++ (encN i.us ++ (encT i.rt ++ (encN i.ro ++ (encN i.se ++ (encN i.re ++ (encN i.to ++ (encT i.id ++ R))))))), (0 : Int)) = S at *
  have f1 := (rfl : rd1 S = mostS (rd0 S).2 6 big).trans ((congrArg (fun x : List UInt8 × St => mostS x.2 6 big) e0).trans e1)
  have f2 := (rfl : rd2 S = gtxtS (rd1 S).2 8).trans ((congrArg (fun x : Nat × St => gtxtS x.2 8) f1).trans e2)
  have f3 := (rfl : rd3 S = mostS (rd2 S).2 6 big).trans ((congrArg (fun x : List UInt8 × St => mostS x.2 6 big) f2).trans e3)
  have f4 := (rfl : rd4 S = mostS (rd3 S).2 6 big).trans ((congrArg (fun x : Nat × St => mostS x.2 6 big) f3).trans e4)
  have f5 := (rfl : rd5 S = mostS (rd4 S).2 6 big).trans ((congrArg (fun x : Nat × St => mostS x.2 6 big) f4).trans e5)
  have f6 := (rfl : rd6 S = mostS (rd5 S).2 6 big).trans ((congrArg (fun x : Nat × St => mostS x.2 6 big) f5).trans e6)
  have f7 := (rfl : rd7 S = gtxtS (rd6 S).2 16).trans ((congrArg (fun x : Nat × St => gtxtS x.2 16) f6).trans e7)
  have hraw : rawI S = i := by
    unfold rawI
    rw [f1, f2, f3, f4, f5, f6, f7, str_of_list, str_of_list]
    simp only [q1, q3, q4, q5, q6]
  have hg : goodI S := by
    refine ⟨?_, by rw [hraw]; exact h'⟩
    rw [e0]
    exact str_of_list invB
  rw [getI_yes (by rw [f7]) hg, hraw, f7]
theorem getV_ok {v : Sid} (h : maybeV v) (h4 : Ok4 v.a0 v.a1 v.a2 v.a3) (R : List UInt8) : getV (encV v ++ R, 0) = (v, (R, 0)) := by
  have h' := h
  obtain ⟨_, h0, h1⟩ := h
  obtain ⟨e0, w0, w1, w2, w3⟩ := rd_wide h4 (encN v.x ++ R)
  obtain ⟨k, e1, q1⟩ := rdN h0 h1 R
  have f0 : vd0 (encV v ++ R, 0) = (wide8 v.a0 v.a1 v.a2 v.a3, (encN v.x ++ R, 0)) := by
    unfold vd0 encV; rw [List.append_assoc]; exact e0
  have f1 : vd1 (encV v ++ R, 0) = (k, (R, 0)) := by unfold vd1; rw [f0]; exact e1
  have hraw : rawV (encV v ++ R, 0) = v := by
    unfold rawV
    rw [f0, f1]
    simp only [w0, w1, w2, w3, q1]
  rw [getV_yes (by rw [f1]) (by rw [hraw]; exact h'), hraw, f1]
theorem txt_ok2 {l : List UInt8} {t : ByteArray} (h1 : t.size ≤ 1024) (h : l.length ≤ 7000) : txtS (l, 0) t = (l ++ encT t, 0) := by
  have hl := encT_length t
  unfold txtS
  rw [if_pos h1]
  exact add_ok (by have : (encT t).length = t.size + 2 := hl; unfold encT at this; omega)
theorem num_ok2 {l : List UInt8} {n : Int} (h0 : 0 ≤ n) (h1 : n ≤ 1099511627776) (h : l.length ≤ 8000) : numS (l, 0) n = (l ++ encN n, 0) := num_ok h0 h1 h
theorem putI_at {l : List UInt8} {i : Trf} (h : maybeI i) (hl : l.length ≤ 1000) : putI (l, 0) i = (l ++ encI i, 0) := by
  obtain ⟨⟨h0, h0'⟩, h1, ⟨h2, h2'⟩, ⟨h3, h3'⟩, ⟨h4, h4'⟩, ⟨h5, h5'⟩, h6, h6'⟩ := h
  have t0 := encT_length invB
  have t1 := encT_length i.rt
  have n0 := encN_length i.us
  have n1 := encN_length i.ro
  have n2 := encN_length i.se
  have n3 := encN_length i.re
  have n4 := encN_length i.to
  rw [invB_size] at t0
  unfold putI putI2 putI1
  rw [txt_ok2 (t := invB) (by decide) (by omega)]
  rw [num_ok2 h0 (by omega) (by simp only [List.length_append]; omega)]
  rw [txt_ok2 (by omega) (by simp only [List.length_append]; omega)]
  rw [num_ok2 (by omega) (by omega) (by simp only [List.length_append]; omega)]
  rw [num_ok2 h3 (by omega) (by simp only [List.length_append]; omega)]
  rw [num_ok2 h4 (by omega) (by simp only [List.length_append]; omega)]
  rw [num_ok2 h5 (by omega) (by simp only [List.length_append]; omega)]
  rw [txt_ok2 (by omega) (by simp only [List.length_append]; omega)]
  unfold encI
  simp only [List.append_assoc]
end Go.Proofs.YtechcdkakgpnkaaGreat
namespace Go.Proofs.YtechcdkakgpnkaaGreat
open Go.RowKit Go.Shelf
theorem octs_be (l : List UInt8) : octs (be l) l.length = l := by
  have h : ∀ (n : Nat) (l : List UInt8), l.length = n → octs (be l) n = l := by
    intro n
    induction n with
    | zero => intro l hl; rw [List.length_eq_zero_iff.1 hl]; rfl
    | succ n ih =>
      intro l hl
      have hne : l ≠ [] := fun e => by rw [e] at hl; simp at hl
      obtain ⟨r, x, rfl⟩ : ∃ r x, l = r ++ [x] := ⟨l.dropLast, l.getLast hne, (List.dropLast_concat_getLast hne).symm⟩
      have hr : r.length = n := by simpa using hl
      have hx := x.toNat_lt
      rw [octs_snoc, be_snoc]
      have h1 : (be r * 256 + x.toNat) / 256 = be r := by omega
      have h2 : oct (be r * 256 + x.toNat) 0 = x := by
        unfold oct
        rw [show (be r * 256 + x.toNat) / 2 ^ (0 * 8) = be r * 256 + x.toNat by simp]
        apply UInt8.toNat_inj.1
        rw [UInt8.toNat_ofNat']
        omega
      rw [h1, h2, ih r hr]
  exact h l.length l rfl
theorem two_of {n : Nat} (h : n < 18446744073709551616) : two (n : Int) = n := by unfold two; omega
theorem take_zero_err {s : St} {n : Nat} (h : (takeS s n).2.2 = 0) : s.2 = 0 ∧ n ≤ s.1.length ∧ takeS s n = (s.1.take n, (s.1.drop n, 0)) := by
  by_cases h0 : s.2 = 0
  · by_cases h1 : n ≤ s.1.length
    · exact ⟨h0, h1, takeS_ok h0 h1⟩
    · rw [takeS_short h0 (by omega)] at h
      exact absurd h (by decide)
  · rw [takeS_bad h0] at h
    exact absurd h h0
theorem most_zero_err {s : St} {n : Nat} {m : Int} (h : (mostS s n m).2.2 = 0) : s.2 = 0 ∧ n ≤ s.1.length ∧ mostS s n m = (be ((s.1.take n).take 7), (s.1.drop n, 0)) ∧ (be ((s.1.take n).take 7) : Int) ≤ m := by
  unfold mostS at h ⊢
  by_cases hc : (takeS s n).2.2 = 0 ∧ m < (be ((takeS s n).1.take 7) : Int)
  · rw [if_pos hc] at h
    exact absurd h (by decide)
  · rw [if_neg hc] at h ⊢
    obtain ⟨h0, h1, h2⟩ := take_zero_err h
    rw [h2] at hc ⊢
    exact ⟨h0, h1, rfl, by
      rcases Int.lt_or_le m (be ((s.1.take n).take 7) : Int) with h3 | h3
      · exact absurd ⟨rfl, h3⟩ hc
      · exact h3⟩
theorem rb_num {s : St} (h : (mostS s 6 big).2.2 = 0) : s.2 = 0 ∧ s.1 = encN ((mostS s 6 big).1 : Nat) ++ (mostS s 6 big).2.1 := by
  obtain ⟨h0, h1, h2, h3⟩ := most_zero_err h
  refine ⟨h0, ?_⟩
  rw [h2]
  have hl : (s.1.take 6).length = 6 := by rw [List.length_take]; omega
  have ht : (s.1.take 6).take 7 = s.1.take 6 := List.take_of_length_le (by omega)
  rw [ht] at h3 ⊢
  have ho := octs_be (s.1.take 6)
  rw [hl] at ho
  show s.1 = octs (two ((be (s.1.take 6) : Nat) : Int)) 6 ++ s.1.drop 6
  rw [two_of (by have : (be (s.1.take 6) : Int) ≤ 1099511627776 := h3; omega), ho, List.take_append_drop]
theorem rb_txt {s : St} {m : Int} (h : (gtxtS s m).2.2 = 0) : s.2 = 0 ∧ s.1 = encT (str (gtxtS s m).1) ++ (gtxtS s m).2.1 := by
  unfold gtxtS at h ⊢
  obtain ⟨g0, g1, g2⟩ := take_zero_err h
  obtain ⟨h0, h1, h2, h3⟩ := most_zero_err g0
  refine ⟨h0, ?_⟩
  rw [g2]
  rw [h2] at g1 ⊢
  have hl : (s.1.take 2).length = 2 := by rw [List.length_take]; omega
  have ht : (s.1.take 2).take 7 = s.1.take 2 := List.take_of_length_le (by omega)
  rw [ht] at g1 ⊢
  have ho := octs_be (s.1.take 2)
  rw [hl] at ho
  dsimp only at g1 ⊢
  have hz : (str ((s.1.drop 2).take (be (s.1.take 2)))).size = be (s.1.take 2) := by
    show ((s.1.drop 2).take (be (s.1.take 2))).toArray.size = _
    rw [List.size_toArray, List.length_take]; omega
  unfold encT
  rw [hz, ho]
  show s.1 = s.1.take 2 ++ (s.1.drop 2).take (be (s.1.take 2)) ++ (s.1.drop 2).drop (be (s.1.take 2))
  rw [List.append_assoc, List.take_append_drop, List.take_append_drop]
theorem wide8_of {l : List UInt8} (h : l.length = 32) : wide8 (wdS l 0) (wdS l 1) (wdS l 2) (wdS l 3) = l ∧ Ok4 (wdS l 0) (wdS l 1) (wdS l 2) (wdS l 3) := by
  have hw : ∀ q, wdS l q = be ((l.drop (8 * (3 - q))).take 8) := fun q => by
    unfold wdS uwd
    rw [if_pos h, List.take_of_length_le (l := l) (by omega)]
  have l8 : ∀ k, k ≤ 24 → ((l.drop k).take 8).length = 8 := fun k hk => by rw [List.length_take, List.length_drop]; omega
  have ho : ∀ k, k ≤ 24 → octs (be ((l.drop k).take 8)) 8 = (l.drop k).take 8 := fun k hk => by
    have := octs_be ((l.drop k).take 8)
    rw [l8 k hk] at this
    exact this
  have hM : ∀ k, k ≤ 24 → be ((l.drop k).take 8) < M := fun k hk => by
    have := be_lt ((l.drop k).take 8)
    rw [l8 k hk] at this
    unfold M; omega
  rw [hw 0, hw 1, hw 2, hw 3]
  refine ⟨?_, hM _ (by omega), hM _ (by omega), hM _ (by omega), hM _ (by omega)⟩
  unfold wide8
  rw [ho _ (by omega), ho _ (by omega), ho _ (by omega), ho _ (by omega)]
  have e1 : ∀ k, (l.drop k).take 8 ++ l.drop (k + 8) = l.drop k := fun k => by
    rw [← List.drop_drop]; exact List.take_append_drop 8 _
  have e4 : (l.drop 24).take 8 = l.drop 24 := List.take_of_length_le (by rw [List.length_drop]; omega)
  show (l.drop 0).take 8 ++ ((l.drop 8).take 8 ++ ((l.drop 16).take 8 ++ (l.drop 24).take 8)) = l
  rw [e4, e1 16, e1 8, e1 0]
  rfl
theorem rb_wide {s : St} (h : (takeS s 32).2.2 = 0) : s.2 = 0 ∧ s.1 = wide8 (wdS (takeS s 32).1 0) (wdS (takeS s 32).1 1) (wdS (takeS s 32).1 2) (wdS (takeS s 32).1 3) ++ (takeS s 32).2.1 ∧ Ok4 (wdS (takeS s 32).1 0) (wdS (takeS s 32).1 1) (wdS (takeS s 32).1 2) (wdS (takeS s 32).1 3) := by
  obtain ⟨h0, h1, h2⟩ := take_zero_err h
  rw [h2]
  obtain ⟨hw, hk⟩ := wide8_of (l := s.1.take 32) (by rw [List.length_take]; omega)
  refine ⟨h0, ?_, hk⟩
  dsimp only
  rw [hw, List.take_append_drop]
theorem rb_inv {s : St} (h : (getI s).2.2 = 0) : s.2 = 0 ∧ s.1 = encI (getI s).1 ++ (getI s).2.1 ∧ maybeI (getI s).1 := by
  have hc : (rd7 s).2.2 = 0 ∧ goodI s := by
    by_cases hc : (rd7 s).2.2 = 0 ∧ goodI s
    · exact hc
    · unfold getI at h
      rw [if_neg hc] at h
      exact absurd h (errS_ne _)
  rw [getI_yes hc.1 hc.2]
  obtain ⟨h7, e7⟩ := rb_txt (s := (rd6 s).2) (m := 16) hc.1
  obtain ⟨h6, e6⟩ := rb_num (s := (rd5 s).2) h7
  obtain ⟨h5, e5⟩ := rb_num (s := (rd4 s).2) h6
  obtain ⟨h4, e4⟩ := rb_num (s := (rd3 s).2) h5
  obtain ⟨h3, e3⟩ := rb_num (s := (rd2 s).2) h4
  obtain ⟨h2, e2⟩ := rb_txt (s := (rd1 s).2) (m := 8) h3
  obtain ⟨h1, e1⟩ := rb_num (s := (rd0 s).2) h2
  obtain ⟨h0, e0⟩ := rb_txt (s := s) (m := 16) h1
  refine ⟨h0, ?_, hc.2.2⟩
  have f0 : s.1 = encT (str (rd0 s).1) ++ (rd0 s).2.1 := e0
  have f1 : (rd0 s).2.1 = encN ((rd1 s).1 : Nat) ++ (rd1 s).2.1 := e1
  have f2 : (rd1 s).2.1 = encT (str (rd2 s).1) ++ (rd2 s).2.1 := e2
  have f3 : (rd2 s).2.1 = encN ((rd3 s).1 : Nat) ++ (rd3 s).2.1 := e3
  have f4 : (rd3 s).2.1 = encN ((rd4 s).1 : Nat) ++ (rd4 s).2.1 := e4
  have f5 : (rd4 s).2.1 = encN ((rd5 s).1 : Nat) ++ (rd5 s).2.1 := e5
  have f6 : (rd5 s).2.1 = encN ((rd6 s).1 : Nat) ++ (rd6 s).2.1 := e6
  have f7 : (rd6 s).2.1 = encT (str (rd7 s).1) ++ (rd7 s).2.1 := e7
  rw [f0, f1, f2, f3, f4, f5, f6, f7, hc.2.1]
  unfold encI rawI
  simp only [List.append_assoc]
theorem rb_var {s : St} (h : (getV s).2.2 = 0) : s.2 = 0 ∧ s.1 = encV (getV s).1 ++ (getV s).2.1 ∧ maybeV (getV s).1 ∧ Ok4 (getV s).1.a0 (getV s).1.a1 (getV s).1.a2 (getV s).1.a3 := by
  have hc : (vd1 s).2.2 = 0 ∧ maybeV (rawV s) := by
    by_cases hc : (vd1 s).2.2 = 0 ∧ maybeV (rawV s)
    · exact hc
    · unfold getV at h
      rw [if_neg hc] at h
      exact absurd h (errS_ne _)
  rw [getV_yes hc.1 hc.2]
  obtain ⟨h1, e1⟩ := rb_num (s := (vd0 s).2) hc.1
  obtain ⟨h0, e0, hk⟩ := rb_wide (s := s) h1
  have f0 : s.1 = wide8 (wdS (vd0 s).1 0) (wdS (vd0 s).1 1) (wdS (vd0 s).1 2) (wdS (vd0 s).1 3) ++ (vd0 s).2.1 := e0
  have f1 : (vd0 s).2.1 = encN ((vd1 s).1 : Nat) ++ (vd1 s).2.1 := e1
  refine ⟨h0, ?_, hc.2, hk⟩
  rw [f0, f1]
  unfold encV rawV
  simp only [List.append_assoc]
end Go.Proofs.YtechcdkakgpnkaaGreat
namespace Go.Proofs.YtechcdkakgpnkaaGreat
open Go.RowKit Go.Shelf
theorem rb_ask {s : St} (h : (getA s).2.2 = 0) : s.2 = 0 ∧ s.1 = encA (getA s).1 ++ (getA s).2.1 ∧ maybeA (getA s).1 ∧ OkA (getA s).1 := by
  have hc : (ad5 s).2.2 = 0 ∧ maybeA (rawA s) := by
    by_cases hc : (ad5 s).2.2 = 0 ∧ maybeA (rawA s)
    · exact hc
    · unfold getA at h
      rw [if_neg hc] at h
      exact absurd h (errS_ne _)
  rw [getA_yes hc.1 hc.2]
  obtain ⟨h5, e5⟩ := rb_txt (s := (ad4 s).2) (m := 16) hc.1
  obtain ⟨h4, e4, k4⟩ := rb_wide (s := (ad3 s).2) h5
  obtain ⟨h3, e3⟩ := rb_num (s := (ad2 s).2) h4
  obtain ⟨h2, e2⟩ := rb_num (s := (ad1 s).2) h3
  obtain ⟨h1, e1⟩ := rb_num (s := (ad0 s).2) h2
  obtain ⟨h0, e0⟩ := rb_num (s := s) h1
  have f0 : s.1 = encN ((ad0 s).1 : Nat) ++ (ad0 s).2.1 := e0
  have f1 : (ad0 s).2.1 = encN ((ad1 s).1 : Nat) ++ (ad1 s).2.1 := e1
  have f2 : (ad1 s).2.1 = encN ((ad2 s).1 : Nat) ++ (ad2 s).2.1 := e2
  have f3 : (ad2 s).2.1 = encN ((ad3 s).1 : Nat) ++ (ad3 s).2.1 := e3
  have f4 : (ad3 s).2.1 = wide8 (wdS (ad4 s).1 0) (wdS (ad4 s).1 1) (wdS (ad4 s).1 2) (wdS (ad4 s).1 3) ++ (ad4 s).2.1 := e4
  have f5 : (ad4 s).2.1 = encT (str (ad5 s).1) ++ (ad5 s).2.1 := e5
  refine ⟨h0, ?_, hc.2, ⟨k4⟩⟩
  rw [f0, f1, f2, f3, f4, f5]
  unfold encA rawA
  simp only [List.append_assoc]
theorem putA_at {l : List UInt8} {a : Ak} (h : maybeA a) (hl : l.length ≤ 1000) : putA (l, 0) a = (l ++ encA a, 0) := by
  obtain ⟨⟨h0, h0'⟩, ⟨h1, h1'⟩, ⟨h2, h2'⟩, ⟨h3, h3'⟩, h4, h5, h5'⟩ := h
  have n0 := encN_length a.us
  have n1 := encN_length a.se
  have n2 := encN_length a.re
  have n3 := encN_length a.to
  have n4 := wide8_length a.a0 a.a1 a.a2 a.a3
  unfold putA putA4
  rw [num_ok2 h0 (by omega) (by omega)]
  rw [num_ok2 h1 (by omega) (by simp only [List.length_append]; omega)]
  rw [num_ok2 h2 (by omega) (by simp only [List.length_append]; omega)]
  rw [num_ok2 h3 (by omega) (by simp only [List.length_append]; omega)]
  rw [wide_ok (by simp only [List.length_append]; omega)]
  rw [txt_ok2 (by omega) (by simp only [List.length_append]; omega)]
  unfold encA
  simp only [List.append_assoc]
def encD (b : Bd) : List UInt8 := encN b.ro ++ (encA b.k ++ (wide8 b.b0 b.b1 b.b2 b.b3 ++ (encN b.un ++ encT b.sg)))
def encR (m : Ms) : List UInt8 := encI m.iv ++ (encV m.vr ++ (wide8 m.f0 m.f1 m.f2 m.f3 ++ encT m.sg))
def encG (m : Ms) : List UInt8 := encN m.kd ++ (if m.kd = 1 then encA m.ak else if m.kd = 2 then encD m.bd else encR m)
theorem errG_kind {m : Ms} (h : errG m = 0) : m.kd = 1 ∧ maybeA m.ak ∨ m.kd = 2 ∧ maybeB m.bd ∨ m.kd = 3 ∧ maybeI m.iv ∧ maybeV m.vr ∧ m.sg.size ≤ 1024 := by
  unfold errG at h
  by_cases k1 : m.kd = 1
  · rw [if_pos k1] at h
    by_cases ha : maybeA m.ak
    · exact .inl ⟨k1, ha⟩
    · rw [errA_bad ha] at h; exact absurd h (by decide)
  · rw [if_neg k1] at h
    by_cases k2 : m.kd = 2
    · rw [if_pos k2] at h
      by_cases hb : maybeB m.bd
      · exact .inr (.inl ⟨k2, hb⟩)
      · rw [errB_bad hb] at h; exact absurd h (by decide)
    · rw [if_neg k2] at h
      by_cases k3 : m.kd = 3
      · rw [if_pos k3, errL] at h
        by_cases hi : maybeI m.iv
        · rw [if_pos hi] at h
          by_cases hv : maybeV m.vr
          · rw [if_pos hv] at h
            by_cases hs : m.sg.size ≤ 1024
            · exact .inr (.inr ⟨k3, hi, hv, hs⟩)
            · rw [if_neg hs] at h; exact absurd h (by decide)
          · rw [if_neg hv] at h; exact absurd h (by decide)
        · rw [if_neg hi] at h; exact absurd h (by decide)
      · rw [if_neg k3] at h; exact absurd h (by decide)
theorem putG_ok {m : Ms} (h : errG m = 0) : putG m = (encG m, 0) ∧ (encG m).length ≤ 8192 := by
  have n0 := encN_length m.kd
  have hk : ∀ (h1 : 1 ≤ m.kd) (h2 : m.kd ≤ 3), numS ([], 0) m.kd = (encN m.kd, 0) := fun h1 h2 => by
    rw [num_ok2 (by omega) (by omega) (by simp), List.nil_append]
  unfold putG encG
  rcases errG_kind h with ⟨k, ha⟩ | ⟨k, hb⟩ | ⟨k, hi, hv, hs⟩
  · rw [if_pos k, if_pos k, hk (by omega) (by omega)]
    have la := encA_length ha
    exact ⟨putA_at ha (by omega), by rw [List.length_append]; omega⟩
  · have k1 : ¬ m.kd = 1 := by omega
    rw [if_neg k1, if_neg k1, if_pos k, if_pos k, hk (by omega) (by omega)]
    obtain ⟨⟨r0, r1⟩, ha, hz, _, ⟨u0, u1⟩, hs⟩ := hb
    have la := encA_length ha
    have l0 := encN_length m.bd.ro
    have l1 := wide8_length m.bd.b0 m.bd.b1 m.bd.b2 m.bd.b3
    have l2 := encN_length m.bd.un
    have l3 := encT_length m.bd.sg
    refine ⟨?_, by unfold encD; simp only [List.length_append]; omega⟩
    unfold putD encD
    rw [num_ok2 (by omega) (by omega) (by omega), putA_at ha (by simp only [List.length_append]; omega), wide_ok (by simp only [List.length_append]; omega), num_ok2 u0 u1 (by simp only [List.length_append]; omega), txt_ok2 hs (by simp only [List.length_append]; omega)]
    simp only [List.append_assoc]
  · have k1 : ¬ m.kd = 1 := by omega
    have k2 : ¬ m.kd = 2 := by omega
    rw [if_neg k1, if_neg k1, if_neg k2, if_neg k2, hk (by omega) (by omega)]
    have li := encI_length hi
    have lv := encV_length m.vr
    have l1 := wide8_length m.f0 m.f1 m.f2 m.f3
    have l3 := encT_length m.sg
    refine ⟨?_, by unfold encR; simp only [List.length_append]; omega⟩
    unfold putR encR
    rw [putI_at hi (by omega), putV_ok hv (by simp only [List.length_append]; omega), wide_ok (by simp only [List.length_append]; omega), txt_ok2 hs (by simp only [List.length_append]; omega)]
    simp only [List.append_assoc]
theorem rawG_enc {m : Ms} (h : errG m = 0) (hm : OkM m) (R : List UInt8) : rawG (encG m ++ R, 0) = (plainM m, (R, 0)) := by
  have hk : 1 ≤ m.kd ∧ m.kd ≤ 3 := by rcases errG_kind h with ⟨k, _⟩ | ⟨k, _⟩ | ⟨k, _⟩ <;> omega
  obtain ⟨x0, e0, q0⟩ := rdN (n := m.kd) (by omega) (by omega) ((if m.kd = 1 then encA m.ak else if m.kd = 2 then encD m.bd else encR m) ++ R)
  have f0 : gd0 (encG m ++ R, 0) = (x0, ((if m.kd = 1 then encA m.ak else if m.kd = 2 then encD m.bd else encR m) ++ R, 0)) := by
    unfold gd0 encG; rw [List.append_assoc]; exact e0
  have fk : kdG (encG m ++ R, 0) = m.kd := by unfold kdG; rw [f0]; exact q0
  unfold rawG plainM
  rw [fk, f0]
  dsimp only
  rcases errG_kind h with ⟨k, ha⟩ | ⟨k, hb⟩ | ⟨k, hi, hv, hs⟩
  · rw [if_pos k, if_pos k, if_pos k, getA_ok ha hm.a.k, k]
  · have k1 : ¬ m.kd = 1 := by omega
    rw [if_neg k1, if_pos k, if_neg k1, if_pos k, if_neg k1, if_pos k, k]
    obtain ⟨⟨r0, r1⟩, ha, hz, _, ⟨u0, u1⟩, hs⟩ := hb
    have hE : encD m.bd ++ R = encN m.bd.ro ++ (encA m.bd.k ++ (wide8 m.bd.b0 m.bd.b1 m.bd.b2 m.bd.b3 ++ (encN m.bd.un ++ (encT m.bd.sg ++ R)))) := by
      unfold encD; simp only [List.append_assoc]
    rw [hE]
    obtain ⟨y0, g0, p0⟩ := rdN (n := m.bd.ro) (by omega) (by omega) (encA m.bd.k ++ (wide8 m.bd.b0 m.bd.b1 m.bd.b2 m.bd.b3 ++ (encN m.bd.un ++ (encT m.bd.sg ++ R))))
    have g1 := getA_ok ha hm.b.k (wide8 m.bd.b0 m.bd.b1 m.bd.b2 m.bd.b3 ++ (encN m.bd.un ++ (encT m.bd.sg ++ R)))
    obtain ⟨g2, w0, w1, w2, w3⟩ := rd_wide hm.b.b (encN m.bd.un ++ (encT m.bd.sg ++ R))
    obtain ⟨y3, g3, p3⟩ := rdN (n := m.bd.un) u0 u1 (encT m.bd.sg ++ R)
    have g4 := rdT (t := m.bd.sg) (m := 1024) hs (by omega) R
    generalize hS : (encN m.bd.ro ++ (encA m.bd.k ++ (wide8 m.bd.b0 m.bd.b1 m.bd.b2 m.bd.b3 ++ (encN m.bd.un ++ (encT m.bd.sg ++ R)))), (0 : Int)) = S at *
    have c0 : bd0 S = (y0, _) := g0
    have c1 := (rfl : bd1 S = getA (bd0 S).2).trans ((congrArg (fun x : Nat × St => getA x.2) c0).trans g1)
    have c2 := (rfl : bd2 S = takeS (bd1 S).2 32).trans ((congrArg (fun x : Ak × St => takeS x.2 32) c1).trans g2)
    have c3 := (rfl : bd3 S = mostS (bd2 S).2 6 big).trans ((congrArg (fun x : List UInt8 × St => mostS x.2 6 big) c2).trans g3)
    have c4 := (rfl : bd4 S = gtxtS (bd3 S).2 1024).trans ((congrArg (fun x : Nat × St => gtxtS x.2 1024) c3).trans g4)
    unfold rawD
    rw [c0, c1, c2, c3, c4, str_of_list]
    simp only [p0, p3, w0, w1, w2, w3]
  · have k1 : ¬ m.kd = 1 := by omega
    have k2 : ¬ m.kd = 2 := by omega
    rw [if_neg k1, if_neg k2, if_pos k, if_neg k1, if_neg k2, if_neg k1, if_neg k2, if_pos k, k]
    have hE : encR m ++ R = encI m.iv ++ (encV m.vr ++ (wide8 m.f0 m.f1 m.f2 m.f3 ++ (encT m.sg ++ R))) := by
      unfold encR; simp only [List.append_assoc]
    rw [hE]
    have g0 := getI_ok hi (encV m.vr ++ (wide8 m.f0 m.f1 m.f2 m.f3 ++ (encT m.sg ++ R)))
    have g1 := getV_ok hv hm.v (wide8 m.f0 m.f1 m.f2 m.f3 ++ (encT m.sg ++ R))
    obtain ⟨g2, w0, w1, w2, w3⟩ := rd_wide hm.f (encT m.sg ++ R)
    have g3 := rdT (t := m.sg) (m := 1024) hs (by omega) R
    generalize hS : (encI m.iv ++ (encV m.vr ++ (wide8 m.f0 m.f1 m.f2 m.f3 ++ (encT m.sg ++ R))), (0 : Int)) = S at *
    have c0 : ld0 S = (m.iv, _) := g0
    have c1 := (rfl : ld1 S = getV (ld0 S).2).trans ((congrArg (fun x : Trf × St => getV x.2) c0).trans g1)
    have c2 := (rfl : ld2 S = takeS (ld1 S).2 32).trans ((congrArg (fun x : Sid × St => takeS x.2 32) c1).trans g2)
    have c3 := (rfl : ld3 S = gtxtS (ld2 S).2 1024).trans ((congrArg (fun x : List UInt8 × St => gtxtS x.2 1024) c2).trans g3)
    rw [c0, c1, c2, c3, str_of_list]
    simp only [w0, w1, w2, w3]
theorem errG_plain {m : Ms} (h : errG m = 0) : errG (plainM m) = 0 := by
  rcases errG_kind h with ⟨k, ha⟩ | ⟨k, hb⟩ | ⟨k, hi, hv, hs⟩
  · have e : plainM m = { noM with kd := m.kd, ak := m.ak } := if_pos k
    have g : errG { noM with kd := m.kd, ak := m.ak } = errA m.ak := if_pos k
    rw [e, g]
    exact errA_zero ha
  · have k1 : ¬ m.kd = 1 := by omega
    have e : plainM m = { noM with kd := m.kd, bd := m.bd } := (if_neg k1).trans (if_pos k)
    have g : errG { noM with kd := m.kd, bd := m.bd } = errB m.bd := (if_neg k1).trans (if_pos k)
    rw [e, g]
    exact errB_zero hb
  · have k1 : ¬ m.kd = 1 := by omega
    have k2 : ¬ m.kd = 2 := by omega
    have e : plainM m = { noM with kd := m.kd, iv := m.iv, vr := m.vr, f0 := m.f0, f1 := m.f1, f2 := m.f2, f3 := m.f3, sg := m.sg } := (if_neg k1).trans ((if_neg k2).trans (if_pos k))
    have g : errG { noM with kd := m.kd, iv := m.iv, vr := m.vr, f0 := m.f0, f1 := m.f1, f2 := m.f2, f3 := m.f3, sg := m.sg } = errL m := (if_neg k1).trans ((if_neg k2).trans (if_pos k))
    rw [e, g]
    unfold errL
    rw [if_pos hi, if_pos hv, if_pos hs]
theorem msg_back {m : Ms} (h : errG m = 0) (hm : OkM m) : octG m = (encG m, 0) ∧ (encG m).length ≤ 8192 ∧ readG (openS (encG m)) = (plainM m, 0) := by
  obtain ⟨h1, h2⟩ := putG_ok h
  refine ⟨by rw [octG_yes h, h1], h2, ?_⟩
  have ho : openS (encG m) = (encG m, 0) := if_pos h2
  have hr := rawG_enc h hm []
  rw [List.append_nil] at hr
  rw [ho]
  unfold readG
  rw [hr]
  exact (if_pos rfl).trans (if_pos ⟨errG_plain h, rfl⟩)
theorem ok4_0 : Ok4 0 0 0 0 := ⟨M_pos, M_pos, M_pos, M_pos⟩
theorem rawG_dec {s : St} (h : (rawG s).2.2 = 0) (hE : errG (rawG s).1 = 0) : s.2 = 0 ∧ s.1 = encG (rawG s).1 ++ (rawG s).2.1 ∧ OkM (rawG s).1 := by
  have hk : (rawG s).1.kd = kdG s := by
    unfold rawG
    split
    · rename_i k; exact k.symm
    · split
      · rename_i k; exact k.symm
      · split
        · rename_i k; exact k.symm
        · rfl
  have hdone : ∀ (X : List UInt8), (gd0 s).2.2 = 0 → (gd0 s).2.1 = X → s.2 = 0 ∧ s.1 = encN (kdG s) ++ X := fun X g0 g1 => by
    obtain ⟨a0, a1⟩ := rb_num (s := s) g0
    have a2 : s.1 = encN (kdG s) ++ (gd0 s).2.1 := a1
    exact ⟨a0, by rw [a2, g1]⟩
  have hc := errG_kind hE
  rw [hk] at hc
  unfold rawG at h hE ⊢
  by_cases k1 : kdG s = 1
  · rw [if_pos k1] at h hE ⊢
    obtain ⟨b0, b1, _, b3⟩ := rb_ask h
    obtain ⟨c0, c1⟩ := hdone _ b0 b1
    refine ⟨c0, ?_, ⟨b3, ⟨ok4_0, ok4_0⟩, ok4_0, ok4_0⟩⟩
    rw [c1, k1]
    unfold encG
    rw [if_pos rfl, List.append_assoc]
  · rw [if_neg k1] at h hE ⊢
    by_cases k2 : kdG s = 2
    · rw [if_pos k2] at h hE ⊢
      obtain ⟨a4, e4⟩ := rb_txt (s := (bd3 (gd0 s).2).2) (m := 1024) h
      obtain ⟨a3, e3⟩ := rb_num (s := (bd2 (gd0 s).2).2) a4
      obtain ⟨a2, e2, k4⟩ := rb_wide (s := (bd1 (gd0 s).2).2) a3
      obtain ⟨a1, e1, _, kA⟩ := rb_ask (s := (bd0 (gd0 s).2).2) a2
      obtain ⟨a0, e0⟩ := rb_num (s := (gd0 s).2) a1
      have f0 : (gd0 s).2.1 = encN ((bd0 (gd0 s).2).1 : Nat) ++ (bd0 (gd0 s).2).2.1 := e0
      have f1 : (bd0 (gd0 s).2).2.1 = encA (bd1 (gd0 s).2).1 ++ (bd1 (gd0 s).2).2.1 := e1
      have f2 : (bd1 (gd0 s).2).2.1 = wide8 (wdS (bd2 (gd0 s).2).1 0) (wdS (bd2 (gd0 s).2).1 1) (wdS (bd2 (gd0 s).2).1 2) (wdS (bd2 (gd0 s).2).1 3) ++ (bd2 (gd0 s).2).2.1 := e2
      have f3 : (bd2 (gd0 s).2).2.1 = encN ((bd3 (gd0 s).2).1 : Nat) ++ (bd3 (gd0 s).2).2.1 := e3
      have f4 : (bd3 (gd0 s).2).2.1 = encT (str (bd4 (gd0 s).2).1) ++ (bd4 (gd0 s).2).2.1 := e4
      obtain ⟨c0, c1⟩ := hdone _ a0 f0
      refine ⟨c0, ?_, ⟨⟨ok4_0⟩, ⟨kA.k, k4⟩, ok4_0, ok4_0⟩⟩
      rw [c1, f1, f2, f3, f4, k2]
      unfold encG encD rawD
      dsimp only
      rw [if_neg (by decide), if_pos rfl]
      simp only [List.append_assoc]
    · rw [if_neg k2] at h hE ⊢
      by_cases k3 : kdG s = 3
      · rw [if_pos k3] at h hE ⊢
        obtain ⟨a3, e3⟩ := rb_txt (s := (ld2 (gd0 s).2).2) (m := 1024) h
        obtain ⟨a2, e2, k4⟩ := rb_wide (s := (ld1 (gd0 s).2).2) a3
        obtain ⟨a1, e1, _, kv⟩ := rb_var (s := (ld0 (gd0 s).2).2) a2
        obtain ⟨a0, e0, _⟩ := rb_inv (s := (gd0 s).2) a1
        have f0 : (gd0 s).2.1 = encI (ld0 (gd0 s).2).1 ++ (ld0 (gd0 s).2).2.1 := e0
        have f1 : (ld0 (gd0 s).2).2.1 = encV (ld1 (gd0 s).2).1 ++ (ld1 (gd0 s).2).2.1 := e1
        have f2 : (ld1 (gd0 s).2).2.1 = wide8 (wdS (ld2 (gd0 s).2).1 0) (wdS (ld2 (gd0 s).2).1 1) (wdS (ld2 (gd0 s).2).1 2) (wdS (ld2 (gd0 s).2).1 3) ++ (ld2 (gd0 s).2).2.1 := e2
        have f3 : (ld2 (gd0 s).2).2.1 = encT (str (ld3 (gd0 s).2).1) ++ (ld3 (gd0 s).2).2.1 := e3
        obtain ⟨c0, c1⟩ := hdone _ a0 f0
        refine ⟨c0, ?_, ⟨⟨ok4_0⟩, ⟨ok4_0, ok4_0⟩, kv, k4⟩⟩
        rw [c1, f1, f2, f3, k3]
        unfold encG encR
        dsimp only
        rw [if_neg (by decide), if_neg (by decide)]
        simp only [List.append_assoc]
      · rcases hc with ⟨k, _⟩ | ⟨k, _⟩ | ⟨k, _⟩
        · exact absurd k k1
        · exact absurd k k2
        · exact absurd k k3
theorem readG_zero {s : St} (h : (readG s).2 = 0) : (rawG s).2 = ([], 0) ∧ errG (rawG s).1 = 0 ∧ readG s = ((rawG s).1, 0) := by
  unfold readG at h ⊢
  by_cases h0 : (rawG s).2.2 = 0
  · rw [if_pos h0] at h ⊢
    by_cases h1 : errG (rawG s).1 = 0 ∧ (rawG s).2.1 = []
    · rw [if_pos h1]
      exact ⟨Prod.ext h1.2 h0, h1.1, rfl⟩
    · rw [if_neg h1] at h; exact absurd h (by decide)
  · rw [if_neg h0] at h; exact absurd h h0
theorem openS_zero {b : List UInt8} (h : (openS b).2 = 0) : openS b = (b, 0) ∧ b.length ≤ 8192 := by
  unfold openS at h ⊢
  by_cases hb : b.length ≤ 8192
  · rw [if_pos hb]; exact ⟨rfl, hb⟩
  · rw [if_neg hb] at h; exact absurd h (by decide)
theorem msg_octets {b : List UInt8} (h : (readG (openS b)).2 = 0) : OkM (readG (openS b)).1 ∧ errG (readG (openS b)).1 = 0 ∧ octG (readG (openS b)).1 = (b, 0) ∧ b = encG (readG (openS b)).1 ∧ b.length ≤ 8192 := by
  obtain ⟨h1, h2, h3⟩ := readG_zero h
  obtain ⟨a0, a1, a2⟩ := rawG_dec (by rw [h1]) h2
  obtain ⟨o1, o2⟩ := openS_zero a0
  rw [h3]
  rw [h1, List.append_nil, o1] at a1
  have a1' : b = encG (rawG (openS b)).1 := by rw [o1]; exact a1
  refine ⟨a2, h2, ?_, a1', o2⟩
  show octG (rawG (openS b)).1 = (b, 0)
  rw [octG_yes h2, (putG_ok h2).1, ← a1']
theorem msg_more {m : Ms} (h : errG m = 0) (hm : OkM m) {R : List UInt8} (hR : R ≠ []) : (readG (openS (encG m ++ R))).2 ≠ 0 := by
  intro hz
  obtain ⟨h1, h2, h3⟩ := readG_zero hz
  obtain ⟨a0, _, _⟩ := rawG_dec (by rw [h1]) h2
  rw [(openS_zero a0).1, rawG_enc h hm R] at h1
  exact hR (congrArg Prod.fst h1)
theorem msg_cut {m : Ms} (h : errG m = 0) (hm : OkM m) {c : Nat} (hc : c < (encG m).length) : (readG (openS ((encG m).take c))).2 ≠ 0 := by
  intro hz
  obtain ⟨k1, k2, _, k4, _⟩ := msg_octets hz
  have hne : (encG m).drop c ≠ [] := fun e => by
    have := congrArg List.length e
    rw [List.length_drop] at this
    simp at this
    omega
  have hb := msg_more k2 k1 hne
  rw [← k4, List.take_append_drop, (msg_back h hm).2.2] at hb
  exact hb rfl
end Go.Proofs.YtechcdkakgpnkaaGreat
namespace Go.Proofs.YtechcdkakgpnkaaGreat
open Go.RowKit Go.Shelf
theorem ok4_wd (l : List UInt8) : Ok4 (wdS l 0) (wdS l 1) (wdS l 2) (wdS l 3) := by
  by_cases h : l.length = 32
  · exact (wide8_of h).2
  · have e : ∀ i, wdS l i = 0 := fun i => if_neg h
    rw [e, e, e, e]
    exact ok4_0
theorem okA_get (s : St) : OkA (getA s).1 := by
  unfold getA
  split
  · exact ⟨ok4_wd _⟩
  · exact ⟨ok4_0⟩
theorem okV_get (s : St) : Ok4 (getV s).1.a0 (getV s).1.a1 (getV s).1.a2 (getV s).1.a3 := by
  unfold getV
  split
  · exact ok4_wd _
  · exact ok4_0
theorem okB_raw (s : St) : OkB (rawD s) := ⟨(okA_get (bd0 s).2).k, ok4_wd _⟩
theorem okB_no : OkB noB := ⟨ok4_0, ok4_0⟩
theorem okA_no : OkA noA := ⟨ok4_0⟩
theorem okM_no : OkM noM := ⟨okA_no, okB_no, ok4_0, ok4_0⟩
theorem okM_raw (s : St) : OkM (rawG s).1 := by
  unfold rawG
  split
  · exact ⟨okA_get _, okB_no, ok4_0, ok4_0⟩
  · split
    · exact ⟨okA_no, okB_raw _, ok4_0, ok4_0⟩
    · split
      · exact ⟨okA_no, okB_no, okV_get _, ok4_wd _⟩
      · exact okM_no.1 |> fun _ => ⟨okA_no, okB_no, ok4_0, ok4_0⟩
theorem okS_rawG {s : St} (h : OkS s) : OkS (rawG s).2 := by
  unfold rawG
  have h0 : OkS (gd0 s).2 := okS_most h _ _
  split
  · exact okS_getA h0
  · split
    · exact okS_gtxt (okS_most (okS_take (okS_getA (okS_most h0 _ _)) _) _ _) _
    · split
      · exact okS_gtxt (okS_take (okS_getV (okS_getI h0)) _) _
      · exact h0
theorem readG_ok {s : St} {m : Ms} {g : St} (h : rawG s = (m, g)) (h1 : g.2 = 0) (h2 : g.1 = []) (h3 : errG m = 0) : readG s = (m, 0) := by
  unfold readG; rw [h]; exact (if_pos h1).trans (if_pos ⟨h3, h2⟩)
theorem readG_bad {s : St} {m : Ms} {g : St} (h : rawG s = (m, g)) (h1 : g.2 ≠ 0) : readG s = (noM, g.2) := by
  unfold readG; rw [h]; exact if_neg h1
theorem readG_sp {s : St} {m : Ms} {g : St} (h : rawG s = (m, g)) (h1 : errG m ≠ 0 ∨ g.1 ≠ []) : readG s = (noM, (errS g 16).2) := by
  by_cases h0 : g.2 = 0
  · have e : errS g 16 = ([], 16) := if_pos h0
    rw [e]
    unfold readG; rw [h]; exact (if_pos h0).trans (if_neg fun k => h1.elim (fun q => q k.1) (fun q => q k.2))
  · rw [readG_bad h h0, errS_bad h0]
end Go.Proofs.YtechcdkakgpnkaaGreat
namespace Go.Proofs.YtechcdkakgpnkaaGreat
open Go.RowKit Go.Shelf
def inB (n l m : Int) : Bool := decide (l ≤ n ∧ n ≤ m)
theorem within_any (n l m : Int) (w : World) :
    Calls Tryz.prog 113 #[.int .i64 n, .int .i64 l, .int .i64 m] w fun e W' => e = .returned (.bool (inB n l m)) ∧ w = W' := by
  by_cases h1 : l ≤ n
  · by_cases h2 : n ≤ m
    · rw [show inB n l m = true from decide_eq_true ⟨h1, h2⟩]
      go_enter Tryz.func113, Tryz.ntmps113
      go_wp2
      go_ret
      exact ⟨rfl, rfl⟩
    · rw [show inB n l m = false from decide_eq_false (by omega)]
      go_enter Tryz.func113, Tryz.ntmps113
      go_wp2
      go_ret
      exact ⟨rfl, rfl⟩
  · rw [show inB n l m = false from decide_eq_false (by omega)]
    go_enter Tryz.func113, Tryz.ntmps113
    go_wp2
    go_ret
    exact ⟨rfl, rfl⟩
def bAt (b0 b1 b2 b3 b4 b5 : Bool) (k : Nat) : Bool := match k with | 0 => b0 | 1 => b1 | 2 => b2 | 3 => b3 | 4 => b4 | _ => b5
def judgeI (b0 b1 b2 b3 b4 b5 : Bool) : Int := if b0 = true ∧ b1 = true ∧ b2 = true ∧ b3 = true ∧ b4 = true ∧ b5 = true then 0 else 39
theorem judge_all {b0 b1 b2 b3 b4 b5 : Bool} (h : ∀ j, j < 6 → bAt b0 b1 b2 b3 b4 b5 j = true) : judgeI b0 b1 b2 b3 b4 b5 = 0 :=
  if_pos ⟨h 0 (by omega), h 1 (by omega), h 2 (by omega), h 3 (by omega), h 4 (by omega), h 5 (by omega)⟩
theorem judge_not {b0 b1 b2 b3 b4 b5 : Bool} {j : Nat} (hj : j < 6) (h : bAt b0 b1 b2 b3 b4 b5 j = false) : judgeI b0 b1 b2 b3 b4 b5 = 39 := by
  refine if_neg fun ⟨h0, h1, h2, h3, h4, h5⟩ => ?_
  match j, hj with
  | 0, _ => exact absurd (h0.symm.trans h) (by decide)
  | 1, _ => exact absurd (h1.symm.trans h) (by decide)
  | 2, _ => exact absurd (h2.symm.trans h) (by decide)
  | 3, _ => exact absurd (h3.symm.trans h) (by decide)
  | 4, _ => exact absurd (h4.symm.trans h) (by decide)
  | 5, _ => exact absurd (h5.symm.trans h) (by decide)
set_option maxRecDepth 100000 in
theorem idx_rules (b0 b1 b2 b3 b4 b5 : Bool) (w : World) {k : Nat} (hk : k < 6) :
    (Instr.index 182 (.agg #[.bool b0, .bool b1, .bool b2, .bool b3, .bool b4, .bool b5]) (.int .i64 k)).run Tryz.prog w = .ok (.bool (bAt b0 b1 b2 b3 b4 b5 k)) w := by
  have hs : ∀ j : Nat, (sizeOf 4).run Tryz.prog w = .ok 1 w := fun _ => by kernel_rfl
  obtain rfl | rfl | rfl | rfl | rfl | rfl : k = 0 ∨ k = 1 ∨ k = 2 ∨ k = 3 ∨ k = 4 ∨ k = 5 := by omega
  all_goals
    simp [Instr.index, run_underlying Tryz.underlying182, asIntOf, hs 0, go_sem, bAt]
set_option maxRecDepth 100000 in
set_option maxHeartbeats 1000000 in
theorem judge_any (b0 b1 b2 b3 b4 b5 : Bool) (w : World) :
    Calls Tryz.prog 112 #[.agg #[.bool b0, .bool b1, .bool b2, .bool b3, .bool b4, .bool b5]] w fun e W' => e = .returned (.int .i64 (judgeI b0 b1 b2 b3 b4 b5)) ∧ Below w.heap.size w W' := by
  have kB := Blk.new w 182 [.bool b0, .bool b1, .bool b2, .bool b3, .bool b4, .bool b5]
  have hB := chain0 w (.cells #[.bool b0, .bool b1, .bool b2, .bool b3, .bool b4, .bool b5] 182)
  obtain ⟨c0, c1, c2, c3, c4, c5⟩ := Blk.c6 kB
  have HJ : Hid (∀ (j : Nat), j < 6 → ∀ W, (Instr.index 182 (.agg #[.bool b0, .bool b1, .bool b2, .bool b3, .bool b4, .bool b5]) (.int .i64 j)).run Tryz.prog W = .ok (.bool (bAt b0 b1 b2 b3 b4 b5 j)) W) := Lib.hid fun j hj W => idx_rules b0 b1 b2 b3 b4 b5 W hj
  have HA1 := Lib.hid (fun h => judge_all (b0 := b0) (b1 := b1) (b2 := b2) (b3 := b3) (b4 := b4) (b5 := b5) h)
  have HA2 := Lib.hid (fun j hj h => judge_not (b0 := b0) (b1 := b1) (b2 := b2) (b3 := b3) (b4 := b4) (b5 := b5) (j := j) hj h)
  generalize bAt b0 b1 b2 b3 b4 b5 = f at *
  go_enter Tryz.func112, Tryz.ntmps112
  go_wp2_with fail
  clear c0 c1 c2 c3 c4 c5 kB
  go_loopw [6] (fun n wr => ∃ k : Nat, k ≤ 6 ∧ n = .int .i64 k ∧ (∀ j, j < k → f j = true) ∧ Below w.heap.size w wr) (fun n _ => 6 - (intOf n).toNat)
  case atStart => exact ⟨0, by omega, rfl, fun j hj => absurd hj (by omega), hB⟩
  case round =>
    clear hB
    obtain ⟨k, hk, rfl, hall, hB⟩ := hrel
    have HA := Lib.hid hall
    clear hall
    by_cases hlt : k < 6
    · have hlt' : (k : Int) < 6 := by omega
      have HI := Lib.hid (fun W => HJ.out k hlt W)
      by_cases hb : f k = true
      · have HN : Hid (∀ j, j < k + 1 → f j = true) := Lib.hid fun j hj => by
          by_cases hjk : j < k
          · exact HA.out j hjk
          · obtain rfl : j = k := by omega
            exact hb
        rw [hb] at HI
        clear hb HA
        go_wp2_with (refine wpList_indexTo rfl 182 (.tmp 5) (.tmp 6) rfl (some 8) rfl _ (HI.out _) ?_)
        go_roundw
        case rel => exact ⟨k + 1, by omega, by go_num, HN.out, hB⟩
        case measure => simp [intOf]; omega
      · replace hb : f k = false := by simpa using hb
        have HX := Lib.hid (HA2.out k hlt hb)
        rw [hb] at HI
        clear hb HA
        go_wp2_with (refine wpList_indexTo rfl 182 (.tmp 5) (.tmp 6) rfl (some 8) rfl _ (HI.out _) ?_)
        go_ret
        exact ⟨by rw [HX.out]; rfl, hB⟩
    · obtain rfl : k = 6 := by omega
      go_wp2
      go_ret
      exact ⟨by rw [HA1.out HA.out]; rfl, hB⟩
theorem errA_judge {a : Ak} {z : Bool} (hz : z = true ↔ zw a.a0 a.a1 a.a2 a.a3) :
    judgeI (inB a.us 0 1) (inB a.se 0 1) (inB a.re 0 1) (inB a.to 0 7) (!z) (inB a.id.size 1 16) = errA a := by
  unfold judgeI errA
  congr 1
  simp only [inB, decide_eq_true_eq, maybeA, Bool.not_eq_true', eq_iff_iff]
  have e : (z = false) ↔ ¬ zw a.a0 a.a1 a.a2 a.a3 := by rw [← hz]; simp
  rw [e]
  constructor
  · rintro ⟨h0, h1, h2, h3, h4, h5⟩
    exact ⟨h0, h1, h2, h3, h4, by omega, by omega⟩
  · rintro ⟨h0, h1, h2, h3, h4, h5, h6⟩
    exact ⟨h0, h1, h2, h3, h4, by omega, by omega⟩
theorem zw_eq (a0 a1 a2 a3 : Nat) : (wEq a0 a1 a2 a3 0 0 0 0 = true ↔ zw a0 a1 a2 a3) := by
  unfold wEq zw; rw [decide_eq_true_eq]; omega
set_option maxRecDepth 100000 in
set_option maxHeartbeats 2000000 in
theorem checkAsk_any (a : Ak) (w : World) :
    Calls Tryz.prog 63 #[akv a] w fun e W' => e = .returned (.int .i64 (errA a)) ∧ Below w.heap.size w W' := by
  have hmx : Tryz.prog.follows .mixedOrders = true := by kernel_rfl
  have HE := Lib.hid (errA_judge (a := a) (zw_eq a.a0 a.a1 a.a2 a.a3))
  have hweq := @run_equalIn_wide
  generalize hz : wEq (a.a0 : Nat) (a.a1 : Nat) (a.a2 : Nat) (a.a3 : Nat) 0 0 0 0 = z at *
  have kB := Blk.new w 26 (akc a)
  have hB := chain0 w (.cells (akc a).toArray 26)
  go_enter Tryz.func63, Tryz.ntmps63
  go_wp2_with fail
  refine wp_region_held_drew (S := fun W => Blk W w.heap.size 26 (akc a)) hmx kB ?_
  intro hS
  replace hB := hB.drew
  clear kB
  generalize World.drew _ = Y at *
  refine' wpAnyH_take (i := 0) (oi := _) (v := _) ?hi1 (by kernel_rfl) (by kernel_rfl) (by kernel_rfl) ?hQ1 (Or.inl ⟨?hw1, ?hy1⟩) hS ?rest1
  case hi1 => simp only [List.getElem?_toArray, List.getElem?_cons_zero]; rfl
  case hQ1 => exact fun _ _ _ h => h
  case hw1 => rfl
  case hy1 => intro W' hS'; go_simp; with_reducible rfl
  try simp only [Act.put, List.setIfInBounds_toArray, List.set_cons_zero, List.set_cons_succ]
  refine' wpAnyH_take (i := 1) (oi := _) (v := _) ?hi2 (by kernel_rfl) (by kernel_rfl) (by kernel_rfl) ?hQ2 (Or.inl ⟨?hw2, ?hy2⟩) hS ?rest2
  case hi2 => simp only [List.getElem?_toArray, List.getElem?_cons_succ, List.getElem?_cons_zero]; rfl
  case hQ2 => exact fun _ _ _ h => h
  case hw2 => rfl
  case hy2 => intro W' hS'; obtain ⟨c0, c1, c2, c3, c4, c5, c6, c7, c8⟩ := Blk.c9 hS'; go_simp; with_reducible rfl
  try simp only [Act.put, List.setIfInBounds_toArray, List.set_cons_zero, List.set_cons_succ]
  refine' wpAnyH_take (i := 3) (oi := _) (v := _) ?hi3 (by kernel_rfl) (by kernel_rfl) (by kernel_rfl) ?hQ3 (Or.inl ⟨?hw3, ?hy3⟩) hS ?rest3
  case hi3 => simp only [List.getElem?_toArray, List.getElem?_cons_succ, List.getElem?_cons_zero]; rfl
  case hQ3 => exact fun _ _ _ h => h
  case hw3 => rfl
  case hy3 => intro W' hS'; go_simp; with_reducible rfl
  try simp only [Act.put, List.setIfInBounds_toArray, List.set_cons_zero, List.set_cons_succ]
  refine' wpAnyH_take (i := 4) (oi := _) (v := _) ?hi4 (by kernel_rfl) (by kernel_rfl) (by kernel_rfl) ?hQ4 (Or.inl ⟨?hw4, ?hy4⟩) hS ?rest4
  case hi4 => simp only [List.getElem?_toArray, List.getElem?_cons_succ, List.getElem?_cons_zero]; rfl
  case hQ4 => exact fun _ _ _ h => h
  case hw4 => rfl
  case hy4 => intro W' hS'; obtain ⟨c0, c1, c2, c3, c4, c5, c6, c7, c8⟩ := Blk.c9 hS'; go_simp; with_reducible rfl
  try simp only [Act.put, List.setIfInBounds_toArray, List.set_cons_zero, List.set_cons_succ]
  refine' wpAnyH_take (i := 6) (oi := _) (v := _) ?hi5 (by kernel_rfl) (by kernel_rfl) (by kernel_rfl) ?hQ5 (Or.inl ⟨?hw5, ?hy5⟩) hS ?rest5
  case hi5 => simp only [List.getElem?_toArray, List.getElem?_cons_succ, List.getElem?_cons_zero]; rfl
  case hQ5 => exact fun _ _ _ h => h
  case hw5 => rfl
  case hy5 => intro W' hS'; go_simp; with_reducible rfl
  try simp only [Act.put, List.setIfInBounds_toArray, List.set_cons_zero, List.set_cons_succ]
  refine' wpAnyH_take (i := 7) (oi := _) (v := _) ?hi6 (by kernel_rfl) (by kernel_rfl) (by kernel_rfl) ?hQ6 (Or.inl ⟨?hw6, ?hy6⟩) hS ?rest6
  case hi6 => simp only [List.getElem?_toArray, List.getElem?_cons_succ, List.getElem?_cons_zero]; rfl
  case hQ6 => exact fun _ _ _ h => h
  case hw6 => rfl
  case hy6 => intro W' hS'; obtain ⟨c0, c1, c2, c3, c4, c5, c6, c7, c8⟩ := Blk.c9 hS'; go_simp; with_reducible rfl
  try simp only [Act.put, List.setIfInBounds_toArray, List.set_cons_zero, List.set_cons_succ]
  refine' wpAnyH_take (i := 9) (oi := _) (v := _) ?hi7 (by kernel_rfl) (by kernel_rfl) (by kernel_rfl) ?hQ7 (Or.inl ⟨?hw7, ?hy7⟩) hS ?rest7
  case hi7 => simp only [List.getElem?_toArray, List.getElem?_cons_succ, List.getElem?_cons_zero]; rfl
  case hQ7 => exact fun _ _ _ h => h
  case hw7 => rfl
  case hy7 => intro W' hS'; go_simp; with_reducible rfl
  try simp only [Act.put, List.setIfInBounds_toArray, List.set_cons_zero, List.set_cons_succ]
  refine' wpAnyH_take (i := 10) (oi := _) (v := _) ?hi8 (by kernel_rfl) (by kernel_rfl) (by kernel_rfl) ?hQ8 (Or.inl ⟨?hw8, ?hy8⟩) hS ?rest8
  case hi8 => simp only [List.getElem?_toArray, List.getElem?_cons_succ, List.getElem?_cons_zero]; rfl
  case hQ8 => exact fun _ _ _ h => h
  case hw8 => rfl
  case hy8 => intro W' hS'; obtain ⟨c0, c1, c2, c3, c4, c5, c6, c7, c8⟩ := Blk.c9 hS'; go_simp; with_reducible rfl
  try simp only [Act.put, List.setIfInBounds_toArray, List.set_cons_zero, List.set_cons_succ]
  refine' wpAnyH_take (i := 12) (oi := _) (v := _) ?hi9 (by kernel_rfl) (by kernel_rfl) (by kernel_rfl) ?hQ9 (Or.inl ⟨?hw9, ?hy9⟩) hS ?rest9
  case hi9 => simp only [List.getElem?_toArray, List.getElem?_cons_succ, List.getElem?_cons_zero]; rfl
  case hQ9 => exact fun _ _ _ h => h
  case hw9 => rfl
  case hy9 => intro W' hS'; go_simp; with_reducible rfl
  try simp only [Act.put, List.setIfInBounds_toArray, List.set_cons_zero, List.set_cons_succ]
  refine' wpAnyH_take (i := 13) (oi := _) (v := _) ?hi10 (by kernel_rfl) (by kernel_rfl) (by kernel_rfl) ?hQ10 (Or.inl ⟨?hw10, ?hy10⟩) hS ?rest10
  case hi10 => simp only [List.getElem?_toArray, List.getElem?_cons_succ, List.getElem?_cons_zero]; rfl
  case hQ10 => exact fun _ _ _ h => h
  case hw10 => rfl
  case hy10 => intro W' hS'; obtain ⟨c0, c1, c2, c3, c4, c5, c6, c7, c8⟩ := Blk.c9 hS'; go_simp; with_reducible rfl
  try simp only [Act.put, List.setIfInBounds_toArray, List.set_cons_zero, List.set_cons_succ]
  refine' wpAnyH_take (i := 14) (oi := _) (v := _) ?hi11 (by kernel_rfl) (by kernel_rfl) (by kernel_rfl) ?hQ11 (Or.inl ⟨?hw11, ?hy11⟩) hS ?rest11
  case hi11 => simp only [List.getElem?_toArray, List.getElem?_cons_succ, List.getElem?_cons_zero]; rfl
  case hQ11 => exact fun _ _ _ h => h
  case hw11 => rfl
  case hy11 => intro W' hS'; go_simp; with_reducible rfl
  try simp only [Act.put, List.setIfInBounds_toArray, List.set_cons_zero, List.set_cons_succ]
  refine' wpAnyH_take (i := 15) (oi := _) (v := _) ?hi12 (by kernel_rfl) (by kernel_rfl) (by kernel_rfl) ?hQ12 (Or.inl ⟨?hw12, ?hy12⟩) hS ?rest12
  case hi12 => simp only [List.getElem?_toArray, List.getElem?_cons_succ, List.getElem?_cons_zero]; rfl
  case hQ12 => exact fun _ _ _ h => h
  case hw12 => rfl
  case hy12 => intro W' hS'; go_simp; with_reducible rfl
  try simp only [Act.put, List.setIfInBounds_toArray, List.set_cons_zero, List.set_cons_succ]
  refine' wpAnyH_take (i := 16) (oi := _) (v := _) ?hi13 (by kernel_rfl) (by kernel_rfl) (by kernel_rfl) ?hQ13 (Or.inl ⟨?hw13, ?hy13⟩) hS ?rest13
  case hi13 => simp only [List.getElem?_toArray, List.getElem?_cons_succ, List.getElem?_cons_zero]; rfl
  case hQ13 => exact fun _ _ _ h => h
  case hw13 => rfl
  case hy13 => intro W' hS'; go_simp; with_reducible rfl
  try simp only [Act.put, List.setIfInBounds_toArray, List.set_cons_zero, List.set_cons_succ]
  refine' wpAnyH_take (i := 17) (oi := _) (v := _) ?hi14 (by kernel_rfl) (by kernel_rfl) (by kernel_rfl) ?hQ14 (Or.inl ⟨?hw14, ?hy14⟩) hS ?rest14
  case hi14 => simp only [List.getElem?_toArray, List.getElem?_cons_succ, List.getElem?_cons_zero]; rfl
  case hQ14 => exact fun _ _ _ h => h
  case hw14 => rfl
  case hy14 => intro W' hS'; obtain ⟨c0, c1, c2, c3, c4, c5, c6, c7, c8⟩ := Blk.c9 hS'; go_simp; with_reducible rfl
  try simp only [Act.put, List.setIfInBounds_toArray, List.set_cons_zero, List.set_cons_succ]
  refine' wpAnyH_take (i := 18) (oi := _) (v := _) ?hi15 (by kernel_rfl) (by kernel_rfl) (by kernel_rfl) ?hQ15 (Or.inl ⟨?hw15, ?hy15⟩) hS ?rest15
  case hi15 => simp only [List.getElem?_toArray, List.getElem?_cons_succ, List.getElem?_cons_zero]; rfl
  case hQ15 => exact fun _ _ _ h => h
  case hw15 => rfl
  case hy15 => intro W' hS'; go_simp; with_reducible rfl
  try simp only [Act.put, List.setIfInBounds_toArray, List.set_cons_zero, List.set_cons_succ]
  refine wpAnyH_ready (rs := [2]) (by kernel_rfl) (by simp) ?_
  refine' AllReadyH.cons (o := _) ?ho16 (fun K hK => ?st16) AllReadyH.nil
  case ho16 => simp only [List.getElem?_toArray, List.getElem?_cons_succ, List.getElem?_cons_zero]; rfl
  case st16 =>
    go_simp
    refine (within_any a.us 0 1 _).mono ?_
    rintro e Y1 ⟨rfl, rfl⟩
    refine hK.out _ _ hS (fun hS => ?_)
    clear hK K
    try simp only [Act.put, List.setIfInBounds_toArray, List.set_cons_zero, List.set_cons_succ]
    refine wpAnyH_ready (rs := [5]) (by kernel_rfl) (by simp) ?_
    refine' AllReadyH.cons (o := _) ?ho17 (fun K hK => ?st17) AllReadyH.nil
    case ho17 => simp only [List.getElem?_toArray, List.getElem?_cons_succ, List.getElem?_cons_zero]; rfl
    case st17 =>
      go_simp
      refine (within_any a.se 0 1 _).mono ?_
      rintro e Y1 ⟨rfl, rfl⟩
      refine hK.out _ _ hS (fun hS => ?_)
      clear hK K
      try simp only [Act.put, List.setIfInBounds_toArray, List.set_cons_zero, List.set_cons_succ]
      refine wpAnyH_ready (rs := [8]) (by kernel_rfl) (by simp) ?_
      refine' AllReadyH.cons (o := _) ?ho18 (fun K hK => ?st18) AllReadyH.nil
      case ho18 => simp only [List.getElem?_toArray, List.getElem?_cons_succ, List.getElem?_cons_zero]; rfl
      case st18 =>
        go_simp
        refine (within_any a.re 0 1 _).mono ?_
        rintro e Y1 ⟨rfl, rfl⟩
        refine hK.out _ _ hS (fun hS => ?_)
        clear hK K
        try simp only [Act.put, List.setIfInBounds_toArray, List.set_cons_zero, List.set_cons_succ]
        refine wpAnyH_ready (rs := [11]) (by kernel_rfl) (by simp) ?_
        refine' AllReadyH.cons (o := _) ?ho19 (fun K hK => ?st19) AllReadyH.nil
        case ho19 => simp only [List.getElem?_toArray, List.getElem?_cons_succ, List.getElem?_cons_zero]; rfl
        case st19 =>
          go_simp
          refine (within_any a.to 0 7 _).mono ?_
          rintro e Y1 ⟨rfl, rfl⟩
          refine hK.out _ _ hS (fun hS => ?_)
          clear hK K
          try simp only [Act.put, List.setIfInBounds_toArray, List.set_cons_zero, List.set_cons_succ]
          refine wpAnyH_ready (rs := [19]) (by kernel_rfl) (by simp) ?_
          refine' AllReadyH.cons (o := _) ?ho20 (fun K hK => ?st20) AllReadyH.nil
          case ho20 => simp only [List.getElem?_toArray, List.getElem?_cons_succ, List.getElem?_cons_zero]; rfl
          case st20 =>
            go_simp
            refine (within_any a.id.size 1 16 _).mono ?_
            rintro e Y1 ⟨rfl, rfl⟩
            refine hK.out _ _ hS (fun hS => ?_)
            clear hK K
            try simp only [Act.put, List.setIfInBounds_toArray, List.set_cons_zero, List.set_cons_succ]
            refine' wpAnyH_take (i := 20) (oi := _) (v := _) ?hi21 (by kernel_rfl) (by kernel_rfl) (by kernel_rfl) ?hQ21 (Or.inl ⟨?hw21, ?hy21⟩) hS ?rest21
            case hi21 => simp only [List.getElem?_toArray, List.getElem?_cons_succ, List.getElem?_cons_zero]; rfl
            case hQ21 => exact fun _ _ _ h => h
            case hw21 => rfl
            case hy21 => intro W' hS'; go_simp; with_reducible rfl
            try simp only [Act.put, List.setIfInBounds_toArray, List.set_cons_zero, List.set_cons_succ]
            refine wpAnyH_ready (rs := [21]) (by kernel_rfl) (by simp) ?_
            refine' AllReadyH.cons (o := _) ?ho22 (fun K hK => ?st22) AllReadyH.nil
            case ho22 => simp only [List.getElem?_toArray, List.getElem?_cons_succ, List.getElem?_cons_zero]; rfl
            case st22 =>
              go_simp
              refine (judge_any _ _ _ _ _ _ _).mono ?_
              rintro e Y1 ⟨rfl, hb⟩
              refine hK.out _ _ (hS.below hb hS.lt) (fun hS => ?_)
              clear hK K
              try simp only [Act.put, List.setIfInBounds_toArray, List.set_cons_zero, List.set_cons_succ]
              replace hB := chain hB hb
              clear hb
              refine' wpAnyH_take (i := 22) (oi := _) (v := _) ?hi23 (by kernel_rfl) (by kernel_rfl) (by kernel_rfl) ?hQ23 (Or.inl ⟨?hw23, ?hy23⟩) hS ?rest23
              case hi23 => simp only [List.getElem?_toArray, List.getElem?_cons_succ, List.getElem?_cons_zero]; rfl
              case hQ23 => exact fun _ _ _ h => h
              case hw23 => rfl
              case hy23 => intro W' hS'; go_simp; with_reducible rfl
              try simp only [Act.put, List.setIfInBounds_toArray, List.set_cons_zero, List.set_cons_succ]
              refine wpAnyH_done (by kernel_rfl) ?_ _
              go_wp2_with fail
              go_ret
              exact ⟨by rw [HE.out]; rfl, hB⟩
theorem errB_judge {b : Bd} {z : Bool} (hz : z = true ↔ zw b.b0 b.b1 b.b2 b.b3) :
    judgeI (inB b.ro 2 3) (errA b.k == 0) (!z) (decide (cmpN (val b.b0 b.b1 b.b2 b.b3) (val b.k.a0 b.k.a1 b.k.a2 b.k.a3) ≤ 0)) (inB b.un 0 1099511627776) (decide ((b.sg.size : Int) ≤ 1024)) = errB b := by
  unfold judgeI errB
  congr 1
  have e : (z = false) ↔ ¬ zw b.b0 b.b1 b.b2 b.b3 := by rw [← hz]; simp
  have e2 : cmpN (val b.b0 b.b1 b.b2 b.b3) (val b.k.a0 b.k.a1 b.k.a2 b.k.a3) ≤ 0 ↔ val b.b0 b.b1 b.b2 b.b3 ≤ val b.k.a0 b.k.a1 b.k.a2 b.k.a3 := by
    unfold cmpN; split
    · omega
    · split <;> omega
  have e3 : (errA b.k == 0) = true ↔ maybeA b.k := by
    unfold errA; split <;> simp_all
  simp only [inB, decide_eq_true_eq, maybeB, Bool.not_eq_true', eq_iff_iff, e, e2, e3]
  constructor
  · rintro ⟨h0, h1, h2, h3, h4, h5⟩
    exact ⟨h0, h1, h2, h3, h4, by omega⟩
  · rintro ⟨h0, h1, h2, h3, h4, h5⟩
    exact ⟨h0, h1, h2, h3, h4, by omega⟩
set_option maxRecDepth 100000 in
set_option maxHeartbeats 4000000 in
theorem bidCheck_any (b : Bd) (hb4 : OkB b) (w : World) :
    Calls Tryz.prog 64 #[bdv b] w fun e W' => e = .returned (.int .i64 (errB b)) ∧ Below w.heap.size w W' := by
  have hmx : Tryz.prog.follows .mixedOrders = true := by kernel_rfl
  have HE := Lib.hid (errB_judge (b := b) (zw_eq b.b0 b.b1 b.b2 b.b3))
  have HC := Lib.hid (checkAsk_any b.k)
  have HV := Lib.hid (fun W => cmp_any hb4.b hb4.k W)
  have hweq := @run_equalIn_wide
  generalize hz : wEq (b.b0 : Nat) (b.b1 : Nat) (b.b2 : Nat) (b.b3 : Nat) 0 0 0 0 = z at *
  generalize errA b.k = ea at *
  generalize cmpN _ _ = cn at *
  have kB := Blk.new w 28 (bdc b)
  have hB := chain0 w (.cells (bdc b).toArray 28)
  go_enter Tryz.func64, Tryz.ntmps64
  go_wp2_with fail
  refine wp_region_held_drew (S := fun W => Blk W w.heap.size 28 (bdc b)) hmx kB ?_
  intro hS
  replace hB := hB.drew
  clear kB
  generalize World.drew _ = Y at *
  refine' wpAnyH_take (i := 0) (oi := _) (v := _) ?hi24 (by kernel_rfl) (by kernel_rfl) (by kernel_rfl) ?hQ24 (Or.inl ⟨?hw24, ?hy24⟩) hS ?rest24
  case hi24 => simp only [List.getElem?_toArray, List.getElem?_cons_zero]; rfl
  case hQ24 => exact fun _ _ _ h => h
  case hw24 => rfl
  case hy24 => intro W' hS'; go_simp; with_reducible rfl
  try simp only [Act.put, List.setIfInBounds_toArray, List.set_cons_zero, List.set_cons_succ]
  refine' wpAnyH_take (i := 1) (oi := _) (v := _) ?hi25 (by kernel_rfl) (by kernel_rfl) (by kernel_rfl) ?hQ25 (Or.inl ⟨?hw25, ?hy25⟩) hS ?rest25
  case hi25 => simp only [List.getElem?_toArray, List.getElem?_cons_succ, List.getElem?_cons_zero]; rfl
  case hQ25 => exact fun _ _ _ h => h
  case hw25 => rfl
  case hy25 => intro W' hS'; obtain ⟨c0, c1, c2, c3, c4, c5, c6, c7, c8, c9, c10, c11, c12, c13, c14, c15⟩ := Blk.c16 hS'; go_simp; with_reducible rfl
  try simp only [Act.put, List.setIfInBounds_toArray, List.set_cons_zero, List.set_cons_succ]
  refine' wpAnyH_take (i := 3) (oi := _) (v := _) ?hi26 (by kernel_rfl) (by kernel_rfl) (by kernel_rfl) ?hQ26 (Or.inl ⟨?hw26, ?hy26⟩) hS ?rest26
  case hi26 => simp only [List.getElem?_toArray, List.getElem?_cons_succ, List.getElem?_cons_zero]; rfl
  case hQ26 => exact fun _ _ _ h => h
  case hw26 => rfl
  case hy26 => intro W' hS'; go_simp; with_reducible rfl
  try simp only [Act.put, List.setIfInBounds_toArray, List.set_cons_zero, List.set_cons_succ]
  refine' wpAnyH_take (i := 4) (oi := _) (v := _) ?hi27 (by kernel_rfl) (by kernel_rfl) (by kernel_rfl) ?hQ27 (Or.inl ⟨?hw27, ?hy27⟩) hS ?rest27
  case hi27 => simp only [List.getElem?_toArray, List.getElem?_cons_succ, List.getElem?_cons_zero]; rfl
  case hQ27 => exact fun _ _ _ h => h
  case hw27 => rfl
  case hy27 => intro W' hS'; obtain ⟨c0, c1, c2, c3, c4, c5, c6, c7, c8, c9, c10, c11, c12, c13, c14, c15⟩ := Blk.c16 hS'; go_simp; with_reducible rfl
  try simp only [Act.put, List.setIfInBounds_toArray, List.set_cons_zero, List.set_cons_succ]
  refine' wpAnyH_take (i := 7) (oi := _) (v := _) ?hi28 (by kernel_rfl) (by kernel_rfl) (by kernel_rfl) ?hQ28 (Or.inl ⟨?hw28, ?hy28⟩) hS ?rest28
  case hi28 => simp only [List.getElem?_toArray, List.getElem?_cons_succ, List.getElem?_cons_zero]; rfl
  case hQ28 => exact fun _ _ _ h => h
  case hw28 => rfl
  case hy28 => intro W' hS'; go_simp; with_reducible rfl
  try simp only [Act.put, List.setIfInBounds_toArray, List.set_cons_zero, List.set_cons_succ]
  refine' wpAnyH_take (i := 8) (oi := _) (v := _) ?hi29 (by kernel_rfl) (by kernel_rfl) (by kernel_rfl) ?hQ29 (Or.inl ⟨?hw29, ?hy29⟩) hS ?rest29
  case hi29 => simp only [List.getElem?_toArray, List.getElem?_cons_succ, List.getElem?_cons_zero]; rfl
  case hQ29 => exact fun _ _ _ h => h
  case hw29 => rfl
  case hy29 => intro W' hS'; obtain ⟨c0, c1, c2, c3, c4, c5, c6, c7, c8, c9, c10, c11, c12, c13, c14, c15⟩ := Blk.c16 hS'; go_simp; with_reducible rfl
  try simp only [Act.put, List.setIfInBounds_toArray, List.set_cons_zero, List.set_cons_succ]
  refine' wpAnyH_take (i := 9) (oi := _) (v := _) ?hi30 (by kernel_rfl) (by kernel_rfl) (by kernel_rfl) ?hQ30 (Or.inl ⟨?hw30, ?hy30⟩) hS ?rest30
  case hi30 => simp only [List.getElem?_toArray, List.getElem?_cons_succ, List.getElem?_cons_zero]; rfl
  case hQ30 => exact fun _ _ _ h => h
  case hw30 => rfl
  case hy30 => intro W' hS'; go_simp; with_reducible rfl
  try simp only [Act.put, List.setIfInBounds_toArray, List.set_cons_zero, List.set_cons_succ]
  refine' wpAnyH_take (i := 10) (oi := _) (v := _) ?hi31 (by kernel_rfl) (by kernel_rfl) (by kernel_rfl) ?hQ31 (Or.inl ⟨?hw31, ?hy31⟩) hS ?rest31
  case hi31 => simp only [List.getElem?_toArray, List.getElem?_cons_succ, List.getElem?_cons_zero]; rfl
  case hQ31 => exact fun _ _ _ h => h
  case hw31 => rfl
  case hy31 => intro W' hS'; go_simp; with_reducible rfl
  try simp only [Act.put, List.setIfInBounds_toArray, List.set_cons_zero, List.set_cons_succ]
  refine' wpAnyH_take (i := 11) (oi := _) (v := _) ?hi32 (by kernel_rfl) (by kernel_rfl) (by kernel_rfl) ?hQ32 (Or.inl ⟨?hw32, ?hy32⟩) hS ?rest32
  case hi32 => simp only [List.getElem?_toArray, List.getElem?_cons_succ, List.getElem?_cons_zero]; rfl
  case hQ32 => exact fun _ _ _ h => h
  case hw32 => rfl
  case hy32 => intro W' hS'; go_simp; with_reducible rfl
  try simp only [Act.put, List.setIfInBounds_toArray, List.set_cons_zero, List.set_cons_succ]
  refine' wpAnyH_take (i := 12) (oi := _) (v := _) ?hi33 (by kernel_rfl) (by kernel_rfl) (by kernel_rfl) ?hQ33 (Or.inl ⟨?hw33, ?hy33⟩) hS ?rest33
  case hi33 => simp only [List.getElem?_toArray, List.getElem?_cons_succ, List.getElem?_cons_zero]; rfl
  case hQ33 => exact fun _ _ _ h => h
  case hw33 => rfl
  case hy33 => intro W' hS'; obtain ⟨c0, c1, c2, c3, c4, c5, c6, c7, c8, c9, c10, c11, c12, c13, c14, c15⟩ := Blk.c16 hS'; go_simp; with_reducible rfl
  try simp only [Act.put, List.setIfInBounds_toArray, List.set_cons_zero, List.set_cons_succ]
  refine' wpAnyH_take (i := 13) (oi := _) (v := _) ?hi34 (by kernel_rfl) (by kernel_rfl) (by kernel_rfl) ?hQ34 (Or.inl ⟨?hw34, ?hy34⟩) hS ?rest34
  case hi34 => simp only [List.getElem?_toArray, List.getElem?_cons_succ, List.getElem?_cons_zero]; rfl
  case hQ34 => exact fun _ _ _ h => h
  case hw34 => rfl
  case hy34 => intro W' hS'; go_simp; with_reducible rfl
  try simp only [Act.put, List.setIfInBounds_toArray, List.set_cons_zero, List.set_cons_succ]
  refine' wpAnyH_take (i := 14) (oi := _) (v := _) ?hi35 (by kernel_rfl) (by kernel_rfl) (by kernel_rfl) ?hQ35 (Or.inl ⟨?hw35, ?hy35⟩) hS ?rest35
  case hi35 => simp only [List.getElem?_toArray, List.getElem?_cons_succ, List.getElem?_cons_zero]; rfl
  case hQ35 => exact fun _ _ _ h => h
  case hw35 => rfl
  case hy35 => intro W' hS'; go_simp; with_reducible rfl
  try simp only [Act.put, List.setIfInBounds_toArray, List.set_cons_zero, List.set_cons_succ]
  refine' wpAnyH_take (i := 15) (oi := _) (v := _) ?hi36 (by kernel_rfl) (by kernel_rfl) (by kernel_rfl) ?hQ36 (Or.inl ⟨?hw36, ?hy36⟩) hS ?rest36
  case hi36 => simp only [List.getElem?_toArray, List.getElem?_cons_succ, List.getElem?_cons_zero]; rfl
  case hQ36 => exact fun _ _ _ h => h
  case hw36 => rfl
  case hy36 => intro W' hS'; obtain ⟨c0, c1, c2, c3, c4, c5, c6, c7, c8, c9, c10, c11, c12, c13, c14, c15⟩ := Blk.c16 hS'; go_simp; with_reducible rfl
  try simp only [Act.put, List.setIfInBounds_toArray, List.set_cons_zero, List.set_cons_succ]
  refine' wpAnyH_take (i := 18) (oi := _) (v := _) ?hi37 (by kernel_rfl) (by kernel_rfl) (by kernel_rfl) ?hQ37 (Or.inl ⟨?hw37, ?hy37⟩) hS ?rest37
  case hi37 => simp only [List.getElem?_toArray, List.getElem?_cons_succ, List.getElem?_cons_zero]; rfl
  case hQ37 => exact fun _ _ _ h => h
  case hw37 => rfl
  case hy37 => intro W' hS'; go_simp; with_reducible rfl
  try simp only [Act.put, List.setIfInBounds_toArray, List.set_cons_zero, List.set_cons_succ]
  refine' wpAnyH_take (i := 19) (oi := _) (v := _) ?hi38 (by kernel_rfl) (by kernel_rfl) (by kernel_rfl) ?hQ38 (Or.inl ⟨?hw38, ?hy38⟩) hS ?rest38
  case hi38 => simp only [List.getElem?_toArray, List.getElem?_cons_succ, List.getElem?_cons_zero]; rfl
  case hQ38 => exact fun _ _ _ h => h
  case hw38 => rfl
  case hy38 => intro W' hS'; obtain ⟨c0, c1, c2, c3, c4, c5, c6, c7, c8, c9, c10, c11, c12, c13, c14, c15⟩ := Blk.c16 hS'; go_simp; with_reducible rfl
  try simp only [Act.put, List.setIfInBounds_toArray, List.set_cons_zero, List.set_cons_succ]
  refine' wpAnyH_take (i := 21) (oi := _) (v := _) ?hi39 (by kernel_rfl) (by kernel_rfl) (by kernel_rfl) ?hQ39 (Or.inl ⟨?hw39, ?hy39⟩) hS ?rest39
  case hi39 => simp only [List.getElem?_toArray, List.getElem?_cons_succ, List.getElem?_cons_zero]; rfl
  case hQ39 => exact fun _ _ _ h => h
  case hw39 => rfl
  case hy39 => intro W' hS'; go_simp; with_reducible rfl
  try simp only [Act.put, List.setIfInBounds_toArray, List.set_cons_zero, List.set_cons_succ]
  refine' wpAnyH_take (i := 22) (oi := _) (v := _) ?hi40 (by kernel_rfl) (by kernel_rfl) (by kernel_rfl) ?hQ40 (Or.inl ⟨?hw40, ?hy40⟩) hS ?rest40
  case hi40 => simp only [List.getElem?_toArray, List.getElem?_cons_succ, List.getElem?_cons_zero]; rfl
  case hQ40 => exact fun _ _ _ h => h
  case hw40 => rfl
  case hy40 => intro W' hS'; obtain ⟨c0, c1, c2, c3, c4, c5, c6, c7, c8, c9, c10, c11, c12, c13, c14, c15⟩ := Blk.c16 hS'; go_simp; with_reducible rfl
  try simp only [Act.put, List.setIfInBounds_toArray, List.set_cons_zero, List.set_cons_succ]
  refine' wpAnyH_take (i := 23) (oi := _) (v := _) ?hi41 (by kernel_rfl) (by kernel_rfl) (by kernel_rfl) ?hQ41 (Or.inl ⟨?hw41, ?hy41⟩) hS ?rest41
  case hi41 => simp only [List.getElem?_toArray, List.getElem?_cons_succ, List.getElem?_cons_zero]; rfl
  case hQ41 => exact fun _ _ _ h => h
  case hw41 => rfl
  case hy41 => intro W' hS'; go_simp; with_reducible rfl
  try simp only [Act.put, List.setIfInBounds_toArray, List.set_cons_zero, List.set_cons_succ]
  refine' wpAnyH_take (i := 24) (oi := _) (v := _) ?hi42 (by kernel_rfl) (by kernel_rfl) (by kernel_rfl) ?hQ42 (Or.inl ⟨?hw42, ?hy42⟩) hS ?rest42
  case hi42 => simp only [List.getElem?_toArray, List.getElem?_cons_succ, List.getElem?_cons_zero]; rfl
  case hQ42 => exact fun _ _ _ h => h
  case hw42 => rfl
  case hy42 => intro W' hS'; go_simp; with_reducible rfl
  try simp only [Act.put, List.setIfInBounds_toArray, List.set_cons_zero, List.set_cons_succ]
  refine wpAnyH_ready (rs := [2]) (by kernel_rfl) (by simp) ?_
  refine' AllReadyH.cons (o := _) ?ho43 (fun K hK => ?st43) AllReadyH.nil
  case ho43 => simp only [List.getElem?_toArray, List.getElem?_cons_succ, List.getElem?_cons_zero]; rfl
  case st43 =>
    go_simp
    refine (within_any b.ro 2 3 _).mono ?_
    rintro e Y1 ⟨rfl, rfl⟩
    refine hK.out _ _ hS (fun hS => ?_)
    clear hK K
    try simp only [Act.put, List.setIfInBounds_toArray, List.set_cons_zero, List.set_cons_succ]
    refine wpAnyH_ready (rs := [5]) (by kernel_rfl) (by simp) ?_
    refine' AllReadyH.cons (o := _) ?ho44 (fun K hK => ?st44) AllReadyH.nil
    case ho44 => simp only [List.getElem?_toArray, List.getElem?_cons_succ, List.getElem?_cons_zero]; rfl
    case st44 =>
      go_simp
      refine (HC.out _).mono ?_
      rintro e Y1 ⟨rfl, hb⟩
      refine hK.out _ _ (hS.below hb hS.lt) (fun hS => ?_)
      clear hK K
      try simp only [Act.put, List.setIfInBounds_toArray, List.set_cons_zero, List.set_cons_succ]
      replace hB := chain hB hb
      clear hb
      refine' wpAnyH_take (i := 6) (oi := _) (v := _) ?hi45 (by kernel_rfl) (by kernel_rfl) (by kernel_rfl) ?hQ45 (Or.inl ⟨?hw45, ?hy45⟩) hS ?rest45
      case hi45 => simp only [List.getElem?_toArray, List.getElem?_cons_succ, List.getElem?_cons_zero]; rfl
      case hQ45 => exact fun _ _ _ h => h
      case hw45 => rfl
      case hy45 => intro W' hS'; go_simp; with_reducible rfl
      try simp only [Act.put, List.setIfInBounds_toArray, List.set_cons_zero, List.set_cons_succ]
      refine wpAnyH_ready (rs := [16]) (by kernel_rfl) (by simp) ?_
      refine' AllReadyH.cons (o := _) ?ho46 (fun K hK => ?st46) AllReadyH.nil
      case ho46 => simp only [List.getElem?_toArray, List.getElem?_cons_succ, List.getElem?_cons_zero]; rfl
      case st46 =>
        go_simp
        refine (HV.out _).mono ?_
        rintro e Y1 ⟨rfl, hb⟩
        refine hK.out _ _ (hS.below hb hS.lt) (fun hS => ?_)
        clear hK K
        try simp only [Act.put, List.setIfInBounds_toArray, List.set_cons_zero, List.set_cons_succ]
        replace hB := chain hB hb
        clear hb
        refine' wpAnyH_take (i := 17) (oi := _) (v := _) ?hi47 (by kernel_rfl) (by kernel_rfl) (by kernel_rfl) ?hQ47 (Or.inl ⟨?hw47, ?hy47⟩) hS ?rest47
        case hi47 => simp only [List.getElem?_toArray, List.getElem?_cons_succ, List.getElem?_cons_zero]; rfl
        case hQ47 => exact fun _ _ _ h => h
        case hw47 => rfl
        case hy47 => intro W' hS'; go_simp; with_reducible rfl
        try simp only [Act.put, List.setIfInBounds_toArray, List.set_cons_zero, List.set_cons_succ]
        refine wpAnyH_ready (rs := [20]) (by kernel_rfl) (by simp) ?_
        refine' AllReadyH.cons (o := _) ?ho48 (fun K hK => ?st48) AllReadyH.nil
        case ho48 => simp only [List.getElem?_toArray, List.getElem?_cons_succ, List.getElem?_cons_zero]; rfl
        case st48 =>
          go_simp
          refine (within_any b.un 0 1099511627776 _).mono ?_
          rintro e Y1 ⟨rfl, rfl⟩
          refine hK.out _ _ hS (fun hS => ?_)
          clear hK K
          try simp only [Act.put, List.setIfInBounds_toArray, List.set_cons_zero, List.set_cons_succ]
          refine' wpAnyH_take (i := 25) (oi := _) (v := _) ?hi49 (by kernel_rfl) (by kernel_rfl) (by kernel_rfl) ?hQ49 (Or.inl ⟨?hw49, ?hy49⟩) hS ?rest49
          case hi49 => simp only [List.getElem?_toArray, List.getElem?_cons_succ, List.getElem?_cons_zero]; rfl
          case hQ49 => exact fun _ _ _ h => h
          case hw49 => rfl
          case hy49 => intro W' hS'; go_simp; with_reducible rfl
          try simp only [Act.put, List.setIfInBounds_toArray, List.set_cons_zero, List.set_cons_succ]
          refine wpAnyH_ready (rs := [26]) (by kernel_rfl) (by simp) ?_
          refine' AllReadyH.cons (o := _) ?ho50 (fun K hK => ?st50) AllReadyH.nil
          case ho50 => simp only [List.getElem?_toArray, List.getElem?_cons_succ, List.getElem?_cons_zero]; rfl
          case st50 =>
            go_simp
            refine (judge_any _ _ _ _ _ _ _).mono ?_
            rintro e Y1 ⟨rfl, hb⟩
            refine hK.out _ _ (hS.below hb hS.lt) (fun hS => ?_)
            clear hK K
            try simp only [Act.put, List.setIfInBounds_toArray, List.set_cons_zero, List.set_cons_succ]
            replace hB := chain hB hb
            clear hb
            refine' wpAnyH_take (i := 27) (oi := _) (v := _) ?hi51 (by kernel_rfl) (by kernel_rfl) (by kernel_rfl) ?hQ51 (Or.inl ⟨?hw51, ?hy51⟩) hS ?rest51
            case hi51 => simp only [List.getElem?_toArray, List.getElem?_cons_succ, List.getElem?_cons_zero]; rfl
            case hQ51 => exact fun _ _ _ h => h
            case hw51 => rfl
            case hy51 => intro W' hS'; go_simp; with_reducible rfl
            try simp only [Act.put, List.setIfInBounds_toArray, List.set_cons_zero, List.set_cons_succ]
            refine wpAnyH_done (by kernel_rfl) ?_ _
            go_wp2_with fail
            go_ret
            exact ⟨by rw [HE.out]; rfl, hB⟩
end Go.Proofs.YtechcdkakgpnkaaGreat
