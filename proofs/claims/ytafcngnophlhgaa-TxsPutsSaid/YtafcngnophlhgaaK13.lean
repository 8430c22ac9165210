/-
  What is written of one field is read again: plain functions, for any field.
  What is put of fields, and read again.
  What is put of a transfer and a side's data that may be, and read again.
-/
import Derived.Test.YtafcngnophlhgaaK12
namespace Go.Proofs.Ytafcngnophlhgaa
open Go.RowKit Go.Shelf

theorem addS_zero {s : St} {l : List UInt8} (h : (addS s l).2 = 0) : s.2 = 0 ∧ (addS s l).1 = s.1 ++ l := by
  unfold addS at *; split
  · rename_i h0
    rw [if_pos h0] at h
    split
    · exact ⟨h0, rfl⟩
    · rename_i h1; rw [if_neg h1] at h; exact absurd h (by decide)
  · rename_i h0
    rw [if_neg h0] at h
    exact absurd h h0
theorem errS_zero {s : St} {x : Int} (hx : x ≠ 0) : (errS s x).2 ≠ 0 := by
  unfold errS; split
  · exact hx
  · assumption
theorem be_six {n : Int} (h0 : 0 ≤ n) (h1 : n ≤ 1099511627776) : (be (octs (two n) 6) : Int) = n := by
  rw [be_octs]
  unfold two
  omega
theorem be_two {n : Nat} (h : n ≤ 1024) : be (octs n 2) = n := by rw [be_octs]; omega

theorem mostS_ok {x R : List UInt8} {k : Nat} (hk : x.length = k) (h7 : k ≤ 7) {m : Int} (hm : (be x : Int) ≤ m) : mostS (x ++ R, 0) k m = (be x, (R, 0)) := by
  have e : takeS (x ++ R, 0) k = (x, (R, 0)) := by
    rw [takeS_ok rfl (by simp only [List.length_append]; omega), List.take_left' hk, List.drop_left' hk]
  unfold mostS
  rw [e]
  dsimp only
  rw [List.take_of_length_le (by omega), if_neg (by intro h; have := h.2; omega)]
theorem mostS_short {p : List UInt8} {k : Nat} (hk : p.length < k) (m : Int) : mostS (p, 0) k m = (0, ([], 16)) := by
  unfold mostS
  rw [takeS_short rfl hk, if_neg (by intro h; exact absurd h.1 (by decide))]
  rfl
theorem mostS_bad {s : St} (h : s.2 ≠ 0) (k : Nat) (m : Int) : mostS s k m = (0, s) := by
  unfold mostS
  rw [takeS_bad h, if_neg (fun e => h e.1)]
  rfl
theorem gtxtS_bad {s : St} (h : s.2 ≠ 0) (m : Int) : gtxtS s m = ([], s) := by
  unfold gtxtS
  rw [mostS_bad h, takeS_bad h]
theorem numS_zero {s : St} {n : Int} (h : (numS s n).2 = 0) : s.2 = 0 ∧ (0 ≤ n ∧ n ≤ 1099511627776) ∧ (numS s n).1 = s.1 ++ octs (two n) 6 := by
  unfold numS at *; split
  · rename_i h1
    rw [if_pos h1] at h
    obtain ⟨a, b⟩ := addS_zero h
    exact ⟨a, h1, b⟩
  · rename_i h1
    rw [if_neg h1] at h
    exact absurd h (errS_zero (by decide))
theorem txtS_zero {s : St} {t : ByteArray} (h : (txtS s t).2 = 0) : s.2 = 0 ∧ t.size ≤ 1024 ∧ (txtS s t).1 = s.1 ++ (octs t.size 2 ++ t.data.toList) := by
  unfold txtS at *; split
  · rename_i h1
    rw [if_pos h1] at h
    obtain ⟨a, b⟩ := addS_zero h
    exact ⟨a, h1, b⟩
  · rename_i h1
    rw [if_neg h1] at h
    exact absurd h (errS_zero (by decide))
theorem rd_num {n : Int} (h0 : 0 ≤ n) (h1 : n ≤ 1099511627776) {m : Int} (hm : n ≤ m) (R : List UInt8) : mostS (octs (two n) 6 ++ R, 0) 6 m = (be (octs (two n) 6), (R, 0)) ∧ (be (octs (two n) 6) : Int) = n := by
  have hb := be_six h0 h1
  exact ⟨mostS_ok (octs_length _ _) (by omega) (by omega), hb⟩
theorem rd_txt {t : ByteArray} (h1 : t.size ≤ 1024) {m : Int} (hm : (t.size : Int) ≤ m) (R : List UInt8) : gtxtS (octs t.size 2 ++ (t.data.toList ++ R), 0) m = (t.data.toList, (R, 0)) := by
  have hb := be_two h1
  have hl : t.data.toList.length = t.size := by rw [Array.length_toList]; rfl
  unfold gtxtS
  rw [mostS_ok (octs_length _ _) (by omega) (by omega), hb]
  rw [takeS_ok rfl (by simp only [List.length_append]; omega), List.take_left' hl, List.drop_left' hl]
theorem rd_wide {a0 a1 a2 a3 : Nat} (h4 : Ok4 a0 a1 a2 a3) (R : List UInt8) : takeS (wide8 a0 a1 a2 a3 ++ R, 0) 32 = (wide8 a0 a1 a2 a3, (R, 0)) ∧ wdS (wide8 a0 a1 a2 a3) 0 = a0 ∧ wdS (wide8 a0 a1 a2 a3) 1 = a1 ∧ wdS (wide8 a0 a1 a2 a3) 2 = a2 ∧ wdS (wide8 a0 a1 a2 a3) 3 = a3 := by
  have hl := wide8_length a0 a1 a2 a3
  obtain ⟨q0, q1, q2, q3⟩ := uwd_wide8 h4
  refine ⟨?_, ?_⟩
  · rw [takeS_ok rfl (by simp only [List.length_append]; omega), List.take_left' hl, List.drop_left' hl]
  · unfold wdS
    simp only [hl, if_true]
    exact ⟨q0, q1, q2, q3⟩
end Go.Proofs.Ytafcngnophlhgaa

namespace Go.Proofs.Ytafcngnophlhgaa
open Go.RowKit Go.Shelf

theorem add_ok {l x : List UInt8} (h : l.length + x.length ≤ 8192) : addS (l, 0) x = (l ++ x, 0) := by
  unfold addS; rw [if_pos rfl, if_pos h]
theorem num_ok {l : List UInt8} {n : Int} (h0 : 0 ≤ n) (h1 : n ≤ 1099511627776) (h : l.length ≤ 8000) : numS (l, 0) n = (l ++ octs (two n) 6, 0) := by
  unfold numS; rw [if_pos ⟨h0, h1⟩, add_ok (by rw [octs_length]; omega)]
theorem txt_ok {l : List UInt8} {t : ByteArray} (h1 : t.size ≤ 100) (h : l.length ≤ 8000) : txtS (l, 0) t = (l ++ (octs t.size 2 ++ t.data.toList), 0) := by
  have hl : t.data.toList.length = t.size := by rw [Array.length_toList]; rfl
  unfold txtS; rw [if_pos (by omega), add_ok (by rw [List.length_append, octs_length, hl]; omega)]
theorem wide_ok {l : List UInt8} {a0 a1 a2 a3 : Nat} (h : l.length ≤ 8000) : wideS (l, 0) a0 a1 a2 a3 = (l ++ wide8 a0 a1 a2 a3, 0) := by
  unfold wideS; rw [add_ok (by rw [wide8_length]; omega)]

/-- A text's octets. -/
def encT (t : ByteArray) : List UInt8 := octs t.size 2 ++ t.data.toList
theorem encT_length (t : ByteArray) : (encT t).length = t.size + 2 := by
  have hl : t.data.toList.length = t.size := by rw [Array.length_toList]; rfl
  rw [encT, List.length_append, octs_length, hl]; omega
def encN (n : Int) : List UInt8 := octs (two n) 6
theorem encN_length (n : Int) : (encN n).length = 6 := octs_length _ _
theorem rdT {t : ByteArray} {m : Int} (h1 : t.size ≤ 1024) (hm : (t.size : Int) ≤ m) (R : List UInt8) : gtxtS (encT t ++ R, 0) m = (t.data.toList, (R, 0)) := by
  rw [encT, List.append_assoc]; exact rd_txt h1 hm R
theorem rdN {n : Int} (h0 : 0 ≤ n) (h1 : n ≤ 1099511627776) (R : List UInt8) : ∃ k : Nat, mostS (encN n ++ R, 0) 6 1099511627776 = (k, (R, 0)) ∧ (k : Int) = n := by
  obtain ⟨h, e⟩ := rd_num h0 h1 h1 R
  exact ⟨_, h, e⟩
theorem str_of_list (t : ByteArray) : str t.data.toList = t := by cases t; rfl
end Go.Proofs.Ytafcngnophlhgaa

namespace Go.Proofs.Ytafcngnophlhgaa
open Go.RowKit Go.Shelf

/-- A transfer's octets; a side's. -/
def encI (i : Trf) : List UInt8 := encT invB ++ (encN i.us ++ (encT i.rt ++ (encN i.ro ++ (encN i.se ++ (encN i.re ++ (encN i.to ++ encT i.id))))))
def encV (v : Sid) : List UInt8 := wide8 v.a0 v.a1 v.a2 v.a3 ++ encN v.x
theorem invB_size : invB.size = 3 := rfl
theorem actB_size : actB.size = 3 := rfl
theorem putI_ok {i : Trf} (h : maybeI i) : putI ([], 0) i = (encI i, 0) := by
  obtain ⟨⟨h0, h0'⟩, h1, ⟨h2, h2'⟩, ⟨h3, h3'⟩, ⟨h4, h4'⟩, ⟨h5, h5'⟩, h6, h6'⟩ := h
  unfold putI putI2 putI1
  rw [txt_ok (t := invB) (by decide) (by simp)]
  rw [num_ok h0 (by omega) (by simp [octs_length, invB])]
  rw [txt_ok (by omega) (by simp [octs_length, invB])]
  have hr : i.rt.data.toList.length = 8 := by rw [Array.length_toList]; exact h1
  rw [num_ok (by omega) (by omega) (by simp only [List.length_append, octs_length, hr]; simp [invB])]
  rw [num_ok h3 (by omega) (by simp only [List.length_append, octs_length, hr]; simp [invB])]
  rw [num_ok h4 (by omega) (by simp only [List.length_append, octs_length, hr]; simp [invB])]
  rw [num_ok h5 (by omega) (by simp only [List.length_append, octs_length, hr]; simp [invB])]
  rw [txt_ok (by omega) (by simp only [List.length_append, octs_length, hr]; simp [invB])]
  unfold encI encT encN
  simp only [List.nil_append, List.append_assoc]
theorem encI_length {i : Trf} (h : maybeI i) : (encI i).length ≤ 100 := by
  obtain ⟨_, h1, _, _, _, _, _, h6'⟩ := h
  simp only [encI, List.length_append, encT_length, encN_length, invB_size]; omega
theorem encV_length (v : Sid) : (encV v).length = 38 := by
  simp only [encV, List.length_append, encN_length, wide8_length]
theorem putV_ok {l : List UInt8} {v : Sid} (h : maybeV v) (hl : l.length ≤ 1000) : putV (l, 0) v = (l ++ encV v, 0) := by
  obtain ⟨_, h0, h1⟩ := h
  unfold putV
  rw [wide_ok (by omega), num_ok h0 h1 (by rw [List.length_append, wide8_length]; omega), List.append_assoc]
  rfl

theorem getI_ok {i : Trf} (h : maybeI i) (R : List UInt8) : getI (encI i ++ R, 0) = (i, (R, 0)) := by
  have h' := h
  obtain ⟨⟨h0, h0'⟩, h1, ⟨h2, h2'⟩, ⟨h3, h3'⟩, ⟨h4, h4'⟩, ⟨h5, h5'⟩, h6, h6'⟩ := h
  have hE : encI i ++ R = encT invB ++ (encN i.us ++ (encT i.rt ++ (encN i.ro ++ (encN i.se ++ (encN i.re ++ (encN i.to ++ (encT i.id ++ R))))))) := by
    unfold encI; simp only [List.append_assoc]
  rw [hE]
  have e0 : rd0 (encT invB ++ (encN i.us ++ (encT i.rt ++ (encN i.ro ++ (encN i.se ++ (encN i.re ++ (encN i.to ++ (encT i.id ++ R))))))), 0) = _ := rdT (by decide) (by decide) _
  obtain ⟨k1, e1, q1⟩ := rdN h0 (by omega) (encT i.rt ++ (encN i.ro ++ (encN i.se ++ (encN i.re ++ (encN i.to ++ (encT i.id ++ R))))))
  have e2 : gtxtS (encT i.rt ++ (encN i.ro ++ (encN i.se ++ (encN i.re ++ (encN i.to ++ (encT i.id ++ R))))), 0) 8 = _ := rdT (by omega) (by omega) _
  obtain ⟨k3, e3, q3⟩ := rdN (n := i.ro) (by omega) (by omega) (encN i.se ++ (encN i.re ++ (encN i.to ++ (encT i.id ++ R))))
  obtain ⟨k4, e4, q4⟩ := rdN h3 (by omega) (encN i.re ++ (encN i.to ++ (encT i.id ++ R)))
  obtain ⟨k5, e5, q5⟩ := rdN h4 (by omega) (encN i.to ++ (encT i.id ++ R))
  obtain ⟨k6, e6, q6⟩ := rdN h5 (by omega) (encT i.id ++ R)
  have e7 : gtxtS (encT i.id ++ R, 0) 16 = _ := rdT (by omega) (by omega) _
  generalize hS : (encT invB ++ (encN i.us ++ (encT i.rt ++ (encN i.ro ++ (encN i.se ++ (encN i.re ++ (encN i.to ++ (encT i.id ++ R))))))), (0 : Int)) = S at *
  have f1 := (rfl : rd1 S = mostS (rd0 S).2 6 big).trans ((congrArg (fun x : List UInt8 × St => mostS x.2 6 big) e0).trans e1)
  have f2 := (rfl : rd2 S = gtxtS (rd1 S).2 8).trans ((congrArg (fun x : Nat × St => gtxtS x.2 8) f1).trans e2)
  have f3 := (rfl : rd3 S = mostS (rd2 S).2 6 big).trans ((congrArg (fun x : List UInt8 × St => mostS x.2 6 big) f2).trans e3)
  have f4 := (rfl : rd4 S = mostS (rd3 S).2 6 big).trans ((congrArg (fun x : Nat × St => mostS x.2 6 big) f3).trans e4)
  have f5 := (rfl : rd5 S = mostS (rd4 S).2 6 big).trans ((congrArg (fun x : Nat × St => mostS x.2 6 big) f4).trans e5)
  have f6 := (rfl : rd6 S = mostS (rd5 S).2 6 big).trans ((congrArg (fun x : Nat × St => mostS x.2 6 big) f5).trans e6)
  have f7 := (rfl : rd7 S = gtxtS (rd6 S).2 16).trans ((congrArg (fun x : Nat × St => gtxtS x.2 16) f6).trans e7)
  have hraw : rawI S = i := by
    unfold rawI
    rw [f1, f2, f3, f4, f5, f6, f7, str_of_list, str_of_list]
    simp only [q1, q3, q4, q5, q6]
  have hg : goodI S := by
    refine ⟨?_, by rw [hraw]; exact h'⟩
    rw [e0]
    exact str_of_list invB
  rw [getI_yes (by rw [f7]) hg, hraw, f7]
theorem getV_ok {v : Sid} (h : maybeV v) (h4 : Ok4 v.a0 v.a1 v.a2 v.a3) (R : List UInt8) : getV (encV v ++ R, 0) = (v, (R, 0)) := by
  have h' := h
  obtain ⟨_, h0, h1⟩ := h
  obtain ⟨e0, w0, w1, w2, w3⟩ := rd_wide h4 (encN v.x ++ R)
  obtain ⟨k, e1, q1⟩ := rdN h0 h1 R
  have f0 : vd0 (encV v ++ R, 0) = (wide8 v.a0 v.a1 v.a2 v.a3, (encN v.x ++ R, 0)) := by
    unfold vd0 encV; rw [List.append_assoc]; exact e0
  have f1 : vd1 (encV v ++ R, 0) = (k, (R, 0)) := by unfold vd1; rw [f0]; exact e1
  have hraw : rawV (encV v ++ R, 0) = v := by
    unfold rawV
    rw [f0, f1]
    simp only [w0, w1, w2, w3, q1]
  rw [getV_yes (by rw [f1]) (by rw [hraw]; exact h'), hraw, f1]

end Go.Proofs.Ytafcngnophlhgaa
