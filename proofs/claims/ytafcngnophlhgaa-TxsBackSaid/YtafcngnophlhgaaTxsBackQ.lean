/-
  TxsBack answers true at every input, and leaves its arguments as they are.
  The walk of TxsBack: transactions come back, but for fields that are not put; and octets from what is read.
  What is put of a transaction that may be, and read again; what is read of octets, and put again.
-/
import Derived.Deep.Cut
import Derived.Deep.DeepCutAuto
import Derived.ChangeMaps5
import Derived.Test.YtafcngnophlhgaaK14
namespace Go.Proofs.Ytafcngnophlhgaa
open Go.RowKit Go.Shelf

theorem errT_ok {t : Tr} (h : errT t = 0) : (1 ≤ t.kd ∧ t.kd ≤ 6) ∧ ((0 ≤ t.fr ∧ t.fr ≤ 7) ∧ (0 ≤ t.no ∧ t.no ≤ 1099511627776) ∧ (0 ≤ t.az ∧ t.az ≤ 1)) ∧ (t.kd = 1 → 0 ≤ t.iv.to ∧ t.iv.to ≤ 7) ∧ (t.kd = 2 → 2 ≤ t.iv.ro ∧ t.iv.ro ≤ 3) ∧ (4 ≤ t.kd → maybeI t.iv ∧ maybeV t.vr ∧ t.sg.size ≤ 1024) := by
  unfold errT at h
  by_cases hk : 1 ≤ t.kd ∧ t.kd ≤ 6
  · rw [if_pos hk] at h
    by_cases hr : (0 ≤ t.fr ∧ t.fr ≤ 7) ∧ (0 ≤ t.no ∧ t.no ≤ 1099511627776) ∧ (0 ≤ t.az ∧ t.az ≤ 1)
    · rw [if_pos hr] at h
      refine ⟨hk, hr, fun h1 => ?_, fun h2 => ?_, fun h4 => ?_⟩
      · rw [if_pos (by omega), errM] at h
        by_cases hz : zeroA t
        · rw [if_pos hz] at h; exact absurd h (by decide)
        · rw [if_neg hz, if_pos h1] at h
          by_cases hg : 0 ≤ t.iv.to ∧ t.iv.to ≤ 7
          · exact hg
          · rw [if_neg hg] at h; exact absurd h (by decide)
      · rw [if_pos (by omega), errM] at h
        by_cases hz : zeroA t
        · rw [if_pos hz] at h; exact absurd h (by decide)
        · rw [if_neg hz, if_neg (by omega), if_pos h2] at h
          by_cases hg : 2 ≤ t.iv.ro ∧ t.iv.ro ≤ 3
          · exact hg
          · rw [if_neg hg] at h; exact absurd h (by decide)
      · rw [if_neg (by omega), errF] at h
        by_cases hi : maybeI t.iv
        · rw [if_pos hi] at h
          by_cases hv : maybeV t.vr
          · rw [if_pos hv] at h
            by_cases hs : t.sg.size ≤ 1024
            · exact ⟨hi, hv, hs⟩
            · rw [if_neg hs] at h; exact absurd h (by decide)
          · rw [if_neg hv] at h; exact absurd h (by decide)
        · rw [if_neg hi] at h; exact absurd h (by decide)
    · rw [if_neg hr] at h; exact absurd h (by decide)
  · rw [if_neg hk] at h; exact absurd h (by decide)

/-- A transaction's octets. -/
def encM (t : Tr) : List UInt8 := if t.kd = 1 then encN t.iv.to else if t.kd = 2 then encN t.iv.ro else if 4 ≤ t.kd ∧ t.kd ≤ 6 then encI t.iv ++ encV t.vr else []
def encS (t : Tr) : List UInt8 := if 5 ≤ t.kd ∧ t.kd ≤ 6 then wide8 t.f0 t.f1 t.f2 t.f3 ++ encT t.sg else []
def encX (t : Tr) : List UInt8 := encN t.kd ++ (encN t.fr ++ (encN t.no ++ (encN t.az ++ (wide8 t.a0 t.a1 t.a2 t.a3 ++ (encM t ++ encS t)))))
theorem txt_ok2 {l : List UInt8} {t : ByteArray} (h1 : t.size ≤ 1024) (h : l.length ≤ 7000) : txtS (l, 0) t = (l ++ encT t, 0) := by
  have hl := encT_length t
  unfold txtS
  rw [if_pos h1]
  exact add_ok (by have : (encT t).length = t.size + 2 := hl; unfold encT at this; omega)
theorem num_ok2 {l : List UInt8} {n : Int} (h0 : 0 ≤ n) (h1 : n ≤ 1099511627776) (h : l.length ≤ 8000) : numS (l, 0) n = (l ++ encN n, 0) := num_ok h0 h1 h
theorem putI_at {l : List UInt8} {i : Trf} (h : maybeI i) (hl : l.length ≤ 1000) : putI (l, 0) i = (l ++ encI i, 0) := by
  obtain ⟨⟨h0, h0'⟩, h1, ⟨h2, h2'⟩, ⟨h3, h3'⟩, ⟨h4, h4'⟩, ⟨h5, h5'⟩, h6, h6'⟩ := h
  have t0 := encT_length invB
  have t1 := encT_length i.rt
  have n0 := encN_length i.us
  have n1 := encN_length i.ro
  have n2 := encN_length i.se
  have n3 := encN_length i.re
  have n4 := encN_length i.to
  rw [invB_size] at t0
  unfold putI putI2 putI1
  rw [txt_ok2 (t := invB) (by decide) (by omega)]
  rw [num_ok2 h0 (by omega) (by simp only [List.length_append]; omega)]
  rw [txt_ok2 (by omega) (by simp only [List.length_append]; omega)]
  rw [num_ok2 (by omega) (by omega) (by simp only [List.length_append]; omega)]
  rw [num_ok2 h3 (by omega) (by simp only [List.length_append]; omega)]
  rw [num_ok2 h4 (by omega) (by simp only [List.length_append]; omega)]
  rw [num_ok2 h5 (by omega) (by simp only [List.length_append]; omega)]
  rw [txt_ok2 (by omega) (by simp only [List.length_append]; omega)]
  unfold encI
  simp only [List.append_assoc]
theorem putT_ok {t : Tr} (h : errT t = 0) : putT ([], 0) t = (encX t, 0) := by
  obtain ⟨⟨k1, k6⟩, ⟨⟨r0, r1⟩, ⟨r2, r3⟩, r4, r5⟩, g1, g2, g4⟩ := errT_ok h
  have n0 := encN_length t.kd
  have n1 := encN_length t.fr
  have n2 := encN_length t.no
  have n3 := encN_length t.az
  have n4 := wide8_length t.a0 t.a1 t.a2 t.a3
  have h4 : putT4 ([], 0) t = (encN t.kd ++ (encN t.fr ++ (encN t.no ++ (encN t.az ++ wide8 t.a0 t.a1 t.a2 t.a3))), 0) := by
    unfold putT4
    rw [num_ok2 (by omega) (by omega) (by simp), num_ok2 (by omega) (by omega) (by simp only [List.length_append, List.length_nil]; omega), num_ok2 (by omega) (by omega) (by simp only [List.length_append, List.length_nil]; omega), num_ok2 (by omega) (by omega) (by simp only [List.length_append, List.length_nil]; omega),
      wide_ok (by simp only [List.length_append, List.length_nil]; omega)]
    simp only [List.nil_append, List.append_assoc]
  have hE : encX t = (encN t.kd ++ (encN t.fr ++ (encN t.no ++ (encN t.az ++ wide8 t.a0 t.a1 t.a2 t.a3)))) ++ encM t ++ encS t := by
    unfold encX; simp only [List.append_assoc]
  rw [hE]
  unfold putT
  rw [h4]
  have hL : (encN t.kd ++ (encN t.fr ++ (encN t.no ++ (encN t.az ++ wide8 t.a0 t.a1 t.a2 t.a3)))).length = 56 := by
    simp only [List.length_append]; omega
  generalize encN t.kd ++ (encN t.fr ++ (encN t.no ++ (encN t.az ++ wide8 t.a0 t.a1 t.a2 t.a3))) = L at *
  have h5 : putT5 (L, 0) t = (L ++ encM t, 0) ∧ (L ++ encM t).length ≤ 200 := by
    unfold putT5 encM
    by_cases hk1 : t.kd = 1
    · rw [if_pos hk1, if_pos hk1]
      have := g1 hk1
      exact ⟨num_ok2 (by omega) (by omega) (by omega), by rw [List.length_append, encN_length]; omega⟩
    · rw [if_neg hk1, if_neg hk1]
      by_cases hk2 : t.kd = 2
      · rw [if_pos hk2, if_pos hk2]
        have := g2 hk2
        exact ⟨num_ok2 (by omega) (by omega) (by omega), by rw [List.length_append, encN_length]; omega⟩
      · rw [if_neg hk2, if_neg hk2]
        by_cases hk4 : 4 ≤ t.kd ∧ t.kd ≤ 6
        · rw [if_pos hk4, if_pos hk4]
          obtain ⟨hi, hv, _⟩ := g4 hk4.1
          have il := encI_length hi
          have vl := encV_length t.vr
          refine ⟨?_, by simp only [List.length_append]; omega⟩
          rw [putI_at hi (by omega), putV_ok hv (by rw [List.length_append]; omega), List.append_assoc]
        · rw [if_neg hk4, if_neg hk4, List.append_nil]
          exact ⟨rfl, by omega⟩
  rw [h5.1]
  have h6 := h5.2
  generalize L ++ encM t = K at *
  unfold putT6 encS
  by_cases hk5 : 5 ≤ t.kd ∧ t.kd ≤ 6
  · rw [if_pos hk5, if_pos hk5]
    obtain ⟨_, _, hs⟩ := g4 (by omega)
    rw [wide_ok (by omega), txt_ok2 hs (by rw [List.length_append, wide8_length]; omega), List.append_assoc]
  · rw [if_neg hk5, if_neg hk5, List.append_nil]
theorem encX_length {t : Tr} (h : errT t = 0) : (encX t).length ≤ 8192 := by
  have := (okS_putT okS_new t).2
  rw [putT_ok h] at this
  exact this
theorem errT_plain (t : Tr) (h : errT t = 0) : errT (plainT t) = 0 := by
  obtain ⟨hk, hr, g1, g2, g4⟩ := errT_ok h
  have h' := h
  unfold errT at h'
  rw [if_pos hk, if_pos hr] at h'
  by_cases k1 : t.kd = 1
  · rw [plainT_1 k1]
    rw [if_pos (by omega)] at h'
    unfold errT
    rw [if_pos hk, if_pos hr, if_pos (show t.kd ≤ 3 by omega)]
    unfold errM zeroA at *
    rw [if_pos k1] at h' ⊢
    exact h'
  · by_cases k2 : t.kd = 2
    · rw [plainT_2 k2]
      rw [if_pos (by omega)] at h'
      unfold errT
      rw [if_pos hk, if_pos hr, if_pos (show t.kd ≤ 3 by omega)]
      unfold errM zeroA at *
      rw [if_neg k1, if_pos k2] at h' ⊢
      exact h'
    · by_cases k4 : 4 ≤ t.kd ∧ t.kd ≤ 6
      · rw [if_neg (by omega)] at h'
        by_cases k5 : 5 ≤ t.kd ∧ t.kd ≤ 6
        · rw [plainT_5 k5]
          unfold errT
          rw [if_pos hk, if_pos hr, if_neg (show ¬ t.kd ≤ 3 by omega)]
          exact h'
        · rw [plainT_4 (show t.kd = 4 by omega)]
          unfold errT
          rw [if_pos hk, if_pos hr, if_neg (show ¬ t.kd ≤ 3 by omega)]
          obtain ⟨hi, hv, _⟩ := g4 k4.1
          unfold errF
          rw [if_pos hi, if_pos hv]
          rfl
      · rw [plainT_0 k1 k2 k4]
        rw [if_pos (by omega)] at h'
        unfold errT
        rw [if_pos hk, if_pos hr, if_pos (show t.kd ≤ 3 by omega)]
        unfold errM zeroA at *
        rw [if_neg k1, if_neg k2] at h' ⊢
        exact h'
theorem rdN0 {n : Int} (h0 : 0 ≤ n) (h1 : n ≤ 1099511627776) : ∃ k : Nat, mostS (encN n, 0) 6 1099511627776 = (k, ([], 0)) ∧ (k : Int) = n := by
  have := rdN h0 h1 []
  rwa [List.append_nil] at this
theorem getT_enc {t : Tr} (h : errT t = 0) (ht : OkT t) : getT (encX t, 0) = (plainT t, ([], 0)) := by
  obtain ⟨⟨k1, k6⟩, ⟨⟨r0, r1⟩, ⟨r2, r3⟩, r4, r5⟩, g1, g2, g4⟩ := errT_ok h
  obtain ⟨x0, e0, q0⟩ := rdN (n := t.kd) (by omega) (by omega) (encN t.fr ++ (encN t.no ++ (encN t.az ++ (wide8 t.a0 t.a1 t.a2 t.a3 ++ (encM t ++ encS t)))))
  obtain ⟨x1, e1, q1⟩ := rdN (n := t.fr) (by omega) (by omega) (encN t.no ++ (encN t.az ++ (wide8 t.a0 t.a1 t.a2 t.a3 ++ (encM t ++ encS t))))
  obtain ⟨x2, e2, q2⟩ := rdN (n := t.no) (by omega) (by omega) (encN t.az ++ (wide8 t.a0 t.a1 t.a2 t.a3 ++ (encM t ++ encS t)))
  obtain ⟨x3, e3, q3⟩ := rdN (n := t.az) (by omega) (by omega) (wide8 t.a0 t.a1 t.a2 t.a3 ++ (encM t ++ encS t))
  obtain ⟨e4, w0, w1, w2, w3⟩ := rd_wide ht.a (encM t ++ encS t)
  have f0 : td0 (encX t, 0) = (x0, (encN t.fr ++ (encN t.no ++ (encN t.az ++ (wide8 t.a0 t.a1 t.a2 t.a3 ++ (encM t ++ encS t)))), 0)) := e0
  generalize (encX t, (0 : Int)) = S at *
  have f1 := (rfl : td1 S = mostS (td0 S).2 6 big).trans ((congrArg (fun x : Nat × St => mostS x.2 6 big) f0).trans e1)
  have f2 := (rfl : td2 S = mostS (td1 S).2 6 big).trans ((congrArg (fun x : Nat × St => mostS x.2 6 big) f1).trans e2)
  have f3 := (rfl : td3 S = mostS (td2 S).2 6 big).trans ((congrArg (fun x : Nat × St => mostS x.2 6 big) f2).trans e3)
  have f4 := (rfl : td4 S = takeS (td3 S).2 32).trans ((congrArg (fun x : Nat × St => takeS x.2 32) f3).trans e4)
  have fk : kdT S = t.kd := by unfold kdT; rw [f0]; exact q0
  have f5 : td5 S = midI t.kd (encM t ++ encS t, 0) := by unfold td5; rw [fk, f4]
  have f6 : td6 S = midV t.kd (td5 S).2 := by unfold td6; rw [fk]
  have f7 : td7 S = finF t.kd (td6 S).2 := by unfold td7; rw [fk]
  have f8 : td8 S = finG t.kd (td7 S).2 := by unfold td8; rw [fk]
  have key : rawT S = plainT t ∧ (td8 S).2 = ([], 0) := by
    unfold rawT
    rw [fk, f1, f2, f3, f4]
    dsimp only
    rw [q1, q2, q3, w0, w1, w2, w3]
    by_cases h45 : 4 ≤ t.kd ∧ t.kd ≤ 6
    · obtain ⟨hi, hv, hs⟩ := g4 h45.1
      have hM : encM t = encI t.iv ++ encV t.vr := by unfold encM; rw [if_neg (by omega), if_neg (by omega), if_pos h45]
      have g5 : td5 S = (t.iv, (encV t.vr ++ encS t, 0)) := by
        rw [f5, midI, if_neg (by omega), if_neg (by omega), if_pos h45, hM, List.append_assoc]
        exact getI_ok hi _
      have g6 : td6 S = (t.vr, (encS t, 0)) := by
        rw [f6, midV, if_pos h45, g5]
        exact getV_ok hv ht.v _
      by_cases h5 : 5 ≤ t.kd ∧ t.kd ≤ 6
      · have hS : encS t = wide8 t.f0 t.f1 t.f2 t.f3 ++ encT t.sg := if_pos h5
        obtain ⟨e7, v0, v1, v2, v3⟩ := rd_wide ht.f (encT t.sg)
        have e8 := rdT (t := t.sg) (m := 1024) hs (by omega) []
        rw [List.append_nil] at e8
        have g7 : td7 S = (wide8 t.f0 t.f1 t.f2 t.f3, (encT t.sg, 0)) := by rw [f7, finF, if_pos h5, g6, hS]; exact e7
        have g8 : td8 S = (t.sg.data.toList, ([], 0)) := by rw [f8, finG, if_pos h5, g7]; exact e8
        rw [g5, g6, g7, g8, plainT_5 h5]
        dsimp only
        rw [v0, v1, v2, v3, str_of_list]
        exact ⟨rfl, rfl⟩
      · have hS : encS t = [] := if_neg h5
        have g7 : td7 S = ([], ([], 0)) := by rw [f7, finF, if_neg h5, g6, hS]
        have g8 : td8 S = ([], ([], 0)) := by rw [f8, finG, if_neg h5, g7]
        rw [g5, g6, g7, g8, plainT_4 (by omega)]
        exact ⟨rfl, rfl⟩
    · have h5 : ¬ (5 ≤ t.kd ∧ t.kd ≤ 6) := by omega
      have hS : encS t = [] := if_neg h5
      have g7 : ∀ s : St, (td5 S).2 = s → td6 S = (noV, s) ∧ td7 S = ([], s) ∧ td8 S = ([], s) := fun s hs => by
        have a6 : td6 S = (noV, s) := by rw [f6, midV, if_neg h45, hs]
        have a7 : td7 S = ([], s) := by rw [f7, finF, if_neg h5, a6]
        exact ⟨a6, a7, by rw [f8, finG, if_neg h5, a7]⟩
      by_cases c1 : t.kd = 1
      · have := g1 c1
        obtain ⟨y, e5, q5⟩ := rdN0 (n := t.iv.to) (by omega) (by omega)
        have g5 : td5 S = (⟨0, ⟨#[]⟩, 0, 0, 0, (y : Int), ⟨#[]⟩⟩, ([], 0)) := by
          have hM : encM t = encN t.iv.to := if_pos c1
          rw [f5, midI, if_pos c1, hM, hS, List.append_nil, e5]
        obtain ⟨a6, a7, a8⟩ := g7 ([], 0) (by rw [g5])
        rw [g5, a6, a7, a8, plainT_1 c1, q5]
        exact ⟨rfl, rfl⟩
      · by_cases c2 : t.kd = 2
        · have := g2 c2
          obtain ⟨y, e5, q5⟩ := rdN0 (n := t.iv.ro) (by omega) (by omega)
          have g5 : td5 S = (⟨0, ⟨#[]⟩, (y : Int), 0, 0, 0, ⟨#[]⟩⟩, ([], 0)) := by
            have hM : encM t = encN t.iv.ro := by unfold encM; rw [if_neg c1, if_pos c2]
            rw [f5, midI, if_neg c1, if_pos c2, hM, hS, List.append_nil, e5]
          obtain ⟨a6, a7, a8⟩ := g7 ([], 0) (by rw [g5])
          rw [g5, a6, a7, a8, plainT_2 c2, q5]
          exact ⟨rfl, rfl⟩
        · have g5 : td5 S = (noI, ([], 0)) := by
            have hM : encM t = [] := by unfold encM; rw [if_neg c1, if_neg c2, if_neg h45]
            rw [f5, midI, if_neg c1, if_neg c2, if_neg h45, hM, hS]
            rfl
          obtain ⟨a6, a7, a8⟩ := g7 ([], 0) (by rw [g5])
          rw [g5, a6, a7, a8, plainT_0 c1 c2 h45]
          exact ⟨rfl, rfl⟩
  rw [getT_yes (by rw [key.2]) (by rw [key.1]; exact errT_plain t h), key.1, key.2]
/-- What is put comes back. -/
theorem tx_back {t : Tr} (h : errT t = 0) (ht : OkT t) : octT t = (encX t, 0) ∧ (encX t).length ≤ 8192 ∧ readT (openS (encX t)) = (plainT t, 0) := by
  have hl := encX_length h
  refine ⟨by rw [octT_yes h, putT_ok h], hl, ?_⟩
  have ho : openS (encX t) = (encX t, 0) := if_pos hl
  rw [ho]
  exact readT_ok (getT_enc h ht) rfl rfl
theorem ok_zero : Ok4 0 0 0 0 := ⟨M_pos, M_pos, M_pos, M_pos⟩
/-- What is read is what is put of it. -/
theorem getT_dec {s : St} (h : (getT s).2.2 = 0) : s.2 = 0 ∧ s.1 = encX (getT s).1 ++ (getT s).2.1 ∧ OkT (getT s).1 ∧ errT (getT s).1 = 0 := by
  have hc : (td8 s).2.2 = 0 ∧ errT (rawT s) = 0 := by
    by_cases hc : (td8 s).2.2 = 0 ∧ errT (rawT s) = 0
    · exact hc
    · unfold getT at h
      rw [if_neg hc] at h
      exact absurd h (errS_ne _)
  rw [getT_yes hc.1 hc.2]
  obtain ⟨h8, hE⟩ := hc
  -- the end, by kind
  have hfin : (td6 s).2.2 = 0 ∧ (td6 s).2.1 = encS (rawT s) ++ (td8 s).2.1 ∧ Ok4 (rawT s).f0 (rawT s).f1 (rawT s).f2 (rawT s).f3 := by
    by_cases h5 : 5 ≤ kdT s ∧ kdT s ≤ 6
    · have e7 : td7 s = takeS (td6 s).2 32 := if_pos h5
      have e8 : td8 s = gtxtS (td7 s).2 1024 := if_pos h5
      obtain ⟨a0, a1⟩ := rb_txt (s := (td7 s).2) (m := 1024) (by rw [← e8]; exact h8)
      obtain ⟨b0, b1, b2⟩ := rb_wide (s := (td6 s).2) (by rw [← e7]; exact a0)
      rw [← e8] at a1
      rw [← e7] at b1 b2
      refine ⟨b0, ?_, b2⟩
      have hS : encS (rawT s) = wide8 (wdS (td7 s).1 0) (wdS (td7 s).1 1) (wdS (td7 s).1 2) (wdS (td7 s).1 3) ++ encT (str (td8 s).1) := if_pos h5
      rw [b1, a1, hS, List.append_assoc]
    · have e7 : td7 s = ([], (td6 s).2) := if_neg h5
      have e8 : td8 s = ([], (td7 s).2) := if_neg h5
      have hS : encS (rawT s) = [] := if_neg h5
      rw [e8, e7] at h8 ⊢
      refine ⟨h8, by rw [hS]; rfl, ?_⟩
      show Ok4 (wdS (td7 s).1 0) (wdS (td7 s).1 1) (wdS (td7 s).1 2) (wdS (td7 s).1 3)
      rw [e7]
      exact ok_zero
  obtain ⟨h6, e6, kf⟩ := hfin
  have hmid : (td4 s).2.2 = 0 ∧ (td4 s).2.1 = encM (rawT s) ++ (td6 s).2.1 ∧ Ok4 (rawT s).vr.a0 (rawT s).vr.a1 (rawT s).vr.a2 (rawT s).vr.a3 := by
    by_cases h4 : 4 ≤ kdT s ∧ kdT s ≤ 6
    · have e5 : td5 s = getI (td4 s).2 := by unfold td5 midI; rw [if_neg (by omega), if_neg (by omega), if_pos h4]
      have e6' : td6 s = getV (td5 s).2 := if_pos h4
      obtain ⟨a0, a1, _, a3⟩ := rb_var (s := (td5 s).2) (by rw [← e6']; exact h6)
      obtain ⟨b0, b1, _⟩ := rb_inv (s := (td4 s).2) (by rw [← e5]; exact a0)
      rw [← e6'] at a1 a3
      rw [← e5] at b1
      refine ⟨b0, ?_, a3⟩
      have hM : encM (rawT s) = encI (td5 s).1 ++ encV (td6 s).1 := by
        show (if kdT s = 1 then _ else if kdT s = 2 then _ else if 4 ≤ kdT s ∧ kdT s ≤ 6 then _ else _) = _
        rw [if_neg (by omega), if_neg (by omega), if_pos h4]; rfl
      rw [b1, a1, hM, List.append_assoc]
    · have e6' : td6 s = (noV, (td5 s).2) := if_neg h4
      have kv : Ok4 (rawT s).vr.a0 (rawT s).vr.a1 (rawT s).vr.a2 (rawT s).vr.a3 := by
        show Ok4 (td6 s).1.a0 (td6 s).1.a1 (td6 s).1.a2 (td6 s).1.a3
        rw [e6']
        exact ok_zero
      rw [e6'] at h6 ⊢
      by_cases c1 : kdT s = 1
      · have e5 : td5 s = (⟨0, ⟨#[]⟩, 0, 0, 0, ((mostS (td4 s).2 6 big).1 : Nat), ⟨#[]⟩⟩, (mostS (td4 s).2 6 big).2) := if_pos c1
        have h6' : (mostS (td4 s).2 6 big).2.2 = 0 := by have : (td5 s).2.2 = 0 := h6; rwa [e5] at this
        obtain ⟨a0, a1⟩ := rb_num h6'
        have hM : encM (rawT s) = encN ((mostS (td4 s).2 6 big).1 : Nat) := by
          show (if kdT s = 1 then encN (td5 s).1.to else _) = _
          rw [if_pos c1, e5]
        refine ⟨a0, ?_, kv⟩
        rw [hM]
        show _ = _ ++ (td5 s).2.1
        rw [e5]
        exact a1
      · by_cases c2 : kdT s = 2
        · have e5 : td5 s = (⟨0, ⟨#[]⟩, ((mostS (td4 s).2 6 big).1 : Nat), 0, 0, 0, ⟨#[]⟩⟩, (mostS (td4 s).2 6 big).2) := by unfold td5 midI; rw [if_neg c1, if_pos c2]
          have h6' : (mostS (td4 s).2 6 big).2.2 = 0 := by have : (td5 s).2.2 = 0 := h6; rwa [e5] at this
          obtain ⟨a0, a1⟩ := rb_num h6'
          have hM : encM (rawT s) = encN ((mostS (td4 s).2 6 big).1 : Nat) := by
            show (if kdT s = 1 then _ else if kdT s = 2 then encN (td5 s).1.ro else _) = _
            rw [if_neg c1, if_pos c2, e5]
          refine ⟨a0, ?_, kv⟩
          rw [hM]
          show _ = _ ++ (td5 s).2.1
          rw [e5]
          exact a1
        · have e5 : td5 s = (noI, (td4 s).2) := by unfold td5 midI; rw [if_neg c1, if_neg c2, if_neg h4]
          have hM : encM (rawT s) = [] := by
            show (if kdT s = 1 then _ else if kdT s = 2 then _ else if 4 ≤ kdT s ∧ kdT s ≤ 6 then _ else _) = _
            rw [if_neg c1, if_neg c2, if_neg h4]
          refine ⟨by have : (td5 s).2.2 = 0 := h6; rwa [e5] at this, ?_, kv⟩
          rw [hM]
          show _ = [] ++ (td5 s).2.1
          rw [e5]
          rfl
  obtain ⟨h4, e4, kv⟩ := hmid
  obtain ⟨h3, e3, ka⟩ := rb_wide (s := (td3 s).2) h4
  obtain ⟨h2, e2⟩ := rb_num (s := (td2 s).2) h3
  obtain ⟨h1, e1⟩ := rb_num (s := (td1 s).2) h2
  obtain ⟨h0, e0⟩ := rb_num (s := (td0 s).2) h1
  obtain ⟨hz, ez⟩ := rb_num (s := s) h0
  have fz : s.1 = encN (kdT s) ++ (td0 s).2.1 := ez
  have f0 : (td0 s).2.1 = encN ((td1 s).1 : Nat) ++ (td1 s).2.1 := e0
  have f1 : (td1 s).2.1 = encN ((td2 s).1 : Nat) ++ (td2 s).2.1 := e1
  have f2 : (td2 s).2.1 = encN ((td3 s).1 : Nat) ++ (td3 s).2.1 := e2
  have f3 : (td3 s).2.1 = wide8 (wdS (td4 s).1 0) (wdS (td4 s).1 1) (wdS (td4 s).1 2) (wdS (td4 s).1 3) ++ (td4 s).2.1 := e3
  refine ⟨hz, ?_, ⟨ka, kv, kf⟩, hE⟩
  rw [fz, f0, f1, f2, f3, e4, e6]
  show _ = (encN (kdT s) ++ (encN ((td1 s).1 : Nat) ++ (encN ((td2 s).1 : Nat) ++ (encN ((td3 s).1 : Nat) ++ (wide8 (wdS (td4 s).1 0) (wdS (td4 s).1 1) (wdS (td4 s).1 2) (wdS (td4 s).1 3) ++ (encM (rawT s) ++ encS (rawT s))))))) ++ (td8 s).2.1
  simp only [List.append_assoc]
theorem tx_octets {b : List UInt8} (h : (readT (openS b)).2 = 0) : OkT (readT (openS b)).1 ∧ octT (readT (openS b)).1 = (b, 0) := by
  have hc : (getT (openS b)).2.2 = 0 ∧ (getT (openS b)).2.1 = [] := by
    by_cases hc : (getT (openS b)).2.2 = 0 ∧ (getT (openS b)).2.1 = []
    · exact hc
    · unfold readT at h
      rw [if_neg hc] at h
      exact absurd h (errS_ne _)
  obtain ⟨a0, a1, a2, a3⟩ := getT_dec hc.1
  have hr : readT (openS b) = ((getT (openS b)).1, 0) := if_pos hc
  rw [hr]
  refine ⟨a2, ?_⟩
  rw [octT_yes a3, putT_ok a3]
  rw [hc.2, List.append_nil] at a1
  rw [← a1]
  unfold openS at a0 ⊢
  by_cases hb : b.length ≤ 8192
  · rw [if_pos hb]
  · rw [if_neg hb] at a0
    exact absurd a0 (by decide)
theorem tx_none {b : List UInt8} (h : (readT (openS b)).2 ≠ 0) : (readT (openS b)).1 = noT := by
  unfold readT at h ⊢
  split
  · rename_i hc
    rw [if_pos hc] at h
    exact absurd rfl h
  · rfl
end Go.Proofs.Ytafcngnophlhgaa

namespace Go.Proofs.Ytafcngnophlhgaa
open Go.RowKit Go.Shelf

/-- An operation that is carried out in one step. -/
theorem wpList_value {P : Program} {ops : Array Oper} {rest : List Oper} {o : Oper} {a : Act} {w : World} {Q : Exit → Act → World → Prop} (hg : o.guard = none) (d : Option Tmp) (v : Value) (hd : o.dst = d) (hf : (execOp a.eval o).run P w = .ok (.value v) w)
    (h : wpList P ops Q rest (a.put d v) w) : wpList P ops Q (o :: rest) a w := by
  subst hd
  refine wpList_plain hg fun K hK => ?_
  unfold Oper.wp
  rw [hf]
  exact hK _ _ h
set_option maxRecDepth 100000 in
set_option maxHeartbeats 8000000 in
theorem txsBack_any (t : Tr) (ht : OkT t) (l : List UInt8) (sv : Value) (w : World) (hl : l.length ≤ 140737488351232) (hsv : BSl 0 w.heap.size w sv l) :
    Calls Try.prog 5 #[txv t, sv] w fun e W' => e = .returned (.bool true) ∧ Below w.heap.size w W' := by
  have hmx : Try.prog.follows .mixedOrders = true := by kernel_rfl
  obtain ⟨sa, sm, sc, rfl⟩ := hsv.shape3
  have HOC := Lib.hid (txsOctets_any t ht)
  have HPL := Lib.hid (refPlain_any t)
  have HYES : Hid (errT t = 0 → (octT t).2 = 0 ∧ ∀ W v, BSl 0 W.heap.size W v (octT t).1 → Calls Try.prog 14 #[v] W fun e W' => e = .returned (.tuple #[txv (plainT t), .int .i64 0]) ∧ Below W.heap.size W W') := Lib.hid (by
    intro h
    obtain ⟨h1, h2, h3⟩ := tx_back h ht
    rw [h1]
    refine ⟨rfl, fun W v hv => ?_⟩
    have := txsRead_any (encX t) v W (by omega) hv
    rw [h3] at this
    exact this)
  have HNO : Hid (errT t ≠ 0 → (octT t).2 ≠ 0) := Lib.hid (fun h => by rw [octT_no h]; exact h)
  have HR2 : Hid (∀ W, BSl 0 W.heap.size W (.slice sa sm sc) l → Calls Try.prog 14 #[.slice sa sm sc] W fun e W' => e = .returned (.tuple #[txv (readT (openS l)).1, .int .i64 (readT (openS l)).2]) ∧ Below W.heap.size W W') := Lib.hid fun W h => txsRead_any l _ W hl h
  have HO2 : Hid ((readT (openS l)).2 = 0 → ∀ W, Calls Try.prog 7 #[txv (readT (openS l)).1] W (ToldS (l, 0) W)) := Lib.hid (fun h W => by
    obtain ⟨h1, h2⟩ := tx_octets h
    have := txsOctets_any _ h1 W
    rw [h2] at this
    exact this)
  have HN2 : Hid ((readT (openS l)).2 ≠ 0 → (readT (openS l)).1 = noT) := Lib.hid tx_none
  generalize readT (openS l) = rd at *
  obtain ⟨ru, rc⟩ := rd
  try dsimp only at HR2 HO2 HN2
  generalize octT t = o at *
  clear hl ht
  obtain ⟨o1, o2⟩ := o
  try dsimp only at HYES HNO
  have kB := Blk.new w 30 (txc t)
  have hB := chain0 w (.cells (txc t).toArray 30)
  replace hsv := bslU hsv hB
  go_enter Try.func5, Try.ntmps5
  go_upto_if 21 with (first
    | (go_at_call 13; refine (txsAlive_any _).mono ?_; rintro e w0 ⟨rfl, hb⟩; replace kB := kB.below hb kB.lt; replace hsv := bslU hsv hb; replace hB := chain hB hb; clear hb)
    | ((with_reducible refine wpList_loadIf 30 (.tmp 2) ?_ (some 16) ?_ ?_ (txv t) ?_ ?_); (· rfl); (· rfl); (· rfl); (· exact load_tx kB))
    | (go_at_call 7; refine (HOC.out _).mono ?_; rintro e w1 ⟨ov, rfl, hov, hb⟩; obtain ⟨va, vm, vc, rfl⟩ := hov.shape3; replace kB := kB.below hb kB.lt; replace hsv := bslU hsv hb; replace hB := chain hB hb; clear hb))
  clear HOC
  try dsimp only at hov
  go_cut [21] (fun _ wc => BSl 0 wc.heap.size wc (.slice sa sm sc) l ∧ Below w.heap.size w wc)
  case first =>
    clear HR2 HO2 HN2
    by_cases he : errT t = 0
    · obtain ⟨ho2, HR1⟩ := HYES.out he
      have HR := Lib.hid HR1
      have q1 : (o2 == 0) = true := by simpa using ho2
      clear he ho2 HYES HNO HR1
      go_upto_region 6 with (first
        | (go_at_call 14; refine (HR.out _ _ hov).mono ?_; rintro e w2 ⟨rfl, hb⟩; replace kB := kB.below hb kB.lt; replace hsv := bslU hsv hb; replace hB := chain hB hb; clear hb; have kN := Blk.new w2 30 (txc noT))
        | ((refine wpList_store_part 30 (.tmp 7) (.tmp 25) (txc (plainT t)) kN 0 (txv (plainT t)) (txc (plainT t)) ?_ ?_ ?_ ?_ ?_ ?_ ?_ ?_ ?_ ?_ ?_); (· rfl); (· rfl); (· rfl); (· rfl); (· rfl); (· rfl); (· kernel_rfl); (· exact Nat.le_of_ble_eq_true rfl); (· rfl); (· rfl)))
      generalize hX : World.setRow (World.alloc w2 _) _ _ = X
      have hbX : Below w2.heap.size w2 X := by rw [← hX]; exact below_setRow (chain0 w2 (.cells (txc noT).toArray 30)) (Nat.le_refl _) (txc (plainT t)).toArray
      have k7 : Blk X w2.heap.size 30 (txc (plainT t)) := by rw [← hX]; exact kN.row (txc (plainT t))
      clear hX kN hov HR
      replace kB := kB.below hbX kB.lt
      replace hsv := bslU hsv hbX
      replace hB := chain hB hbX
      clear hbX
      generalize w2.heap.size = B7 at *
      refine wp_region_held_drew (S := fun W => Below X.drew.heap.size X.drew W) hmx (Below.refl _ _) ?_
      intro hS
      have hd := (Below.refl X.heap.size X).drew
      replace kB : Blk X.drew _ _ _ := kB
      replace k7 : Blk X.drew _ _ _ := k7
      replace hB := hB.drew
      replace hsv := bslU hsv hd
      clear hd
      generalize X.drew = Y at *
      refine' wpAnyH_take (i := 0) (oi := _) (v := _) ?hi1 (by kernel_rfl) (by kernel_rfl) (by kernel_rfl) ?hQ1 (Or.inl ⟨?hw1, ?hy1⟩) hS ?rest1
      case hi1 => simp only [List.getElem?_toArray, List.getElem?_cons_zero]; rfl
      case hQ1 => exact fun _ _ _ h => h
      case hw1 => rfl
      case hy1 => intro W' hS'; go_simp; with_reducible rfl
      try simp only [Act.put, List.setIfInBounds_toArray, List.set_cons_zero, List.set_cons_succ]
      refine' wpAnyH_take (i := 1) (oi := _) (v := _) ?hi2 (by kernel_rfl) (by kernel_rfl) (by kernel_rfl) ?hQ2 (Or.inl ⟨?hw2, ?hy2⟩) hS ?rest2
      case hi2 => simp only [List.getElem?_toArray, List.getElem?_cons_succ, List.getElem?_cons_zero]; rfl
      case hQ2 => exact fun _ _ _ h => h
      case hw2 => rfl
      case hy2 => intro W' hS'; go_simp; with_reducible rfl
      try simp only [Act.put, List.setIfInBounds_toArray, List.set_cons_zero, List.set_cons_succ]
      refine' wpAnyH_take (i := 2) (oi := _) (v := _) ?hi3 (by kernel_rfl) (by kernel_rfl) (by kernel_rfl) ?hQ3 (Or.inl ⟨?hw3, ?hy3⟩) hS ?rest3
      case hi3 => simp only [List.getElem?_toArray, List.getElem?_cons_succ, List.getElem?_cons_zero]; rfl
      case hQ3 => exact fun _ _ _ h => h
      case hw3 => rfl
      case hy3 => intro W' hS'; go_simp; with_reducible rfl
      try simp only [Act.put, List.setIfInBounds_toArray, List.set_cons_zero, List.set_cons_succ]
      refine' wpAnyH_take (i := 3) (oi := _) (v := txv (plainT t)) ?hi4 (by kernel_rfl) (by kernel_rfl) (by kernel_rfl) ?hQ4 (Or.inl ⟨?hw4, ?hy4⟩) hS ?rest4
      case hi4 => simp only [List.getElem?_toArray, List.getElem?_cons_succ, List.getElem?_cons_zero]; rfl
      case hQ4 => exact fun _ _ _ h => h
      case hw4 => rfl
      case hy4 => exact fun W' hS' => exec_load 30 (.tmp 7) rfl _ W' (load_tx (k7.below hS' k7.lt))
      try simp only [Act.put, List.setIfInBounds_toArray, List.set_cons_zero, List.set_cons_succ]
      refine' wpAnyH_take (i := 4) (oi := _) (v := txv t) ?hi5 (by kernel_rfl) (by kernel_rfl) (by kernel_rfl) ?hQ5 (Or.inl ⟨?hw5, ?hy5⟩) hS ?rest5
      case hi5 => simp only [List.getElem?_toArray, List.getElem?_cons_succ, List.getElem?_cons_zero]; rfl
      case hQ5 => exact fun _ _ _ h => h
      case hw5 => rfl
      case hy5 => exact fun W' hS' => exec_load 30 (.tmp 2) rfl _ W' (load_tx (kB.below hS' kB.lt))
      try simp only [Act.put, List.setIfInBounds_toArray, List.set_cons_zero, List.set_cons_succ]
      refine wpAnyH_ready (rs := [5]) (by kernel_rfl) (by simp) ?_
      refine' AllReadyH.cons (o := _) ?ho6 (fun K hK => ?st6) AllReadyH.nil
      case ho6 => simp only [List.getElem?_toArray, List.getElem?_cons_succ, List.getElem?_cons_zero]; rfl
      case st6 =>
        go_simp
        refine (HPL.out _).mono ?_
        rintro e Y1 ⟨rfl, hb⟩
        refine hK.out _ _ (chain hS hb) (fun hS => ?_)
        clear hK K
        try simp only [Act.put, List.setIfInBounds_toArray, List.set_cons_zero, List.set_cons_succ]
        clear hb
        refine' wpAnyH_take (i := 6) (oi := _) (v := .bool false) ?hi7 (by kernel_rfl) (by kernel_rfl) (by kernel_rfl) ?hQ7 (Or.inl ⟨?hw7, ?hy7⟩) hS ?rest7
        case hi7 => simp only [List.getElem?_toArray, List.getElem?_cons_succ, List.getElem?_cons_zero]; rfl
        case hQ7 => exact fun _ _ _ h => h
        case hw7 => rfl
        case hy7 => exact fun W' hS' => exec_neS (.tmp 30) (.tmp 32) _ rfl (plainT t) rfl rfl W'
        try simp only [Act.put, List.setIfInBounds_toArray, List.set_cons_zero, List.set_cons_succ]
        refine' wpAnyH_take (i := 7) (oi := _) (v := _) ?hi8 (by kernel_rfl) (by kernel_rfl) (by kernel_rfl) ?hQ8 (Or.inl ⟨?hw8, ?hy8⟩) hS ?rest8
        case hi8 => simp only [List.getElem?_toArray, List.getElem?_cons_succ, List.getElem?_cons_zero]; rfl
        case hQ8 => exact fun _ _ _ h => h
        case hw8 => rfl
        case hy8 => intro W' hS'; go_simp; with_reducible rfl
        try simp only [Act.put, List.setIfInBounds_toArray, List.set_cons_zero, List.set_cons_succ]
        refine wpAnyH_done (by kernel_rfl) ?_ _
        go_wp2_with fail
        go_meet
        exact ⟨bslU hsv hS, chain hB hS⟩
    · have q0 := HNO.out he
      have q1 : (o2 == 0) = false := by simpa using q0
      clear he q0 HYES HNO
      go_wp2_with fail
      go_meet
      exact ⟨hsv, hB⟩
  case rest =>
    clear kB hsv hB hov HYES HNO HPL
    obtain ⟨hsv, hB⟩ := hcut
    go_upto_region 9 with (first
      | (go_at_call 14; refine (HR2.out _ hsv).mono ?_; rintro e w3 ⟨rfl, hb⟩; replace hsv := bslU hsv hb; replace hB := chain hB hb; clear hb; have kN := Blk.new w3 30 (txc noT))
      | ((refine wpList_store_part 30 (.tmp 9) (.tmp 38) (txc ru) kN 0 (txv ru) (txc ru) ?_ ?_ ?_ ?_ ?_ ?_ ?_ ?_ ?_ ?_ ?_); (· rfl); (· rfl); (· rfl); (· rfl); (· rfl); (· rfl); (· kernel_rfl); (· exact Nat.le_of_ble_eq_true rfl); (· rfl); (· rfl)))
    generalize hX : World.setRow (World.alloc w3 _) _ _ = X
    have hbX : Below w3.heap.size w3 X := by rw [← hX]; exact below_setRow (chain0 w3 (.cells (txc noT).toArray 30)) (Nat.le_refl _) (txc ru).toArray
    have k9 : Blk X w3.heap.size 30 (txc ru) := by rw [← hX]; exact kN.row (txc ru)
    clear hX kN HR2
    replace hsv := bslU hsv hbX
    replace hB := chain hB hbX
    clear hbX
    generalize w3.heap.size = B9 at *
    by_cases hc : rc = 0
    · have HO := Lib.hid (HO2.out hc)
      have q1 : (rc == 0) = true := by simpa using hc
      have q2 : (rc != 0) = false := by simpa using hc
      clear hc HO2 HN2
      go_wp2_with (first
        | ((with_reducible refine wpList_loadIf 30 (.tmp 9) ?_ (some 46) ?_ ?_ (txv ru) ?_ ?_); (· rfl); (· rfl); (· rfl); (· exact load_tx k9))
        | (go_at_call 7; refine (HO.out _).mono ?_; rintro e w4 ⟨ov, rfl, hov, hb⟩; obtain ⟨va, vm, vc, rfl⟩ := hov.shape3; replace hsv := bslU hsv hb; replace hB := chain hB hb; clear hb; have hcv1 := str_of w4 hov; have hcv2 := str_of w4 hsv))
      go_ret
      exact ⟨rfl, hB⟩
    · have hn := HN2.out hc
      subst hn
      have q1 : (rc == 0) = false := by simpa using hc
      have q2 : (rc != 0) = true := by simpa using hc
      clear hc HO2 HN2
      go_wp2_with (first
        | ((with_reducible refine wpList_loadIf 30 (.tmp 9) ?_ (some 42) ?_ ?_ (txv noT) ?_ ?_); (· rfl); (· rfl); (· rfl); (· exact load_tx k9))
        | ((with_reducible refine wpList_value ?_ (some 44) (.bool true) ?_ ?_ ?_); (· rfl); (· rfl); (· exact exec_eqS (.tmp 42) (.tmp 43) _ rfl noT rfl rfl _)))
      go_ret
      exact ⟨rfl, hB⟩
end Go.Proofs.Ytafcngnophlhgaa

namespace Go.Proofs.Ytafcngnophlhgaa
open Go.ChangeShapes Go.WideShapes Go.ChangeAt Go.RowKit Go.Deep
open Go.ChangeMaps (open_string)

set_option maxRecDepth 100000 in
theorem txsBack_lifted (os : Os) (started : os.Started) (H : Type) (enc : TypeId × Value → H) :
    ReturnsInHanded {} Try.checked os 5 .any (Rows.txsBackSpec.pre6 enc Try.prog Try.f5 Rows.txsBackRow.domain false) (Rows.txsBackSpec.post enc Try.prog Try.f5 false true false false) := by
  refine returnsInHanded_of_change_sized (C := Try.checked) Try.own started (by kernel_rfl) Try.func5
    (ChangeSpec.witness6 (enc := enc) (C := Try.checked) false ⟨#[], #[.agg #[.int .i64 0, .int .i64 0, .int .i64 0, .int .i64 0, .int .u64 0, .int .u64 0, .int .u64 0, .int .u64 0, .int .i64 0, .string ⟨#[]⟩, .int .i64 0, .int .i64 0, .int .i64 0, .int .i64 0, .string ⟨#[]⟩, .int .u64 0, .int .u64 0, .int .u64 0, .int .u64 0, .int .i64 0, .int .u64 0, .int .u64 0, .int .u64 0, .int .u64 0, .string ⟨#[]⟩], .slice none 0 0], []⟩ 8 (by kernel_rfl) (by kernel_rfl) (by kernel_rfl) (by kernel_rfl)) ?_
  intro W base args ds gs before hval0 hW hcnd hsz0 _
  have hval : ∀ (j : Nat) t v, Try.f5.params[j]? = some t → args[j]? = some v → Value.okWide Try.prog W .any base t v := hval0
  have hW' := hW
  obtain ⟨p, q, hA0, hV, rfl, hfz, hnd⟩ := hW
  have hA : DataW.TrodAll enc Try.prog W 0 (fun _ => true) true Try.f5.params.toList args.toList ds p := hA0
  have hsz : (DataW.weightsEach Try.prog (Try.f5.params.toList ++ Rows.txsBackSpec.plain.varTypes Try.prog) (ds ++ gs)).all (· ≤ reachBytes) = true := hsz0
  rw [Try.params5] at hA hval hsz
  obtain ⟨v0, v1, d0, d1, p0, p1, rfl, rfl, rfl, h0, h1⟩ := trodAll_two hA
  obtain ⟨rfl, rfl⟩ := trodVars_none hV
  obtain ⟨a1, len1, cap1, rfl⟩ := okWide_slice Try.underlying31 (hval 1 31 v1 rfl rfl)
  have k0 := h0
  have k1 := h1
  have lt0 : ∀ x ∈ p0, x.block < W.heap.size := by obtain ⟨m, hm⟩ := k0; exact DataW.trod_lt m _ _ _ hm
  have lt1 : ∀ x ∈ p1, x.block < W.heap.size := by obtain ⟨m, hm⟩ := k1; exact DataW.trod_lt m _ _ _ hm
  obtain ⟨i0, rfl, hx0⟩ := open_tx (hval 0 30 v0 rfl rfl) h0
  obtain ⟨l1, rfl, hsl1, hd1⟩ := open_bytes h1
  have hreach1 : l1.length ≤ 140737488351232 := by
    rcases hd1 with rfl | ⟨el, sp, rfl, hel⟩
    · simp
    · have := sized_slice hsz (j := 1) (t := 31) (e := 5) rfl rfl Try.underlying31
      rw [Try.bytes8] at this
      simp only [reachBytes] at this
      omega
  clear hA0 hval0
  refine (txsBack_any i0 hx0 l1 _ W hreach1 hsl1).mono fun e W' ⟨he, bel⟩ => ?_
  subst he
  exact ⟨_, rfl, _, _, _, [], _, [], hW', trodAll_mk1 (shut_bool Try.underlying4 _), (trodAll_mk2 (Below.trod Try.laidOut (by kernel_rfl) (of_decide_eq_true (by kernel_rfl)) k0 bel lt0) (Below.trod Try.laidOut (by kernel_rfl) (of_decide_eq_true (by kernel_rfl)) k1 bel lt1)), rfl, bel.frame _, fun h => by cases h⟩

theorem txsBack_over : Rows.txsBackRow.holds Try.pinned (OpenSpec.ofChange Rows.txsBackSpec) :=
  OpenClaim.holds_of_wide 5 Try.f5 rfl rfl rfl rfl rfl rfl rfl ⟨rfl, rfl, rfl, rfl, rfl⟩ rfl rfl rfl rfl rfl (by kernel_rfl) Try.func5 (by kernel_rfl)
    (of_decide_eq_true (by kernel_rfl)) (by unfold Func.isWrapper; first | (rw [if_pos (by decide +kernel)]; kernel_rfl) | (rw [if_neg (by decide +kernel)]; exact ⟨rfl, rfl⟩))
    (fun os started H enc _ => txsBack_lifted os started H enc)

/-- The statement. -/
theorem txsBack_proved : Rows.TxsBackSaid := txsBack_over
end Go.Proofs.Ytafcngnophlhgaa
