/-
  What is read of octets is those octets: each field that was read is what it is written as.
  A transaction with what is put alone, by the reference.
-/
import Derived.Great.BuildSlice
import Derived.Outline
import Derived.Deep.Cut
import Derived.Test.YtafcngnophlhgaaK13
namespace Go.Proofs.Ytafcngnophlhgaa
open Go.RowKit Go.Shelf

/-- A number of octets has these octets. -/
theorem octs_be (l : List UInt8) : octs (be l) l.length = l := by
  have h : ∀ (n : Nat) (l : List UInt8), l.length = n → octs (be l) n = l := by
    intro n
    induction n with
    | zero => intro l hl; rw [List.length_eq_zero_iff.1 hl]; rfl
    | succ n ih =>
      intro l hl
      have hne : l ≠ [] := fun e => by rw [e] at hl; simp at hl
      obtain ⟨r, x, rfl⟩ : ∃ r x, l = r ++ [x] := ⟨l.dropLast, l.getLast hne, (List.dropLast_concat_getLast hne).symm⟩
      have hr : r.length = n := by simpa using hl
      have hx := x.toNat_lt
      rw [octs_snoc, be_snoc]
      have h1 : (be r * 256 + x.toNat) / 256 = be r := by omega
      have h2 : oct (be r * 256 + x.toNat) 0 = x := by
        unfold oct
        rw [show (be r * 256 + x.toNat) / 2 ^ (0 * 8) = be r * 256 + x.toNat by simp]
        apply UInt8.toNat_inj.1
        rw [UInt8.toNat_ofNat']
        omega
      rw [h1, h2, ih r hr]
  exact h l.length l rfl
theorem two_of {n : Nat} (h : n < 18446744073709551616) : two (n : Int) = n := by unfold two; omega
theorem take_zero_err {s : St} {n : Nat} (h : (takeS s n).2.2 = 0) : s.2 = 0 ∧ n ≤ s.1.length ∧ takeS s n = (s.1.take n, (s.1.drop n, 0)) := by
  by_cases h0 : s.2 = 0
  · by_cases h1 : n ≤ s.1.length
    · exact ⟨h0, h1, takeS_ok h0 h1⟩
    · rw [takeS_short h0 (by omega)] at h
      exact absurd h (by decide)
  · rw [takeS_bad h0] at h
    exact absurd h h0
theorem most_zero_err {s : St} {n : Nat} {m : Int} (h : (mostS s n m).2.2 = 0) : s.2 = 0 ∧ n ≤ s.1.length ∧ mostS s n m = (be ((s.1.take n).take 7), (s.1.drop n, 0)) ∧ (be ((s.1.take n).take 7) : Int) ≤ m := by
  unfold mostS at h ⊢
  by_cases hc : (takeS s n).2.2 = 0 ∧ m < (be ((takeS s n).1.take 7) : Int)
  · rw [if_pos hc] at h
    exact absurd h (by decide)
  · rw [if_neg hc] at h ⊢
    obtain ⟨h0, h1, h2⟩ := take_zero_err h
    rw [h2] at hc ⊢
    exact ⟨h0, h1, rfl, by
      rcases Int.lt_or_le m (be ((s.1.take n).take 7) : Int) with h3 | h3
      · exact absurd ⟨rfl, h3⟩ hc
      · exact h3⟩
/-- A number that is read. -/
theorem rb_num {s : St} (h : (mostS s 6 big).2.2 = 0) : s.2 = 0 ∧ s.1 = encN ((mostS s 6 big).1 : Nat) ++ (mostS s 6 big).2.1 := by
  obtain ⟨h0, h1, h2, h3⟩ := most_zero_err h
  refine ⟨h0, ?_⟩
  rw [h2]
  have hl : (s.1.take 6).length = 6 := by rw [List.length_take]; omega
  have ht : (s.1.take 6).take 7 = s.1.take 6 := List.take_of_length_le (by omega)
  rw [ht] at h3 ⊢
  have ho := octs_be (s.1.take 6)
  rw [hl] at ho
  show s.1 = octs (two ((be (s.1.take 6) : Nat) : Int)) 6 ++ s.1.drop 6
  rw [two_of (by have : (be (s.1.take 6) : Int) ≤ 1099511627776 := h3; omega), ho, List.take_append_drop]
/-- A text that is read. -/
theorem rb_txt {s : St} {m : Int} (h : (gtxtS s m).2.2 = 0) : s.2 = 0 ∧ s.1 = encT (str (gtxtS s m).1) ++ (gtxtS s m).2.1 := by
  unfold gtxtS at h ⊢
  obtain ⟨g0, g1, g2⟩ := take_zero_err h
  obtain ⟨h0, h1, h2, h3⟩ := most_zero_err g0
  refine ⟨h0, ?_⟩
  rw [g2]
  rw [h2] at g1 ⊢
  have hl : (s.1.take 2).length = 2 := by rw [List.length_take]; omega
  have ht : (s.1.take 2).take 7 = s.1.take 2 := List.take_of_length_le (by omega)
  rw [ht] at g1 ⊢
  have ho := octs_be (s.1.take 2)
  rw [hl] at ho
  dsimp only at g1 ⊢
  have hz : (str ((s.1.drop 2).take (be (s.1.take 2)))).size = be (s.1.take 2) := by
    show ((s.1.drop 2).take (be (s.1.take 2))).toArray.size = _
    rw [List.size_toArray, List.length_take]; omega
  unfold encT
  rw [hz, ho]
  show s.1 = s.1.take 2 ++ (s.1.drop 2).take (be (s.1.take 2)) ++ (s.1.drop 2).drop (be (s.1.take 2))
  rw [List.append_assoc, List.take_append_drop, List.take_append_drop]
theorem wide8_of {l : List UInt8} (h : l.length = 32) : wide8 (wdS l 0) (wdS l 1) (wdS l 2) (wdS l 3) = l ∧ Ok4 (wdS l 0) (wdS l 1) (wdS l 2) (wdS l 3) := by
  have hw : ∀ q, wdS l q = be ((l.drop (8 * (3 - q))).take 8) := fun q => by
    unfold wdS uwd
    rw [if_pos h, List.take_of_length_le (l := l) (by omega)]
  have l8 : ∀ k, k ≤ 24 → ((l.drop k).take 8).length = 8 := fun k hk => by rw [List.length_take, List.length_drop]; omega
  have ho : ∀ k, k ≤ 24 → octs (be ((l.drop k).take 8)) 8 = (l.drop k).take 8 := fun k hk => by
    have := octs_be ((l.drop k).take 8)
    rw [l8 k hk] at this
    exact this
  have hM : ∀ k, k ≤ 24 → be ((l.drop k).take 8) < M := fun k hk => by
    have := be_lt ((l.drop k).take 8)
    rw [l8 k hk] at this
    unfold M; omega
  rw [hw 0, hw 1, hw 2, hw 3]
  refine ⟨?_, hM _ (by omega), hM _ (by omega), hM _ (by omega), hM _ (by omega)⟩
  unfold wide8
  rw [ho _ (by omega), ho _ (by omega), ho _ (by omega), ho _ (by omega)]
  have e1 : ∀ k, (l.drop k).take 8 ++ l.drop (k + 8) = l.drop k := fun k => by
    rw [← List.drop_drop]; exact List.take_append_drop 8 _
  have e4 : (l.drop 24).take 8 = l.drop 24 := List.take_of_length_le (by rw [List.length_drop]; omega)
  show (l.drop 0).take 8 ++ ((l.drop 8).take 8 ++ ((l.drop 16).take 8 ++ (l.drop 24).take 8)) = l
  rw [e4, e1 16, e1 8, e1 0]
  rfl
/-- A wide number that is read. -/
theorem rb_wide {s : St} (h : (takeS s 32).2.2 = 0) : s.2 = 0 ∧ s.1 = wide8 (wdS (takeS s 32).1 0) (wdS (takeS s 32).1 1) (wdS (takeS s 32).1 2) (wdS (takeS s 32).1 3) ++ (takeS s 32).2.1 ∧ Ok4 (wdS (takeS s 32).1 0) (wdS (takeS s 32).1 1) (wdS (takeS s 32).1 2) (wdS (takeS s 32).1 3) := by
  obtain ⟨h0, h1, h2⟩ := take_zero_err h
  rw [h2]
  obtain ⟨hw, hk⟩ := wide8_of (l := s.1.take 32) (by rw [List.length_take]; omega)
  refine ⟨h0, ?_, hk⟩
  dsimp only
  rw [hw, List.take_append_drop]
/-- A transfer that is read. -/
theorem rb_inv {s : St} (h : (getI s).2.2 = 0) : s.2 = 0 ∧ s.1 = encI (getI s).1 ++ (getI s).2.1 ∧ maybeI (getI s).1 := by
  have hc : (rd7 s).2.2 = 0 ∧ goodI s := by
    by_cases hc : (rd7 s).2.2 = 0 ∧ goodI s
    · exact hc
    · unfold getI at h
      rw [if_neg hc] at h
      exact absurd h (errS_ne _)
  rw [getI_yes hc.1 hc.2]
  obtain ⟨h7, e7⟩ := rb_txt (s := (rd6 s).2) (m := 16) hc.1
  obtain ⟨h6, e6⟩ := rb_num (s := (rd5 s).2) h7
  obtain ⟨h5, e5⟩ := rb_num (s := (rd4 s).2) h6
  obtain ⟨h4, e4⟩ := rb_num (s := (rd3 s).2) h5
  obtain ⟨h3, e3⟩ := rb_num (s := (rd2 s).2) h4
  obtain ⟨h2, e2⟩ := rb_txt (s := (rd1 s).2) (m := 8) h3
  obtain ⟨h1, e1⟩ := rb_num (s := (rd0 s).2) h2
  obtain ⟨h0, e0⟩ := rb_txt (s := s) (m := 16) h1
  refine ⟨h0, ?_, hc.2.2⟩
  have f0 : s.1 = encT (str (rd0 s).1) ++ (rd0 s).2.1 := e0
  have f1 : (rd0 s).2.1 = encN ((rd1 s).1 : Nat) ++ (rd1 s).2.1 := e1
  have f2 : (rd1 s).2.1 = encT (str (rd2 s).1) ++ (rd2 s).2.1 := e2
  have f3 : (rd2 s).2.1 = encN ((rd3 s).1 : Nat) ++ (rd3 s).2.1 := e3
  have f4 : (rd3 s).2.1 = encN ((rd4 s).1 : Nat) ++ (rd4 s).2.1 := e4
  have f5 : (rd4 s).2.1 = encN ((rd5 s).1 : Nat) ++ (rd5 s).2.1 := e5
  have f6 : (rd5 s).2.1 = encN ((rd6 s).1 : Nat) ++ (rd6 s).2.1 := e6
  have f7 : (rd6 s).2.1 = encT (str (rd7 s).1) ++ (rd7 s).2.1 := e7
  rw [f0, f1, f2, f3, f4, f5, f6, f7, hc.2.1]
  unfold encI rawI
  simp only [List.append_assoc]
/-- A side's data that is read. -/
theorem rb_var {s : St} (h : (getV s).2.2 = 0) : s.2 = 0 ∧ s.1 = encV (getV s).1 ++ (getV s).2.1 ∧ maybeV (getV s).1 ∧ Ok4 (getV s).1.a0 (getV s).1.a1 (getV s).1.a2 (getV s).1.a3 := by
  have hc : (vd1 s).2.2 = 0 ∧ maybeV (rawV s) := by
    by_cases hc : (vd1 s).2.2 = 0 ∧ maybeV (rawV s)
    · exact hc
    · unfold getV at h
      rw [if_neg hc] at h
      exact absurd h (errS_ne _)
  rw [getV_yes hc.1 hc.2]
  obtain ⟨h1, e1⟩ := rb_num (s := (vd0 s).2) hc.1
  obtain ⟨h0, e0, hk⟩ := rb_wide (s := s) h1
  have f0 : s.1 = wide8 (wdS (vd0 s).1 0) (wdS (vd0 s).1 1) (wdS (vd0 s).1 2) (wdS (vd0 s).1 3) ++ (vd0 s).2.1 := e0
  have f1 : (vd0 s).2.1 = encN ((vd1 s).1 : Nat) ++ (vd1 s).2.1 := e1
  refine ⟨h0, ?_, hc.2, hk⟩
  rw [f0, f1]
  unfold encV rawV
  simp only [List.append_assoc]
end Go.Proofs.Ytafcngnophlhgaa

namespace Go.Proofs.Ytafcngnophlhgaa
open Go.RowKit Go.Shelf

theorem plainT_1 {t : Tr} (h : t.kd = 1) : plainT t = ⟨t.fr, t.no, t.kd, t.az, t.a0, t.a1, t.a2, t.a3, ⟨0, ⟨#[]⟩, 0, 0, 0, t.iv.to, ⟨#[]⟩⟩, noV, 0, 0, 0, 0, emptyB⟩ := by
  unfold plainT plainI plainV
  rw [if_neg (by omega), if_pos h, if_neg (by omega)]; rfl
theorem plainT_2 {t : Tr} (h : t.kd = 2) : plainT t = ⟨t.fr, t.no, t.kd, t.az, t.a0, t.a1, t.a2, t.a3, ⟨0, ⟨#[]⟩, t.iv.ro, 0, 0, 0, ⟨#[]⟩⟩, noV, 0, 0, 0, 0, emptyB⟩ := by
  unfold plainT plainI plainV
  rw [if_neg (by omega), if_neg (by omega), if_pos h, if_neg (by omega)]; rfl
theorem plainT_4 {t : Tr} (h : t.kd = 4) : plainT t = ⟨t.fr, t.no, t.kd, t.az, t.a0, t.a1, t.a2, t.a3, t.iv, t.vr, 0, 0, 0, 0, emptyB⟩ := by
  unfold plainT plainI plainV
  rw [if_neg (by omega), if_neg (by omega), if_neg (by omega), if_pos (by omega), if_pos (by omega)]
theorem plainT_5 {t : Tr} (h : 5 ≤ t.kd ∧ t.kd ≤ 6) : plainT t = ⟨t.fr, t.no, t.kd, t.az, t.a0, t.a1, t.a2, t.a3, t.iv, t.vr, t.f0, t.f1, t.f2, t.f3, t.sg⟩ := by
  unfold plainT plainI plainV
  rw [if_pos h, if_neg (by omega), if_neg (by omega), if_pos (by omega), if_pos (by omega)]
theorem plainT_0 {t : Tr} (h1 : t.kd ≠ 1) (h2 : t.kd ≠ 2) (h : ¬ (4 ≤ t.kd ∧ t.kd ≤ 6)) : plainT t = ⟨t.fr, t.no, t.kd, t.az, t.a0, t.a1, t.a2, t.a3, noI, noV, 0, 0, 0, 0, emptyB⟩ := by
  unfold plainT plainI plainV
  rw [if_neg (by omega), if_neg h1, if_neg h2, if_neg h, if_neg h]
set_option maxRecDepth 100000 in
set_option maxHeartbeats 8000000 in
theorem refPlain_any (t : Tr) (w : World) :
    Calls Try.prog 22 #[txv t] w fun e W' => e = .returned (txv (plainT t)) ∧ Below w.heap.size w W' := by
  have hmx : Try.prog.follows .mixedOrders = true := by kernel_rfl
  go_enter Try.func22, Try.ntmps22
  go_upto_region 1 with fail
  generalize hW0 : World.alloc _ _ = W0
  have kB : Blk W0 w.heap.size 30 (txc t) := by rw [← hW0]; exact (Blk.new w 30 (txc t)).alloc _
  have kR : Blk W0 (w.heap.size + 1) 30 (txc noT) := by rw [← hW0]; exact Blk.new' (vs := txc noT) (by simp)
  have hB : Below w.heap.size w W0 := by rw [← hW0]; exact chainA (chain0 w _) _
  have hz : W0.heap.size = w.heap.size + 1 + 1 := by rw [← hW0]; simp
  have HZ := Lib.hid hz
  clear hW0 hz
  have c0 := (kB.cell 0).trans rfl
  have c1 := (kB.cell 1).trans rfl
  have c2 := (kB.cell 2).trans rfl
  have c3 := (kB.cell 3).trans rfl
  go_upto_region 2 with (first
    | ((with_reducible refine wpList_loadIf 24 (.tmp 12) ?_ (some 13) ?_ ?_ (wv t.a0 t.a1 t.a2 t.a3) ?_ ?_); (· rfl); (· rfl); (· rfl); (· exact load_am kB))
    | (refine wpList_buildTo rfl 30 _ rfl (some 14) rfl (txc ⟨t.fr, t.no, t.kd, t.az, t.a0, t.a1, t.a2, t.a3, noI, noV, 0, 0, 0, 0, emptyB⟩).toArray (by kernel_rfl) ?_)
    | ((refine wpList_store_part 30 (.tmp 3) (.tmp 14) (txc ⟨t.fr, t.no, t.kd, t.az, t.a0, t.a1, t.a2, t.a3, noI, noV, 0, 0, 0, 0, emptyB⟩) (Blk.new W0 30 (txc noT)) 0 (txv ⟨t.fr, t.no, t.kd, t.az, t.a0, t.a1, t.a2, t.a3, noI, noV, 0, 0, 0, 0, emptyB⟩) (txc ⟨t.fr, t.no, t.kd, t.az, t.a0, t.a1, t.a2, t.a3, noI, noV, 0, 0, 0, 0, emptyB⟩) ?_ ?_ ?_ ?_ ?_ ?_ ?_ ?_ ?_ ?_ ?_); (· rfl); (· rfl); (· rfl); (· rfl); (· rfl); (· rfl); (· kernel_rfl); (· exact Nat.le_of_ble_eq_true rfl); (· rfl); (· rfl)))
  clear c0 c1 c2 c3
  rw [HZ.out]
  generalize hW1 : World.setRow (World.alloc W0 _) _ _ = W1
  have kX : Blk W1 (w.heap.size + 1 + 1) 30 (txc ⟨t.fr, t.no, t.kd, t.az, t.a0, t.a1, t.a2, t.a3, noI, noV, 0, 0, 0, 0, emptyB⟩) := by rw [← hW1]; exact (Blk.new' (vs := txc noT) HZ.out).row (txc ⟨t.fr, t.no, t.kd, t.az, t.a0, t.a1, t.a2, t.a3, noI, noV, 0, 0, 0, 0, emptyB⟩)
  replace kB : Blk W1 w.heap.size 30 (txc t) := by rw [← hW1]; exact (kB.alloc _).rowO _ (by omega)
  replace kR : Blk W1 (w.heap.size + 1) 30 (txc noT) := by rw [← hW1]; exact (kR.alloc _).rowO _ (by omega)
  replace hB : Below w.heap.size w W1 := by rw [← hW1]; exact below_setRow (chainA hB _) (show w.heap.size ≤ (w.heap.size + 1 + 1) by omega) _
  clear hW1 HZ
  by_cases hk1 : t.kd = 1
  · have q1 : (t.kd == 1) = true := by simpa using hk1
    have q5 : (t.kd == 5) = false := by simp [hk1]
    have q6 : (t.kd == 6) = false := by simp [hk1]
    have HX := Lib.hid (plainT_1 hk1)
    clear hk1
    have c2 := (kB.cell 2).trans rfl
    have c13 := (kB.cell 13).trans rfl
    go_wp2_with (first
      | ((with_reducible refine wpList_store_part 3 (.tmp 25) (.tmp 23) (txc ⟨t.fr, t.no, t.kd, t.az, t.a0, t.a1, t.a2, t.a3, ⟨0, ⟨#[]⟩, 0, 0, 0, t.iv.to, ⟨#[]⟩⟩, noV, 0, 0, 0, 0, emptyB⟩) kX 13 (.int .i64 t.iv.to) [.int .i64 t.iv.to] ?_ ?_ ?_ ?_ ?_ ?_ ?_ ?_ ?_ ?_ ?_); (· rfl); (· rfl); (· rfl); (· rfl); (· rfl); (· rfl); (· kernel_rfl); (· exact Nat.le_of_ble_eq_true rfl); (· rfl); (· rfl); replace kB := kB.rowO (txc ⟨t.fr, t.no, t.kd, t.az, t.a0, t.a1, t.a2, t.a3, ⟨0, ⟨#[]⟩, 0, 0, 0, t.iv.to, ⟨#[]⟩⟩, noV, 0, 0, 0, 0, emptyB⟩).toArray (g := (w.heap.size + 1 + 1)) (by omega); replace kR := kR.rowO (txc ⟨t.fr, t.no, t.kd, t.az, t.a0, t.a1, t.a2, t.a3, ⟨0, ⟨#[]⟩, 0, 0, 0, t.iv.to, ⟨#[]⟩⟩, noV, 0, 0, 0, 0, emptyB⟩).toArray (g := (w.heap.size + 1 + 1)) (by omega); replace kX := kX.row (txc ⟨t.fr, t.no, t.kd, t.az, t.a0, t.a1, t.a2, t.a3, ⟨0, ⟨#[]⟩, 0, 0, 0, t.iv.to, ⟨#[]⟩⟩, noV, 0, 0, 0, 0, emptyB⟩); replace hB := below_setRow hB (show w.heap.size ≤ (w.heap.size + 1 + 1) by omega) (txc ⟨t.fr, t.no, t.kd, t.az, t.a0, t.a1, t.a2, t.a3, ⟨0, ⟨#[]⟩, 0, 0, 0, t.iv.to, ⟨#[]⟩⟩, noV, 0, 0, 0, 0, emptyB⟩).toArray; clear c2 c13; have c2 := (kB.cell 2).trans rfl)
      | ((with_reducible refine wpList_loadIf 30 (.tmp 3) ?_ (some 57) ?_ ?_ (txv ⟨t.fr, t.no, t.kd, t.az, t.a0, t.a1, t.a2, t.a3, ⟨0, ⟨#[]⟩, 0, 0, 0, t.iv.to, ⟨#[]⟩⟩, noV, 0, 0, 0, 0, emptyB⟩) ?_ ?_); (· rfl); (· rfl); (· rfl); (· exact load_tx kX))
      | ((with_reducible refine wpList_store_part 30 (.tmp 2) (.tmp 57) (txc ⟨t.fr, t.no, t.kd, t.az, t.a0, t.a1, t.a2, t.a3, ⟨0, ⟨#[]⟩, 0, 0, 0, t.iv.to, ⟨#[]⟩⟩, noV, 0, 0, 0, 0, emptyB⟩) kR 0 (txv ⟨t.fr, t.no, t.kd, t.az, t.a0, t.a1, t.a2, t.a3, ⟨0, ⟨#[]⟩, 0, 0, 0, t.iv.to, ⟨#[]⟩⟩, noV, 0, 0, 0, 0, emptyB⟩) (txc ⟨t.fr, t.no, t.kd, t.az, t.a0, t.a1, t.a2, t.a3, ⟨0, ⟨#[]⟩, 0, 0, 0, t.iv.to, ⟨#[]⟩⟩, noV, 0, 0, 0, 0, emptyB⟩) ?_ ?_ ?_ ?_ ?_ ?_ ?_ ?_ ?_ ?_ ?_); (· rfl); (· rfl); (· rfl); (· rfl); (· rfl); (· rfl); (· kernel_rfl); (· exact Nat.le_of_ble_eq_true rfl); (· rfl); (· rfl); replace kR := kR.row (txc ⟨t.fr, t.no, t.kd, t.az, t.a0, t.a1, t.a2, t.a3, ⟨0, ⟨#[]⟩, 0, 0, 0, t.iv.to, ⟨#[]⟩⟩, noV, 0, 0, 0, 0, emptyB⟩); replace hB := below_setRow hB (show w.heap.size ≤ w.heap.size + 1 by omega) (txc ⟨t.fr, t.no, t.kd, t.az, t.a0, t.a1, t.a2, t.a3, ⟨0, ⟨#[]⟩, 0, 0, 0, t.iv.to, ⟨#[]⟩⟩, noV, 0, 0, 0, 0, emptyB⟩).toArray))
    exact bodyPost_ret (v := txv ⟨t.fr, t.no, t.kd, t.az, t.a0, t.a1, t.a2, t.a3, ⟨0, ⟨#[]⟩, 0, 0, 0, t.iv.to, ⟨#[]⟩⟩, noV, 0, 0, 0, 0, emptyB⟩) (results_cell_row (P := Try.prog) (fn := Try.f22) (p := 2) (ty := 30) rfl _ _ (w.heap.size + 1) 30 (txc ⟨t.fr, t.no, t.kd, t.az, t.a0, t.a1, t.a2, t.a3, ⟨0, ⟨#[]⟩, 0, 0, 0, t.iv.to, ⟨#[]⟩⟩, noV, 0, 0, 0, 0, emptyB⟩).toArray (0, 0) _ rfl kR Try.underlying30 rfl (by kernel_rfl)) rfl ⟨by rw [HX.out], hB⟩
  · have q1 : (t.kd == 1) = false := by simpa using hk1
    by_cases hk2 : t.kd = 2
    · have q2 : (t.kd == 2) = true := by simpa using hk2
      have q5 : (t.kd == 5) = false := by simp [hk2]
      have q6 : (t.kd == 6) = false := by simp [hk2]
      have HX := Lib.hid (plainT_2 hk2)
      clear hk1 hk2
      have c2 := (kB.cell 2).trans rfl
      have c10 := (kB.cell 10).trans rfl
      go_wp2_with (first
        | ((with_reducible refine wpList_store_part 3 (.tmp 32) (.tmp 30) (txc ⟨t.fr, t.no, t.kd, t.az, t.a0, t.a1, t.a2, t.a3, ⟨0, ⟨#[]⟩, t.iv.ro, 0, 0, 0, ⟨#[]⟩⟩, noV, 0, 0, 0, 0, emptyB⟩) kX 10 (.int .i64 t.iv.ro) [.int .i64 t.iv.ro] ?_ ?_ ?_ ?_ ?_ ?_ ?_ ?_ ?_ ?_ ?_); (· rfl); (· rfl); (· rfl); (· rfl); (· rfl); (· rfl); (· kernel_rfl); (· exact Nat.le_of_ble_eq_true rfl); (· rfl); (· rfl); replace kB := kB.rowO (txc ⟨t.fr, t.no, t.kd, t.az, t.a0, t.a1, t.a2, t.a3, ⟨0, ⟨#[]⟩, t.iv.ro, 0, 0, 0, ⟨#[]⟩⟩, noV, 0, 0, 0, 0, emptyB⟩).toArray (g := (w.heap.size + 1 + 1)) (by omega); replace kR := kR.rowO (txc ⟨t.fr, t.no, t.kd, t.az, t.a0, t.a1, t.a2, t.a3, ⟨0, ⟨#[]⟩, t.iv.ro, 0, 0, 0, ⟨#[]⟩⟩, noV, 0, 0, 0, 0, emptyB⟩).toArray (g := (w.heap.size + 1 + 1)) (by omega); replace kX := kX.row (txc ⟨t.fr, t.no, t.kd, t.az, t.a0, t.a1, t.a2, t.a3, ⟨0, ⟨#[]⟩, t.iv.ro, 0, 0, 0, ⟨#[]⟩⟩, noV, 0, 0, 0, 0, emptyB⟩); replace hB := below_setRow hB (show w.heap.size ≤ (w.heap.size + 1 + 1) by omega) (txc ⟨t.fr, t.no, t.kd, t.az, t.a0, t.a1, t.a2, t.a3, ⟨0, ⟨#[]⟩, t.iv.ro, 0, 0, 0, ⟨#[]⟩⟩, noV, 0, 0, 0, 0, emptyB⟩).toArray; clear c2 c10; have c2 := (kB.cell 2).trans rfl)
        | ((with_reducible refine wpList_loadIf 30 (.tmp 3) ?_ (some 57) ?_ ?_ (txv ⟨t.fr, t.no, t.kd, t.az, t.a0, t.a1, t.a2, t.a3, ⟨0, ⟨#[]⟩, t.iv.ro, 0, 0, 0, ⟨#[]⟩⟩, noV, 0, 0, 0, 0, emptyB⟩) ?_ ?_); (· rfl); (· rfl); (· rfl); (· exact load_tx kX))
        | ((with_reducible refine wpList_store_part 30 (.tmp 2) (.tmp 57) (txc ⟨t.fr, t.no, t.kd, t.az, t.a0, t.a1, t.a2, t.a3, ⟨0, ⟨#[]⟩, t.iv.ro, 0, 0, 0, ⟨#[]⟩⟩, noV, 0, 0, 0, 0, emptyB⟩) kR 0 (txv ⟨t.fr, t.no, t.kd, t.az, t.a0, t.a1, t.a2, t.a3, ⟨0, ⟨#[]⟩, t.iv.ro, 0, 0, 0, ⟨#[]⟩⟩, noV, 0, 0, 0, 0, emptyB⟩) (txc ⟨t.fr, t.no, t.kd, t.az, t.a0, t.a1, t.a2, t.a3, ⟨0, ⟨#[]⟩, t.iv.ro, 0, 0, 0, ⟨#[]⟩⟩, noV, 0, 0, 0, 0, emptyB⟩) ?_ ?_ ?_ ?_ ?_ ?_ ?_ ?_ ?_ ?_ ?_); (· rfl); (· rfl); (· rfl); (· rfl); (· rfl); (· rfl); (· kernel_rfl); (· exact Nat.le_of_ble_eq_true rfl); (· rfl); (· rfl); replace kR := kR.row (txc ⟨t.fr, t.no, t.kd, t.az, t.a0, t.a1, t.a2, t.a3, ⟨0, ⟨#[]⟩, t.iv.ro, 0, 0, 0, ⟨#[]⟩⟩, noV, 0, 0, 0, 0, emptyB⟩); replace hB := below_setRow hB (show w.heap.size ≤ w.heap.size + 1 by omega) (txc ⟨t.fr, t.no, t.kd, t.az, t.a0, t.a1, t.a2, t.a3, ⟨0, ⟨#[]⟩, t.iv.ro, 0, 0, 0, ⟨#[]⟩⟩, noV, 0, 0, 0, 0, emptyB⟩).toArray))
      exact bodyPost_ret (v := txv ⟨t.fr, t.no, t.kd, t.az, t.a0, t.a1, t.a2, t.a3, ⟨0, ⟨#[]⟩, t.iv.ro, 0, 0, 0, ⟨#[]⟩⟩, noV, 0, 0, 0, 0, emptyB⟩) (results_cell_row (P := Try.prog) (fn := Try.f22) (p := 2) (ty := 30) rfl _ _ (w.heap.size + 1) 30 (txc ⟨t.fr, t.no, t.kd, t.az, t.a0, t.a1, t.a2, t.a3, ⟨0, ⟨#[]⟩, t.iv.ro, 0, 0, 0, ⟨#[]⟩⟩, noV, 0, 0, 0, 0, emptyB⟩).toArray (0, 0) _ rfl kR Try.underlying30 rfl (by kernel_rfl)) rfl ⟨by rw [HX.out], hB⟩
    · have q2 : (t.kd == 2) = false := by simpa using hk2
      by_cases hk4 : t.kd = 4
      · have q4 : (t.kd == 4) = true := by simpa using hk4
        have q5 : (t.kd == 5) = false := by simp [hk4]
        have q6 : (t.kd == 6) = false := by simp [hk4]
        have HX := Lib.hid (plainT_4 hk4)
        clear hk1 hk2 hk4
        have c2 := (kB.cell 2).trans rfl
        go_upto_region 11 with fail
        clear c2
        refine wp_region_held_drew (S := fun W => Blk W w.heap.size 30 (txc t)) hmx kB ?_
        intro hS
        replace kR := kR.drew
        replace kX := kX.drew
        replace hB := hB.drew
        clear kB
        generalize World.drew _ = Y at *
        refine' wpAnyH_take (i := 0) (oi := _) (v := _) ?hi1 (by kernel_rfl) (by kernel_rfl) (by kernel_rfl) ?hQ1 (Or.inl ⟨?hw1, ?hy1⟩) hS ?rest1
        case hi1 => simp only [List.getElem?_toArray, List.getElem?_cons_zero]; rfl
        case hQ1 => exact fun _ _ _ h => h
        case hw1 => rfl
        case hy1 => intro W' hS'; go_simp; with_reducible rfl
        try simp only [Act.put, List.setIfInBounds_toArray, List.set_cons_zero, List.set_cons_succ]
        refine' wpAnyH_take (i := 1) (oi := _) (v := ivv t.iv) ?hi2 (by kernel_rfl) (by kernel_rfl) (by kernel_rfl) ?hQ2 (Or.inl ⟨?hw2, ?hy2⟩) hS ?rest2
        case hi2 => simp only [List.getElem?_toArray, List.getElem?_cons_succ, List.getElem?_cons_zero]; rfl
        case hQ2 => exact fun _ _ _ h => h
        case hw2 => rfl
        case hy2 => exact fun W' hS' => exec_load 26 (.tmp 37) rfl _ W' (load_iv hS')
        try simp only [Act.put, List.setIfInBounds_toArray, List.set_cons_zero, List.set_cons_succ]
        refine' wpAnyH_take (i := 2) (oi := _) (v := _) ?hi3 (by kernel_rfl) (by kernel_rfl) (by kernel_rfl) ?hQ3 (Or.inl ⟨?hw3, ?hy3⟩) hS ?rest3
        case hi3 => simp only [List.getElem?_toArray, List.getElem?_cons_succ, List.getElem?_cons_zero]; rfl
        case hQ3 => exact fun _ _ _ h => h
        case hw3 => rfl
        case hy3 => intro W' hS'; go_simp; with_reducible rfl
        try simp only [Act.put, List.setIfInBounds_toArray, List.set_cons_zero, List.set_cons_succ]
        refine' wpAnyH_take (i := 3) (oi := _) (v := svv t.vr) ?hi4 (by kernel_rfl) (by kernel_rfl) (by kernel_rfl) ?hQ4 (Or.inl ⟨?hw4, ?hy4⟩) hS ?rest4
        case hi4 => simp only [List.getElem?_toArray, List.getElem?_cons_succ, List.getElem?_cons_zero]; rfl
        case hQ4 => exact fun _ _ _ h => h
        case hw4 => rfl
        case hy4 => exact fun W' hS' => exec_load 28 (.tmp 39) rfl _ W' (load_vr hS')
        try simp only [Act.put, List.setIfInBounds_toArray, List.set_cons_zero, List.set_cons_succ]
        refine' wpAnyH_take (i := 4) (oi := _) (v := _) ?hi5 (by kernel_rfl) (by kernel_rfl) (by kernel_rfl) ?hQ5 (Or.inl ⟨?hw5, ?hy5⟩) hS ?rest5
        case hi5 => simp only [List.getElem?_toArray, List.getElem?_cons_succ, List.getElem?_cons_zero]; rfl
        case hQ5 => exact fun _ _ _ h => h
        case hw5 => rfl
        case hy5 => intro W' hS'; go_simp; with_reducible rfl
        try simp only [Act.put, List.setIfInBounds_toArray, List.set_cons_zero, List.set_cons_succ]
        refine wpAnyH_ready (rs := [5]) (by kernel_rfl) (by simp) ?_
        refine' AllReadyH.cons (o := _) ?ho6 (fun K hK => ?st6) AllReadyH.nil
        case ho6 => simp only [List.getElem?_toArray, List.getElem?_cons_succ, List.getElem?_cons_zero]; rfl
        case st6 =>
          ((refine wp_store_part 26 (.tmp 41) (.tmp 38) (txc ⟨t.fr, t.no, t.kd, t.az, t.a0, t.a1, t.a2, t.a3, t.iv, noV, 0, 0, 0, 0, emptyB⟩) kX 8 (ivv t.iv) (ivc t.iv) ?_ ?_ ?_ ?_ ?_ ?_ ?_ ?_ ?_ ?_); (· rfl); (· rfl); (· rfl); (· rfl); (· rfl); (· kernel_rfl); (· exact Nat.le_of_ble_eq_true rfl); (· rfl); (· rfl))
          refine hK.out _ _ (hS.rowO _ (by omega)) (fun hS => ?_)
          clear hK K
          try simp only [Act.put, List.setIfInBounds_toArray, List.set_cons_zero, List.set_cons_succ]
          replace kR := kR.rowO (txc ⟨t.fr, t.no, t.kd, t.az, t.a0, t.a1, t.a2, t.a3, t.iv, noV, 0, 0, 0, 0, emptyB⟩).toArray (g := (w.heap.size + 1 + 1)) (by omega)
          replace kX := kX.row (txc ⟨t.fr, t.no, t.kd, t.az, t.a0, t.a1, t.a2, t.a3, t.iv, noV, 0, 0, 0, 0, emptyB⟩)
          replace hB := below_setRow hB (show w.heap.size ≤ (w.heap.size + 1 + 1) by omega) (txc ⟨t.fr, t.no, t.kd, t.az, t.a0, t.a1, t.a2, t.a3, t.iv, noV, 0, 0, 0, 0, emptyB⟩).toArray
          refine' wpAnyH_take (i := 6) (oi := _) (v := _) ?hi7 (by kernel_rfl) (by kernel_rfl) (by kernel_rfl) ?hQ7 (Or.inl ⟨?hw7, ?hy7⟩) hS ?rest7
          case hi7 => simp only [List.getElem?_toArray, List.getElem?_cons_succ, List.getElem?_cons_zero]; rfl
          case hQ7 => exact fun _ _ _ h => h
          case hw7 => rfl
          case hy7 => intro W' hS'; go_simp; with_reducible rfl
          try simp only [Act.put, List.setIfInBounds_toArray, List.set_cons_zero, List.set_cons_succ]
          refine wpAnyH_ready (rs := [7]) (by kernel_rfl) (by simp) ?_
          refine' AllReadyH.cons (o := _) ?ho8 (fun K hK => ?st8) AllReadyH.nil
          case ho8 => simp only [List.getElem?_toArray, List.getElem?_cons_succ, List.getElem?_cons_zero]; rfl
          case st8 =>
            ((refine wp_store_part 28 (.tmp 42) (.tmp 40) (txc ⟨t.fr, t.no, t.kd, t.az, t.a0, t.a1, t.a2, t.a3, t.iv, t.vr, 0, 0, 0, 0, emptyB⟩) kX 15 (svv t.vr) (svc t.vr) ?_ ?_ ?_ ?_ ?_ ?_ ?_ ?_ ?_ ?_); (· rfl); (· rfl); (· rfl); (· rfl); (· rfl); (· kernel_rfl); (· exact Nat.le_of_ble_eq_true rfl); (· rfl); (· rfl))
            refine hK.out _ _ (hS.rowO _ (by omega)) (fun hS => ?_)
            clear hK K
            try simp only [Act.put, List.setIfInBounds_toArray, List.set_cons_zero, List.set_cons_succ]
            replace kR := kR.rowO (txc ⟨t.fr, t.no, t.kd, t.az, t.a0, t.a1, t.a2, t.a3, t.iv, t.vr, 0, 0, 0, 0, emptyB⟩).toArray (g := (w.heap.size + 1 + 1)) (by omega)
            replace kX := kX.row (txc ⟨t.fr, t.no, t.kd, t.az, t.a0, t.a1, t.a2, t.a3, t.iv, t.vr, 0, 0, 0, 0, emptyB⟩)
            replace hB := below_setRow hB (show w.heap.size ≤ (w.heap.size + 1 + 1) by omega) (txc ⟨t.fr, t.no, t.kd, t.az, t.a0, t.a1, t.a2, t.a3, t.iv, t.vr, 0, 0, 0, 0, emptyB⟩).toArray
            refine wpAnyH_done (by kernel_rfl) ?_ _
            have kB := hS
            clear hS
            have c2 := (kB.cell 2).trans rfl
            go_wp2_with (first
              | ((with_reducible refine wpList_loadIf 30 (.tmp 3) ?_ (some 57) ?_ ?_ (txv ⟨t.fr, t.no, t.kd, t.az, t.a0, t.a1, t.a2, t.a3, t.iv, t.vr, 0, 0, 0, 0, emptyB⟩) ?_ ?_); (· rfl); (· rfl); (· rfl); (· exact load_tx kX))
              | ((with_reducible refine wpList_store_part 30 (.tmp 2) (.tmp 57) (txc ⟨t.fr, t.no, t.kd, t.az, t.a0, t.a1, t.a2, t.a3, t.iv, t.vr, 0, 0, 0, 0, emptyB⟩) kR 0 (txv ⟨t.fr, t.no, t.kd, t.az, t.a0, t.a1, t.a2, t.a3, t.iv, t.vr, 0, 0, 0, 0, emptyB⟩) (txc ⟨t.fr, t.no, t.kd, t.az, t.a0, t.a1, t.a2, t.a3, t.iv, t.vr, 0, 0, 0, 0, emptyB⟩) ?_ ?_ ?_ ?_ ?_ ?_ ?_ ?_ ?_ ?_ ?_); (· rfl); (· rfl); (· rfl); (· rfl); (· rfl); (· rfl); (· kernel_rfl); (· exact Nat.le_of_ble_eq_true rfl); (· rfl); (· rfl); replace kR := kR.row (txc ⟨t.fr, t.no, t.kd, t.az, t.a0, t.a1, t.a2, t.a3, t.iv, t.vr, 0, 0, 0, 0, emptyB⟩); replace hB := below_setRow hB (show w.heap.size ≤ w.heap.size + 1 by omega) (txc ⟨t.fr, t.no, t.kd, t.az, t.a0, t.a1, t.a2, t.a3, t.iv, t.vr, 0, 0, 0, 0, emptyB⟩).toArray))
            exact bodyPost_ret (v := txv ⟨t.fr, t.no, t.kd, t.az, t.a0, t.a1, t.a2, t.a3, t.iv, t.vr, 0, 0, 0, 0, emptyB⟩) (results_cell_row (P := Try.prog) (fn := Try.f22) (p := 2) (ty := 30) rfl _ _ (w.heap.size + 1) 30 (txc ⟨t.fr, t.no, t.kd, t.az, t.a0, t.a1, t.a2, t.a3, t.iv, t.vr, 0, 0, 0, 0, emptyB⟩).toArray (0, 0) _ rfl kR Try.underlying30 rfl (by kernel_rfl)) rfl ⟨by rw [HX.out], hB⟩
      · have q4 : (t.kd == 4) = false := by simpa using hk4
        by_cases hk5 : t.kd = 5
        · have q5 : (t.kd == 5) = true := by simpa using hk5
          have q6 : (t.kd == 6) = false := by simp [hk5]
          have HX := Lib.hid (plainT_5 (show 5 ≤ t.kd ∧ t.kd ≤ 6 by omega))
          clear hk1 hk2 hk4 hk5
          have c2 := (kB.cell 2).trans rfl
          go_upto_region 11 with fail
          clear c2
          refine wp_region_held_drew (S := fun W => Blk W w.heap.size 30 (txc t)) hmx kB ?_
          intro hS
          replace kR := kR.drew
          replace kX := kX.drew
          replace hB := hB.drew
          clear kB
          generalize World.drew _ = Y at *
          refine' wpAnyH_take (i := 0) (oi := _) (v := _) ?hi9 (by kernel_rfl) (by kernel_rfl) (by kernel_rfl) ?hQ9 (Or.inl ⟨?hw9, ?hy9⟩) hS ?rest9
          case hi9 => simp only [List.getElem?_toArray, List.getElem?_cons_zero]; rfl
          case hQ9 => exact fun _ _ _ h => h
          case hw9 => rfl
          case hy9 => intro W' hS'; go_simp; with_reducible rfl
          try simp only [Act.put, List.setIfInBounds_toArray, List.set_cons_zero, List.set_cons_succ]
          refine' wpAnyH_take (i := 1) (oi := _) (v := ivv t.iv) ?hi10 (by kernel_rfl) (by kernel_rfl) (by kernel_rfl) ?hQ10 (Or.inl ⟨?hw10, ?hy10⟩) hS ?rest10
          case hi10 => simp only [List.getElem?_toArray, List.getElem?_cons_succ, List.getElem?_cons_zero]; rfl
          case hQ10 => exact fun _ _ _ h => h
          case hw10 => rfl
          case hy10 => exact fun W' hS' => exec_load 26 (.tmp 37) rfl _ W' (load_iv hS')
          try simp only [Act.put, List.setIfInBounds_toArray, List.set_cons_zero, List.set_cons_succ]
          refine' wpAnyH_take (i := 2) (oi := _) (v := _) ?hi11 (by kernel_rfl) (by kernel_rfl) (by kernel_rfl) ?hQ11 (Or.inl ⟨?hw11, ?hy11⟩) hS ?rest11
          case hi11 => simp only [List.getElem?_toArray, List.getElem?_cons_succ, List.getElem?_cons_zero]; rfl
          case hQ11 => exact fun _ _ _ h => h
          case hw11 => rfl
          case hy11 => intro W' hS'; go_simp; with_reducible rfl
          try simp only [Act.put, List.setIfInBounds_toArray, List.set_cons_zero, List.set_cons_succ]
          refine' wpAnyH_take (i := 3) (oi := _) (v := svv t.vr) ?hi12 (by kernel_rfl) (by kernel_rfl) (by kernel_rfl) ?hQ12 (Or.inl ⟨?hw12, ?hy12⟩) hS ?rest12
          case hi12 => simp only [List.getElem?_toArray, List.getElem?_cons_succ, List.getElem?_cons_zero]; rfl
          case hQ12 => exact fun _ _ _ h => h
          case hw12 => rfl
          case hy12 => exact fun W' hS' => exec_load 28 (.tmp 39) rfl _ W' (load_vr hS')
          try simp only [Act.put, List.setIfInBounds_toArray, List.set_cons_zero, List.set_cons_succ]
          refine' wpAnyH_take (i := 4) (oi := _) (v := _) ?hi13 (by kernel_rfl) (by kernel_rfl) (by kernel_rfl) ?hQ13 (Or.inl ⟨?hw13, ?hy13⟩) hS ?rest13
          case hi13 => simp only [List.getElem?_toArray, List.getElem?_cons_succ, List.getElem?_cons_zero]; rfl
          case hQ13 => exact fun _ _ _ h => h
          case hw13 => rfl
          case hy13 => intro W' hS'; go_simp; with_reducible rfl
          try simp only [Act.put, List.setIfInBounds_toArray, List.set_cons_zero, List.set_cons_succ]
          refine wpAnyH_ready (rs := [5]) (by kernel_rfl) (by simp) ?_
          refine' AllReadyH.cons (o := _) ?ho14 (fun K hK => ?st14) AllReadyH.nil
          case ho14 => simp only [List.getElem?_toArray, List.getElem?_cons_succ, List.getElem?_cons_zero]; rfl
          case st14 =>
            ((refine wp_store_part 26 (.tmp 41) (.tmp 38) (txc ⟨t.fr, t.no, t.kd, t.az, t.a0, t.a1, t.a2, t.a3, t.iv, noV, 0, 0, 0, 0, emptyB⟩) kX 8 (ivv t.iv) (ivc t.iv) ?_ ?_ ?_ ?_ ?_ ?_ ?_ ?_ ?_ ?_); (· rfl); (· rfl); (· rfl); (· rfl); (· rfl); (· kernel_rfl); (· exact Nat.le_of_ble_eq_true rfl); (· rfl); (· rfl))
            refine hK.out _ _ (hS.rowO _ (by omega)) (fun hS => ?_)
            clear hK K
            try simp only [Act.put, List.setIfInBounds_toArray, List.set_cons_zero, List.set_cons_succ]
            replace kR := kR.rowO (txc ⟨t.fr, t.no, t.kd, t.az, t.a0, t.a1, t.a2, t.a3, t.iv, noV, 0, 0, 0, 0, emptyB⟩).toArray (g := (w.heap.size + 1 + 1)) (by omega)
            replace kX := kX.row (txc ⟨t.fr, t.no, t.kd, t.az, t.a0, t.a1, t.a2, t.a3, t.iv, noV, 0, 0, 0, 0, emptyB⟩)
            replace hB := below_setRow hB (show w.heap.size ≤ (w.heap.size + 1 + 1) by omega) (txc ⟨t.fr, t.no, t.kd, t.az, t.a0, t.a1, t.a2, t.a3, t.iv, noV, 0, 0, 0, 0, emptyB⟩).toArray
            refine' wpAnyH_take (i := 6) (oi := _) (v := _) ?hi15 (by kernel_rfl) (by kernel_rfl) (by kernel_rfl) ?hQ15 (Or.inl ⟨?hw15, ?hy15⟩) hS ?rest15
            case hi15 => simp only [List.getElem?_toArray, List.getElem?_cons_succ, List.getElem?_cons_zero]; rfl
            case hQ15 => exact fun _ _ _ h => h
            case hw15 => rfl
            case hy15 => intro W' hS'; go_simp; with_reducible rfl
            try simp only [Act.put, List.setIfInBounds_toArray, List.set_cons_zero, List.set_cons_succ]
            refine wpAnyH_ready (rs := [7]) (by kernel_rfl) (by simp) ?_
            refine' AllReadyH.cons (o := _) ?ho16 (fun K hK => ?st16) AllReadyH.nil
            case ho16 => simp only [List.getElem?_toArray, List.getElem?_cons_succ, List.getElem?_cons_zero]; rfl
            case st16 =>
              ((refine wp_store_part 28 (.tmp 42) (.tmp 40) (txc ⟨t.fr, t.no, t.kd, t.az, t.a0, t.a1, t.a2, t.a3, t.iv, t.vr, 0, 0, 0, 0, emptyB⟩) kX 15 (svv t.vr) (svc t.vr) ?_ ?_ ?_ ?_ ?_ ?_ ?_ ?_ ?_ ?_); (· rfl); (· rfl); (· rfl); (· rfl); (· rfl); (· kernel_rfl); (· exact Nat.le_of_ble_eq_true rfl); (· rfl); (· rfl))
              refine hK.out _ _ (hS.rowO _ (by omega)) (fun hS => ?_)
              clear hK K
              try simp only [Act.put, List.setIfInBounds_toArray, List.set_cons_zero, List.set_cons_succ]
              replace kR := kR.rowO (txc ⟨t.fr, t.no, t.kd, t.az, t.a0, t.a1, t.a2, t.a3, t.iv, t.vr, 0, 0, 0, 0, emptyB⟩).toArray (g := (w.heap.size + 1 + 1)) (by omega)
              replace kX := kX.row (txc ⟨t.fr, t.no, t.kd, t.az, t.a0, t.a1, t.a2, t.a3, t.iv, t.vr, 0, 0, 0, 0, emptyB⟩)
              replace hB := below_setRow hB (show w.heap.size ≤ (w.heap.size + 1 + 1) by omega) (txc ⟨t.fr, t.no, t.kd, t.az, t.a0, t.a1, t.a2, t.a3, t.iv, t.vr, 0, 0, 0, 0, emptyB⟩).toArray
              refine wpAnyH_done (by kernel_rfl) ?_ _
              have kB := hS
              clear hS
              have c2 := (kB.cell 2).trans rfl
              go_upto_region 13 with fail
              clear c2
              refine wp_region_held_drew (S := fun W => Blk W w.heap.size 30 (txc t)) hmx kB ?_
              intro hS
              replace kR := kR.drew
              replace kX := kX.drew
              replace hB := hB.drew
              clear kB
              generalize World.drew _ = Y at *
              refine' wpAnyH_take (i := 0) (oi := _) (v := _) ?hi17 (by kernel_rfl) (by kernel_rfl) (by kernel_rfl) ?hQ17 (Or.inl ⟨?hw17, ?hy17⟩) hS ?rest17
              case hi17 => simp only [List.getElem?_toArray, List.getElem?_cons_zero]; rfl
              case hQ17 => exact fun _ _ _ h => h
              case hw17 => rfl
              case hy17 => intro W' hS'; go_simp; with_reducible rfl
              try simp only [Act.put, List.setIfInBounds_toArray, List.set_cons_zero, List.set_cons_succ]
              refine' wpAnyH_take (i := 1) (oi := _) (v := wv t.f0 t.f1 t.f2 t.f3) ?hi18 (by kernel_rfl) (by kernel_rfl) (by kernel_rfl) ?hQ18 (Or.inl ⟨?hw18, ?hy18⟩) hS ?rest18
              case hi18 => simp only [List.getElem?_toArray, List.getElem?_cons_succ, List.getElem?_cons_zero]; rfl
              case hQ18 => exact fun _ _ _ h => h
              case hw18 => rfl
              case hy18 => exact fun W' hS' => exec_load 24 (.tmp 51) rfl _ W' (load_fe hS')
              try simp only [Act.put, List.setIfInBounds_toArray, List.set_cons_zero, List.set_cons_succ]
              refine' wpAnyH_take (i := 2) (oi := _) (v := _) ?hi19 (by kernel_rfl) (by kernel_rfl) (by kernel_rfl) ?hQ19 (Or.inl ⟨?hw19, ?hy19⟩) hS ?rest19
              case hi19 => simp only [List.getElem?_toArray, List.getElem?_cons_succ, List.getElem?_cons_zero]; rfl
              case hQ19 => exact fun _ _ _ h => h
              case hw19 => rfl
              case hy19 => intro W' hS'; go_simp; with_reducible rfl
              try simp only [Act.put, List.setIfInBounds_toArray, List.set_cons_zero, List.set_cons_succ]
              refine' wpAnyH_take (i := 3) (oi := _) (v := _) ?hi20 (by kernel_rfl) (by kernel_rfl) (by kernel_rfl) ?hQ20 (Or.inl ⟨?hw20, ?hy20⟩) hS ?rest20
              case hi20 => simp only [List.getElem?_toArray, List.getElem?_cons_succ, List.getElem?_cons_zero]; rfl
              case hQ20 => exact fun _ _ _ h => h
              case hw20 => rfl
              case hy20 => intro W' hS'; have c24 := (hS'.cell 24).trans rfl; go_simp; with_reducible rfl
              try simp only [Act.put, List.setIfInBounds_toArray, List.set_cons_zero, List.set_cons_succ]
              refine' wpAnyH_take (i := 4) (oi := _) (v := _) ?hi21 (by kernel_rfl) (by kernel_rfl) (by kernel_rfl) ?hQ21 (Or.inl ⟨?hw21, ?hy21⟩) hS ?rest21
              case hi21 => simp only [List.getElem?_toArray, List.getElem?_cons_succ, List.getElem?_cons_zero]; rfl
              case hQ21 => exact fun _ _ _ h => h
              case hw21 => rfl
              case hy21 => intro W' hS'; go_simp; with_reducible rfl
              try simp only [Act.put, List.setIfInBounds_toArray, List.set_cons_zero, List.set_cons_succ]
              refine wpAnyH_ready (rs := [5]) (by kernel_rfl) (by simp) ?_
              refine' AllReadyH.cons (o := _) ?ho22 (fun K hK => ?st22) AllReadyH.nil
              case ho22 => simp only [List.getElem?_toArray, List.getElem?_cons_succ, List.getElem?_cons_zero]; rfl
              case st22 =>
                ((refine wp_store_part 24 (.tmp 55) (.tmp 52) (txc ⟨t.fr, t.no, t.kd, t.az, t.a0, t.a1, t.a2, t.a3, t.iv, t.vr, t.f0, t.f1, t.f2, t.f3, emptyB⟩) kX 20 (wv t.f0 t.f1 t.f2 t.f3) [.int .u64 (t.f0 : Nat), .int .u64 (t.f1 : Nat), .int .u64 (t.f2 : Nat), .int .u64 (t.f3 : Nat)] ?_ ?_ ?_ ?_ ?_ ?_ ?_ ?_ ?_ ?_); (· rfl); (· rfl); (· rfl); (· rfl); (· rfl); (· kernel_rfl); (· exact Nat.le_of_ble_eq_true rfl); (· rfl); (· rfl))
                refine hK.out _ _ (hS.rowO _ (by omega)) (fun hS => ?_)
                clear hK K
                try simp only [Act.put, List.setIfInBounds_toArray, List.set_cons_zero, List.set_cons_succ]
                replace kR := kR.rowO (txc ⟨t.fr, t.no, t.kd, t.az, t.a0, t.a1, t.a2, t.a3, t.iv, t.vr, t.f0, t.f1, t.f2, t.f3, emptyB⟩).toArray (g := (w.heap.size + 1 + 1)) (by omega)
                replace kX := kX.row (txc ⟨t.fr, t.no, t.kd, t.az, t.a0, t.a1, t.a2, t.a3, t.iv, t.vr, t.f0, t.f1, t.f2, t.f3, emptyB⟩)
                replace hB := below_setRow hB (show w.heap.size ≤ (w.heap.size + 1 + 1) by omega) (txc ⟨t.fr, t.no, t.kd, t.az, t.a0, t.a1, t.a2, t.a3, t.iv, t.vr, t.f0, t.f1, t.f2, t.f3, emptyB⟩).toArray
                refine' wpAnyH_take (i := 6) (oi := _) (v := _) ?hi23 (by kernel_rfl) (by kernel_rfl) (by kernel_rfl) ?hQ23 (Or.inl ⟨?hw23, ?hy23⟩) hS ?rest23
                case hi23 => simp only [List.getElem?_toArray, List.getElem?_cons_succ, List.getElem?_cons_zero]; rfl
                case hQ23 => exact fun _ _ _ h => h
                case hw23 => rfl
                case hy23 => intro W' hS'; go_simp; with_reducible rfl
                try simp only [Act.put, List.setIfInBounds_toArray, List.set_cons_zero, List.set_cons_succ]
                refine wpAnyH_ready (rs := [7]) (by kernel_rfl) (by simp) ?_
                refine' AllReadyH.cons (o := _) ?ho24 (fun K hK => ?st24) AllReadyH.nil
                case ho24 => simp only [List.getElem?_toArray, List.getElem?_cons_succ, List.getElem?_cons_zero]; rfl
                case st24 =>
                  ((refine wp_store_part 9 (.tmp 56) (.tmp 54) (txc ⟨t.fr, t.no, t.kd, t.az, t.a0, t.a1, t.a2, t.a3, t.iv, t.vr, t.f0, t.f1, t.f2, t.f3, t.sg⟩) kX 24 (.string t.sg) [.string t.sg] ?_ ?_ ?_ ?_ ?_ ?_ ?_ ?_ ?_ ?_); (· rfl); (· rfl); (· rfl); (· rfl); (· rfl); (· kernel_rfl); (· exact Nat.le_of_ble_eq_true rfl); (· rfl); (· rfl))
                  refine hK.out _ _ (hS.rowO _ (by omega)) (fun hS => ?_)
                  clear hK K
                  try simp only [Act.put, List.setIfInBounds_toArray, List.set_cons_zero, List.set_cons_succ]
                  replace kR := kR.rowO (txc ⟨t.fr, t.no, t.kd, t.az, t.a0, t.a1, t.a2, t.a3, t.iv, t.vr, t.f0, t.f1, t.f2, t.f3, t.sg⟩).toArray (g := (w.heap.size + 1 + 1)) (by omega)
                  replace kX := kX.row (txc ⟨t.fr, t.no, t.kd, t.az, t.a0, t.a1, t.a2, t.a3, t.iv, t.vr, t.f0, t.f1, t.f2, t.f3, t.sg⟩)
                  replace hB := below_setRow hB (show w.heap.size ≤ (w.heap.size + 1 + 1) by omega) (txc ⟨t.fr, t.no, t.kd, t.az, t.a0, t.a1, t.a2, t.a3, t.iv, t.vr, t.f0, t.f1, t.f2, t.f3, t.sg⟩).toArray
                  refine wpAnyH_done (by kernel_rfl) ?_ _
                  have kB := hS
                  clear hS
                  go_wp2_with (first
                    | ((with_reducible refine wpList_loadIf 30 (.tmp 3) ?_ (some 57) ?_ ?_ (txv ⟨t.fr, t.no, t.kd, t.az, t.a0, t.a1, t.a2, t.a3, t.iv, t.vr, t.f0, t.f1, t.f2, t.f3, t.sg⟩) ?_ ?_); (· rfl); (· rfl); (· rfl); (· exact load_tx kX))
                    | ((with_reducible refine wpList_store_part 30 (.tmp 2) (.tmp 57) (txc ⟨t.fr, t.no, t.kd, t.az, t.a0, t.a1, t.a2, t.a3, t.iv, t.vr, t.f0, t.f1, t.f2, t.f3, t.sg⟩) kR 0 (txv ⟨t.fr, t.no, t.kd, t.az, t.a0, t.a1, t.a2, t.a3, t.iv, t.vr, t.f0, t.f1, t.f2, t.f3, t.sg⟩) (txc ⟨t.fr, t.no, t.kd, t.az, t.a0, t.a1, t.a2, t.a3, t.iv, t.vr, t.f0, t.f1, t.f2, t.f3, t.sg⟩) ?_ ?_ ?_ ?_ ?_ ?_ ?_ ?_ ?_ ?_ ?_); (· rfl); (· rfl); (· rfl); (· rfl); (· rfl); (· rfl); (· kernel_rfl); (· exact Nat.le_of_ble_eq_true rfl); (· rfl); (· rfl); replace kR := kR.row (txc ⟨t.fr, t.no, t.kd, t.az, t.a0, t.a1, t.a2, t.a3, t.iv, t.vr, t.f0, t.f1, t.f2, t.f3, t.sg⟩); replace hB := below_setRow hB (show w.heap.size ≤ w.heap.size + 1 by omega) (txc ⟨t.fr, t.no, t.kd, t.az, t.a0, t.a1, t.a2, t.a3, t.iv, t.vr, t.f0, t.f1, t.f2, t.f3, t.sg⟩).toArray))
                  exact bodyPost_ret (v := txv ⟨t.fr, t.no, t.kd, t.az, t.a0, t.a1, t.a2, t.a3, t.iv, t.vr, t.f0, t.f1, t.f2, t.f3, t.sg⟩) (results_cell_row (P := Try.prog) (fn := Try.f22) (p := 2) (ty := 30) rfl _ _ (w.heap.size + 1) 30 (txc ⟨t.fr, t.no, t.kd, t.az, t.a0, t.a1, t.a2, t.a3, t.iv, t.vr, t.f0, t.f1, t.f2, t.f3, t.sg⟩).toArray (0, 0) _ rfl kR Try.underlying30 rfl (by kernel_rfl)) rfl ⟨by rw [HX.out], hB⟩
        · have q5 : (t.kd == 5) = false := by simpa using hk5
          by_cases hk6 : t.kd = 6
          · have q6 : (t.kd == 6) = true := by simpa using hk6
            have HX := Lib.hid (plainT_5 (show 5 ≤ t.kd ∧ t.kd ≤ 6 by omega))
            clear hk1 hk2 hk4 hk5 hk6
            have c2 := (kB.cell 2).trans rfl
            go_upto_region 11 with fail
            clear c2
            refine wp_region_held_drew (S := fun W => Blk W w.heap.size 30 (txc t)) hmx kB ?_
            intro hS
            replace kR := kR.drew
            replace kX := kX.drew
            replace hB := hB.drew
            clear kB
            generalize World.drew _ = Y at *
            refine' wpAnyH_take (i := 0) (oi := _) (v := _) ?hi25 (by kernel_rfl) (by kernel_rfl) (by kernel_rfl) ?hQ25 (Or.inl ⟨?hw25, ?hy25⟩) hS ?rest25
            case hi25 => simp only [List.getElem?_toArray, List.getElem?_cons_zero]; rfl
            case hQ25 => exact fun _ _ _ h => h
            case hw25 => rfl
            case hy25 => intro W' hS'; go_simp; with_reducible rfl
            try simp only [Act.put, List.setIfInBounds_toArray, List.set_cons_zero, List.set_cons_succ]
            refine' wpAnyH_take (i := 1) (oi := _) (v := ivv t.iv) ?hi26 (by kernel_rfl) (by kernel_rfl) (by kernel_rfl) ?hQ26 (Or.inl ⟨?hw26, ?hy26⟩) hS ?rest26
            case hi26 => simp only [List.getElem?_toArray, List.getElem?_cons_succ, List.getElem?_cons_zero]; rfl
            case hQ26 => exact fun _ _ _ h => h
            case hw26 => rfl
            case hy26 => exact fun W' hS' => exec_load 26 (.tmp 37) rfl _ W' (load_iv hS')
            try simp only [Act.put, List.setIfInBounds_toArray, List.set_cons_zero, List.set_cons_succ]
            refine' wpAnyH_take (i := 2) (oi := _) (v := _) ?hi27 (by kernel_rfl) (by kernel_rfl) (by kernel_rfl) ?hQ27 (Or.inl ⟨?hw27, ?hy27⟩) hS ?rest27
            case hi27 => simp only [List.getElem?_toArray, List.getElem?_cons_succ, List.getElem?_cons_zero]; rfl
            case hQ27 => exact fun _ _ _ h => h
            case hw27 => rfl
            case hy27 => intro W' hS'; go_simp; with_reducible rfl
            try simp only [Act.put, List.setIfInBounds_toArray, List.set_cons_zero, List.set_cons_succ]
            refine' wpAnyH_take (i := 3) (oi := _) (v := svv t.vr) ?hi28 (by kernel_rfl) (by kernel_rfl) (by kernel_rfl) ?hQ28 (Or.inl ⟨?hw28, ?hy28⟩) hS ?rest28
            case hi28 => simp only [List.getElem?_toArray, List.getElem?_cons_succ, List.getElem?_cons_zero]; rfl
            case hQ28 => exact fun _ _ _ h => h
            case hw28 => rfl
            case hy28 => exact fun W' hS' => exec_load 28 (.tmp 39) rfl _ W' (load_vr hS')
            try simp only [Act.put, List.setIfInBounds_toArray, List.set_cons_zero, List.set_cons_succ]
            refine' wpAnyH_take (i := 4) (oi := _) (v := _) ?hi29 (by kernel_rfl) (by kernel_rfl) (by kernel_rfl) ?hQ29 (Or.inl ⟨?hw29, ?hy29⟩) hS ?rest29
            case hi29 => simp only [List.getElem?_toArray, List.getElem?_cons_succ, List.getElem?_cons_zero]; rfl
            case hQ29 => exact fun _ _ _ h => h
            case hw29 => rfl
            case hy29 => intro W' hS'; go_simp; with_reducible rfl
            try simp only [Act.put, List.setIfInBounds_toArray, List.set_cons_zero, List.set_cons_succ]
            refine wpAnyH_ready (rs := [5]) (by kernel_rfl) (by simp) ?_
            refine' AllReadyH.cons (o := _) ?ho30 (fun K hK => ?st30) AllReadyH.nil
            case ho30 => simp only [List.getElem?_toArray, List.getElem?_cons_succ, List.getElem?_cons_zero]; rfl
            case st30 =>
              ((refine wp_store_part 26 (.tmp 41) (.tmp 38) (txc ⟨t.fr, t.no, t.kd, t.az, t.a0, t.a1, t.a2, t.a3, t.iv, noV, 0, 0, 0, 0, emptyB⟩) kX 8 (ivv t.iv) (ivc t.iv) ?_ ?_ ?_ ?_ ?_ ?_ ?_ ?_ ?_ ?_); (· rfl); (· rfl); (· rfl); (· rfl); (· rfl); (· kernel_rfl); (· exact Nat.le_of_ble_eq_true rfl); (· rfl); (· rfl))
              refine hK.out _ _ (hS.rowO _ (by omega)) (fun hS => ?_)
              clear hK K
              try simp only [Act.put, List.setIfInBounds_toArray, List.set_cons_zero, List.set_cons_succ]
              replace kR := kR.rowO (txc ⟨t.fr, t.no, t.kd, t.az, t.a0, t.a1, t.a2, t.a3, t.iv, noV, 0, 0, 0, 0, emptyB⟩).toArray (g := (w.heap.size + 1 + 1)) (by omega)
              replace kX := kX.row (txc ⟨t.fr, t.no, t.kd, t.az, t.a0, t.a1, t.a2, t.a3, t.iv, noV, 0, 0, 0, 0, emptyB⟩)
              replace hB := below_setRow hB (show w.heap.size ≤ (w.heap.size + 1 + 1) by omega) (txc ⟨t.fr, t.no, t.kd, t.az, t.a0, t.a1, t.a2, t.a3, t.iv, noV, 0, 0, 0, 0, emptyB⟩).toArray
              refine' wpAnyH_take (i := 6) (oi := _) (v := _) ?hi31 (by kernel_rfl) (by kernel_rfl) (by kernel_rfl) ?hQ31 (Or.inl ⟨?hw31, ?hy31⟩) hS ?rest31
              case hi31 => simp only [List.getElem?_toArray, List.getElem?_cons_succ, List.getElem?_cons_zero]; rfl
              case hQ31 => exact fun _ _ _ h => h
              case hw31 => rfl
              case hy31 => intro W' hS'; go_simp; with_reducible rfl
              try simp only [Act.put, List.setIfInBounds_toArray, List.set_cons_zero, List.set_cons_succ]
              refine wpAnyH_ready (rs := [7]) (by kernel_rfl) (by simp) ?_
              refine' AllReadyH.cons (o := _) ?ho32 (fun K hK => ?st32) AllReadyH.nil
              case ho32 => simp only [List.getElem?_toArray, List.getElem?_cons_succ, List.getElem?_cons_zero]; rfl
              case st32 =>
                ((refine wp_store_part 28 (.tmp 42) (.tmp 40) (txc ⟨t.fr, t.no, t.kd, t.az, t.a0, t.a1, t.a2, t.a3, t.iv, t.vr, 0, 0, 0, 0, emptyB⟩) kX 15 (svv t.vr) (svc t.vr) ?_ ?_ ?_ ?_ ?_ ?_ ?_ ?_ ?_ ?_); (· rfl); (· rfl); (· rfl); (· rfl); (· rfl); (· kernel_rfl); (· exact Nat.le_of_ble_eq_true rfl); (· rfl); (· rfl))
                refine hK.out _ _ (hS.rowO _ (by omega)) (fun hS => ?_)
                clear hK K
                try simp only [Act.put, List.setIfInBounds_toArray, List.set_cons_zero, List.set_cons_succ]
                replace kR := kR.rowO (txc ⟨t.fr, t.no, t.kd, t.az, t.a0, t.a1, t.a2, t.a3, t.iv, t.vr, 0, 0, 0, 0, emptyB⟩).toArray (g := (w.heap.size + 1 + 1)) (by omega)
                replace kX := kX.row (txc ⟨t.fr, t.no, t.kd, t.az, t.a0, t.a1, t.a2, t.a3, t.iv, t.vr, 0, 0, 0, 0, emptyB⟩)
                replace hB := below_setRow hB (show w.heap.size ≤ (w.heap.size + 1 + 1) by omega) (txc ⟨t.fr, t.no, t.kd, t.az, t.a0, t.a1, t.a2, t.a3, t.iv, t.vr, 0, 0, 0, 0, emptyB⟩).toArray
                refine wpAnyH_done (by kernel_rfl) ?_ _
                have kB := hS
                clear hS
                have c2 := (kB.cell 2).trans rfl
                go_upto_region 13 with fail
                clear c2
                refine wp_region_held_drew (S := fun W => Blk W w.heap.size 30 (txc t)) hmx kB ?_
                intro hS
                replace kR := kR.drew
                replace kX := kX.drew
                replace hB := hB.drew
                clear kB
                generalize World.drew _ = Y at *
                refine' wpAnyH_take (i := 0) (oi := _) (v := _) ?hi33 (by kernel_rfl) (by kernel_rfl) (by kernel_rfl) ?hQ33 (Or.inl ⟨?hw33, ?hy33⟩) hS ?rest33
                case hi33 => simp only [List.getElem?_toArray, List.getElem?_cons_zero]; rfl
                case hQ33 => exact fun _ _ _ h => h
                case hw33 => rfl
                case hy33 => intro W' hS'; go_simp; with_reducible rfl
                try simp only [Act.put, List.setIfInBounds_toArray, List.set_cons_zero, List.set_cons_succ]
                refine' wpAnyH_take (i := 1) (oi := _) (v := wv t.f0 t.f1 t.f2 t.f3) ?hi34 (by kernel_rfl) (by kernel_rfl) (by kernel_rfl) ?hQ34 (Or.inl ⟨?hw34, ?hy34⟩) hS ?rest34
                case hi34 => simp only [List.getElem?_toArray, List.getElem?_cons_succ, List.getElem?_cons_zero]; rfl
                case hQ34 => exact fun _ _ _ h => h
                case hw34 => rfl
                case hy34 => exact fun W' hS' => exec_load 24 (.tmp 51) rfl _ W' (load_fe hS')
                try simp only [Act.put, List.setIfInBounds_toArray, List.set_cons_zero, List.set_cons_succ]
                refine' wpAnyH_take (i := 2) (oi := _) (v := _) ?hi35 (by kernel_rfl) (by kernel_rfl) (by kernel_rfl) ?hQ35 (Or.inl ⟨?hw35, ?hy35⟩) hS ?rest35
                case hi35 => simp only [List.getElem?_toArray, List.getElem?_cons_succ, List.getElem?_cons_zero]; rfl
                case hQ35 => exact fun _ _ _ h => h
                case hw35 => rfl
                case hy35 => intro W' hS'; go_simp; with_reducible rfl
                try simp only [Act.put, List.setIfInBounds_toArray, List.set_cons_zero, List.set_cons_succ]
                refine' wpAnyH_take (i := 3) (oi := _) (v := _) ?hi36 (by kernel_rfl) (by kernel_rfl) (by kernel_rfl) ?hQ36 (Or.inl ⟨?hw36, ?hy36⟩) hS ?rest36
                case hi36 => simp only [List.getElem?_toArray, List.getElem?_cons_succ, List.getElem?_cons_zero]; rfl
                case hQ36 => exact fun _ _ _ h => h
                case hw36 => rfl
                case hy36 => intro W' hS'; have c24 := (hS'.cell 24).trans rfl; go_simp; with_reducible rfl
                try simp only [Act.put, List.setIfInBounds_toArray, List.set_cons_zero, List.set_cons_succ]
                refine' wpAnyH_take (i := 4) (oi := _) (v := _) ?hi37 (by kernel_rfl) (by kernel_rfl) (by kernel_rfl) ?hQ37 (Or.inl ⟨?hw37, ?hy37⟩) hS ?rest37
                case hi37 => simp only [List.getElem?_toArray, List.getElem?_cons_succ, List.getElem?_cons_zero]; rfl
                case hQ37 => exact fun _ _ _ h => h
                case hw37 => rfl
                case hy37 => intro W' hS'; go_simp; with_reducible rfl
                try simp only [Act.put, List.setIfInBounds_toArray, List.set_cons_zero, List.set_cons_succ]
                refine wpAnyH_ready (rs := [5]) (by kernel_rfl) (by simp) ?_
                refine' AllReadyH.cons (o := _) ?ho38 (fun K hK => ?st38) AllReadyH.nil
                case ho38 => simp only [List.getElem?_toArray, List.getElem?_cons_succ, List.getElem?_cons_zero]; rfl
                case st38 =>
                  ((refine wp_store_part 24 (.tmp 55) (.tmp 52) (txc ⟨t.fr, t.no, t.kd, t.az, t.a0, t.a1, t.a2, t.a3, t.iv, t.vr, t.f0, t.f1, t.f2, t.f3, emptyB⟩) kX 20 (wv t.f0 t.f1 t.f2 t.f3) [.int .u64 (t.f0 : Nat), .int .u64 (t.f1 : Nat), .int .u64 (t.f2 : Nat), .int .u64 (t.f3 : Nat)] ?_ ?_ ?_ ?_ ?_ ?_ ?_ ?_ ?_ ?_); (· rfl); (· rfl); (· rfl); (· rfl); (· rfl); (· kernel_rfl); (· exact Nat.le_of_ble_eq_true rfl); (· rfl); (· rfl))
                  refine hK.out _ _ (hS.rowO _ (by omega)) (fun hS => ?_)
                  clear hK K
                  try simp only [Act.put, List.setIfInBounds_toArray, List.set_cons_zero, List.set_cons_succ]
                  replace kR := kR.rowO (txc ⟨t.fr, t.no, t.kd, t.az, t.a0, t.a1, t.a2, t.a3, t.iv, t.vr, t.f0, t.f1, t.f2, t.f3, emptyB⟩).toArray (g := (w.heap.size + 1 + 1)) (by omega)
                  replace kX := kX.row (txc ⟨t.fr, t.no, t.kd, t.az, t.a0, t.a1, t.a2, t.a3, t.iv, t.vr, t.f0, t.f1, t.f2, t.f3, emptyB⟩)
                  replace hB := below_setRow hB (show w.heap.size ≤ (w.heap.size + 1 + 1) by omega) (txc ⟨t.fr, t.no, t.kd, t.az, t.a0, t.a1, t.a2, t.a3, t.iv, t.vr, t.f0, t.f1, t.f2, t.f3, emptyB⟩).toArray
                  refine' wpAnyH_take (i := 6) (oi := _) (v := _) ?hi39 (by kernel_rfl) (by kernel_rfl) (by kernel_rfl) ?hQ39 (Or.inl ⟨?hw39, ?hy39⟩) hS ?rest39
                  case hi39 => simp only [List.getElem?_toArray, List.getElem?_cons_succ, List.getElem?_cons_zero]; rfl
                  case hQ39 => exact fun _ _ _ h => h
                  case hw39 => rfl
                  case hy39 => intro W' hS'; go_simp; with_reducible rfl
                  try simp only [Act.put, List.setIfInBounds_toArray, List.set_cons_zero, List.set_cons_succ]
                  refine wpAnyH_ready (rs := [7]) (by kernel_rfl) (by simp) ?_
                  refine' AllReadyH.cons (o := _) ?ho40 (fun K hK => ?st40) AllReadyH.nil
                  case ho40 => simp only [List.getElem?_toArray, List.getElem?_cons_succ, List.getElem?_cons_zero]; rfl
                  case st40 =>
                    ((refine wp_store_part 9 (.tmp 56) (.tmp 54) (txc ⟨t.fr, t.no, t.kd, t.az, t.a0, t.a1, t.a2, t.a3, t.iv, t.vr, t.f0, t.f1, t.f2, t.f3, t.sg⟩) kX 24 (.string t.sg) [.string t.sg] ?_ ?_ ?_ ?_ ?_ ?_ ?_ ?_ ?_ ?_); (· rfl); (· rfl); (· rfl); (· rfl); (· rfl); (· kernel_rfl); (· exact Nat.le_of_ble_eq_true rfl); (· rfl); (· rfl))
                    refine hK.out _ _ (hS.rowO _ (by omega)) (fun hS => ?_)
                    clear hK K
                    try simp only [Act.put, List.setIfInBounds_toArray, List.set_cons_zero, List.set_cons_succ]
                    replace kR := kR.rowO (txc ⟨t.fr, t.no, t.kd, t.az, t.a0, t.a1, t.a2, t.a3, t.iv, t.vr, t.f0, t.f1, t.f2, t.f3, t.sg⟩).toArray (g := (w.heap.size + 1 + 1)) (by omega)
                    replace kX := kX.row (txc ⟨t.fr, t.no, t.kd, t.az, t.a0, t.a1, t.a2, t.a3, t.iv, t.vr, t.f0, t.f1, t.f2, t.f3, t.sg⟩)
                    replace hB := below_setRow hB (show w.heap.size ≤ (w.heap.size + 1 + 1) by omega) (txc ⟨t.fr, t.no, t.kd, t.az, t.a0, t.a1, t.a2, t.a3, t.iv, t.vr, t.f0, t.f1, t.f2, t.f3, t.sg⟩).toArray
                    refine wpAnyH_done (by kernel_rfl) ?_ _
                    have kB := hS
                    clear hS
                    go_wp2_with (first
                      | ((with_reducible refine wpList_loadIf 30 (.tmp 3) ?_ (some 57) ?_ ?_ (txv ⟨t.fr, t.no, t.kd, t.az, t.a0, t.a1, t.a2, t.a3, t.iv, t.vr, t.f0, t.f1, t.f2, t.f3, t.sg⟩) ?_ ?_); (· rfl); (· rfl); (· rfl); (· exact load_tx kX))
                      | ((with_reducible refine wpList_store_part 30 (.tmp 2) (.tmp 57) (txc ⟨t.fr, t.no, t.kd, t.az, t.a0, t.a1, t.a2, t.a3, t.iv, t.vr, t.f0, t.f1, t.f2, t.f3, t.sg⟩) kR 0 (txv ⟨t.fr, t.no, t.kd, t.az, t.a0, t.a1, t.a2, t.a3, t.iv, t.vr, t.f0, t.f1, t.f2, t.f3, t.sg⟩) (txc ⟨t.fr, t.no, t.kd, t.az, t.a0, t.a1, t.a2, t.a3, t.iv, t.vr, t.f0, t.f1, t.f2, t.f3, t.sg⟩) ?_ ?_ ?_ ?_ ?_ ?_ ?_ ?_ ?_ ?_ ?_); (· rfl); (· rfl); (· rfl); (· rfl); (· rfl); (· rfl); (· kernel_rfl); (· exact Nat.le_of_ble_eq_true rfl); (· rfl); (· rfl); replace kR := kR.row (txc ⟨t.fr, t.no, t.kd, t.az, t.a0, t.a1, t.a2, t.a3, t.iv, t.vr, t.f0, t.f1, t.f2, t.f3, t.sg⟩); replace hB := below_setRow hB (show w.heap.size ≤ w.heap.size + 1 by omega) (txc ⟨t.fr, t.no, t.kd, t.az, t.a0, t.a1, t.a2, t.a3, t.iv, t.vr, t.f0, t.f1, t.f2, t.f3, t.sg⟩).toArray))
                    exact bodyPost_ret (v := txv ⟨t.fr, t.no, t.kd, t.az, t.a0, t.a1, t.a2, t.a3, t.iv, t.vr, t.f0, t.f1, t.f2, t.f3, t.sg⟩) (results_cell_row (P := Try.prog) (fn := Try.f22) (p := 2) (ty := 30) rfl _ _ (w.heap.size + 1) 30 (txc ⟨t.fr, t.no, t.kd, t.az, t.a0, t.a1, t.a2, t.a3, t.iv, t.vr, t.f0, t.f1, t.f2, t.f3, t.sg⟩).toArray (0, 0) _ rfl kR Try.underlying30 rfl (by kernel_rfl)) rfl ⟨by rw [HX.out], hB⟩
          · have q6 : (t.kd == 6) = false := by simpa using hk6
            have HX := Lib.hid (plainT_0 hk1 hk2 (show ¬ (4 ≤ t.kd ∧ t.kd ≤ 6) by omega))
            clear hk1 hk2 hk4 hk5 hk6
            have c2 := (kB.cell 2).trans rfl
            go_wp2_with (first
              | ((with_reducible refine wpList_store_part 26 (.tmp 18) (.tmp 17) (txc ⟨t.fr, t.no, t.kd, t.az, t.a0, t.a1, t.a2, t.a3, noI, noV, 0, 0, 0, 0, emptyB⟩) kX 8 (ivv noI) (ivc noI) ?_ ?_ ?_ ?_ ?_ ?_ ?_ ?_ ?_ ?_ ?_); (· rfl); (· rfl); (· rfl); (· rfl); (· rfl); (· rfl); (· kernel_rfl); (· exact Nat.le_of_ble_eq_true rfl); (· rfl); (· rfl); replace kB := kB.rowO (txc ⟨t.fr, t.no, t.kd, t.az, t.a0, t.a1, t.a2, t.a3, noI, noV, 0, 0, 0, 0, emptyB⟩).toArray (g := (w.heap.size + 1 + 1)) (by omega); replace kR := kR.rowO (txc ⟨t.fr, t.no, t.kd, t.az, t.a0, t.a1, t.a2, t.a3, noI, noV, 0, 0, 0, 0, emptyB⟩).toArray (g := (w.heap.size + 1 + 1)) (by omega); replace kX := kX.row (txc ⟨t.fr, t.no, t.kd, t.az, t.a0, t.a1, t.a2, t.a3, noI, noV, 0, 0, 0, 0, emptyB⟩); replace hB := below_setRow hB (show w.heap.size ≤ (w.heap.size + 1 + 1) by omega) (txc ⟨t.fr, t.no, t.kd, t.az, t.a0, t.a1, t.a2, t.a3, noI, noV, 0, 0, 0, 0, emptyB⟩).toArray; clear c2; have c2 := (kB.cell 2).trans rfl)
              | ((with_reducible refine wpList_loadIf 30 (.tmp 3) ?_ (some 57) ?_ ?_ (txv ⟨t.fr, t.no, t.kd, t.az, t.a0, t.a1, t.a2, t.a3, noI, noV, 0, 0, 0, 0, emptyB⟩) ?_ ?_); (· rfl); (· rfl); (· rfl); (· exact load_tx kX))
              | ((with_reducible refine wpList_store_part 30 (.tmp 2) (.tmp 57) (txc ⟨t.fr, t.no, t.kd, t.az, t.a0, t.a1, t.a2, t.a3, noI, noV, 0, 0, 0, 0, emptyB⟩) kR 0 (txv ⟨t.fr, t.no, t.kd, t.az, t.a0, t.a1, t.a2, t.a3, noI, noV, 0, 0, 0, 0, emptyB⟩) (txc ⟨t.fr, t.no, t.kd, t.az, t.a0, t.a1, t.a2, t.a3, noI, noV, 0, 0, 0, 0, emptyB⟩) ?_ ?_ ?_ ?_ ?_ ?_ ?_ ?_ ?_ ?_ ?_); (· rfl); (· rfl); (· rfl); (· rfl); (· rfl); (· rfl); (· kernel_rfl); (· exact Nat.le_of_ble_eq_true rfl); (· rfl); (· rfl); replace kR := kR.row (txc ⟨t.fr, t.no, t.kd, t.az, t.a0, t.a1, t.a2, t.a3, noI, noV, 0, 0, 0, 0, emptyB⟩); replace hB := below_setRow hB (show w.heap.size ≤ w.heap.size + 1 by omega) (txc ⟨t.fr, t.no, t.kd, t.az, t.a0, t.a1, t.a2, t.a3, noI, noV, 0, 0, 0, 0, emptyB⟩).toArray))
            exact bodyPost_ret (v := txv ⟨t.fr, t.no, t.kd, t.az, t.a0, t.a1, t.a2, t.a3, noI, noV, 0, 0, 0, 0, emptyB⟩) (results_cell_row (P := Try.prog) (fn := Try.f22) (p := 2) (ty := 30) rfl _ _ (w.heap.size + 1) 30 (txc ⟨t.fr, t.no, t.kd, t.az, t.a0, t.a1, t.a2, t.a3, noI, noV, 0, 0, 0, 0, emptyB⟩).toArray (0, 0) _ rfl kR Try.underlying30 rfl (by kernel_rfl)) rfl ⟨by rw [HX.out], hB⟩
end Go.Proofs.Ytafcngnophlhgaa
