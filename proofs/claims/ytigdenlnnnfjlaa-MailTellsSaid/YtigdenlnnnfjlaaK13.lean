/-
  A message, read by the reference.
-/
import Derived.Laws.Tables
import Derived.Test.YtigdenlnnnfjlaaK12
namespace Go.Proofs.Ytigdenlnnnfjlaa
open Go.RowKit Go.Shelf

/-- A struct that is built, carried out. -/
theorem exec_build {P : Program} {ρ : Operand → Value} {o : Oper} (t : TypeId) (parts : Array (Nat × Operand)) (ho : o.op = .build t parts) (cells : Array Value) (w : World) (hf : P.built t (parts.map fun (i, x) => (i, ρ x)).toList = some cells) :
    (execOp ρ o).run P w = .ok (.value (.agg cells)) w := by
  unfold execOp
  simp only [ho, Sem.run_bind, run_build w t _ cells hf, Result.andThen_ok]
  rfl
def HAsk (s : St) (i : Ak) (e : St) : Prop := ∀ W v, BSl 0 W.heap.size W v s.1 → Calls Try.prog 36 #[.agg #[v, .int .i64 s.2]] W fun x W' => ∃ sv, x = .returned (.tuple #[akv i, .agg #[sv, .int .i64 e.2]]) ∧ BSl 0 W'.heap.size W' sv e.1 ∧ Below W.heap.size W W'
def HOpen (l : List UInt8) (e : St) : Prop := ∀ W v, BSl 0 W.heap.size W v l → Calls Try.prog 35 #[v] W fun x W' => ∃ sv, x = .returned (.agg #[sv, .int .i64 e.2]) ∧ BSl 0 W'.heap.size W' sv e.1 ∧ Below W.heap.size W W'
theorem hAsk (s : St) : HAsk s (getA s).1 (getA s).2 := fun W v h => refGetAsk_any v W h
theorem hOpen (l : List UInt8) : HOpen l (openS l) := fun W v h => refOpen6_any l v W h
theorem load_r6 {W : World} {B : Nat} {z : Value} {n : Int} (h : Blk W B 74 [z, .int .i64 n]) : (Instr.loadAt 74 (.pointer (some ⟨B, 0, none⟩))).run Try.prog W = .ok (.agg #[z, .int .i64 n]) W :=
  load_part h 0 [z, .int .i64 n] rfl _ _ Try.underlying74 rfl (by kernel_rfl)
/-- The blocks of the reader: what is handed back, the message, what is left. -/
structure GM (w Y : World) (s : St) (z : Value) (v : Ms) : Prop where
  r : Blk Y w.heap.size 34 (msc noM)
  m : Blk Y (w.heap.size + 1) 34 (msc v)
  a : Blk Y (w.heap.size + 2) 74 [z, .int .i64 s.2]
  b : BSl 0 Y.heap.size Y z s.1
  o : Below w.heap.size w Y
theorem GM.below {w Y Y' : World} {s : St} {z : Value} {v : Ms} (h : GM w Y s z v) (hb : Below Y.heap.size Y Y') : GM w Y' s z v :=
  ⟨h.r.below hb h.r.lt, h.m.below hb h.m.lt, h.a.below hb h.a.lt, (h.b.below hb (Nat.le_refl _)).mono (Nat.le_refl _) hb.size, chain h.o hb⟩
theorem GM.setM {w Y : World} {s : St} {z : Value} {v : Ms} (h : GM w Y s z v) {sv : Value} {l : List UInt8} (hv : BSl 0 Y.heap.size Y sv l) (v' : Ms) :
    GM w (Y.setRow (w.heap.size + 1) (msc v').toArray) s z v' ∧ BSl 0 (Y.setRow (w.heap.size + 1) (msc v').toArray).heap.size (Y.setRow (w.heap.size + 1) (msc v').toArray) sv l :=
  ⟨⟨h.r.rowO _ (by omega), h.m.row (msc v'), h.a.rowO _ (by omega), bsl_row h.b (noOctM h.m) _, below_setRow h.o (Nat.le_add_right _ 1) _⟩, bsl_row hv (noOctM h.m) _⟩
theorem GM.setA {w Y : World} {s s' : St} {z : Value} {v : Ms} (h : GM w Y s z v) {sv : Value} (hv : BSl 0 Y.heap.size Y sv s'.1) :
    GM w (Y.setRow (w.heap.size + 2) [sv, .int .i64 s'.2].toArray) s' sv v := by
  obtain ⟨a, m, c, rfl⟩ := h.b.shape3
  exact ⟨h.r.rowO _ (by omega), h.m.rowO _ (by omega), h.a.row [sv, .int .i64 s'.2], bsl_row hv (noOct2 h.a) _, below_setRow h.o (Nat.le_add_right _ 2) _⟩
/-- What is told of a message that was read. -/
structure RdG (gt : Ms × Int) (raw : Ms) (e8 : St) : Prop where
  yes : e8.2 = 0 → errG raw = 0 → e8.1 = [] → gt = (raw, 0)
  no : e8.2 = 0 → (errG raw ≠ 0 ∨ e8.1 ≠ []) → gt = (noM, 16)
  bad : e8.2 ≠ 0 → gt = (noM, e8.2)
theorem rdG (s : St) : RdG (readG s) (rawG s).1 (rawG s).2 :=
  ⟨fun h1 h2 h3 => by unfold readG; rw [if_pos h1, if_pos ⟨h2, h3⟩], fun h1 h2 => by unfold readG; rw [if_pos h1, if_neg (fun k => h2.elim (fun q => q k.1) (fun q => q k.2))], fun h => by unfold readG; rw [if_neg h]⟩

set_option maxRecDepth 100000 in
set_option maxHeartbeats 8000000 in
theorem refGetMessage_1 {l : List UInt8} {gt : Ms × Int} {so e0 e8 : St} {ak : Ak} (hK : RdG gt ⟨1, ak, noB, noI, noV, 0, 0, 0, 0, emptyB⟩ e8) (hO : HOpen l so) (h0 : HNum so 1 e0) (hA : HAsk e0 ak e8) (hm : OkM ⟨1, ak, noB, noI, noV, 0, 0, 0, 0, emptyB⟩) (sv : Value) (w : World) (hsl : BSl 0 w.heap.size w sv l) :
    Calls Try.prog 9 #[sv] w (RdM gt w) := by
  have hmx : Try.prog.follows .mixedOrders = true := by kernel_rfl
  obtain ⟨HY, HN, HB⟩ := hK
  have JM : Hid (∀ W, Calls Try.prog 10 #[msv ⟨1, ak, noB, noI, noV, 0, 0, 0, 0, emptyB⟩] W fun e W' => e = .returned (.tuple #[msv (plainM ⟨1, ak, noB, noI, noV, 0, 0, 0, 0, emptyB⟩), .int .i64 (errG ⟨1, ak, noB, noI, noV, 0, 0, 0, 0, emptyB⟩)]) ∧ Below W.heap.size W W') := Lib.hid fun W => refMessage_any ⟨1, ak, noB, noI, noV, 0, 0, 0, 0, emptyB⟩ hm W
  clear hm
  have JhO := Lib.hid hO
  clear hO
  have Jh0 := Lib.hid h0
  clear h0
  have JhA := Lib.hid hA
  clear hA
  have JHY := Lib.hid HY
  clear HY
  have JHN := Lib.hid HN
  clear HN
  have JHB := Lib.hid HB
  clear HB
  obtain ⟨sa, sm, sc, rfl⟩ := hsl.shape3
  go_enter Try.func9, Try.ntmps9
  go_upto_region 3 with fail
  generalize hW0 : World.alloc _ _ = W0
  have b3 : Below w.heap.size w W0 := by rw [← hW0]; exact chainA (chainA (chain0 w (.cells (msc noM).toArray 34)) (.cells (msc noM).toArray 34)) (.cells #[.slice none 0 0, .int .i64 0] 74)
  have hsb : BSl 0 W0.heap.size W0 (.slice sa sm sc) l := (hsl.below b3 (Nat.le_refl _)).mono (Nat.le_refl _) b3.size
  have hR : GM w W0 ([], 0) (.slice none 0 0) noM := by
    rw [← hW0]
    rw [← hW0] at b3
    exact ⟨((Blk.new w 34 (msc noM)).alloc _).alloc _, (Blk.new' (vs := msc noM) (by simp)).alloc _, Blk.new' (vs := [_, _]) (by simp), ⟨none, 0, rfl, Nat.le_refl 0, .inl rfl⟩, b3⟩
  clear hW0 hsl b3
  go_upto_region 4 with (first
    | (go_at_call 35; refine (JhO.out _ _ hsb).mono ?_; rintro e WW ⟨vv, rfl, hv, hb⟩; obtain ⟨ya, ym, yc, rfl⟩ := hv.shape3; replace hR := hR.below hb; clear hb hsb)
    | (go_at_call 34; refine (Jh0.out _ _ hv).mono ?_; rintro e W2 ⟨vv, rfl, hv1, hb⟩; obtain ⟨xa, xm, xc, rfl⟩ := hv1.shape3; replace hR := hR.below hb; clear hb hv; have hv := hv1; clear hv1)
    | ((with_reducible refine wpList_store_part 3 (.tmp 14) (.tmp 12) (msc ⟨1, noA, noB, noI, noV, 0, 0, 0, 0, emptyB⟩) hR.m 0 ((.int .i64 1)) [.int .i64 1] ?_ ?_ ?_ ?_ ?_ ?_ ?_ ?_ ?_ ?_ ?_); (· rfl); (· rfl); (· rfl); (· rfl); (· rfl); (· rfl); (· kernel_rfl); (· exact Nat.le_of_ble_eq_true rfl); (· rfl); (· rfl); obtain ⟨hS, hv2⟩ := hR.setM hv ⟨1, noA, noB, noI, noV, 0, 0, 0, 0, emptyB⟩; replace hR := hS; replace hv := hv2; clear hS hv2)
    | ((with_reducible refine wpList_store_part 74 (.tmp 5) (.tmp 13) ([Value.slice xa xm xc, .int .i64 e0.2]) hR.a 0 ((.agg #[Value.slice xa xm xc, .int .i64 e0.2])) [Value.slice xa xm xc, .int .i64 e0.2] ?_ ?_ ?_ ?_ ?_ ?_ ?_ ?_ ?_ ?_ ?_); (· rfl); (· rfl); (· rfl); (· rfl); (· rfl); (· rfl); (· kernel_rfl); (· exact Nat.le_of_ble_eq_true rfl); (· rfl); (· rfl); replace hR := GM.setA (s' := e0) hR hv; clear hv))
  generalize World.setRow _ _ _ = Y at *
  clear JhO Jh0
  have c0 := (hR.m.cell 0).trans rfl
  go_upto_region 8 with fail
  clear c0
  go_upto_region 20 with (first
    | ((with_reducible refine wpList_loadIf 74 (.tmp 5) ?_ (some 24) ?_ ?_ (.agg #[.slice xa xm xc, .int .i64 e0.2]) ?_ ?_); (· rfl); (· rfl); (· rfl); (· exact load_r6 hR.a))
    | (go_at_call 36; refine (JhA.out _ _ hR.b).mono ?_; rintro e WW ⟨vv, rfl, hv, hb⟩; obtain ⟨n1a, n1m, n1c, rfl⟩ := hv.shape3; replace hR := hR.below hb; clear hb)
    | ((with_reducible refine wpList_store_part 26 (.tmp 28) (.tmp 26) (msc ⟨1, ak, noB, noI, noV, 0, 0, 0, 0, emptyB⟩) hR.m 1 ((akv ak)) (akc ak) ?_ ?_ ?_ ?_ ?_ ?_ ?_ ?_ ?_ ?_ ?_); (· rfl); (· rfl); (· rfl); (· rfl); (· rfl); (· rfl); (· kernel_rfl); (· exact Nat.le_of_ble_eq_true rfl); (· rfl); (· rfl); obtain ⟨hS, hv2⟩ := hR.setM hv ⟨1, ak, noB, noI, noV, 0, 0, 0, 0, emptyB⟩; replace hR := hS; replace hv := hv2; clear hS hv2)
    | ((with_reducible refine wpList_store_part 74 (.tmp 5) (.tmp 27) ([Value.slice n1a n1m n1c, .int .i64 e8.2]) hR.a 0 ((.agg #[Value.slice n1a n1m n1c, .int .i64 e8.2])) [Value.slice n1a n1m n1c, .int .i64 e8.2] ?_ ?_ ?_ ?_ ?_ ?_ ?_ ?_ ?_ ?_ ?_); (· rfl); (· rfl); (· rfl); (· rfl); (· rfl); (· rfl); (· kernel_rfl); (· exact Nat.le_of_ble_eq_true rfl); (· rfl); (· rfl); replace hR := GM.setA (s' := e8) hR hv; clear hv))
  generalize World.setRow _ _ _ = Y1 at *
  obtain ⟨a0, a1⟩ := Blk.c2 hR.a
  by_cases he : e8.2 = 0
  · have q4 : (e8.2 == 0) = true := by simpa using he
    have q5 : (e8.2 != 0) = false := by simpa using he
    by_cases hm : errG ⟨1, ak, noB, noI, noV, 0, 0, 0, 0, emptyB⟩ = 0
    · have HE := Lib.hid hm
      by_cases hn : e8.1 = []
      · have HX := Lib.hid (JHY.out he hm hn)
        have hz : e8.1.length = 0 := by rw [hn]; rfl
        have HZ := Lib.hid hz
        clear he hm hn hz JHY JHN JHB
        generalize plainM ⟨1, ak, noB, noI, noV, 0, 0, 0, 0, emptyB⟩ = pm at *
        go_upto_region 23 with (first
          | ((with_reducible refine wpList_loadIf 34 (.tmp 4) ?_ (some 99) ?_ ?_ (msv ⟨1, ak, noB, noI, noV, 0, 0, 0, 0, emptyB⟩) ?_ ?_); (· rfl); (· rfl); (· rfl); (· exact load_ms hR.m))
          | (go_at_call 10; refine (JM.out _).mono ?_; rw [HE.out]; rintro e W5 ⟨rfl, hb⟩; replace hR := hR.below hb; have hb5 := chain0 W5 (.cells (msc noM).toArray 34); have kN := Blk.new W5 34 (msc noM); have hNr : w.heap.size + 2 < W5.heap.size := hR.a.lt; replace hR := hR.below hb5; clear hb hb5 a0 a1)
          | ((refine wpList_store_part 34 (.tmp 6) (.tmp 101) (msc pm) kN 0 ((msv pm)) (msc pm) ?_ ?_ ?_ ?_ ?_ ?_ ?_ ?_ ?_ ?_ ?_); (· rfl); (· rfl); (· rfl); (· rfl); (· rfl); (· rfl); (· kernel_rfl); (· exact Nat.le_of_ble_eq_true rfl); (· rfl); (· rfl)))
        generalize hX : World.setRow (World.alloc W5 _) _ _ = Y9
        replace hR : GM w Y9 e8 (.slice n1a n1m n1c) ⟨1, ak, noB, noI, noV, 0, 0, 0, 0, emptyB⟩ := by
          rw [← hX]
          exact ⟨hR.r.rowO _ (by omega), hR.m.rowO _ (by omega), hR.a.rowO _ (by omega), bsl_row hR.b (noOctM kN) _, below_setRow hR.o (by omega) _⟩
        clear hX kN hNr JM
        obtain ⟨a0, a1⟩ := Blk.c2 hR.a
        have hl := hR.b.shape
        obtain ⟨ta, tc, hl, -⟩ := hl
        obtain ⟨-, hl2, -⟩ := Value.slice.inj hl
        rw [HZ.out] at hl2
        subst hl2
        clear hl HZ
        go_wp2_with (first
          | ((with_reducible refine wpList_loadIf 34 (.tmp 4) ?_ (some 112) ?_ ?_ (msv ⟨1, ak, noB, noI, noV, 0, 0, 0, 0, emptyB⟩) ?_ ?_); (· rfl); (· rfl); (· rfl); (· exact load_ms hR.m))
          | ((with_reducible refine wpList_store_part 34 (.tmp 2) (.tmp 112) (msc ⟨1, ak, noB, noI, noV, 0, 0, 0, 0, emptyB⟩) hR.r 0 ((msv ⟨1, ak, noB, noI, noV, 0, 0, 0, 0, emptyB⟩)) (msc ⟨1, ak, noB, noI, noV, 0, 0, 0, 0, emptyB⟩) ?_ ?_ ?_ ?_ ?_ ?_ ?_ ?_ ?_ ?_ ?_); (· rfl); (· rfl); (· rfl); (· rfl); (· rfl); (· rfl); (· kernel_rfl); (· exact Nat.le_of_ble_eq_true rfl); (· rfl); (· rfl); have kR := hR.r.row (msc ⟨1, ak, noB, noI, noV, 0, 0, 0, 0, emptyB⟩); have hB := below_setRow hR.o (Nat.le_refl _) (msc ⟨1, ak, noB, noI, noV, 0, 0, 0, 0, emptyB⟩).toArray))
        exact bodyPost_ret (v := retM ⟨1, ak, noB, noI, noV, 0, 0, 0, 0, emptyB⟩ 0) (by simp [results, Try.results9, asAddr, retM]; rw [load_msv kR]; rfl) rfl ⟨by rw [HX.out], hB⟩
      · have HX := Lib.hid (JHN.out he (.inr hn))
        have hz := Lib.hid (List.length_pos_iff.2 hn)
        clear he hm hn JHY JHN JHB
        generalize plainM ⟨1, ak, noB, noI, noV, 0, 0, 0, 0, emptyB⟩ = pm at *
        go_upto_region 23 with (first
          | ((with_reducible refine wpList_loadIf 34 (.tmp 4) ?_ (some 99) ?_ ?_ (msv ⟨1, ak, noB, noI, noV, 0, 0, 0, 0, emptyB⟩) ?_ ?_); (· rfl); (· rfl); (· rfl); (· exact load_ms hR.m))
          | (go_at_call 10; refine (JM.out _).mono ?_; rw [HE.out]; rintro e W5 ⟨rfl, hb⟩; replace hR := hR.below hb; have hb5 := chain0 W5 (.cells (msc noM).toArray 34); have kN := Blk.new W5 34 (msc noM); have hNr : w.heap.size + 2 < W5.heap.size := hR.a.lt; replace hR := hR.below hb5; clear hb hb5 a0 a1)
          | ((refine wpList_store_part 34 (.tmp 6) (.tmp 101) (msc pm) kN 0 ((msv pm)) (msc pm) ?_ ?_ ?_ ?_ ?_ ?_ ?_ ?_ ?_ ?_ ?_); (· rfl); (· rfl); (· rfl); (· rfl); (· rfl); (· rfl); (· kernel_rfl); (· exact Nat.le_of_ble_eq_true rfl); (· rfl); (· rfl)))
        generalize hX : World.setRow (World.alloc W5 _) _ _ = Y9
        replace hR : GM w Y9 e8 (.slice n1a n1m n1c) ⟨1, ak, noB, noI, noV, 0, 0, 0, 0, emptyB⟩ := by
          rw [← hX]
          exact ⟨hR.r.rowO _ (by omega), hR.m.rowO _ (by omega), hR.a.rowO _ (by omega), bsl_row hR.b (noOctM kN) _, below_setRow hR.o (by omega) _⟩
        clear hX kN hNr JM
        obtain ⟨a0, a1⟩ := Blk.c2 hR.a
        have hl := hR.b.shape
        obtain ⟨ta, tc, hl, -⟩ := hl
        obtain ⟨-, hl2, -⟩ := Value.slice.inj hl
        have hzz : 0 < n1m := by rw [hl2]; exact hz.out
        clear hl hl2 hz
        go_wp2_with (first
          | (refine wpList_buildTo rfl 34 _ rfl (some 111) rfl (msc noM).toArray (by kernel_rfl) ?_)
          | ((with_reducible refine wpList_store_part 34 (.tmp 2) (.tmp 111) (msc noM) hR.r 0 ((msv noM)) (msc noM) ?_ ?_ ?_ ?_ ?_ ?_ ?_ ?_ ?_ ?_ ?_); (· rfl); (· rfl); (· rfl); (· rfl); (· rfl); (· rfl); (· kernel_rfl); (· exact Nat.le_of_ble_eq_true rfl); (· rfl); (· rfl); have kR := hR.r.row (msc noM); have hB := below_setRow hR.o (Nat.le_refl _) (msc noM).toArray))
        exact bodyPost_ret (v := retM noM 16) (by simp [results, Try.results9, asAddr, retM]; rw [load_msv kR]; rfl) rfl ⟨by rw [HX.out], hB⟩
    · have HX := Lib.hid (JHN.out he (.inl hm))
      have m1 : (errG ⟨1, ak, noB, noI, noV, 0, 0, 0, 0, emptyB⟩ == 0) = false := by simpa using hm
      have m2 : (errG ⟨1, ak, noB, noI, noV, 0, 0, 0, 0, emptyB⟩ != 0) = true := by simpa using hm
      clear he hm JHY JHN JHB
      generalize plainM ⟨1, ak, noB, noI, noV, 0, 0, 0, 0, emptyB⟩ = pm at *
      go_upto_region 23 with (first
        | ((with_reducible refine wpList_loadIf 34 (.tmp 4) ?_ (some 99) ?_ ?_ (msv ⟨1, ak, noB, noI, noV, 0, 0, 0, 0, emptyB⟩) ?_ ?_); (· rfl); (· rfl); (· rfl); (· exact load_ms hR.m))
        | (go_at_call 10; refine (JM.out _).mono ?_; rintro e W5 ⟨rfl, hb⟩; replace hR := hR.below hb; have hb5 := chain0 W5 (.cells (msc noM).toArray 34); have kN := Blk.new W5 34 (msc noM); have hNr : w.heap.size + 2 < W5.heap.size := hR.a.lt; replace hR := hR.below hb5; clear hb hb5 a0 a1)
        | ((refine wpList_store_part 34 (.tmp 6) (.tmp 101) (msc pm) kN 0 ((msv pm)) (msc pm) ?_ ?_ ?_ ?_ ?_ ?_ ?_ ?_ ?_ ?_ ?_); (· rfl); (· rfl); (· rfl); (· rfl); (· rfl); (· rfl); (· kernel_rfl); (· exact Nat.le_of_ble_eq_true rfl); (· rfl); (· rfl)))
      generalize hX : World.setRow (World.alloc W5 _) _ _ = Y9
      replace hR : GM w Y9 e8 (.slice n1a n1m n1c) ⟨1, ak, noB, noI, noV, 0, 0, 0, 0, emptyB⟩ := by
        rw [← hX]
        exact ⟨hR.r.rowO _ (by omega), hR.m.rowO _ (by omega), hR.a.rowO _ (by omega), bsl_row hR.b (noOctM kN) _, below_setRow hR.o (by omega) _⟩
      clear hX kN hNr JM
      obtain ⟨a0, a1⟩ := Blk.c2 hR.a
      go_wp2_with (first
        | (refine wpList_buildTo rfl 34 _ rfl (some 111) rfl (msc noM).toArray (by kernel_rfl) ?_)
        | ((with_reducible refine wpList_store_part 34 (.tmp 2) (.tmp 111) (msc noM) hR.r 0 ((msv noM)) (msc noM) ?_ ?_ ?_ ?_ ?_ ?_ ?_ ?_ ?_ ?_ ?_); (· rfl); (· rfl); (· rfl); (· rfl); (· rfl); (· rfl); (· kernel_rfl); (· exact Nat.le_of_ble_eq_true rfl); (· rfl); (· rfl); have kR := hR.r.row (msc noM); have hB := below_setRow hR.o (Nat.le_refl _) (msc noM).toArray))
      exact bodyPost_ret (v := retM noM 16) (by simp [results, Try.results9, asAddr, retM]; rw [load_msv kR]; rfl) rfl ⟨by rw [HX.out], hB⟩
  · have HX := Lib.hid (JHB.out he)
    have q4 : (e8.2 == 0) = false := by simpa using he
    have q5 : (e8.2 != 0) = true := by simpa using he
    clear he JHY JHN JHB JM
    go_upto_region 21 with fail
    clear a0 a1
    have kR := hR.r.drew
    have hB := hR.o.drew
    have kA := hR.a
    clear hR
    refine wp_region_held_drew (S := fun W => Blk W (w.heap.size + 2) 74 [.slice n1a n1m n1c, .int .i64 e8.2]) hmx kA ?_
    intro hS
    generalize World.drew _ = YB at *
    refine' wpAnyH_take (i := 0) (oi := _) (v := msv noM) ?hi1 (by kernel_rfl) (by kernel_rfl) (by kernel_rfl) ?hQ1 (Or.inl ⟨?hw1, ?hy1⟩) hS ?rest1
    case hi1 => simp only [List.getElem?_toArray, List.getElem?_cons_zero]; rfl
    case hQ1 => exact fun _ _ _ h => h
    case hw1 => rfl
    case hy1 => exact fun W' hS' => exec_build 34 #[] rfl _ W' (by kernel_rfl)
    try simp only [Act.put, List.setIfInBounds_toArray, List.set_cons_zero, List.set_cons_succ]
    refine' wpAnyH_take (i := 1) (oi := _) (v := _) ?hi2 (by kernel_rfl) (by kernel_rfl) (by kernel_rfl) ?hQ2 (Or.inl ⟨?hw2, ?hy2⟩) hS ?rest2
    case hi2 => simp only [List.getElem?_toArray, List.getElem?_cons_succ, List.getElem?_cons_zero]; rfl
    case hQ2 => exact fun _ _ _ h => h
    case hw2 => rfl
    case hy2 => intro W' hS'; go_simp; with_reducible rfl
    try simp only [Act.put, List.setIfInBounds_toArray, List.set_cons_zero, List.set_cons_succ]
    refine' wpAnyH_take (i := 2) (oi := _) (v := _) ?hi3 (by kernel_rfl) (by kernel_rfl) (by kernel_rfl) ?hQ3 (Or.inl ⟨?hw3, ?hy3⟩) hS ?rest3
    case hi3 => simp only [List.getElem?_toArray, List.getElem?_cons_succ, List.getElem?_cons_zero]; rfl
    case hQ3 => exact fun _ _ _ h => h
    case hw3 => rfl
    case hy3 => intro W' hS'; obtain ⟨a0, a1⟩ := Blk.c2 hS'; go_simp; with_reducible rfl
    try simp only [Act.put, List.setIfInBounds_toArray, List.set_cons_zero, List.set_cons_succ]
    refine wpAnyH_ready (rs := [3]) (by kernel_rfl) (by simp) ?_
    refine' AllReadyH.cons (o := _) ?ho4 (fun K hK => ?st4) AllReadyH.nil
    case ho4 => simp only [List.getElem?_toArray, List.getElem?_cons_succ, List.getElem?_cons_zero]; rfl
    case st4 =>
      ((refine wp_store_part 34 (.tmp 2) (.tmp 95) (msc noM) kR 0 ((msv noM)) (msc noM) ?_ ?_ ?_ ?_ ?_ ?_ ?_ ?_ ?_ ?_); (· rfl); (· rfl); (· rfl); (· rfl); (· rfl); (· kernel_rfl); (· exact Nat.le_of_ble_eq_true rfl); (· rfl); (· rfl))
      refine hK.out _ _ (hS.rowO _ (by omega)) (fun hS => ?_)
      clear hK K
      try simp only [Act.put, List.setIfInBounds_toArray, List.set_cons_zero, List.set_cons_succ]
      replace kR := kR.row (msc noM)
      replace hB := below_setRow hB (Nat.le_refl _) (msc noM).toArray
      refine' wpAnyH_take (i := 4) (oi := _) (v := _) ?hi5 (by kernel_rfl) (by kernel_rfl) (by kernel_rfl) ?hQ5 (Or.inl ⟨?hw5, ?hy5⟩) hS ?rest5
      case hi5 => simp only [List.getElem?_toArray, List.getElem?_cons_succ, List.getElem?_cons_zero]; rfl
      case hQ5 => exact fun _ _ _ h => h
      case hw5 => rfl
      case hy5 => intro W' hS'; go_simp; with_reducible rfl
      try simp only [Act.put, List.setIfInBounds_toArray, List.set_cons_zero, List.set_cons_succ]
      refine wpAnyH_done (by kernel_rfl) ?_ _
      go_wp2_with fail
      exact bodyPost_ret (v := retM noM e8.2) (by simp [results, Try.results9, asAddr, retM]; rw [load_msv kR]; rfl) rfl ⟨by rw [HX.out], hB⟩
set_option maxRecDepth 100000 in
set_option maxHeartbeats 8000000 in
theorem refGetMessage_2 {l : List UInt8} {gt : Ms × Int} {so e0 e8 : St} {n0 n3 : Int} {ak : Ak} {u0 u1 u2 u3 : Nat} {g : List UInt8} {e1 e2 e3 e4 : St} (hK : RdG gt ⟨2, noA, ⟨n0, ak, u0, u1, u2, u3, n3, str g⟩, noI, noV, 0, 0, 0, 0, emptyB⟩ e8) (hO : HOpen l so) (h0 : HNum so 2 e0) (h1 : HNum e0 n0 e1) (hA : HAsk e1 ak e2) (hW : HWid e2 u0 u1 u2 u3 e3) (h3 : HNum e3 n3 e4) (hT : HTxt e4 g e8) (hm : OkM ⟨2, noA, ⟨n0, ak, u0, u1, u2, u3, n3, str g⟩, noI, noV, 0, 0, 0, 0, emptyB⟩) (sv : Value) (w : World) (hsl : BSl 0 w.heap.size w sv l) :
    Calls Try.prog 9 #[sv] w (RdM gt w) := by
  have hmx : Try.prog.follows .mixedOrders = true := by kernel_rfl
  obtain ⟨HY, HN, HB⟩ := hK
  have JM : Hid (∀ W, Calls Try.prog 10 #[msv ⟨2, noA, ⟨n0, ak, u0, u1, u2, u3, n3, str g⟩, noI, noV, 0, 0, 0, 0, emptyB⟩] W fun e W' => e = .returned (.tuple #[msv (plainM ⟨2, noA, ⟨n0, ak, u0, u1, u2, u3, n3, str g⟩, noI, noV, 0, 0, 0, 0, emptyB⟩), .int .i64 (errG ⟨2, noA, ⟨n0, ak, u0, u1, u2, u3, n3, str g⟩, noI, noV, 0, 0, 0, 0, emptyB⟩)]) ∧ Below W.heap.size W W') := Lib.hid fun W => refMessage_any ⟨2, noA, ⟨n0, ak, u0, u1, u2, u3, n3, str g⟩, noI, noV, 0, 0, 0, 0, emptyB⟩ hm W
  clear hm
  have JhO := Lib.hid hO
  clear hO
  have Jh0 := Lib.hid h0
  clear h0
  have Jh1 := Lib.hid h1
  clear h1
  have JhA := Lib.hid hA
  clear hA
  have JhW := Lib.hid hW
  clear hW
  have Jh3 := Lib.hid h3
  clear h3
  have JhT := Lib.hid hT
  clear hT
  have JHY := Lib.hid HY
  clear HY
  have JHN := Lib.hid HN
  clear HN
  have JHB := Lib.hid HB
  clear HB
  obtain ⟨sa, sm, sc, rfl⟩ := hsl.shape3
  go_enter Try.func9, Try.ntmps9
  go_upto_region 3 with fail
  generalize hW0 : World.alloc _ _ = W0
  have b3 : Below w.heap.size w W0 := by rw [← hW0]; exact chainA (chainA (chain0 w (.cells (msc noM).toArray 34)) (.cells (msc noM).toArray 34)) (.cells #[.slice none 0 0, .int .i64 0] 74)
  have hsb : BSl 0 W0.heap.size W0 (.slice sa sm sc) l := (hsl.below b3 (Nat.le_refl _)).mono (Nat.le_refl _) b3.size
  have hR : GM w W0 ([], 0) (.slice none 0 0) noM := by
    rw [← hW0]
    rw [← hW0] at b3
    exact ⟨((Blk.new w 34 (msc noM)).alloc _).alloc _, (Blk.new' (vs := msc noM) (by simp)).alloc _, Blk.new' (vs := [_, _]) (by simp), ⟨none, 0, rfl, Nat.le_refl 0, .inl rfl⟩, b3⟩
  clear hW0 hsl b3
  go_upto_region 4 with (first
    | (go_at_call 35; refine (JhO.out _ _ hsb).mono ?_; rintro e WW ⟨vv, rfl, hv, hb⟩; obtain ⟨ya, ym, yc, rfl⟩ := hv.shape3; replace hR := hR.below hb; clear hb hsb)
    | (go_at_call 34; refine (Jh0.out _ _ hv).mono ?_; rintro e W2 ⟨vv, rfl, hv1, hb⟩; obtain ⟨xa, xm, xc, rfl⟩ := hv1.shape3; replace hR := hR.below hb; clear hb hv; have hv := hv1; clear hv1)
    | ((with_reducible refine wpList_store_part 3 (.tmp 14) (.tmp 12) (msc ⟨2, noA, noB, noI, noV, 0, 0, 0, 0, emptyB⟩) hR.m 0 ((.int .i64 2)) [.int .i64 2] ?_ ?_ ?_ ?_ ?_ ?_ ?_ ?_ ?_ ?_ ?_); (· rfl); (· rfl); (· rfl); (· rfl); (· rfl); (· rfl); (· kernel_rfl); (· exact Nat.le_of_ble_eq_true rfl); (· rfl); (· rfl); obtain ⟨hS, hv2⟩ := hR.setM hv ⟨2, noA, noB, noI, noV, 0, 0, 0, 0, emptyB⟩; replace hR := hS; replace hv := hv2; clear hS hv2)
    | ((with_reducible refine wpList_store_part 74 (.tmp 5) (.tmp 13) ([Value.slice xa xm xc, .int .i64 e0.2]) hR.a 0 ((.agg #[Value.slice xa xm xc, .int .i64 e0.2])) [Value.slice xa xm xc, .int .i64 e0.2] ?_ ?_ ?_ ?_ ?_ ?_ ?_ ?_ ?_ ?_ ?_); (· rfl); (· rfl); (· rfl); (· rfl); (· rfl); (· rfl); (· kernel_rfl); (· exact Nat.le_of_ble_eq_true rfl); (· rfl); (· rfl); replace hR := GM.setA (s' := e0) hR hv; clear hv))
  generalize World.setRow _ _ _ = Y at *
  clear JhO Jh0
  have c0 := (hR.m.cell 0).trans rfl
  go_upto_region 10 with fail
  clear c0
  go_upto_region 11 with (first
    | ((with_reducible refine wpList_loadIf 74 (.tmp 5) ?_ (some 32) ?_ ?_ (.agg #[.slice xa xm xc, .int .i64 e0.2]) ?_ ?_); (· rfl); (· rfl); (· rfl); (· exact load_r6 hR.a))
    | (go_at_call 34; refine (Jh1.out _ _ hR.b).mono ?_; rintro e WW ⟨vv, rfl, hv, hb⟩; obtain ⟨n1a, n1m, n1c, rfl⟩ := hv.shape3; replace hR := hR.below hb; clear hb)
    | ((with_reducible refine wpList_store_part 3 (.tmp 37) (.tmp 34) (msc ⟨2, noA, ⟨n0, noA, 0, 0, 0, 0, 0, emptyB⟩, noI, noV, 0, 0, 0, 0, emptyB⟩) hR.m 10 ((.int .i64 n0)) [.int .i64 n0] ?_ ?_ ?_ ?_ ?_ ?_ ?_ ?_ ?_ ?_ ?_); (· rfl); (· rfl); (· rfl); (· rfl); (· rfl); (· rfl); (· kernel_rfl); (· exact Nat.le_of_ble_eq_true rfl); (· rfl); (· rfl); obtain ⟨hS, hv2⟩ := hR.setM hv ⟨2, noA, ⟨n0, noA, 0, 0, 0, 0, 0, emptyB⟩, noI, noV, 0, 0, 0, 0, emptyB⟩; replace hR := hS; replace hv := hv2; clear hS hv2)
    | ((with_reducible refine wpList_store_part 74 (.tmp 5) (.tmp 35) ([Value.slice n1a n1m n1c, .int .i64 e1.2]) hR.a 0 ((.agg #[Value.slice n1a n1m n1c, .int .i64 e1.2])) [Value.slice n1a n1m n1c, .int .i64 e1.2] ?_ ?_ ?_ ?_ ?_ ?_ ?_ ?_ ?_ ?_ ?_); (· rfl); (· rfl); (· rfl); (· rfl); (· rfl); (· rfl); (· kernel_rfl); (· exact Nat.le_of_ble_eq_true rfl); (· rfl); (· rfl); replace hR := GM.setA (s' := e1) hR hv; clear hv))
  generalize World.setRow _ _ _ = Y1 at *
  go_upto_region 12 with (first
    | ((with_reducible refine wpList_loadIf 74 (.tmp 5) ?_ (some 39) ?_ ?_ (.agg #[.slice n1a n1m n1c, .int .i64 e1.2]) ?_ ?_); (· rfl); (· rfl); (· rfl); (· exact load_r6 hR.a))
    | (go_at_call 36; refine (JhA.out _ _ hR.b).mono ?_; rintro e WW ⟨vv, rfl, hv, hb⟩; obtain ⟨n2a, n2m, n2c, rfl⟩ := hv.shape3; replace hR := hR.below hb; clear hb)
    | ((with_reducible refine wpList_store_part 26 (.tmp 44) (.tmp 41) (msc ⟨2, noA, ⟨n0, ak, 0, 0, 0, 0, 0, emptyB⟩, noI, noV, 0, 0, 0, 0, emptyB⟩) hR.m 11 ((akv ak)) (akc ak) ?_ ?_ ?_ ?_ ?_ ?_ ?_ ?_ ?_ ?_ ?_); (· rfl); (· rfl); (· rfl); (· rfl); (· rfl); (· rfl); (· kernel_rfl); (· exact Nat.le_of_ble_eq_true rfl); (· rfl); (· rfl); obtain ⟨hS, hv2⟩ := hR.setM hv ⟨2, noA, ⟨n0, ak, 0, 0, 0, 0, 0, emptyB⟩, noI, noV, 0, 0, 0, 0, emptyB⟩; replace hR := hS; replace hv := hv2; clear hS hv2)
    | ((with_reducible refine wpList_store_part 74 (.tmp 5) (.tmp 42) ([Value.slice n2a n2m n2c, .int .i64 e2.2]) hR.a 0 ((.agg #[Value.slice n2a n2m n2c, .int .i64 e2.2])) [Value.slice n2a n2m n2c, .int .i64 e2.2] ?_ ?_ ?_ ?_ ?_ ?_ ?_ ?_ ?_ ?_ ?_); (· rfl); (· rfl); (· rfl); (· rfl); (· rfl); (· rfl); (· kernel_rfl); (· exact Nat.le_of_ble_eq_true rfl); (· rfl); (· rfl); replace hR := GM.setA (s' := e2) hR hv; clear hv))
  generalize World.setRow _ _ _ = Y2 at *
  go_upto_region 13 with (first
    | ((with_reducible refine wpList_loadIf 74 (.tmp 5) ?_ (some 46) ?_ ?_ (.agg #[.slice n2a n2m n2c, .int .i64 e2.2]) ?_ ?_); (· rfl); (· rfl); (· rfl); (· exact load_r6 hR.a))
    | (go_at_call 37; refine (JhW.out _ _ hR.b).mono ?_; rintro e WW ⟨vv, rfl, hv, hb⟩; obtain ⟨n3a, n3m, n3c, rfl⟩ := hv.shape3; replace hR := hR.below hb; clear hb)
    | ((with_reducible refine wpList_store_part 24 (.tmp 51) (.tmp 48) (msc ⟨2, noA, ⟨n0, ak, u0, u1, u2, u3, 0, emptyB⟩, noI, noV, 0, 0, 0, 0, emptyB⟩) hR.m 20 ((wv u0 u1 u2 u3)) [.int .u64 (u0 : Nat), .int .u64 (u1 : Nat), .int .u64 (u2 : Nat), .int .u64 (u3 : Nat)] ?_ ?_ ?_ ?_ ?_ ?_ ?_ ?_ ?_ ?_ ?_); (· rfl); (· rfl); (· rfl); (· rfl); (· rfl); (· rfl); (· kernel_rfl); (· exact Nat.le_of_ble_eq_true rfl); (· rfl); (· rfl); obtain ⟨hS, hv2⟩ := hR.setM hv ⟨2, noA, ⟨n0, ak, u0, u1, u2, u3, 0, emptyB⟩, noI, noV, 0, 0, 0, 0, emptyB⟩; replace hR := hS; replace hv := hv2; clear hS hv2)
    | ((with_reducible refine wpList_store_part 74 (.tmp 5) (.tmp 49) ([Value.slice n3a n3m n3c, .int .i64 e3.2]) hR.a 0 ((.agg #[Value.slice n3a n3m n3c, .int .i64 e3.2])) [Value.slice n3a n3m n3c, .int .i64 e3.2] ?_ ?_ ?_ ?_ ?_ ?_ ?_ ?_ ?_ ?_ ?_); (· rfl); (· rfl); (· rfl); (· rfl); (· rfl); (· rfl); (· kernel_rfl); (· exact Nat.le_of_ble_eq_true rfl); (· rfl); (· rfl); replace hR := GM.setA (s' := e3) hR hv; clear hv))
  generalize World.setRow _ _ _ = Y3 at *
  go_upto_region 14 with (first
    | ((with_reducible refine wpList_loadIf 74 (.tmp 5) ?_ (some 53) ?_ ?_ (.agg #[.slice n3a n3m n3c, .int .i64 e3.2]) ?_ ?_); (· rfl); (· rfl); (· rfl); (· exact load_r6 hR.a))
    | (go_at_call 34; refine (Jh3.out _ _ hR.b).mono ?_; rintro e WW ⟨vv, rfl, hv, hb⟩; obtain ⟨n4a, n4m, n4c, rfl⟩ := hv.shape3; replace hR := hR.below hb; clear hb)
    | ((with_reducible refine wpList_store_part 3 (.tmp 58) (.tmp 55) (msc ⟨2, noA, ⟨n0, ak, u0, u1, u2, u3, n3, emptyB⟩, noI, noV, 0, 0, 0, 0, emptyB⟩) hR.m 24 ((.int .i64 n3)) [.int .i64 n3] ?_ ?_ ?_ ?_ ?_ ?_ ?_ ?_ ?_ ?_ ?_); (· rfl); (· rfl); (· rfl); (· rfl); (· rfl); (· rfl); (· kernel_rfl); (· exact Nat.le_of_ble_eq_true rfl); (· rfl); (· rfl); obtain ⟨hS, hv2⟩ := hR.setM hv ⟨2, noA, ⟨n0, ak, u0, u1, u2, u3, n3, emptyB⟩, noI, noV, 0, 0, 0, 0, emptyB⟩; replace hR := hS; replace hv := hv2; clear hS hv2)
    | ((with_reducible refine wpList_store_part 74 (.tmp 5) (.tmp 56) ([Value.slice n4a n4m n4c, .int .i64 e4.2]) hR.a 0 ((.agg #[Value.slice n4a n4m n4c, .int .i64 e4.2])) [Value.slice n4a n4m n4c, .int .i64 e4.2] ?_ ?_ ?_ ?_ ?_ ?_ ?_ ?_ ?_ ?_ ?_); (· rfl); (· rfl); (· rfl); (· rfl); (· rfl); (· rfl); (· kernel_rfl); (· exact Nat.le_of_ble_eq_true rfl); (· rfl); (· rfl); replace hR := GM.setA (s' := e4) hR hv; clear hv))
  generalize World.setRow _ _ _ = Y4 at *
  go_upto_region 20 with (first
    | ((with_reducible refine wpList_loadIf 74 (.tmp 5) ?_ (some 60) ?_ ?_ (.agg #[.slice n4a n4m n4c, .int .i64 e4.2]) ?_ ?_); (· rfl); (· rfl); (· rfl); (· exact load_r6 hR.a))
    | (go_at_call 38; refine (JhT.out _ _ hR.b).mono ?_; rintro e WW ⟨vv, rfl, hv, hb⟩; obtain ⟨n5a, n5m, n5c, rfl⟩ := hv.shape3; replace hR := hR.below hb; clear hb)
    | ((with_reducible refine wpList_store_part 9 (.tmp 65) (.tmp 62) (msc ⟨2, noA, ⟨n0, ak, u0, u1, u2, u3, n3, str g⟩, noI, noV, 0, 0, 0, 0, emptyB⟩) hR.m 25 ((.string ⟨g.toArray⟩)) [.string ⟨g.toArray⟩] ?_ ?_ ?_ ?_ ?_ ?_ ?_ ?_ ?_ ?_ ?_); (· rfl); (· rfl); (· rfl); (· rfl); (· rfl); (· rfl); (· kernel_rfl); (· exact Nat.le_of_ble_eq_true rfl); (· rfl); (· rfl); obtain ⟨hS, hv2⟩ := hR.setM hv ⟨2, noA, ⟨n0, ak, u0, u1, u2, u3, n3, str g⟩, noI, noV, 0, 0, 0, 0, emptyB⟩; replace hR := hS; replace hv := hv2; clear hS hv2)
    | ((with_reducible refine wpList_store_part 74 (.tmp 5) (.tmp 63) ([Value.slice n5a n5m n5c, .int .i64 e8.2]) hR.a 0 ((.agg #[Value.slice n5a n5m n5c, .int .i64 e8.2])) [Value.slice n5a n5m n5c, .int .i64 e8.2] ?_ ?_ ?_ ?_ ?_ ?_ ?_ ?_ ?_ ?_ ?_); (· rfl); (· rfl); (· rfl); (· rfl); (· rfl); (· rfl); (· kernel_rfl); (· exact Nat.le_of_ble_eq_true rfl); (· rfl); (· rfl); replace hR := GM.setA (s' := e8) hR hv; clear hv))
  generalize World.setRow _ _ _ = Y5 at *
  obtain ⟨a0, a1⟩ := Blk.c2 hR.a
  by_cases he : e8.2 = 0
  · have q4 : (e8.2 == 0) = true := by simpa using he
    have q5 : (e8.2 != 0) = false := by simpa using he
    by_cases hm : errG ⟨2, noA, ⟨n0, ak, u0, u1, u2, u3, n3, str g⟩, noI, noV, 0, 0, 0, 0, emptyB⟩ = 0
    · have HE := Lib.hid hm
      by_cases hn : e8.1 = []
      · have HX := Lib.hid (JHY.out he hm hn)
        have hz : e8.1.length = 0 := by rw [hn]; rfl
        have HZ := Lib.hid hz
        clear he hm hn hz JHY JHN JHB
        generalize plainM ⟨2, noA, ⟨n0, ak, u0, u1, u2, u3, n3, str g⟩, noI, noV, 0, 0, 0, 0, emptyB⟩ = pm at *
        go_upto_region 23 with (first
          | ((with_reducible refine wpList_loadIf 34 (.tmp 4) ?_ (some 99) ?_ ?_ (msv ⟨2, noA, ⟨n0, ak, u0, u1, u2, u3, n3, str g⟩, noI, noV, 0, 0, 0, 0, emptyB⟩) ?_ ?_); (· rfl); (· rfl); (· rfl); (· exact load_ms hR.m))
          | (go_at_call 10; refine (JM.out _).mono ?_; rw [HE.out]; rintro e W5 ⟨rfl, hb⟩; replace hR := hR.below hb; have hb5 := chain0 W5 (.cells (msc noM).toArray 34); have kN := Blk.new W5 34 (msc noM); have hNr : w.heap.size + 2 < W5.heap.size := hR.a.lt; replace hR := hR.below hb5; clear hb hb5 a0 a1)
          | ((refine wpList_store_part 34 (.tmp 6) (.tmp 101) (msc pm) kN 0 ((msv pm)) (msc pm) ?_ ?_ ?_ ?_ ?_ ?_ ?_ ?_ ?_ ?_ ?_); (· rfl); (· rfl); (· rfl); (· rfl); (· rfl); (· rfl); (· kernel_rfl); (· exact Nat.le_of_ble_eq_true rfl); (· rfl); (· rfl)))
        generalize hX : World.setRow (World.alloc W5 _) _ _ = Y9
        replace hR : GM w Y9 e8 (.slice n5a n5m n5c) ⟨2, noA, ⟨n0, ak, u0, u1, u2, u3, n3, str g⟩, noI, noV, 0, 0, 0, 0, emptyB⟩ := by
          rw [← hX]
          exact ⟨hR.r.rowO _ (by omega), hR.m.rowO _ (by omega), hR.a.rowO _ (by omega), bsl_row hR.b (noOctM kN) _, below_setRow hR.o (by omega) _⟩
        clear hX kN hNr JM
        obtain ⟨a0, a1⟩ := Blk.c2 hR.a
        have hl := hR.b.shape
        obtain ⟨ta, tc, hl, -⟩ := hl
        obtain ⟨-, hl2, -⟩ := Value.slice.inj hl
        rw [HZ.out] at hl2
        subst hl2
        clear hl HZ
        go_wp2_with (first
          | ((with_reducible refine wpList_loadIf 34 (.tmp 4) ?_ (some 112) ?_ ?_ (msv ⟨2, noA, ⟨n0, ak, u0, u1, u2, u3, n3, str g⟩, noI, noV, 0, 0, 0, 0, emptyB⟩) ?_ ?_); (· rfl); (· rfl); (· rfl); (· exact load_ms hR.m))
          | ((with_reducible refine wpList_store_part 34 (.tmp 2) (.tmp 112) (msc ⟨2, noA, ⟨n0, ak, u0, u1, u2, u3, n3, str g⟩, noI, noV, 0, 0, 0, 0, emptyB⟩) hR.r 0 ((msv ⟨2, noA, ⟨n0, ak, u0, u1, u2, u3, n3, str g⟩, noI, noV, 0, 0, 0, 0, emptyB⟩)) (msc ⟨2, noA, ⟨n0, ak, u0, u1, u2, u3, n3, str g⟩, noI, noV, 0, 0, 0, 0, emptyB⟩) ?_ ?_ ?_ ?_ ?_ ?_ ?_ ?_ ?_ ?_ ?_); (· rfl); (· rfl); (· rfl); (· rfl); (· rfl); (· rfl); (· kernel_rfl); (· exact Nat.le_of_ble_eq_true rfl); (· rfl); (· rfl); have kR := hR.r.row (msc ⟨2, noA, ⟨n0, ak, u0, u1, u2, u3, n3, str g⟩, noI, noV, 0, 0, 0, 0, emptyB⟩); have hB := below_setRow hR.o (Nat.le_refl _) (msc ⟨2, noA, ⟨n0, ak, u0, u1, u2, u3, n3, str g⟩, noI, noV, 0, 0, 0, 0, emptyB⟩).toArray))
        exact bodyPost_ret (v := retM ⟨2, noA, ⟨n0, ak, u0, u1, u2, u3, n3, str g⟩, noI, noV, 0, 0, 0, 0, emptyB⟩ 0) (by simp [results, Try.results9, asAddr, retM]; rw [load_msv kR]; rfl) rfl ⟨by rw [HX.out], hB⟩
      · have HX := Lib.hid (JHN.out he (.inr hn))
        have hz := Lib.hid (List.length_pos_iff.2 hn)
        clear he hm hn JHY JHN JHB
        generalize plainM ⟨2, noA, ⟨n0, ak, u0, u1, u2, u3, n3, str g⟩, noI, noV, 0, 0, 0, 0, emptyB⟩ = pm at *
        go_upto_region 23 with (first
          | ((with_reducible refine wpList_loadIf 34 (.tmp 4) ?_ (some 99) ?_ ?_ (msv ⟨2, noA, ⟨n0, ak, u0, u1, u2, u3, n3, str g⟩, noI, noV, 0, 0, 0, 0, emptyB⟩) ?_ ?_); (· rfl); (· rfl); (· rfl); (· exact load_ms hR.m))
          | (go_at_call 10; refine (JM.out _).mono ?_; rw [HE.out]; rintro e W5 ⟨rfl, hb⟩; replace hR := hR.below hb; have hb5 := chain0 W5 (.cells (msc noM).toArray 34); have kN := Blk.new W5 34 (msc noM); have hNr : w.heap.size + 2 < W5.heap.size := hR.a.lt; replace hR := hR.below hb5; clear hb hb5 a0 a1)
          | ((refine wpList_store_part 34 (.tmp 6) (.tmp 101) (msc pm) kN 0 ((msv pm)) (msc pm) ?_ ?_ ?_ ?_ ?_ ?_ ?_ ?_ ?_ ?_ ?_); (· rfl); (· rfl); (· rfl); (· rfl); (· rfl); (· rfl); (· kernel_rfl); (· exact Nat.le_of_ble_eq_true rfl); (· rfl); (· rfl)))
        generalize hX : World.setRow (World.alloc W5 _) _ _ = Y9
        replace hR : GM w Y9 e8 (.slice n5a n5m n5c) ⟨2, noA, ⟨n0, ak, u0, u1, u2, u3, n3, str g⟩, noI, noV, 0, 0, 0, 0, emptyB⟩ := by
          rw [← hX]
          exact ⟨hR.r.rowO _ (by omega), hR.m.rowO _ (by omega), hR.a.rowO _ (by omega), bsl_row hR.b (noOctM kN) _, below_setRow hR.o (by omega) _⟩
        clear hX kN hNr JM
        obtain ⟨a0, a1⟩ := Blk.c2 hR.a
        have hl := hR.b.shape
        obtain ⟨ta, tc, hl, -⟩ := hl
        obtain ⟨-, hl2, -⟩ := Value.slice.inj hl
        have hzz : 0 < n5m := by rw [hl2]; exact hz.out
        clear hl hl2 hz
        go_wp2_with (first
          | (refine wpList_buildTo rfl 34 _ rfl (some 111) rfl (msc noM).toArray (by kernel_rfl) ?_)
          | ((with_reducible refine wpList_store_part 34 (.tmp 2) (.tmp 111) (msc noM) hR.r 0 ((msv noM)) (msc noM) ?_ ?_ ?_ ?_ ?_ ?_ ?_ ?_ ?_ ?_ ?_); (· rfl); (· rfl); (· rfl); (· rfl); (· rfl); (· rfl); (· kernel_rfl); (· exact Nat.le_of_ble_eq_true rfl); (· rfl); (· rfl); have kR := hR.r.row (msc noM); have hB := below_setRow hR.o (Nat.le_refl _) (msc noM).toArray))
        exact bodyPost_ret (v := retM noM 16) (by simp [results, Try.results9, asAddr, retM]; rw [load_msv kR]; rfl) rfl ⟨by rw [HX.out], hB⟩
    · have HX := Lib.hid (JHN.out he (.inl hm))
      have m1 : (errG ⟨2, noA, ⟨n0, ak, u0, u1, u2, u3, n3, str g⟩, noI, noV, 0, 0, 0, 0, emptyB⟩ == 0) = false := by simpa using hm
      have m2 : (errG ⟨2, noA, ⟨n0, ak, u0, u1, u2, u3, n3, str g⟩, noI, noV, 0, 0, 0, 0, emptyB⟩ != 0) = true := by simpa using hm
      clear he hm JHY JHN JHB
      generalize plainM ⟨2, noA, ⟨n0, ak, u0, u1, u2, u3, n3, str g⟩, noI, noV, 0, 0, 0, 0, emptyB⟩ = pm at *
      go_upto_region 23 with (first
        | ((with_reducible refine wpList_loadIf 34 (.tmp 4) ?_ (some 99) ?_ ?_ (msv ⟨2, noA, ⟨n0, ak, u0, u1, u2, u3, n3, str g⟩, noI, noV, 0, 0, 0, 0, emptyB⟩) ?_ ?_); (· rfl); (· rfl); (· rfl); (· exact load_ms hR.m))
        | (go_at_call 10; refine (JM.out _).mono ?_; rintro e W5 ⟨rfl, hb⟩; replace hR := hR.below hb; have hb5 := chain0 W5 (.cells (msc noM).toArray 34); have kN := Blk.new W5 34 (msc noM); have hNr : w.heap.size + 2 < W5.heap.size := hR.a.lt; replace hR := hR.below hb5; clear hb hb5 a0 a1)
        | ((refine wpList_store_part 34 (.tmp 6) (.tmp 101) (msc pm) kN 0 ((msv pm)) (msc pm) ?_ ?_ ?_ ?_ ?_ ?_ ?_ ?_ ?_ ?_ ?_); (· rfl); (· rfl); (· rfl); (· rfl); (· rfl); (· rfl); (· kernel_rfl); (· exact Nat.le_of_ble_eq_true rfl); (· rfl); (· rfl)))
      generalize hX : World.setRow (World.alloc W5 _) _ _ = Y9
      replace hR : GM w Y9 e8 (.slice n5a n5m n5c) ⟨2, noA, ⟨n0, ak, u0, u1, u2, u3, n3, str g⟩, noI, noV, 0, 0, 0, 0, emptyB⟩ := by
        rw [← hX]
        exact ⟨hR.r.rowO _ (by omega), hR.m.rowO _ (by omega), hR.a.rowO _ (by omega), bsl_row hR.b (noOctM kN) _, below_setRow hR.o (by omega) _⟩
      clear hX kN hNr JM
      obtain ⟨a0, a1⟩ := Blk.c2 hR.a
      go_wp2_with (first
        | (refine wpList_buildTo rfl 34 _ rfl (some 111) rfl (msc noM).toArray (by kernel_rfl) ?_)
        | ((with_reducible refine wpList_store_part 34 (.tmp 2) (.tmp 111) (msc noM) hR.r 0 ((msv noM)) (msc noM) ?_ ?_ ?_ ?_ ?_ ?_ ?_ ?_ ?_ ?_ ?_); (· rfl); (· rfl); (· rfl); (· rfl); (· rfl); (· rfl); (· kernel_rfl); (· exact Nat.le_of_ble_eq_true rfl); (· rfl); (· rfl); have kR := hR.r.row (msc noM); have hB := below_setRow hR.o (Nat.le_refl _) (msc noM).toArray))
      exact bodyPost_ret (v := retM noM 16) (by simp [results, Try.results9, asAddr, retM]; rw [load_msv kR]; rfl) rfl ⟨by rw [HX.out], hB⟩
  · have HX := Lib.hid (JHB.out he)
    have q4 : (e8.2 == 0) = false := by simpa using he
    have q5 : (e8.2 != 0) = true := by simpa using he
    clear he JHY JHN JHB JM
    go_upto_region 21 with fail
    clear a0 a1
    have kR := hR.r.drew
    have hB := hR.o.drew
    have kA := hR.a
    clear hR
    refine wp_region_held_drew (S := fun W => Blk W (w.heap.size + 2) 74 [.slice n5a n5m n5c, .int .i64 e8.2]) hmx kA ?_
    intro hS
    generalize World.drew _ = YB at *
    refine' wpAnyH_take (i := 0) (oi := _) (v := msv noM) ?hi6 (by kernel_rfl) (by kernel_rfl) (by kernel_rfl) ?hQ6 (Or.inl ⟨?hw6, ?hy6⟩) hS ?rest6
    case hi6 => simp only [List.getElem?_toArray, List.getElem?_cons_zero]; rfl
    case hQ6 => exact fun _ _ _ h => h
    case hw6 => rfl
    case hy6 => exact fun W' hS' => exec_build 34 #[] rfl _ W' (by kernel_rfl)
    try simp only [Act.put, List.setIfInBounds_toArray, List.set_cons_zero, List.set_cons_succ]
    refine' wpAnyH_take (i := 1) (oi := _) (v := _) ?hi7 (by kernel_rfl) (by kernel_rfl) (by kernel_rfl) ?hQ7 (Or.inl ⟨?hw7, ?hy7⟩) hS ?rest7
    case hi7 => simp only [List.getElem?_toArray, List.getElem?_cons_succ, List.getElem?_cons_zero]; rfl
    case hQ7 => exact fun _ _ _ h => h
    case hw7 => rfl
    case hy7 => intro W' hS'; go_simp; with_reducible rfl
    try simp only [Act.put, List.setIfInBounds_toArray, List.set_cons_zero, List.set_cons_succ]
    refine' wpAnyH_take (i := 2) (oi := _) (v := _) ?hi8 (by kernel_rfl) (by kernel_rfl) (by kernel_rfl) ?hQ8 (Or.inl ⟨?hw8, ?hy8⟩) hS ?rest8
    case hi8 => simp only [List.getElem?_toArray, List.getElem?_cons_succ, List.getElem?_cons_zero]; rfl
    case hQ8 => exact fun _ _ _ h => h
    case hw8 => rfl
    case hy8 => intro W' hS'; obtain ⟨a0, a1⟩ := Blk.c2 hS'; go_simp; with_reducible rfl
    try simp only [Act.put, List.setIfInBounds_toArray, List.set_cons_zero, List.set_cons_succ]
    refine wpAnyH_ready (rs := [3]) (by kernel_rfl) (by simp) ?_
    refine' AllReadyH.cons (o := _) ?ho9 (fun K hK => ?st9) AllReadyH.nil
    case ho9 => simp only [List.getElem?_toArray, List.getElem?_cons_succ, List.getElem?_cons_zero]; rfl
    case st9 =>
      ((refine wp_store_part 34 (.tmp 2) (.tmp 95) (msc noM) kR 0 ((msv noM)) (msc noM) ?_ ?_ ?_ ?_ ?_ ?_ ?_ ?_ ?_ ?_); (· rfl); (· rfl); (· rfl); (· rfl); (· rfl); (· kernel_rfl); (· exact Nat.le_of_ble_eq_true rfl); (· rfl); (· rfl))
      refine hK.out _ _ (hS.rowO _ (by omega)) (fun hS => ?_)
      clear hK K
      try simp only [Act.put, List.setIfInBounds_toArray, List.set_cons_zero, List.set_cons_succ]
      replace kR := kR.row (msc noM)
      replace hB := below_setRow hB (Nat.le_refl _) (msc noM).toArray
      refine' wpAnyH_take (i := 4) (oi := _) (v := _) ?hi10 (by kernel_rfl) (by kernel_rfl) (by kernel_rfl) ?hQ10 (Or.inl ⟨?hw10, ?hy10⟩) hS ?rest10
      case hi10 => simp only [List.getElem?_toArray, List.getElem?_cons_succ, List.getElem?_cons_zero]; rfl
      case hQ10 => exact fun _ _ _ h => h
      case hw10 => rfl
      case hy10 => intro W' hS'; go_simp; with_reducible rfl
      try simp only [Act.put, List.setIfInBounds_toArray, List.set_cons_zero, List.set_cons_succ]
      refine wpAnyH_done (by kernel_rfl) ?_ _
      go_wp2_with fail
      exact bodyPost_ret (v := retM noM e8.2) (by simp [results, Try.results9, asAddr, retM]; rw [load_msv kR]; rfl) rfl ⟨by rw [HX.out], hB⟩
set_option maxRecDepth 100000 in
set_option maxHeartbeats 8000000 in
theorem refGetMessage_3 {l : List UInt8} {gt : Ms × Int} {so e0 e8 : St} {iv : Trf} {vr : Sid} {f0 f1 f2 f3 : Nat} {g : List UInt8} {e1 e2 e3 : St} (hK : RdG gt ⟨3, noA, noB, iv, vr, f0, f1, f2, f3, str g⟩ e8) (hO : HOpen l so) (h0 : HNum so 3 e0) (hI : HInv e0 iv e1) (hV : HVar e1 vr e2) (hW : HWid e2 f0 f1 f2 f3 e3) (hT : HTxt e3 g e8) (hm : OkM ⟨3, noA, noB, iv, vr, f0, f1, f2, f3, str g⟩) (sv : Value) (w : World) (hsl : BSl 0 w.heap.size w sv l) :
    Calls Try.prog 9 #[sv] w (RdM gt w) := by
  have hmx : Try.prog.follows .mixedOrders = true := by kernel_rfl
  obtain ⟨HY, HN, HB⟩ := hK
  have JM : Hid (∀ W, Calls Try.prog 10 #[msv ⟨3, noA, noB, iv, vr, f0, f1, f2, f3, str g⟩] W fun e W' => e = .returned (.tuple #[msv (plainM ⟨3, noA, noB, iv, vr, f0, f1, f2, f3, str g⟩), .int .i64 (errG ⟨3, noA, noB, iv, vr, f0, f1, f2, f3, str g⟩)]) ∧ Below W.heap.size W W') := Lib.hid fun W => refMessage_any ⟨3, noA, noB, iv, vr, f0, f1, f2, f3, str g⟩ hm W
  clear hm
  have JhO := Lib.hid hO
  clear hO
  have Jh0 := Lib.hid h0
  clear h0
  have JhI := Lib.hid hI
  clear hI
  have JhV := Lib.hid hV
  clear hV
  have JhW := Lib.hid hW
  clear hW
  have JhT := Lib.hid hT
  clear hT
  have JHY := Lib.hid HY
  clear HY
  have JHN := Lib.hid HN
  clear HN
  have JHB := Lib.hid HB
  clear HB
  obtain ⟨sa, sm, sc, rfl⟩ := hsl.shape3
  go_enter Try.func9, Try.ntmps9
  go_upto_region 3 with fail
  generalize hW0 : World.alloc _ _ = W0
  have b3 : Below w.heap.size w W0 := by rw [← hW0]; exact chainA (chainA (chain0 w (.cells (msc noM).toArray 34)) (.cells (msc noM).toArray 34)) (.cells #[.slice none 0 0, .int .i64 0] 74)
  have hsb : BSl 0 W0.heap.size W0 (.slice sa sm sc) l := (hsl.below b3 (Nat.le_refl _)).mono (Nat.le_refl _) b3.size
  have hR : GM w W0 ([], 0) (.slice none 0 0) noM := by
    rw [← hW0]
    rw [← hW0] at b3
    exact ⟨((Blk.new w 34 (msc noM)).alloc _).alloc _, (Blk.new' (vs := msc noM) (by simp)).alloc _, Blk.new' (vs := [_, _]) (by simp), ⟨none, 0, rfl, Nat.le_refl 0, .inl rfl⟩, b3⟩
  clear hW0 hsl b3
  go_upto_region 4 with (first
    | (go_at_call 35; refine (JhO.out _ _ hsb).mono ?_; rintro e WW ⟨vv, rfl, hv, hb⟩; obtain ⟨ya, ym, yc, rfl⟩ := hv.shape3; replace hR := hR.below hb; clear hb hsb)
    | (go_at_call 34; refine (Jh0.out _ _ hv).mono ?_; rintro e W2 ⟨vv, rfl, hv1, hb⟩; obtain ⟨xa, xm, xc, rfl⟩ := hv1.shape3; replace hR := hR.below hb; clear hb hv; have hv := hv1; clear hv1)
    | ((with_reducible refine wpList_store_part 3 (.tmp 14) (.tmp 12) (msc ⟨3, noA, noB, noI, noV, 0, 0, 0, 0, emptyB⟩) hR.m 0 ((.int .i64 3)) [.int .i64 3] ?_ ?_ ?_ ?_ ?_ ?_ ?_ ?_ ?_ ?_ ?_); (· rfl); (· rfl); (· rfl); (· rfl); (· rfl); (· rfl); (· kernel_rfl); (· exact Nat.le_of_ble_eq_true rfl); (· rfl); (· rfl); obtain ⟨hS, hv2⟩ := hR.setM hv ⟨3, noA, noB, noI, noV, 0, 0, 0, 0, emptyB⟩; replace hR := hS; replace hv := hv2; clear hS hv2)
    | ((with_reducible refine wpList_store_part 74 (.tmp 5) (.tmp 13) ([Value.slice xa xm xc, .int .i64 e0.2]) hR.a 0 ((.agg #[Value.slice xa xm xc, .int .i64 e0.2])) [Value.slice xa xm xc, .int .i64 e0.2] ?_ ?_ ?_ ?_ ?_ ?_ ?_ ?_ ?_ ?_ ?_); (· rfl); (· rfl); (· rfl); (· rfl); (· rfl); (· rfl); (· kernel_rfl); (· exact Nat.le_of_ble_eq_true rfl); (· rfl); (· rfl); replace hR := GM.setA (s' := e0) hR hv; clear hv))
  generalize World.setRow _ _ _ = Y at *
  clear JhO Jh0
  have c0 := (hR.m.cell 0).trans rfl
  go_upto_region 16 with fail
  clear c0
  go_upto_region 17 with (first
    | ((with_reducible refine wpList_loadIf 74 (.tmp 5) ?_ (some 69) ?_ ?_ (.agg #[.slice xa xm xc, .int .i64 e0.2]) ?_ ?_); (· rfl); (· rfl); (· rfl); (· exact load_r6 hR.a))
    | (go_at_call 39; refine (JhI.out _ _ hR.b).mono ?_; rintro e WW ⟨vv, rfl, hv, hb⟩; obtain ⟨n1a, n1m, n1c, rfl⟩ := hv.shape3; replace hR := hR.below hb; clear hb)
    | ((with_reducible refine wpList_store_part 30 (.tmp 73) (.tmp 71) (msc ⟨3, noA, noB, iv, noV, 0, 0, 0, 0, emptyB⟩) hR.m 26 ((ivv iv)) (ivc iv) ?_ ?_ ?_ ?_ ?_ ?_ ?_ ?_ ?_ ?_ ?_); (· rfl); (· rfl); (· rfl); (· rfl); (· rfl); (· rfl); (· kernel_rfl); (· exact Nat.le_of_ble_eq_true rfl); (· rfl); (· rfl); obtain ⟨hS, hv2⟩ := hR.setM hv ⟨3, noA, noB, iv, noV, 0, 0, 0, 0, emptyB⟩; replace hR := hS; replace hv := hv2; clear hS hv2)
    | ((with_reducible refine wpList_store_part 74 (.tmp 5) (.tmp 72) ([Value.slice n1a n1m n1c, .int .i64 e1.2]) hR.a 0 ((.agg #[Value.slice n1a n1m n1c, .int .i64 e1.2])) [Value.slice n1a n1m n1c, .int .i64 e1.2] ?_ ?_ ?_ ?_ ?_ ?_ ?_ ?_ ?_ ?_ ?_); (· rfl); (· rfl); (· rfl); (· rfl); (· rfl); (· rfl); (· kernel_rfl); (· exact Nat.le_of_ble_eq_true rfl); (· rfl); (· rfl); replace hR := GM.setA (s' := e1) hR hv; clear hv))
  generalize World.setRow _ _ _ = Y1 at *
  go_upto_region 18 with (first
    | ((with_reducible refine wpList_loadIf 74 (.tmp 5) ?_ (some 75) ?_ ?_ (.agg #[.slice n1a n1m n1c, .int .i64 e1.2]) ?_ ?_); (· rfl); (· rfl); (· rfl); (· exact load_r6 hR.a))
    | (go_at_call 40; refine (JhV.out _ _ hR.b).mono ?_; rintro e WW ⟨vv, rfl, hv, hb⟩; obtain ⟨n2a, n2m, n2c, rfl⟩ := hv.shape3; replace hR := hR.below hb; clear hb)
    | ((with_reducible refine wpList_store_part 32 (.tmp 79) (.tmp 77) (msc ⟨3, noA, noB, iv, vr, 0, 0, 0, 0, emptyB⟩) hR.m 33 ((svv vr)) (svc vr) ?_ ?_ ?_ ?_ ?_ ?_ ?_ ?_ ?_ ?_ ?_); (· rfl); (· rfl); (· rfl); (· rfl); (· rfl); (· rfl); (· kernel_rfl); (· exact Nat.le_of_ble_eq_true rfl); (· rfl); (· rfl); obtain ⟨hS, hv2⟩ := hR.setM hv ⟨3, noA, noB, iv, vr, 0, 0, 0, 0, emptyB⟩; replace hR := hS; replace hv := hv2; clear hS hv2)
    | ((with_reducible refine wpList_store_part 74 (.tmp 5) (.tmp 78) ([Value.slice n2a n2m n2c, .int .i64 e2.2]) hR.a 0 ((.agg #[Value.slice n2a n2m n2c, .int .i64 e2.2])) [Value.slice n2a n2m n2c, .int .i64 e2.2] ?_ ?_ ?_ ?_ ?_ ?_ ?_ ?_ ?_ ?_ ?_); (· rfl); (· rfl); (· rfl); (· rfl); (· rfl); (· rfl); (· kernel_rfl); (· exact Nat.le_of_ble_eq_true rfl); (· rfl); (· rfl); replace hR := GM.setA (s' := e2) hR hv; clear hv))
  generalize World.setRow _ _ _ = Y2 at *
  go_upto_region 19 with (first
    | ((with_reducible refine wpList_loadIf 74 (.tmp 5) ?_ (some 81) ?_ ?_ (.agg #[.slice n2a n2m n2c, .int .i64 e2.2]) ?_ ?_); (· rfl); (· rfl); (· rfl); (· exact load_r6 hR.a))
    | (go_at_call 37; refine (JhW.out _ _ hR.b).mono ?_; rintro e WW ⟨vv, rfl, hv, hb⟩; obtain ⟨n3a, n3m, n3c, rfl⟩ := hv.shape3; replace hR := hR.below hb; clear hb)
    | ((with_reducible refine wpList_store_part 24 (.tmp 85) (.tmp 83) (msc ⟨3, noA, noB, iv, vr, f0, f1, f2, f3, emptyB⟩) hR.m 38 ((wv f0 f1 f2 f3)) [.int .u64 (f0 : Nat), .int .u64 (f1 : Nat), .int .u64 (f2 : Nat), .int .u64 (f3 : Nat)] ?_ ?_ ?_ ?_ ?_ ?_ ?_ ?_ ?_ ?_ ?_); (· rfl); (· rfl); (· rfl); (· rfl); (· rfl); (· rfl); (· kernel_rfl); (· exact Nat.le_of_ble_eq_true rfl); (· rfl); (· rfl); obtain ⟨hS, hv2⟩ := hR.setM hv ⟨3, noA, noB, iv, vr, f0, f1, f2, f3, emptyB⟩; replace hR := hS; replace hv := hv2; clear hS hv2)
    | ((with_reducible refine wpList_store_part 74 (.tmp 5) (.tmp 84) ([Value.slice n3a n3m n3c, .int .i64 e3.2]) hR.a 0 ((.agg #[Value.slice n3a n3m n3c, .int .i64 e3.2])) [Value.slice n3a n3m n3c, .int .i64 e3.2] ?_ ?_ ?_ ?_ ?_ ?_ ?_ ?_ ?_ ?_ ?_); (· rfl); (· rfl); (· rfl); (· rfl); (· rfl); (· rfl); (· kernel_rfl); (· exact Nat.le_of_ble_eq_true rfl); (· rfl); (· rfl); replace hR := GM.setA (s' := e3) hR hv; clear hv))
  generalize World.setRow _ _ _ = Y3 at *
  go_upto_region 20 with (first
    | ((with_reducible refine wpList_loadIf 74 (.tmp 5) ?_ (some 87) ?_ ?_ (.agg #[.slice n3a n3m n3c, .int .i64 e3.2]) ?_ ?_); (· rfl); (· rfl); (· rfl); (· exact load_r6 hR.a))
    | (go_at_call 38; refine (JhT.out _ _ hR.b).mono ?_; rintro e WW ⟨vv, rfl, hv, hb⟩; obtain ⟨n4a, n4m, n4c, rfl⟩ := hv.shape3; replace hR := hR.below hb; clear hb)
    | ((with_reducible refine wpList_store_part 9 (.tmp 91) (.tmp 89) (msc ⟨3, noA, noB, iv, vr, f0, f1, f2, f3, str g⟩) hR.m 42 ((.string ⟨g.toArray⟩)) [.string ⟨g.toArray⟩] ?_ ?_ ?_ ?_ ?_ ?_ ?_ ?_ ?_ ?_ ?_); (· rfl); (· rfl); (· rfl); (· rfl); (· rfl); (· rfl); (· kernel_rfl); (· exact Nat.le_of_ble_eq_true rfl); (· rfl); (· rfl); obtain ⟨hS, hv2⟩ := hR.setM hv ⟨3, noA, noB, iv, vr, f0, f1, f2, f3, str g⟩; replace hR := hS; replace hv := hv2; clear hS hv2)
    | ((with_reducible refine wpList_store_part 74 (.tmp 5) (.tmp 90) ([Value.slice n4a n4m n4c, .int .i64 e8.2]) hR.a 0 ((.agg #[Value.slice n4a n4m n4c, .int .i64 e8.2])) [Value.slice n4a n4m n4c, .int .i64 e8.2] ?_ ?_ ?_ ?_ ?_ ?_ ?_ ?_ ?_ ?_ ?_); (· rfl); (· rfl); (· rfl); (· rfl); (· rfl); (· rfl); (· kernel_rfl); (· exact Nat.le_of_ble_eq_true rfl); (· rfl); (· rfl); replace hR := GM.setA (s' := e8) hR hv; clear hv))
  generalize World.setRow _ _ _ = Y4 at *
  obtain ⟨a0, a1⟩ := Blk.c2 hR.a
  by_cases he : e8.2 = 0
  · have q4 : (e8.2 == 0) = true := by simpa using he
    have q5 : (e8.2 != 0) = false := by simpa using he
    by_cases hm : errG ⟨3, noA, noB, iv, vr, f0, f1, f2, f3, str g⟩ = 0
    · have HE := Lib.hid hm
      by_cases hn : e8.1 = []
      · have HX := Lib.hid (JHY.out he hm hn)
        have hz : e8.1.length = 0 := by rw [hn]; rfl
        have HZ := Lib.hid hz
        clear he hm hn hz JHY JHN JHB
        generalize plainM ⟨3, noA, noB, iv, vr, f0, f1, f2, f3, str g⟩ = pm at *
        go_upto_region 23 with (first
          | ((with_reducible refine wpList_loadIf 34 (.tmp 4) ?_ (some 99) ?_ ?_ (msv ⟨3, noA, noB, iv, vr, f0, f1, f2, f3, str g⟩) ?_ ?_); (· rfl); (· rfl); (· rfl); (· exact load_ms hR.m))
          | (go_at_call 10; refine (JM.out _).mono ?_; rw [HE.out]; rintro e W5 ⟨rfl, hb⟩; replace hR := hR.below hb; have hb5 := chain0 W5 (.cells (msc noM).toArray 34); have kN := Blk.new W5 34 (msc noM); have hNr : w.heap.size + 2 < W5.heap.size := hR.a.lt; replace hR := hR.below hb5; clear hb hb5 a0 a1)
          | ((refine wpList_store_part 34 (.tmp 6) (.tmp 101) (msc pm) kN 0 ((msv pm)) (msc pm) ?_ ?_ ?_ ?_ ?_ ?_ ?_ ?_ ?_ ?_ ?_); (· rfl); (· rfl); (· rfl); (· rfl); (· rfl); (· rfl); (· kernel_rfl); (· exact Nat.le_of_ble_eq_true rfl); (· rfl); (· rfl)))
        generalize hX : World.setRow (World.alloc W5 _) _ _ = Y9
        replace hR : GM w Y9 e8 (.slice n4a n4m n4c) ⟨3, noA, noB, iv, vr, f0, f1, f2, f3, str g⟩ := by
          rw [← hX]
          exact ⟨hR.r.rowO _ (by omega), hR.m.rowO _ (by omega), hR.a.rowO _ (by omega), bsl_row hR.b (noOctM kN) _, below_setRow hR.o (by omega) _⟩
        clear hX kN hNr JM
        obtain ⟨a0, a1⟩ := Blk.c2 hR.a
        have hl := hR.b.shape
        obtain ⟨ta, tc, hl, -⟩ := hl
        obtain ⟨-, hl2, -⟩ := Value.slice.inj hl
        rw [HZ.out] at hl2
        subst hl2
        clear hl HZ
        go_wp2_with (first
          | ((with_reducible refine wpList_loadIf 34 (.tmp 4) ?_ (some 112) ?_ ?_ (msv ⟨3, noA, noB, iv, vr, f0, f1, f2, f3, str g⟩) ?_ ?_); (· rfl); (· rfl); (· rfl); (· exact load_ms hR.m))
          | ((with_reducible refine wpList_store_part 34 (.tmp 2) (.tmp 112) (msc ⟨3, noA, noB, iv, vr, f0, f1, f2, f3, str g⟩) hR.r 0 ((msv ⟨3, noA, noB, iv, vr, f0, f1, f2, f3, str g⟩)) (msc ⟨3, noA, noB, iv, vr, f0, f1, f2, f3, str g⟩) ?_ ?_ ?_ ?_ ?_ ?_ ?_ ?_ ?_ ?_ ?_); (· rfl); (· rfl); (· rfl); (· rfl); (· rfl); (· rfl); (· kernel_rfl); (· exact Nat.le_of_ble_eq_true rfl); (· rfl); (· rfl); have kR := hR.r.row (msc ⟨3, noA, noB, iv, vr, f0, f1, f2, f3, str g⟩); have hB := below_setRow hR.o (Nat.le_refl _) (msc ⟨3, noA, noB, iv, vr, f0, f1, f2, f3, str g⟩).toArray))
        exact bodyPost_ret (v := retM ⟨3, noA, noB, iv, vr, f0, f1, f2, f3, str g⟩ 0) (by simp [results, Try.results9, asAddr, retM]; rw [load_msv kR]; rfl) rfl ⟨by rw [HX.out], hB⟩
      · have HX := Lib.hid (JHN.out he (.inr hn))
        have hz := Lib.hid (List.length_pos_iff.2 hn)
        clear he hm hn JHY JHN JHB
        generalize plainM ⟨3, noA, noB, iv, vr, f0, f1, f2, f3, str g⟩ = pm at *
        go_upto_region 23 with (first
          | ((with_reducible refine wpList_loadIf 34 (.tmp 4) ?_ (some 99) ?_ ?_ (msv ⟨3, noA, noB, iv, vr, f0, f1, f2, f3, str g⟩) ?_ ?_); (· rfl); (· rfl); (· rfl); (· exact load_ms hR.m))
          | (go_at_call 10; refine (JM.out _).mono ?_; rw [HE.out]; rintro e W5 ⟨rfl, hb⟩; replace hR := hR.below hb; have hb5 := chain0 W5 (.cells (msc noM).toArray 34); have kN := Blk.new W5 34 (msc noM); have hNr : w.heap.size + 2 < W5.heap.size := hR.a.lt; replace hR := hR.below hb5; clear hb hb5 a0 a1)
          | ((refine wpList_store_part 34 (.tmp 6) (.tmp 101) (msc pm) kN 0 ((msv pm)) (msc pm) ?_ ?_ ?_ ?_ ?_ ?_ ?_ ?_ ?_ ?_ ?_); (· rfl); (· rfl); (· rfl); (· rfl); (· rfl); (· rfl); (· kernel_rfl); (· exact Nat.le_of_ble_eq_true rfl); (· rfl); (· rfl)))
        generalize hX : World.setRow (World.alloc W5 _) _ _ = Y9
        replace hR : GM w Y9 e8 (.slice n4a n4m n4c) ⟨3, noA, noB, iv, vr, f0, f1, f2, f3, str g⟩ := by
          rw [← hX]
          exact ⟨hR.r.rowO _ (by omega), hR.m.rowO _ (by omega), hR.a.rowO _ (by omega), bsl_row hR.b (noOctM kN) _, below_setRow hR.o (by omega) _⟩
        clear hX kN hNr JM
        obtain ⟨a0, a1⟩ := Blk.c2 hR.a
        have hl := hR.b.shape
        obtain ⟨ta, tc, hl, -⟩ := hl
        obtain ⟨-, hl2, -⟩ := Value.slice.inj hl
        have hzz : 0 < n4m := by rw [hl2]; exact hz.out
        clear hl hl2 hz
        go_wp2_with (first
          | (refine wpList_buildTo rfl 34 _ rfl (some 111) rfl (msc noM).toArray (by kernel_rfl) ?_)
          | ((with_reducible refine wpList_store_part 34 (.tmp 2) (.tmp 111) (msc noM) hR.r 0 ((msv noM)) (msc noM) ?_ ?_ ?_ ?_ ?_ ?_ ?_ ?_ ?_ ?_ ?_); (· rfl); (· rfl); (· rfl); (· rfl); (· rfl); (· rfl); (· kernel_rfl); (· exact Nat.le_of_ble_eq_true rfl); (· rfl); (· rfl); have kR := hR.r.row (msc noM); have hB := below_setRow hR.o (Nat.le_refl _) (msc noM).toArray))
        exact bodyPost_ret (v := retM noM 16) (by simp [results, Try.results9, asAddr, retM]; rw [load_msv kR]; rfl) rfl ⟨by rw [HX.out], hB⟩
    · have HX := Lib.hid (JHN.out he (.inl hm))
      have m1 : (errG ⟨3, noA, noB, iv, vr, f0, f1, f2, f3, str g⟩ == 0) = false := by simpa using hm
      have m2 : (errG ⟨3, noA, noB, iv, vr, f0, f1, f2, f3, str g⟩ != 0) = true := by simpa using hm
      clear he hm JHY JHN JHB
      generalize plainM ⟨3, noA, noB, iv, vr, f0, f1, f2, f3, str g⟩ = pm at *
      go_upto_region 23 with (first
        | ((with_reducible refine wpList_loadIf 34 (.tmp 4) ?_ (some 99) ?_ ?_ (msv ⟨3, noA, noB, iv, vr, f0, f1, f2, f3, str g⟩) ?_ ?_); (· rfl); (· rfl); (· rfl); (· exact load_ms hR.m))
        | (go_at_call 10; refine (JM.out _).mono ?_; rintro e W5 ⟨rfl, hb⟩; replace hR := hR.below hb; have hb5 := chain0 W5 (.cells (msc noM).toArray 34); have kN := Blk.new W5 34 (msc noM); have hNr : w.heap.size + 2 < W5.heap.size := hR.a.lt; replace hR := hR.below hb5; clear hb hb5 a0 a1)
        | ((refine wpList_store_part 34 (.tmp 6) (.tmp 101) (msc pm) kN 0 ((msv pm)) (msc pm) ?_ ?_ ?_ ?_ ?_ ?_ ?_ ?_ ?_ ?_ ?_); (· rfl); (· rfl); (· rfl); (· rfl); (· rfl); (· rfl); (· kernel_rfl); (· exact Nat.le_of_ble_eq_true rfl); (· rfl); (· rfl)))
      generalize hX : World.setRow (World.alloc W5 _) _ _ = Y9
      replace hR : GM w Y9 e8 (.slice n4a n4m n4c) ⟨3, noA, noB, iv, vr, f0, f1, f2, f3, str g⟩ := by
        rw [← hX]
        exact ⟨hR.r.rowO _ (by omega), hR.m.rowO _ (by omega), hR.a.rowO _ (by omega), bsl_row hR.b (noOctM kN) _, below_setRow hR.o (by omega) _⟩
      clear hX kN hNr JM
      obtain ⟨a0, a1⟩ := Blk.c2 hR.a
      go_wp2_with (first
        | (refine wpList_buildTo rfl 34 _ rfl (some 111) rfl (msc noM).toArray (by kernel_rfl) ?_)
        | ((with_reducible refine wpList_store_part 34 (.tmp 2) (.tmp 111) (msc noM) hR.r 0 ((msv noM)) (msc noM) ?_ ?_ ?_ ?_ ?_ ?_ ?_ ?_ ?_ ?_ ?_); (· rfl); (· rfl); (· rfl); (· rfl); (· rfl); (· rfl); (· kernel_rfl); (· exact Nat.le_of_ble_eq_true rfl); (· rfl); (· rfl); have kR := hR.r.row (msc noM); have hB := below_setRow hR.o (Nat.le_refl _) (msc noM).toArray))
      exact bodyPost_ret (v := retM noM 16) (by simp [results, Try.results9, asAddr, retM]; rw [load_msv kR]; rfl) rfl ⟨by rw [HX.out], hB⟩
  · have HX := Lib.hid (JHB.out he)
    have q4 : (e8.2 == 0) = false := by simpa using he
    have q5 : (e8.2 != 0) = true := by simpa using he
    clear he JHY JHN JHB JM
    go_upto_region 21 with fail
    clear a0 a1
    have kR := hR.r.drew
    have hB := hR.o.drew
    have kA := hR.a
    clear hR
    refine wp_region_held_drew (S := fun W => Blk W (w.heap.size + 2) 74 [.slice n4a n4m n4c, .int .i64 e8.2]) hmx kA ?_
    intro hS
    generalize World.drew _ = YB at *
    refine' wpAnyH_take (i := 0) (oi := _) (v := msv noM) ?hi11 (by kernel_rfl) (by kernel_rfl) (by kernel_rfl) ?hQ11 (Or.inl ⟨?hw11, ?hy11⟩) hS ?rest11
    case hi11 => simp only [List.getElem?_toArray, List.getElem?_cons_zero]; rfl
    case hQ11 => exact fun _ _ _ h => h
    case hw11 => rfl
    case hy11 => exact fun W' hS' => exec_build 34 #[] rfl _ W' (by kernel_rfl)
    try simp only [Act.put, List.setIfInBounds_toArray, List.set_cons_zero, List.set_cons_succ]
    refine' wpAnyH_take (i := 1) (oi := _) (v := _) ?hi12 (by kernel_rfl) (by kernel_rfl) (by kernel_rfl) ?hQ12 (Or.inl ⟨?hw12, ?hy12⟩) hS ?rest12
    case hi12 => simp only [List.getElem?_toArray, List.getElem?_cons_succ, List.getElem?_cons_zero]; rfl
    case hQ12 => exact fun _ _ _ h => h
    case hw12 => rfl
    case hy12 => intro W' hS'; go_simp; with_reducible rfl
    try simp only [Act.put, List.setIfInBounds_toArray, List.set_cons_zero, List.set_cons_succ]
    refine' wpAnyH_take (i := 2) (oi := _) (v := _) ?hi13 (by kernel_rfl) (by kernel_rfl) (by kernel_rfl) ?hQ13 (Or.inl ⟨?hw13, ?hy13⟩) hS ?rest13
    case hi13 => simp only [List.getElem?_toArray, List.getElem?_cons_succ, List.getElem?_cons_zero]; rfl
    case hQ13 => exact fun _ _ _ h => h
    case hw13 => rfl
    case hy13 => intro W' hS'; obtain ⟨a0, a1⟩ := Blk.c2 hS'; go_simp; with_reducible rfl
    try simp only [Act.put, List.setIfInBounds_toArray, List.set_cons_zero, List.set_cons_succ]
    refine wpAnyH_ready (rs := [3]) (by kernel_rfl) (by simp) ?_
    refine' AllReadyH.cons (o := _) ?ho14 (fun K hK => ?st14) AllReadyH.nil
    case ho14 => simp only [List.getElem?_toArray, List.getElem?_cons_succ, List.getElem?_cons_zero]; rfl
    case st14 =>
      ((refine wp_store_part 34 (.tmp 2) (.tmp 95) (msc noM) kR 0 ((msv noM)) (msc noM) ?_ ?_ ?_ ?_ ?_ ?_ ?_ ?_ ?_ ?_); (· rfl); (· rfl); (· rfl); (· rfl); (· rfl); (· kernel_rfl); (· exact Nat.le_of_ble_eq_true rfl); (· rfl); (· rfl))
      refine hK.out _ _ (hS.rowO _ (by omega)) (fun hS => ?_)
      clear hK K
      try simp only [Act.put, List.setIfInBounds_toArray, List.set_cons_zero, List.set_cons_succ]
      replace kR := kR.row (msc noM)
      replace hB := below_setRow hB (Nat.le_refl _) (msc noM).toArray
      refine' wpAnyH_take (i := 4) (oi := _) (v := _) ?hi15 (by kernel_rfl) (by kernel_rfl) (by kernel_rfl) ?hQ15 (Or.inl ⟨?hw15, ?hy15⟩) hS ?rest15
      case hi15 => simp only [List.getElem?_toArray, List.getElem?_cons_succ, List.getElem?_cons_zero]; rfl
      case hQ15 => exact fun _ _ _ h => h
      case hw15 => rfl
      case hy15 => intro W' hS'; go_simp; with_reducible rfl
      try simp only [Act.put, List.setIfInBounds_toArray, List.set_cons_zero, List.set_cons_succ]
      refine wpAnyH_done (by kernel_rfl) ?_ _
      go_wp2_with fail
      exact bodyPost_ret (v := retM noM e8.2) (by simp [results, Try.results9, asAddr, retM]; rw [load_msv kR]; rfl) rfl ⟨by rw [HX.out], hB⟩
set_option maxRecDepth 100000 in
set_option maxHeartbeats 8000000 in
theorem refGetMessage_0 {l : List UInt8} {gt : Ms × Int} {so e0 e8 : St} {kd : Int} (hK : RdG gt ⟨kd, noA, noB, noI, noV, 0, 0, 0, 0, emptyB⟩ e8) (hO : HOpen l so) (h0 : HNum so kd e0) (q1 : (kd == 1) = false) (q2 : (kd == 2) = false) (q3 : (kd == 3) = false) (he0 : e0 = e8) (hk : errG ⟨kd, noA, noB, noI, noV, 0, 0, 0, 0, emptyB⟩ ≠ 0) (sv : Value) (w : World) (hsl : BSl 0 w.heap.size w sv l) :
    Calls Try.prog 9 #[sv] w (RdM gt w) := by
  have hmx : Try.prog.follows .mixedOrders = true := by kernel_rfl
  obtain ⟨HY, HN, HB⟩ := hK
  subst he0
  have he8 : Hid (e0 = e0) := Lib.hid rfl
  clear he8
  have JhO := Lib.hid hO
  clear hO
  have Jh0 := Lib.hid h0
  clear h0
  have JHY := Lib.hid HY
  clear HY
  have JHN := Lib.hid HN
  clear HN
  have JHB := Lib.hid HB
  clear HB
  have Jhk := Lib.hid hk
  clear hk
  obtain ⟨sa, sm, sc, rfl⟩ := hsl.shape3
  go_enter Try.func9, Try.ntmps9
  go_upto_region 3 with fail
  generalize hW0 : World.alloc _ _ = W0
  have b3 : Below w.heap.size w W0 := by rw [← hW0]; exact chainA (chainA (chain0 w (.cells (msc noM).toArray 34)) (.cells (msc noM).toArray 34)) (.cells #[.slice none 0 0, .int .i64 0] 74)
  have hsb : BSl 0 W0.heap.size W0 (.slice sa sm sc) l := (hsl.below b3 (Nat.le_refl _)).mono (Nat.le_refl _) b3.size
  have hR : GM w W0 ([], 0) (.slice none 0 0) noM := by
    rw [← hW0]
    rw [← hW0] at b3
    exact ⟨((Blk.new w 34 (msc noM)).alloc _).alloc _, (Blk.new' (vs := msc noM) (by simp)).alloc _, Blk.new' (vs := [_, _]) (by simp), ⟨none, 0, rfl, Nat.le_refl 0, .inl rfl⟩, b3⟩
  clear hW0 hsl b3
  go_upto_region 4 with (first
    | (go_at_call 35; refine (JhO.out _ _ hsb).mono ?_; rintro e WW ⟨vv, rfl, hv, hb⟩; obtain ⟨ya, ym, yc, rfl⟩ := hv.shape3; replace hR := hR.below hb; clear hb hsb)
    | (go_at_call 34; refine (Jh0.out _ _ hv).mono ?_; rintro e W2 ⟨vv, rfl, hv1, hb⟩; obtain ⟨xa, xm, xc, rfl⟩ := hv1.shape3; replace hR := hR.below hb; clear hb hv; have hv := hv1; clear hv1)
    | ((with_reducible refine wpList_store_part 3 (.tmp 14) (.tmp 12) (msc ⟨kd, noA, noB, noI, noV, 0, 0, 0, 0, emptyB⟩) hR.m 0 ((.int .i64 kd)) [.int .i64 kd] ?_ ?_ ?_ ?_ ?_ ?_ ?_ ?_ ?_ ?_ ?_); (· rfl); (· rfl); (· rfl); (· rfl); (· rfl); (· rfl); (· kernel_rfl); (· exact Nat.le_of_ble_eq_true rfl); (· rfl); (· rfl); obtain ⟨hS, hv2⟩ := hR.setM hv ⟨kd, noA, noB, noI, noV, 0, 0, 0, 0, emptyB⟩; replace hR := hS; replace hv := hv2; clear hS hv2)
    | ((with_reducible refine wpList_store_part 74 (.tmp 5) (.tmp 13) ([Value.slice xa xm xc, .int .i64 e0.2]) hR.a 0 ((.agg #[Value.slice xa xm xc, .int .i64 e0.2])) [Value.slice xa xm xc, .int .i64 e0.2] ?_ ?_ ?_ ?_ ?_ ?_ ?_ ?_ ?_ ?_ ?_); (· rfl); (· rfl); (· rfl); (· rfl); (· rfl); (· rfl); (· kernel_rfl); (· exact Nat.le_of_ble_eq_true rfl); (· rfl); (· rfl); replace hR := GM.setA (s' := e0) hR hv; clear hv))
  generalize World.setRow _ _ _ = Y at *
  clear JhO Jh0
  have c0 := (hR.m.cell 0).trans rfl
  obtain ⟨a0, a1⟩ := Blk.c2 hR.a
  by_cases he : e0.2 = 0
  · have HX := Lib.hid (JHN.out he (.inl Jhk.out))
    have q4 : (e0.2 == 0) = true := by simpa using he
    have q5 : (e0.2 != 0) = false := by simpa using he
    clear he JHY JHN JHB
    go_wp2_with (first
      | (refine wpList_buildTo rfl 34 _ rfl (some 20) rfl (msc noM).toArray (by kernel_rfl) ?_)
      | ((with_reducible refine wpList_store_part 34 (.tmp 2) (.tmp 20) (msc noM) hR.r 0 ((msv noM)) (msc noM) ?_ ?_ ?_ ?_ ?_ ?_ ?_ ?_ ?_ ?_ ?_); (· rfl); (· rfl); (· rfl); (· rfl); (· rfl); (· rfl); (· kernel_rfl); (· exact Nat.le_of_ble_eq_true rfl); (· rfl); (· rfl); have kR := hR.r.row (msc noM); have hB := below_setRow hR.o (Nat.le_refl _) (msc noM).toArray))
    exact bodyPost_ret (v := retM noM 16) (by simp [results, Try.results9, asAddr, retM]; rw [load_msv kR]; rfl) rfl ⟨by rw [HX.out], hB⟩
  · have HX := Lib.hid (JHB.out he)
    have q4 : (e0.2 == 0) = false := by simpa using he
    have q5 : (e0.2 != 0) = true := by simpa using he
    clear he JHY JHN JHB
    go_upto_region 21 with fail
    clear a0 a1 c0
    have kR := hR.r.drew
    have hB := hR.o.drew
    have kA := hR.a
    clear hR
    refine wp_region_held_drew (S := fun W => Blk W (w.heap.size + 2) 74 [.slice xa xm xc, .int .i64 e0.2]) hmx kA ?_
    intro hS
    generalize World.drew _ = YB at *
    refine' wpAnyH_take (i := 0) (oi := _) (v := msv noM) ?hi16 (by kernel_rfl) (by kernel_rfl) (by kernel_rfl) ?hQ16 (Or.inl ⟨?hw16, ?hy16⟩) hS ?rest16
    case hi16 => simp only [List.getElem?_toArray, List.getElem?_cons_zero]; rfl
    case hQ16 => exact fun _ _ _ h => h
    case hw16 => rfl
    case hy16 => exact fun W' hS' => exec_build 34 #[] rfl _ W' (by kernel_rfl)
    try simp only [Act.put, List.setIfInBounds_toArray, List.set_cons_zero, List.set_cons_succ]
    refine' wpAnyH_take (i := 1) (oi := _) (v := _) ?hi17 (by kernel_rfl) (by kernel_rfl) (by kernel_rfl) ?hQ17 (Or.inl ⟨?hw17, ?hy17⟩) hS ?rest17
    case hi17 => simp only [List.getElem?_toArray, List.getElem?_cons_succ, List.getElem?_cons_zero]; rfl
    case hQ17 => exact fun _ _ _ h => h
    case hw17 => rfl
    case hy17 => intro W' hS'; go_simp; with_reducible rfl
    try simp only [Act.put, List.setIfInBounds_toArray, List.set_cons_zero, List.set_cons_succ]
    refine' wpAnyH_take (i := 2) (oi := _) (v := _) ?hi18 (by kernel_rfl) (by kernel_rfl) (by kernel_rfl) ?hQ18 (Or.inl ⟨?hw18, ?hy18⟩) hS ?rest18
    case hi18 => simp only [List.getElem?_toArray, List.getElem?_cons_succ, List.getElem?_cons_zero]; rfl
    case hQ18 => exact fun _ _ _ h => h
    case hw18 => rfl
    case hy18 => intro W' hS'; obtain ⟨a0, a1⟩ := Blk.c2 hS'; go_simp; with_reducible rfl
    try simp only [Act.put, List.setIfInBounds_toArray, List.set_cons_zero, List.set_cons_succ]
    refine wpAnyH_ready (rs := [3]) (by kernel_rfl) (by simp) ?_
    refine' AllReadyH.cons (o := _) ?ho19 (fun K hK => ?st19) AllReadyH.nil
    case ho19 => simp only [List.getElem?_toArray, List.getElem?_cons_succ, List.getElem?_cons_zero]; rfl
    case st19 =>
      ((refine wp_store_part 34 (.tmp 2) (.tmp 95) (msc noM) kR 0 ((msv noM)) (msc noM) ?_ ?_ ?_ ?_ ?_ ?_ ?_ ?_ ?_ ?_); (· rfl); (· rfl); (· rfl); (· rfl); (· rfl); (· kernel_rfl); (· exact Nat.le_of_ble_eq_true rfl); (· rfl); (· rfl))
      refine hK.out _ _ (hS.rowO _ (by omega)) (fun hS => ?_)
      clear hK K
      try simp only [Act.put, List.setIfInBounds_toArray, List.set_cons_zero, List.set_cons_succ]
      replace kR := kR.row (msc noM)
      replace hB := below_setRow hB (Nat.le_refl _) (msc noM).toArray
      refine' wpAnyH_take (i := 4) (oi := _) (v := _) ?hi20 (by kernel_rfl) (by kernel_rfl) (by kernel_rfl) ?hQ20 (Or.inl ⟨?hw20, ?hy20⟩) hS ?rest20
      case hi20 => simp only [List.getElem?_toArray, List.getElem?_cons_succ, List.getElem?_cons_zero]; rfl
      case hQ20 => exact fun _ _ _ h => h
      case hw20 => rfl
      case hy20 => intro W' hS'; go_simp; with_reducible rfl
      try simp only [Act.put, List.setIfInBounds_toArray, List.set_cons_zero, List.set_cons_succ]
      refine wpAnyH_done (by kernel_rfl) ?_ _
      go_wp2_with fail
      exact bodyPost_ret (v := retM noM e0.2) (by simp [results, Try.results9, asAddr, retM]; rw [load_msv kR]; rfl) rfl ⟨by rw [HX.out], hB⟩
theorem refGetMessage_any (l : List UInt8) (sv : Value) (w : World) (hsl : BSl 0 w.heap.size w sv l) :
    Calls Try.prog 9 #[sv] w (RdM (readG (openS l)) w) := by
  have hK := rdG (openS l)
  have hm := okM_raw (openS l)
  have h0 : HNum (openS l) (kdG (openS l)) (gd0 (openS l)).2 := hNum _
  by_cases k1 : kdG (openS l) = 1
  · rw [rawG_1 k1] at hK hm
    rw [k1] at h0
    exact refGetMessage_1 hK (hOpen l) h0 (hAsk _) hm sv w hsl
  · by_cases k2 : kdG (openS l) = 2
    · rw [rawG_2 k2] at hK hm
      rw [k2] at h0
      exact refGetMessage_2 hK (hOpen l) h0 (hNum _) (hAsk _) (hWid _) (hNum _) (hTxt _) hm sv w hsl
    · by_cases k3 : kdG (openS l) = 3
      · rw [rawG_3 k3] at hK hm
        rw [k3] at h0
        exact refGetMessage_3 hK (hOpen l) h0 (hInv _) (hVar _) (hWid _) (hTxt _) hm sv w hsl
      · rw [rawG_0 k1 k2 k3] at hK hm
        exact refGetMessage_0 hK (hOpen l) h0 (by simpa using k1) (by simpa using k2) (by simpa using k3) rfl (by
          have e : errG { noM with kd := kdG (openS l) } = 12 := (if_neg k1).trans ((if_neg k2).trans (if_neg k3))
          intro h
          exact absurd (e.symm.trans h) (by decide)) sv w hsl
end Go.Proofs.Ytigdenlnnnfjlaa
