/-
  A transaction, read by the reference.
-/
import Derived.Test.YtafcngnophlhgaaK10
namespace Go.Proofs.Ytafcngnophlhgaa
open Go.RowKit Go.Shelf

theorem RW.setL {T : TypeId} {vp : List Value} {w Y : World} {s : St} {z : Value} {vs : List Value} (h : RW T vp w Y s z vs) {sv : Value} {l : List UInt8} (hv : BSl 0 Y.heap.size Y sv l) (ws : List Value) (hn : ∀ u ∈ ws, ∀ y, u ≠ bv y) :
    RW T vp w (Y.setRow (w.heap.size + 3) ws.toArray) s z ws ∧ BSl 0 (Y.setRow (w.heap.size + 3) ws.toArray).heap.size (Y.setRow (w.heap.size + 3) ws.toArray) sv l :=
  ⟨⟨h.a.rowO _ (by omega), h.p.rowO _ (by omega), h.q.rowO _ (by omega), h.l.row ws, bsl_row h.b (noOct_blk h.l h.n) _, hn, below_setRow h.w (Nat.le_add_right _ 3) _⟩, bsl_row hv (noOct_blk h.l h.n) _⟩
theorem RW.setA {T : TypeId} {vp : List Value} {w Y : World} {s s' : St} {z : Value} {vs : List Value} (h : RW T vp w Y s z vs) {sv : Value} (hv : BSl 0 Y.heap.size Y sv s'.1) :
    RW T vp w (Y.setRow w.heap.size [sv, .int .i64 s'.2].toArray) s' sv vs := by
  obtain ⟨a, m, c, rfl⟩ := h.b.shape3
  exact ⟨h.a.row [sv, .int .i64 s'.2], h.p.rowO _ (by omega), h.q.rowO _ (by omega), h.l.rowO _ (by omega), bsl_row hv (noOct2 h.a) _, h.n, below_setRow h.w (Nat.le_refl _) _⟩
/-- What is read, and what is left. -/
def retG (t : Tr) (z : Value) (n : Int) : Value := .tuple #[txv t, .agg #[z, .int .i64 n]]
def GetTR (r : Tr × St) (w : World) (e : Ending) (W' : World) : Prop :=
  ∃ sv, e = .returned (retG r.1 sv r.2.2) ∧ BSl 0 W'.heap.size W' sv r.2.1 ∧ Below w.heap.size w W'
theorem load_rv {W : World} {B : Nat} {z : Value} {n : Int} (h : Blk W B 45 [z, .int .i64 n]) : (loadVar 45 ⟨B, 0, none⟩).run Try.prog W = .ok (.agg #[z, .int .i64 n]) W := by
  simpa only [Instr.loadAt, Instr.sureAddr, Sem.run_bind, Sem.run_pure, Result.andThen_ok] using load_part h 0 [z, .int .i64 n] rfl 45 _ Try.underlying45 rfl (by kernel_rfl)
/-- GetNum, and its like, with the numbers under names. -/
def HNum (s : St) (n : Int) (e : St) : Prop := ∀ W v, BSl 0 W.heap.size W v s.1 → Calls Try.prog 37 #[.agg #[v, .int .i64 s.2], .int .i64 1099511627776] W fun x W' => ∃ sv, x = .returned (.tuple #[.int .i64 n, .agg #[sv, .int .i64 e.2]]) ∧ BSl 0 W'.heap.size W' sv e.1 ∧ Below W.heap.size W W'
def HWid (s : St) (u0 u1 u2 u3 : Nat) (e : St) : Prop := ∀ W v, BSl 0 W.heap.size W v s.1 → Calls Try.prog 38 #[.agg #[v, .int .i64 s.2]] W fun x W' => ∃ sv, x = .returned (.tuple #[wv u0 u1 u2 u3, .agg #[sv, .int .i64 e.2]]) ∧ BSl 0 W'.heap.size W' sv e.1 ∧ Below W.heap.size W W'
def HTxt (s : St) (g : List UInt8) (e : St) : Prop := ∀ W v, BSl 0 W.heap.size W v s.1 → Calls Try.prog 41 #[.agg #[v, .int .i64 s.2], .int .i64 1024] W fun x W' => ∃ sv, x = .returned (.tuple #[.string ⟨g.toArray⟩, .agg #[sv, .int .i64 e.2]]) ∧ BSl 0 W'.heap.size W' sv e.1 ∧ Below W.heap.size W W'
def HInv (s : St) (i : Trf) (e : St) : Prop := ∀ W v, BSl 0 W.heap.size W v s.1 → Calls Try.prog 39 #[.agg #[v, .int .i64 s.2]] W fun x W' => ∃ sv, x = .returned (.tuple #[ivv i, .agg #[sv, .int .i64 e.2]]) ∧ BSl 0 W'.heap.size W' sv e.1 ∧ Below W.heap.size W W'
def HVar (s : St) (i : Sid) (e : St) : Prop := ∀ W v, BSl 0 W.heap.size W v s.1 → Calls Try.prog 40 #[.agg #[v, .int .i64 s.2]] W fun x W' => ∃ sv, x = .returned (.tuple #[svv i, .agg #[sv, .int .i64 e.2]]) ∧ BSl 0 W'.heap.size W' sv e.1 ∧ Below W.heap.size W W'
theorem hNum (s : St) : HNum s ((mostS s 6 big).1 : Nat) (mostS s 6 big).2 := fun W v h => refGetNumP_any v 1099511627776 1099511627776 (Or.inr ⟨by omega, rfl⟩) W h
theorem hWid (s : St) : HWid s (wdS (takeS s 32).1 0) (wdS (takeS s 32).1 1) (wdS (takeS s 32).1 2) (wdS (takeS s 32).1 3) (takeS s 32).2 := fun W v h => refGetWide_any v W h
theorem hTxt (s : St) : HTxt s (gtxtS s 1024).1 (gtxtS s 1024).2 := fun W v h => refGetTextP_any v 1024 1024 (Or.inr ⟨by omega, rfl⟩) W h
theorem hInv (s : St) : HInv s (getI s).1 (getI s).2 := fun W v h => refGetInv_any v W h
theorem hVar (s : St) : HVar s (getV s).1 (getV s).2 := fun W v h => refGetVar_any v W h
/-- What is known of a transaction that is read: its beginning; what comes by its kind; what is told. -/
structure RdK (s : St) (gt : Tr × St) (e0 e1 e2 e3 e4 e8 : St) (kd n1 n2 n3 : Int) (u0 u1 u2 u3 : Nat) (raw : Tr) : Prop where
  h0 : HNum s kd e0
  h1 : HNum e0 n1 e1
  h2 : HNum e1 n2 e2
  h3 : HNum e2 n3 e3
  h4 : HWid e3 u0 u1 u2 u3 e4
  yes : e8.2 = 0 → errT raw = 0 → gt = (raw, e8)
  no : errT raw ≠ 0 → gt = (noT, errS e8 16)
  bad : e8.2 ≠ 0 → gt = (noT, errS e8 16)
theorem rdK (s : St) : RdK s (getT s) (td0 s).2 (td1 s).2 (td2 s).2 (td3 s).2 (td4 s).2 (td8 s).2 (kdT s) ((td1 s).1 : Nat) ((td2 s).1 : Nat) ((td3 s).1 : Nat) (wdS (td4 s).1 0) (wdS (td4 s).1 1) (wdS (td4 s).1 2) (wdS (td4 s).1 3) (rawT s) :=
  ⟨hNum _, hNum _, hNum _, hNum _, hWid _, getT_yes, getT_no, fun h => by unfold getT; rw [if_neg fun e => h e.1]⟩

set_option maxRecDepth 100000 in
set_option maxHeartbeats 8000000 in
theorem refGetTx_1 {s : St} {gt : Tr × St} {e0 e1 e2 e3 e4 e8 : St} {kd n1 n2 n3 : Int} {u0 u1 u2 u3 : Nat} {n : Int} (hK : RdK s gt e0 e1 e2 e3 e4 e8 kd n1 n2 n3 u0 u1 u2 u3 ⟨n1, n2, kd, n3, u0, u1, u2, u3, ⟨0, ⟨#[]⟩, 0, 0, 0, n, ⟨#[]⟩⟩, noV, 0, 0, 0, 0, emptyB⟩) (q1 : (kd == 1) = true) (q2 : (kd == 2) = false) (q5 : (kd == 5) = false) (q6 : (kd == 6) = false) (l4 : ¬ 4 ≤ kd) (hn : HNum e4 n e8) (sv : Value) (w : World) (hsl : BSl 0 w.heap.size w sv s.1) :
    Calls Try.prog 15 #[.agg #[sv, .int .i64 s.2]] w (GetTR gt w) := by
  have hmx : Try.prog.follows .mixedOrders = true := by kernel_rfl
  obtain ⟨h0, h1, h2, h3, h4, HY, HN, HB⟩ := hK
  have Jh0 := Lib.hid h0
  clear h0
  have Jh1 := Lib.hid h1
  clear h1
  have Jh2 := Lib.hid h2
  clear h2
  have Jh3 := Lib.hid h3
  clear h3
  have Jh4 := Lib.hid h4
  clear h4
  have JHY := Lib.hid HY
  clear HY
  have JHN := Lib.hid HN
  clear HN
  have JHB := Lib.hid HB
  clear HB
  have Jhn := Lib.hid hn
  clear hn
  obtain ⟨a, m, c, rfl⟩ := hsl.shape3
  go_enter Try.func15, Try.ntmps15
  go_upto_region 2 with fail
  generalize hW0 : World.alloc _ _ = W0
  have hR : RW 30 (txc noT) w W0 s (.slice a m c) (txc noT) := by
    have b3 := chainA (chainA (chainA (chain0 w (.cells #[.slice a m c, .int .i64 s.2] 45)) (.cells (txc noT).toArray 30)) (.cells #[.slice none 0 0, .int .i64 0] 45)) (.cells (txc noT).toArray 30)
    rw [← hW0]
    exact ⟨(((Blk.new w _ [_, _]).alloc _).alloc _).alloc _, ((Blk.new' (vs := txc noT) (by simp)).alloc _).alloc _, (Blk.new' (vs := [_, _]) (by simp)).alloc _, Blk.new' (vs := txc noT) (by simp), (hsl.below b3 (Nat.le_refl _)).mono (Nat.le_refl _) b3.size, noOct_t noT, b3⟩
  clear hW0 hsl
  obtain ⟨a0, a1⟩ := Blk.c2 hR.a
  go_upto_region 3 with (first
    | (go_at_call 37; refine (Jh0.out _ _ hR.b).mono ?_; rintro e WW ⟨vv, rfl, hv, hb⟩; obtain ⟨va, vm, vc, rfl⟩ := hv.shape3; (try clear c2); replace hR := hR.below hb; clear a0 a1 hb)
    | ((with_reducible refine wpList_store_part 3 (.tmp 10) (.tmp 8) (txc ⟨0, 0, kd, 0, 0, 0, 0, 0, noI, noV, 0, 0, 0, 0, emptyB⟩) hR.l 2 (.int .i64 kd) [.int .i64 kd] ?_ ?_ ?_ ?_ ?_ ?_ ?_ ?_ ?_ ?_ ?_); (· rfl); (· rfl); (· rfl); (· rfl); (· rfl); (· rfl); (· kernel_rfl); (· exact Nat.le_of_ble_eq_true rfl); (· rfl); (· rfl); obtain ⟨hS, hv2⟩ := hR.setL hv (txc ⟨0, 0, kd, 0, 0, 0, 0, 0, noI, noV, 0, 0, 0, 0, emptyB⟩) (noOct_t _); replace hR := hS; replace hv := hv2; clear hS hv2)
    | ((with_reducible refine wpList_store_part 45 (.tmp 1) (.tmp 9) [Value.slice va vm vc, .int .i64 e0.2] hR.a 0 (.agg #[Value.slice va vm vc, .int .i64 e0.2]) [Value.slice va vm vc, .int .i64 e0.2] ?_ ?_ ?_ ?_ ?_ ?_ ?_ ?_ ?_ ?_ ?_); (· rfl); (· rfl); (· rfl); (· rfl); (· rfl); (· rfl); (· kernel_rfl); (· exact Nat.le_of_ble_eq_true rfl); (· rfl); (· rfl); replace hR := RW.setA (s' := e0) hR hv; clear hv; obtain ⟨a0, a1⟩ := Blk.c2 hR.a; have c2 := (hR.l.cell 2).trans rfl))
  clear Jh0
  go_upto_region 4 with (first
    | (go_at_call 37; refine (Jh1.out _ _ hR.b).mono ?_; rintro e WW ⟨vv, rfl, hv, hb⟩; obtain ⟨va, vm, vc, rfl⟩ := hv.shape3; (try clear c2); replace hR := hR.below hb; clear a0 a1 hb)
    | ((with_reducible refine wpList_store_part 3 (.tmp 16) (.tmp 14) (txc ⟨n1, 0, kd, 0, 0, 0, 0, 0, noI, noV, 0, 0, 0, 0, emptyB⟩) hR.l 0 (.int .i64 n1) [.int .i64 n1] ?_ ?_ ?_ ?_ ?_ ?_ ?_ ?_ ?_ ?_ ?_); (· rfl); (· rfl); (· rfl); (· rfl); (· rfl); (· rfl); (· kernel_rfl); (· exact Nat.le_of_ble_eq_true rfl); (· rfl); (· rfl); obtain ⟨hS, hv2⟩ := hR.setL hv (txc ⟨n1, 0, kd, 0, 0, 0, 0, 0, noI, noV, 0, 0, 0, 0, emptyB⟩) (noOct_t _); replace hR := hS; replace hv := hv2; clear hS hv2)
    | ((with_reducible refine wpList_store_part 45 (.tmp 1) (.tmp 15) [Value.slice va vm vc, .int .i64 e1.2] hR.a 0 (.agg #[Value.slice va vm vc, .int .i64 e1.2]) [Value.slice va vm vc, .int .i64 e1.2] ?_ ?_ ?_ ?_ ?_ ?_ ?_ ?_ ?_ ?_ ?_); (· rfl); (· rfl); (· rfl); (· rfl); (· rfl); (· rfl); (· kernel_rfl); (· exact Nat.le_of_ble_eq_true rfl); (· rfl); (· rfl); replace hR := RW.setA (s' := e1) hR hv; clear hv; obtain ⟨a0, a1⟩ := Blk.c2 hR.a; have c2 := (hR.l.cell 2).trans rfl))
  clear Jh1
  go_upto_region 5 with (first
    | (go_at_call 37; refine (Jh2.out _ _ hR.b).mono ?_; rintro e WW ⟨vv, rfl, hv, hb⟩; obtain ⟨va, vm, vc, rfl⟩ := hv.shape3; (try clear c2); replace hR := hR.below hb; clear a0 a1 hb)
    | ((with_reducible refine wpList_store_part 3 (.tmp 22) (.tmp 20) (txc ⟨n1, n2, kd, 0, 0, 0, 0, 0, noI, noV, 0, 0, 0, 0, emptyB⟩) hR.l 1 (.int .i64 n2) [.int .i64 n2] ?_ ?_ ?_ ?_ ?_ ?_ ?_ ?_ ?_ ?_ ?_); (· rfl); (· rfl); (· rfl); (· rfl); (· rfl); (· rfl); (· kernel_rfl); (· exact Nat.le_of_ble_eq_true rfl); (· rfl); (· rfl); obtain ⟨hS, hv2⟩ := hR.setL hv (txc ⟨n1, n2, kd, 0, 0, 0, 0, 0, noI, noV, 0, 0, 0, 0, emptyB⟩) (noOct_t _); replace hR := hS; replace hv := hv2; clear hS hv2)
    | ((with_reducible refine wpList_store_part 45 (.tmp 1) (.tmp 21) [Value.slice va vm vc, .int .i64 e2.2] hR.a 0 (.agg #[Value.slice va vm vc, .int .i64 e2.2]) [Value.slice va vm vc, .int .i64 e2.2] ?_ ?_ ?_ ?_ ?_ ?_ ?_ ?_ ?_ ?_ ?_); (· rfl); (· rfl); (· rfl); (· rfl); (· rfl); (· rfl); (· kernel_rfl); (· exact Nat.le_of_ble_eq_true rfl); (· rfl); (· rfl); replace hR := RW.setA (s' := e2) hR hv; clear hv; obtain ⟨a0, a1⟩ := Blk.c2 hR.a; have c2 := (hR.l.cell 2).trans rfl))
  clear Jh2
  go_upto_region 6 with (first
    | (go_at_call 37; refine (Jh3.out _ _ hR.b).mono ?_; rintro e WW ⟨vv, rfl, hv, hb⟩; obtain ⟨va, vm, vc, rfl⟩ := hv.shape3; (try clear c2); replace hR := hR.below hb; clear a0 a1 hb)
    | ((with_reducible refine wpList_store_part 3 (.tmp 28) (.tmp 26) (txc ⟨n1, n2, kd, n3, 0, 0, 0, 0, noI, noV, 0, 0, 0, 0, emptyB⟩) hR.l 3 (.int .i64 n3) [.int .i64 n3] ?_ ?_ ?_ ?_ ?_ ?_ ?_ ?_ ?_ ?_ ?_); (· rfl); (· rfl); (· rfl); (· rfl); (· rfl); (· rfl); (· kernel_rfl); (· exact Nat.le_of_ble_eq_true rfl); (· rfl); (· rfl); obtain ⟨hS, hv2⟩ := hR.setL hv (txc ⟨n1, n2, kd, n3, 0, 0, 0, 0, noI, noV, 0, 0, 0, 0, emptyB⟩) (noOct_t _); replace hR := hS; replace hv := hv2; clear hS hv2)
    | ((with_reducible refine wpList_store_part 45 (.tmp 1) (.tmp 27) [Value.slice va vm vc, .int .i64 e3.2] hR.a 0 (.agg #[Value.slice va vm vc, .int .i64 e3.2]) [Value.slice va vm vc, .int .i64 e3.2] ?_ ?_ ?_ ?_ ?_ ?_ ?_ ?_ ?_ ?_ ?_); (· rfl); (· rfl); (· rfl); (· rfl); (· rfl); (· rfl); (· kernel_rfl); (· exact Nat.le_of_ble_eq_true rfl); (· rfl); (· rfl); replace hR := RW.setA (s' := e3) hR hv; clear hv; obtain ⟨a0, a1⟩ := Blk.c2 hR.a; have c2 := (hR.l.cell 2).trans rfl))
  clear Jh3
  go_upto_region 7 with (first
    | (go_at_call 38; refine (Jh4.out _ _ hR.b).mono ?_; rintro e WW ⟨vv, rfl, hv, hb⟩; obtain ⟨va, vm, vc, rfl⟩ := hv.shape3; (try clear c2); replace hR := hR.below hb; clear a0 a1 hb)
    | ((with_reducible refine wpList_store_part 24 (.tmp 34) (.tmp 32) (txc ⟨n1, n2, kd, n3, u0, u1, u2, u3, noI, noV, 0, 0, 0, 0, emptyB⟩) hR.l 4 (wv u0 u1 u2 u3) [.int .u64 (u0 : Nat), .int .u64 (u1 : Nat), .int .u64 (u2 : Nat), .int .u64 (u3 : Nat)] ?_ ?_ ?_ ?_ ?_ ?_ ?_ ?_ ?_ ?_ ?_); (· rfl); (· rfl); (· rfl); (· rfl); (· rfl); (· rfl); (· kernel_rfl); (· exact Nat.le_of_ble_eq_true rfl); (· rfl); (· rfl); obtain ⟨hS, hv2⟩ := hR.setL hv (txc ⟨n1, n2, kd, n3, u0, u1, u2, u3, noI, noV, 0, 0, 0, 0, emptyB⟩) (noOct_t _); replace hR := hS; replace hv := hv2; clear hS hv2)
    | ((with_reducible refine wpList_store_part 45 (.tmp 1) (.tmp 33) [Value.slice va vm vc, .int .i64 e4.2] hR.a 0 (.agg #[Value.slice va vm vc, .int .i64 e4.2]) [Value.slice va vm vc, .int .i64 e4.2] ?_ ?_ ?_ ?_ ?_ ?_ ?_ ?_ ?_ ?_ ?_); (· rfl); (· rfl); (· rfl); (· rfl); (· rfl); (· rfl); (· kernel_rfl); (· exact Nat.le_of_ble_eq_true rfl); (· rfl); (· rfl); replace hR := RW.setA (s' := e4) hR hv; clear hv; obtain ⟨a0, a1⟩ := Blk.c2 hR.a; have c2 := (hR.l.cell 2).trans rfl))
  clear Jh4
  go_upto_region 17 with (first
    | (go_at_call 37; refine (Jhn.out _ _ hR.b).mono ?_; rintro e WW ⟨vv, rfl, hv, hb⟩; obtain ⟨va, vm, vc, rfl⟩ := hv.shape3; (try clear c2); replace hR := hR.below hb; clear a0 a1 hb)
    | ((with_reducible refine wpList_store_part 3 (.tmp 44) (.tmp 41) (txc ⟨n1, n2, kd, n3, u0, u1, u2, u3, ⟨0, ⟨#[]⟩, 0, 0, 0, n, ⟨#[]⟩⟩, noV, 0, 0, 0, 0, emptyB⟩) hR.l 13 (.int .i64 n) [.int .i64 n] ?_ ?_ ?_ ?_ ?_ ?_ ?_ ?_ ?_ ?_ ?_); (· rfl); (· rfl); (· rfl); (· rfl); (· rfl); (· rfl); (· kernel_rfl); (· exact Nat.le_of_ble_eq_true rfl); (· rfl); (· rfl); obtain ⟨hS, hv2⟩ := hR.setL hv (txc ⟨n1, n2, kd, n3, u0, u1, u2, u3, ⟨0, ⟨#[]⟩, 0, 0, 0, n, ⟨#[]⟩⟩, noV, 0, 0, 0, 0, emptyB⟩) (noOct_t _); replace hR := hS; replace hv := hv2; clear hS hv2)
    | ((with_reducible refine wpList_store_part 45 (.tmp 1) (.tmp 42) [Value.slice va vm vc, .int .i64 e8.2] hR.a 0 (.agg #[Value.slice va vm vc, .int .i64 e8.2]) [Value.slice va vm vc, .int .i64 e8.2] ?_ ?_ ?_ ?_ ?_ ?_ ?_ ?_ ?_ ?_ ?_); (· rfl); (· rfl); (· rfl); (· rfl); (· rfl); (· rfl); (· kernel_rfl); (· exact Nat.le_of_ble_eq_true rfl); (· rfl); (· rfl); replace hR := RW.setA (s' := e8) hR hv; clear hv; obtain ⟨a0, a1⟩ := Blk.c2 hR.a; have c2 := (hR.l.cell 2).trans rfl))
  clear Jhn
  have HC := Lib.hid (refTx_any ⟨n1, n2, kd, n3, u0, u1, u2, u3, ⟨0, ⟨#[]⟩, 0, 0, 0, n, ⟨#[]⟩⟩, noV, 0, 0, 0, 0, emptyB⟩)
  clear c2
  by_cases he : e8.2 = 0
  · have hq1 : (e8.2 == 0) = true := by simpa using he
    have hq2 : (e8.2 != 0) = false := by simpa using he
    by_cases hm : errT ⟨n1, n2, kd, n3, u0, u1, u2, u3, ⟨0, ⟨#[]⟩, 0, 0, 0, n, ⟨#[]⟩⟩, noV, 0, 0, 0, 0, emptyB⟩ = 0
    · have HE := Lib.hid hm
      have HX : Hid (gt = (⟨n1, n2, kd, n3, u0, u1, u2, u3, ⟨0, ⟨#[]⟩, 0, 0, 0, n, ⟨#[]⟩⟩, noV, 0, 0, 0, 0, emptyB⟩, e8)) := Lib.hid (JHY.out he hm)
      clear he hm JHY JHN JHB
      go_upto_region 19 with (first
        | ((with_reducible refine wpList_loadIf 30 (.tmp 4) ?_ (some 99) ?_ ?_ (txv ⟨n1, n2, kd, n3, u0, u1, u2, u3, ⟨0, ⟨#[]⟩, 0, 0, 0, n, ⟨#[]⟩⟩, noV, 0, 0, 0, 0, emptyB⟩) ?_ ?_); (· rfl); (· rfl); (· rfl); (· exact load_tx hR.l))
        | (go_at_call 8; refine (HC.out _).mono ?_; rw [HE.out]; rintro e V0 ⟨rfl, hb⟩; replace hR := hR.below hb; clear a0 a1; obtain ⟨a0, a1⟩ := Blk.c2 hR.a))
      have kP := hR.p
      have kQ := hR.q
      have hv := hR.b
      have hB := hR.w.drew
      have kL := hR.l
      have kA := hR.a
      clear hR a0 a1 HC HE hq1 hq2
      refine wp_region_held_drew (S := fun W => Blk W (w.heap.size + 3) 30 (txc ⟨n1, n2, kd, n3, u0, u1, u2, u3, ⟨0, ⟨#[]⟩, 0, 0, 0, n, ⟨#[]⟩⟩, noV, 0, 0, 0, 0, emptyB⟩) ∧ Blk W w.heap.size 45 [.slice va vm vc, .int .i64 e8.2]) hmx ⟨kL, kA⟩ ?_
      intro hS
      replace kP : Blk V0.drew (w.heap.size + 1) 30 (txc noT) := kP
      replace kQ : Blk V0.drew (w.heap.size + 2) 45 [.slice none 0 0, .int .i64 0] := kQ
      replace hv : BSl 0 V0.drew.heap.size V0.drew (.slice va vm vc) e8.1 := (hv.below (Below.refl _ V0).drew (Nat.le_refl _)).mono (Nat.le_refl _) (Nat.le_refl _)
      clear kL kA
      generalize V0.drew = Y2 at *
      refine' wpAnyH_take (i := 0) (oi := _) (v := txv ⟨n1, n2, kd, n3, u0, u1, u2, u3, ⟨0, ⟨#[]⟩, 0, 0, 0, n, ⟨#[]⟩⟩, noV, 0, 0, 0, 0, emptyB⟩) ?hi1 (by kernel_rfl) (by kernel_rfl) (by kernel_rfl) ?hQ1 (Or.inl ⟨?hw1, ?hy1⟩) hS ?rest1
      case hi1 => simp only [List.getElem?_toArray, List.getElem?_cons_zero]; rfl
      case hQ1 => exact fun _ _ _ h => h
      case hw1 => rfl
      case hy1 => exact fun W' hS' => exec_load 30 (.tmp 4) rfl _ W' (load_tx hS'.1)
      try simp only [Act.put, List.setIfInBounds_toArray, List.set_cons_zero, List.set_cons_succ]
      refine' wpAnyH_take (i := 1) (oi := _) (v := _) ?hi2 (by kernel_rfl) (by kernel_rfl) (by kernel_rfl) ?hQ2 (Or.inl ⟨?hw2, ?hy2⟩) hS ?rest2
      case hi2 => simp only [List.getElem?_toArray, List.getElem?_cons_succ, List.getElem?_cons_zero]; rfl
      case hQ2 => exact fun _ _ _ h => h
      case hw2 => rfl
      case hy2 => intro W' hS'; obtain ⟨a0, a1⟩ := Blk.c2 hS'.2; go_simp; with_reducible rfl
      try simp only [Act.put, List.setIfInBounds_toArray, List.set_cons_zero, List.set_cons_succ]
      refine wpAnyH_ready (rs := [2]) (by kernel_rfl) (by simp) ?_
      refine' AllReadyH.cons (o := _) ?ho3 (fun K hK => ?st3) AllReadyH.nil
      case ho3 => simp only [List.getElem?_toArray, List.getElem?_cons_succ, List.getElem?_cons_zero]; rfl
      case st3 =>
        ((refine wp_store_part 30 (.tmp 2) (.tmp 106) (txc ⟨n1, n2, kd, n3, u0, u1, u2, u3, ⟨0, ⟨#[]⟩, 0, 0, 0, n, ⟨#[]⟩⟩, noV, 0, 0, 0, 0, emptyB⟩) kP 0 (txv ⟨n1, n2, kd, n3, u0, u1, u2, u3, ⟨0, ⟨#[]⟩, 0, 0, 0, n, ⟨#[]⟩⟩, noV, 0, 0, 0, 0, emptyB⟩) (txc ⟨n1, n2, kd, n3, u0, u1, u2, u3, ⟨0, ⟨#[]⟩, 0, 0, 0, n, ⟨#[]⟩⟩, noV, 0, 0, 0, 0, emptyB⟩) ?_ ?_ ?_ ?_ ?_ ?_ ?_ ?_ ?_ ?_); (· rfl); (· rfl); (· rfl); (· rfl); (· rfl); (· kernel_rfl); (· exact Nat.le_of_ble_eq_true rfl); (· rfl); (· rfl))
        refine hK.out _ _ ⟨hS.1.rowO _ (by omega), hS.2.rowO _ (by omega)⟩ (fun hS => ?_)
        clear hK K
        try simp only [Act.put, List.setIfInBounds_toArray, List.set_cons_zero, List.set_cons_succ]
        have kP1 := kP.row (txc ⟨n1, n2, kd, n3, u0, u1, u2, u3, ⟨0, ⟨#[]⟩, 0, 0, 0, n, ⟨#[]⟩⟩, noV, 0, 0, 0, 0, emptyB⟩)
        have kQ1 := kQ.rowO (txc ⟨n1, n2, kd, n3, u0, u1, u2, u3, ⟨0, ⟨#[]⟩, 0, 0, 0, n, ⟨#[]⟩⟩, noV, 0, 0, 0, 0, emptyB⟩).toArray (g := w.heap.size + 1) (by omega)
        replace hv := bsl_row hv (noOctT kP) (txc ⟨n1, n2, kd, n3, u0, u1, u2, u3, ⟨0, ⟨#[]⟩, 0, 0, 0, n, ⟨#[]⟩⟩, noV, 0, 0, 0, 0, emptyB⟩).toArray
        replace hB := below_setRow hB (Nat.le_add_right _ 1) (txc ⟨n1, n2, kd, n3, u0, u1, u2, u3, ⟨0, ⟨#[]⟩, 0, 0, 0, n, ⟨#[]⟩⟩, noV, 0, 0, 0, 0, emptyB⟩).toArray
        clear kP kQ
        refine wpAnyH_ready (rs := [3]) (by kernel_rfl) (by simp) ?_
        refine' AllReadyH.cons (o := _) ?ho4 (fun K hK => ?st4) AllReadyH.nil
        case ho4 => simp only [List.getElem?_toArray, List.getElem?_cons_succ, List.getElem?_cons_zero]; rfl
        case st4 =>
          ((refine wp_store_part 45 (.tmp 3) (.tmp 107) [Value.slice va vm vc, .int .i64 e8.2] kQ1 0 (.agg #[Value.slice va vm vc, .int .i64 e8.2]) [Value.slice va vm vc, .int .i64 e8.2] ?_ ?_ ?_ ?_ ?_ ?_ ?_ ?_ ?_ ?_); (· rfl); (· rfl); (· rfl); (· rfl); (· rfl); (· kernel_rfl); (· exact Nat.le_of_ble_eq_true rfl); (· rfl); (· rfl))
          refine hK.out _ _ ⟨hS.1.rowO _ (by omega), hS.2.rowO _ (by omega)⟩ (fun hS => ?_)
          clear hK K
          try simp only [Act.put, List.setIfInBounds_toArray, List.set_cons_zero, List.set_cons_succ]
          refine wpAnyH_done (by kernel_rfl) ?_ _
          go_wp2_with fail
          have kP := kP1.rowO [Value.slice va vm vc, .int .i64 e8.2].toArray (g := w.heap.size + 2) (by omega)
          have kQ := kQ1.row [Value.slice va vm vc, .int .i64 e8.2]
          replace hv := bsl_row hv (noOct2 kQ1) [Value.slice va vm vc, .int .i64 e8.2].toArray
          replace hB := below_setRow hB (Nat.le_add_right _ 2) [Value.slice va vm vc, .int .i64 e8.2].toArray
          exact bodyPost_ret (v := retG ⟨n1, n2, kd, n3, u0, u1, u2, u3, ⟨0, ⟨#[]⟩, 0, 0, 0, n, ⟨#[]⟩⟩, noV, 0, 0, 0, 0, emptyB⟩ (.slice va vm vc) e8.2) (by simp [results, Try.results15, asAddr, retG]; rw [load_txv kP]; simp only [Result.andThen_ok]; rw [load_rv kQ]; rfl) rfl ⟨.slice va vm vc, by rw [HX.out], by rw [HX.out]; exact hv, hB⟩
    · have HX : Hid (gt = (noT, errS e8 16)) := Lib.hid (JHN.out hm)
      have hm1 : (errT ⟨n1, n2, kd, n3, u0, u1, u2, u3, ⟨0, ⟨#[]⟩, 0, 0, 0, n, ⟨#[]⟩⟩, noV, 0, 0, 0, 0, emptyB⟩ == 0) = false := by simpa using hm
      have hm2 : (errT ⟨n1, n2, kd, n3, u0, u1, u2, u3, ⟨0, ⟨#[]⟩, 0, 0, 0, n, ⟨#[]⟩⟩, noV, 0, 0, 0, 0, emptyB⟩ != 0) = true := by simpa using hm
      clear he hm JHY JHN JHB
      go_wp2_with (first
        | ((with_reducible refine wpList_loadIf 30 (.tmp 4) ?_ (some 99) ?_ ?_ (txv ⟨n1, n2, kd, n3, u0, u1, u2, u3, ⟨0, ⟨#[]⟩, 0, 0, 0, n, ⟨#[]⟩⟩, noV, 0, 0, 0, 0, emptyB⟩) ?_ ?_); (· rfl); (· rfl); (· rfl); (· exact load_tx hR.l))
        | (go_at_call 8; refine (HC.out _).mono ?_; rintro e V0 ⟨rfl, hb⟩; replace hR := hR.below hb; clear a0 a1; obtain ⟨a0, a1⟩ := Blk.c2 hR.a)
        | (go_at_call 17; refine (refSpoil_any _ _ hR.b).mono ?_; rintro e V1 ⟨v8, rfl, hv, hb⟩; obtain ⟨xa, xm, xc, rfl⟩ := hv.shape3; replace hR := hR.below hb; clear a0 a1)
        | ((with_reducible refine wpList_store_part 30 (.tmp 2) (.tmp 103) (txc noT) hR.p 0 (txv noT) (txc noT) ?_ ?_ ?_ ?_ ?_ ?_ ?_ ?_ ?_ ?_ ?_); (· rfl); (· rfl); (· rfl); (· rfl); (· rfl); (· rfl); (· kernel_rfl); (· exact Nat.le_of_ble_eq_true rfl); (· rfl); (· rfl); have kP := hR.p.row (txc noT); have kQ0 := hR.q.rowO (txc noT).toArray (g := w.heap.size + 1) (by omega); replace hv := bsl_row hv (noOctT hR.p) (txc noT).toArray; have hB := below_setRow hR.w (Nat.le_add_right _ 1) (txc noT).toArray)
        | ((with_reducible refine wpList_store_part 45 (.tmp 3) (.tmp 105) [Value.slice xa xm xc, .int .i64 (errS e8 16).2] kQ0 0 (.agg #[Value.slice xa xm xc, .int .i64 (errS e8 16).2]) [Value.slice xa xm xc, .int .i64 (errS e8 16).2] ?_ ?_ ?_ ?_ ?_ ?_ ?_ ?_ ?_ ?_ ?_); (· rfl); (· rfl); (· rfl); (· rfl); (· rfl); (· rfl); (· kernel_rfl); (· exact Nat.le_of_ble_eq_true rfl); (· rfl); (· rfl); replace kP := kP.rowO [Value.slice xa xm xc, .int .i64 (errS e8 16).2].toArray (g := w.heap.size + 2) (by omega); have kQ := kQ0.row [Value.slice xa xm xc, .int .i64 (errS e8 16).2]; replace hv := bsl_row hv (noOct2 kQ0) [Value.slice xa xm xc, .int .i64 (errS e8 16).2].toArray; replace hB := below_setRow hB (Nat.le_add_right _ 2) [Value.slice xa xm xc, .int .i64 (errS e8 16).2].toArray))
      exact bodyPost_ret (v := retG noT (.slice xa xm xc) (errS e8 16).2) (by simp [results, Try.results15, asAddr, retG]; rw [load_txv kP]; simp only [Result.andThen_ok]; rw [load_rv kQ]; rfl) rfl ⟨.slice xa xm xc, by rw [HX.out], by rw [HX.out]; exact hv, hB⟩
  · have hq1 : (e8.2 == 0) = false := by simpa using he
    have hq2 : (e8.2 != 0) = true := by simpa using he
    have HX : Hid (gt = (noT, errS e8 16)) := Lib.hid (JHB.out he)
    clear he JHY JHN JHB
    go_wp2_with (first
      | (go_at_call 17; refine (refSpoil_any _ _ hR.b).mono ?_; rintro e V1 ⟨v8, rfl, hv, hb⟩; obtain ⟨xa, xm, xc, rfl⟩ := hv.shape3; replace hR := hR.below hb; clear a0 a1)
      | ((with_reducible refine wpList_store_part 30 (.tmp 2) (.tmp 103) (txc noT) hR.p 0 (txv noT) (txc noT) ?_ ?_ ?_ ?_ ?_ ?_ ?_ ?_ ?_ ?_ ?_); (· rfl); (· rfl); (· rfl); (· rfl); (· rfl); (· rfl); (· kernel_rfl); (· exact Nat.le_of_ble_eq_true rfl); (· rfl); (· rfl); have kP := hR.p.row (txc noT); have kQ0 := hR.q.rowO (txc noT).toArray (g := w.heap.size + 1) (by omega); replace hv := bsl_row hv (noOctT hR.p) (txc noT).toArray; have hB := below_setRow hR.w (Nat.le_add_right _ 1) (txc noT).toArray)
      | ((with_reducible refine wpList_store_part 45 (.tmp 3) (.tmp 105) [Value.slice xa xm xc, .int .i64 (errS e8 16).2] kQ0 0 (.agg #[Value.slice xa xm xc, .int .i64 (errS e8 16).2]) [Value.slice xa xm xc, .int .i64 (errS e8 16).2] ?_ ?_ ?_ ?_ ?_ ?_ ?_ ?_ ?_ ?_ ?_); (· rfl); (· rfl); (· rfl); (· rfl); (· rfl); (· rfl); (· kernel_rfl); (· exact Nat.le_of_ble_eq_true rfl); (· rfl); (· rfl); replace kP := kP.rowO [Value.slice xa xm xc, .int .i64 (errS e8 16).2].toArray (g := w.heap.size + 2) (by omega); have kQ := kQ0.row [Value.slice xa xm xc, .int .i64 (errS e8 16).2]; replace hv := bsl_row hv (noOct2 kQ0) [Value.slice xa xm xc, .int .i64 (errS e8 16).2].toArray; replace hB := below_setRow hB (Nat.le_add_right _ 2) [Value.slice xa xm xc, .int .i64 (errS e8 16).2].toArray))
    exact bodyPost_ret (v := retG noT (.slice xa xm xc) (errS e8 16).2) (by simp [results, Try.results15, asAddr, retG]; rw [load_txv kP]; simp only [Result.andThen_ok]; rw [load_rv kQ]; rfl) rfl ⟨.slice xa xm xc, by rw [HX.out], by rw [HX.out]; exact hv, hB⟩
set_option maxRecDepth 100000 in
set_option maxHeartbeats 8000000 in
theorem refGetTx_2 {s : St} {gt : Tr × St} {e0 e1 e2 e3 e4 e8 : St} {kd n1 n2 n3 : Int} {u0 u1 u2 u3 : Nat} {n : Int} (hK : RdK s gt e0 e1 e2 e3 e4 e8 kd n1 n2 n3 u0 u1 u2 u3 ⟨n1, n2, kd, n3, u0, u1, u2, u3, ⟨0, ⟨#[]⟩, n, 0, 0, 0, ⟨#[]⟩⟩, noV, 0, 0, 0, 0, emptyB⟩) (q1 : (kd == 1) = false) (q2 : (kd == 2) = true) (q5 : (kd == 5) = false) (q6 : (kd == 6) = false) (l4 : ¬ 4 ≤ kd) (hn : HNum e4 n e8) (sv : Value) (w : World) (hsl : BSl 0 w.heap.size w sv s.1) :
    Calls Try.prog 15 #[.agg #[sv, .int .i64 s.2]] w (GetTR gt w) := by
  have hmx : Try.prog.follows .mixedOrders = true := by kernel_rfl
  obtain ⟨h0, h1, h2, h3, h4, HY, HN, HB⟩ := hK
  have Jh0 := Lib.hid h0
  clear h0
  have Jh1 := Lib.hid h1
  clear h1
  have Jh2 := Lib.hid h2
  clear h2
  have Jh3 := Lib.hid h3
  clear h3
  have Jh4 := Lib.hid h4
  clear h4
  have JHY := Lib.hid HY
  clear HY
  have JHN := Lib.hid HN
  clear HN
  have JHB := Lib.hid HB
  clear HB
  have Jhn := Lib.hid hn
  clear hn
  obtain ⟨a, m, c, rfl⟩ := hsl.shape3
  go_enter Try.func15, Try.ntmps15
  go_upto_region 2 with fail
  generalize hW0 : World.alloc _ _ = W0
  have hR : RW 30 (txc noT) w W0 s (.slice a m c) (txc noT) := by
    have b3 := chainA (chainA (chainA (chain0 w (.cells #[.slice a m c, .int .i64 s.2] 45)) (.cells (txc noT).toArray 30)) (.cells #[.slice none 0 0, .int .i64 0] 45)) (.cells (txc noT).toArray 30)
    rw [← hW0]
    exact ⟨(((Blk.new w _ [_, _]).alloc _).alloc _).alloc _, ((Blk.new' (vs := txc noT) (by simp)).alloc _).alloc _, (Blk.new' (vs := [_, _]) (by simp)).alloc _, Blk.new' (vs := txc noT) (by simp), (hsl.below b3 (Nat.le_refl _)).mono (Nat.le_refl _) b3.size, noOct_t noT, b3⟩
  clear hW0 hsl
  obtain ⟨a0, a1⟩ := Blk.c2 hR.a
  go_upto_region 3 with (first
    | (go_at_call 37; refine (Jh0.out _ _ hR.b).mono ?_; rintro e WW ⟨vv, rfl, hv, hb⟩; obtain ⟨va, vm, vc, rfl⟩ := hv.shape3; (try clear c2); replace hR := hR.below hb; clear a0 a1 hb)
    | ((with_reducible refine wpList_store_part 3 (.tmp 10) (.tmp 8) (txc ⟨0, 0, kd, 0, 0, 0, 0, 0, noI, noV, 0, 0, 0, 0, emptyB⟩) hR.l 2 (.int .i64 kd) [.int .i64 kd] ?_ ?_ ?_ ?_ ?_ ?_ ?_ ?_ ?_ ?_ ?_); (· rfl); (· rfl); (· rfl); (· rfl); (· rfl); (· rfl); (· kernel_rfl); (· exact Nat.le_of_ble_eq_true rfl); (· rfl); (· rfl); obtain ⟨hS, hv2⟩ := hR.setL hv (txc ⟨0, 0, kd, 0, 0, 0, 0, 0, noI, noV, 0, 0, 0, 0, emptyB⟩) (noOct_t _); replace hR := hS; replace hv := hv2; clear hS hv2)
    | ((with_reducible refine wpList_store_part 45 (.tmp 1) (.tmp 9) [Value.slice va vm vc, .int .i64 e0.2] hR.a 0 (.agg #[Value.slice va vm vc, .int .i64 e0.2]) [Value.slice va vm vc, .int .i64 e0.2] ?_ ?_ ?_ ?_ ?_ ?_ ?_ ?_ ?_ ?_ ?_); (· rfl); (· rfl); (· rfl); (· rfl); (· rfl); (· rfl); (· kernel_rfl); (· exact Nat.le_of_ble_eq_true rfl); (· rfl); (· rfl); replace hR := RW.setA (s' := e0) hR hv; clear hv; obtain ⟨a0, a1⟩ := Blk.c2 hR.a; have c2 := (hR.l.cell 2).trans rfl))
  clear Jh0
  go_upto_region 4 with (first
    | (go_at_call 37; refine (Jh1.out _ _ hR.b).mono ?_; rintro e WW ⟨vv, rfl, hv, hb⟩; obtain ⟨va, vm, vc, rfl⟩ := hv.shape3; (try clear c2); replace hR := hR.below hb; clear a0 a1 hb)
    | ((with_reducible refine wpList_store_part 3 (.tmp 16) (.tmp 14) (txc ⟨n1, 0, kd, 0, 0, 0, 0, 0, noI, noV, 0, 0, 0, 0, emptyB⟩) hR.l 0 (.int .i64 n1) [.int .i64 n1] ?_ ?_ ?_ ?_ ?_ ?_ ?_ ?_ ?_ ?_ ?_); (· rfl); (· rfl); (· rfl); (· rfl); (· rfl); (· rfl); (· kernel_rfl); (· exact Nat.le_of_ble_eq_true rfl); (· rfl); (· rfl); obtain ⟨hS, hv2⟩ := hR.setL hv (txc ⟨n1, 0, kd, 0, 0, 0, 0, 0, noI, noV, 0, 0, 0, 0, emptyB⟩) (noOct_t _); replace hR := hS; replace hv := hv2; clear hS hv2)
    | ((with_reducible refine wpList_store_part 45 (.tmp 1) (.tmp 15) [Value.slice va vm vc, .int .i64 e1.2] hR.a 0 (.agg #[Value.slice va vm vc, .int .i64 e1.2]) [Value.slice va vm vc, .int .i64 e1.2] ?_ ?_ ?_ ?_ ?_ ?_ ?_ ?_ ?_ ?_ ?_); (· rfl); (· rfl); (· rfl); (· rfl); (· rfl); (· rfl); (· kernel_rfl); (· exact Nat.le_of_ble_eq_true rfl); (· rfl); (· rfl); replace hR := RW.setA (s' := e1) hR hv; clear hv; obtain ⟨a0, a1⟩ := Blk.c2 hR.a; have c2 := (hR.l.cell 2).trans rfl))
  clear Jh1
  go_upto_region 5 with (first
    | (go_at_call 37; refine (Jh2.out _ _ hR.b).mono ?_; rintro e WW ⟨vv, rfl, hv, hb⟩; obtain ⟨va, vm, vc, rfl⟩ := hv.shape3; (try clear c2); replace hR := hR.below hb; clear a0 a1 hb)
    | ((with_reducible refine wpList_store_part 3 (.tmp 22) (.tmp 20) (txc ⟨n1, n2, kd, 0, 0, 0, 0, 0, noI, noV, 0, 0, 0, 0, emptyB⟩) hR.l 1 (.int .i64 n2) [.int .i64 n2] ?_ ?_ ?_ ?_ ?_ ?_ ?_ ?_ ?_ ?_ ?_); (· rfl); (· rfl); (· rfl); (· rfl); (· rfl); (· rfl); (· kernel_rfl); (· exact Nat.le_of_ble_eq_true rfl); (· rfl); (· rfl); obtain ⟨hS, hv2⟩ := hR.setL hv (txc ⟨n1, n2, kd, 0, 0, 0, 0, 0, noI, noV, 0, 0, 0, 0, emptyB⟩) (noOct_t _); replace hR := hS; replace hv := hv2; clear hS hv2)
    | ((with_reducible refine wpList_store_part 45 (.tmp 1) (.tmp 21) [Value.slice va vm vc, .int .i64 e2.2] hR.a 0 (.agg #[Value.slice va vm vc, .int .i64 e2.2]) [Value.slice va vm vc, .int .i64 e2.2] ?_ ?_ ?_ ?_ ?_ ?_ ?_ ?_ ?_ ?_ ?_); (· rfl); (· rfl); (· rfl); (· rfl); (· rfl); (· rfl); (· kernel_rfl); (· exact Nat.le_of_ble_eq_true rfl); (· rfl); (· rfl); replace hR := RW.setA (s' := e2) hR hv; clear hv; obtain ⟨a0, a1⟩ := Blk.c2 hR.a; have c2 := (hR.l.cell 2).trans rfl))
  clear Jh2
  go_upto_region 6 with (first
    | (go_at_call 37; refine (Jh3.out _ _ hR.b).mono ?_; rintro e WW ⟨vv, rfl, hv, hb⟩; obtain ⟨va, vm, vc, rfl⟩ := hv.shape3; (try clear c2); replace hR := hR.below hb; clear a0 a1 hb)
    | ((with_reducible refine wpList_store_part 3 (.tmp 28) (.tmp 26) (txc ⟨n1, n2, kd, n3, 0, 0, 0, 0, noI, noV, 0, 0, 0, 0, emptyB⟩) hR.l 3 (.int .i64 n3) [.int .i64 n3] ?_ ?_ ?_ ?_ ?_ ?_ ?_ ?_ ?_ ?_ ?_); (· rfl); (· rfl); (· rfl); (· rfl); (· rfl); (· rfl); (· kernel_rfl); (· exact Nat.le_of_ble_eq_true rfl); (· rfl); (· rfl); obtain ⟨hS, hv2⟩ := hR.setL hv (txc ⟨n1, n2, kd, n3, 0, 0, 0, 0, noI, noV, 0, 0, 0, 0, emptyB⟩) (noOct_t _); replace hR := hS; replace hv := hv2; clear hS hv2)
    | ((with_reducible refine wpList_store_part 45 (.tmp 1) (.tmp 27) [Value.slice va vm vc, .int .i64 e3.2] hR.a 0 (.agg #[Value.slice va vm vc, .int .i64 e3.2]) [Value.slice va vm vc, .int .i64 e3.2] ?_ ?_ ?_ ?_ ?_ ?_ ?_ ?_ ?_ ?_ ?_); (· rfl); (· rfl); (· rfl); (· rfl); (· rfl); (· rfl); (· kernel_rfl); (· exact Nat.le_of_ble_eq_true rfl); (· rfl); (· rfl); replace hR := RW.setA (s' := e3) hR hv; clear hv; obtain ⟨a0, a1⟩ := Blk.c2 hR.a; have c2 := (hR.l.cell 2).trans rfl))
  clear Jh3
  go_upto_region 7 with (first
    | (go_at_call 38; refine (Jh4.out _ _ hR.b).mono ?_; rintro e WW ⟨vv, rfl, hv, hb⟩; obtain ⟨va, vm, vc, rfl⟩ := hv.shape3; (try clear c2); replace hR := hR.below hb; clear a0 a1 hb)
    | ((with_reducible refine wpList_store_part 24 (.tmp 34) (.tmp 32) (txc ⟨n1, n2, kd, n3, u0, u1, u2, u3, noI, noV, 0, 0, 0, 0, emptyB⟩) hR.l 4 (wv u0 u1 u2 u3) [.int .u64 (u0 : Nat), .int .u64 (u1 : Nat), .int .u64 (u2 : Nat), .int .u64 (u3 : Nat)] ?_ ?_ ?_ ?_ ?_ ?_ ?_ ?_ ?_ ?_ ?_); (· rfl); (· rfl); (· rfl); (· rfl); (· rfl); (· rfl); (· kernel_rfl); (· exact Nat.le_of_ble_eq_true rfl); (· rfl); (· rfl); obtain ⟨hS, hv2⟩ := hR.setL hv (txc ⟨n1, n2, kd, n3, u0, u1, u2, u3, noI, noV, 0, 0, 0, 0, emptyB⟩) (noOct_t _); replace hR := hS; replace hv := hv2; clear hS hv2)
    | ((with_reducible refine wpList_store_part 45 (.tmp 1) (.tmp 33) [Value.slice va vm vc, .int .i64 e4.2] hR.a 0 (.agg #[Value.slice va vm vc, .int .i64 e4.2]) [Value.slice va vm vc, .int .i64 e4.2] ?_ ?_ ?_ ?_ ?_ ?_ ?_ ?_ ?_ ?_ ?_); (· rfl); (· rfl); (· rfl); (· rfl); (· rfl); (· rfl); (· kernel_rfl); (· exact Nat.le_of_ble_eq_true rfl); (· rfl); (· rfl); replace hR := RW.setA (s' := e4) hR hv; clear hv; obtain ⟨a0, a1⟩ := Blk.c2 hR.a; have c2 := (hR.l.cell 2).trans rfl))
  clear Jh4
  go_upto_region 17 with (first
    | (go_at_call 37; refine (Jhn.out _ _ hR.b).mono ?_; rintro e WW ⟨vv, rfl, hv, hb⟩; obtain ⟨va, vm, vc, rfl⟩ := hv.shape3; (try clear c2); replace hR := hR.below hb; clear a0 a1 hb)
    | ((with_reducible refine wpList_store_part 3 (.tmp 54) (.tmp 51) (txc ⟨n1, n2, kd, n3, u0, u1, u2, u3, ⟨0, ⟨#[]⟩, n, 0, 0, 0, ⟨#[]⟩⟩, noV, 0, 0, 0, 0, emptyB⟩) hR.l 10 (.int .i64 n) [.int .i64 n] ?_ ?_ ?_ ?_ ?_ ?_ ?_ ?_ ?_ ?_ ?_); (· rfl); (· rfl); (· rfl); (· rfl); (· rfl); (· rfl); (· kernel_rfl); (· exact Nat.le_of_ble_eq_true rfl); (· rfl); (· rfl); obtain ⟨hS, hv2⟩ := hR.setL hv (txc ⟨n1, n2, kd, n3, u0, u1, u2, u3, ⟨0, ⟨#[]⟩, n, 0, 0, 0, ⟨#[]⟩⟩, noV, 0, 0, 0, 0, emptyB⟩) (noOct_t _); replace hR := hS; replace hv := hv2; clear hS hv2)
    | ((with_reducible refine wpList_store_part 45 (.tmp 1) (.tmp 52) [Value.slice va vm vc, .int .i64 e8.2] hR.a 0 (.agg #[Value.slice va vm vc, .int .i64 e8.2]) [Value.slice va vm vc, .int .i64 e8.2] ?_ ?_ ?_ ?_ ?_ ?_ ?_ ?_ ?_ ?_ ?_); (· rfl); (· rfl); (· rfl); (· rfl); (· rfl); (· rfl); (· kernel_rfl); (· exact Nat.le_of_ble_eq_true rfl); (· rfl); (· rfl); replace hR := RW.setA (s' := e8) hR hv; clear hv; obtain ⟨a0, a1⟩ := Blk.c2 hR.a; have c2 := (hR.l.cell 2).trans rfl))
  clear Jhn
  have HC := Lib.hid (refTx_any ⟨n1, n2, kd, n3, u0, u1, u2, u3, ⟨0, ⟨#[]⟩, n, 0, 0, 0, ⟨#[]⟩⟩, noV, 0, 0, 0, 0, emptyB⟩)
  clear c2
  by_cases he : e8.2 = 0
  · have hq1 : (e8.2 == 0) = true := by simpa using he
    have hq2 : (e8.2 != 0) = false := by simpa using he
    by_cases hm : errT ⟨n1, n2, kd, n3, u0, u1, u2, u3, ⟨0, ⟨#[]⟩, n, 0, 0, 0, ⟨#[]⟩⟩, noV, 0, 0, 0, 0, emptyB⟩ = 0
    · have HE := Lib.hid hm
      have HX : Hid (gt = (⟨n1, n2, kd, n3, u0, u1, u2, u3, ⟨0, ⟨#[]⟩, n, 0, 0, 0, ⟨#[]⟩⟩, noV, 0, 0, 0, 0, emptyB⟩, e8)) := Lib.hid (JHY.out he hm)
      clear he hm JHY JHN JHB
      go_upto_region 19 with (first
        | ((with_reducible refine wpList_loadIf 30 (.tmp 4) ?_ (some 99) ?_ ?_ (txv ⟨n1, n2, kd, n3, u0, u1, u2, u3, ⟨0, ⟨#[]⟩, n, 0, 0, 0, ⟨#[]⟩⟩, noV, 0, 0, 0, 0, emptyB⟩) ?_ ?_); (· rfl); (· rfl); (· rfl); (· exact load_tx hR.l))
        | (go_at_call 8; refine (HC.out _).mono ?_; rw [HE.out]; rintro e V0 ⟨rfl, hb⟩; replace hR := hR.below hb; clear a0 a1; obtain ⟨a0, a1⟩ := Blk.c2 hR.a))
      have kP := hR.p
      have kQ := hR.q
      have hv := hR.b
      have hB := hR.w.drew
      have kL := hR.l
      have kA := hR.a
      clear hR a0 a1 HC HE hq1 hq2
      refine wp_region_held_drew (S := fun W => Blk W (w.heap.size + 3) 30 (txc ⟨n1, n2, kd, n3, u0, u1, u2, u3, ⟨0, ⟨#[]⟩, n, 0, 0, 0, ⟨#[]⟩⟩, noV, 0, 0, 0, 0, emptyB⟩) ∧ Blk W w.heap.size 45 [.slice va vm vc, .int .i64 e8.2]) hmx ⟨kL, kA⟩ ?_
      intro hS
      replace kP : Blk V0.drew (w.heap.size + 1) 30 (txc noT) := kP
      replace kQ : Blk V0.drew (w.heap.size + 2) 45 [.slice none 0 0, .int .i64 0] := kQ
      replace hv : BSl 0 V0.drew.heap.size V0.drew (.slice va vm vc) e8.1 := (hv.below (Below.refl _ V0).drew (Nat.le_refl _)).mono (Nat.le_refl _) (Nat.le_refl _)
      clear kL kA
      generalize V0.drew = Y2 at *
      refine' wpAnyH_take (i := 0) (oi := _) (v := txv ⟨n1, n2, kd, n3, u0, u1, u2, u3, ⟨0, ⟨#[]⟩, n, 0, 0, 0, ⟨#[]⟩⟩, noV, 0, 0, 0, 0, emptyB⟩) ?hi5 (by kernel_rfl) (by kernel_rfl) (by kernel_rfl) ?hQ5 (Or.inl ⟨?hw5, ?hy5⟩) hS ?rest5
      case hi5 => simp only [List.getElem?_toArray, List.getElem?_cons_zero]; rfl
      case hQ5 => exact fun _ _ _ h => h
      case hw5 => rfl
      case hy5 => exact fun W' hS' => exec_load 30 (.tmp 4) rfl _ W' (load_tx hS'.1)
      try simp only [Act.put, List.setIfInBounds_toArray, List.set_cons_zero, List.set_cons_succ]
      refine' wpAnyH_take (i := 1) (oi := _) (v := _) ?hi6 (by kernel_rfl) (by kernel_rfl) (by kernel_rfl) ?hQ6 (Or.inl ⟨?hw6, ?hy6⟩) hS ?rest6
      case hi6 => simp only [List.getElem?_toArray, List.getElem?_cons_succ, List.getElem?_cons_zero]; rfl
      case hQ6 => exact fun _ _ _ h => h
      case hw6 => rfl
      case hy6 => intro W' hS'; obtain ⟨a0, a1⟩ := Blk.c2 hS'.2; go_simp; with_reducible rfl
      try simp only [Act.put, List.setIfInBounds_toArray, List.set_cons_zero, List.set_cons_succ]
      refine wpAnyH_ready (rs := [2]) (by kernel_rfl) (by simp) ?_
      refine' AllReadyH.cons (o := _) ?ho7 (fun K hK => ?st7) AllReadyH.nil
      case ho7 => simp only [List.getElem?_toArray, List.getElem?_cons_succ, List.getElem?_cons_zero]; rfl
      case st7 =>
        ((refine wp_store_part 30 (.tmp 2) (.tmp 106) (txc ⟨n1, n2, kd, n3, u0, u1, u2, u3, ⟨0, ⟨#[]⟩, n, 0, 0, 0, ⟨#[]⟩⟩, noV, 0, 0, 0, 0, emptyB⟩) kP 0 (txv ⟨n1, n2, kd, n3, u0, u1, u2, u3, ⟨0, ⟨#[]⟩, n, 0, 0, 0, ⟨#[]⟩⟩, noV, 0, 0, 0, 0, emptyB⟩) (txc ⟨n1, n2, kd, n3, u0, u1, u2, u3, ⟨0, ⟨#[]⟩, n, 0, 0, 0, ⟨#[]⟩⟩, noV, 0, 0, 0, 0, emptyB⟩) ?_ ?_ ?_ ?_ ?_ ?_ ?_ ?_ ?_ ?_); (· rfl); (· rfl); (· rfl); (· rfl); (· rfl); (· kernel_rfl); (· exact Nat.le_of_ble_eq_true rfl); (· rfl); (· rfl))
        refine hK.out _ _ ⟨hS.1.rowO _ (by omega), hS.2.rowO _ (by omega)⟩ (fun hS => ?_)
        clear hK K
        try simp only [Act.put, List.setIfInBounds_toArray, List.set_cons_zero, List.set_cons_succ]
        have kP1 := kP.row (txc ⟨n1, n2, kd, n3, u0, u1, u2, u3, ⟨0, ⟨#[]⟩, n, 0, 0, 0, ⟨#[]⟩⟩, noV, 0, 0, 0, 0, emptyB⟩)
        have kQ1 := kQ.rowO (txc ⟨n1, n2, kd, n3, u0, u1, u2, u3, ⟨0, ⟨#[]⟩, n, 0, 0, 0, ⟨#[]⟩⟩, noV, 0, 0, 0, 0, emptyB⟩).toArray (g := w.heap.size + 1) (by omega)
        replace hv := bsl_row hv (noOctT kP) (txc ⟨n1, n2, kd, n3, u0, u1, u2, u3, ⟨0, ⟨#[]⟩, n, 0, 0, 0, ⟨#[]⟩⟩, noV, 0, 0, 0, 0, emptyB⟩).toArray
        replace hB := below_setRow hB (Nat.le_add_right _ 1) (txc ⟨n1, n2, kd, n3, u0, u1, u2, u3, ⟨0, ⟨#[]⟩, n, 0, 0, 0, ⟨#[]⟩⟩, noV, 0, 0, 0, 0, emptyB⟩).toArray
        clear kP kQ
        refine wpAnyH_ready (rs := [3]) (by kernel_rfl) (by simp) ?_
        refine' AllReadyH.cons (o := _) ?ho8 (fun K hK => ?st8) AllReadyH.nil
        case ho8 => simp only [List.getElem?_toArray, List.getElem?_cons_succ, List.getElem?_cons_zero]; rfl
        case st8 =>
          ((refine wp_store_part 45 (.tmp 3) (.tmp 107) [Value.slice va vm vc, .int .i64 e8.2] kQ1 0 (.agg #[Value.slice va vm vc, .int .i64 e8.2]) [Value.slice va vm vc, .int .i64 e8.2] ?_ ?_ ?_ ?_ ?_ ?_ ?_ ?_ ?_ ?_); (· rfl); (· rfl); (· rfl); (· rfl); (· rfl); (· kernel_rfl); (· exact Nat.le_of_ble_eq_true rfl); (· rfl); (· rfl))
          refine hK.out _ _ ⟨hS.1.rowO _ (by omega), hS.2.rowO _ (by omega)⟩ (fun hS => ?_)
          clear hK K
          try simp only [Act.put, List.setIfInBounds_toArray, List.set_cons_zero, List.set_cons_succ]
          refine wpAnyH_done (by kernel_rfl) ?_ _
          go_wp2_with fail
          have kP := kP1.rowO [Value.slice va vm vc, .int .i64 e8.2].toArray (g := w.heap.size + 2) (by omega)
          have kQ := kQ1.row [Value.slice va vm vc, .int .i64 e8.2]
          replace hv := bsl_row hv (noOct2 kQ1) [Value.slice va vm vc, .int .i64 e8.2].toArray
          replace hB := below_setRow hB (Nat.le_add_right _ 2) [Value.slice va vm vc, .int .i64 e8.2].toArray
          exact bodyPost_ret (v := retG ⟨n1, n2, kd, n3, u0, u1, u2, u3, ⟨0, ⟨#[]⟩, n, 0, 0, 0, ⟨#[]⟩⟩, noV, 0, 0, 0, 0, emptyB⟩ (.slice va vm vc) e8.2) (by simp [results, Try.results15, asAddr, retG]; rw [load_txv kP]; simp only [Result.andThen_ok]; rw [load_rv kQ]; rfl) rfl ⟨.slice va vm vc, by rw [HX.out], by rw [HX.out]; exact hv, hB⟩
    · have HX : Hid (gt = (noT, errS e8 16)) := Lib.hid (JHN.out hm)
      have hm1 : (errT ⟨n1, n2, kd, n3, u0, u1, u2, u3, ⟨0, ⟨#[]⟩, n, 0, 0, 0, ⟨#[]⟩⟩, noV, 0, 0, 0, 0, emptyB⟩ == 0) = false := by simpa using hm
      have hm2 : (errT ⟨n1, n2, kd, n3, u0, u1, u2, u3, ⟨0, ⟨#[]⟩, n, 0, 0, 0, ⟨#[]⟩⟩, noV, 0, 0, 0, 0, emptyB⟩ != 0) = true := by simpa using hm
      clear he hm JHY JHN JHB
      go_wp2_with (first
        | ((with_reducible refine wpList_loadIf 30 (.tmp 4) ?_ (some 99) ?_ ?_ (txv ⟨n1, n2, kd, n3, u0, u1, u2, u3, ⟨0, ⟨#[]⟩, n, 0, 0, 0, ⟨#[]⟩⟩, noV, 0, 0, 0, 0, emptyB⟩) ?_ ?_); (· rfl); (· rfl); (· rfl); (· exact load_tx hR.l))
        | (go_at_call 8; refine (HC.out _).mono ?_; rintro e V0 ⟨rfl, hb⟩; replace hR := hR.below hb; clear a0 a1; obtain ⟨a0, a1⟩ := Blk.c2 hR.a)
        | (go_at_call 17; refine (refSpoil_any _ _ hR.b).mono ?_; rintro e V1 ⟨v8, rfl, hv, hb⟩; obtain ⟨xa, xm, xc, rfl⟩ := hv.shape3; replace hR := hR.below hb; clear a0 a1)
        | ((with_reducible refine wpList_store_part 30 (.tmp 2) (.tmp 103) (txc noT) hR.p 0 (txv noT) (txc noT) ?_ ?_ ?_ ?_ ?_ ?_ ?_ ?_ ?_ ?_ ?_); (· rfl); (· rfl); (· rfl); (· rfl); (· rfl); (· rfl); (· kernel_rfl); (· exact Nat.le_of_ble_eq_true rfl); (· rfl); (· rfl); have kP := hR.p.row (txc noT); have kQ0 := hR.q.rowO (txc noT).toArray (g := w.heap.size + 1) (by omega); replace hv := bsl_row hv (noOctT hR.p) (txc noT).toArray; have hB := below_setRow hR.w (Nat.le_add_right _ 1) (txc noT).toArray)
        | ((with_reducible refine wpList_store_part 45 (.tmp 3) (.tmp 105) [Value.slice xa xm xc, .int .i64 (errS e8 16).2] kQ0 0 (.agg #[Value.slice xa xm xc, .int .i64 (errS e8 16).2]) [Value.slice xa xm xc, .int .i64 (errS e8 16).2] ?_ ?_ ?_ ?_ ?_ ?_ ?_ ?_ ?_ ?_ ?_); (· rfl); (· rfl); (· rfl); (· rfl); (· rfl); (· rfl); (· kernel_rfl); (· exact Nat.le_of_ble_eq_true rfl); (· rfl); (· rfl); replace kP := kP.rowO [Value.slice xa xm xc, .int .i64 (errS e8 16).2].toArray (g := w.heap.size + 2) (by omega); have kQ := kQ0.row [Value.slice xa xm xc, .int .i64 (errS e8 16).2]; replace hv := bsl_row hv (noOct2 kQ0) [Value.slice xa xm xc, .int .i64 (errS e8 16).2].toArray; replace hB := below_setRow hB (Nat.le_add_right _ 2) [Value.slice xa xm xc, .int .i64 (errS e8 16).2].toArray))
      exact bodyPost_ret (v := retG noT (.slice xa xm xc) (errS e8 16).2) (by simp [results, Try.results15, asAddr, retG]; rw [load_txv kP]; simp only [Result.andThen_ok]; rw [load_rv kQ]; rfl) rfl ⟨.slice xa xm xc, by rw [HX.out], by rw [HX.out]; exact hv, hB⟩
  · have hq1 : (e8.2 == 0) = false := by simpa using he
    have hq2 : (e8.2 != 0) = true := by simpa using he
    have HX : Hid (gt = (noT, errS e8 16)) := Lib.hid (JHB.out he)
    clear he JHY JHN JHB
    go_wp2_with (first
      | (go_at_call 17; refine (refSpoil_any _ _ hR.b).mono ?_; rintro e V1 ⟨v8, rfl, hv, hb⟩; obtain ⟨xa, xm, xc, rfl⟩ := hv.shape3; replace hR := hR.below hb; clear a0 a1)
      | ((with_reducible refine wpList_store_part 30 (.tmp 2) (.tmp 103) (txc noT) hR.p 0 (txv noT) (txc noT) ?_ ?_ ?_ ?_ ?_ ?_ ?_ ?_ ?_ ?_ ?_); (· rfl); (· rfl); (· rfl); (· rfl); (· rfl); (· rfl); (· kernel_rfl); (· exact Nat.le_of_ble_eq_true rfl); (· rfl); (· rfl); have kP := hR.p.row (txc noT); have kQ0 := hR.q.rowO (txc noT).toArray (g := w.heap.size + 1) (by omega); replace hv := bsl_row hv (noOctT hR.p) (txc noT).toArray; have hB := below_setRow hR.w (Nat.le_add_right _ 1) (txc noT).toArray)
      | ((with_reducible refine wpList_store_part 45 (.tmp 3) (.tmp 105) [Value.slice xa xm xc, .int .i64 (errS e8 16).2] kQ0 0 (.agg #[Value.slice xa xm xc, .int .i64 (errS e8 16).2]) [Value.slice xa xm xc, .int .i64 (errS e8 16).2] ?_ ?_ ?_ ?_ ?_ ?_ ?_ ?_ ?_ ?_ ?_); (· rfl); (· rfl); (· rfl); (· rfl); (· rfl); (· rfl); (· kernel_rfl); (· exact Nat.le_of_ble_eq_true rfl); (· rfl); (· rfl); replace kP := kP.rowO [Value.slice xa xm xc, .int .i64 (errS e8 16).2].toArray (g := w.heap.size + 2) (by omega); have kQ := kQ0.row [Value.slice xa xm xc, .int .i64 (errS e8 16).2]; replace hv := bsl_row hv (noOct2 kQ0) [Value.slice xa xm xc, .int .i64 (errS e8 16).2].toArray; replace hB := below_setRow hB (Nat.le_add_right _ 2) [Value.slice xa xm xc, .int .i64 (errS e8 16).2].toArray))
    exact bodyPost_ret (v := retG noT (.slice xa xm xc) (errS e8 16).2) (by simp [results, Try.results15, asAddr, retG]; rw [load_txv kP]; simp only [Result.andThen_ok]; rw [load_rv kQ]; rfl) rfl ⟨.slice xa xm xc, by rw [HX.out], by rw [HX.out]; exact hv, hB⟩
set_option maxRecDepth 100000 in
set_option maxHeartbeats 8000000 in
theorem refGetTx_4 {s : St} {gt : Tr × St} {e0 e1 e2 e3 e4 e8 : St} {kd n1 n2 n3 : Int} {u0 u1 u2 u3 : Nat} {iv : Trf} {vr : Sid} {e5 : St} (hK : RdK s gt e0 e1 e2 e3 e4 e8 kd n1 n2 n3 u0 u1 u2 u3 ⟨n1, n2, kd, n3, u0, u1, u2, u3, iv, vr, 0, 0, 0, 0, emptyB⟩) (q1 : (kd == 1) = false) (q2 : (kd == 2) = false) (q5 : (kd == 5) = false) (q6 : (kd == 6) = false) (l4 : 4 ≤ kd) (l6 : kd ≤ 6) (hi : HInv e4 iv e5) (hv0 : HVar e5 vr e8) (sv : Value) (w : World) (hsl : BSl 0 w.heap.size w sv s.1) :
    Calls Try.prog 15 #[.agg #[sv, .int .i64 s.2]] w (GetTR gt w) := by
  have hmx : Try.prog.follows .mixedOrders = true := by kernel_rfl
  obtain ⟨h0, h1, h2, h3, h4, HY, HN, HB⟩ := hK
  have Jh0 := Lib.hid h0
  clear h0
  have Jh1 := Lib.hid h1
  clear h1
  have Jh2 := Lib.hid h2
  clear h2
  have Jh3 := Lib.hid h3
  clear h3
  have Jh4 := Lib.hid h4
  clear h4
  have JHY := Lib.hid HY
  clear HY
  have JHN := Lib.hid HN
  clear HN
  have JHB := Lib.hid HB
  clear HB
  have Jhi := Lib.hid hi
  clear hi
  have Jhv0 := Lib.hid hv0
  clear hv0
  obtain ⟨a, m, c, rfl⟩ := hsl.shape3
  go_enter Try.func15, Try.ntmps15
  go_upto_region 2 with fail
  generalize hW0 : World.alloc _ _ = W0
  have hR : RW 30 (txc noT) w W0 s (.slice a m c) (txc noT) := by
    have b3 := chainA (chainA (chainA (chain0 w (.cells #[.slice a m c, .int .i64 s.2] 45)) (.cells (txc noT).toArray 30)) (.cells #[.slice none 0 0, .int .i64 0] 45)) (.cells (txc noT).toArray 30)
    rw [← hW0]
    exact ⟨(((Blk.new w _ [_, _]).alloc _).alloc _).alloc _, ((Blk.new' (vs := txc noT) (by simp)).alloc _).alloc _, (Blk.new' (vs := [_, _]) (by simp)).alloc _, Blk.new' (vs := txc noT) (by simp), (hsl.below b3 (Nat.le_refl _)).mono (Nat.le_refl _) b3.size, noOct_t noT, b3⟩
  clear hW0 hsl
  obtain ⟨a0, a1⟩ := Blk.c2 hR.a
  go_upto_region 3 with (first
    | (go_at_call 37; refine (Jh0.out _ _ hR.b).mono ?_; rintro e WW ⟨vv, rfl, hv, hb⟩; obtain ⟨va, vm, vc, rfl⟩ := hv.shape3; (try clear c2); replace hR := hR.below hb; clear a0 a1 hb)
    | ((with_reducible refine wpList_store_part 3 (.tmp 10) (.tmp 8) (txc ⟨0, 0, kd, 0, 0, 0, 0, 0, noI, noV, 0, 0, 0, 0, emptyB⟩) hR.l 2 (.int .i64 kd) [.int .i64 kd] ?_ ?_ ?_ ?_ ?_ ?_ ?_ ?_ ?_ ?_ ?_); (· rfl); (· rfl); (· rfl); (· rfl); (· rfl); (· rfl); (· kernel_rfl); (· exact Nat.le_of_ble_eq_true rfl); (· rfl); (· rfl); obtain ⟨hS, hv2⟩ := hR.setL hv (txc ⟨0, 0, kd, 0, 0, 0, 0, 0, noI, noV, 0, 0, 0, 0, emptyB⟩) (noOct_t _); replace hR := hS; replace hv := hv2; clear hS hv2)
    | ((with_reducible refine wpList_store_part 45 (.tmp 1) (.tmp 9) [Value.slice va vm vc, .int .i64 e0.2] hR.a 0 (.agg #[Value.slice va vm vc, .int .i64 e0.2]) [Value.slice va vm vc, .int .i64 e0.2] ?_ ?_ ?_ ?_ ?_ ?_ ?_ ?_ ?_ ?_ ?_); (· rfl); (· rfl); (· rfl); (· rfl); (· rfl); (· rfl); (· kernel_rfl); (· exact Nat.le_of_ble_eq_true rfl); (· rfl); (· rfl); replace hR := RW.setA (s' := e0) hR hv; clear hv; obtain ⟨a0, a1⟩ := Blk.c2 hR.a; have c2 := (hR.l.cell 2).trans rfl))
  clear Jh0
  go_upto_region 4 with (first
    | (go_at_call 37; refine (Jh1.out _ _ hR.b).mono ?_; rintro e WW ⟨vv, rfl, hv, hb⟩; obtain ⟨va, vm, vc, rfl⟩ := hv.shape3; (try clear c2); replace hR := hR.below hb; clear a0 a1 hb)
    | ((with_reducible refine wpList_store_part 3 (.tmp 16) (.tmp 14) (txc ⟨n1, 0, kd, 0, 0, 0, 0, 0, noI, noV, 0, 0, 0, 0, emptyB⟩) hR.l 0 (.int .i64 n1) [.int .i64 n1] ?_ ?_ ?_ ?_ ?_ ?_ ?_ ?_ ?_ ?_ ?_); (· rfl); (· rfl); (· rfl); (· rfl); (· rfl); (· rfl); (· kernel_rfl); (· exact Nat.le_of_ble_eq_true rfl); (· rfl); (· rfl); obtain ⟨hS, hv2⟩ := hR.setL hv (txc ⟨n1, 0, kd, 0, 0, 0, 0, 0, noI, noV, 0, 0, 0, 0, emptyB⟩) (noOct_t _); replace hR := hS; replace hv := hv2; clear hS hv2)
    | ((with_reducible refine wpList_store_part 45 (.tmp 1) (.tmp 15) [Value.slice va vm vc, .int .i64 e1.2] hR.a 0 (.agg #[Value.slice va vm vc, .int .i64 e1.2]) [Value.slice va vm vc, .int .i64 e1.2] ?_ ?_ ?_ ?_ ?_ ?_ ?_ ?_ ?_ ?_ ?_); (· rfl); (· rfl); (· rfl); (· rfl); (· rfl); (· rfl); (· kernel_rfl); (· exact Nat.le_of_ble_eq_true rfl); (· rfl); (· rfl); replace hR := RW.setA (s' := e1) hR hv; clear hv; obtain ⟨a0, a1⟩ := Blk.c2 hR.a; have c2 := (hR.l.cell 2).trans rfl))
  clear Jh1
  go_upto_region 5 with (first
    | (go_at_call 37; refine (Jh2.out _ _ hR.b).mono ?_; rintro e WW ⟨vv, rfl, hv, hb⟩; obtain ⟨va, vm, vc, rfl⟩ := hv.shape3; (try clear c2); replace hR := hR.below hb; clear a0 a1 hb)
    | ((with_reducible refine wpList_store_part 3 (.tmp 22) (.tmp 20) (txc ⟨n1, n2, kd, 0, 0, 0, 0, 0, noI, noV, 0, 0, 0, 0, emptyB⟩) hR.l 1 (.int .i64 n2) [.int .i64 n2] ?_ ?_ ?_ ?_ ?_ ?_ ?_ ?_ ?_ ?_ ?_); (· rfl); (· rfl); (· rfl); (· rfl); (· rfl); (· rfl); (· kernel_rfl); (· exact Nat.le_of_ble_eq_true rfl); (· rfl); (· rfl); obtain ⟨hS, hv2⟩ := hR.setL hv (txc ⟨n1, n2, kd, 0, 0, 0, 0, 0, noI, noV, 0, 0, 0, 0, emptyB⟩) (noOct_t _); replace hR := hS; replace hv := hv2; clear hS hv2)
    | ((with_reducible refine wpList_store_part 45 (.tmp 1) (.tmp 21) [Value.slice va vm vc, .int .i64 e2.2] hR.a 0 (.agg #[Value.slice va vm vc, .int .i64 e2.2]) [Value.slice va vm vc, .int .i64 e2.2] ?_ ?_ ?_ ?_ ?_ ?_ ?_ ?_ ?_ ?_ ?_); (· rfl); (· rfl); (· rfl); (· rfl); (· rfl); (· rfl); (· kernel_rfl); (· exact Nat.le_of_ble_eq_true rfl); (· rfl); (· rfl); replace hR := RW.setA (s' := e2) hR hv; clear hv; obtain ⟨a0, a1⟩ := Blk.c2 hR.a; have c2 := (hR.l.cell 2).trans rfl))
  clear Jh2
  go_upto_region 6 with (first
    | (go_at_call 37; refine (Jh3.out _ _ hR.b).mono ?_; rintro e WW ⟨vv, rfl, hv, hb⟩; obtain ⟨va, vm, vc, rfl⟩ := hv.shape3; (try clear c2); replace hR := hR.below hb; clear a0 a1 hb)
    | ((with_reducible refine wpList_store_part 3 (.tmp 28) (.tmp 26) (txc ⟨n1, n2, kd, n3, 0, 0, 0, 0, noI, noV, 0, 0, 0, 0, emptyB⟩) hR.l 3 (.int .i64 n3) [.int .i64 n3] ?_ ?_ ?_ ?_ ?_ ?_ ?_ ?_ ?_ ?_ ?_); (· rfl); (· rfl); (· rfl); (· rfl); (· rfl); (· rfl); (· kernel_rfl); (· exact Nat.le_of_ble_eq_true rfl); (· rfl); (· rfl); obtain ⟨hS, hv2⟩ := hR.setL hv (txc ⟨n1, n2, kd, n3, 0, 0, 0, 0, noI, noV, 0, 0, 0, 0, emptyB⟩) (noOct_t _); replace hR := hS; replace hv := hv2; clear hS hv2)
    | ((with_reducible refine wpList_store_part 45 (.tmp 1) (.tmp 27) [Value.slice va vm vc, .int .i64 e3.2] hR.a 0 (.agg #[Value.slice va vm vc, .int .i64 e3.2]) [Value.slice va vm vc, .int .i64 e3.2] ?_ ?_ ?_ ?_ ?_ ?_ ?_ ?_ ?_ ?_ ?_); (· rfl); (· rfl); (· rfl); (· rfl); (· rfl); (· rfl); (· kernel_rfl); (· exact Nat.le_of_ble_eq_true rfl); (· rfl); (· rfl); replace hR := RW.setA (s' := e3) hR hv; clear hv; obtain ⟨a0, a1⟩ := Blk.c2 hR.a; have c2 := (hR.l.cell 2).trans rfl))
  clear Jh3
  go_upto_region 7 with (first
    | (go_at_call 38; refine (Jh4.out _ _ hR.b).mono ?_; rintro e WW ⟨vv, rfl, hv, hb⟩; obtain ⟨va, vm, vc, rfl⟩ := hv.shape3; (try clear c2); replace hR := hR.below hb; clear a0 a1 hb)
    | ((with_reducible refine wpList_store_part 24 (.tmp 34) (.tmp 32) (txc ⟨n1, n2, kd, n3, u0, u1, u2, u3, noI, noV, 0, 0, 0, 0, emptyB⟩) hR.l 4 (wv u0 u1 u2 u3) [.int .u64 (u0 : Nat), .int .u64 (u1 : Nat), .int .u64 (u2 : Nat), .int .u64 (u3 : Nat)] ?_ ?_ ?_ ?_ ?_ ?_ ?_ ?_ ?_ ?_ ?_); (· rfl); (· rfl); (· rfl); (· rfl); (· rfl); (· rfl); (· kernel_rfl); (· exact Nat.le_of_ble_eq_true rfl); (· rfl); (· rfl); obtain ⟨hS, hv2⟩ := hR.setL hv (txc ⟨n1, n2, kd, n3, u0, u1, u2, u3, noI, noV, 0, 0, 0, 0, emptyB⟩) (noOct_t _); replace hR := hS; replace hv := hv2; clear hS hv2)
    | ((with_reducible refine wpList_store_part 45 (.tmp 1) (.tmp 33) [Value.slice va vm vc, .int .i64 e4.2] hR.a 0 (.agg #[Value.slice va vm vc, .int .i64 e4.2]) [Value.slice va vm vc, .int .i64 e4.2] ?_ ?_ ?_ ?_ ?_ ?_ ?_ ?_ ?_ ?_ ?_); (· rfl); (· rfl); (· rfl); (· rfl); (· rfl); (· rfl); (· kernel_rfl); (· exact Nat.le_of_ble_eq_true rfl); (· rfl); (· rfl); replace hR := RW.setA (s' := e4) hR hv; clear hv; obtain ⟨a0, a1⟩ := Blk.c2 hR.a; have c2 := (hR.l.cell 2).trans rfl))
  clear Jh4
  go_upto_region 17 with (first
    | (go_at_call 39; refine (Jhi.out _ _ hR.b).mono ?_; rintro e WW ⟨vv, rfl, hv, hb⟩; obtain ⟨va, vm, vc, rfl⟩ := hv.shape3; (try clear c2); replace hR := hR.below hb; clear a0 a1 hb)
    | ((with_reducible refine wpList_store_part 26 (.tmp 68) (.tmp 66) (txc ⟨n1, n2, kd, n3, u0, u1, u2, u3, iv, noV, 0, 0, 0, 0, emptyB⟩) hR.l 8 (ivv iv) (ivc iv) ?_ ?_ ?_ ?_ ?_ ?_ ?_ ?_ ?_ ?_ ?_); (· rfl); (· rfl); (· rfl); (· rfl); (· rfl); (· rfl); (· kernel_rfl); (· exact Nat.le_of_ble_eq_true rfl); (· rfl); (· rfl); obtain ⟨hS, hv2⟩ := hR.setL hv (txc ⟨n1, n2, kd, n3, u0, u1, u2, u3, iv, noV, 0, 0, 0, 0, emptyB⟩) (noOct_t _); replace hR := hS; replace hv := hv2; clear hS hv2)
    | ((with_reducible refine wpList_store_part 45 (.tmp 1) (.tmp 67) [Value.slice va vm vc, .int .i64 e5.2] hR.a 0 (.agg #[Value.slice va vm vc, .int .i64 e5.2]) [Value.slice va vm vc, .int .i64 e5.2] ?_ ?_ ?_ ?_ ?_ ?_ ?_ ?_ ?_ ?_ ?_); (· rfl); (· rfl); (· rfl); (· rfl); (· rfl); (· rfl); (· kernel_rfl); (· exact Nat.le_of_ble_eq_true rfl); (· rfl); (· rfl); replace hR := RW.setA (s' := e5) hR hv; clear hv; obtain ⟨a0, a1⟩ := Blk.c2 hR.a; have c2 := (hR.l.cell 2).trans rfl)
    | (go_at_call 40; refine (Jhv0.out _ _ hR.b).mono ?_; rintro e WW ⟨vv, rfl, hv, hb⟩; obtain ⟨va, vm, vc, rfl⟩ := hv.shape3; (try clear c2); replace hR := hR.below hb; clear a0 a1 hb)
    | ((with_reducible refine wpList_store_part 28 (.tmp 74) (.tmp 72) (txc ⟨n1, n2, kd, n3, u0, u1, u2, u3, iv, vr, 0, 0, 0, 0, emptyB⟩) hR.l 15 (svv vr) (svc vr) ?_ ?_ ?_ ?_ ?_ ?_ ?_ ?_ ?_ ?_ ?_); (· rfl); (· rfl); (· rfl); (· rfl); (· rfl); (· rfl); (· kernel_rfl); (· exact Nat.le_of_ble_eq_true rfl); (· rfl); (· rfl); obtain ⟨hS, hv2⟩ := hR.setL hv (txc ⟨n1, n2, kd, n3, u0, u1, u2, u3, iv, vr, 0, 0, 0, 0, emptyB⟩) (noOct_t _); replace hR := hS; replace hv := hv2; clear hS hv2)
    | ((with_reducible refine wpList_store_part 45 (.tmp 1) (.tmp 73) [Value.slice va vm vc, .int .i64 e8.2] hR.a 0 (.agg #[Value.slice va vm vc, .int .i64 e8.2]) [Value.slice va vm vc, .int .i64 e8.2] ?_ ?_ ?_ ?_ ?_ ?_ ?_ ?_ ?_ ?_ ?_); (· rfl); (· rfl); (· rfl); (· rfl); (· rfl); (· rfl); (· kernel_rfl); (· exact Nat.le_of_ble_eq_true rfl); (· rfl); (· rfl); replace hR := RW.setA (s' := e8) hR hv; clear hv; obtain ⟨a0, a1⟩ := Blk.c2 hR.a; have c2 := (hR.l.cell 2).trans rfl))
  clear Jhi Jhv0
  have HC := Lib.hid (refTx_any ⟨n1, n2, kd, n3, u0, u1, u2, u3, iv, vr, 0, 0, 0, 0, emptyB⟩)
  clear c2
  by_cases he : e8.2 = 0
  · have hq1 : (e8.2 == 0) = true := by simpa using he
    have hq2 : (e8.2 != 0) = false := by simpa using he
    by_cases hm : errT ⟨n1, n2, kd, n3, u0, u1, u2, u3, iv, vr, 0, 0, 0, 0, emptyB⟩ = 0
    · have HE := Lib.hid hm
      have HX : Hid (gt = (⟨n1, n2, kd, n3, u0, u1, u2, u3, iv, vr, 0, 0, 0, 0, emptyB⟩, e8)) := Lib.hid (JHY.out he hm)
      clear he hm JHY JHN JHB
      go_upto_region 19 with (first
        | ((with_reducible refine wpList_loadIf 30 (.tmp 4) ?_ (some 99) ?_ ?_ (txv ⟨n1, n2, kd, n3, u0, u1, u2, u3, iv, vr, 0, 0, 0, 0, emptyB⟩) ?_ ?_); (· rfl); (· rfl); (· rfl); (· exact load_tx hR.l))
        | (go_at_call 8; refine (HC.out _).mono ?_; rw [HE.out]; rintro e V0 ⟨rfl, hb⟩; replace hR := hR.below hb; clear a0 a1; obtain ⟨a0, a1⟩ := Blk.c2 hR.a))
      have kP := hR.p
      have kQ := hR.q
      have hv := hR.b
      have hB := hR.w.drew
      have kL := hR.l
      have kA := hR.a
      clear hR a0 a1 HC HE hq1 hq2
      refine wp_region_held_drew (S := fun W => Blk W (w.heap.size + 3) 30 (txc ⟨n1, n2, kd, n3, u0, u1, u2, u3, iv, vr, 0, 0, 0, 0, emptyB⟩) ∧ Blk W w.heap.size 45 [.slice va vm vc, .int .i64 e8.2]) hmx ⟨kL, kA⟩ ?_
      intro hS
      replace kP : Blk V0.drew (w.heap.size + 1) 30 (txc noT) := kP
      replace kQ : Blk V0.drew (w.heap.size + 2) 45 [.slice none 0 0, .int .i64 0] := kQ
      replace hv : BSl 0 V0.drew.heap.size V0.drew (.slice va vm vc) e8.1 := (hv.below (Below.refl _ V0).drew (Nat.le_refl _)).mono (Nat.le_refl _) (Nat.le_refl _)
      clear kL kA
      generalize V0.drew = Y2 at *
      refine' wpAnyH_take (i := 0) (oi := _) (v := txv ⟨n1, n2, kd, n3, u0, u1, u2, u3, iv, vr, 0, 0, 0, 0, emptyB⟩) ?hi9 (by kernel_rfl) (by kernel_rfl) (by kernel_rfl) ?hQ9 (Or.inl ⟨?hw9, ?hy9⟩) hS ?rest9
      case hi9 => simp only [List.getElem?_toArray, List.getElem?_cons_zero]; rfl
      case hQ9 => exact fun _ _ _ h => h
      case hw9 => rfl
      case hy9 => exact fun W' hS' => exec_load 30 (.tmp 4) rfl _ W' (load_tx hS'.1)
      try simp only [Act.put, List.setIfInBounds_toArray, List.set_cons_zero, List.set_cons_succ]
      refine' wpAnyH_take (i := 1) (oi := _) (v := _) ?hi10 (by kernel_rfl) (by kernel_rfl) (by kernel_rfl) ?hQ10 (Or.inl ⟨?hw10, ?hy10⟩) hS ?rest10
      case hi10 => simp only [List.getElem?_toArray, List.getElem?_cons_succ, List.getElem?_cons_zero]; rfl
      case hQ10 => exact fun _ _ _ h => h
      case hw10 => rfl
      case hy10 => intro W' hS'; obtain ⟨a0, a1⟩ := Blk.c2 hS'.2; go_simp; with_reducible rfl
      try simp only [Act.put, List.setIfInBounds_toArray, List.set_cons_zero, List.set_cons_succ]
      refine wpAnyH_ready (rs := [2]) (by kernel_rfl) (by simp) ?_
      refine' AllReadyH.cons (o := _) ?ho11 (fun K hK => ?st11) AllReadyH.nil
      case ho11 => simp only [List.getElem?_toArray, List.getElem?_cons_succ, List.getElem?_cons_zero]; rfl
      case st11 =>
        ((refine wp_store_part 30 (.tmp 2) (.tmp 106) (txc ⟨n1, n2, kd, n3, u0, u1, u2, u3, iv, vr, 0, 0, 0, 0, emptyB⟩) kP 0 (txv ⟨n1, n2, kd, n3, u0, u1, u2, u3, iv, vr, 0, 0, 0, 0, emptyB⟩) (txc ⟨n1, n2, kd, n3, u0, u1, u2, u3, iv, vr, 0, 0, 0, 0, emptyB⟩) ?_ ?_ ?_ ?_ ?_ ?_ ?_ ?_ ?_ ?_); (· rfl); (· rfl); (· rfl); (· rfl); (· rfl); (· kernel_rfl); (· exact Nat.le_of_ble_eq_true rfl); (· rfl); (· rfl))
        refine hK.out _ _ ⟨hS.1.rowO _ (by omega), hS.2.rowO _ (by omega)⟩ (fun hS => ?_)
        clear hK K
        try simp only [Act.put, List.setIfInBounds_toArray, List.set_cons_zero, List.set_cons_succ]
        have kP1 := kP.row (txc ⟨n1, n2, kd, n3, u0, u1, u2, u3, iv, vr, 0, 0, 0, 0, emptyB⟩)
        have kQ1 := kQ.rowO (txc ⟨n1, n2, kd, n3, u0, u1, u2, u3, iv, vr, 0, 0, 0, 0, emptyB⟩).toArray (g := w.heap.size + 1) (by omega)
        replace hv := bsl_row hv (noOctT kP) (txc ⟨n1, n2, kd, n3, u0, u1, u2, u3, iv, vr, 0, 0, 0, 0, emptyB⟩).toArray
        replace hB := below_setRow hB (Nat.le_add_right _ 1) (txc ⟨n1, n2, kd, n3, u0, u1, u2, u3, iv, vr, 0, 0, 0, 0, emptyB⟩).toArray
        clear kP kQ
        refine wpAnyH_ready (rs := [3]) (by kernel_rfl) (by simp) ?_
        refine' AllReadyH.cons (o := _) ?ho12 (fun K hK => ?st12) AllReadyH.nil
        case ho12 => simp only [List.getElem?_toArray, List.getElem?_cons_succ, List.getElem?_cons_zero]; rfl
        case st12 =>
          ((refine wp_store_part 45 (.tmp 3) (.tmp 107) [Value.slice va vm vc, .int .i64 e8.2] kQ1 0 (.agg #[Value.slice va vm vc, .int .i64 e8.2]) [Value.slice va vm vc, .int .i64 e8.2] ?_ ?_ ?_ ?_ ?_ ?_ ?_ ?_ ?_ ?_); (· rfl); (· rfl); (· rfl); (· rfl); (· rfl); (· kernel_rfl); (· exact Nat.le_of_ble_eq_true rfl); (· rfl); (· rfl))
          refine hK.out _ _ ⟨hS.1.rowO _ (by omega), hS.2.rowO _ (by omega)⟩ (fun hS => ?_)
          clear hK K
          try simp only [Act.put, List.setIfInBounds_toArray, List.set_cons_zero, List.set_cons_succ]
          refine wpAnyH_done (by kernel_rfl) ?_ _
          go_wp2_with fail
          have kP := kP1.rowO [Value.slice va vm vc, .int .i64 e8.2].toArray (g := w.heap.size + 2) (by omega)
          have kQ := kQ1.row [Value.slice va vm vc, .int .i64 e8.2]
          replace hv := bsl_row hv (noOct2 kQ1) [Value.slice va vm vc, .int .i64 e8.2].toArray
          replace hB := below_setRow hB (Nat.le_add_right _ 2) [Value.slice va vm vc, .int .i64 e8.2].toArray
          exact bodyPost_ret (v := retG ⟨n1, n2, kd, n3, u0, u1, u2, u3, iv, vr, 0, 0, 0, 0, emptyB⟩ (.slice va vm vc) e8.2) (by simp [results, Try.results15, asAddr, retG]; rw [load_txv kP]; simp only [Result.andThen_ok]; rw [load_rv kQ]; rfl) rfl ⟨.slice va vm vc, by rw [HX.out], by rw [HX.out]; exact hv, hB⟩
    · have HX : Hid (gt = (noT, errS e8 16)) := Lib.hid (JHN.out hm)
      have hm1 : (errT ⟨n1, n2, kd, n3, u0, u1, u2, u3, iv, vr, 0, 0, 0, 0, emptyB⟩ == 0) = false := by simpa using hm
      have hm2 : (errT ⟨n1, n2, kd, n3, u0, u1, u2, u3, iv, vr, 0, 0, 0, 0, emptyB⟩ != 0) = true := by simpa using hm
      clear he hm JHY JHN JHB
      go_wp2_with (first
        | ((with_reducible refine wpList_loadIf 30 (.tmp 4) ?_ (some 99) ?_ ?_ (txv ⟨n1, n2, kd, n3, u0, u1, u2, u3, iv, vr, 0, 0, 0, 0, emptyB⟩) ?_ ?_); (· rfl); (· rfl); (· rfl); (· exact load_tx hR.l))
        | (go_at_call 8; refine (HC.out _).mono ?_; rintro e V0 ⟨rfl, hb⟩; replace hR := hR.below hb; clear a0 a1; obtain ⟨a0, a1⟩ := Blk.c2 hR.a)
        | (go_at_call 17; refine (refSpoil_any _ _ hR.b).mono ?_; rintro e V1 ⟨v8, rfl, hv, hb⟩; obtain ⟨xa, xm, xc, rfl⟩ := hv.shape3; replace hR := hR.below hb; clear a0 a1)
        | ((with_reducible refine wpList_store_part 30 (.tmp 2) (.tmp 103) (txc noT) hR.p 0 (txv noT) (txc noT) ?_ ?_ ?_ ?_ ?_ ?_ ?_ ?_ ?_ ?_ ?_); (· rfl); (· rfl); (· rfl); (· rfl); (· rfl); (· rfl); (· kernel_rfl); (· exact Nat.le_of_ble_eq_true rfl); (· rfl); (· rfl); have kP := hR.p.row (txc noT); have kQ0 := hR.q.rowO (txc noT).toArray (g := w.heap.size + 1) (by omega); replace hv := bsl_row hv (noOctT hR.p) (txc noT).toArray; have hB := below_setRow hR.w (Nat.le_add_right _ 1) (txc noT).toArray)
        | ((with_reducible refine wpList_store_part 45 (.tmp 3) (.tmp 105) [Value.slice xa xm xc, .int .i64 (errS e8 16).2] kQ0 0 (.agg #[Value.slice xa xm xc, .int .i64 (errS e8 16).2]) [Value.slice xa xm xc, .int .i64 (errS e8 16).2] ?_ ?_ ?_ ?_ ?_ ?_ ?_ ?_ ?_ ?_ ?_); (· rfl); (· rfl); (· rfl); (· rfl); (· rfl); (· rfl); (· kernel_rfl); (· exact Nat.le_of_ble_eq_true rfl); (· rfl); (· rfl); replace kP := kP.rowO [Value.slice xa xm xc, .int .i64 (errS e8 16).2].toArray (g := w.heap.size + 2) (by omega); have kQ := kQ0.row [Value.slice xa xm xc, .int .i64 (errS e8 16).2]; replace hv := bsl_row hv (noOct2 kQ0) [Value.slice xa xm xc, .int .i64 (errS e8 16).2].toArray; replace hB := below_setRow hB (Nat.le_add_right _ 2) [Value.slice xa xm xc, .int .i64 (errS e8 16).2].toArray))
      exact bodyPost_ret (v := retG noT (.slice xa xm xc) (errS e8 16).2) (by simp [results, Try.results15, asAddr, retG]; rw [load_txv kP]; simp only [Result.andThen_ok]; rw [load_rv kQ]; rfl) rfl ⟨.slice xa xm xc, by rw [HX.out], by rw [HX.out]; exact hv, hB⟩
  · have hq1 : (e8.2 == 0) = false := by simpa using he
    have hq2 : (e8.2 != 0) = true := by simpa using he
    have HX : Hid (gt = (noT, errS e8 16)) := Lib.hid (JHB.out he)
    clear he JHY JHN JHB
    go_wp2_with (first
      | (go_at_call 17; refine (refSpoil_any _ _ hR.b).mono ?_; rintro e V1 ⟨v8, rfl, hv, hb⟩; obtain ⟨xa, xm, xc, rfl⟩ := hv.shape3; replace hR := hR.below hb; clear a0 a1)
      | ((with_reducible refine wpList_store_part 30 (.tmp 2) (.tmp 103) (txc noT) hR.p 0 (txv noT) (txc noT) ?_ ?_ ?_ ?_ ?_ ?_ ?_ ?_ ?_ ?_ ?_); (· rfl); (· rfl); (· rfl); (· rfl); (· rfl); (· rfl); (· kernel_rfl); (· exact Nat.le_of_ble_eq_true rfl); (· rfl); (· rfl); have kP := hR.p.row (txc noT); have kQ0 := hR.q.rowO (txc noT).toArray (g := w.heap.size + 1) (by omega); replace hv := bsl_row hv (noOctT hR.p) (txc noT).toArray; have hB := below_setRow hR.w (Nat.le_add_right _ 1) (txc noT).toArray)
      | ((with_reducible refine wpList_store_part 45 (.tmp 3) (.tmp 105) [Value.slice xa xm xc, .int .i64 (errS e8 16).2] kQ0 0 (.agg #[Value.slice xa xm xc, .int .i64 (errS e8 16).2]) [Value.slice xa xm xc, .int .i64 (errS e8 16).2] ?_ ?_ ?_ ?_ ?_ ?_ ?_ ?_ ?_ ?_ ?_); (· rfl); (· rfl); (· rfl); (· rfl); (· rfl); (· rfl); (· kernel_rfl); (· exact Nat.le_of_ble_eq_true rfl); (· rfl); (· rfl); replace kP := kP.rowO [Value.slice xa xm xc, .int .i64 (errS e8 16).2].toArray (g := w.heap.size + 2) (by omega); have kQ := kQ0.row [Value.slice xa xm xc, .int .i64 (errS e8 16).2]; replace hv := bsl_row hv (noOct2 kQ0) [Value.slice xa xm xc, .int .i64 (errS e8 16).2].toArray; replace hB := below_setRow hB (Nat.le_add_right _ 2) [Value.slice xa xm xc, .int .i64 (errS e8 16).2].toArray))
    exact bodyPost_ret (v := retG noT (.slice xa xm xc) (errS e8 16).2) (by simp [results, Try.results15, asAddr, retG]; rw [load_txv kP]; simp only [Result.andThen_ok]; rw [load_rv kQ]; rfl) rfl ⟨.slice xa xm xc, by rw [HX.out], by rw [HX.out]; exact hv, hB⟩
set_option maxRecDepth 100000 in
set_option maxHeartbeats 8000000 in
theorem refGetTx_5 {s : St} {gt : Tr × St} {e0 e1 e2 e3 e4 e8 : St} {kd n1 n2 n3 : Int} {u0 u1 u2 u3 : Nat} {iv : Trf} {vr : Sid} {e5 e6 e7 : St} {f0 f1 f2 f3 : Nat} {g : List UInt8} (hK : RdK s gt e0 e1 e2 e3 e4 e8 kd n1 n2 n3 u0 u1 u2 u3 ⟨n1, n2, kd, n3, u0, u1, u2, u3, iv, vr, f0, f1, f2, f3, str g⟩) (q1 : (kd == 1) = false) (q2 : (kd == 2) = false) (q5 : (kd == 5) = true) (l4 : 4 ≤ kd) (l6 : kd ≤ 6) (hi : HInv e4 iv e5) (hv0 : HVar e5 vr e6) (hf : HWid e6 f0 f1 f2 f3 e7) (hg : HTxt e7 g e8) (sv : Value) (w : World) (hsl : BSl 0 w.heap.size w sv s.1) :
    Calls Try.prog 15 #[.agg #[sv, .int .i64 s.2]] w (GetTR gt w) := by
  have hmx : Try.prog.follows .mixedOrders = true := by kernel_rfl
  obtain ⟨h0, h1, h2, h3, h4, HY, HN, HB⟩ := hK
  have Jh0 := Lib.hid h0
  clear h0
  have Jh1 := Lib.hid h1
  clear h1
  have Jh2 := Lib.hid h2
  clear h2
  have Jh3 := Lib.hid h3
  clear h3
  have Jh4 := Lib.hid h4
  clear h4
  have JHY := Lib.hid HY
  clear HY
  have JHN := Lib.hid HN
  clear HN
  have JHB := Lib.hid HB
  clear HB
  have Jhi := Lib.hid hi
  clear hi
  have Jhv0 := Lib.hid hv0
  clear hv0
  have Jhf := Lib.hid hf
  clear hf
  have Jhg := Lib.hid hg
  clear hg
  obtain ⟨a, m, c, rfl⟩ := hsl.shape3
  go_enter Try.func15, Try.ntmps15
  go_upto_region 2 with fail
  generalize hW0 : World.alloc _ _ = W0
  have hR : RW 30 (txc noT) w W0 s (.slice a m c) (txc noT) := by
    have b3 := chainA (chainA (chainA (chain0 w (.cells #[.slice a m c, .int .i64 s.2] 45)) (.cells (txc noT).toArray 30)) (.cells #[.slice none 0 0, .int .i64 0] 45)) (.cells (txc noT).toArray 30)
    rw [← hW0]
    exact ⟨(((Blk.new w _ [_, _]).alloc _).alloc _).alloc _, ((Blk.new' (vs := txc noT) (by simp)).alloc _).alloc _, (Blk.new' (vs := [_, _]) (by simp)).alloc _, Blk.new' (vs := txc noT) (by simp), (hsl.below b3 (Nat.le_refl _)).mono (Nat.le_refl _) b3.size, noOct_t noT, b3⟩
  clear hW0 hsl
  obtain ⟨a0, a1⟩ := Blk.c2 hR.a
  go_upto_region 3 with (first
    | (go_at_call 37; refine (Jh0.out _ _ hR.b).mono ?_; rintro e WW ⟨vv, rfl, hv, hb⟩; obtain ⟨va, vm, vc, rfl⟩ := hv.shape3; (try clear c2); replace hR := hR.below hb; clear a0 a1 hb)
    | ((with_reducible refine wpList_store_part 3 (.tmp 10) (.tmp 8) (txc ⟨0, 0, kd, 0, 0, 0, 0, 0, noI, noV, 0, 0, 0, 0, emptyB⟩) hR.l 2 (.int .i64 kd) [.int .i64 kd] ?_ ?_ ?_ ?_ ?_ ?_ ?_ ?_ ?_ ?_ ?_); (· rfl); (· rfl); (· rfl); (· rfl); (· rfl); (· rfl); (· kernel_rfl); (· exact Nat.le_of_ble_eq_true rfl); (· rfl); (· rfl); obtain ⟨hS, hv2⟩ := hR.setL hv (txc ⟨0, 0, kd, 0, 0, 0, 0, 0, noI, noV, 0, 0, 0, 0, emptyB⟩) (noOct_t _); replace hR := hS; replace hv := hv2; clear hS hv2)
    | ((with_reducible refine wpList_store_part 45 (.tmp 1) (.tmp 9) [Value.slice va vm vc, .int .i64 e0.2] hR.a 0 (.agg #[Value.slice va vm vc, .int .i64 e0.2]) [Value.slice va vm vc, .int .i64 e0.2] ?_ ?_ ?_ ?_ ?_ ?_ ?_ ?_ ?_ ?_ ?_); (· rfl); (· rfl); (· rfl); (· rfl); (· rfl); (· rfl); (· kernel_rfl); (· exact Nat.le_of_ble_eq_true rfl); (· rfl); (· rfl); replace hR := RW.setA (s' := e0) hR hv; clear hv; obtain ⟨a0, a1⟩ := Blk.c2 hR.a; have c2 := (hR.l.cell 2).trans rfl))
  clear Jh0
  go_upto_region 4 with (first
    | (go_at_call 37; refine (Jh1.out _ _ hR.b).mono ?_; rintro e WW ⟨vv, rfl, hv, hb⟩; obtain ⟨va, vm, vc, rfl⟩ := hv.shape3; (try clear c2); replace hR := hR.below hb; clear a0 a1 hb)
    | ((with_reducible refine wpList_store_part 3 (.tmp 16) (.tmp 14) (txc ⟨n1, 0, kd, 0, 0, 0, 0, 0, noI, noV, 0, 0, 0, 0, emptyB⟩) hR.l 0 (.int .i64 n1) [.int .i64 n1] ?_ ?_ ?_ ?_ ?_ ?_ ?_ ?_ ?_ ?_ ?_); (· rfl); (· rfl); (· rfl); (· rfl); (· rfl); (· rfl); (· kernel_rfl); (· exact Nat.le_of_ble_eq_true rfl); (· rfl); (· rfl); obtain ⟨hS, hv2⟩ := hR.setL hv (txc ⟨n1, 0, kd, 0, 0, 0, 0, 0, noI, noV, 0, 0, 0, 0, emptyB⟩) (noOct_t _); replace hR := hS; replace hv := hv2; clear hS hv2)
    | ((with_reducible refine wpList_store_part 45 (.tmp 1) (.tmp 15) [Value.slice va vm vc, .int .i64 e1.2] hR.a 0 (.agg #[Value.slice va vm vc, .int .i64 e1.2]) [Value.slice va vm vc, .int .i64 e1.2] ?_ ?_ ?_ ?_ ?_ ?_ ?_ ?_ ?_ ?_ ?_); (· rfl); (· rfl); (· rfl); (· rfl); (· rfl); (· rfl); (· kernel_rfl); (· exact Nat.le_of_ble_eq_true rfl); (· rfl); (· rfl); replace hR := RW.setA (s' := e1) hR hv; clear hv; obtain ⟨a0, a1⟩ := Blk.c2 hR.a; have c2 := (hR.l.cell 2).trans rfl))
  clear Jh1
  go_upto_region 5 with (first
    | (go_at_call 37; refine (Jh2.out _ _ hR.b).mono ?_; rintro e WW ⟨vv, rfl, hv, hb⟩; obtain ⟨va, vm, vc, rfl⟩ := hv.shape3; (try clear c2); replace hR := hR.below hb; clear a0 a1 hb)
    | ((with_reducible refine wpList_store_part 3 (.tmp 22) (.tmp 20) (txc ⟨n1, n2, kd, 0, 0, 0, 0, 0, noI, noV, 0, 0, 0, 0, emptyB⟩) hR.l 1 (.int .i64 n2) [.int .i64 n2] ?_ ?_ ?_ ?_ ?_ ?_ ?_ ?_ ?_ ?_ ?_); (· rfl); (· rfl); (· rfl); (· rfl); (· rfl); (· rfl); (· kernel_rfl); (· exact Nat.le_of_ble_eq_true rfl); (· rfl); (· rfl); obtain ⟨hS, hv2⟩ := hR.setL hv (txc ⟨n1, n2, kd, 0, 0, 0, 0, 0, noI, noV, 0, 0, 0, 0, emptyB⟩) (noOct_t _); replace hR := hS; replace hv := hv2; clear hS hv2)
    | ((with_reducible refine wpList_store_part 45 (.tmp 1) (.tmp 21) [Value.slice va vm vc, .int .i64 e2.2] hR.a 0 (.agg #[Value.slice va vm vc, .int .i64 e2.2]) [Value.slice va vm vc, .int .i64 e2.2] ?_ ?_ ?_ ?_ ?_ ?_ ?_ ?_ ?_ ?_ ?_); (· rfl); (· rfl); (· rfl); (· rfl); (· rfl); (· rfl); (· kernel_rfl); (· exact Nat.le_of_ble_eq_true rfl); (· rfl); (· rfl); replace hR := RW.setA (s' := e2) hR hv; clear hv; obtain ⟨a0, a1⟩ := Blk.c2 hR.a; have c2 := (hR.l.cell 2).trans rfl))
  clear Jh2
  go_upto_region 6 with (first
    | (go_at_call 37; refine (Jh3.out _ _ hR.b).mono ?_; rintro e WW ⟨vv, rfl, hv, hb⟩; obtain ⟨va, vm, vc, rfl⟩ := hv.shape3; (try clear c2); replace hR := hR.below hb; clear a0 a1 hb)
    | ((with_reducible refine wpList_store_part 3 (.tmp 28) (.tmp 26) (txc ⟨n1, n2, kd, n3, 0, 0, 0, 0, noI, noV, 0, 0, 0, 0, emptyB⟩) hR.l 3 (.int .i64 n3) [.int .i64 n3] ?_ ?_ ?_ ?_ ?_ ?_ ?_ ?_ ?_ ?_ ?_); (· rfl); (· rfl); (· rfl); (· rfl); (· rfl); (· rfl); (· kernel_rfl); (· exact Nat.le_of_ble_eq_true rfl); (· rfl); (· rfl); obtain ⟨hS, hv2⟩ := hR.setL hv (txc ⟨n1, n2, kd, n3, 0, 0, 0, 0, noI, noV, 0, 0, 0, 0, emptyB⟩) (noOct_t _); replace hR := hS; replace hv := hv2; clear hS hv2)
    | ((with_reducible refine wpList_store_part 45 (.tmp 1) (.tmp 27) [Value.slice va vm vc, .int .i64 e3.2] hR.a 0 (.agg #[Value.slice va vm vc, .int .i64 e3.2]) [Value.slice va vm vc, .int .i64 e3.2] ?_ ?_ ?_ ?_ ?_ ?_ ?_ ?_ ?_ ?_ ?_); (· rfl); (· rfl); (· rfl); (· rfl); (· rfl); (· rfl); (· kernel_rfl); (· exact Nat.le_of_ble_eq_true rfl); (· rfl); (· rfl); replace hR := RW.setA (s' := e3) hR hv; clear hv; obtain ⟨a0, a1⟩ := Blk.c2 hR.a; have c2 := (hR.l.cell 2).trans rfl))
  clear Jh3
  go_upto_region 7 with (first
    | (go_at_call 38; refine (Jh4.out _ _ hR.b).mono ?_; rintro e WW ⟨vv, rfl, hv, hb⟩; obtain ⟨va, vm, vc, rfl⟩ := hv.shape3; (try clear c2); replace hR := hR.below hb; clear a0 a1 hb)
    | ((with_reducible refine wpList_store_part 24 (.tmp 34) (.tmp 32) (txc ⟨n1, n2, kd, n3, u0, u1, u2, u3, noI, noV, 0, 0, 0, 0, emptyB⟩) hR.l 4 (wv u0 u1 u2 u3) [.int .u64 (u0 : Nat), .int .u64 (u1 : Nat), .int .u64 (u2 : Nat), .int .u64 (u3 : Nat)] ?_ ?_ ?_ ?_ ?_ ?_ ?_ ?_ ?_ ?_ ?_); (· rfl); (· rfl); (· rfl); (· rfl); (· rfl); (· rfl); (· kernel_rfl); (· exact Nat.le_of_ble_eq_true rfl); (· rfl); (· rfl); obtain ⟨hS, hv2⟩ := hR.setL hv (txc ⟨n1, n2, kd, n3, u0, u1, u2, u3, noI, noV, 0, 0, 0, 0, emptyB⟩) (noOct_t _); replace hR := hS; replace hv := hv2; clear hS hv2)
    | ((with_reducible refine wpList_store_part 45 (.tmp 1) (.tmp 33) [Value.slice va vm vc, .int .i64 e4.2] hR.a 0 (.agg #[Value.slice va vm vc, .int .i64 e4.2]) [Value.slice va vm vc, .int .i64 e4.2] ?_ ?_ ?_ ?_ ?_ ?_ ?_ ?_ ?_ ?_ ?_); (· rfl); (· rfl); (· rfl); (· rfl); (· rfl); (· rfl); (· kernel_rfl); (· exact Nat.le_of_ble_eq_true rfl); (· rfl); (· rfl); replace hR := RW.setA (s' := e4) hR hv; clear hv; obtain ⟨a0, a1⟩ := Blk.c2 hR.a; have c2 := (hR.l.cell 2).trans rfl))
  clear Jh4
  go_upto_region 17 with (first
    | (go_at_call 39; refine (Jhi.out _ _ hR.b).mono ?_; rintro e WW ⟨vv, rfl, hv, hb⟩; obtain ⟨va, vm, vc, rfl⟩ := hv.shape3; (try clear c2); replace hR := hR.below hb; clear a0 a1 hb)
    | ((with_reducible refine wpList_store_part 26 (.tmp 68) (.tmp 66) (txc ⟨n1, n2, kd, n3, u0, u1, u2, u3, iv, noV, 0, 0, 0, 0, emptyB⟩) hR.l 8 (ivv iv) (ivc iv) ?_ ?_ ?_ ?_ ?_ ?_ ?_ ?_ ?_ ?_ ?_); (· rfl); (· rfl); (· rfl); (· rfl); (· rfl); (· rfl); (· kernel_rfl); (· exact Nat.le_of_ble_eq_true rfl); (· rfl); (· rfl); obtain ⟨hS, hv2⟩ := hR.setL hv (txc ⟨n1, n2, kd, n3, u0, u1, u2, u3, iv, noV, 0, 0, 0, 0, emptyB⟩) (noOct_t _); replace hR := hS; replace hv := hv2; clear hS hv2)
    | ((with_reducible refine wpList_store_part 45 (.tmp 1) (.tmp 67) [Value.slice va vm vc, .int .i64 e5.2] hR.a 0 (.agg #[Value.slice va vm vc, .int .i64 e5.2]) [Value.slice va vm vc, .int .i64 e5.2] ?_ ?_ ?_ ?_ ?_ ?_ ?_ ?_ ?_ ?_ ?_); (· rfl); (· rfl); (· rfl); (· rfl); (· rfl); (· rfl); (· kernel_rfl); (· exact Nat.le_of_ble_eq_true rfl); (· rfl); (· rfl); replace hR := RW.setA (s' := e5) hR hv; clear hv; obtain ⟨a0, a1⟩ := Blk.c2 hR.a; have c2 := (hR.l.cell 2).trans rfl)
    | (go_at_call 40; refine (Jhv0.out _ _ hR.b).mono ?_; rintro e WW ⟨vv, rfl, hv, hb⟩; obtain ⟨va, vm, vc, rfl⟩ := hv.shape3; (try clear c2); replace hR := hR.below hb; clear a0 a1 hb)
    | ((with_reducible refine wpList_store_part 28 (.tmp 74) (.tmp 72) (txc ⟨n1, n2, kd, n3, u0, u1, u2, u3, iv, vr, 0, 0, 0, 0, emptyB⟩) hR.l 15 (svv vr) (svc vr) ?_ ?_ ?_ ?_ ?_ ?_ ?_ ?_ ?_ ?_ ?_); (· rfl); (· rfl); (· rfl); (· rfl); (· rfl); (· rfl); (· kernel_rfl); (· exact Nat.le_of_ble_eq_true rfl); (· rfl); (· rfl); obtain ⟨hS, hv2⟩ := hR.setL hv (txc ⟨n1, n2, kd, n3, u0, u1, u2, u3, iv, vr, 0, 0, 0, 0, emptyB⟩) (noOct_t _); replace hR := hS; replace hv := hv2; clear hS hv2)
    | ((with_reducible refine wpList_store_part 45 (.tmp 1) (.tmp 73) [Value.slice va vm vc, .int .i64 e6.2] hR.a 0 (.agg #[Value.slice va vm vc, .int .i64 e6.2]) [Value.slice va vm vc, .int .i64 e6.2] ?_ ?_ ?_ ?_ ?_ ?_ ?_ ?_ ?_ ?_ ?_); (· rfl); (· rfl); (· rfl); (· rfl); (· rfl); (· rfl); (· kernel_rfl); (· exact Nat.le_of_ble_eq_true rfl); (· rfl); (· rfl); replace hR := RW.setA (s' := e6) hR hv; clear hv; obtain ⟨a0, a1⟩ := Blk.c2 hR.a; have c2 := (hR.l.cell 2).trans rfl)
    | (go_at_call 38; refine (Jhf.out _ _ hR.b).mono ?_; rintro e WW ⟨vv, rfl, hv, hb⟩; obtain ⟨va, vm, vc, rfl⟩ := hv.shape3; (try clear c2); replace hR := hR.below hb; clear a0 a1 hb)
    | ((with_reducible refine wpList_store_part 24 (.tmp 88) (.tmp 86) (txc ⟨n1, n2, kd, n3, u0, u1, u2, u3, iv, vr, f0, f1, f2, f3, emptyB⟩) hR.l 20 (wv f0 f1 f2 f3) [.int .u64 (f0 : Nat), .int .u64 (f1 : Nat), .int .u64 (f2 : Nat), .int .u64 (f3 : Nat)] ?_ ?_ ?_ ?_ ?_ ?_ ?_ ?_ ?_ ?_ ?_); (· rfl); (· rfl); (· rfl); (· rfl); (· rfl); (· rfl); (· kernel_rfl); (· exact Nat.le_of_ble_eq_true rfl); (· rfl); (· rfl); obtain ⟨hS, hv2⟩ := hR.setL hv (txc ⟨n1, n2, kd, n3, u0, u1, u2, u3, iv, vr, f0, f1, f2, f3, emptyB⟩) (noOct_t _); replace hR := hS; replace hv := hv2; clear hS hv2)
    | ((with_reducible refine wpList_store_part 45 (.tmp 1) (.tmp 87) [Value.slice va vm vc, .int .i64 e7.2] hR.a 0 (.agg #[Value.slice va vm vc, .int .i64 e7.2]) [Value.slice va vm vc, .int .i64 e7.2] ?_ ?_ ?_ ?_ ?_ ?_ ?_ ?_ ?_ ?_ ?_); (· rfl); (· rfl); (· rfl); (· rfl); (· rfl); (· rfl); (· kernel_rfl); (· exact Nat.le_of_ble_eq_true rfl); (· rfl); (· rfl); replace hR := RW.setA (s' := e7) hR hv; clear hv; obtain ⟨a0, a1⟩ := Blk.c2 hR.a; have c2 := (hR.l.cell 2).trans rfl)
    | (go_at_call 41; refine (Jhg.out _ _ hR.b).mono ?_; rintro e WW ⟨vv, rfl, hv, hb⟩; obtain ⟨va, vm, vc, rfl⟩ := hv.shape3; (try clear c2); replace hR := hR.below hb; clear a0 a1 hb)
    | ((with_reducible refine wpList_store_part 9 (.tmp 94) (.tmp 92) (txc ⟨n1, n2, kd, n3, u0, u1, u2, u3, iv, vr, f0, f1, f2, f3, str g⟩) hR.l 24 (.string ⟨g.toArray⟩) [.string ⟨g.toArray⟩] ?_ ?_ ?_ ?_ ?_ ?_ ?_ ?_ ?_ ?_ ?_); (· rfl); (· rfl); (· rfl); (· rfl); (· rfl); (· rfl); (· kernel_rfl); (· exact Nat.le_of_ble_eq_true rfl); (· rfl); (· rfl); obtain ⟨hS, hv2⟩ := hR.setL hv (txc ⟨n1, n2, kd, n3, u0, u1, u2, u3, iv, vr, f0, f1, f2, f3, str g⟩) (noOct_t _); replace hR := hS; replace hv := hv2; clear hS hv2)
    | ((with_reducible refine wpList_store_part 45 (.tmp 1) (.tmp 93) [Value.slice va vm vc, .int .i64 e8.2] hR.a 0 (.agg #[Value.slice va vm vc, .int .i64 e8.2]) [Value.slice va vm vc, .int .i64 e8.2] ?_ ?_ ?_ ?_ ?_ ?_ ?_ ?_ ?_ ?_ ?_); (· rfl); (· rfl); (· rfl); (· rfl); (· rfl); (· rfl); (· kernel_rfl); (· exact Nat.le_of_ble_eq_true rfl); (· rfl); (· rfl); replace hR := RW.setA (s' := e8) hR hv; clear hv; obtain ⟨a0, a1⟩ := Blk.c2 hR.a; have c2 := (hR.l.cell 2).trans rfl))
  clear Jhi Jhv0 Jhf Jhg
  have HC := Lib.hid (refTx_any ⟨n1, n2, kd, n3, u0, u1, u2, u3, iv, vr, f0, f1, f2, f3, str g⟩)
  clear c2
  by_cases he : e8.2 = 0
  · have hq1 : (e8.2 == 0) = true := by simpa using he
    have hq2 : (e8.2 != 0) = false := by simpa using he
    by_cases hm : errT ⟨n1, n2, kd, n3, u0, u1, u2, u3, iv, vr, f0, f1, f2, f3, str g⟩ = 0
    · have HE := Lib.hid hm
      have HX : Hid (gt = (⟨n1, n2, kd, n3, u0, u1, u2, u3, iv, vr, f0, f1, f2, f3, str g⟩, e8)) := Lib.hid (JHY.out he hm)
      clear he hm JHY JHN JHB
      go_upto_region 19 with (first
        | ((with_reducible refine wpList_loadIf 30 (.tmp 4) ?_ (some 99) ?_ ?_ (txv ⟨n1, n2, kd, n3, u0, u1, u2, u3, iv, vr, f0, f1, f2, f3, str g⟩) ?_ ?_); (· rfl); (· rfl); (· rfl); (· exact load_tx hR.l))
        | (go_at_call 8; refine (HC.out _).mono ?_; rw [HE.out]; rintro e V0 ⟨rfl, hb⟩; replace hR := hR.below hb; clear a0 a1; obtain ⟨a0, a1⟩ := Blk.c2 hR.a))
      have kP := hR.p
      have kQ := hR.q
      have hv := hR.b
      have hB := hR.w.drew
      have kL := hR.l
      have kA := hR.a
      clear hR a0 a1 HC HE hq1 hq2
      refine wp_region_held_drew (S := fun W => Blk W (w.heap.size + 3) 30 (txc ⟨n1, n2, kd, n3, u0, u1, u2, u3, iv, vr, f0, f1, f2, f3, str g⟩) ∧ Blk W w.heap.size 45 [.slice va vm vc, .int .i64 e8.2]) hmx ⟨kL, kA⟩ ?_
      intro hS
      replace kP : Blk V0.drew (w.heap.size + 1) 30 (txc noT) := kP
      replace kQ : Blk V0.drew (w.heap.size + 2) 45 [.slice none 0 0, .int .i64 0] := kQ
      replace hv : BSl 0 V0.drew.heap.size V0.drew (.slice va vm vc) e8.1 := (hv.below (Below.refl _ V0).drew (Nat.le_refl _)).mono (Nat.le_refl _) (Nat.le_refl _)
      clear kL kA
      generalize V0.drew = Y2 at *
      refine' wpAnyH_take (i := 0) (oi := _) (v := txv ⟨n1, n2, kd, n3, u0, u1, u2, u3, iv, vr, f0, f1, f2, f3, str g⟩) ?hi13 (by kernel_rfl) (by kernel_rfl) (by kernel_rfl) ?hQ13 (Or.inl ⟨?hw13, ?hy13⟩) hS ?rest13
      case hi13 => simp only [List.getElem?_toArray, List.getElem?_cons_zero]; rfl
      case hQ13 => exact fun _ _ _ h => h
      case hw13 => rfl
      case hy13 => exact fun W' hS' => exec_load 30 (.tmp 4) rfl _ W' (load_tx hS'.1)
      try simp only [Act.put, List.setIfInBounds_toArray, List.set_cons_zero, List.set_cons_succ]
      refine' wpAnyH_take (i := 1) (oi := _) (v := _) ?hi14 (by kernel_rfl) (by kernel_rfl) (by kernel_rfl) ?hQ14 (Or.inl ⟨?hw14, ?hy14⟩) hS ?rest14
      case hi14 => simp only [List.getElem?_toArray, List.getElem?_cons_succ, List.getElem?_cons_zero]; rfl
      case hQ14 => exact fun _ _ _ h => h
      case hw14 => rfl
      case hy14 => intro W' hS'; obtain ⟨a0, a1⟩ := Blk.c2 hS'.2; go_simp; with_reducible rfl
      try simp only [Act.put, List.setIfInBounds_toArray, List.set_cons_zero, List.set_cons_succ]
      refine wpAnyH_ready (rs := [2]) (by kernel_rfl) (by simp) ?_
      refine' AllReadyH.cons (o := _) ?ho15 (fun K hK => ?st15) AllReadyH.nil
      case ho15 => simp only [List.getElem?_toArray, List.getElem?_cons_succ, List.getElem?_cons_zero]; rfl
      case st15 =>
        ((refine wp_store_part 30 (.tmp 2) (.tmp 106) (txc ⟨n1, n2, kd, n3, u0, u1, u2, u3, iv, vr, f0, f1, f2, f3, str g⟩) kP 0 (txv ⟨n1, n2, kd, n3, u0, u1, u2, u3, iv, vr, f0, f1, f2, f3, str g⟩) (txc ⟨n1, n2, kd, n3, u0, u1, u2, u3, iv, vr, f0, f1, f2, f3, str g⟩) ?_ ?_ ?_ ?_ ?_ ?_ ?_ ?_ ?_ ?_); (· rfl); (· rfl); (· rfl); (· rfl); (· rfl); (· kernel_rfl); (· exact Nat.le_of_ble_eq_true rfl); (· rfl); (· rfl))
        refine hK.out _ _ ⟨hS.1.rowO _ (by omega), hS.2.rowO _ (by omega)⟩ (fun hS => ?_)
        clear hK K
        try simp only [Act.put, List.setIfInBounds_toArray, List.set_cons_zero, List.set_cons_succ]
        have kP1 := kP.row (txc ⟨n1, n2, kd, n3, u0, u1, u2, u3, iv, vr, f0, f1, f2, f3, str g⟩)
        have kQ1 := kQ.rowO (txc ⟨n1, n2, kd, n3, u0, u1, u2, u3, iv, vr, f0, f1, f2, f3, str g⟩).toArray (g := w.heap.size + 1) (by omega)
        replace hv := bsl_row hv (noOctT kP) (txc ⟨n1, n2, kd, n3, u0, u1, u2, u3, iv, vr, f0, f1, f2, f3, str g⟩).toArray
        replace hB := below_setRow hB (Nat.le_add_right _ 1) (txc ⟨n1, n2, kd, n3, u0, u1, u2, u3, iv, vr, f0, f1, f2, f3, str g⟩).toArray
        clear kP kQ
        refine wpAnyH_ready (rs := [3]) (by kernel_rfl) (by simp) ?_
        refine' AllReadyH.cons (o := _) ?ho16 (fun K hK => ?st16) AllReadyH.nil
        case ho16 => simp only [List.getElem?_toArray, List.getElem?_cons_succ, List.getElem?_cons_zero]; rfl
        case st16 =>
          ((refine wp_store_part 45 (.tmp 3) (.tmp 107) [Value.slice va vm vc, .int .i64 e8.2] kQ1 0 (.agg #[Value.slice va vm vc, .int .i64 e8.2]) [Value.slice va vm vc, .int .i64 e8.2] ?_ ?_ ?_ ?_ ?_ ?_ ?_ ?_ ?_ ?_); (· rfl); (· rfl); (· rfl); (· rfl); (· rfl); (· kernel_rfl); (· exact Nat.le_of_ble_eq_true rfl); (· rfl); (· rfl))
          refine hK.out _ _ ⟨hS.1.rowO _ (by omega), hS.2.rowO _ (by omega)⟩ (fun hS => ?_)
          clear hK K
          try simp only [Act.put, List.setIfInBounds_toArray, List.set_cons_zero, List.set_cons_succ]
          refine wpAnyH_done (by kernel_rfl) ?_ _
          go_wp2_with fail
          have kP := kP1.rowO [Value.slice va vm vc, .int .i64 e8.2].toArray (g := w.heap.size + 2) (by omega)
          have kQ := kQ1.row [Value.slice va vm vc, .int .i64 e8.2]
          replace hv := bsl_row hv (noOct2 kQ1) [Value.slice va vm vc, .int .i64 e8.2].toArray
          replace hB := below_setRow hB (Nat.le_add_right _ 2) [Value.slice va vm vc, .int .i64 e8.2].toArray
          exact bodyPost_ret (v := retG ⟨n1, n2, kd, n3, u0, u1, u2, u3, iv, vr, f0, f1, f2, f3, str g⟩ (.slice va vm vc) e8.2) (by simp [results, Try.results15, asAddr, retG]; rw [load_txv kP]; simp only [Result.andThen_ok]; rw [load_rv kQ]; rfl) rfl ⟨.slice va vm vc, by rw [HX.out], by rw [HX.out]; exact hv, hB⟩
    · have HX : Hid (gt = (noT, errS e8 16)) := Lib.hid (JHN.out hm)
      have hm1 : (errT ⟨n1, n2, kd, n3, u0, u1, u2, u3, iv, vr, f0, f1, f2, f3, str g⟩ == 0) = false := by simpa using hm
      have hm2 : (errT ⟨n1, n2, kd, n3, u0, u1, u2, u3, iv, vr, f0, f1, f2, f3, str g⟩ != 0) = true := by simpa using hm
      clear he hm JHY JHN JHB
      go_wp2_with (first
        | ((with_reducible refine wpList_loadIf 30 (.tmp 4) ?_ (some 99) ?_ ?_ (txv ⟨n1, n2, kd, n3, u0, u1, u2, u3, iv, vr, f0, f1, f2, f3, str g⟩) ?_ ?_); (· rfl); (· rfl); (· rfl); (· exact load_tx hR.l))
        | (go_at_call 8; refine (HC.out _).mono ?_; rintro e V0 ⟨rfl, hb⟩; replace hR := hR.below hb; clear a0 a1; obtain ⟨a0, a1⟩ := Blk.c2 hR.a)
        | (go_at_call 17; refine (refSpoil_any _ _ hR.b).mono ?_; rintro e V1 ⟨v8, rfl, hv, hb⟩; obtain ⟨xa, xm, xc, rfl⟩ := hv.shape3; replace hR := hR.below hb; clear a0 a1)
        | ((with_reducible refine wpList_store_part 30 (.tmp 2) (.tmp 103) (txc noT) hR.p 0 (txv noT) (txc noT) ?_ ?_ ?_ ?_ ?_ ?_ ?_ ?_ ?_ ?_ ?_); (· rfl); (· rfl); (· rfl); (· rfl); (· rfl); (· rfl); (· kernel_rfl); (· exact Nat.le_of_ble_eq_true rfl); (· rfl); (· rfl); have kP := hR.p.row (txc noT); have kQ0 := hR.q.rowO (txc noT).toArray (g := w.heap.size + 1) (by omega); replace hv := bsl_row hv (noOctT hR.p) (txc noT).toArray; have hB := below_setRow hR.w (Nat.le_add_right _ 1) (txc noT).toArray)
        | ((with_reducible refine wpList_store_part 45 (.tmp 3) (.tmp 105) [Value.slice xa xm xc, .int .i64 (errS e8 16).2] kQ0 0 (.agg #[Value.slice xa xm xc, .int .i64 (errS e8 16).2]) [Value.slice xa xm xc, .int .i64 (errS e8 16).2] ?_ ?_ ?_ ?_ ?_ ?_ ?_ ?_ ?_ ?_ ?_); (· rfl); (· rfl); (· rfl); (· rfl); (· rfl); (· rfl); (· kernel_rfl); (· exact Nat.le_of_ble_eq_true rfl); (· rfl); (· rfl); replace kP := kP.rowO [Value.slice xa xm xc, .int .i64 (errS e8 16).2].toArray (g := w.heap.size + 2) (by omega); have kQ := kQ0.row [Value.slice xa xm xc, .int .i64 (errS e8 16).2]; replace hv := bsl_row hv (noOct2 kQ0) [Value.slice xa xm xc, .int .i64 (errS e8 16).2].toArray; replace hB := below_setRow hB (Nat.le_add_right _ 2) [Value.slice xa xm xc, .int .i64 (errS e8 16).2].toArray))
      exact bodyPost_ret (v := retG noT (.slice xa xm xc) (errS e8 16).2) (by simp [results, Try.results15, asAddr, retG]; rw [load_txv kP]; simp only [Result.andThen_ok]; rw [load_rv kQ]; rfl) rfl ⟨.slice xa xm xc, by rw [HX.out], by rw [HX.out]; exact hv, hB⟩
  · have hq1 : (e8.2 == 0) = false := by simpa using he
    have hq2 : (e8.2 != 0) = true := by simpa using he
    have HX : Hid (gt = (noT, errS e8 16)) := Lib.hid (JHB.out he)
    clear he JHY JHN JHB
    go_wp2_with (first
      | (go_at_call 17; refine (refSpoil_any _ _ hR.b).mono ?_; rintro e V1 ⟨v8, rfl, hv, hb⟩; obtain ⟨xa, xm, xc, rfl⟩ := hv.shape3; replace hR := hR.below hb; clear a0 a1)
      | ((with_reducible refine wpList_store_part 30 (.tmp 2) (.tmp 103) (txc noT) hR.p 0 (txv noT) (txc noT) ?_ ?_ ?_ ?_ ?_ ?_ ?_ ?_ ?_ ?_ ?_); (· rfl); (· rfl); (· rfl); (· rfl); (· rfl); (· rfl); (· kernel_rfl); (· exact Nat.le_of_ble_eq_true rfl); (· rfl); (· rfl); have kP := hR.p.row (txc noT); have kQ0 := hR.q.rowO (txc noT).toArray (g := w.heap.size + 1) (by omega); replace hv := bsl_row hv (noOctT hR.p) (txc noT).toArray; have hB := below_setRow hR.w (Nat.le_add_right _ 1) (txc noT).toArray)
      | ((with_reducible refine wpList_store_part 45 (.tmp 3) (.tmp 105) [Value.slice xa xm xc, .int .i64 (errS e8 16).2] kQ0 0 (.agg #[Value.slice xa xm xc, .int .i64 (errS e8 16).2]) [Value.slice xa xm xc, .int .i64 (errS e8 16).2] ?_ ?_ ?_ ?_ ?_ ?_ ?_ ?_ ?_ ?_ ?_); (· rfl); (· rfl); (· rfl); (· rfl); (· rfl); (· rfl); (· kernel_rfl); (· exact Nat.le_of_ble_eq_true rfl); (· rfl); (· rfl); replace kP := kP.rowO [Value.slice xa xm xc, .int .i64 (errS e8 16).2].toArray (g := w.heap.size + 2) (by omega); have kQ := kQ0.row [Value.slice xa xm xc, .int .i64 (errS e8 16).2]; replace hv := bsl_row hv (noOct2 kQ0) [Value.slice xa xm xc, .int .i64 (errS e8 16).2].toArray; replace hB := below_setRow hB (Nat.le_add_right _ 2) [Value.slice xa xm xc, .int .i64 (errS e8 16).2].toArray))
    exact bodyPost_ret (v := retG noT (.slice xa xm xc) (errS e8 16).2) (by simp [results, Try.results15, asAddr, retG]; rw [load_txv kP]; simp only [Result.andThen_ok]; rw [load_rv kQ]; rfl) rfl ⟨.slice xa xm xc, by rw [HX.out], by rw [HX.out]; exact hv, hB⟩
set_option maxRecDepth 100000 in
set_option maxHeartbeats 8000000 in
theorem refGetTx_6 {s : St} {gt : Tr × St} {e0 e1 e2 e3 e4 e8 : St} {kd n1 n2 n3 : Int} {u0 u1 u2 u3 : Nat} {iv : Trf} {vr : Sid} {e5 e6 e7 : St} {f0 f1 f2 f3 : Nat} {g : List UInt8} (hK : RdK s gt e0 e1 e2 e3 e4 e8 kd n1 n2 n3 u0 u1 u2 u3 ⟨n1, n2, kd, n3, u0, u1, u2, u3, iv, vr, f0, f1, f2, f3, str g⟩) (q1 : (kd == 1) = false) (q2 : (kd == 2) = false) (q5 : (kd == 5) = false) (q6 : (kd == 6) = true) (l4 : 4 ≤ kd) (l6 : kd ≤ 6) (hi : HInv e4 iv e5) (hv0 : HVar e5 vr e6) (hf : HWid e6 f0 f1 f2 f3 e7) (hg : HTxt e7 g e8) (sv : Value) (w : World) (hsl : BSl 0 w.heap.size w sv s.1) :
    Calls Try.prog 15 #[.agg #[sv, .int .i64 s.2]] w (GetTR gt w) := by
  have hmx : Try.prog.follows .mixedOrders = true := by kernel_rfl
  obtain ⟨h0, h1, h2, h3, h4, HY, HN, HB⟩ := hK
  have Jh0 := Lib.hid h0
  clear h0
  have Jh1 := Lib.hid h1
  clear h1
  have Jh2 := Lib.hid h2
  clear h2
  have Jh3 := Lib.hid h3
  clear h3
  have Jh4 := Lib.hid h4
  clear h4
  have JHY := Lib.hid HY
  clear HY
  have JHN := Lib.hid HN
  clear HN
  have JHB := Lib.hid HB
  clear HB
  have Jhi := Lib.hid hi
  clear hi
  have Jhv0 := Lib.hid hv0
  clear hv0
  have Jhf := Lib.hid hf
  clear hf
  have Jhg := Lib.hid hg
  clear hg
  obtain ⟨a, m, c, rfl⟩ := hsl.shape3
  go_enter Try.func15, Try.ntmps15
  go_upto_region 2 with fail
  generalize hW0 : World.alloc _ _ = W0
  have hR : RW 30 (txc noT) w W0 s (.slice a m c) (txc noT) := by
    have b3 := chainA (chainA (chainA (chain0 w (.cells #[.slice a m c, .int .i64 s.2] 45)) (.cells (txc noT).toArray 30)) (.cells #[.slice none 0 0, .int .i64 0] 45)) (.cells (txc noT).toArray 30)
    rw [← hW0]
    exact ⟨(((Blk.new w _ [_, _]).alloc _).alloc _).alloc _, ((Blk.new' (vs := txc noT) (by simp)).alloc _).alloc _, (Blk.new' (vs := [_, _]) (by simp)).alloc _, Blk.new' (vs := txc noT) (by simp), (hsl.below b3 (Nat.le_refl _)).mono (Nat.le_refl _) b3.size, noOct_t noT, b3⟩
  clear hW0 hsl
  obtain ⟨a0, a1⟩ := Blk.c2 hR.a
  go_upto_region 3 with (first
    | (go_at_call 37; refine (Jh0.out _ _ hR.b).mono ?_; rintro e WW ⟨vv, rfl, hv, hb⟩; obtain ⟨va, vm, vc, rfl⟩ := hv.shape3; (try clear c2); replace hR := hR.below hb; clear a0 a1 hb)
    | ((with_reducible refine wpList_store_part 3 (.tmp 10) (.tmp 8) (txc ⟨0, 0, kd, 0, 0, 0, 0, 0, noI, noV, 0, 0, 0, 0, emptyB⟩) hR.l 2 (.int .i64 kd) [.int .i64 kd] ?_ ?_ ?_ ?_ ?_ ?_ ?_ ?_ ?_ ?_ ?_); (· rfl); (· rfl); (· rfl); (· rfl); (· rfl); (· rfl); (· kernel_rfl); (· exact Nat.le_of_ble_eq_true rfl); (· rfl); (· rfl); obtain ⟨hS, hv2⟩ := hR.setL hv (txc ⟨0, 0, kd, 0, 0, 0, 0, 0, noI, noV, 0, 0, 0, 0, emptyB⟩) (noOct_t _); replace hR := hS; replace hv := hv2; clear hS hv2)
    | ((with_reducible refine wpList_store_part 45 (.tmp 1) (.tmp 9) [Value.slice va vm vc, .int .i64 e0.2] hR.a 0 (.agg #[Value.slice va vm vc, .int .i64 e0.2]) [Value.slice va vm vc, .int .i64 e0.2] ?_ ?_ ?_ ?_ ?_ ?_ ?_ ?_ ?_ ?_ ?_); (· rfl); (· rfl); (· rfl); (· rfl); (· rfl); (· rfl); (· kernel_rfl); (· exact Nat.le_of_ble_eq_true rfl); (· rfl); (· rfl); replace hR := RW.setA (s' := e0) hR hv; clear hv; obtain ⟨a0, a1⟩ := Blk.c2 hR.a; have c2 := (hR.l.cell 2).trans rfl))
  clear Jh0
  go_upto_region 4 with (first
    | (go_at_call 37; refine (Jh1.out _ _ hR.b).mono ?_; rintro e WW ⟨vv, rfl, hv, hb⟩; obtain ⟨va, vm, vc, rfl⟩ := hv.shape3; (try clear c2); replace hR := hR.below hb; clear a0 a1 hb)
    | ((with_reducible refine wpList_store_part 3 (.tmp 16) (.tmp 14) (txc ⟨n1, 0, kd, 0, 0, 0, 0, 0, noI, noV, 0, 0, 0, 0, emptyB⟩) hR.l 0 (.int .i64 n1) [.int .i64 n1] ?_ ?_ ?_ ?_ ?_ ?_ ?_ ?_ ?_ ?_ ?_); (· rfl); (· rfl); (· rfl); (· rfl); (· rfl); (· rfl); (· kernel_rfl); (· exact Nat.le_of_ble_eq_true rfl); (· rfl); (· rfl); obtain ⟨hS, hv2⟩ := hR.setL hv (txc ⟨n1, 0, kd, 0, 0, 0, 0, 0, noI, noV, 0, 0, 0, 0, emptyB⟩) (noOct_t _); replace hR := hS; replace hv := hv2; clear hS hv2)
    | ((with_reducible refine wpList_store_part 45 (.tmp 1) (.tmp 15) [Value.slice va vm vc, .int .i64 e1.2] hR.a 0 (.agg #[Value.slice va vm vc, .int .i64 e1.2]) [Value.slice va vm vc, .int .i64 e1.2] ?_ ?_ ?_ ?_ ?_ ?_ ?_ ?_ ?_ ?_ ?_); (· rfl); (· rfl); (· rfl); (· rfl); (· rfl); (· rfl); (· kernel_rfl); (· exact Nat.le_of_ble_eq_true rfl); (· rfl); (· rfl); replace hR := RW.setA (s' := e1) hR hv; clear hv; obtain ⟨a0, a1⟩ := Blk.c2 hR.a; have c2 := (hR.l.cell 2).trans rfl))
  clear Jh1
  go_upto_region 5 with (first
    | (go_at_call 37; refine (Jh2.out _ _ hR.b).mono ?_; rintro e WW ⟨vv, rfl, hv, hb⟩; obtain ⟨va, vm, vc, rfl⟩ := hv.shape3; (try clear c2); replace hR := hR.below hb; clear a0 a1 hb)
    | ((with_reducible refine wpList_store_part 3 (.tmp 22) (.tmp 20) (txc ⟨n1, n2, kd, 0, 0, 0, 0, 0, noI, noV, 0, 0, 0, 0, emptyB⟩) hR.l 1 (.int .i64 n2) [.int .i64 n2] ?_ ?_ ?_ ?_ ?_ ?_ ?_ ?_ ?_ ?_ ?_); (· rfl); (· rfl); (· rfl); (· rfl); (· rfl); (· rfl); (· kernel_rfl); (· exact Nat.le_of_ble_eq_true rfl); (· rfl); (· rfl); obtain ⟨hS, hv2⟩ := hR.setL hv (txc ⟨n1, n2, kd, 0, 0, 0, 0, 0, noI, noV, 0, 0, 0, 0, emptyB⟩) (noOct_t _); replace hR := hS; replace hv := hv2; clear hS hv2)
    | ((with_reducible refine wpList_store_part 45 (.tmp 1) (.tmp 21) [Value.slice va vm vc, .int .i64 e2.2] hR.a 0 (.agg #[Value.slice va vm vc, .int .i64 e2.2]) [Value.slice va vm vc, .int .i64 e2.2] ?_ ?_ ?_ ?_ ?_ ?_ ?_ ?_ ?_ ?_ ?_); (· rfl); (· rfl); (· rfl); (· rfl); (· rfl); (· rfl); (· kernel_rfl); (· exact Nat.le_of_ble_eq_true rfl); (· rfl); (· rfl); replace hR := RW.setA (s' := e2) hR hv; clear hv; obtain ⟨a0, a1⟩ := Blk.c2 hR.a; have c2 := (hR.l.cell 2).trans rfl))
  clear Jh2
  go_upto_region 6 with (first
    | (go_at_call 37; refine (Jh3.out _ _ hR.b).mono ?_; rintro e WW ⟨vv, rfl, hv, hb⟩; obtain ⟨va, vm, vc, rfl⟩ := hv.shape3; (try clear c2); replace hR := hR.below hb; clear a0 a1 hb)
    | ((with_reducible refine wpList_store_part 3 (.tmp 28) (.tmp 26) (txc ⟨n1, n2, kd, n3, 0, 0, 0, 0, noI, noV, 0, 0, 0, 0, emptyB⟩) hR.l 3 (.int .i64 n3) [.int .i64 n3] ?_ ?_ ?_ ?_ ?_ ?_ ?_ ?_ ?_ ?_ ?_); (· rfl); (· rfl); (· rfl); (· rfl); (· rfl); (· rfl); (· kernel_rfl); (· exact Nat.le_of_ble_eq_true rfl); (· rfl); (· rfl); obtain ⟨hS, hv2⟩ := hR.setL hv (txc ⟨n1, n2, kd, n3, 0, 0, 0, 0, noI, noV, 0, 0, 0, 0, emptyB⟩) (noOct_t _); replace hR := hS; replace hv := hv2; clear hS hv2)
    | ((with_reducible refine wpList_store_part 45 (.tmp 1) (.tmp 27) [Value.slice va vm vc, .int .i64 e3.2] hR.a 0 (.agg #[Value.slice va vm vc, .int .i64 e3.2]) [Value.slice va vm vc, .int .i64 e3.2] ?_ ?_ ?_ ?_ ?_ ?_ ?_ ?_ ?_ ?_ ?_); (· rfl); (· rfl); (· rfl); (· rfl); (· rfl); (· rfl); (· kernel_rfl); (· exact Nat.le_of_ble_eq_true rfl); (· rfl); (· rfl); replace hR := RW.setA (s' := e3) hR hv; clear hv; obtain ⟨a0, a1⟩ := Blk.c2 hR.a; have c2 := (hR.l.cell 2).trans rfl))
  clear Jh3
  go_upto_region 7 with (first
    | (go_at_call 38; refine (Jh4.out _ _ hR.b).mono ?_; rintro e WW ⟨vv, rfl, hv, hb⟩; obtain ⟨va, vm, vc, rfl⟩ := hv.shape3; (try clear c2); replace hR := hR.below hb; clear a0 a1 hb)
    | ((with_reducible refine wpList_store_part 24 (.tmp 34) (.tmp 32) (txc ⟨n1, n2, kd, n3, u0, u1, u2, u3, noI, noV, 0, 0, 0, 0, emptyB⟩) hR.l 4 (wv u0 u1 u2 u3) [.int .u64 (u0 : Nat), .int .u64 (u1 : Nat), .int .u64 (u2 : Nat), .int .u64 (u3 : Nat)] ?_ ?_ ?_ ?_ ?_ ?_ ?_ ?_ ?_ ?_ ?_); (· rfl); (· rfl); (· rfl); (· rfl); (· rfl); (· rfl); (· kernel_rfl); (· exact Nat.le_of_ble_eq_true rfl); (· rfl); (· rfl); obtain ⟨hS, hv2⟩ := hR.setL hv (txc ⟨n1, n2, kd, n3, u0, u1, u2, u3, noI, noV, 0, 0, 0, 0, emptyB⟩) (noOct_t _); replace hR := hS; replace hv := hv2; clear hS hv2)
    | ((with_reducible refine wpList_store_part 45 (.tmp 1) (.tmp 33) [Value.slice va vm vc, .int .i64 e4.2] hR.a 0 (.agg #[Value.slice va vm vc, .int .i64 e4.2]) [Value.slice va vm vc, .int .i64 e4.2] ?_ ?_ ?_ ?_ ?_ ?_ ?_ ?_ ?_ ?_ ?_); (· rfl); (· rfl); (· rfl); (· rfl); (· rfl); (· rfl); (· kernel_rfl); (· exact Nat.le_of_ble_eq_true rfl); (· rfl); (· rfl); replace hR := RW.setA (s' := e4) hR hv; clear hv; obtain ⟨a0, a1⟩ := Blk.c2 hR.a; have c2 := (hR.l.cell 2).trans rfl))
  clear Jh4
  go_upto_region 17 with (first
    | (go_at_call 39; refine (Jhi.out _ _ hR.b).mono ?_; rintro e WW ⟨vv, rfl, hv, hb⟩; obtain ⟨va, vm, vc, rfl⟩ := hv.shape3; (try clear c2); replace hR := hR.below hb; clear a0 a1 hb)
    | ((with_reducible refine wpList_store_part 26 (.tmp 68) (.tmp 66) (txc ⟨n1, n2, kd, n3, u0, u1, u2, u3, iv, noV, 0, 0, 0, 0, emptyB⟩) hR.l 8 (ivv iv) (ivc iv) ?_ ?_ ?_ ?_ ?_ ?_ ?_ ?_ ?_ ?_ ?_); (· rfl); (· rfl); (· rfl); (· rfl); (· rfl); (· rfl); (· kernel_rfl); (· exact Nat.le_of_ble_eq_true rfl); (· rfl); (· rfl); obtain ⟨hS, hv2⟩ := hR.setL hv (txc ⟨n1, n2, kd, n3, u0, u1, u2, u3, iv, noV, 0, 0, 0, 0, emptyB⟩) (noOct_t _); replace hR := hS; replace hv := hv2; clear hS hv2)
    | ((with_reducible refine wpList_store_part 45 (.tmp 1) (.tmp 67) [Value.slice va vm vc, .int .i64 e5.2] hR.a 0 (.agg #[Value.slice va vm vc, .int .i64 e5.2]) [Value.slice va vm vc, .int .i64 e5.2] ?_ ?_ ?_ ?_ ?_ ?_ ?_ ?_ ?_ ?_ ?_); (· rfl); (· rfl); (· rfl); (· rfl); (· rfl); (· rfl); (· kernel_rfl); (· exact Nat.le_of_ble_eq_true rfl); (· rfl); (· rfl); replace hR := RW.setA (s' := e5) hR hv; clear hv; obtain ⟨a0, a1⟩ := Blk.c2 hR.a; have c2 := (hR.l.cell 2).trans rfl)
    | (go_at_call 40; refine (Jhv0.out _ _ hR.b).mono ?_; rintro e WW ⟨vv, rfl, hv, hb⟩; obtain ⟨va, vm, vc, rfl⟩ := hv.shape3; (try clear c2); replace hR := hR.below hb; clear a0 a1 hb)
    | ((with_reducible refine wpList_store_part 28 (.tmp 74) (.tmp 72) (txc ⟨n1, n2, kd, n3, u0, u1, u2, u3, iv, vr, 0, 0, 0, 0, emptyB⟩) hR.l 15 (svv vr) (svc vr) ?_ ?_ ?_ ?_ ?_ ?_ ?_ ?_ ?_ ?_ ?_); (· rfl); (· rfl); (· rfl); (· rfl); (· rfl); (· rfl); (· kernel_rfl); (· exact Nat.le_of_ble_eq_true rfl); (· rfl); (· rfl); obtain ⟨hS, hv2⟩ := hR.setL hv (txc ⟨n1, n2, kd, n3, u0, u1, u2, u3, iv, vr, 0, 0, 0, 0, emptyB⟩) (noOct_t _); replace hR := hS; replace hv := hv2; clear hS hv2)
    | ((with_reducible refine wpList_store_part 45 (.tmp 1) (.tmp 73) [Value.slice va vm vc, .int .i64 e6.2] hR.a 0 (.agg #[Value.slice va vm vc, .int .i64 e6.2]) [Value.slice va vm vc, .int .i64 e6.2] ?_ ?_ ?_ ?_ ?_ ?_ ?_ ?_ ?_ ?_ ?_); (· rfl); (· rfl); (· rfl); (· rfl); (· rfl); (· rfl); (· kernel_rfl); (· exact Nat.le_of_ble_eq_true rfl); (· rfl); (· rfl); replace hR := RW.setA (s' := e6) hR hv; clear hv; obtain ⟨a0, a1⟩ := Blk.c2 hR.a; have c2 := (hR.l.cell 2).trans rfl)
    | (go_at_call 38; refine (Jhf.out _ _ hR.b).mono ?_; rintro e WW ⟨vv, rfl, hv, hb⟩; obtain ⟨va, vm, vc, rfl⟩ := hv.shape3; (try clear c2); replace hR := hR.below hb; clear a0 a1 hb)
    | ((with_reducible refine wpList_store_part 24 (.tmp 88) (.tmp 86) (txc ⟨n1, n2, kd, n3, u0, u1, u2, u3, iv, vr, f0, f1, f2, f3, emptyB⟩) hR.l 20 (wv f0 f1 f2 f3) [.int .u64 (f0 : Nat), .int .u64 (f1 : Nat), .int .u64 (f2 : Nat), .int .u64 (f3 : Nat)] ?_ ?_ ?_ ?_ ?_ ?_ ?_ ?_ ?_ ?_ ?_); (· rfl); (· rfl); (· rfl); (· rfl); (· rfl); (· rfl); (· kernel_rfl); (· exact Nat.le_of_ble_eq_true rfl); (· rfl); (· rfl); obtain ⟨hS, hv2⟩ := hR.setL hv (txc ⟨n1, n2, kd, n3, u0, u1, u2, u3, iv, vr, f0, f1, f2, f3, emptyB⟩) (noOct_t _); replace hR := hS; replace hv := hv2; clear hS hv2)
    | ((with_reducible refine wpList_store_part 45 (.tmp 1) (.tmp 87) [Value.slice va vm vc, .int .i64 e7.2] hR.a 0 (.agg #[Value.slice va vm vc, .int .i64 e7.2]) [Value.slice va vm vc, .int .i64 e7.2] ?_ ?_ ?_ ?_ ?_ ?_ ?_ ?_ ?_ ?_ ?_); (· rfl); (· rfl); (· rfl); (· rfl); (· rfl); (· rfl); (· kernel_rfl); (· exact Nat.le_of_ble_eq_true rfl); (· rfl); (· rfl); replace hR := RW.setA (s' := e7) hR hv; clear hv; obtain ⟨a0, a1⟩ := Blk.c2 hR.a; have c2 := (hR.l.cell 2).trans rfl)
    | (go_at_call 41; refine (Jhg.out _ _ hR.b).mono ?_; rintro e WW ⟨vv, rfl, hv, hb⟩; obtain ⟨va, vm, vc, rfl⟩ := hv.shape3; (try clear c2); replace hR := hR.below hb; clear a0 a1 hb)
    | ((with_reducible refine wpList_store_part 9 (.tmp 94) (.tmp 92) (txc ⟨n1, n2, kd, n3, u0, u1, u2, u3, iv, vr, f0, f1, f2, f3, str g⟩) hR.l 24 (.string ⟨g.toArray⟩) [.string ⟨g.toArray⟩] ?_ ?_ ?_ ?_ ?_ ?_ ?_ ?_ ?_ ?_ ?_); (· rfl); (· rfl); (· rfl); (· rfl); (· rfl); (· rfl); (· kernel_rfl); (· exact Nat.le_of_ble_eq_true rfl); (· rfl); (· rfl); obtain ⟨hS, hv2⟩ := hR.setL hv (txc ⟨n1, n2, kd, n3, u0, u1, u2, u3, iv, vr, f0, f1, f2, f3, str g⟩) (noOct_t _); replace hR := hS; replace hv := hv2; clear hS hv2)
    | ((with_reducible refine wpList_store_part 45 (.tmp 1) (.tmp 93) [Value.slice va vm vc, .int .i64 e8.2] hR.a 0 (.agg #[Value.slice va vm vc, .int .i64 e8.2]) [Value.slice va vm vc, .int .i64 e8.2] ?_ ?_ ?_ ?_ ?_ ?_ ?_ ?_ ?_ ?_ ?_); (· rfl); (· rfl); (· rfl); (· rfl); (· rfl); (· rfl); (· kernel_rfl); (· exact Nat.le_of_ble_eq_true rfl); (· rfl); (· rfl); replace hR := RW.setA (s' := e8) hR hv; clear hv; obtain ⟨a0, a1⟩ := Blk.c2 hR.a; have c2 := (hR.l.cell 2).trans rfl))
  clear Jhi Jhv0 Jhf Jhg
  have HC := Lib.hid (refTx_any ⟨n1, n2, kd, n3, u0, u1, u2, u3, iv, vr, f0, f1, f2, f3, str g⟩)
  clear c2
  by_cases he : e8.2 = 0
  · have hq1 : (e8.2 == 0) = true := by simpa using he
    have hq2 : (e8.2 != 0) = false := by simpa using he
    by_cases hm : errT ⟨n1, n2, kd, n3, u0, u1, u2, u3, iv, vr, f0, f1, f2, f3, str g⟩ = 0
    · have HE := Lib.hid hm
      have HX : Hid (gt = (⟨n1, n2, kd, n3, u0, u1, u2, u3, iv, vr, f0, f1, f2, f3, str g⟩, e8)) := Lib.hid (JHY.out he hm)
      clear he hm JHY JHN JHB
      go_upto_region 19 with (first
        | ((with_reducible refine wpList_loadIf 30 (.tmp 4) ?_ (some 99) ?_ ?_ (txv ⟨n1, n2, kd, n3, u0, u1, u2, u3, iv, vr, f0, f1, f2, f3, str g⟩) ?_ ?_); (· rfl); (· rfl); (· rfl); (· exact load_tx hR.l))
        | (go_at_call 8; refine (HC.out _).mono ?_; rw [HE.out]; rintro e V0 ⟨rfl, hb⟩; replace hR := hR.below hb; clear a0 a1; obtain ⟨a0, a1⟩ := Blk.c2 hR.a))
      have kP := hR.p
      have kQ := hR.q
      have hv := hR.b
      have hB := hR.w.drew
      have kL := hR.l
      have kA := hR.a
      clear hR a0 a1 HC HE hq1 hq2
      refine wp_region_held_drew (S := fun W => Blk W (w.heap.size + 3) 30 (txc ⟨n1, n2, kd, n3, u0, u1, u2, u3, iv, vr, f0, f1, f2, f3, str g⟩) ∧ Blk W w.heap.size 45 [.slice va vm vc, .int .i64 e8.2]) hmx ⟨kL, kA⟩ ?_
      intro hS
      replace kP : Blk V0.drew (w.heap.size + 1) 30 (txc noT) := kP
      replace kQ : Blk V0.drew (w.heap.size + 2) 45 [.slice none 0 0, .int .i64 0] := kQ
      replace hv : BSl 0 V0.drew.heap.size V0.drew (.slice va vm vc) e8.1 := (hv.below (Below.refl _ V0).drew (Nat.le_refl _)).mono (Nat.le_refl _) (Nat.le_refl _)
      clear kL kA
      generalize V0.drew = Y2 at *
      refine' wpAnyH_take (i := 0) (oi := _) (v := txv ⟨n1, n2, kd, n3, u0, u1, u2, u3, iv, vr, f0, f1, f2, f3, str g⟩) ?hi17 (by kernel_rfl) (by kernel_rfl) (by kernel_rfl) ?hQ17 (Or.inl ⟨?hw17, ?hy17⟩) hS ?rest17
      case hi17 => simp only [List.getElem?_toArray, List.getElem?_cons_zero]; rfl
      case hQ17 => exact fun _ _ _ h => h
      case hw17 => rfl
      case hy17 => exact fun W' hS' => exec_load 30 (.tmp 4) rfl _ W' (load_tx hS'.1)
      try simp only [Act.put, List.setIfInBounds_toArray, List.set_cons_zero, List.set_cons_succ]
      refine' wpAnyH_take (i := 1) (oi := _) (v := _) ?hi18 (by kernel_rfl) (by kernel_rfl) (by kernel_rfl) ?hQ18 (Or.inl ⟨?hw18, ?hy18⟩) hS ?rest18
      case hi18 => simp only [List.getElem?_toArray, List.getElem?_cons_succ, List.getElem?_cons_zero]; rfl
      case hQ18 => exact fun _ _ _ h => h
      case hw18 => rfl
      case hy18 => intro W' hS'; obtain ⟨a0, a1⟩ := Blk.c2 hS'.2; go_simp; with_reducible rfl
      try simp only [Act.put, List.setIfInBounds_toArray, List.set_cons_zero, List.set_cons_succ]
      refine wpAnyH_ready (rs := [2]) (by kernel_rfl) (by simp) ?_
      refine' AllReadyH.cons (o := _) ?ho19 (fun K hK => ?st19) AllReadyH.nil
      case ho19 => simp only [List.getElem?_toArray, List.getElem?_cons_succ, List.getElem?_cons_zero]; rfl
      case st19 =>
        ((refine wp_store_part 30 (.tmp 2) (.tmp 106) (txc ⟨n1, n2, kd, n3, u0, u1, u2, u3, iv, vr, f0, f1, f2, f3, str g⟩) kP 0 (txv ⟨n1, n2, kd, n3, u0, u1, u2, u3, iv, vr, f0, f1, f2, f3, str g⟩) (txc ⟨n1, n2, kd, n3, u0, u1, u2, u3, iv, vr, f0, f1, f2, f3, str g⟩) ?_ ?_ ?_ ?_ ?_ ?_ ?_ ?_ ?_ ?_); (· rfl); (· rfl); (· rfl); (· rfl); (· rfl); (· kernel_rfl); (· exact Nat.le_of_ble_eq_true rfl); (· rfl); (· rfl))
        refine hK.out _ _ ⟨hS.1.rowO _ (by omega), hS.2.rowO _ (by omega)⟩ (fun hS => ?_)
        clear hK K
        try simp only [Act.put, List.setIfInBounds_toArray, List.set_cons_zero, List.set_cons_succ]
        have kP1 := kP.row (txc ⟨n1, n2, kd, n3, u0, u1, u2, u3, iv, vr, f0, f1, f2, f3, str g⟩)
        have kQ1 := kQ.rowO (txc ⟨n1, n2, kd, n3, u0, u1, u2, u3, iv, vr, f0, f1, f2, f3, str g⟩).toArray (g := w.heap.size + 1) (by omega)
        replace hv := bsl_row hv (noOctT kP) (txc ⟨n1, n2, kd, n3, u0, u1, u2, u3, iv, vr, f0, f1, f2, f3, str g⟩).toArray
        replace hB := below_setRow hB (Nat.le_add_right _ 1) (txc ⟨n1, n2, kd, n3, u0, u1, u2, u3, iv, vr, f0, f1, f2, f3, str g⟩).toArray
        clear kP kQ
        refine wpAnyH_ready (rs := [3]) (by kernel_rfl) (by simp) ?_
        refine' AllReadyH.cons (o := _) ?ho20 (fun K hK => ?st20) AllReadyH.nil
        case ho20 => simp only [List.getElem?_toArray, List.getElem?_cons_succ, List.getElem?_cons_zero]; rfl
        case st20 =>
          ((refine wp_store_part 45 (.tmp 3) (.tmp 107) [Value.slice va vm vc, .int .i64 e8.2] kQ1 0 (.agg #[Value.slice va vm vc, .int .i64 e8.2]) [Value.slice va vm vc, .int .i64 e8.2] ?_ ?_ ?_ ?_ ?_ ?_ ?_ ?_ ?_ ?_); (· rfl); (· rfl); (· rfl); (· rfl); (· rfl); (· kernel_rfl); (· exact Nat.le_of_ble_eq_true rfl); (· rfl); (· rfl))
          refine hK.out _ _ ⟨hS.1.rowO _ (by omega), hS.2.rowO _ (by omega)⟩ (fun hS => ?_)
          clear hK K
          try simp only [Act.put, List.setIfInBounds_toArray, List.set_cons_zero, List.set_cons_succ]
          refine wpAnyH_done (by kernel_rfl) ?_ _
          go_wp2_with fail
          have kP := kP1.rowO [Value.slice va vm vc, .int .i64 e8.2].toArray (g := w.heap.size + 2) (by omega)
          have kQ := kQ1.row [Value.slice va vm vc, .int .i64 e8.2]
          replace hv := bsl_row hv (noOct2 kQ1) [Value.slice va vm vc, .int .i64 e8.2].toArray
          replace hB := below_setRow hB (Nat.le_add_right _ 2) [Value.slice va vm vc, .int .i64 e8.2].toArray
          exact bodyPost_ret (v := retG ⟨n1, n2, kd, n3, u0, u1, u2, u3, iv, vr, f0, f1, f2, f3, str g⟩ (.slice va vm vc) e8.2) (by simp [results, Try.results15, asAddr, retG]; rw [load_txv kP]; simp only [Result.andThen_ok]; rw [load_rv kQ]; rfl) rfl ⟨.slice va vm vc, by rw [HX.out], by rw [HX.out]; exact hv, hB⟩
    · have HX : Hid (gt = (noT, errS e8 16)) := Lib.hid (JHN.out hm)
      have hm1 : (errT ⟨n1, n2, kd, n3, u0, u1, u2, u3, iv, vr, f0, f1, f2, f3, str g⟩ == 0) = false := by simpa using hm
      have hm2 : (errT ⟨n1, n2, kd, n3, u0, u1, u2, u3, iv, vr, f0, f1, f2, f3, str g⟩ != 0) = true := by simpa using hm
      clear he hm JHY JHN JHB
      go_wp2_with (first
        | ((with_reducible refine wpList_loadIf 30 (.tmp 4) ?_ (some 99) ?_ ?_ (txv ⟨n1, n2, kd, n3, u0, u1, u2, u3, iv, vr, f0, f1, f2, f3, str g⟩) ?_ ?_); (· rfl); (· rfl); (· rfl); (· exact load_tx hR.l))
        | (go_at_call 8; refine (HC.out _).mono ?_; rintro e V0 ⟨rfl, hb⟩; replace hR := hR.below hb; clear a0 a1; obtain ⟨a0, a1⟩ := Blk.c2 hR.a)
        | (go_at_call 17; refine (refSpoil_any _ _ hR.b).mono ?_; rintro e V1 ⟨v8, rfl, hv, hb⟩; obtain ⟨xa, xm, xc, rfl⟩ := hv.shape3; replace hR := hR.below hb; clear a0 a1)
        | ((with_reducible refine wpList_store_part 30 (.tmp 2) (.tmp 103) (txc noT) hR.p 0 (txv noT) (txc noT) ?_ ?_ ?_ ?_ ?_ ?_ ?_ ?_ ?_ ?_ ?_); (· rfl); (· rfl); (· rfl); (· rfl); (· rfl); (· rfl); (· kernel_rfl); (· exact Nat.le_of_ble_eq_true rfl); (· rfl); (· rfl); have kP := hR.p.row (txc noT); have kQ0 := hR.q.rowO (txc noT).toArray (g := w.heap.size + 1) (by omega); replace hv := bsl_row hv (noOctT hR.p) (txc noT).toArray; have hB := below_setRow hR.w (Nat.le_add_right _ 1) (txc noT).toArray)
        | ((with_reducible refine wpList_store_part 45 (.tmp 3) (.tmp 105) [Value.slice xa xm xc, .int .i64 (errS e8 16).2] kQ0 0 (.agg #[Value.slice xa xm xc, .int .i64 (errS e8 16).2]) [Value.slice xa xm xc, .int .i64 (errS e8 16).2] ?_ ?_ ?_ ?_ ?_ ?_ ?_ ?_ ?_ ?_ ?_); (· rfl); (· rfl); (· rfl); (· rfl); (· rfl); (· rfl); (· kernel_rfl); (· exact Nat.le_of_ble_eq_true rfl); (· rfl); (· rfl); replace kP := kP.rowO [Value.slice xa xm xc, .int .i64 (errS e8 16).2].toArray (g := w.heap.size + 2) (by omega); have kQ := kQ0.row [Value.slice xa xm xc, .int .i64 (errS e8 16).2]; replace hv := bsl_row hv (noOct2 kQ0) [Value.slice xa xm xc, .int .i64 (errS e8 16).2].toArray; replace hB := below_setRow hB (Nat.le_add_right _ 2) [Value.slice xa xm xc, .int .i64 (errS e8 16).2].toArray))
      exact bodyPost_ret (v := retG noT (.slice xa xm xc) (errS e8 16).2) (by simp [results, Try.results15, asAddr, retG]; rw [load_txv kP]; simp only [Result.andThen_ok]; rw [load_rv kQ]; rfl) rfl ⟨.slice xa xm xc, by rw [HX.out], by rw [HX.out]; exact hv, hB⟩
  · have hq1 : (e8.2 == 0) = false := by simpa using he
    have hq2 : (e8.2 != 0) = true := by simpa using he
    have HX : Hid (gt = (noT, errS e8 16)) := Lib.hid (JHB.out he)
    clear he JHY JHN JHB
    go_wp2_with (first
      | (go_at_call 17; refine (refSpoil_any _ _ hR.b).mono ?_; rintro e V1 ⟨v8, rfl, hv, hb⟩; obtain ⟨xa, xm, xc, rfl⟩ := hv.shape3; replace hR := hR.below hb; clear a0 a1)
      | ((with_reducible refine wpList_store_part 30 (.tmp 2) (.tmp 103) (txc noT) hR.p 0 (txv noT) (txc noT) ?_ ?_ ?_ ?_ ?_ ?_ ?_ ?_ ?_ ?_ ?_); (· rfl); (· rfl); (· rfl); (· rfl); (· rfl); (· rfl); (· kernel_rfl); (· exact Nat.le_of_ble_eq_true rfl); (· rfl); (· rfl); have kP := hR.p.row (txc noT); have kQ0 := hR.q.rowO (txc noT).toArray (g := w.heap.size + 1) (by omega); replace hv := bsl_row hv (noOctT hR.p) (txc noT).toArray; have hB := below_setRow hR.w (Nat.le_add_right _ 1) (txc noT).toArray)
      | ((with_reducible refine wpList_store_part 45 (.tmp 3) (.tmp 105) [Value.slice xa xm xc, .int .i64 (errS e8 16).2] kQ0 0 (.agg #[Value.slice xa xm xc, .int .i64 (errS e8 16).2]) [Value.slice xa xm xc, .int .i64 (errS e8 16).2] ?_ ?_ ?_ ?_ ?_ ?_ ?_ ?_ ?_ ?_ ?_); (· rfl); (· rfl); (· rfl); (· rfl); (· rfl); (· rfl); (· kernel_rfl); (· exact Nat.le_of_ble_eq_true rfl); (· rfl); (· rfl); replace kP := kP.rowO [Value.slice xa xm xc, .int .i64 (errS e8 16).2].toArray (g := w.heap.size + 2) (by omega); have kQ := kQ0.row [Value.slice xa xm xc, .int .i64 (errS e8 16).2]; replace hv := bsl_row hv (noOct2 kQ0) [Value.slice xa xm xc, .int .i64 (errS e8 16).2].toArray; replace hB := below_setRow hB (Nat.le_add_right _ 2) [Value.slice xa xm xc, .int .i64 (errS e8 16).2].toArray))
    exact bodyPost_ret (v := retG noT (.slice xa xm xc) (errS e8 16).2) (by simp [results, Try.results15, asAddr, retG]; rw [load_txv kP]; simp only [Result.andThen_ok]; rw [load_rv kQ]; rfl) rfl ⟨.slice xa xm xc, by rw [HX.out], by rw [HX.out]; exact hv, hB⟩
set_option maxRecDepth 100000 in
set_option maxHeartbeats 8000000 in
theorem refGetTx_lo {s : St} {gt : Tr × St} {e0 e1 e2 e3 e4 e8 : St} {kd n1 n2 n3 : Int} {u0 u1 u2 u3 : Nat}  (hK : RdK s gt e0 e1 e2 e3 e4 e8 kd n1 n2 n3 u0 u1 u2 u3 ⟨n1, n2, kd, n3, u0, u1, u2, u3, noI, noV, 0, 0, 0, 0, emptyB⟩) (q1 : (kd == 1) = false) (q2 : (kd == 2) = false) (q5 : (kd == 5) = false) (q6 : (kd == 6) = false) (l4 : ¬ 4 ≤ kd) (he4 : e4 = e8) (sv : Value) (w : World) (hsl : BSl 0 w.heap.size w sv s.1) :
    Calls Try.prog 15 #[.agg #[sv, .int .i64 s.2]] w (GetTR gt w) := by
  have hmx : Try.prog.follows .mixedOrders = true := by kernel_rfl
  obtain ⟨h0, h1, h2, h3, h4, HY, HN, HB⟩ := hK
  obtain rfl := he4
  have Jh0 := Lib.hid h0
  clear h0
  have Jh1 := Lib.hid h1
  clear h1
  have Jh2 := Lib.hid h2
  clear h2
  have Jh3 := Lib.hid h3
  clear h3
  have Jh4 := Lib.hid h4
  clear h4
  have JHY := Lib.hid HY
  clear HY
  have JHN := Lib.hid HN
  clear HN
  have JHB := Lib.hid HB
  clear HB
  obtain ⟨a, m, c, rfl⟩ := hsl.shape3
  go_enter Try.func15, Try.ntmps15
  go_upto_region 2 with fail
  generalize hW0 : World.alloc _ _ = W0
  have hR : RW 30 (txc noT) w W0 s (.slice a m c) (txc noT) := by
    have b3 := chainA (chainA (chainA (chain0 w (.cells #[.slice a m c, .int .i64 s.2] 45)) (.cells (txc noT).toArray 30)) (.cells #[.slice none 0 0, .int .i64 0] 45)) (.cells (txc noT).toArray 30)
    rw [← hW0]
    exact ⟨(((Blk.new w _ [_, _]).alloc _).alloc _).alloc _, ((Blk.new' (vs := txc noT) (by simp)).alloc _).alloc _, (Blk.new' (vs := [_, _]) (by simp)).alloc _, Blk.new' (vs := txc noT) (by simp), (hsl.below b3 (Nat.le_refl _)).mono (Nat.le_refl _) b3.size, noOct_t noT, b3⟩
  clear hW0 hsl
  obtain ⟨a0, a1⟩ := Blk.c2 hR.a
  go_upto_region 3 with (first
    | (go_at_call 37; refine (Jh0.out _ _ hR.b).mono ?_; rintro e WW ⟨vv, rfl, hv, hb⟩; obtain ⟨va, vm, vc, rfl⟩ := hv.shape3; (try clear c2); replace hR := hR.below hb; clear a0 a1 hb)
    | ((with_reducible refine wpList_store_part 3 (.tmp 10) (.tmp 8) (txc ⟨0, 0, kd, 0, 0, 0, 0, 0, noI, noV, 0, 0, 0, 0, emptyB⟩) hR.l 2 (.int .i64 kd) [.int .i64 kd] ?_ ?_ ?_ ?_ ?_ ?_ ?_ ?_ ?_ ?_ ?_); (· rfl); (· rfl); (· rfl); (· rfl); (· rfl); (· rfl); (· kernel_rfl); (· exact Nat.le_of_ble_eq_true rfl); (· rfl); (· rfl); obtain ⟨hS, hv2⟩ := hR.setL hv (txc ⟨0, 0, kd, 0, 0, 0, 0, 0, noI, noV, 0, 0, 0, 0, emptyB⟩) (noOct_t _); replace hR := hS; replace hv := hv2; clear hS hv2)
    | ((with_reducible refine wpList_store_part 45 (.tmp 1) (.tmp 9) [Value.slice va vm vc, .int .i64 e0.2] hR.a 0 (.agg #[Value.slice va vm vc, .int .i64 e0.2]) [Value.slice va vm vc, .int .i64 e0.2] ?_ ?_ ?_ ?_ ?_ ?_ ?_ ?_ ?_ ?_ ?_); (· rfl); (· rfl); (· rfl); (· rfl); (· rfl); (· rfl); (· kernel_rfl); (· exact Nat.le_of_ble_eq_true rfl); (· rfl); (· rfl); replace hR := RW.setA (s' := e0) hR hv; clear hv; obtain ⟨a0, a1⟩ := Blk.c2 hR.a; have c2 := (hR.l.cell 2).trans rfl))
  clear Jh0
  go_upto_region 4 with (first
    | (go_at_call 37; refine (Jh1.out _ _ hR.b).mono ?_; rintro e WW ⟨vv, rfl, hv, hb⟩; obtain ⟨va, vm, vc, rfl⟩ := hv.shape3; (try clear c2); replace hR := hR.below hb; clear a0 a1 hb)
    | ((with_reducible refine wpList_store_part 3 (.tmp 16) (.tmp 14) (txc ⟨n1, 0, kd, 0, 0, 0, 0, 0, noI, noV, 0, 0, 0, 0, emptyB⟩) hR.l 0 (.int .i64 n1) [.int .i64 n1] ?_ ?_ ?_ ?_ ?_ ?_ ?_ ?_ ?_ ?_ ?_); (· rfl); (· rfl); (· rfl); (· rfl); (· rfl); (· rfl); (· kernel_rfl); (· exact Nat.le_of_ble_eq_true rfl); (· rfl); (· rfl); obtain ⟨hS, hv2⟩ := hR.setL hv (txc ⟨n1, 0, kd, 0, 0, 0, 0, 0, noI, noV, 0, 0, 0, 0, emptyB⟩) (noOct_t _); replace hR := hS; replace hv := hv2; clear hS hv2)
    | ((with_reducible refine wpList_store_part 45 (.tmp 1) (.tmp 15) [Value.slice va vm vc, .int .i64 e1.2] hR.a 0 (.agg #[Value.slice va vm vc, .int .i64 e1.2]) [Value.slice va vm vc, .int .i64 e1.2] ?_ ?_ ?_ ?_ ?_ ?_ ?_ ?_ ?_ ?_ ?_); (· rfl); (· rfl); (· rfl); (· rfl); (· rfl); (· rfl); (· kernel_rfl); (· exact Nat.le_of_ble_eq_true rfl); (· rfl); (· rfl); replace hR := RW.setA (s' := e1) hR hv; clear hv; obtain ⟨a0, a1⟩ := Blk.c2 hR.a; have c2 := (hR.l.cell 2).trans rfl))
  clear Jh1
  go_upto_region 5 with (first
    | (go_at_call 37; refine (Jh2.out _ _ hR.b).mono ?_; rintro e WW ⟨vv, rfl, hv, hb⟩; obtain ⟨va, vm, vc, rfl⟩ := hv.shape3; (try clear c2); replace hR := hR.below hb; clear a0 a1 hb)
    | ((with_reducible refine wpList_store_part 3 (.tmp 22) (.tmp 20) (txc ⟨n1, n2, kd, 0, 0, 0, 0, 0, noI, noV, 0, 0, 0, 0, emptyB⟩) hR.l 1 (.int .i64 n2) [.int .i64 n2] ?_ ?_ ?_ ?_ ?_ ?_ ?_ ?_ ?_ ?_ ?_); (· rfl); (· rfl); (· rfl); (· rfl); (· rfl); (· rfl); (· kernel_rfl); (· exact Nat.le_of_ble_eq_true rfl); (· rfl); (· rfl); obtain ⟨hS, hv2⟩ := hR.setL hv (txc ⟨n1, n2, kd, 0, 0, 0, 0, 0, noI, noV, 0, 0, 0, 0, emptyB⟩) (noOct_t _); replace hR := hS; replace hv := hv2; clear hS hv2)
    | ((with_reducible refine wpList_store_part 45 (.tmp 1) (.tmp 21) [Value.slice va vm vc, .int .i64 e2.2] hR.a 0 (.agg #[Value.slice va vm vc, .int .i64 e2.2]) [Value.slice va vm vc, .int .i64 e2.2] ?_ ?_ ?_ ?_ ?_ ?_ ?_ ?_ ?_ ?_ ?_); (· rfl); (· rfl); (· rfl); (· rfl); (· rfl); (· rfl); (· kernel_rfl); (· exact Nat.le_of_ble_eq_true rfl); (· rfl); (· rfl); replace hR := RW.setA (s' := e2) hR hv; clear hv; obtain ⟨a0, a1⟩ := Blk.c2 hR.a; have c2 := (hR.l.cell 2).trans rfl))
  clear Jh2
  go_upto_region 6 with (first
    | (go_at_call 37; refine (Jh3.out _ _ hR.b).mono ?_; rintro e WW ⟨vv, rfl, hv, hb⟩; obtain ⟨va, vm, vc, rfl⟩ := hv.shape3; (try clear c2); replace hR := hR.below hb; clear a0 a1 hb)
    | ((with_reducible refine wpList_store_part 3 (.tmp 28) (.tmp 26) (txc ⟨n1, n2, kd, n3, 0, 0, 0, 0, noI, noV, 0, 0, 0, 0, emptyB⟩) hR.l 3 (.int .i64 n3) [.int .i64 n3] ?_ ?_ ?_ ?_ ?_ ?_ ?_ ?_ ?_ ?_ ?_); (· rfl); (· rfl); (· rfl); (· rfl); (· rfl); (· rfl); (· kernel_rfl); (· exact Nat.le_of_ble_eq_true rfl); (· rfl); (· rfl); obtain ⟨hS, hv2⟩ := hR.setL hv (txc ⟨n1, n2, kd, n3, 0, 0, 0, 0, noI, noV, 0, 0, 0, 0, emptyB⟩) (noOct_t _); replace hR := hS; replace hv := hv2; clear hS hv2)
    | ((with_reducible refine wpList_store_part 45 (.tmp 1) (.tmp 27) [Value.slice va vm vc, .int .i64 e3.2] hR.a 0 (.agg #[Value.slice va vm vc, .int .i64 e3.2]) [Value.slice va vm vc, .int .i64 e3.2] ?_ ?_ ?_ ?_ ?_ ?_ ?_ ?_ ?_ ?_ ?_); (· rfl); (· rfl); (· rfl); (· rfl); (· rfl); (· rfl); (· kernel_rfl); (· exact Nat.le_of_ble_eq_true rfl); (· rfl); (· rfl); replace hR := RW.setA (s' := e3) hR hv; clear hv; obtain ⟨a0, a1⟩ := Blk.c2 hR.a; have c2 := (hR.l.cell 2).trans rfl))
  clear Jh3
  go_upto_region 7 with (first
    | (go_at_call 38; refine (Jh4.out _ _ hR.b).mono ?_; rintro e WW ⟨vv, rfl, hv, hb⟩; obtain ⟨va, vm, vc, rfl⟩ := hv.shape3; (try clear c2); replace hR := hR.below hb; clear a0 a1 hb)
    | ((with_reducible refine wpList_store_part 24 (.tmp 34) (.tmp 32) (txc ⟨n1, n2, kd, n3, u0, u1, u2, u3, noI, noV, 0, 0, 0, 0, emptyB⟩) hR.l 4 (wv u0 u1 u2 u3) [.int .u64 (u0 : Nat), .int .u64 (u1 : Nat), .int .u64 (u2 : Nat), .int .u64 (u3 : Nat)] ?_ ?_ ?_ ?_ ?_ ?_ ?_ ?_ ?_ ?_ ?_); (· rfl); (· rfl); (· rfl); (· rfl); (· rfl); (· rfl); (· kernel_rfl); (· exact Nat.le_of_ble_eq_true rfl); (· rfl); (· rfl); obtain ⟨hS, hv2⟩ := hR.setL hv (txc ⟨n1, n2, kd, n3, u0, u1, u2, u3, noI, noV, 0, 0, 0, 0, emptyB⟩) (noOct_t _); replace hR := hS; replace hv := hv2; clear hS hv2)
    | ((with_reducible refine wpList_store_part 45 (.tmp 1) (.tmp 33) [Value.slice va vm vc, .int .i64 e4.2] hR.a 0 (.agg #[Value.slice va vm vc, .int .i64 e4.2]) [Value.slice va vm vc, .int .i64 e4.2] ?_ ?_ ?_ ?_ ?_ ?_ ?_ ?_ ?_ ?_ ?_); (· rfl); (· rfl); (· rfl); (· rfl); (· rfl); (· rfl); (· kernel_rfl); (· exact Nat.le_of_ble_eq_true rfl); (· rfl); (· rfl); replace hR := RW.setA (s' := e4) hR hv; clear hv; obtain ⟨a0, a1⟩ := Blk.c2 hR.a; have c2 := (hR.l.cell 2).trans rfl))
  clear Jh4
  go_upto_region 17 with fail
  have HC := Lib.hid (refTx_any ⟨n1, n2, kd, n3, u0, u1, u2, u3, noI, noV, 0, 0, 0, 0, emptyB⟩)
  clear c2
  by_cases he : e4.2 = 0
  · have hq1 : (e4.2 == 0) = true := by simpa using he
    have hq2 : (e4.2 != 0) = false := by simpa using he
    by_cases hm : errT ⟨n1, n2, kd, n3, u0, u1, u2, u3, noI, noV, 0, 0, 0, 0, emptyB⟩ = 0
    · have HE := Lib.hid hm
      have HX : Hid (gt = (⟨n1, n2, kd, n3, u0, u1, u2, u3, noI, noV, 0, 0, 0, 0, emptyB⟩, e4)) := Lib.hid (JHY.out he hm)
      clear he hm JHY JHN JHB
      go_upto_region 19 with (first
        | ((with_reducible refine wpList_loadIf 30 (.tmp 4) ?_ (some 99) ?_ ?_ (txv ⟨n1, n2, kd, n3, u0, u1, u2, u3, noI, noV, 0, 0, 0, 0, emptyB⟩) ?_ ?_); (· rfl); (· rfl); (· rfl); (· exact load_tx hR.l))
        | (go_at_call 8; refine (HC.out _).mono ?_; rw [HE.out]; rintro e V0 ⟨rfl, hb⟩; replace hR := hR.below hb; clear a0 a1; obtain ⟨a0, a1⟩ := Blk.c2 hR.a))
      have kP := hR.p
      have kQ := hR.q
      have hv := hR.b
      have hB := hR.w.drew
      have kL := hR.l
      have kA := hR.a
      clear hR a0 a1 HC HE hq1 hq2
      refine wp_region_held_drew (S := fun W => Blk W (w.heap.size + 3) 30 (txc ⟨n1, n2, kd, n3, u0, u1, u2, u3, noI, noV, 0, 0, 0, 0, emptyB⟩) ∧ Blk W w.heap.size 45 [.slice va vm vc, .int .i64 e4.2]) hmx ⟨kL, kA⟩ ?_
      intro hS
      replace kP : Blk V0.drew (w.heap.size + 1) 30 (txc noT) := kP
      replace kQ : Blk V0.drew (w.heap.size + 2) 45 [.slice none 0 0, .int .i64 0] := kQ
      replace hv : BSl 0 V0.drew.heap.size V0.drew (.slice va vm vc) e4.1 := (hv.below (Below.refl _ V0).drew (Nat.le_refl _)).mono (Nat.le_refl _) (Nat.le_refl _)
      clear kL kA
      generalize V0.drew = Y2 at *
      refine' wpAnyH_take (i := 0) (oi := _) (v := txv ⟨n1, n2, kd, n3, u0, u1, u2, u3, noI, noV, 0, 0, 0, 0, emptyB⟩) ?hi21 (by kernel_rfl) (by kernel_rfl) (by kernel_rfl) ?hQ21 (Or.inl ⟨?hw21, ?hy21⟩) hS ?rest21
      case hi21 => simp only [List.getElem?_toArray, List.getElem?_cons_zero]; rfl
      case hQ21 => exact fun _ _ _ h => h
      case hw21 => rfl
      case hy21 => exact fun W' hS' => exec_load 30 (.tmp 4) rfl _ W' (load_tx hS'.1)
      try simp only [Act.put, List.setIfInBounds_toArray, List.set_cons_zero, List.set_cons_succ]
      refine' wpAnyH_take (i := 1) (oi := _) (v := _) ?hi22 (by kernel_rfl) (by kernel_rfl) (by kernel_rfl) ?hQ22 (Or.inl ⟨?hw22, ?hy22⟩) hS ?rest22
      case hi22 => simp only [List.getElem?_toArray, List.getElem?_cons_succ, List.getElem?_cons_zero]; rfl
      case hQ22 => exact fun _ _ _ h => h
      case hw22 => rfl
      case hy22 => intro W' hS'; obtain ⟨a0, a1⟩ := Blk.c2 hS'.2; go_simp; with_reducible rfl
      try simp only [Act.put, List.setIfInBounds_toArray, List.set_cons_zero, List.set_cons_succ]
      refine wpAnyH_ready (rs := [2]) (by kernel_rfl) (by simp) ?_
      refine' AllReadyH.cons (o := _) ?ho23 (fun K hK => ?st23) AllReadyH.nil
      case ho23 => simp only [List.getElem?_toArray, List.getElem?_cons_succ, List.getElem?_cons_zero]; rfl
      case st23 =>
        ((refine wp_store_part 30 (.tmp 2) (.tmp 106) (txc ⟨n1, n2, kd, n3, u0, u1, u2, u3, noI, noV, 0, 0, 0, 0, emptyB⟩) kP 0 (txv ⟨n1, n2, kd, n3, u0, u1, u2, u3, noI, noV, 0, 0, 0, 0, emptyB⟩) (txc ⟨n1, n2, kd, n3, u0, u1, u2, u3, noI, noV, 0, 0, 0, 0, emptyB⟩) ?_ ?_ ?_ ?_ ?_ ?_ ?_ ?_ ?_ ?_); (· rfl); (· rfl); (· rfl); (· rfl); (· rfl); (· kernel_rfl); (· exact Nat.le_of_ble_eq_true rfl); (· rfl); (· rfl))
        refine hK.out _ _ ⟨hS.1.rowO _ (by omega), hS.2.rowO _ (by omega)⟩ (fun hS => ?_)
        clear hK K
        try simp only [Act.put, List.setIfInBounds_toArray, List.set_cons_zero, List.set_cons_succ]
        have kP1 := kP.row (txc ⟨n1, n2, kd, n3, u0, u1, u2, u3, noI, noV, 0, 0, 0, 0, emptyB⟩)
        have kQ1 := kQ.rowO (txc ⟨n1, n2, kd, n3, u0, u1, u2, u3, noI, noV, 0, 0, 0, 0, emptyB⟩).toArray (g := w.heap.size + 1) (by omega)
        replace hv := bsl_row hv (noOctT kP) (txc ⟨n1, n2, kd, n3, u0, u1, u2, u3, noI, noV, 0, 0, 0, 0, emptyB⟩).toArray
        replace hB := below_setRow hB (Nat.le_add_right _ 1) (txc ⟨n1, n2, kd, n3, u0, u1, u2, u3, noI, noV, 0, 0, 0, 0, emptyB⟩).toArray
        clear kP kQ
        refine wpAnyH_ready (rs := [3]) (by kernel_rfl) (by simp) ?_
        refine' AllReadyH.cons (o := _) ?ho24 (fun K hK => ?st24) AllReadyH.nil
        case ho24 => simp only [List.getElem?_toArray, List.getElem?_cons_succ, List.getElem?_cons_zero]; rfl
        case st24 =>
          ((refine wp_store_part 45 (.tmp 3) (.tmp 107) [Value.slice va vm vc, .int .i64 e4.2] kQ1 0 (.agg #[Value.slice va vm vc, .int .i64 e4.2]) [Value.slice va vm vc, .int .i64 e4.2] ?_ ?_ ?_ ?_ ?_ ?_ ?_ ?_ ?_ ?_); (· rfl); (· rfl); (· rfl); (· rfl); (· rfl); (· kernel_rfl); (· exact Nat.le_of_ble_eq_true rfl); (· rfl); (· rfl))
          refine hK.out _ _ ⟨hS.1.rowO _ (by omega), hS.2.rowO _ (by omega)⟩ (fun hS => ?_)
          clear hK K
          try simp only [Act.put, List.setIfInBounds_toArray, List.set_cons_zero, List.set_cons_succ]
          refine wpAnyH_done (by kernel_rfl) ?_ _
          go_wp2_with fail
          have kP := kP1.rowO [Value.slice va vm vc, .int .i64 e4.2].toArray (g := w.heap.size + 2) (by omega)
          have kQ := kQ1.row [Value.slice va vm vc, .int .i64 e4.2]
          replace hv := bsl_row hv (noOct2 kQ1) [Value.slice va vm vc, .int .i64 e4.2].toArray
          replace hB := below_setRow hB (Nat.le_add_right _ 2) [Value.slice va vm vc, .int .i64 e4.2].toArray
          exact bodyPost_ret (v := retG ⟨n1, n2, kd, n3, u0, u1, u2, u3, noI, noV, 0, 0, 0, 0, emptyB⟩ (.slice va vm vc) e4.2) (by simp [results, Try.results15, asAddr, retG]; rw [load_txv kP]; simp only [Result.andThen_ok]; rw [load_rv kQ]; rfl) rfl ⟨.slice va vm vc, by rw [HX.out], by rw [HX.out]; exact hv, hB⟩
    · have HX : Hid (gt = (noT, errS e4 16)) := Lib.hid (JHN.out hm)
      have hm1 : (errT ⟨n1, n2, kd, n3, u0, u1, u2, u3, noI, noV, 0, 0, 0, 0, emptyB⟩ == 0) = false := by simpa using hm
      have hm2 : (errT ⟨n1, n2, kd, n3, u0, u1, u2, u3, noI, noV, 0, 0, 0, 0, emptyB⟩ != 0) = true := by simpa using hm
      clear he hm JHY JHN JHB
      go_wp2_with (first
        | ((with_reducible refine wpList_loadIf 30 (.tmp 4) ?_ (some 99) ?_ ?_ (txv ⟨n1, n2, kd, n3, u0, u1, u2, u3, noI, noV, 0, 0, 0, 0, emptyB⟩) ?_ ?_); (· rfl); (· rfl); (· rfl); (· exact load_tx hR.l))
        | (go_at_call 8; refine (HC.out _).mono ?_; rintro e V0 ⟨rfl, hb⟩; replace hR := hR.below hb; clear a0 a1; obtain ⟨a0, a1⟩ := Blk.c2 hR.a)
        | (go_at_call 17; refine (refSpoil_any _ _ hR.b).mono ?_; rintro e V1 ⟨v8, rfl, hv, hb⟩; obtain ⟨xa, xm, xc, rfl⟩ := hv.shape3; replace hR := hR.below hb; clear a0 a1)
        | ((with_reducible refine wpList_store_part 30 (.tmp 2) (.tmp 103) (txc noT) hR.p 0 (txv noT) (txc noT) ?_ ?_ ?_ ?_ ?_ ?_ ?_ ?_ ?_ ?_ ?_); (· rfl); (· rfl); (· rfl); (· rfl); (· rfl); (· rfl); (· kernel_rfl); (· exact Nat.le_of_ble_eq_true rfl); (· rfl); (· rfl); have kP := hR.p.row (txc noT); have kQ0 := hR.q.rowO (txc noT).toArray (g := w.heap.size + 1) (by omega); replace hv := bsl_row hv (noOctT hR.p) (txc noT).toArray; have hB := below_setRow hR.w (Nat.le_add_right _ 1) (txc noT).toArray)
        | ((with_reducible refine wpList_store_part 45 (.tmp 3) (.tmp 105) [Value.slice xa xm xc, .int .i64 (errS e4 16).2] kQ0 0 (.agg #[Value.slice xa xm xc, .int .i64 (errS e4 16).2]) [Value.slice xa xm xc, .int .i64 (errS e4 16).2] ?_ ?_ ?_ ?_ ?_ ?_ ?_ ?_ ?_ ?_ ?_); (· rfl); (· rfl); (· rfl); (· rfl); (· rfl); (· rfl); (· kernel_rfl); (· exact Nat.le_of_ble_eq_true rfl); (· rfl); (· rfl); replace kP := kP.rowO [Value.slice xa xm xc, .int .i64 (errS e4 16).2].toArray (g := w.heap.size + 2) (by omega); have kQ := kQ0.row [Value.slice xa xm xc, .int .i64 (errS e4 16).2]; replace hv := bsl_row hv (noOct2 kQ0) [Value.slice xa xm xc, .int .i64 (errS e4 16).2].toArray; replace hB := below_setRow hB (Nat.le_add_right _ 2) [Value.slice xa xm xc, .int .i64 (errS e4 16).2].toArray))
      exact bodyPost_ret (v := retG noT (.slice xa xm xc) (errS e4 16).2) (by simp [results, Try.results15, asAddr, retG]; rw [load_txv kP]; simp only [Result.andThen_ok]; rw [load_rv kQ]; rfl) rfl ⟨.slice xa xm xc, by rw [HX.out], by rw [HX.out]; exact hv, hB⟩
  · have hq1 : (e4.2 == 0) = false := by simpa using he
    have hq2 : (e4.2 != 0) = true := by simpa using he
    have HX : Hid (gt = (noT, errS e4 16)) := Lib.hid (JHB.out he)
    clear he JHY JHN JHB
    go_wp2_with (first
      | (go_at_call 17; refine (refSpoil_any _ _ hR.b).mono ?_; rintro e V1 ⟨v8, rfl, hv, hb⟩; obtain ⟨xa, xm, xc, rfl⟩ := hv.shape3; replace hR := hR.below hb; clear a0 a1)
      | ((with_reducible refine wpList_store_part 30 (.tmp 2) (.tmp 103) (txc noT) hR.p 0 (txv noT) (txc noT) ?_ ?_ ?_ ?_ ?_ ?_ ?_ ?_ ?_ ?_ ?_); (· rfl); (· rfl); (· rfl); (· rfl); (· rfl); (· rfl); (· kernel_rfl); (· exact Nat.le_of_ble_eq_true rfl); (· rfl); (· rfl); have kP := hR.p.row (txc noT); have kQ0 := hR.q.rowO (txc noT).toArray (g := w.heap.size + 1) (by omega); replace hv := bsl_row hv (noOctT hR.p) (txc noT).toArray; have hB := below_setRow hR.w (Nat.le_add_right _ 1) (txc noT).toArray)
      | ((with_reducible refine wpList_store_part 45 (.tmp 3) (.tmp 105) [Value.slice xa xm xc, .int .i64 (errS e4 16).2] kQ0 0 (.agg #[Value.slice xa xm xc, .int .i64 (errS e4 16).2]) [Value.slice xa xm xc, .int .i64 (errS e4 16).2] ?_ ?_ ?_ ?_ ?_ ?_ ?_ ?_ ?_ ?_ ?_); (· rfl); (· rfl); (· rfl); (· rfl); (· rfl); (· rfl); (· kernel_rfl); (· exact Nat.le_of_ble_eq_true rfl); (· rfl); (· rfl); replace kP := kP.rowO [Value.slice xa xm xc, .int .i64 (errS e4 16).2].toArray (g := w.heap.size + 2) (by omega); have kQ := kQ0.row [Value.slice xa xm xc, .int .i64 (errS e4 16).2]; replace hv := bsl_row hv (noOct2 kQ0) [Value.slice xa xm xc, .int .i64 (errS e4 16).2].toArray; replace hB := below_setRow hB (Nat.le_add_right _ 2) [Value.slice xa xm xc, .int .i64 (errS e4 16).2].toArray))
    exact bodyPost_ret (v := retG noT (.slice xa xm xc) (errS e4 16).2) (by simp [results, Try.results15, asAddr, retG]; rw [load_txv kP]; simp only [Result.andThen_ok]; rw [load_rv kQ]; rfl) rfl ⟨.slice xa xm xc, by rw [HX.out], by rw [HX.out]; exact hv, hB⟩
set_option maxRecDepth 100000 in
set_option maxHeartbeats 8000000 in
theorem refGetTx_hi {s : St} {gt : Tr × St} {e0 e1 e2 e3 e4 e8 : St} {kd n1 n2 n3 : Int} {u0 u1 u2 u3 : Nat}  (hK : RdK s gt e0 e1 e2 e3 e4 e8 kd n1 n2 n3 u0 u1 u2 u3 ⟨n1, n2, kd, n3, u0, u1, u2, u3, noI, noV, 0, 0, 0, 0, emptyB⟩) (q1 : (kd == 1) = false) (q2 : (kd == 2) = false) (q5 : (kd == 5) = false) (q6 : (kd == 6) = false) (l4 : 4 ≤ kd) (l6 : ¬ kd ≤ 6) (he4 : e4 = e8) (sv : Value) (w : World) (hsl : BSl 0 w.heap.size w sv s.1) :
    Calls Try.prog 15 #[.agg #[sv, .int .i64 s.2]] w (GetTR gt w) := by
  have hmx : Try.prog.follows .mixedOrders = true := by kernel_rfl
  obtain ⟨h0, h1, h2, h3, h4, HY, HN, HB⟩ := hK
  obtain rfl := he4
  have Jh0 := Lib.hid h0
  clear h0
  have Jh1 := Lib.hid h1
  clear h1
  have Jh2 := Lib.hid h2
  clear h2
  have Jh3 := Lib.hid h3
  clear h3
  have Jh4 := Lib.hid h4
  clear h4
  have JHY := Lib.hid HY
  clear HY
  have JHN := Lib.hid HN
  clear HN
  have JHB := Lib.hid HB
  clear HB
  obtain ⟨a, m, c, rfl⟩ := hsl.shape3
  go_enter Try.func15, Try.ntmps15
  go_upto_region 2 with fail
  generalize hW0 : World.alloc _ _ = W0
  have hR : RW 30 (txc noT) w W0 s (.slice a m c) (txc noT) := by
    have b3 := chainA (chainA (chainA (chain0 w (.cells #[.slice a m c, .int .i64 s.2] 45)) (.cells (txc noT).toArray 30)) (.cells #[.slice none 0 0, .int .i64 0] 45)) (.cells (txc noT).toArray 30)
    rw [← hW0]
    exact ⟨(((Blk.new w _ [_, _]).alloc _).alloc _).alloc _, ((Blk.new' (vs := txc noT) (by simp)).alloc _).alloc _, (Blk.new' (vs := [_, _]) (by simp)).alloc _, Blk.new' (vs := txc noT) (by simp), (hsl.below b3 (Nat.le_refl _)).mono (Nat.le_refl _) b3.size, noOct_t noT, b3⟩
  clear hW0 hsl
  obtain ⟨a0, a1⟩ := Blk.c2 hR.a
  go_upto_region 3 with (first
    | (go_at_call 37; refine (Jh0.out _ _ hR.b).mono ?_; rintro e WW ⟨vv, rfl, hv, hb⟩; obtain ⟨va, vm, vc, rfl⟩ := hv.shape3; (try clear c2); replace hR := hR.below hb; clear a0 a1 hb)
    | ((with_reducible refine wpList_store_part 3 (.tmp 10) (.tmp 8) (txc ⟨0, 0, kd, 0, 0, 0, 0, 0, noI, noV, 0, 0, 0, 0, emptyB⟩) hR.l 2 (.int .i64 kd) [.int .i64 kd] ?_ ?_ ?_ ?_ ?_ ?_ ?_ ?_ ?_ ?_ ?_); (· rfl); (· rfl); (· rfl); (· rfl); (· rfl); (· rfl); (· kernel_rfl); (· exact Nat.le_of_ble_eq_true rfl); (· rfl); (· rfl); obtain ⟨hS, hv2⟩ := hR.setL hv (txc ⟨0, 0, kd, 0, 0, 0, 0, 0, noI, noV, 0, 0, 0, 0, emptyB⟩) (noOct_t _); replace hR := hS; replace hv := hv2; clear hS hv2)
    | ((with_reducible refine wpList_store_part 45 (.tmp 1) (.tmp 9) [Value.slice va vm vc, .int .i64 e0.2] hR.a 0 (.agg #[Value.slice va vm vc, .int .i64 e0.2]) [Value.slice va vm vc, .int .i64 e0.2] ?_ ?_ ?_ ?_ ?_ ?_ ?_ ?_ ?_ ?_ ?_); (· rfl); (· rfl); (· rfl); (· rfl); (· rfl); (· rfl); (· kernel_rfl); (· exact Nat.le_of_ble_eq_true rfl); (· rfl); (· rfl); replace hR := RW.setA (s' := e0) hR hv; clear hv; obtain ⟨a0, a1⟩ := Blk.c2 hR.a; have c2 := (hR.l.cell 2).trans rfl))
  clear Jh0
  go_upto_region 4 with (first
    | (go_at_call 37; refine (Jh1.out _ _ hR.b).mono ?_; rintro e WW ⟨vv, rfl, hv, hb⟩; obtain ⟨va, vm, vc, rfl⟩ := hv.shape3; (try clear c2); replace hR := hR.below hb; clear a0 a1 hb)
    | ((with_reducible refine wpList_store_part 3 (.tmp 16) (.tmp 14) (txc ⟨n1, 0, kd, 0, 0, 0, 0, 0, noI, noV, 0, 0, 0, 0, emptyB⟩) hR.l 0 (.int .i64 n1) [.int .i64 n1] ?_ ?_ ?_ ?_ ?_ ?_ ?_ ?_ ?_ ?_ ?_); (· rfl); (· rfl); (· rfl); (· rfl); (· rfl); (· rfl); (· kernel_rfl); (· exact Nat.le_of_ble_eq_true rfl); (· rfl); (· rfl); obtain ⟨hS, hv2⟩ := hR.setL hv (txc ⟨n1, 0, kd, 0, 0, 0, 0, 0, noI, noV, 0, 0, 0, 0, emptyB⟩) (noOct_t _); replace hR := hS; replace hv := hv2; clear hS hv2)
    | ((with_reducible refine wpList_store_part 45 (.tmp 1) (.tmp 15) [Value.slice va vm vc, .int .i64 e1.2] hR.a 0 (.agg #[Value.slice va vm vc, .int .i64 e1.2]) [Value.slice va vm vc, .int .i64 e1.2] ?_ ?_ ?_ ?_ ?_ ?_ ?_ ?_ ?_ ?_ ?_); (· rfl); (· rfl); (· rfl); (· rfl); (· rfl); (· rfl); (· kernel_rfl); (· exact Nat.le_of_ble_eq_true rfl); (· rfl); (· rfl); replace hR := RW.setA (s' := e1) hR hv; clear hv; obtain ⟨a0, a1⟩ := Blk.c2 hR.a; have c2 := (hR.l.cell 2).trans rfl))
  clear Jh1
  go_upto_region 5 with (first
    | (go_at_call 37; refine (Jh2.out _ _ hR.b).mono ?_; rintro e WW ⟨vv, rfl, hv, hb⟩; obtain ⟨va, vm, vc, rfl⟩ := hv.shape3; (try clear c2); replace hR := hR.below hb; clear a0 a1 hb)
    | ((with_reducible refine wpList_store_part 3 (.tmp 22) (.tmp 20) (txc ⟨n1, n2, kd, 0, 0, 0, 0, 0, noI, noV, 0, 0, 0, 0, emptyB⟩) hR.l 1 (.int .i64 n2) [.int .i64 n2] ?_ ?_ ?_ ?_ ?_ ?_ ?_ ?_ ?_ ?_ ?_); (· rfl); (· rfl); (· rfl); (· rfl); (· rfl); (· rfl); (· kernel_rfl); (· exact Nat.le_of_ble_eq_true rfl); (· rfl); (· rfl); obtain ⟨hS, hv2⟩ := hR.setL hv (txc ⟨n1, n2, kd, 0, 0, 0, 0, 0, noI, noV, 0, 0, 0, 0, emptyB⟩) (noOct_t _); replace hR := hS; replace hv := hv2; clear hS hv2)
    | ((with_reducible refine wpList_store_part 45 (.tmp 1) (.tmp 21) [Value.slice va vm vc, .int .i64 e2.2] hR.a 0 (.agg #[Value.slice va vm vc, .int .i64 e2.2]) [Value.slice va vm vc, .int .i64 e2.2] ?_ ?_ ?_ ?_ ?_ ?_ ?_ ?_ ?_ ?_ ?_); (· rfl); (· rfl); (· rfl); (· rfl); (· rfl); (· rfl); (· kernel_rfl); (· exact Nat.le_of_ble_eq_true rfl); (· rfl); (· rfl); replace hR := RW.setA (s' := e2) hR hv; clear hv; obtain ⟨a0, a1⟩ := Blk.c2 hR.a; have c2 := (hR.l.cell 2).trans rfl))
  clear Jh2
  go_upto_region 6 with (first
    | (go_at_call 37; refine (Jh3.out _ _ hR.b).mono ?_; rintro e WW ⟨vv, rfl, hv, hb⟩; obtain ⟨va, vm, vc, rfl⟩ := hv.shape3; (try clear c2); replace hR := hR.below hb; clear a0 a1 hb)
    | ((with_reducible refine wpList_store_part 3 (.tmp 28) (.tmp 26) (txc ⟨n1, n2, kd, n3, 0, 0, 0, 0, noI, noV, 0, 0, 0, 0, emptyB⟩) hR.l 3 (.int .i64 n3) [.int .i64 n3] ?_ ?_ ?_ ?_ ?_ ?_ ?_ ?_ ?_ ?_ ?_); (· rfl); (· rfl); (· rfl); (· rfl); (· rfl); (· rfl); (· kernel_rfl); (· exact Nat.le_of_ble_eq_true rfl); (· rfl); (· rfl); obtain ⟨hS, hv2⟩ := hR.setL hv (txc ⟨n1, n2, kd, n3, 0, 0, 0, 0, noI, noV, 0, 0, 0, 0, emptyB⟩) (noOct_t _); replace hR := hS; replace hv := hv2; clear hS hv2)
    | ((with_reducible refine wpList_store_part 45 (.tmp 1) (.tmp 27) [Value.slice va vm vc, .int .i64 e3.2] hR.a 0 (.agg #[Value.slice va vm vc, .int .i64 e3.2]) [Value.slice va vm vc, .int .i64 e3.2] ?_ ?_ ?_ ?_ ?_ ?_ ?_ ?_ ?_ ?_ ?_); (· rfl); (· rfl); (· rfl); (· rfl); (· rfl); (· rfl); (· kernel_rfl); (· exact Nat.le_of_ble_eq_true rfl); (· rfl); (· rfl); replace hR := RW.setA (s' := e3) hR hv; clear hv; obtain ⟨a0, a1⟩ := Blk.c2 hR.a; have c2 := (hR.l.cell 2).trans rfl))
  clear Jh3
  go_upto_region 7 with (first
    | (go_at_call 38; refine (Jh4.out _ _ hR.b).mono ?_; rintro e WW ⟨vv, rfl, hv, hb⟩; obtain ⟨va, vm, vc, rfl⟩ := hv.shape3; (try clear c2); replace hR := hR.below hb; clear a0 a1 hb)
    | ((with_reducible refine wpList_store_part 24 (.tmp 34) (.tmp 32) (txc ⟨n1, n2, kd, n3, u0, u1, u2, u3, noI, noV, 0, 0, 0, 0, emptyB⟩) hR.l 4 (wv u0 u1 u2 u3) [.int .u64 (u0 : Nat), .int .u64 (u1 : Nat), .int .u64 (u2 : Nat), .int .u64 (u3 : Nat)] ?_ ?_ ?_ ?_ ?_ ?_ ?_ ?_ ?_ ?_ ?_); (· rfl); (· rfl); (· rfl); (· rfl); (· rfl); (· rfl); (· kernel_rfl); (· exact Nat.le_of_ble_eq_true rfl); (· rfl); (· rfl); obtain ⟨hS, hv2⟩ := hR.setL hv (txc ⟨n1, n2, kd, n3, u0, u1, u2, u3, noI, noV, 0, 0, 0, 0, emptyB⟩) (noOct_t _); replace hR := hS; replace hv := hv2; clear hS hv2)
    | ((with_reducible refine wpList_store_part 45 (.tmp 1) (.tmp 33) [Value.slice va vm vc, .int .i64 e4.2] hR.a 0 (.agg #[Value.slice va vm vc, .int .i64 e4.2]) [Value.slice va vm vc, .int .i64 e4.2] ?_ ?_ ?_ ?_ ?_ ?_ ?_ ?_ ?_ ?_ ?_); (· rfl); (· rfl); (· rfl); (· rfl); (· rfl); (· rfl); (· kernel_rfl); (· exact Nat.le_of_ble_eq_true rfl); (· rfl); (· rfl); replace hR := RW.setA (s' := e4) hR hv; clear hv; obtain ⟨a0, a1⟩ := Blk.c2 hR.a; have c2 := (hR.l.cell 2).trans rfl))
  clear Jh4
  go_upto_region 17 with fail
  have HC := Lib.hid (refTx_any ⟨n1, n2, kd, n3, u0, u1, u2, u3, noI, noV, 0, 0, 0, 0, emptyB⟩)
  clear c2
  by_cases he : e4.2 = 0
  · have hq1 : (e4.2 == 0) = true := by simpa using he
    have hq2 : (e4.2 != 0) = false := by simpa using he
    by_cases hm : errT ⟨n1, n2, kd, n3, u0, u1, u2, u3, noI, noV, 0, 0, 0, 0, emptyB⟩ = 0
    · have HE := Lib.hid hm
      have HX : Hid (gt = (⟨n1, n2, kd, n3, u0, u1, u2, u3, noI, noV, 0, 0, 0, 0, emptyB⟩, e4)) := Lib.hid (JHY.out he hm)
      clear he hm JHY JHN JHB
      go_upto_region 19 with (first
        | ((with_reducible refine wpList_loadIf 30 (.tmp 4) ?_ (some 99) ?_ ?_ (txv ⟨n1, n2, kd, n3, u0, u1, u2, u3, noI, noV, 0, 0, 0, 0, emptyB⟩) ?_ ?_); (· rfl); (· rfl); (· rfl); (· exact load_tx hR.l))
        | (go_at_call 8; refine (HC.out _).mono ?_; rw [HE.out]; rintro e V0 ⟨rfl, hb⟩; replace hR := hR.below hb; clear a0 a1; obtain ⟨a0, a1⟩ := Blk.c2 hR.a))
      have kP := hR.p
      have kQ := hR.q
      have hv := hR.b
      have hB := hR.w.drew
      have kL := hR.l
      have kA := hR.a
      clear hR a0 a1 HC HE hq1 hq2
      refine wp_region_held_drew (S := fun W => Blk W (w.heap.size + 3) 30 (txc ⟨n1, n2, kd, n3, u0, u1, u2, u3, noI, noV, 0, 0, 0, 0, emptyB⟩) ∧ Blk W w.heap.size 45 [.slice va vm vc, .int .i64 e4.2]) hmx ⟨kL, kA⟩ ?_
      intro hS
      replace kP : Blk V0.drew (w.heap.size + 1) 30 (txc noT) := kP
      replace kQ : Blk V0.drew (w.heap.size + 2) 45 [.slice none 0 0, .int .i64 0] := kQ
      replace hv : BSl 0 V0.drew.heap.size V0.drew (.slice va vm vc) e4.1 := (hv.below (Below.refl _ V0).drew (Nat.le_refl _)).mono (Nat.le_refl _) (Nat.le_refl _)
      clear kL kA
      generalize V0.drew = Y2 at *
      refine' wpAnyH_take (i := 0) (oi := _) (v := txv ⟨n1, n2, kd, n3, u0, u1, u2, u3, noI, noV, 0, 0, 0, 0, emptyB⟩) ?hi25 (by kernel_rfl) (by kernel_rfl) (by kernel_rfl) ?hQ25 (Or.inl ⟨?hw25, ?hy25⟩) hS ?rest25
      case hi25 => simp only [List.getElem?_toArray, List.getElem?_cons_zero]; rfl
      case hQ25 => exact fun _ _ _ h => h
      case hw25 => rfl
      case hy25 => exact fun W' hS' => exec_load 30 (.tmp 4) rfl _ W' (load_tx hS'.1)
      try simp only [Act.put, List.setIfInBounds_toArray, List.set_cons_zero, List.set_cons_succ]
      refine' wpAnyH_take (i := 1) (oi := _) (v := _) ?hi26 (by kernel_rfl) (by kernel_rfl) (by kernel_rfl) ?hQ26 (Or.inl ⟨?hw26, ?hy26⟩) hS ?rest26
      case hi26 => simp only [List.getElem?_toArray, List.getElem?_cons_succ, List.getElem?_cons_zero]; rfl
      case hQ26 => exact fun _ _ _ h => h
      case hw26 => rfl
      case hy26 => intro W' hS'; obtain ⟨a0, a1⟩ := Blk.c2 hS'.2; go_simp; with_reducible rfl
      try simp only [Act.put, List.setIfInBounds_toArray, List.set_cons_zero, List.set_cons_succ]
      refine wpAnyH_ready (rs := [2]) (by kernel_rfl) (by simp) ?_
      refine' AllReadyH.cons (o := _) ?ho27 (fun K hK => ?st27) AllReadyH.nil
      case ho27 => simp only [List.getElem?_toArray, List.getElem?_cons_succ, List.getElem?_cons_zero]; rfl
      case st27 =>
        ((refine wp_store_part 30 (.tmp 2) (.tmp 106) (txc ⟨n1, n2, kd, n3, u0, u1, u2, u3, noI, noV, 0, 0, 0, 0, emptyB⟩) kP 0 (txv ⟨n1, n2, kd, n3, u0, u1, u2, u3, noI, noV, 0, 0, 0, 0, emptyB⟩) (txc ⟨n1, n2, kd, n3, u0, u1, u2, u3, noI, noV, 0, 0, 0, 0, emptyB⟩) ?_ ?_ ?_ ?_ ?_ ?_ ?_ ?_ ?_ ?_); (· rfl); (· rfl); (· rfl); (· rfl); (· rfl); (· kernel_rfl); (· exact Nat.le_of_ble_eq_true rfl); (· rfl); (· rfl))
        refine hK.out _ _ ⟨hS.1.rowO _ (by omega), hS.2.rowO _ (by omega)⟩ (fun hS => ?_)
        clear hK K
        try simp only [Act.put, List.setIfInBounds_toArray, List.set_cons_zero, List.set_cons_succ]
        have kP1 := kP.row (txc ⟨n1, n2, kd, n3, u0, u1, u2, u3, noI, noV, 0, 0, 0, 0, emptyB⟩)
        have kQ1 := kQ.rowO (txc ⟨n1, n2, kd, n3, u0, u1, u2, u3, noI, noV, 0, 0, 0, 0, emptyB⟩).toArray (g := w.heap.size + 1) (by omega)
        replace hv := bsl_row hv (noOctT kP) (txc ⟨n1, n2, kd, n3, u0, u1, u2, u3, noI, noV, 0, 0, 0, 0, emptyB⟩).toArray
        replace hB := below_setRow hB (Nat.le_add_right _ 1) (txc ⟨n1, n2, kd, n3, u0, u1, u2, u3, noI, noV, 0, 0, 0, 0, emptyB⟩).toArray
        clear kP kQ
        refine wpAnyH_ready (rs := [3]) (by kernel_rfl) (by simp) ?_
        refine' AllReadyH.cons (o := _) ?ho28 (fun K hK => ?st28) AllReadyH.nil
        case ho28 => simp only [List.getElem?_toArray, List.getElem?_cons_succ, List.getElem?_cons_zero]; rfl
        case st28 =>
          ((refine wp_store_part 45 (.tmp 3) (.tmp 107) [Value.slice va vm vc, .int .i64 e4.2] kQ1 0 (.agg #[Value.slice va vm vc, .int .i64 e4.2]) [Value.slice va vm vc, .int .i64 e4.2] ?_ ?_ ?_ ?_ ?_ ?_ ?_ ?_ ?_ ?_); (· rfl); (· rfl); (· rfl); (· rfl); (· rfl); (· kernel_rfl); (· exact Nat.le_of_ble_eq_true rfl); (· rfl); (· rfl))
          refine hK.out _ _ ⟨hS.1.rowO _ (by omega), hS.2.rowO _ (by omega)⟩ (fun hS => ?_)
          clear hK K
          try simp only [Act.put, List.setIfInBounds_toArray, List.set_cons_zero, List.set_cons_succ]
          refine wpAnyH_done (by kernel_rfl) ?_ _
          go_wp2_with fail
          have kP := kP1.rowO [Value.slice va vm vc, .int .i64 e4.2].toArray (g := w.heap.size + 2) (by omega)
          have kQ := kQ1.row [Value.slice va vm vc, .int .i64 e4.2]
          replace hv := bsl_row hv (noOct2 kQ1) [Value.slice va vm vc, .int .i64 e4.2].toArray
          replace hB := below_setRow hB (Nat.le_add_right _ 2) [Value.slice va vm vc, .int .i64 e4.2].toArray
          exact bodyPost_ret (v := retG ⟨n1, n2, kd, n3, u0, u1, u2, u3, noI, noV, 0, 0, 0, 0, emptyB⟩ (.slice va vm vc) e4.2) (by simp [results, Try.results15, asAddr, retG]; rw [load_txv kP]; simp only [Result.andThen_ok]; rw [load_rv kQ]; rfl) rfl ⟨.slice va vm vc, by rw [HX.out], by rw [HX.out]; exact hv, hB⟩
    · have HX : Hid (gt = (noT, errS e4 16)) := Lib.hid (JHN.out hm)
      have hm1 : (errT ⟨n1, n2, kd, n3, u0, u1, u2, u3, noI, noV, 0, 0, 0, 0, emptyB⟩ == 0) = false := by simpa using hm
      have hm2 : (errT ⟨n1, n2, kd, n3, u0, u1, u2, u3, noI, noV, 0, 0, 0, 0, emptyB⟩ != 0) = true := by simpa using hm
      clear he hm JHY JHN JHB
      go_wp2_with (first
        | ((with_reducible refine wpList_loadIf 30 (.tmp 4) ?_ (some 99) ?_ ?_ (txv ⟨n1, n2, kd, n3, u0, u1, u2, u3, noI, noV, 0, 0, 0, 0, emptyB⟩) ?_ ?_); (· rfl); (· rfl); (· rfl); (· exact load_tx hR.l))
        | (go_at_call 8; refine (HC.out _).mono ?_; rintro e V0 ⟨rfl, hb⟩; replace hR := hR.below hb; clear a0 a1; obtain ⟨a0, a1⟩ := Blk.c2 hR.a)
        | (go_at_call 17; refine (refSpoil_any _ _ hR.b).mono ?_; rintro e V1 ⟨v8, rfl, hv, hb⟩; obtain ⟨xa, xm, xc, rfl⟩ := hv.shape3; replace hR := hR.below hb; clear a0 a1)
        | ((with_reducible refine wpList_store_part 30 (.tmp 2) (.tmp 103) (txc noT) hR.p 0 (txv noT) (txc noT) ?_ ?_ ?_ ?_ ?_ ?_ ?_ ?_ ?_ ?_ ?_); (· rfl); (· rfl); (· rfl); (· rfl); (· rfl); (· rfl); (· kernel_rfl); (· exact Nat.le_of_ble_eq_true rfl); (· rfl); (· rfl); have kP := hR.p.row (txc noT); have kQ0 := hR.q.rowO (txc noT).toArray (g := w.heap.size + 1) (by omega); replace hv := bsl_row hv (noOctT hR.p) (txc noT).toArray; have hB := below_setRow hR.w (Nat.le_add_right _ 1) (txc noT).toArray)
        | ((with_reducible refine wpList_store_part 45 (.tmp 3) (.tmp 105) [Value.slice xa xm xc, .int .i64 (errS e4 16).2] kQ0 0 (.agg #[Value.slice xa xm xc, .int .i64 (errS e4 16).2]) [Value.slice xa xm xc, .int .i64 (errS e4 16).2] ?_ ?_ ?_ ?_ ?_ ?_ ?_ ?_ ?_ ?_ ?_); (· rfl); (· rfl); (· rfl); (· rfl); (· rfl); (· rfl); (· kernel_rfl); (· exact Nat.le_of_ble_eq_true rfl); (· rfl); (· rfl); replace kP := kP.rowO [Value.slice xa xm xc, .int .i64 (errS e4 16).2].toArray (g := w.heap.size + 2) (by omega); have kQ := kQ0.row [Value.slice xa xm xc, .int .i64 (errS e4 16).2]; replace hv := bsl_row hv (noOct2 kQ0) [Value.slice xa xm xc, .int .i64 (errS e4 16).2].toArray; replace hB := below_setRow hB (Nat.le_add_right _ 2) [Value.slice xa xm xc, .int .i64 (errS e4 16).2].toArray))
      exact bodyPost_ret (v := retG noT (.slice xa xm xc) (errS e4 16).2) (by simp [results, Try.results15, asAddr, retG]; rw [load_txv kP]; simp only [Result.andThen_ok]; rw [load_rv kQ]; rfl) rfl ⟨.slice xa xm xc, by rw [HX.out], by rw [HX.out]; exact hv, hB⟩
  · have hq1 : (e4.2 == 0) = false := by simpa using he
    have hq2 : (e4.2 != 0) = true := by simpa using he
    have HX : Hid (gt = (noT, errS e4 16)) := Lib.hid (JHB.out he)
    clear he JHY JHN JHB
    go_wp2_with (first
      | (go_at_call 17; refine (refSpoil_any _ _ hR.b).mono ?_; rintro e V1 ⟨v8, rfl, hv, hb⟩; obtain ⟨xa, xm, xc, rfl⟩ := hv.shape3; replace hR := hR.below hb; clear a0 a1)
      | ((with_reducible refine wpList_store_part 30 (.tmp 2) (.tmp 103) (txc noT) hR.p 0 (txv noT) (txc noT) ?_ ?_ ?_ ?_ ?_ ?_ ?_ ?_ ?_ ?_ ?_); (· rfl); (· rfl); (· rfl); (· rfl); (· rfl); (· rfl); (· kernel_rfl); (· exact Nat.le_of_ble_eq_true rfl); (· rfl); (· rfl); have kP := hR.p.row (txc noT); have kQ0 := hR.q.rowO (txc noT).toArray (g := w.heap.size + 1) (by omega); replace hv := bsl_row hv (noOctT hR.p) (txc noT).toArray; have hB := below_setRow hR.w (Nat.le_add_right _ 1) (txc noT).toArray)
      | ((with_reducible refine wpList_store_part 45 (.tmp 3) (.tmp 105) [Value.slice xa xm xc, .int .i64 (errS e4 16).2] kQ0 0 (.agg #[Value.slice xa xm xc, .int .i64 (errS e4 16).2]) [Value.slice xa xm xc, .int .i64 (errS e4 16).2] ?_ ?_ ?_ ?_ ?_ ?_ ?_ ?_ ?_ ?_ ?_); (· rfl); (· rfl); (· rfl); (· rfl); (· rfl); (· rfl); (· kernel_rfl); (· exact Nat.le_of_ble_eq_true rfl); (· rfl); (· rfl); replace kP := kP.rowO [Value.slice xa xm xc, .int .i64 (errS e4 16).2].toArray (g := w.heap.size + 2) (by omega); have kQ := kQ0.row [Value.slice xa xm xc, .int .i64 (errS e4 16).2]; replace hv := bsl_row hv (noOct2 kQ0) [Value.slice xa xm xc, .int .i64 (errS e4 16).2].toArray; replace hB := below_setRow hB (Nat.le_add_right _ 2) [Value.slice xa xm xc, .int .i64 (errS e4 16).2].toArray))
    exact bodyPost_ret (v := retG noT (.slice xa xm xc) (errS e4 16).2) (by simp [results, Try.results15, asAddr, retG]; rw [load_txv kP]; simp only [Result.andThen_ok]; rw [load_rv kQ]; rfl) rfl ⟨.slice xa xm xc, by rw [HX.out], by rw [HX.out]; exact hv, hB⟩
theorem refGetTx_any {s : St} (sv : Value) (w : World) (hsl : BSl 0 w.heap.size w sv s.1) :
    Calls Try.prog 15 #[.agg #[sv, .int .i64 s.2]] w (GetTR (getT s) w) := by
  have hK := rdK s
  have E5 : td5 s = midI (kdT s) (td4 s).2 := rfl
  have E6 : td6 s = midV (kdT s) (td5 s).2 := rfl
  have E7 : td7 s = finF (kdT s) (td6 s).2 := rfl
  have E8 : td8 s = finG (kdT s) (td7 s).2 := rfl
  have ER : rawT s = ⟨((td1 s).1 : Nat), ((td2 s).1 : Nat), kdT s, ((td3 s).1 : Nat), wdS (td4 s).1 0, wdS (td4 s).1 1, wdS (td4 s).1 2, wdS (td4 s).1 3, (td5 s).1, (td6 s).1, wdS (td7 s).1 0, wdS (td7 s).1 1, wdS (td7 s).1 2, wdS (td7 s).1 3, str (td8 s).1⟩ := rfl
  rw [ER] at hK
  clear ER
  generalize kdT s = kd at *
  generalize td5 s = d5 at *
  generalize td6 s = d6 at *
  generalize td7 s = d7 at *
  generalize td8 s = d8 at *
  by_cases h45 : 4 ≤ kd ∧ kd ≤ 6
  · rw [midI, if_neg (by omega), if_neg (by omega), if_pos h45] at E5
    rw [midV, if_pos h45] at E6
    subst E5
    subst E6
    by_cases h5 : 5 ≤ kd ∧ kd ≤ 6
    · rw [finF, if_pos h5] at E7
      rw [finG, if_pos h5] at E8
      subst E7
      subst E8
      by_cases k5 : kd = 5
      · exact refGetTx_5 hK (by simp [k5]) (by simp [k5]) (by simp [k5]) (by omega) (by omega) (hInv _) (hVar _) (hWid _) (hTxt _) sv w hsl
      · have k6 : kd = 6 := by omega
        exact refGetTx_6 hK (by simp [k6]) (by simp [k6]) (by simp [k6]) (by simp [k6]) (by omega) (by omega) (hInv _) (hVar _) (hWid _) (hTxt _) sv w hsl
    · rw [finF, if_neg h5] at E7
      rw [finG, if_neg h5] at E8
      subst E7
      subst E8
      have k4 : kd = 4 := by omega
      exact refGetTx_4 hK (by simp [k4]) (by simp [k4]) (by simp [k4]) (by simp [k4]) (by omega) (by omega) (hInv _) (hVar _) sv w hsl
  · have h5 : ¬ (5 ≤ kd ∧ kd ≤ 6) := by omega
    rw [midV, if_neg h45] at E6
    rw [finF, if_neg h5] at E7
    rw [finG, if_neg h5] at E8
    subst E6
    subst E7
    subst E8
    by_cases k1 : kd = 1
    · rw [midI, if_pos k1] at E5
      subst E5
      exact refGetTx_1 hK (by simp [k1]) (by simp [k1]) (by simp [k1]) (by simp [k1]) (by omega) (hNum _) sv w hsl
    · by_cases k2 : kd = 2
      · rw [midI, if_neg k1, if_pos k2] at E5
        subst E5
        exact refGetTx_2 hK (by simp [k2]) (by simp [k2]) (by simp [k2]) (by simp [k2]) (by omega) (hNum _) sv w hsl
      · rw [midI, if_neg k1, if_neg k2, if_neg h45] at E5
        subst E5
        have q : ∀ j : Int, (j = 1 ∨ j = 2 ∨ j = 5 ∨ j = 6) → (kd == j) = false := fun j hj => by simp only [beq_eq_false_iff_ne, ne_eq]; omega
        by_cases l4 : 4 ≤ kd
        · exact refGetTx_hi hK (q 1 (by omega)) (q 2 (by omega)) (q 5 (by omega)) (q 6 (by omega)) l4 (by omega) rfl sv w hsl
        · exact refGetTx_lo hK (q 1 (by omega)) (q 2 (by omega)) (q 5 (by omega)) (q 6 (by omega)) l4 rfl sv w hsl
end Go.Proofs.Ytafcngnophlhgaa
