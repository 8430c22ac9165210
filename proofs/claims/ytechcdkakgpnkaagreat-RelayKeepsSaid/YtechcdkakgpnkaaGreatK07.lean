/-
  Which messages may be: mail's Check; A new Out; octets that are handed back; An ask, read of an In; A bid's fields, read of an In: mail's getBid; A message's fields, read of an In: mail's fields; An object and a struct beside it: what is stored into the struct leaves the object; An In of octets, however many; The message of any octets: mail's Read; The builtin copy as an operation of a region in o
-/
import Derived.Outline
import Derived.Deep.Cut
import Derived.Great.BuildSlice
import Derived.Laws.OwnMore
import Derived.Maps.AppendAt
import Derived.Deep.RegionHeld3
import Derived.Laws.IdiomCopy
import Derived.ArgAppend
import Derived.Test.YtechcdkakgpnkaaGreatK06
namespace Go.Proofs.YtechcdkakgpnkaaGreat
open Go.RowKit Go.Shelf
set_option maxRecDepth 100000 in
set_option maxHeartbeats 2000000 in
theorem checkRelease_any (m : Ms) (w : World) :
    Calls Tryz.prog 65 #[msv m] w fun e W' => e = .returned (.int .i64 (errL m)) ∧ Below w.heap.size w W' := by
  have kB := Blk.new w 34 (msc m)
  have hB := chain0 w (.cells (msc m).toArray 34)
  have HI := Lib.hid (check_any m.iv)
  have HV := Lib.hid (sound_any m.vr)
  by_cases hi : maybeI m.iv
  · have E1 := Lib.hid (errI_zero hi)
    by_cases hv : maybeV m.vr
    · have E2 := Lib.hid (errV_zero hv)
      by_cases hs : m.sg.size ≤ 1024
      · have HE : Hid (errL m = 0) := Lib.hid (by rw [errL, if_pos hi, if_pos hv, if_pos hs])
        clear hi hv
        go_enter Tryz.func65, Tryz.ntmps65
        go_wp2_with (first
          | ((with_reducible refine wpList_loadIf 30 (.tmp 5) ?_ (some 6) ?_ ?_ (ivv m.iv) ?_ ?_); (· rfl); (· rfl); (· rfl); (· exact load_miv kB))
          | ((with_reducible refine wpList_loadIf 32 (.tmp 11) ?_ (some 12) ?_ ?_ (svv m.vr) ?_ ?_); (· rfl); (· rfl); (· rfl); (· exact load_mvr kB))
          | (go_at_call 59; refine (HI.out _).mono ?_; rw [E1.out]; rintro e w1 ⟨rfl, hb⟩; replace kB := kB.below hb kB.lt; replace hB := chain hB hb; clear hb; have c42 := (kB.cell 42).trans rfl)
          | (go_at_call 115; refine (HV.out _).mono ?_; rw [E2.out]; rintro e w2 ⟨rfl, hb⟩; replace kB := kB.below hb kB.lt; replace hB := chain hB hb; clear hb c42; have c42 := (kB.cell 42).trans rfl))
        go_ret
        exact ⟨by rw [HE.out]; rfl, hB⟩
      · have HE : Hid (errL m = 5) := Lib.hid (by rw [errL, if_pos hi, if_pos hv, if_neg hs])
        have hs2 : 1024 < m.sg.size := by omega
        clear hi hv hs
        go_enter Tryz.func65, Tryz.ntmps65
        go_wp2_with (first
          | ((with_reducible refine wpList_loadIf 30 (.tmp 5) ?_ (some 6) ?_ ?_ (ivv m.iv) ?_ ?_); (· rfl); (· rfl); (· rfl); (· exact load_miv kB))
          | ((with_reducible refine wpList_loadIf 32 (.tmp 11) ?_ (some 12) ?_ ?_ (svv m.vr) ?_ ?_); (· rfl); (· rfl); (· rfl); (· exact load_mvr kB))
          | (go_at_call 59; refine (HI.out _).mono ?_; rw [E1.out]; rintro e w1 ⟨rfl, hb⟩; replace kB := kB.below hb kB.lt; replace hB := chain hB hb; clear hb; have c42 := (kB.cell 42).trans rfl)
          | (go_at_call 115; refine (HV.out _).mono ?_; rw [E2.out]; rintro e w2 ⟨rfl, hb⟩; replace kB := kB.below hb kB.lt; replace hB := chain hB hb; clear hb c42; have c42 := (kB.cell 42).trans rfl))
        go_ret
        exact ⟨by rw [HE.out]; rfl, hB⟩
    · have E2 := Lib.hid (errV_bad hv)
      have HE : Hid (errL m = 36) := Lib.hid (by rw [errL, if_pos hi, if_neg hv])
      clear hi hv
      go_enter Tryz.func65, Tryz.ntmps65
      go_wp2_with (first
        | ((with_reducible refine wpList_loadIf 30 (.tmp 5) ?_ (some 6) ?_ ?_ (ivv m.iv) ?_ ?_); (· rfl); (· rfl); (· rfl); (· exact load_miv kB))
        | ((with_reducible refine wpList_loadIf 32 (.tmp 11) ?_ (some 12) ?_ ?_ (svv m.vr) ?_ ?_); (· rfl); (· rfl); (· rfl); (· exact load_mvr kB))
        | (go_at_call 59; refine (HI.out _).mono ?_; rw [E1.out]; rintro e w1 ⟨rfl, hb⟩; replace kB := kB.below hb kB.lt; replace hB := chain hB hb; clear hb; have c42 := (kB.cell 42).trans rfl)
        | (go_at_call 115; refine (HV.out _).mono ?_; rw [E2.out]; rintro e w2 ⟨rfl, hb⟩; replace kB := kB.below hb kB.lt; replace hB := chain hB hb; clear hb c42; have c42 := (kB.cell 42).trans rfl))
      go_ret
      exact ⟨by rw [HE.out]; rfl, hB⟩
  · have E1 := Lib.hid (errI_bad hi)
    have HE : Hid (errL m = 39) := Lib.hid (by rw [errL, if_neg hi])
    have E2 : Hid (errV m.vr = errV m.vr) := Lib.hid rfl
    clear hi
    go_enter Tryz.func65, Tryz.ntmps65
    go_wp2_with (first
      | ((with_reducible refine wpList_loadIf 30 (.tmp 5) ?_ (some 6) ?_ ?_ (ivv m.iv) ?_ ?_); (· rfl); (· rfl); (· rfl); (· exact load_miv kB))
      | ((with_reducible refine wpList_loadIf 32 (.tmp 11) ?_ (some 12) ?_ ?_ (svv m.vr) ?_ ?_); (· rfl); (· rfl); (· rfl); (· exact load_mvr kB))
      | (go_at_call 59; refine (HI.out _).mono ?_; rw [E1.out]; rintro e w1 ⟨rfl, hb⟩; replace kB := kB.below hb kB.lt; replace hB := chain hB hb; clear hb; have c42 := (kB.cell 42).trans rfl)
      | (go_at_call 115; refine (HV.out _).mono ?_; rw [E2.out]; rintro e w2 ⟨rfl, hb⟩; replace kB := kB.below hb kB.lt; replace hB := chain hB hb; clear hb c42; have c42 := (kB.cell 42).trans rfl))
    go_ret
    exact ⟨by rw [HE.out]; rfl, hB⟩
set_option maxRecDepth 100000 in
set_option maxHeartbeats 2000000 in
theorem mailCheck_any (m : Ms) (hm : OkM m) (w : World) :
    Calls Tryz.prog 22 #[msv m] w fun e W' => e = .returned (.int .i64 (errG m)) ∧ Below w.heap.size w W' := by
  have kB := Blk.new w 34 (msc m)
  have hB := chain0 w (.cells (msc m).toArray 34)
  have HA := Lib.hid (checkAsk_any m.ak)
  have HB := Lib.hid (bidCheck_any m.bd hm.b)
  have HL := Lib.hid (checkRelease_any m)
  have c0 := (kB.cell 0).trans rfl
  clear hm
  by_cases k1 : m.kd = 1
  · have HE : Hid (errG m = errA m.ak) := Lib.hid (by rw [errG, if_pos k1])
    have q1 : (m.kd == 1) = true := by simpa using k1
    clear k1
    go_enter Tryz.func22, Tryz.ntmps22
    go_wp2_with (first
      | ((with_reducible refine wpList_loadIf 26 (.tmp 7) ?_ (some 8) ?_ ?_ (akv m.ak) ?_ ?_); (· rfl); (· rfl); (· rfl); (· exact load_mak kB))
      | (go_at_call 63; refine (HA.out _).mono ?_; rintro e w2 ⟨rfl, hb⟩; replace hB := chain hB hb))
    go_ret
    exact ⟨by rw [HE.out]; try rfl, hB⟩
  have q1 : (m.kd == 1) = false := by simpa using k1
  by_cases k2 : m.kd = 2
  · have HE : Hid (errG m = errB m.bd) := Lib.hid (by rw [errG, if_neg k1, if_pos k2])
    have q2 : (m.kd == 2) = true := by simpa using k2
    clear k1 k2
    go_enter Tryz.func22, Tryz.ntmps22
    go_wp2_with (first
      | ((with_reducible refine wpList_loadIf 28 (.tmp 12) ?_ (some 13) ?_ ?_ (bdv m.bd) ?_ ?_); (· rfl); (· rfl); (· rfl); (· exact load_mbd kB))
      | (go_at_call 64; refine (HB.out _).mono ?_; rintro e w2 ⟨rfl, hb⟩; replace hB := chain hB hb))
    go_ret
    exact ⟨by rw [HE.out]; try rfl, hB⟩
  have q2 : (m.kd == 2) = false := by simpa using k2
  by_cases k3 : m.kd = 3
  · have HE : Hid (errG m = errL m) := Lib.hid (by rw [errG, if_neg k1, if_neg k2, if_pos k3])
    have q3 : (m.kd == 3) = true := by simpa using k3
    clear k1 k2 k3
    go_enter Tryz.func22, Tryz.ntmps22
    go_wp2_with (first
      | ((with_reducible refine wpList_loadIf 34 (.tmp 1) ?_ (some 17) ?_ ?_ (msv m) ?_ ?_); (· rfl); (· rfl); (· rfl); (· exact load_ms kB))
      | (go_at_call 65; refine (HL.out _).mono ?_; rintro e w2 ⟨rfl, hb⟩; replace hB := chain hB hb))
    go_ret
    exact ⟨by rw [HE.out]; try rfl, hB⟩
  have q3 : (m.kd == 3) = false := by simpa using k3
  have HE : Hid (errG m = 12) := Lib.hid (by rw [errG, if_neg k1, if_neg k2, if_neg k3])
  clear k1 k2 k3
  go_enter Tryz.func22, Tryz.ntmps22
  go_wp2_with fail
  go_ret
  exact ⟨by rw [HE.out]; try rfl, hB⟩
end Go.Proofs.YtechcdkakgpnkaaGreat
namespace Go.Proofs.YtechcdkakgpnkaaGreat
open Go.RowKit Go.Shelf
def NewO (w : World) (e : Ending) (W' : World) : Prop := ∃ NB, e = .returned (.pointer (some ⟨NB, 0, none⟩)) ∧ w.heap.size ≤ NB ∧ ObjP 134 W' (some ⟨NB, 0, none⟩) ([], 0) ∧ Below w.heap.size w W'
theorem outNewO_any (w : World) : Calls Tryz.prog 23 #[] w (NewO w) :=
  (outNew_any w).mono fun _ _ ⟨h1, _, h3, h4⟩ => ⟨_, h1, Nat.le_refl _, h3, h4⟩
theorem below_did {T : TypeId} {NB : Nat} {s : St} {w W : World} {e : Ending} {W' : World} (hB : Below w.heap.size w W) (hN : w.heap.size ≤ NB) (h : DidS T (some ⟨NB, 0, none⟩) s W e W') : Below w.heap.size w W' :=
  hB.grown h.2.2 hB.size (fun k e => by cases e; exact hN)
end Go.Proofs.YtechcdkakgpnkaaGreat
namespace Go.Proofs.YtechcdkakgpnkaaGreat
open Go.RowKit Go.Shelf
theorem noOct9 {W : World} {B : Nat} {T : TypeId} {i : Ak} (h : Blk W B T (akc i)) : NoOct W B := noOct_blk h (by
  intro v hv y
  simp only [akc, List.mem_cons, List.not_mem_nil, or_false] at hv
  rcases hv with rfl | rfl | rfl | rfl | rfl | rfl | rfl | rfl | rfl <;> simp [bv])
theorem stored9 {T : TypeId} {p : Option Addr} {s : St} {w Y : World} {R : Nat} {i : Ak} (hO : ObjP T Y p s) (hG : w.grownBy Y (p.map (·.block))) (kR : Blk Y R 26 (akc i)) (hR : w.heap.size ≤ R) (hne : some R ≠ p.map (·.block)) (x : Ak) :
    Blk (((((((((Y.setCell ⟨R, 0, none⟩ (.int .i64 x.us)).setCell ⟨R, 1, none⟩ (.int .i64 x.se)).setCell ⟨R, 2, none⟩ (.int .i64 x.re)).setCell ⟨R, 3, none⟩ (.int .i64 x.to)).setCell ⟨R, 4, none⟩ (.int .u64 (x.a0 : Nat))).setCell ⟨R, 5, none⟩ (.int .u64 (x.a1 : Nat))).setCell ⟨R, 6, none⟩ (.int .u64 (x.a2 : Nat))).setCell ⟨R, 7, none⟩ (.int .u64 (x.a3 : Nat))).setCell ⟨R, 8, none⟩ (.string x.id)) R 26 (akc x) ∧ ObjP T (((((((((Y.setCell ⟨R, 0, none⟩ (.int .i64 x.us)).setCell ⟨R, 1, none⟩ (.int .i64 x.se)).setCell ⟨R, 2, none⟩ (.int .i64 x.re)).setCell ⟨R, 3, none⟩ (.int .i64 x.to)).setCell ⟨R, 4, none⟩ (.int .u64 (x.a0 : Nat))).setCell ⟨R, 5, none⟩ (.int .u64 (x.a1 : Nat))).setCell ⟨R, 6, none⟩ (.int .u64 (x.a2 : Nat))).setCell ⟨R, 7, none⟩ (.int .u64 (x.a3 : Nat))).setCell ⟨R, 8, none⟩ (.string x.id)) p s ∧ w.grownBy (((((((((Y.setCell ⟨R, 0, none⟩ (.int .i64 x.us)).setCell ⟨R, 1, none⟩ (.int .i64 x.se)).setCell ⟨R, 2, none⟩ (.int .i64 x.re)).setCell ⟨R, 3, none⟩ (.int .i64 x.to)).setCell ⟨R, 4, none⟩ (.int .u64 (x.a0 : Nat))).setCell ⟨R, 5, none⟩ (.int .u64 (x.a1 : Nat))).setCell ⟨R, 6, none⟩ (.int .u64 (x.a2 : Nat))).setCell ⟨R, 7, none⟩ (.int .u64 (x.a3 : Nat))).setCell ⟨R, 8, none⟩ (.string x.id)) (p.map (·.block)) := by
  have st : ∀ (vs : List Value) (W : World) (k : Nat) (v : Value), Blk W R 26 vs → (∀ u ∈ vs, ∀ y, u ≠ bv y) → (∀ y, v ≠ bv y) → ObjP T W p s → w.grownBy W (p.map (·.block)) →
      Blk (W.setCell ⟨R, k, none⟩ v) R 26 (vs.set k v) ∧ (∀ u ∈ vs.set k v, ∀ y, u ≠ bv y) ∧ ObjP T (W.setCell ⟨R, k, none⟩ v) p s ∧ w.grownBy (W.setCell ⟨R, k, none⟩ v) (p.map (·.block)) := by
    intro vs W k v kW hno hv h g
    refine ⟨kW.set k v, fun u hu => ?_, h.to (grownBy_setCell4 W R k v) (fun r e => by cases e; exact ⟨noOct_blk kW hno, fun e => hne e.symm⟩), grown_set g hR⟩
    rcases List.mem_or_eq_of_mem_set hu with h1 | rfl
    · exact hno u h1
    · exact hv
  have h0 : ∀ u ∈ akc i, ∀ y, u ≠ bv y := by
    intro u hu y
    simp only [akc, List.mem_cons, List.not_mem_nil, or_false] at hu
    rcases hu with rfl | rfl | rfl | rfl | rfl | rfl | rfl | rfl | rfl <;> simp [bv]
  obtain ⟨k0, n0, o0, g0⟩ := st _ _ 0 (.int .i64 x.us) kR h0 (by intro y; simp [bv]) hO hG
  obtain ⟨k1, n1, o1, g1⟩ := st _ _ 1 (.int .i64 x.se) k0 n0 (by intro y; simp [bv]) o0 g0
  obtain ⟨k2, n2, o2, g2⟩ := st _ _ 2 (.int .i64 x.re) k1 n1 (by intro y; simp [bv]) o1 g1
  obtain ⟨k3, n3, o3, g3⟩ := st _ _ 3 (.int .i64 x.to) k2 n2 (by intro y; simp [bv]) o2 g2
  obtain ⟨k4, n4, o4, g4⟩ := st _ _ 4 (.int .u64 (x.a0 : Nat)) k3 n3 (by intro y; simp [bv]) o3 g3
  obtain ⟨k5, n5, o5, g5⟩ := st _ _ 5 (.int .u64 (x.a1 : Nat)) k4 n4 (by intro y; simp [bv]) o4 g4
  obtain ⟨k6, n6, o6, g6⟩ := st _ _ 6 (.int .u64 (x.a2 : Nat)) k5 n5 (by intro y; simp [bv]) o5 g5
  obtain ⟨k7, n7, o7, g7⟩ := st _ _ 7 (.int .u64 (x.a3 : Nat)) k6 n6 (by intro y; simp [bv]) o6 g6
  obtain ⟨k8, n8, o8, g8⟩ := st _ _ 8 (.string x.id) k7 n7 (by intro y; simp [bv]) o7 g7
  exact ⟨k8, o8, g8⟩
theorem stored9z {T : TypeId} {p : Option Addr} {s : St} {w Y : World} {R : Nat} {i : Ak} (hO : ObjP T Y p s) (hG : w.grownBy Y (p.map (·.block))) (kR : Blk Y R 26 (akc i)) (hR : w.heap.size ≤ R) (hne : some R ≠ p.map (·.block)) :
    Blk (((((((((Y.setCell ⟨R, 0, none⟩ (.int .i64 0)).setCell ⟨R, 1, none⟩ (.int .i64 0)).setCell ⟨R, 2, none⟩ (.int .i64 0)).setCell ⟨R, 3, none⟩ (.int .i64 0)).setCell ⟨R, 4, none⟩ (.int .u64 0)).setCell ⟨R, 5, none⟩ (.int .u64 0)).setCell ⟨R, 6, none⟩ (.int .u64 0)).setCell ⟨R, 7, none⟩ (.int .u64 0)).setCell ⟨R, 8, none⟩ (.string ⟨#[]⟩)) R 26 [.int .i64 0, .int .i64 0, .int .i64 0, .int .i64 0, .int .u64 0, .int .u64 0, .int .u64 0, .int .u64 0, .string ⟨#[]⟩] ∧ ObjP T (((((((((Y.setCell ⟨R, 0, none⟩ (.int .i64 0)).setCell ⟨R, 1, none⟩ (.int .i64 0)).setCell ⟨R, 2, none⟩ (.int .i64 0)).setCell ⟨R, 3, none⟩ (.int .i64 0)).setCell ⟨R, 4, none⟩ (.int .u64 0)).setCell ⟨R, 5, none⟩ (.int .u64 0)).setCell ⟨R, 6, none⟩ (.int .u64 0)).setCell ⟨R, 7, none⟩ (.int .u64 0)).setCell ⟨R, 8, none⟩ (.string ⟨#[]⟩)) p s ∧ w.grownBy (((((((((Y.setCell ⟨R, 0, none⟩ (.int .i64 0)).setCell ⟨R, 1, none⟩ (.int .i64 0)).setCell ⟨R, 2, none⟩ (.int .i64 0)).setCell ⟨R, 3, none⟩ (.int .i64 0)).setCell ⟨R, 4, none⟩ (.int .u64 0)).setCell ⟨R, 5, none⟩ (.int .u64 0)).setCell ⟨R, 6, none⟩ (.int .u64 0)).setCell ⟨R, 7, none⟩ (.int .u64 0)).setCell ⟨R, 8, none⟩ (.string ⟨#[]⟩)) (p.map (·.block)) := stored9 hO hG kR hR hne ⟨0, 0, 0, 0, 0, 0, 0, 0, ⟨#[]⟩⟩
def GotA (T : TypeId) (p : Option Addr) (r : Ak × St) (w : World) (e : Ending) (W' : World) : Prop :=
  e = .returned (akv r.1) ∧ ObjP T W' p r.2 ∧ w.grownBy W' (p.map (·.block))
def adK (s : St) (k : Nat) : St := match k with | 0 => s | k + 1 => (mostS (adK s k) 6 big).2
def nmK (s : St) (k : Nat) : Nat := (mostS (adK s k) 6 big).1
def lcK (s : St) (k : Nat) : List Value := match k with | 0 => akc noA | k + 1 => (lcK s k).set k (.int .i64 (nmK s k : Nat))
theorem lcK_at (s : St) {k : Nat} (hk : k < 4) : (lcK s k)[k]? = some (.int .i64 0) := by
  obtain rfl | rfl | rfl | rfl : k = 0 ∨ k = 1 ∨ k = 2 ∨ k = 3 := by omega
  all_goals rfl
theorem lcK_no (s : St) (k : Nat) : ∀ u ∈ lcK s k, ∀ y, u ≠ bv y := by
  induction k with
  | zero =>
    intro u hu y
    simp only [lcK, akc, List.mem_cons, List.not_mem_nil, or_false] at hu
    rcases hu with rfl | rfl | rfl | rfl | rfl | rfl | rfl | rfl | rfl <;> simp [bv]
  | succ k ih =>
    intro u hu y
    rcases List.mem_or_eq_of_mem_set hu with h1 | rfl
    · exact ih u h1 y
    · simp [bv]
theorem lcK_4 (s : St) : lcK s 4 = akc ⟨((ad0 s).1 : Nat), ((ad1 s).1 : Nat), ((ad2 s).1 : Nat), ((ad3 s).1 : Nat), 0, 0, 0, 0, ⟨#[]⟩⟩ := rfl
set_option maxRecDepth 100000 in
theorem idx_ptr4 (L : Nat) (w : World) {k : Nat} (hk : k < 4) :
    (Instr.index 197 (.agg #[.pointer (some ⟨L, 0, none⟩), .pointer (some ⟨L, 1, none⟩), .pointer (some ⟨L, 2, none⟩), .pointer (some ⟨L, 3, none⟩)]) (.int .i64 k)).run Tryz.prog w = .ok (.pointer (some ⟨L, k, none⟩)) w := by
  have hs : ∀ j : Nat, (sizeOf 196).run Tryz.prog w = .ok 1 w := fun _ => by kernel_rfl
  obtain rfl | rfl | rfl | rfl : k = 0 ∨ k = 1 ∨ k = 2 ∨ k = 3 := by omega
  all_goals
    simp [Instr.index, run_underlying Tryz.underlying197, asIntOf, hs 0, go_sem]
set_option maxRecDepth 100000 in
set_option maxHeartbeats 4000000 in
theorem bidGetAsk_any {p : Option Addr} {s : St} (w : World) (h : ObjP 143 w p s) :
    Calls Tryz.prog 74 #[.pointer p] w (GotA 143 p (getA s) w) := by
  have HN : Hid (∀ st W, ObjP 143 W p st → Calls Tryz.prog 73 #[.pointer p, .int .i64 1099511627776] W (NumS 143 p (mostS st 6 big) W)) := Lib.hid fun st W hO => inNumP_any (p := p) 1099511627776 1099511627776 (Or.inr ⟨by omega, rfl⟩) W hO
  have H0 : Hid (∀ W, ObjP 143 W p (ad3 s).2 → Calls Tryz.prog 78 #[.pointer p] W (WidS 143 p (ad4 s) W)) := Lib.hid fun W hO => inWide_any W hO
  have H1 : Hid (∀ W, ObjP 143 W p (ad4 s).2 → Calls Tryz.prog 79 #[.pointer p, .int .i64 16] W (TxtS 143 p (ad5 s) W)) := Lib.hid fun W hO => inTextP_any (p := p) 16 16 (Or.inr ⟨by omega, rfl⟩) W hO
  have HNR := Lib.hid (ptr_lt h (Nat.le_refl w.heap.size))
  have HNL := Lib.hid (ptr_lt h (Nat.le_succ w.heap.size))
  have hz0 : (w.alloc (.cells (akc noA).toArray 26)).heap.size = w.heap.size + 1 := by simp
  have kR := (Blk.new w 26 (akc noA)).alloc (.cells (akc noA).toArray 26)
  have kL : Blk ((w.alloc (.cells (akc noA).toArray 26)).alloc (.cells (akc noA).toArray 26)) (w.heap.size + 1) 26 (akc noA) := Blk.new' hz0
  have hG := (World.grownBy_alloc w (.cells (akc noA).toArray 26) (p.map (·.block))).trans (World.grownBy_alloc _ (.cells (akc noA).toArray 26) (p.map (·.block)))
  have hO0 := (h.below (chain0 w (.cells (akc noA).toArray 26))).below (chain0 _ (.cells (akc noA).toArray 26))
  clear h hz0
  go_enter Tryz.func74, Tryz.ntmps74
  go_wp2_with fail
  go_loopw [11] (fun n wr => ∃ k : Nat, k ≤ 4 ∧ n = .int .i64 k ∧ ObjP 143 wr p (adK s k) ∧ w.grownBy wr (p.map (·.block)) ∧ Blk wr w.heap.size 26 (akc noA) ∧ Blk wr (w.heap.size + 1) 26 (lcK s k)) (fun n _ => 4 - (intOf n).toNat)
  case atStart => exact ⟨0, by omega, rfl, hO0, hG, kR, kL⟩
  case round =>
    clear hO0 hG kR kL
    obtain ⟨k, hk, rfl, hO, hG, kR, kL⟩ := hrel
    by_cases hlt : k < 4
    · have hlt' : (k : Int) < 4 := by omega
      have HI := Lib.hid (fun W => idx_ptr4 (w.heap.size + 1) W hlt)
      have HS : Hid (adK s (k + 1) = (mostS (adK s k) 6 big).2) := Lib.hid rfl
      have HLC : Hid (lcK s (k + 1) = (lcK s k).set k (.int .i64 ((mostS (adK s k) 6 big).1 : Nat))) := Lib.hid rfl
      have HAT := Lib.hid (lcK_at s hlt)
      have HNO := Lib.hid (lcK_no s k)
      generalize lcK s k = lc at *
      generalize adK s k = st at *
      generalize hm : mostS st 6 big = m at *
      have HM := Lib.hid hm
      clear hm
      go_wp2_with (first
        | (refine wpList_indexTo rfl 197 (.tmp 10) (.tmp 11) rfl (some 13) rfl _ (HI.out _) ?_)
        | (go_at_call 73; refine (HN.out st _ hO).mono ?_; rw [HM.out]; rintro e W1 ⟨rfl, q, g⟩; replace hG := hG.trans g; replace kR := kR.kept g HNR.out; replace kL := kL.kept g HNL.out; have z := (kL.cell k).trans HAT.out; have f := kL.frozen k))
      go_roundw
      case rel => exact ⟨k + 1, by omega, by go_num, by rw [HS.out]; exact objP_one q (noOct_blk kL HNO.out) HNL.out, grown_set hG (Nat.le_succ _), kR.other _ _ (by omega), by rw [HLC.out]; exact kL.set _ _⟩
      case measure => simp [intOf]; omega
    · obtain rfl : k = 4 := by omega
      rw [lcK_4] at kL
      replace hO : ObjP 143 wr p (ad3 s).2 := hO
      generalize hu0 : wdS (ad4 s).1 0 = u0 at *
      generalize hu1 : wdS (ad4 s).1 1 = u1 at *
      generalize hu2 : wdS (ad4 s).1 2 = u2 at *
      generalize hu3 : wdS (ad4 s).1 3 = u3 at *
      have HRW : Hid (rawA s = ⟨((ad0 s).1 : Nat), ((ad1 s).1 : Nat), ((ad2 s).1 : Nat), ((ad3 s).1 : Nat), u0, u1, u2, u3, str (ad5 s).1⟩) := Lib.hid (by rw [rawA, hu0, hu1, hu2, hu3])
      have HQ0 : Hid (∀ W, ObjP 143 W p (ad3 s).2 → Calls Tryz.prog 78 #[.pointer p] W (fun e W' => e = .returned (wv u0 u1 u2 u3) ∧ ObjP 143 W' p (ad4 s).2 ∧ W.grownBy W' (p.map (·.block)))) := Lib.hid fun W hO => (H0.out W hO).mono (by rintro e W' ⟨rfl, a, b⟩; exact ⟨by rw [hu0, hu1, hu2, hu3], a, b⟩)
      clear hu0 hu1 hu2 hu3 H0
      go_upto_region 9 with (first
        | (go_at_call 78; refine (HQ0.out _ hO).mono ?_; rintro e W0 ⟨rfl, q, g⟩; replace hG := World.grownBy.trans hG g; replace kR := kR.kept g HNR.out; replace kL := kL.kept g HNL.out; obtain ⟨z0, z1, z2, z3, z4, z5, z6, z7, z8⟩ := Blk.c9 kL; have f := kL.frozen; replace q := objP_one (B := w.heap.size + 1) (k := 4) (v := .int .u64 (u0 : Nat)) q (noOct9 kL) HNL.out; replace kR := kR.other (B' := w.heap.size + 1) 4 (.int .u64 (u0 : Nat)) (by omega); replace kL : Blk _ (w.heap.size + 1) 26 (akc ⟨((ad0 s).1 : Nat), ((ad1 s).1 : Nat), ((ad2 s).1 : Nat), ((ad3 s).1 : Nat), u0, 0, 0, 0, ⟨#[]⟩⟩) := kL.set 4 (.int .u64 (u0 : Nat)); replace hG := grown_set (B := w.heap.size + 1) (i := 4) (v := .int .u64 (u0 : Nat)) hG (Nat.le_succ _); replace q := objP_one (B := w.heap.size + 1) (k := 5) (v := .int .u64 (u1 : Nat)) q (noOct9 kL) HNL.out; replace kR := kR.other (B' := w.heap.size + 1) 5 (.int .u64 (u1 : Nat)) (by omega); replace kL : Blk _ (w.heap.size + 1) 26 (akc ⟨((ad0 s).1 : Nat), ((ad1 s).1 : Nat), ((ad2 s).1 : Nat), ((ad3 s).1 : Nat), u0, u1, 0, 0, ⟨#[]⟩⟩) := kL.set 5 (.int .u64 (u1 : Nat)); replace hG := grown_set (B := w.heap.size + 1) (i := 5) (v := .int .u64 (u1 : Nat)) hG (Nat.le_succ _); replace q := objP_one (B := w.heap.size + 1) (k := 6) (v := .int .u64 (u2 : Nat)) q (noOct9 kL) HNL.out; replace kR := kR.other (B' := w.heap.size + 1) 6 (.int .u64 (u2 : Nat)) (by omega); replace kL : Blk _ (w.heap.size + 1) 26 (akc ⟨((ad0 s).1 : Nat), ((ad1 s).1 : Nat), ((ad2 s).1 : Nat), ((ad3 s).1 : Nat), u0, u1, u2, 0, ⟨#[]⟩⟩) := kL.set 6 (.int .u64 (u2 : Nat)); replace hG := grown_set (B := w.heap.size + 1) (i := 6) (v := .int .u64 (u2 : Nat)) hG (Nat.le_succ _); replace q := objP_one (B := w.heap.size + 1) (k := 7) (v := .int .u64 (u3 : Nat)) q (noOct9 kL) HNL.out; replace kR := kR.other (B' := w.heap.size + 1) 7 (.int .u64 (u3 : Nat)) (by omega); replace kL : Blk _ (w.heap.size + 1) 26 (akc ⟨((ad0 s).1 : Nat), ((ad1 s).1 : Nat), ((ad2 s).1 : Nat), ((ad3 s).1 : Nat), u0, u1, u2, u3, ⟨#[]⟩⟩) := kL.set 7 (.int .u64 (u3 : Nat)); replace hG := grown_set (B := w.heap.size + 1) (i := 7) (v := .int .u64 (u3 : Nat)) hG (Nat.le_succ _); have hO1 := q; clear q g hO)
        | (go_at_call 79; refine (H1.out _ hO1).mono ?_; rintro e W1 ⟨rfl, q, g⟩; replace hG := World.grownBy.trans hG g; replace kR := kR.kept g HNR.out; replace kL := kL.kept g HNL.out; clear z0 z1 z2 z3 z4 z5 z6 z7 z8 f; have z8 := (kL.cell 8).trans rfl; have f := kL.frozen 8; have hO2 := objP_one (B := w.heap.size + 1) (k := 8) (v := .string ⟨(ad5 s).1.toArray⟩) q (noOct9 kL) HNL.out; replace kR := kR.other (B' := w.heap.size + 1) 8 (.string ⟨(ad5 s).1.toArray⟩) (by omega); replace kL : Blk _ (w.heap.size + 1) 26 (akc ⟨((ad0 s).1 : Nat), ((ad1 s).1 : Nat), ((ad2 s).1 : Nat), ((ad3 s).1 : Nat), u0, u1, u2, u3, str (ad5 s).1⟩) := kL.set 8 (.string ⟨(ad5 s).1.toArray⟩); replace hG := grown_set (B := w.heap.size + 1) (i := 8) (v := .string ⟨(ad5 s).1.toArray⟩) hG (Nat.le_succ _); clear q g hO1))
      clear H1 HQ0 HN z8 f
      generalize hY : (World.setCell W1 _ _) = Y at *
      clear hY
      obtain ⟨c0, c1, c2, c3, c4, c5, c6, c7, c8⟩ := Blk.c9 kL
      have HC : Hid (∀ W, Calls Tryz.prog 63 #[akv ⟨((ad0 s).1 : Nat), ((ad1 s).1 : Nat), ((ad2 s).1 : Nat), ((ad3 s).1 : Nat), u0, u1, u2, u3, str (ad5 s).1⟩] W fun e W' => e = .returned (.int .i64 (errA (rawA s))) ∧ Below W.heap.size W W') := Lib.hid (by rw [HRW.out]; exact checkAsk_any _)
      have hes : ((errS (ad5 s).2 16).2 != 0) = true := by simpa using errS_ne (ad5 s).2
      have hes2 : ((errS (ad5 s).2 16).2 == 0) = false := by simpa using errS_ne (ad5 s).2
      by_cases hm : maybeA (rawA s)
      · have HE := Lib.hid (errA_zero hm)
        by_cases he : (ad5 s).2.2 = 0
        · have hq1 : ((ad5 s).2.2 == 0) = true := by simpa using he
          have hq2 : ((ad5 s).2.2 != 0) = false := by simpa using he
          have HX := Lib.hid (getA_yes he hm)
          clear he hm
          go_wp2_with (first
            | (go_at_call 63; refine (HC.out _).mono ?_; rw [HE.out]; rintro e V0 ⟨rfl, hb⟩; replace kR := kR.below hb kR.lt; replace kL := kL.below hb kL.lt; replace hG := World.grownBy.trans hG (grew hb _); replace hO2 := hO2.below hb; clear c0 c1 c2 c3 c4 c5 c6 c7 c8; obtain ⟨r0, r1, r2, r3, r4, r5, r6, r7, r8⟩ := Blk.c9 kR; have fr := kR.frozen; obtain ⟨c0, c1, c2, c3, c4, c5, c6, c7, c8⟩ := Blk.c9 kL)
            | (go_at_call 39; refine (inErr_any _ hO2).mono ?_; rintro e V2 ⟨rfl, rfl⟩))
          obtain ⟨kZ, oZ, gZ⟩ := stored9 hO2 hG kR (Nat.le_refl _) HNR.out ⟨((ad0 s).1 : Nat), ((ad1 s).1 : Nat), ((ad2 s).1 : Nat), ((ad3 s).1 : Nat), u0, u1, u2, u3, str (ad5 s).1⟩
          try dsimp only at kZ oZ gZ
          obtain ⟨q0, q1, q2, q3, q4, q5, q6, q7, q8⟩ := Blk.c9 kZ
          exact bodyPost_ret (v := akv ⟨((ad0 s).1 : Nat), ((ad1 s).1 : Nat), ((ad2 s).1 : Nat), ((ad3 s).1 : Nat), u0, u1, u2, u3, str (ad5 s).1⟩) (by simp [results, Tryz.results74, go_sem, q0, q1, q2, q3, q4, q5, q6, q7, q8]; try rfl) rfl ⟨by rw [HX.out, HRW.out]; try rfl, by rw [HX.out]; exact oZ, gZ⟩
        · have hq1 : ((ad5 s).2.2 == 0) = false := by simpa using he
          have hq2 : ((ad5 s).2.2 != 0) = true := by simpa using he
          have HX := Lib.hid (getA_bad he)
          clear he hm
          go_wp2_with (first
            | (go_at_call 63; refine (HC.out _).mono ?_; rw [HE.out]; rintro e V0 ⟨rfl, hb⟩; replace kR := kR.below hb kR.lt; replace kL := kL.below hb kL.lt; replace hG := World.grownBy.trans hG (grew hb _); replace hO2 := hO2.below hb; clear c0 c1 c2 c3 c4 c5 c6 c7 c8; obtain ⟨r0, r1, r2, r3, r4, r5, r6, r7, r8⟩ := Blk.c9 kR; have fr := kR.frozen; obtain ⟨c0, c1, c2, c3, c4, c5, c6, c7, c8⟩ := Blk.c9 kL)
            | (go_at_call 39; refine (inErr_any _ hO2).mono ?_; rintro e V2 ⟨rfl, rfl⟩))
          obtain ⟨kZ, oZ, gZ⟩ := stored9z hO2 hG kR (Nat.le_refl _) HNR.out
          try dsimp only at kZ oZ gZ
          obtain ⟨q0, q1, q2, q3, q4, q5, q6, q7, q8⟩ := Blk.c9 kZ
          exact bodyPost_ret (v := akv ⟨0, 0, 0, 0, 0, 0, 0, 0, ⟨#[]⟩⟩) (by simp [results, Tryz.results74, go_sem, q0, q1, q2, q3, q4, q5, q6, q7, q8]; try rfl) rfl ⟨by rw [HX.out]; try rfl, by rw [HX.out]; exact oZ, gZ⟩
      · have HE := Lib.hid (errA_bad hm)
        have HX := Lib.hid (getA_no hm)
        clear hm
        go_wp2_with (first
          | (go_at_call 63; refine (HC.out _).mono ?_; rw [HE.out]; rintro e V0 ⟨rfl, hb⟩; replace kR := kR.below hb kR.lt; replace kL := kL.below hb kL.lt; replace hG := World.grownBy.trans hG (grew hb _); replace hO2 := hO2.below hb; clear c0 c1 c2 c3 c4 c5 c6 c7 c8; obtain ⟨r0, r1, r2, r3, r4, r5, r6, r7, r8⟩ := Blk.c9 kR; have fr := kR.frozen; obtain ⟨c0, c1, c2, c3, c4, c5, c6, c7, c8⟩ := Blk.c9 kL)
          | (go_at_call 38; refine (inSpoil_any _ hO2).mono ?_; rintro e V1 ⟨rfl, hO9, g⟩; replace kR := kR.kept g HNR.out; replace hG := World.grownBy.trans hG g; clear r0 r1 r2 r3 r4 r5 r6 r7 r8 fr; obtain ⟨r0, r1, r2, r3, r4, r5, r6, r7, r8⟩ := Blk.c9 kR; have fr := kR.frozen)
          | (go_at_call 39; refine (inErr_any _ hO9).mono ?_; rintro e V2 ⟨rfl, rfl⟩))
        obtain ⟨kZ, oZ, gZ⟩ := stored9z hO9 hG kR (Nat.le_refl _) HNR.out
        try dsimp only at kZ oZ gZ
        obtain ⟨q0, q1, q2, q3, q4, q5, q6, q7, q8⟩ := Blk.c9 kZ
        exact bodyPost_ret (v := akv ⟨0, 0, 0, 0, 0, 0, 0, 0, ⟨#[]⟩⟩) (by simp [results, Tryz.results74, go_sem, q0, q1, q2, q3, q4, q5, q6, q7, q8]; try rfl) rfl ⟨by rw [HX.out]; try rfl, by rw [HX.out]; exact oZ, gZ⟩
end Go.Proofs.YtechcdkakgpnkaaGreat
namespace Go.Proofs.YtechcdkakgpnkaaGreat
open Go.RowKit Go.Shelf
def GotB (T : TypeId) (p : Option Addr) (r : Bd × St) (w : World) (e : Ending) (W' : World) : Prop :=
  e = .returned (bdv r.1) ∧ ObjP T W' p r.2 ∧ w.grownBy W' (p.map (·.block))
def GotM (T : TypeId) (p : Option Addr) (r : Ms × St) (w : World) (e : Ending) (W' : World) : Prop :=
  e = .returned (msv r.1) ∧ ObjP T W' p r.2 ∧ w.grownBy W' (p.map (·.block))
theorem mnum_kind (p : Option Addr) (s : St) (W : World) (h : ObjP 143 W p s) : Calls Tryz.prog 73 #[.pointer p, .int .i64 1099511627776] W (NumS 143 p (mostS s 6 big) W) := inNumP_any (p := p) 1099511627776 1099511627776 (Or.inr ⟨by omega, rfl⟩) W h
theorem mtxt_kind (p : Option Addr) (s : St) (W : World) (h : ObjP 143 W p s) : Calls Tryz.prog 79 #[.pointer p, .int .i64 1024] W (TxtS 143 p (gtxtS s 1024) W) := inTextP_any (p := p) 1024 1024 (Or.inr ⟨by omega, rfl⟩) W h
set_option maxRecDepth 100000 in
set_option maxHeartbeats 8000000 in
theorem getBid_any {p : Option Addr} {s : St} (w : World) (h : ObjP 143 w p s) :
    Calls Tryz.prog 75 #[.pointer p] w (GotB 143 p (rawD s, (bd4 s).2) w) := by
  have HNR := Lib.hid (ptr_lt h (Nat.le_refl w.heap.size))
  have HNL := Lib.hid (ptr_lt h (Nat.le_succ w.heap.size))
  have Q0 : Hid (∀ W, ObjP 143 W p s → Calls Tryz.prog 73 #[.pointer p, .int .i64 1099511627776] W (NumS 143 p (bd0 s) W)) := Lib.hid fun W h => mnum_kind p s W h
  have Q1 : Hid (∀ W, ObjP 143 W p (bd0 s).2 → Calls Tryz.prog 74 #[.pointer p] W (GotA 143 p (bd1 s) W)) := Lib.hid fun W h => bidGetAsk_any W h
  have Q2 : Hid (∀ W, ObjP 143 W p (bd1 s).2 → Calls Tryz.prog 78 #[.pointer p] W (WidS 143 p (bd2 s) W)) := Lib.hid fun W h => inWide_any W h
  have Q3 : Hid (∀ W, ObjP 143 W p (bd2 s).2 → Calls Tryz.prog 73 #[.pointer p, .int .i64 1099511627776] W (NumS 143 p (bd3 s) W)) := Lib.hid fun W h => mnum_kind p _ W h
  have Q4 : Hid (∀ W, ObjP 143 W p (bd3 s).2 → Calls Tryz.prog 79 #[.pointer p, .int .i64 1024] W (TxtS 143 p (bd4 s) W)) := Lib.hid fun W h => mtxt_kind p _ W h
  have HX : Hid (rawD s = ⟨((bd0 s).1 : Nat), (bd1 s).1, wdS (bd2 s).1 0, wdS (bd2 s).1 1, wdS (bd2 s).1 2, wdS (bd2 s).1 3, ((bd3 s).1 : Nat), str (bd4 s).1⟩) := Lib.hid rfl
  have hz0 : (w.alloc (.cells (bdc noB).toArray 28)).heap.size = w.heap.size + 1 := by simp
  have kR := (Blk.new w 28 (bdc noB)).alloc (.cells (bdc noB).toArray 28)
  have kL : Blk ((w.alloc (.cells (bdc noB).toArray 28)).alloc (.cells (bdc noB).toArray 28)) (w.heap.size + 1) 28 (bdc noB) := Blk.new' hz0
  have hG := (World.grownBy_alloc w (.cells (bdc noB).toArray 28) (p.map (·.block))).trans (World.grownBy_alloc _ (.cells (bdc noB).toArray 28) (p.map (·.block)))
  have hO := (h.below (chain0 w (.cells (bdc noB).toArray 28))).below (chain0 _ (.cells (bdc noB).toArray 28))
  clear h hz0
  generalize rawD s = raw at *
  generalize bd0 s = d0 at *
  generalize bd1 s = d1 at *
  generalize bd2 s = d2 at *
  generalize bd3 s = d3 at *
  generalize bd4 s = d4 at *
  obtain ⟨n0, s0⟩ := d0
  obtain ⟨ak, s1⟩ := d1
  obtain ⟨fl, s2⟩ := d2
  obtain ⟨n3, s3⟩ := d3
  obtain ⟨g, s4⟩ := d4
  unfold WidS at Q2
  dsimp only at HX Q1 Q2 Q3 Q4
  generalize wdS fl 0 = u0 at *
  generalize wdS fl 1 = u1 at *
  generalize wdS fl 2 = u2 at *
  generalize wdS fl 3 = u3 at *
  go_enter Tryz.func75, Tryz.ntmps75
  go_wp2_with (first
    | (go_at_call 73; refine (Q0.out _ hO).mono ?_; rintro e W1 ⟨rfl, q, g⟩; replace hG := World.grownBy.trans hG g; replace kR := kR.kept g HNR.out; replace kL := kL.kept g HNL.out; clear g hO)
    | ((with_reducible refine wpList_store_part 3 (.tmp 6) (.tmp 5) (bdc ⟨(n0 : Nat), noA, 0, 0, 0, 0, 0, emptyB⟩) kL 0 ((.int .i64 (n0 : Nat))) [.int .i64 (n0 : Nat)] ?_ ?_ ?_ ?_ ?_ ?_ ?_ ?_ ?_ ?_ ?_); (· rfl); (· rfl); (· rfl); (· rfl); (· rfl); (· rfl); (· kernel_rfl); (· exact Nat.le_of_ble_eq_true rfl); (· rfl); (· rfl); have hO1 := objP_row q (noOctB kL) HNL.out (bdc ⟨(n0 : Nat), noA, 0, 0, 0, 0, 0, emptyB⟩).toArray; replace kR := kR.rowO (bdc ⟨(n0 : Nat), noA, 0, 0, 0, 0, 0, emptyB⟩).toArray (g := w.heap.size + 1) (by omega); replace kL := kL.row (bdc ⟨(n0 : Nat), noA, 0, 0, 0, 0, 0, emptyB⟩); replace hG := grown_row hG (Nat.le_succ _) (bdc ⟨(n0 : Nat), noA, 0, 0, 0, 0, 0, emptyB⟩).toArray; clear q)
    | (go_at_call 74; refine (Q1.out _ hO1).mono ?_; rintro e W1 ⟨rfl, q, g⟩; replace hG := World.grownBy.trans hG g; replace kR := kR.kept g HNR.out; replace kL := kL.kept g HNL.out; clear g hO1)
    | ((with_reducible refine wpList_store_part 26 (.tmp 9) (.tmp 8) (bdc ⟨(n0 : Nat), ak, 0, 0, 0, 0, 0, emptyB⟩) kL 1 ((akv ak)) (akc ak) ?_ ?_ ?_ ?_ ?_ ?_ ?_ ?_ ?_ ?_ ?_); (· rfl); (· rfl); (· rfl); (· rfl); (· rfl); (· rfl); (· kernel_rfl); (· exact Nat.le_of_ble_eq_true rfl); (· rfl); (· rfl); have hO2 := objP_row q (noOctB kL) HNL.out (bdc ⟨(n0 : Nat), ak, 0, 0, 0, 0, 0, emptyB⟩).toArray; replace kR := kR.rowO (bdc ⟨(n0 : Nat), ak, 0, 0, 0, 0, 0, emptyB⟩).toArray (g := w.heap.size + 1) (by omega); replace kL := kL.row (bdc ⟨(n0 : Nat), ak, 0, 0, 0, 0, 0, emptyB⟩); replace hG := grown_row hG (Nat.le_succ _) (bdc ⟨(n0 : Nat), ak, 0, 0, 0, 0, 0, emptyB⟩).toArray; clear q)
    | (go_at_call 78; refine (Q2.out _ hO2).mono ?_; rintro e W1 ⟨rfl, q, g⟩; replace hG := World.grownBy.trans hG g; replace kR := kR.kept g HNR.out; replace kL := kL.kept g HNL.out; clear g hO2)
    | ((with_reducible refine wpList_store_part 24 (.tmp 12) (.tmp 11) (bdc ⟨(n0 : Nat), ak, u0, u1, u2, u3, 0, emptyB⟩) kL 10 ((wv u0 u1 u2 u3)) [.int .u64 (u0 : Nat), .int .u64 (u1 : Nat), .int .u64 (u2 : Nat), .int .u64 (u3 : Nat)] ?_ ?_ ?_ ?_ ?_ ?_ ?_ ?_ ?_ ?_ ?_); (· rfl); (· rfl); (· rfl); (· rfl); (· rfl); (· rfl); (· kernel_rfl); (· exact Nat.le_of_ble_eq_true rfl); (· rfl); (· rfl); have hO3 := objP_row q (noOctB kL) HNL.out (bdc ⟨(n0 : Nat), ak, u0, u1, u2, u3, 0, emptyB⟩).toArray; replace kR := kR.rowO (bdc ⟨(n0 : Nat), ak, u0, u1, u2, u3, 0, emptyB⟩).toArray (g := w.heap.size + 1) (by omega); replace kL := kL.row (bdc ⟨(n0 : Nat), ak, u0, u1, u2, u3, 0, emptyB⟩); replace hG := grown_row hG (Nat.le_succ _) (bdc ⟨(n0 : Nat), ak, u0, u1, u2, u3, 0, emptyB⟩).toArray; clear q)
    | (go_at_call 73; refine (Q3.out _ hO3).mono ?_; rintro e W1 ⟨rfl, q, g⟩; replace hG := World.grownBy.trans hG g; replace kR := kR.kept g HNR.out; replace kL := kL.kept g HNL.out; clear g hO3)
    | ((with_reducible refine wpList_store_part 3 (.tmp 15) (.tmp 14) (bdc ⟨(n0 : Nat), ak, u0, u1, u2, u3, (n3 : Nat), emptyB⟩) kL 14 ((.int .i64 (n3 : Nat))) [.int .i64 (n3 : Nat)] ?_ ?_ ?_ ?_ ?_ ?_ ?_ ?_ ?_ ?_ ?_); (· rfl); (· rfl); (· rfl); (· rfl); (· rfl); (· rfl); (· kernel_rfl); (· exact Nat.le_of_ble_eq_true rfl); (· rfl); (· rfl); have hO4 := objP_row q (noOctB kL) HNL.out (bdc ⟨(n0 : Nat), ak, u0, u1, u2, u3, (n3 : Nat), emptyB⟩).toArray; replace kR := kR.rowO (bdc ⟨(n0 : Nat), ak, u0, u1, u2, u3, (n3 : Nat), emptyB⟩).toArray (g := w.heap.size + 1) (by omega); replace kL := kL.row (bdc ⟨(n0 : Nat), ak, u0, u1, u2, u3, (n3 : Nat), emptyB⟩); replace hG := grown_row hG (Nat.le_succ _) (bdc ⟨(n0 : Nat), ak, u0, u1, u2, u3, (n3 : Nat), emptyB⟩).toArray; clear q)
    | (go_at_call 79; refine (Q4.out _ hO4).mono ?_; rintro e W1 ⟨rfl, q, g⟩; replace hG := World.grownBy.trans hG g; replace kR := kR.kept g HNR.out; replace kL := kL.kept g HNL.out; clear g hO4)
    | ((with_reducible refine wpList_store_part 9 (.tmp 18) (.tmp 17) (bdc ⟨(n0 : Nat), ak, u0, u1, u2, u3, (n3 : Nat), str g⟩) kL 15 ((.string ⟨g.toArray⟩)) [.string ⟨g.toArray⟩] ?_ ?_ ?_ ?_ ?_ ?_ ?_ ?_ ?_ ?_ ?_); (· rfl); (· rfl); (· rfl); (· rfl); (· rfl); (· rfl); (· kernel_rfl); (· exact Nat.le_of_ble_eq_true rfl); (· rfl); (· rfl); have hO5 := objP_row q (noOctB kL) HNL.out (bdc ⟨(n0 : Nat), ak, u0, u1, u2, u3, (n3 : Nat), str g⟩).toArray; replace kR := kR.rowO (bdc ⟨(n0 : Nat), ak, u0, u1, u2, u3, (n3 : Nat), str g⟩).toArray (g := w.heap.size + 1) (by omega); replace kL := kL.row (bdc ⟨(n0 : Nat), ak, u0, u1, u2, u3, (n3 : Nat), str g⟩); replace hG := grown_row hG (Nat.le_succ _) (bdc ⟨(n0 : Nat), ak, u0, u1, u2, u3, (n3 : Nat), str g⟩).toArray; clear q)
    | ((with_reducible refine wpList_loadIf 28 (.tmp 3) ?_ (some 19) ?_ ?_ (bdv ⟨(n0 : Nat), ak, u0, u1, u2, u3, (n3 : Nat), str g⟩) ?_ ?_); (· rfl); (· rfl); (· rfl); (· exact load_bd kL))
    | ((with_reducible refine wpList_store_part 28 (.tmp 2) (.tmp 19) (bdc ⟨(n0 : Nat), ak, u0, u1, u2, u3, (n3 : Nat), str g⟩) kR 0 ((bdv ⟨(n0 : Nat), ak, u0, u1, u2, u3, (n3 : Nat), str g⟩)) (bdc ⟨(n0 : Nat), ak, u0, u1, u2, u3, (n3 : Nat), str g⟩) ?_ ?_ ?_ ?_ ?_ ?_ ?_ ?_ ?_ ?_ ?_); (· rfl); (· rfl); (· rfl); (· rfl); (· rfl); (· rfl); (· kernel_rfl); (· exact Nat.le_of_ble_eq_true rfl); (· rfl); (· rfl); have hO6 := objP_row hO5 (noOctB kR) HNR.out (bdc ⟨(n0 : Nat), ak, u0, u1, u2, u3, (n3 : Nat), str g⟩).toArray; replace kR := kR.row (bdc ⟨(n0 : Nat), ak, u0, u1, u2, u3, (n3 : Nat), str g⟩); replace hG := grown_row hG (Nat.le_refl _) (bdc ⟨(n0 : Nat), ak, u0, u1, u2, u3, (n3 : Nat), str g⟩).toArray))
  exact bodyPost_ret (v := bdv ⟨(n0 : Nat), ak, u0, u1, u2, u3, (n3 : Nat), str g⟩) (results_cell_row (P := Tryz.prog) (fn := Tryz.f75) (p := 2) (ty := 28) rfl _ _ w.heap.size 28 (bdc ⟨(n0 : Nat), ak, u0, u1, u2, u3, (n3 : Nat), str g⟩).toArray (0, 0) _ rfl kR Tryz.underlying28 rfl (by kernel_rfl)) rfl ⟨by rw [HX.out]; try rfl, hO6, hG⟩
end Go.Proofs.YtechcdkakgpnkaaGreat
namespace Go.Proofs.YtechcdkakgpnkaaGreat
open Go.RowKit Go.Shelf
theorem rawG_1 {s : St} (h : kdG s = 1) : rawG s = ({ noM with kd := 1, ak := (getA (gd0 s).2).1 }, (getA (gd0 s).2).2) := if_pos h
theorem rawG_2 {s : St} (h : kdG s = 2) : rawG s = ({ noM with kd := 2, bd := rawD (gd0 s).2 }, (bd4 (gd0 s).2).2) := by rw [rawG, if_neg (by omega), if_pos h]
theorem rawG_3 {s : St} (h : kdG s = 3) : rawG s = ({ noM with kd := 3, iv := (ld0 (gd0 s).2).1, vr := (ld1 (gd0 s).2).1, f0 := wdS (ld2 (gd0 s).2).1 0, f1 := wdS (ld2 (gd0 s).2).1 1, f2 := wdS (ld2 (gd0 s).2).1 2, f3 := wdS (ld2 (gd0 s).2).1 3, sg := str (ld3 (gd0 s).2).1 }, (ld3 (gd0 s).2).2) := by rw [rawG, if_neg (by omega), if_neg (by omega), if_pos h]
theorem rawG_0 {s : St} (h1 : kdG s ≠ 1) (h2 : kdG s ≠ 2) (h3 : kdG s ≠ 3) : rawG s = ({ noM with kd := kdG s }, (gd0 s).2) := by rw [rawG, if_neg h1, if_neg h2, if_neg h3]
set_option maxRecDepth 100000 in
set_option maxHeartbeats 8000000 in
theorem mailFields_any {p : Option Addr} {s : St} (w : World) (h : ObjP 143 w p s) :
    Calls Tryz.prog 36 #[.pointer p] w (GotM 143 p (rawG s) w) := by
  have HNR := Lib.hid (ptr_lt h (Nat.le_refl w.heap.size))
  have Q0 : Hid (∀ W, ObjP 143 W p s → Calls Tryz.prog 73 #[.pointer p, .int .i64 1099511627776] W (fun e W' => e = .returned (.int .i64 (kdG s)) ∧ ObjP 143 W' p (gd0 s).2 ∧ W.grownBy W' (p.map (·.block)))) := Lib.hid fun W h => mnum_kind p s W h
  have X1 := Lib.hid (rawG_1 (s := s))
  have X2 := Lib.hid (rawG_2 (s := s))
  have X3 := Lib.hid (rawG_3 (s := s))
  have X0 := Lib.hid (rawG_0 (s := s))
  generalize rawG s = rw0 at *
  generalize kdG s = kd at *
  generalize (gd0 s).2 = s1 at *
  have kR := Blk.new w 34 (msc noM)
  have hG := World.grownBy_alloc w (.cells (msc noM).toArray 34) (p.map (·.block))
  have hO := h.below (chain0 w (.cells (msc noM).toArray 34))
  clear h
  go_enter Tryz.func36, Tryz.ntmps36
  go_upto_region 2 with (first
    | (go_at_call 73; refine (Q0.out _ hO).mono ?_; rintro e W1 ⟨rfl, q, g⟩; have hg1 := g.size; replace hG := World.grownBy.trans hG g; replace kR := kR.kept g HNR.out; have hb1 := chain0 W1 (.cells (msc noM).toArray 34); have kL := Blk.new W1 34 (msc noM); have HRL : Hid (w.heap.size ≠ W1.heap.size) := Lib.hid (by have := kR.lt; omega); replace kR := kR.below hb1 kR.lt; have hWL := hG.size; replace hG := World.grownBy.trans hG (grew hb1 _); have HNL := Lib.hid (ptr_lt q (Nat.le_refl W1.heap.size)); replace q := q.below hb1; clear g hg1 hb1 hO)
    | (refine wpList_buildTo rfl 34 _ rfl (some 6) rfl (msc ⟨kd, noA, noB, noI, noV, 0, 0, 0, 0, emptyB⟩).toArray (by kernel_rfl) ?_)
    | ((refine wpList_store_part 34 (.tmp 3) (.tmp 6) (msc ⟨kd, noA, noB, noI, noV, 0, 0, 0, 0, emptyB⟩) kL 0 ((msv ⟨kd, noA, noB, noI, noV, 0, 0, 0, 0, emptyB⟩)) (msc ⟨kd, noA, noB, noI, noV, 0, 0, 0, 0, emptyB⟩) ?_ ?_ ?_ ?_ ?_ ?_ ?_ ?_ ?_ ?_ ?_); (· rfl); (· rfl); (· rfl); (· rfl); (· rfl); (· rfl); (· kernel_rfl); (· exact Nat.le_of_ble_eq_true rfl); (· rfl); (· rfl); have hO := objP_row q (noOctM kL) HNL.out (msc ⟨kd, noA, noB, noI, noV, 0, 0, 0, 0, emptyB⟩).toArray; replace kR := kR.rowO (msc ⟨kd, noA, noB, noI, noV, 0, 0, 0, 0, emptyB⟩).toArray HRL.out; replace kL := kL.row (msc ⟨kd, noA, noB, noI, noV, 0, 0, 0, 0, emptyB⟩); replace hG := grown_row hG hWL (msc ⟨kd, noA, noB, noI, noV, 0, 0, 0, 0, emptyB⟩).toArray; clear q))
  generalize hW2 : World.setRow (World.alloc W1 _) _ _ = W2
  replace hO : ObjP 143 W2 p s1 := by rw [← hW2]; exact hO
  replace kR : Blk W2 w.heap.size 34 (msc noM) := by rw [← hW2]; exact kR
  replace kL : Blk W2 W1.heap.size 34 (msc ⟨kd, noA, noB, noI, noV, 0, 0, 0, 0, emptyB⟩) := by rw [← hW2]; exact kL
  replace hG : w.grownBy W2 (p.map (·.block)) := by rw [← hW2]; exact hG
  clear hW2 Q0
  generalize W1.heap.size = L at *
  have c0 := (kL.cell 0).trans rfl
  by_cases k1 : kd = 1
  · subst k1
    have HX := Lib.hid (X1.out rfl)
    have QA : Hid (∀ W, ObjP 143 W p s1 → Calls Tryz.prog 74 #[.pointer p] W (GotA 143 p (getA s1) W)) := Lib.hid fun W h => bidGetAsk_any W h
    clear X0 X1 X2 X3
    generalize getA s1 = ga at *
    obtain ⟨ak, s2⟩ := ga
    dsimp only at HX
    go_wp2_with (first
      | (go_at_call 74; refine (QA.out _ hO).mono ?_; rintro e W3 ⟨rfl, q, g⟩; replace hG := World.grownBy.trans hG g; replace kR := kR.kept g HNR.out; replace kL := kL.kept g HNL.out; (try clear c0); clear g hO)
      | ((with_reducible refine wpList_store_part 26 (.tmp 13) (.tmp 12) (msc ⟨1, ak, noB, noI, noV, 0, 0, 0, 0, emptyB⟩) kL 1 ((akv ak)) (akc ak) ?_ ?_ ?_ ?_ ?_ ?_ ?_ ?_ ?_ ?_ ?_); (· rfl); (· rfl); (· rfl); (· rfl); (· rfl); (· rfl); (· kernel_rfl); (· exact Nat.le_of_ble_eq_true rfl); (· rfl); (· rfl); have hO1 := objP_row q (noOctM kL) HNL.out (msc ⟨1, ak, noB, noI, noV, 0, 0, 0, 0, emptyB⟩).toArray; replace kR := kR.rowO (msc ⟨1, ak, noB, noI, noV, 0, 0, 0, 0, emptyB⟩).toArray HRL.out; replace kL := kL.row (msc ⟨1, ak, noB, noI, noV, 0, 0, 0, 0, emptyB⟩); replace hG := grown_row hG hWL (msc ⟨1, ak, noB, noI, noV, 0, 0, 0, 0, emptyB⟩).toArray; clear q)
      | ((with_reducible refine wpList_loadIf 34 (.tmp 3) ?_ (some 33) ?_ ?_ (msv ⟨1, ak, noB, noI, noV, 0, 0, 0, 0, emptyB⟩) ?_ ?_); (· rfl); (· rfl); (· rfl); (· exact load_ms kL))
      | ((with_reducible refine wpList_store_part 34 (.tmp 2) (.tmp 33) (msc ⟨1, ak, noB, noI, noV, 0, 0, 0, 0, emptyB⟩) kR 0 ((msv ⟨1, ak, noB, noI, noV, 0, 0, 0, 0, emptyB⟩)) (msc ⟨1, ak, noB, noI, noV, 0, 0, 0, 0, emptyB⟩) ?_ ?_ ?_ ?_ ?_ ?_ ?_ ?_ ?_ ?_ ?_); (· rfl); (· rfl); (· rfl); (· rfl); (· rfl); (· rfl); (· kernel_rfl); (· exact Nat.le_of_ble_eq_true rfl); (· rfl); (· rfl); have hOE := objP_row hO1 (noOctM kR) HNR.out (msc ⟨1, ak, noB, noI, noV, 0, 0, 0, 0, emptyB⟩).toArray; replace kR := kR.row (msc ⟨1, ak, noB, noI, noV, 0, 0, 0, 0, emptyB⟩); replace hG := grown_row hG (Nat.le_refl _) (msc ⟨1, ak, noB, noI, noV, 0, 0, 0, 0, emptyB⟩).toArray))
    exact bodyPost_ret (v := msv ⟨1, ak, noB, noI, noV, 0, 0, 0, 0, emptyB⟩) (results_cell_row (P := Tryz.prog) (fn := Tryz.f36) (p := 2) (ty := 34) rfl _ _ w.heap.size 34 (msc ⟨1, ak, noB, noI, noV, 0, 0, 0, 0, emptyB⟩).toArray (0, 0) _ rfl kR Tryz.underlying34 rfl (by kernel_rfl)) rfl ⟨by rw [HX.out]; try rfl, by rw [HX.out]; exact hOE, hG⟩
  have q1 : (kd == 1) = false := by simpa using k1
  by_cases k2 : kd = 2
  · subst k2
    have HX := Lib.hid (X2.out rfl)
    have QD : Hid (∀ W, ObjP 143 W p s1 → Calls Tryz.prog 75 #[.pointer p] W (GotB 143 p (rawD s1, (bd4 s1).2) W)) := Lib.hid fun W h => getBid_any W h
    clear X0 X1 X2 X3 k1
    generalize rawD s1 = bd at *
    generalize (bd4 s1).2 = s2 at *
    go_wp2_with (first
      | (go_at_call 75; refine (QD.out _ hO).mono ?_; rintro e W3 ⟨rfl, q, g⟩; replace hG := World.grownBy.trans hG g; replace kR := kR.kept g HNR.out; replace kL := kL.kept g HNL.out; (try clear c0); clear g hO)
      | ((with_reducible refine wpList_store_part 28 (.tmp 18) (.tmp 17) (msc ⟨2, noA, bd, noI, noV, 0, 0, 0, 0, emptyB⟩) kL 10 ((bdv bd)) (bdc bd) ?_ ?_ ?_ ?_ ?_ ?_ ?_ ?_ ?_ ?_ ?_); (· rfl); (· rfl); (· rfl); (· rfl); (· rfl); (· rfl); (· kernel_rfl); (· exact Nat.le_of_ble_eq_true rfl); (· rfl); (· rfl); have hO1 := objP_row q (noOctM kL) HNL.out (msc ⟨2, noA, bd, noI, noV, 0, 0, 0, 0, emptyB⟩).toArray; replace kR := kR.rowO (msc ⟨2, noA, bd, noI, noV, 0, 0, 0, 0, emptyB⟩).toArray HRL.out; replace kL := kL.row (msc ⟨2, noA, bd, noI, noV, 0, 0, 0, 0, emptyB⟩); replace hG := grown_row hG hWL (msc ⟨2, noA, bd, noI, noV, 0, 0, 0, 0, emptyB⟩).toArray; clear q)
      | ((with_reducible refine wpList_loadIf 34 (.tmp 3) ?_ (some 33) ?_ ?_ (msv ⟨2, noA, bd, noI, noV, 0, 0, 0, 0, emptyB⟩) ?_ ?_); (· rfl); (· rfl); (· rfl); (· exact load_ms kL))
      | ((with_reducible refine wpList_store_part 34 (.tmp 2) (.tmp 33) (msc ⟨2, noA, bd, noI, noV, 0, 0, 0, 0, emptyB⟩) kR 0 ((msv ⟨2, noA, bd, noI, noV, 0, 0, 0, 0, emptyB⟩)) (msc ⟨2, noA, bd, noI, noV, 0, 0, 0, 0, emptyB⟩) ?_ ?_ ?_ ?_ ?_ ?_ ?_ ?_ ?_ ?_ ?_); (· rfl); (· rfl); (· rfl); (· rfl); (· rfl); (· rfl); (· kernel_rfl); (· exact Nat.le_of_ble_eq_true rfl); (· rfl); (· rfl); have hOE := objP_row hO1 (noOctM kR) HNR.out (msc ⟨2, noA, bd, noI, noV, 0, 0, 0, 0, emptyB⟩).toArray; replace kR := kR.row (msc ⟨2, noA, bd, noI, noV, 0, 0, 0, 0, emptyB⟩); replace hG := grown_row hG (Nat.le_refl _) (msc ⟨2, noA, bd, noI, noV, 0, 0, 0, 0, emptyB⟩).toArray))
    exact bodyPost_ret (v := msv ⟨2, noA, bd, noI, noV, 0, 0, 0, 0, emptyB⟩) (results_cell_row (P := Tryz.prog) (fn := Tryz.f36) (p := 2) (ty := 34) rfl _ _ w.heap.size 34 (msc ⟨2, noA, bd, noI, noV, 0, 0, 0, 0, emptyB⟩).toArray (0, 0) _ rfl kR Tryz.underlying34 rfl (by kernel_rfl)) rfl ⟨by rw [HX.out]; try rfl, by rw [HX.out]; exact hOE, hG⟩
  have q2 : (kd == 2) = false := by simpa using k2
  by_cases k3 : kd = 3
  · subst k3
    have HX := Lib.hid (X3.out rfl)
    have QI : Hid (∀ W, ObjP 143 W p s1 → Calls Tryz.prog 76 #[.pointer p] W (GotI 143 p (ld0 s1) W)) := Lib.hid fun W h => dealGet_any W h
    have QV : Hid (∀ W, ObjP 143 W p (ld0 s1).2 → Calls Tryz.prog 77 #[.pointer p] W (GotV 143 p (ld1 s1) W)) := Lib.hid fun W h => dealGetVar_any W h
    have QW : Hid (∀ W, ObjP 143 W p (ld1 s1).2 → Calls Tryz.prog 78 #[.pointer p] W (WidS 143 p (ld2 s1) W)) := Lib.hid fun W h => inWide_any W h
    have QT : Hid (∀ W, ObjP 143 W p (ld2 s1).2 → Calls Tryz.prog 79 #[.pointer p, .int .i64 1024] W (TxtS 143 p (ld3 s1) W)) := Lib.hid fun W h => mtxt_kind p _ W h
    clear X0 X1 X2 X3 k1 k2
    generalize ld0 s1 = d0 at *
    generalize ld1 s1 = d1 at *
    generalize ld2 s1 = d2 at *
    generalize ld3 s1 = d3 at *
    obtain ⟨iv, s2⟩ := d0
    obtain ⟨vr, s3⟩ := d1
    obtain ⟨fl, s4⟩ := d2
    obtain ⟨gg, s5⟩ := d3
    unfold WidS at QW
    dsimp only at HX QV QW QT
    generalize wdS fl 0 = f0 at *
    generalize wdS fl 1 = f1 at *
    generalize wdS fl 2 = f2 at *
    generalize wdS fl 3 = f3 at *
    go_wp2_with (first
      | (go_at_call 76; refine (QI.out _ hO).mono ?_; rintro e W3 ⟨rfl, q, g⟩; replace hG := World.grownBy.trans hG g; replace kR := kR.kept g HNR.out; replace kL := kL.kept g HNL.out; (try clear c0); clear g hO)
      | ((with_reducible refine wpList_store_part 30 (.tmp 23) (.tmp 22) (msc ⟨3, noA, noB, iv, noV, 0, 0, 0, 0, emptyB⟩) kL 26 ((ivv iv)) (ivc iv) ?_ ?_ ?_ ?_ ?_ ?_ ?_ ?_ ?_ ?_ ?_); (· rfl); (· rfl); (· rfl); (· rfl); (· rfl); (· rfl); (· kernel_rfl); (· exact Nat.le_of_ble_eq_true rfl); (· rfl); (· rfl); have hO1 := objP_row q (noOctM kL) HNL.out (msc ⟨3, noA, noB, iv, noV, 0, 0, 0, 0, emptyB⟩).toArray; replace kR := kR.rowO (msc ⟨3, noA, noB, iv, noV, 0, 0, 0, 0, emptyB⟩).toArray HRL.out; replace kL := kL.row (msc ⟨3, noA, noB, iv, noV, 0, 0, 0, 0, emptyB⟩); replace hG := grown_row hG hWL (msc ⟨3, noA, noB, iv, noV, 0, 0, 0, 0, emptyB⟩).toArray; clear q)
      | (go_at_call 77; refine (QV.out _ hO1).mono ?_; rintro e W3 ⟨rfl, q, g⟩; replace hG := World.grownBy.trans hG g; replace kR := kR.kept g HNR.out; replace kL := kL.kept g HNL.out; (try clear c0); clear g hO1)
      | ((with_reducible refine wpList_store_part 32 (.tmp 26) (.tmp 25) (msc ⟨3, noA, noB, iv, vr, 0, 0, 0, 0, emptyB⟩) kL 33 ((svv vr)) (svc vr) ?_ ?_ ?_ ?_ ?_ ?_ ?_ ?_ ?_ ?_ ?_); (· rfl); (· rfl); (· rfl); (· rfl); (· rfl); (· rfl); (· kernel_rfl); (· exact Nat.le_of_ble_eq_true rfl); (· rfl); (· rfl); have hO2 := objP_row q (noOctM kL) HNL.out (msc ⟨3, noA, noB, iv, vr, 0, 0, 0, 0, emptyB⟩).toArray; replace kR := kR.rowO (msc ⟨3, noA, noB, iv, vr, 0, 0, 0, 0, emptyB⟩).toArray HRL.out; replace kL := kL.row (msc ⟨3, noA, noB, iv, vr, 0, 0, 0, 0, emptyB⟩); replace hG := grown_row hG hWL (msc ⟨3, noA, noB, iv, vr, 0, 0, 0, 0, emptyB⟩).toArray; clear q)
      | (go_at_call 78; refine (QW.out _ hO2).mono ?_; rintro e W3 ⟨rfl, q, g⟩; replace hG := World.grownBy.trans hG g; replace kR := kR.kept g HNR.out; replace kL := kL.kept g HNL.out; (try clear c0); clear g hO2)
      | ((with_reducible refine wpList_store_part 24 (.tmp 29) (.tmp 28) (msc ⟨3, noA, noB, iv, vr, f0, f1, f2, f3, emptyB⟩) kL 38 ((wv f0 f1 f2 f3)) [.int .u64 (f0 : Nat), .int .u64 (f1 : Nat), .int .u64 (f2 : Nat), .int .u64 (f3 : Nat)] ?_ ?_ ?_ ?_ ?_ ?_ ?_ ?_ ?_ ?_ ?_); (· rfl); (· rfl); (· rfl); (· rfl); (· rfl); (· rfl); (· kernel_rfl); (· exact Nat.le_of_ble_eq_true rfl); (· rfl); (· rfl); have hO3 := objP_row q (noOctM kL) HNL.out (msc ⟨3, noA, noB, iv, vr, f0, f1, f2, f3, emptyB⟩).toArray; replace kR := kR.rowO (msc ⟨3, noA, noB, iv, vr, f0, f1, f2, f3, emptyB⟩).toArray HRL.out; replace kL := kL.row (msc ⟨3, noA, noB, iv, vr, f0, f1, f2, f3, emptyB⟩); replace hG := grown_row hG hWL (msc ⟨3, noA, noB, iv, vr, f0, f1, f2, f3, emptyB⟩).toArray; clear q)
      | (go_at_call 79; refine (QT.out _ hO3).mono ?_; rintro e W3 ⟨rfl, q, g⟩; replace hG := World.grownBy.trans hG g; replace kR := kR.kept g HNR.out; replace kL := kL.kept g HNL.out; (try clear c0); clear g hO3)
      | ((with_reducible refine wpList_store_part 9 (.tmp 32) (.tmp 31) (msc ⟨3, noA, noB, iv, vr, f0, f1, f2, f3, str gg⟩) kL 42 ((.string ⟨gg.toArray⟩)) [.string ⟨gg.toArray⟩] ?_ ?_ ?_ ?_ ?_ ?_ ?_ ?_ ?_ ?_ ?_); (· rfl); (· rfl); (· rfl); (· rfl); (· rfl); (· rfl); (· kernel_rfl); (· exact Nat.le_of_ble_eq_true rfl); (· rfl); (· rfl); have hO4 := objP_row q (noOctM kL) HNL.out (msc ⟨3, noA, noB, iv, vr, f0, f1, f2, f3, str gg⟩).toArray; replace kR := kR.rowO (msc ⟨3, noA, noB, iv, vr, f0, f1, f2, f3, str gg⟩).toArray HRL.out; replace kL := kL.row (msc ⟨3, noA, noB, iv, vr, f0, f1, f2, f3, str gg⟩); replace hG := grown_row hG hWL (msc ⟨3, noA, noB, iv, vr, f0, f1, f2, f3, str gg⟩).toArray; clear q)
      | ((with_reducible refine wpList_loadIf 34 (.tmp 3) ?_ (some 33) ?_ ?_ (msv ⟨3, noA, noB, iv, vr, f0, f1, f2, f3, str gg⟩) ?_ ?_); (· rfl); (· rfl); (· rfl); (· exact load_ms kL))
      | ((with_reducible refine wpList_store_part 34 (.tmp 2) (.tmp 33) (msc ⟨3, noA, noB, iv, vr, f0, f1, f2, f3, str gg⟩) kR 0 ((msv ⟨3, noA, noB, iv, vr, f0, f1, f2, f3, str gg⟩)) (msc ⟨3, noA, noB, iv, vr, f0, f1, f2, f3, str gg⟩) ?_ ?_ ?_ ?_ ?_ ?_ ?_ ?_ ?_ ?_ ?_); (· rfl); (· rfl); (· rfl); (· rfl); (· rfl); (· rfl); (· kernel_rfl); (· exact Nat.le_of_ble_eq_true rfl); (· rfl); (· rfl); have hOE := objP_row hO4 (noOctM kR) HNR.out (msc ⟨3, noA, noB, iv, vr, f0, f1, f2, f3, str gg⟩).toArray; replace kR := kR.row (msc ⟨3, noA, noB, iv, vr, f0, f1, f2, f3, str gg⟩); replace hG := grown_row hG (Nat.le_refl _) (msc ⟨3, noA, noB, iv, vr, f0, f1, f2, f3, str gg⟩).toArray))
    exact bodyPost_ret (v := msv ⟨3, noA, noB, iv, vr, f0, f1, f2, f3, str gg⟩) (results_cell_row (P := Tryz.prog) (fn := Tryz.f36) (p := 2) (ty := 34) rfl _ _ w.heap.size 34 (msc ⟨3, noA, noB, iv, vr, f0, f1, f2, f3, str gg⟩).toArray (0, 0) _ rfl kR Tryz.underlying34 rfl (by kernel_rfl)) rfl ⟨by rw [HX.out]; try rfl, by rw [HX.out]; exact hOE, hG⟩
  have q3 : (kd == 3) = false := by simpa using k3
  have HX := Lib.hid (X0.out k1 k2 k3)
  clear X0 X1 X2 X3 k1 k2 k3
  go_wp2_with (first
    | ((with_reducible refine wpList_loadIf 34 (.tmp 3) ?_ (some 33) ?_ ?_ (msv ⟨kd, noA, noB, noI, noV, 0, 0, 0, 0, emptyB⟩) ?_ ?_); (· rfl); (· rfl); (· rfl); (· exact load_ms kL))
    | ((with_reducible refine wpList_store_part 34 (.tmp 2) (.tmp 33) (msc ⟨kd, noA, noB, noI, noV, 0, 0, 0, 0, emptyB⟩) kR 0 ((msv ⟨kd, noA, noB, noI, noV, 0, 0, 0, 0, emptyB⟩)) (msc ⟨kd, noA, noB, noI, noV, 0, 0, 0, 0, emptyB⟩) ?_ ?_ ?_ ?_ ?_ ?_ ?_ ?_ ?_ ?_ ?_); (· rfl); (· rfl); (· rfl); (· rfl); (· rfl); (· rfl); (· kernel_rfl); (· exact Nat.le_of_ble_eq_true rfl); (· rfl); (· rfl); have hOE := objP_row hO (noOctM kR) HNR.out (msc ⟨kd, noA, noB, noI, noV, 0, 0, 0, 0, emptyB⟩).toArray; replace kR := kR.row (msc ⟨kd, noA, noB, noI, noV, 0, 0, 0, 0, emptyB⟩); replace hG := grown_row hG (Nat.le_refl _) (msc ⟨kd, noA, noB, noI, noV, 0, 0, 0, 0, emptyB⟩).toArray))
  exact bodyPost_ret (v := msv ⟨kd, noA, noB, noI, noV, 0, 0, 0, 0, emptyB⟩) (results_cell_row (P := Tryz.prog) (fn := Tryz.f36) (p := 2) (ty := 34) rfl _ _ w.heap.size 34 (msc ⟨kd, noA, noB, noI, noV, 0, 0, 0, 0, emptyB⟩).toArray (0, 0) _ rfl kR Tryz.underlying34 rfl (by kernel_rfl)) rfl ⟨by rw [HX.out]; try rfl, by rw [HX.out]; exact hOE, hG⟩
end Go.Proofs.YtechcdkakgpnkaaGreat
namespace Go.Proofs.YtechcdkakgpnkaaGreat
open Go.RowKit Go.Shelf
theorem ObjP.lt {T : TypeId} {W : World} {B : Nat} {s : St} (h : ObjP T W (some ⟨B, 0, none⟩) s) : B < W.heap.size := by
  rcases h with ⟨h, _⟩ | ⟨B', m, a, n, c, x, e, hb, _⟩
  · cases h
  · cases e; exact hb.lt
end Go.Proofs.YtechcdkakgpnkaaGreat
namespace Go.Proofs.YtechcdkakgpnkaaGreat
open Go.RowKit Go.Shelf
theorem inOpenW_any (l : List UInt8) (sv : Value) (w : World) (hsv : BSl 0 w.heap.size w sv l) :
    Calls Tryz.prog 35 #[sv] w fun e W' => ∃ NB, e = .returned (.pointer (some ⟨NB, 0, none⟩)) ∧ w.heap.size ≤ NB ∧ ObjP 143 W' (some ⟨NB, 0, none⟩) (openS l) ∧ Below w.heap.size w W' := by
  obtain ⟨a, c, rfl, -⟩ := hsv.shape
  have HOK := openS_ok l
  unfold openS at *
  generalize hn : l.length = n at *
  have HN := Lib.hid hn
  clear hn
  by_cases hfit : n ≤ 8192
  · rw [if_pos hfit] at *
    have hgt : ¬ (8192 : Int) < (n : Int) := by omega
    go_enter Tryz.func35, Tryz.ntmps35
    go_wp2_with (go_at_call 72; refine (clone_any l _ w (by rw [HN.out]; omega) hsv (Nat.le_refl _)).mono ?_; rintro e w1 ⟨v, rfl, hv, hb1⟩; obtain ⟨va, vm, vc, rfl⟩ := (BSl.of_own hv).shape3)
    go_ret
    have hB := chainA hb1 (.cells #[.bool true, .slice va vm vc, .int .i64 0] 143)
    have hB1 := chain0 w1 (.cells #[.bool true, .slice va vm vc, .int .i64 0] 143)
    exact ⟨w1.heap.size, rfl, hb1.size, .inr ⟨_, true, va, vm, vc, 0, rfl, Blk.new w1 _ [_, _, _], .inr ⟨rfl, rfl, HOK, (((BSl.of_own hv).below hB1 (Nat.le_refl _)).mono (Nat.zero_le _) hB1.size)⟩⟩, hB⟩
  · rw [if_neg hfit] at *
    have hgt : (8192 : Int) < (n : Int) := by omega
    go_enter Tryz.func35, Tryz.ntmps35
    go_wp2
    go_ret
    exact ⟨w.heap.size, rfl, Nat.le_refl _, .inr ⟨_, true, none, 0, 0, 5, rfl, Blk.new w _ [_, _, _], .inr ⟨rfl, rfl, HOK, BSl.nil _ _ _⟩⟩, chain0 _ _⟩
end Go.Proofs.YtechcdkakgpnkaaGreat
namespace Go.Proofs.YtechcdkakgpnkaaGreat
open Go.RowKit Go.Shelf
def retM (m : Ms) (c : Int) : Value := .tuple #[msv m, .int .i64 c]
def RdM (r : Ms × Int) (w : World) (e : Ending) (W' : World) : Prop := e = .returned (retM r.1 r.2) ∧ Below w.heap.size w W'
theorem load_msv {W : World} {B : Nat} {m : Ms} (h : Blk W B 34 (msc m)) : (loadVar 34 ⟨B, 0, none⟩).run Tryz.prog W = .ok (msv m) W := by
  simpa only [Instr.loadAt, Instr.sureAddr, Sem.run_bind, Sem.run_pure, Result.andThen_ok] using load_ms h
set_option maxRecDepth 100000 in
set_option maxHeartbeats 4000000 in
theorem mailRead_any (l : List UInt8) (sv : Value) (w : World) (hsv : BSl 0 w.heap.size w sv l) :
    Calls Tryz.prog 11 #[sv] w (RdM (readG (openS l)) w) := by
  obtain ⟨a, m, c, rfl⟩ := hsv.shape3
  have HGT : Hid (∀ p W, ObjP 143 W p (openS l) → Calls Tryz.prog 36 #[.pointer p] W (GotM 143 p (rawG (openS l)) W)) := Lib.hid fun p W h => mailFields_any W h
  have HRO := Lib.hid (fun t g => readG_ok (s := openS l) (m := t) (g := g))
  have HRB := Lib.hid (fun t g => readG_bad (s := openS l) (m := t) (g := g))
  have HRS := Lib.hid (fun t g => readG_sp (s := openS l) (m := t) (g := g))
  have HOP : Hid (∀ W, BSl 0 W.heap.size W (.slice a m c) l → Calls Tryz.prog 35 #[.slice a m c] W fun e W' => ∃ NB, e = .returned (.pointer (some ⟨NB, 0, none⟩)) ∧ W.heap.size ≤ NB ∧ ObjP 143 W' (some ⟨NB, 0, none⟩) (openS l) ∧ Below W.heap.size W W') := Lib.hid fun W h => inOpenW_any l _ W h
  have hok := okS_rawG (openS_ok l)
  have hom := okM_raw (openS l)
  generalize readG (openS l) = rd at *
  generalize hgt : rawG (openS l) = gt at *
  obtain ⟨gx, gs⟩ := gt
  replace HRO := Lib.hid (HRO.out gx gs rfl)
  replace HRB := Lib.hid (HRB.out gx gs rfl)
  replace HRS := Lib.hid (HRS.out gx gs rfl)
  have HC := Lib.hid (mailCheck_any gx hom)
  clear hgt hom
  have kR := Blk.new w 34 (msc noM)
  have hB := chain0 w (.cells (msc noM).toArray 34)
  have hs1 := (hsv.below hB (Nat.le_refl _)).mono (Nat.le_refl _) hB.size
  clear hsv
  go_enter Tryz.func11, Tryz.ntmps11
  go_upto_region 3 with (first
    | (go_at_call 35; refine (HOP.out _ hs1).mono ?_; rintro e w1 ⟨NB, rfl, hN, hO, hb⟩; have hNw := Nat.le_trans hB.size hN; have hRN : some w.heap.size ≠ some NB := (fun e => by cases e; have := kR.lt; omega); replace kR := kR.below hb kR.lt; replace hB := chain hB hb; clear hb hN hs1)
    | (go_at_call 36; refine (HGT.out _ _ hO).mono ?_; rintro e W1 ⟨rfl, q, g⟩; have hg1 := g.size; replace kR := kR.kept g hRN; replace hB := hB.grown g hB.size (fun k e => by cases e; exact hNw); have hb1 := chain0 W1 (.cells (msc noM).toArray 34); have kN := Blk.new W1 34 (msc noM); have HRK : Hid (w.heap.size ≠ W1.heap.size) := Lib.hid (by have := kR.lt; omega); have hNl := q.lt; have HNN : Hid (some W1.heap.size ≠ some NB) := Lib.hid (fun e => by cases e; omega); have hWN := hB.size; replace kR := kR.below hb1 kR.lt; replace hB := chain hB hb1; replace q := q.below hb1; clear g hg1 hb1 hO)
    | ((refine wpList_store_part 34 (.tmp 5) (.tmp 10) (msc gx) kN 0 ((msv gx)) (msc gx) ?_ ?_ ?_ ?_ ?_ ?_ ?_ ?_ ?_ ?_ ?_); (· rfl); (· rfl); (· rfl); (· rfl); (· rfl); (· rfl); (· kernel_rfl); (· exact Nat.le_of_ble_eq_true rfl); (· rfl); (· rfl); have hq := objP_row q (noOctM kN) HNN.out (msc gx).toArray; replace kR := kR.rowO (msc gx).toArray HRK.out; replace kN := kN.row (msc gx); replace hB := below_setRow hB hWN (msc gx).toArray))
  generalize hX : World.setRow (World.alloc W1 _) _ _ = X
  replace hq : ObjP 143 X (some ⟨NB, 0, none⟩) gs := by rw [← hX]; exact hq
  replace kR : Blk X w.heap.size 34 (msc noM) := by rw [← hX]; exact kR
  replace kN : Blk X W1.heap.size 34 (msc gx) := by rw [← hX]; exact kN
  replace hB : Below w.heap.size w X := by rw [← hX]; exact hB
  clear hX q HOP HGT HRK hWN hNl
  generalize W1.heap.size = BX at *
  by_cases hm : errG gx = 0
  · have HE := Lib.hid hm
    by_cases hn : gs.1 = []
    · have hz : gs.1.length = 0 := by rw [hn]; rfl
      by_cases he : gs.2 = 0
      · have HX : Hid (rd = (gx, 0)) := Lib.hid (HRO.out he hn hm)
        have hq1 : (gs.2 == 0) = true := by simpa using he
        have hq2 : (gs.2 != 0) = false := by simpa using he
        clear he hn hm HRO HRB HRS hok
        go_wp2_with (first
          | ((with_reducible refine wpList_loadIf 34 (.tmp 5) ?_ (some 11) ?_ ?_ (msv gx) ?_ ?_); (· rfl); (· rfl); (· rfl); (· exact load_ms kN))
          | (go_at_call 22; refine (HC.out _).mono ?_; rw [HE.out]; rintro e w3 ⟨rfl, hb⟩; replace kR := kR.below hb kR.lt; replace kN := kN.below hb kN.lt; replace hB := chain hB hb; replace hq := hq.below hb; clear hb)
          | (go_at_call 37; refine (inLeft_any _ hq).mono ?_; rintro e W2 ⟨rfl, rfl⟩)
          | (go_at_call 39; refine (inErr_any _ hq).mono ?_; rintro e V2 ⟨rfl, rfl⟩)
          | ((with_reducible refine wpList_loadIf 34 (.tmp 5) ?_ (some 27) ?_ ?_ (msv gx) ?_ ?_); (· rfl); (· rfl); (· rfl); (· exact load_ms kN))
          | ((with_reducible refine wpList_store_part 34 (.tmp 2) (.tmp 27) (msc gx) kR 0 ((msv gx)) (msc gx) ?_ ?_ ?_ ?_ ?_ ?_ ?_ ?_ ?_ ?_ ?_); (· rfl); (· rfl); (· rfl); (· rfl); (· rfl); (· rfl); (· kernel_rfl); (· exact Nat.le_of_ble_eq_true rfl); (· rfl); (· rfl); replace kR := kR.row (msc gx); replace hB := below_setRow hB (Nat.le_refl _) (msc gx).toArray))
        exact bodyPost_ret (v := retM gx 0) (by simp [results, Tryz.results11, asAddr, retM]; rw [load_msv kR]; rfl) rfl ⟨by rw [HX.out], hB⟩
      · have HX : Hid (rd = (noM, gs.2)) := Lib.hid (HRB.out he)
        have hq1 : (gs.2 == 0) = false := by simpa using he
        have hq2 : (gs.2 != 0) = true := by simpa using he
        clear he hn hm HRO HRB HRS hok
        go_wp2_with (first
          | ((with_reducible refine wpList_loadIf 34 (.tmp 5) ?_ (some 11) ?_ ?_ (msv gx) ?_ ?_); (· rfl); (· rfl); (· rfl); (· exact load_ms kN))
          | (go_at_call 22; refine (HC.out _).mono ?_; rw [HE.out]; rintro e w3 ⟨rfl, hb⟩; replace kR := kR.below hb kR.lt; replace kN := kN.below hb kN.lt; replace hB := chain hB hb; replace hq := hq.below hb; clear hb)
          | (go_at_call 37; refine (inLeft_any _ hq).mono ?_; rintro e W2 ⟨rfl, rfl⟩)
          | (go_at_call 39; refine (inErr_any _ hq).mono ?_; rintro e V2 ⟨rfl, rfl⟩)
          | (refine wpList_buildTo rfl 34 _ rfl (some 25) rfl (msc noM).toArray (by kernel_rfl) ?_)
          | ((with_reducible refine wpList_store_part 34 (.tmp 2) (.tmp 25) (msc noM) kR 0 ((msv noM)) (msc noM) ?_ ?_ ?_ ?_ ?_ ?_ ?_ ?_ ?_ ?_ ?_); (· rfl); (· rfl); (· rfl); (· rfl); (· rfl); (· rfl); (· kernel_rfl); (· exact Nat.le_of_ble_eq_true rfl); (· rfl); (· rfl); replace kR := kR.row (msc noM); replace hB := below_setRow hB (Nat.le_refl _) (msc noM).toArray))
        exact bodyPost_ret (v := retM noM gs.2) (by simp [results, Tryz.results11, asAddr, retM]; rw [load_msv kR]; rfl) rfl ⟨by rw [HX.out], hB⟩
    · have HX : Hid (rd = (noM, (errS gs 16).2)) := Lib.hid (HRS.out (.inr hn))
      have hz : 0 < gs.1.length := List.length_pos_iff.2 hn
      clear hn hm
      have hes : ((errS gs 16).2 != 0) = true := by simpa using errS_ne gs
      have hes2 : ((errS gs 16).2 == 0) = false := by simpa using errS_ne gs
      clear HRO HRB HRS hok
      go_wp2_with (first
        | ((with_reducible refine wpList_loadIf 34 (.tmp 5) ?_ (some 11) ?_ ?_ (msv gx) ?_ ?_); (· rfl); (· rfl); (· rfl); (· exact load_ms kN))
        | (go_at_call 22; refine (HC.out _).mono ?_; rw [HE.out]; rintro e w3 ⟨rfl, hb⟩; replace kR := kR.below hb kR.lt; replace kN := kN.below hb kN.lt; replace hB := chain hB hb; replace hq := hq.below hb; clear hb)
        | (go_at_call 37; refine (inLeft_any _ hq).mono ?_; rintro e W2 ⟨rfl, rfl⟩)
        | (go_at_call 38; refine (inSpoil_any _ hq).mono ?_; rintro e V1 ⟨rfl, hO9, g⟩; replace kR := kR.kept g hRN; replace hB := hB.grown g hB.size (fun k e => by cases e; exact hNw))
        | (go_at_call 39; refine (inErr_any _ hO9).mono ?_; rintro e V2 ⟨rfl, rfl⟩)
        | (refine wpList_buildTo rfl 34 _ rfl (some 25) rfl (msc noM).toArray (by kernel_rfl) ?_)
        | ((with_reducible refine wpList_store_part 34 (.tmp 2) (.tmp 25) (msc noM) kR 0 ((msv noM)) (msc noM) ?_ ?_ ?_ ?_ ?_ ?_ ?_ ?_ ?_ ?_ ?_); (· rfl); (· rfl); (· rfl); (· rfl); (· rfl); (· rfl); (· kernel_rfl); (· exact Nat.le_of_ble_eq_true rfl); (· rfl); (· rfl); replace kR := kR.row (msc noM); replace hB := below_setRow hB (Nat.le_refl _) (msc noM).toArray))
      exact bodyPost_ret (v := retM noM (errS gs 16).2) (by simp [results, Tryz.results11, asAddr, retM]; rw [load_msv kR]; rfl) rfl ⟨by rw [HX.out], hB⟩
  · have HX : Hid (rd = (noM, (errS gs 16).2)) := Lib.hid (HRS.out (.inl hm))
    have hm1 : (errG gx == 0) = false := by simpa using hm
    have hm2 : (errG gx != 0) = true := by simpa using hm
    clear hm
    have hes : ((errS gs 16).2 != 0) = true := by simpa using errS_ne gs
    have hes2 : ((errS gs 16).2 == 0) = false := by simpa using errS_ne gs
    clear HRO HRB HRS hok
    go_wp2_with (first
      | ((with_reducible refine wpList_loadIf 34 (.tmp 5) ?_ (some 11) ?_ ?_ (msv gx) ?_ ?_); (· rfl); (· rfl); (· rfl); (· exact load_ms kN))
      | (go_at_call 22; refine (HC.out _).mono ?_; rintro e w3 ⟨rfl, hb⟩; replace kR := kR.below hb kR.lt; replace kN := kN.below hb kN.lt; replace hB := chain hB hb; replace hq := hq.below hb; clear hb)
      | (go_at_call 37; refine (inLeft_any _ hq).mono ?_; rintro e W2 ⟨rfl, rfl⟩)
      | (go_at_call 38; refine (inSpoil_any _ hq).mono ?_; rintro e V1 ⟨rfl, hO9, g⟩; replace kR := kR.kept g hRN; replace hB := hB.grown g hB.size (fun k e => by cases e; exact hNw))
      | (go_at_call 39; refine (inErr_any _ hO9).mono ?_; rintro e V2 ⟨rfl, rfl⟩)
      | (refine wpList_buildTo rfl 34 _ rfl (some 25) rfl (msc noM).toArray (by kernel_rfl) ?_)
      | ((with_reducible refine wpList_store_part 34 (.tmp 2) (.tmp 25) (msc noM) kR 0 ((msv noM)) (msc noM) ?_ ?_ ?_ ?_ ?_ ?_ ?_ ?_ ?_ ?_ ?_); (· rfl); (· rfl); (· rfl); (· rfl); (· rfl); (· rfl); (· kernel_rfl); (· exact Nat.le_of_ble_eq_true rfl); (· rfl); (· rfl); replace kR := kR.row (msc noM); replace hB := below_setRow hB (Nat.le_refl _) (msc noM).toArray))
    exact bodyPost_ret (v := retM noM (errS gs 16).2) (by simp [results, Tryz.results11, asAddr, retM]; rw [load_msv kR]; rfl) rfl ⟨by rw [HX.out], hB⟩
end Go.Proofs.YtechcdkakgpnkaaGreat
namespace Go.Proofs.YtechcdkakgpnkaaGreat
open Go.RowKit Go.Shelf
section
variable {P : Program} {ops : Array Oper} {Q : Exit → Act → World → Prop}
end
section
variable {α : Type} {f : α → List Value} {e S : TypeId} {n bytes : Nat} {z : Value} {l : List α} {W : World} {pa : Option Addr} {pc : Nat}
theorem own_clip1 (hi0 : (Tryz.prog.info? e).map (fun i => (i.zero, i.size, i.bytes)) = some (some z, n, bytes)) (hzs : z.cells.size = n) (h0 : 0 < n) (hu : Tryz.prog.underlying S = some (.slice e)) (hn : ∀ x, (f x).length = n) (h1 : ∀ x, ∀ u ∈ f x, u.oneCell' = true)
    (h : ROk (.own f e n (.slice pa l.length pc) l) W) (x : α) {N : Nat} {T : TypeId} (hN : Blk W N T (f x)) (hb0 : 0 < bytes) (hr : (l.length + 1) * bytes ≤ 70368744177664) (ty : TypeId) :
    ∃ v' W', (Builtin.append_ #[S, S] ty #[.slice pa l.length l.length, .slice (some ⟨N, 0, none⟩) 1 1]).run Tryz.prog W = .ok v' W' ∧ RTurn (.own f e n (.slice pa l.length pc) l) (.own f e n v' (l ++ [x])) W W' := by
  obtain ⟨i0, hi, hz0, hz1, hz2⟩ := info_parts hi0
  have hlen : l.length + 1 ≤ 70368744177664 := Nat.le_trans (Nat.le_mul_of_pos_right _ hb0) hr
  have hnews : ∀ j u, (f x)[j]? = some u → W.cell? ((⟨N, 0, none⟩ : Addr).add j) = some u := fun j u hj => by rw [addr_add, Nat.zero_add]; exact (hN.cell j).trans hj
  have hfin : ∀ {v' : Value} {W' : World}, W'.ownsRow W.heap.size e n v' (l ++ [x]).length (flatR f (l ++ [x])) → Below W.heap.size W W' → RTurn (.own f e n (.slice pa l.length pc) l) (.own f e n v' (l ++ [x])) W W' := fun {v' W'} hO hb => by
    have hl := World.ownsRow.lt hO
    have hm : ∀ k ∈ v'.ownBlock.toList, v'.ownBlock = some k := fun k hk => by simpa using hk
    exact ⟨⟨⟨hO.1, hO.2.elim .inl fun ⟨g, cap, cur, hv, _, hx⟩ => .inr ⟨g, cap, cur, hv, Nat.zero_le _, hx⟩⟩, fun k hk => (hl k (hm k hk)).2⟩, Out.of_below hb, fun k hk => .inr (hl k (hm k hk)).1⟩
  rw [List.length_append, List.length_singleton, flat_app, flat_one] at hfin
  cases pa with
  | some ad =>
    have hs := h.rsl hn
    obtain ⟨v', W', g1, g2, hg⟩ := run_append_arg_grows (P := Tryz.prog) W S S e i0 z n bytes hu hi hz0 hz1 hz2 hzs h0 ad l.length l.length (flatR f l) (flat_len hn l) hs.cells ⟨N, 0, none⟩ 1 1 (f x) (by rw [hn, Nat.one_mul]) hnews (by omega) (by unfold maxLen; omega) (by omega)
    exact ⟨v', W', g1, hfin g2 ⟨hg.os, hg.tape, hg.output, hg.size, fun k hk => hg.block k hk (by simp)⟩⟩
  | none =>
    have hl0 : l = [] := by
      rcases h.h.2 with ⟨_, h0⟩ | ⟨_, _, _, e', _⟩
      · exact List.length_eq_zero_iff.1 h0
      · cases e'
    subst hl0
    obtain ⟨v', W', g1, g2, hg, _⟩ := run_append_own (P := Tryz.prog) W W.heap.size S S e i0 z n bytes hu hi hz0 hz1 hz2 hzs h0 (.slice none 0 0) 0 [] (World.ownsRow_nil _ _ _ _) ⟨N, 0, none⟩ 1 1 (f x) (by rw [hn, Nat.one_mul]) hnews (fun u hu => h1 x u hu) (by unfold maxLen; omega) (by simp at hr ⊢; omega) (Nat.le_refl _)
    exact ⟨v', W', g1, hfin g2 ⟨hg.os, hg.tape, hg.output, hg.size, fun k hk => hg.block k hk (by simp [Value.ownBlock])⟩⟩
end
-- HERE
end Go.Proofs.YtechcdkakgpnkaaGreat
