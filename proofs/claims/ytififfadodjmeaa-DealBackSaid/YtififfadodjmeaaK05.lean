/-
  '==' and '!=' of two wide numbers are those of their words.
  Which transfers and sides' data may be: deal's Check and Sound.
  What is put of a transfer, and of a side's data.
  Arrays of words: as cells, as values; read and stored whole.
  Arrays of words, read and stored whole inside a fence.
  slices.Chunk over octets: pieces of a size, the last one maybe shorter.
-/
import Derived.Laws.StructEq
import Derived.Outline
import Derived.Great.BuildSlice
import Derived.WalkSpells
import Derived.Laws.CopyOwn
import Derived.Laws.Rows
import Derived.Laws.Tables
import Derived.StillTail
import Derived.StillTactics
import Derived.Test.YtififfadodjmeaaK04
namespace Go.Proofs.Ytififfadodjmeaa
open Go.RowKit Go.Shelf

/-- The same words. -/
def wEq (a0 a1 a2 a3 b0 b1 b2 b3 : Int) : Bool := decide (a0 = b0 ∧ a1 = b1 ∧ a2 = b2 ∧ a3 = b3)
theorem wEq_refl (a0 a1 a2 a3 : Int) : wEq a0 a1 a2 a3 a0 a1 a2 a3 = true := by simp [wEq]
theorem wEq_of {a0 a1 a2 a3 b0 b1 b2 b3 : Int} (h : a0 = b0 ∧ a1 = b1 ∧ a2 = b2 ∧ a3 = b3) : wEq a0 a1 a2 a3 b0 b1 b2 b3 = true := decide_eq_true h
theorem wEq_not {a0 a1 a2 a3 b0 b1 b2 b3 : Int} (h : ¬ (a0 = b0 ∧ a1 = b1 ∧ a2 = b2 ∧ a3 = b3)) : wEq a0 a1 a2 a3 b0 b1 b2 b3 = false := decide_eq_false h

theorem run_equalIn_wide' (d : Nat) (a0 a1 a2 a3 b0 b1 b2 b3 : Int) (w : World) :
    (Op.equalIn (d + 2) 26 (.agg #[.int .u64 a0, .int .u64 a1, .int .u64 a2, .int .u64 a3]) (.agg #[.int .u64 b0, .int .u64 b1, .int .u64 b2, .int .u64 b3])).run Try.prog w = .ok (wEq a0 a1 a2 a3 b0 b1 b2 b3) w := by
  have e : ∀ a b : Int, (Op.equalIn (d + 1) 24 (.int .u64 a) (.int .u64 b)).run Try.prog w = .ok (a == b) w := fun a b => run_equalIn_int w d 24 .u64 .u64 a b Try.underlying24
  rw [show d + 2 = (d + 1) + 1 from rfl]
  unfold Op.equalIn
  by_cases h0 : a0 = b0
  · subst h0
    by_cases h1 : a1 = b1
    · subst h1
      by_cases h2 : a2 = b2
      · subst h2
        by_cases h3 : a3 = b3
        · subst h3
          simp [run_underlying Try.underlying26, List.range', part, e, Result.andThen, wEq]
        · simp [run_underlying Try.underlying26, List.range', part, e, Result.andThen, wEq, h3]
      · simp [run_underlying Try.underlying26, List.range', part, e, Result.andThen, wEq, h2]
    · simp [run_underlying Try.underlying26, List.range', part, e, Result.andThen, wEq, h1]
  · simp [run_underlying Try.underlying26, List.range', part, e, Result.andThen, wEq, h0]

/-- As the walk meets it. -/
theorem run_equalIn_wide (a0 a1 a2 a3 b0 b1 b2 b3 : Int) (w : World) :
    (Op.equalIn 10000 26 (.agg #[.int .u64 a0, .int .u64 a1, .int .u64 a2, .int .u64 a3]) (.agg #[.int .u64 b0, .int .u64 b1, .int .u64 b2, .int .u64 b3])).run Try.prog w = .ok (wEq a0 a1 a2 a3 b0 b1 b2 b3) w :=
  run_equalIn_wide' 9998 a0 a1 a2 a3 b0 b1 b2 b3 w

end Go.Proofs.Ytififfadodjmeaa

namespace Go.Proofs.Ytififfadodjmeaa
open Go.RowKit Go.Shelf

/-- A number is where it may be. -/
def holdB (n l m : Int) : Bool := decide (l ≤ n ∧ n ≤ m)
theorem hold_yes {n l m : Int} (h1 : l ≤ n) (h2 : n ≤ m) : holdB n l m = true := decide_eq_true ⟨h1, h2⟩
theorem hold_no {n l m : Int} (h : ¬ (l ≤ n ∧ n ≤ m)) : holdB n l m = false := decide_eq_false h
theorem holds_any (n l m : Int) (w : World) :
    Calls Try.prog 34 #[.agg #[.int .i64 n, .int .i64 l, .int .i64 m]] w fun e W' => e = .returned (.bool (holdB n l m)) ∧ Below w.heap.size w W' := by
  by_cases h1 : l ≤ n
  · by_cases h2 : n ≤ m
    · rw [hold_yes h1 h2]
      go_enter Try.func34, Try.ntmps34
      go_wp2
      go_ret
      exact ⟨rfl, chain0 _ _⟩
    · rw [hold_no (by omega)]
      go_enter Try.func34, Try.ntmps34
      go_wp2
      go_ret
      exact ⟨rfl, chain0 _ _⟩
  · rw [hold_no (by omega)]
    go_enter Try.func34, Try.ntmps34
    go_wp2
    go_ret
    exact ⟨rfl, chain0 _ _⟩

/-- The bounds of a transfer. -/
abbrev bndc (i : Trf) : Array Value := #[.int .i64 i.us, .int .i64 0, .int .i64 1, .int .i64 (i.rt.size : Nat), .int .i64 8, .int .i64 8, .int .i64 i.ro, .int .i64 2, .int .i64 3, .int .i64 i.se, .int .i64 0, .int .i64 1, .int .i64 i.re, .int .i64 0, .int .i64 1, .int .i64 i.to, .int .i64 0, .int .i64 7, .int .i64 (i.id.size : Nat), .int .i64 1, .int .i64 16]
abbrev bndv (i : Trf) : Value := .agg (bndc i)
def z21 : List Value := [.int .i64 0, .int .i64 0, .int .i64 0, .int .i64 0, .int .i64 0, .int .i64 0, .int .i64 0, .int .i64 0, .int .i64 0, .int .i64 0, .int .i64 0, .int .i64 0, .int .i64 0, .int .i64 0, .int .i64 0, .int .i64 0, .int .i64 0, .int .i64 0, .int .i64 0, .int .i64 0, .int .i64 0]
set_option maxRecDepth 100000 in
theorem bounds_any (i : Trf) (w : World) :
    Calls Try.prog 33 #[ivv i] w fun e W' => e = .returned (bndv i) ∧ Below w.heap.size w W' := by
  have HB := Lib.hid (fun (W : World) (hz : W.heap.size = w.heap.size + 1) => Blk.new' (vs := z21) (t := 68) hz)
  go_enter Try.func33, Try.ntmps33
  go_wp2_with (refine wpList_buildTo rfl 68 _ rfl (some 26) rfl (bndc i) (by kernel_rfl) ?_; go_must (refine wpList_store_rowTo rfl 68 (.tmp 2) (.tmp 26) rfl rfl (w.heap.size + 1) (bndc i) rfl rfl 68 z21.toArray (HB.out _ (by simp)) (by kernel_rfl) rfl (by simp [bndc, Value.oneCell']) ?_))
  have hg := setRow_heap _ _ _ (bndc i) _ _ (HB.out (w.alloc (.cells #[.int .i64 i.us, .string i.rt, .int .i64 i.ro, .int .i64 i.se, .int .i64 i.re, .int .i64 i.to, .string i.id] 23)) (by simp))
  have hr := fun tmps hp => results_cell_row (P := Try.prog) (fn := Try.f33) (p := 2) (ty := 68) rfl tmps _ (w.heap.size + 1) _ (bndc i) (0, 0) _ hp hg Try.underlying68 rfl (by kernel_rfl)
  exact bodyPost_ret (v := bndv i) (hr _ rfl) rfl ⟨rfl, below_setRow (chainA (chain0 w _) _) (Nat.le_add_right _ 1) _⟩

/-- Bound k of a transfer. -/
def bN (i : Trf) (k : Nat) : Int := match k with | 0 => i.us | 1 => i.rt.size | 2 => i.ro | 3 => i.se | 4 => i.re | 5 => i.to | _ => i.id.size
def bL (k : Nat) : Int := match k with | 0 => 0 | 1 => 8 | 2 => 2 | 3 => 0 | 4 => 0 | 5 => 0 | _ => 1
def bM (k : Nat) : Int := match k with | 0 => 1 | 1 => 8 | 2 => 3 | 3 => 1 | 4 => 1 | 5 => 7 | _ => 16
def bOk (i : Trf) (k : Nat) : Bool := holdB (bN i k) (bL k) (bM k)
theorem may_of {i : Trf} (h : ∀ j, j < 7 → bOk i j = true) : maybeI i := by
  have g := fun j hj => of_decide_eq_true (h j hj)
  have h0 : 0 ≤ i.us ∧ i.us ≤ 1 := g 0 (by omega)
  have h1 : 8 ≤ (i.rt.size : Int) ∧ (i.rt.size : Int) ≤ 8 := g 1 (by omega)
  have h2 : 2 ≤ i.ro ∧ i.ro ≤ 3 := g 2 (by omega)
  have h3 : 0 ≤ i.se ∧ i.se ≤ 1 := g 3 (by omega)
  have h4 : 0 ≤ i.re ∧ i.re ≤ 1 := g 4 (by omega)
  have h5 : 0 ≤ i.to ∧ i.to ≤ 7 := g 5 (by omega)
  have h6 : 1 ≤ (i.id.size : Int) ∧ (i.id.size : Int) ≤ 16 := g 6 (by omega)
  exact ⟨h0, by omega, h2, h3, h4, h5, by omega, by omega⟩
theorem may_not {i : Trf} {j : Nat} (hj : j < 7) (h : bOk i j = false) : ¬ maybeI i := by
  intro ⟨h0, h1, h2, h3, h4, h5, h6, h7⟩
  have g := of_decide_eq_false h
  apply g
  match j, hj with
  | 0, _ => exact h0
  | 1, _ => exact ⟨show (8 : Int) ≤ (i.rt.size : Int) by omega, show (i.rt.size : Int) ≤ 8 by omega⟩
  | 2, _ => exact h2
  | 3, _ => exact h3
  | 4, _ => exact h4
  | 5, _ => exact h5
  | 6, _ => exact ⟨show (1 : Int) ≤ (i.id.size : Int) by omega, show (i.id.size : Int) ≤ 16 by omega⟩

/-- An element of an array by value. -/
theorem wpList_indexTo {P : Program} {ops : Array Oper} {rest : List Oper} {o : Oper} {a : Act} {w : World} {Q : Exit → Act → World → Prop} (hg : o.guard = none) (t : TypeId) (x y : Operand) (ho : o.op = .index t x y)
    (d : Option Tmp) (hd : o.dst = d) (v : Value) (hf : (Instr.index t (a.eval x) (a.eval y)).run P w = .ok v w)
    (h : wpList P ops Q rest (a.put d v) w) : wpList P ops Q (o :: rest) a w := by
  subst hd
  refine wpList_plain hg fun K hK => ?_
  unfold Oper.wp execOp
  simp only [ho, Sem.run_bind, hf, Result.andThen_ok]
  exact hK _ _ h
set_option maxRecDepth 100000 in
theorem idx_bound (i : Trf) (w : World) {k : Nat} (hk : k < 7) :
    (Instr.index 68 (bndv i) (.int .i64 k)).run Try.prog w = .ok (.agg #[.int .i64 (bN i k), .int .i64 (bL k), .int .i64 (bM k)]) w := by
  have hs : ∀ j : Nat, (sizeOf 67).run Try.prog w = .ok 3 w := fun _ => by kernel_rfl
  have e1 : (Instr.index 68 (bndv i) (.int .i64 k)).run Try.prog w = .ok (.agg (List.take 3 (List.drop (k * 3) (bndc i).toList)).toArray) w := by
    have h1 : (0 : Int) ≤ (k : Int) ∧ (k : Int) < 7 := ⟨by omega, by omega⟩
    simp [Instr.index, run_underlying Try.underlying68, asIntOf, h1, hs 0, go_sem]
    exact fun h => absurd h (by omega)
  rw [e1]
  match k, hk with
  | 0, _ => rfl
  | 1, _ => rfl
  | 2, _ => rfl
  | 3, _ => rfl
  | 4, _ => rfl
  | 5, _ => rfl
  | 6, _ => rfl

set_option maxRecDepth 100000 in
set_option maxHeartbeats 1000000 in
theorem check_any (i : Trf) (w : World) :
    Calls Try.prog 8 #[ivv i] w fun e W' => e = .returned (.int .i64 (errI i)) ∧ Below w.heap.size w W' := by
  have HB := Lib.hid (bounds_any i)
  go_enter Try.func8, Try.ntmps8
  go_wp2_with (go_at_call 33; refine (HB.out _).mono ?_; rintro e w1 ⟨rfl, hb1⟩)
  have hB := chain (chain0 w _) hb1
  go_loopw [7] (fun n wr => ∃ k : Nat, k ≤ 7 ∧ n = .int .i64 k ∧ (∀ j, j < k → bOk i j = true) ∧ Below w.heap.size w wr) (fun n _ => 7 - (intOf n).toNat)
  case atStart => exact ⟨0, by omega, rfl, fun j hj => absurd hj (by omega), hB⟩
  case round =>
    clear hb1 hB
    obtain ⟨k, hk, rfl, hall, hB⟩ := hrel
    have HA := Lib.hid hall
    clear hall
    by_cases hlt : k < 7
    · have hlt' : (k : Int) < 7 := by omega
      have HI := Lib.hid (fun W => idx_bound i W hlt)
      have H0 := holds_any (bN i k) (bL k) (bM k)
      by_cases hb : bOk i k = true
      · have HN : Hid (∀ j, j < k + 1 → bOk i j = true) := Lib.hid fun j hj => by
          by_cases hjk : j < k
          · exact HA.out j hjk
          · obtain rfl : j = k := by omega
            exact hb
        rw [show holdB (bN i k) (bL k) (bM k) = true from hb] at H0
        have H1 := Lib.hid H0
        clear H0 hb HA HB
        generalize bN i k = x0 at *
        generalize bL k = x1 at *
        generalize bM k = x2 at *
        go_wp2_with (first
          | (go_at_call 34; refine (H1.out _).mono ?_; rintro e w2 ⟨rfl, hb2⟩)
          | (refine wpList_indexTo rfl 68 (.tmp 6) (.tmp 7) rfl (some 9) rfl _ (HI.out _) ?_))
        go_roundw
        case rel => exact ⟨k + 1, by omega, by go_num, HN.out, chain (chainA hB _) hb2⟩
        case measure => simp [intOf]; omega
      · replace hb : bOk i k = false := by simpa using hb
        have HN := Lib.hid (may_not hlt hb)
        rw [show holdB (bN i k) (bL k) (bM k) = false from hb] at H0
        have H1 := Lib.hid H0
        clear H0 hb HA HB
        generalize bN i k = x0 at *
        generalize bL k = x1 at *
        generalize bM k = x2 at *
        go_wp2_with (first
          | (go_at_call 34; refine (H1.out _).mono ?_; rintro e w2 ⟨rfl, hb2⟩)
          | (refine wpList_indexTo rfl 68 (.tmp 6) (.tmp 7) rfl (some 9) rfl _ (HI.out _) ?_))
        go_ret
        exact ⟨by rw [errI, if_neg HN.out]; rfl, chain (chainA hB _) hb2⟩
    · obtain rfl : k = 7 := by omega
      go_wp2
      go_ret
      exact ⟨by rw [errI, if_pos (may_of HA.out)]; rfl, hB⟩

theorem holdV {v : Sid} : holdB v.x 0 1099511627776 = decide (0 ≤ v.x ∧ v.x ≤ 1099511627776) := rfl
set_option maxRecDepth 100000 in
theorem sound_any (v : Sid) (w : World) :
    Calls Try.prog 10 #[svv v] w fun e W' => e = .returned (.int .i64 (errV v)) ∧ Below w.heap.size w W' := by
  have hweq := @run_equalIn_wide
  by_cases h0 : v.a0 = 0 ∧ v.a1 = 0 ∧ v.a2 = 0 ∧ v.a3 = 0
  · have hE : errV v = 36 := if_neg fun h => h.1 h0
    rw [hE]
    have hq : wEq (v.a0 : Nat) (v.a1 : Nat) (v.a2 : Nat) (v.a3 : Nat) 0 0 0 0 = true := by
      obtain ⟨e0, e1, e2, e3⟩ := h0
      rw [e0, e1, e2, e3]; rfl
    clear hE h0
    go_enter Try.func10, Try.ntmps10
    go_wp2
    go_ret
    exact ⟨rfl, chainA (chain0 w _) _⟩
  · have hq : wEq (v.a0 : Nat) (v.a1 : Nat) (v.a2 : Nat) (v.a3 : Nat) 0 0 0 0 = false := wEq_not (by omega)
    have H0 := holds_any v.x 0 1099511627776
    by_cases hx : 0 ≤ v.x ∧ v.x ≤ 1099511627776
    · have hE : errV v = 0 := if_pos ⟨h0, hx⟩
      rw [hold_yes hx.1 hx.2] at H0
      rw [hE]
      have H1 := Lib.hid H0
      clear H0 h0 hx hE
      go_enter Try.func10, Try.ntmps10
      go_wp2_with (go_at_call 34; refine (H1.out _).mono ?_; rintro e w2 ⟨rfl, hb2⟩)
      go_ret
      exact ⟨rfl, chain (chainA (chain0 w _) _) hb2⟩
    · have hE : errV v = 36 := if_neg fun h => hx h.2
      rw [hold_no hx] at H0
      rw [hE]
      have H1 := Lib.hid H0
      clear H0 h0 hx hE
      go_enter Try.func10, Try.ntmps10
      go_wp2_with (go_at_call 34; refine (H1.out _).mono ?_; rintro e w2 ⟨rfl, hb2⟩)
      go_ret
      exact ⟨rfl, chain (chainA (chain0 w _) _) hb2⟩
end Go.Proofs.Ytififfadodjmeaa

namespace Go.Proofs.Ytififfadodjmeaa
open Go.RowKit Go.Shelf

theorem Blk.c7 {W : World} {B : Nat} {t : TypeId} {v0 v1 v2 v3 v4 v5 v6 : Value} (h : Blk W B t [v0, v1, v2, v3, v4, v5, v6]) :
    W.cell? ⟨B, 0, none⟩ = some v0 ∧ W.cell? ⟨B, 1, none⟩ = some v1 ∧ W.cell? ⟨B, 2, none⟩ = some v2 ∧ W.cell? ⟨B, 3, none⟩ = some v3 ∧ W.cell? ⟨B, 4, none⟩ = some v4 ∧ W.cell? ⟨B, 5, none⟩ = some v5 ∧ W.cell? ⟨B, 6, none⟩ = some v6 :=
  ⟨h.cell 0, h.cell 1, h.cell 2, h.cell 3, h.cell 4, h.cell 5, h.cell 6⟩
theorem Blk.c5 {W : World} {B : Nat} {t : TypeId} {v0 v1 v2 v3 v4 : Value} (h : Blk W B t [v0, v1, v2, v3, v4]) :
    W.cell? ⟨B, 0, none⟩ = some v0 ∧ W.cell? ⟨B, 1, none⟩ = some v1 ∧ W.cell? ⟨B, 2, none⟩ = some v2 ∧ W.cell? ⟨B, 3, none⟩ = some v3 ∧ W.cell? ⟨B, 4, none⟩ = some v4 :=
  ⟨h.cell 0, h.cell 1, h.cell 2, h.cell 3, h.cell 4⟩
def nN (i : Trf) (k : Nat) : Int := match k with | 0 => i.ro | 1 => i.se | 2 => i.re | _ => i.to
def numK (s : St) (i : Trf) (k : Nat) : St := match k with | 0 => s | k + 1 => numS (numK s i k) (nN i k)
set_option maxRecDepth 100000 in
theorem idx_four (i : Trf) (w : World) {k : Nat} (hk : k < 4) :
    (Instr.index 93 (.agg #[.int .i64 i.ro, .int .i64 i.se, .int .i64 i.re, .int .i64 i.to]) (.int .i64 k)).run Try.prog w = .ok (.int .i64 (nN i k)) w := by
  have hs : ∀ j : Nat, (sizeOf 3).run Try.prog w = .ok 1 w := fun _ => by kernel_rfl
  have h1 : (0 : Int) ≤ (k : Int) ∧ (k : Int) < 4 := ⟨by omega, by omega⟩
  obtain rfl | rfl | rfl | rfl : k = 0 ∨ k = 1 ∨ k = 2 ∨ k = 3 := by omega
  all_goals
    simp [Instr.index, run_underlying Try.underlying93, asIntOf, hs 0, go_sem, nN]

set_option maxRecDepth 100000 in
set_option maxHeartbeats 2000000 in
theorem dealPut_any {p : Option Addr} {s : St} (i : Trf) (w : World) (h : ObjP 92 w p s) :
    Calls Try.prog 28 #[.pointer p, ivv i] w (DidS 92 p (putI s i) w) := by
  have hne := ptr_lt h (Nat.le_refl _)
  have kB := (Blk.new w 23 (ivc i))
  have hG := World.grownBy_alloc w (.cells (ivc i).toArray 23) (p.map (·.block))
  have hO := h.below (chain0 w (.cells (ivc i).toArray 23))
  have HNE := Lib.hid hne
  clear h hne
  go_enter Try.func28, Try.ntmps28
  go_wp2_with (first
    | (go_at_call 38; refine (outText_any _ _ hO).mono ?_; rintro e W1 ⟨rfl, hO1, hG1⟩; replace hO := hO1; replace hG := hG.trans hG1; replace kB := kB.kept hG1 HNE.out; (try clear c0 c1 c2 c3 c4 c5 c6); obtain ⟨c0, c1, c2, c3, c4, c5, c6⟩ := kB.c7; clear hO1 hG1)
    | (go_at_call 40; refine (outNum_any _ _ hO).mono ?_; rintro e W1 ⟨rfl, hO1, hG1⟩; replace hO := hO1; replace hG := hG.trans hG1; replace kB := kB.kept hG1 HNE.out; (try clear c0 c1 c2 c3 c4 c5 c6); obtain ⟨c0, c1, c2, c3, c4, c5, c6⟩ := kB.c7; clear hO1 hG1))
  try clear c0 c1 c2 c3 c4 c5 c6
  go_loopw [25] (fun n wr => ∃ k : Nat, k ≤ 4 ∧ n = .int .i64 k ∧ ObjP 92 wr p (numK (putI1 s i) i k) ∧ w.grownBy wr (p.map (·.block)) ∧ Blk wr w.heap.size 23 (ivc i)) (fun n _ => 4 - (intOf n).toNat)
  case atStart => exact ⟨0, by omega, rfl, hO, hG, kB⟩
  case round =>
    clear hO hG kB
    obtain ⟨k, hk, rfl, hO, hG, kB⟩ := hrel
    by_cases hlt : k < 4
    · have hlt' : (k : Int) < 4 := by omega
      have HI := Lib.hid (fun W => idx_four i W hlt)
      have HS : Hid (numK (putI1 s i) i (k + 1) = numS (numK (putI1 s i) i k) (nN i k)) := Lib.hid rfl
      generalize numK (putI1 s i) i k = st at *
      generalize nN i k = x at *
      go_wp2_with (first
        | (refine wpList_indexTo rfl 93 (.tmp 24) (.tmp 25) rfl (some 27) rfl _ (HI.out _) ?_)
        | (go_at_call 40; refine (outNum_any _ _ hO).mono ?_; rintro e W1 ⟨rfl, hO1, hG1⟩))
      go_roundw
      case rel => exact ⟨k + 1, by omega, by go_num, by rw [HS.out]; exact hO1, hG.trans hG1, kB.kept hG1 HNE.out⟩
      case measure => simp [intOf]; omega
    · obtain rfl : k = 4 := by omega
      obtain ⟨c0, c1, c2, c3, c4, c5, c6⟩ := kB.c7
      go_wp2_with (first
        | (go_at_call 38; refine (outText_any _ _ hO).mono ?_; rintro e W1 ⟨rfl, hO1, hG1⟩))
      go_end0
      exact ⟨rfl, hO1, hG.trans hG1⟩

set_option maxRecDepth 100000 in
set_option maxHeartbeats 1000000 in
theorem dealPutVar_any {p : Option Addr} {s : St} (v : Sid) (hv4 : Ok4 v.a0 v.a1 v.a2 v.a3) (w : World) (h : ObjP 92 w p s) :
    Calls Try.prog 29 #[.pointer p, svv v] w (DidS 92 p (putV s v) w) := by
  have hne := ptr_lt h (Nat.le_refl _)
  have kB := (Blk.new w 28 (svc v))
  have hG := World.grownBy_alloc w (.cells (svc v).toArray 28) (p.map (·.block))
  have hO := h.below (chain0 w (.cells (svc v).toArray 28))
  have HNE := Lib.hid hne
  clear h hne
  go_enter Try.func29, Try.ntmps29
  go_wp2_with (first
    | (go_at_call 41; refine (outWide_any hv4 _ hO).mono ?_; rintro e W1 ⟨rfl, hO1, hG1⟩; replace hO := hO1; replace hG := hG.trans hG1; replace kB := kB.kept hG1 HNE.out; obtain ⟨c0, c1, c2, c3, c4⟩ := kB.c5; clear hO1 hG1)
    | (go_at_call 40; refine (outNum_any _ _ hO).mono ?_; rintro e W1 ⟨rfl, hO1, hG1⟩))
  go_end0
  exact ⟨rfl, hO1, hG.trans hG1⟩

/-- All that an Out took, or nothing. -/
def OctsS (s : St) (w : World) (e : Ending) (W' : World) : Prop := ∃ sv, e = .returned sv ∧ BSl 0 W'.heap.size W' sv s.1 ∧ Below w.heap.size w W'
theorem dealOctets_any {p : Option Addr} {s : St} (w : World) (h : ObjP 92 w p s) :
    Calls Try.prog 36 #[.pointer p] w (OctsS s w) := by
  go_enter Try.func36, Try.ntmps36
  go_wp2_with (first
    | (go_at_call 30; refine (outDone_any _ h).mono ?_; rintro e W1 ⟨sv, rfl, hsv, hb⟩; obtain ⟨va, vm, vc, rfl⟩ := hsv.shape3))
  go_ret
  exact ⟨_, rfl, hsv, hb⟩
end Go.Proofs.Ytififfadodjmeaa

namespace Go.Proofs.Ytififfadodjmeaa
open Go.RowKit

/-- n words as cells. -/
def us (f : Nat → Int) (n : Nat) : List Value := upto (fun k => Value.int .u32 (f k)) n
def updI (f : Nat → Int) (i : Nat) (v : Int) : Nat → Int := fun j => if j = i then v else f j
theorem us_length (f : Nat → Int) (n : Nat) : (us f n).length = n := upto_length _ _
theorem us_at (f : Nat → Int) {n k : Nat} (h : k < n) : (us f n)[k]? = some (.int .u32 (f k)) := by
  unfold us upto; rw [List.getElem?_map, List.getElem?_range h]; rfl
theorem us_set (f : Nat → Int) {n k : Nat} (v : Int) : (us f n).set k (.int .u32 v) = us (updI f k v) n := by
  apply List.ext_getElem?
  intro j
  rw [List.getElem?_set]
  by_cases hj : k = j
  · subst hj
    by_cases hk : k < n
    · rw [if_pos rfl, if_pos (by rw [us_length]; exact hk), us_at _ hk]; simp [updI]
    · rw [if_pos rfl, if_neg (by rw [us_length]; omega), eq_comm, List.getElem?_eq_none]; rw [us_length]; omega
  · rw [if_neg hj]
    by_cases hk : j < n
    · rw [us_at _ hk, us_at _ hk]; simp [updI, Ne.symm hj]
    · rw [List.getElem?_eq_none (by rw [us_length]; omega), List.getElem?_eq_none (by rw [us_length]; omega)]
theorem us_congr {f g : Nat → Int} {n : Nat} (h : ∀ k, k < n → f k = g k) : us f n = us g n := by
  apply List.ext_getElem?
  intro j
  by_cases hk : j < n
  · rw [us_at _ hk, us_at _ hk, h j hk]
  · rw [List.getElem?_eq_none (by rw [us_length]; omega), List.getElem?_eq_none (by rw [us_length]; omega)]
/-- n words as a value. -/
abbrev uv (f : Nat → Int) (n : Nat) : Value := .agg (us f n).toArray

theorem us_zeros (n : Nat) : us (fun _ => 0) n = List.replicate n (.int .u32 0) := by
  apply List.ext_getElem?
  intro j
  by_cases hk : j < n
  · rw [us_at _ hk]; simp [hk]
  · rw [List.getElem?_eq_none (by rw [us_length]; omega), List.getElem?_eq_none (by simp; omega)]
theorem us_one (f : Nat → Int) (n : Nat) : ∀ v ∈ us f n, v.oneCell' = true := by
  intro v hv
  unfold us upto at hv
  obtain ⟨k, _, rfl⟩ := List.mem_map.1 hv
  rfl
theorem us_splice (f g : Nat → Int) {m n : Nat} (h : m ≤ n) : splice (us g n) 0 (us f m) = us (fun t => if t < m then f t else g t) n := by
  apply List.ext_getElem?
  intro j
  unfold splice
  simp only [List.take_zero, List.nil_append, us_length, Nat.zero_add]
  by_cases hm : j < m
  · rw [List.getElem?_append_left (by rw [us_length]; exact hm), us_at _ hm, us_at _ (by omega), if_pos hm]
  · rw [List.getElem?_append_right (by rw [us_length]; omega), us_length, List.getElem?_drop, show m + (j - m) = j by omega]
    by_cases hn : j < n
    · rw [us_at _ hn, us_at _ hn, if_neg hm]
    · rw [List.getElem?_eq_none (by rw [us_length]; omega), List.getElem?_eq_none (by rw [us_length]; omega)]
theorem us0_64 : us (fun _ => 0) 64 = [.int .u32 0, .int .u32 0, .int .u32 0, .int .u32 0, .int .u32 0, .int .u32 0, .int .u32 0, .int .u32 0, .int .u32 0, .int .u32 0, .int .u32 0, .int .u32 0, .int .u32 0, .int .u32 0, .int .u32 0, .int .u32 0, .int .u32 0, .int .u32 0, .int .u32 0, .int .u32 0, .int .u32 0, .int .u32 0, .int .u32 0, .int .u32 0, .int .u32 0, .int .u32 0, .int .u32 0, .int .u32 0, .int .u32 0, .int .u32 0, .int .u32 0, .int .u32 0, .int .u32 0, .int .u32 0, .int .u32 0, .int .u32 0, .int .u32 0, .int .u32 0, .int .u32 0, .int .u32 0, .int .u32 0, .int .u32 0, .int .u32 0, .int .u32 0, .int .u32 0, .int .u32 0, .int .u32 0, .int .u32 0, .int .u32 0, .int .u32 0, .int .u32 0, .int .u32 0, .int .u32 0, .int .u32 0, .int .u32 0, .int .u32 0, .int .u32 0, .int .u32 0, .int .u32 0, .int .u32 0, .int .u32 0, .int .u32 0, .int .u32 0, .int .u32 0] := rfl

/-- An array type of n words. -/
structure ArrT (ty n : Nat) : Prop where
  hu : ∃ e, Try.prog.underlying ty = some (.array n e)
  hi : (Try.prog.info? ty).map (·.size) = some n
theorem arr8 : ArrT 98 8 := ⟨⟨_, Try.underlying98⟩, by kernel_rfl⟩
theorem arr16 : ArrT 119 16 := ⟨⟨_, Try.underlying119⟩, by kernel_rfl⟩
theorem arr64 : ArrT 99 64 := ⟨⟨_, Try.underlying99⟩, by kernel_rfl⟩

theorem arr_load {ty n : Nat} (hT : ArrT ty n) {ops : Array Oper} {rest : List Oper} {o : Oper} {a : Act} {w : World} {Q : Exit → Act → World → Prop} (hgd : o.guard = none) (x : Operand) (ho : o.op = .load ty x)
    (g : Nat) (hx : a.eval x = .pointer (some ⟨g, 0, none⟩)) (t : TypeId) (f : Nat → Int) (hg : Blk w g t (us f n))
    (h : wpList Try.prog ops Q rest (a.put o.dst (uv f n)) w) : wpList Try.prog ops Q (o :: rest) a w := by
  obtain ⟨⟨e, hu⟩, hi⟩ := hT
  exact wpList_load_row hgd ty x ho g hx t _ (0, 0) _ hg hu rfl (by rw [hi]; simp [us_length]) h
theorem us_all (f : Nat → Int) (n : Nat) : (us f n).toArray.all (·.oneCell') = true := by
  rw [Array.all_eq_true_iff_forall_mem]
  intro v hv
  exact us_one f n v (by simpa using hv)
theorem setRow_blk {w : World} {g : Nat} {t : TypeId} {old : List Value} (hg : Blk w g t old) (vs : List Value) : Blk (w.setRow g vs.toArray) g t vs := setRow_heap w g _ _ t _ hg
theorem setRow_grown {w : World} {g : Nat} (vs : Array Value) : w.grownBy (w.setRow g vs) (some g) :=
  ⟨rfl, rfl, rfl, by simp [World.setRow], fun k _ hne => setRow_other w g k vs (fun e => hne (by rw [e]))⟩
theorem arr_store {ty n : Nat} (hT : ArrT ty n) {ops : Array Oper} {rest : List Oper} {o : Oper} {a : Act} {w : World} {Q : Exit → Act → World → Prop} (hgd : o.guard = none) (x y : Operand) (ho : o.op = .store ty x y)
    (g : Nat) (hx : a.eval x = .pointer (some ⟨g, 0, none⟩)) (f : Nat → Int) (hy : a.eval y = uv f n) (t : TypeId) (old : Nat → Int) (hg : Blk w g t (us old n))
    (h : ∀ w', Blk w' g t (us f n) → w.grownBy w' (some g) → wpList Try.prog ops Q rest (a.put o.dst undef) w') : wpList Try.prog ops Q (o :: rest) a w := by
  obtain ⟨⟨e, hu⟩, hi⟩ := hT
  exact wpList_store_row hgd ty x y ho g _ hx hy t _ hg (by rw [hi]; simp [us_length]) (by simp [us_length]) (us_all f n) (h _ (setRow_blk hg _) (setRow_grown _))
theorem arr_result {ty n : Nat} (hT : ArrT ty n) {fn : Func} {p : Tmp} (h : fn.results = #[.cell p ty]) (tmps : Array Value) (w : World) (g : Nat) (t : TypeId) (f : Nat → Int)
    (hp : tmps.getD p undef = .pointer (some ⟨g, 0, none⟩)) (hg : Blk w g t (us f n)) : (results fn tmps).run Try.prog w = .ok (uv f n) w := by
  obtain ⟨⟨e, hu⟩, hi⟩ := hT
  exact results_cell_row h tmps w g t _ (0, 0) _ hp hg hu rfl (by rw [hi]; simp [us_length])
theorem below_drewN {B : Nat} (W : World) (n : Nat) : Below B W (W.drewN n) := ⟨rfl, rfl, rfl, Nat.le_refl _, fun _ _ => rfl⟩
end Go.Proofs.Ytififfadodjmeaa

namespace Go.Proofs.Ytififfadodjmeaa
open Go.RowKit Go.Shelf

theorem run_load_us {ty n : Nat} (hT : ArrT ty n) (w : World) (g : Nat) (t : TypeId) (f : Nat → Int) (hg : Blk w g t (us f n)) : (loadVar ty ⟨g, 0, none⟩).run Try.prog w = .ok (uv f n) w := by
  obtain ⟨⟨e, hu⟩, hi⟩ := hT
  exact run_loadVar_row w g t ty _ (0, 0) _ hg hu rfl (by rw [hi]; simp [us_length])
theorem still_load {ty n : Nat} (hT : ArrT ty n) {ops : Array Oper} {rest : List Oper} {o : Oper} {a : Act} {w : World} {Q : Act → Prop} (hgd : o.guard = none) (x : Operand) (ho : o.op = .load ty x)
    (g : Nat) (hx : a.eval x = .pointer (some ⟨g, 0, none⟩)) (t : TypeId) (f : Nat → Int) (hg : Blk w g t (us f n)) (h : wpStill Try.prog ops w Q rest (a.put o.dst (uv f n))) : wpStill Try.prog ops w Q (o :: rest) a := by
  refine wpStill_step fun K hK => ?_
  rw [if_pos (by simp [Region.wanted, hgd])]
  unfold Oper.still execOp
  simp only [ho, hx, Instr.loadAt, Instr.sureAddr, Sem.run_bind, Sem.run_pure, Result.andThen_ok, run_load_us hT w g t f hg, Oper.stillUpon_value]
  exact hK _ h

theorem step_load_us {ty n : Nat} (hT : ArrT ty n) {ops : Array Oper} {o : Oper} {a : Act} {w : World} {K : Act → World → Prop} {Q : Exit → Act → World → Prop} {E : Prop} (hgd : o.guard = none) (x : Operand) (ho : o.op = .load ty x)
    (g : Nat) (hx : a.eval x = .pointer (some ⟨g, 0, none⟩)) (t : TypeId) (f : Nat → Int) (hg : Blk w g t (us f n)) (h : K (a.put o.dst (uv f n)) w) :
    if Region.wanted o (yielded ops a.tmps) = true then Oper.wp Try.prog o a w K Q else E := by
  rw [if_pos (by simp [Region.wanted, hgd])]
  obtain ⟨⟨e, hu⟩, hi⟩ := hT
  exact wp_load_row ty x ho g hx t _ (0, 0) _ hg hu rfl (by rw [hi]; simp [us_length]) h
theorem step_store_us {ty n : Nat} (hT : ArrT ty n) {ops : Array Oper} {o : Oper} {a : Act} {w : World} {K : Act → World → Prop} {Q : Exit → Act → World → Prop} {E : Prop} (hgd : o.guard = none) (x y : Operand) (ho : o.op = .store ty x y)
    (g : Nat) (hx : a.eval x = .pointer (some ⟨g, 0, none⟩)) (f : Nat → Int) (hy : a.eval y = uv f n) (t : TypeId) (old : Nat → Int) (hg : Blk w g t (us old n))
    (h : ∀ w', Blk w' g t (us f n) → w.grownBy w' (some g) → K (a.put o.dst undef) w') :
    if Region.wanted o (yielded ops a.tmps) = true then Oper.wp Try.prog o a w K Q else E := by
  rw [if_pos (by simp [Region.wanted, hgd])]
  obtain ⟨⟨e, hu⟩, hi⟩ := hT
  exact wp_store_row ty x y ho g _ hx hy t _ hg (by rw [hi]; simp [us_length]) (by simp [us_length]) (us_all f n) (h _ (setRow_blk hg _) (setRow_grown _))

theorem arrIn_load {F : Fence} {m : Nat} {ty n : Nat} (hT : ArrT ty n) {ops : Array Oper} {rest : List Oper} {o : Oper} {a : Act} {w : World} {Q : Exit → Act → World → Prop} (hgd : o.guard = none) (x : Operand) (ho : o.op = .load ty x)
    (g : Nat) (hx : a.eval x = .pointer (some ⟨g, 0, none⟩)) (t : TypeId) (f : Nat → Int) (hg : Blk w g t (us f n))
    (h : wpListIn F m Try.prog ops Q rest (a.put o.dst (uv f n)) w) : wpListIn F m Try.prog ops Q (o :: rest) a w := by
  refine wpListIn_plain hgd fun K hK' => ?_
  unfold Oper.wpIn
  refine ⟨?_, ?_⟩
  · simp [Oper.about, ho]
  · rw [Oper.semAt_plain F _ _ (by rw [ho]; intro c hc'; cases hc')]
    unfold execOp
    simp only [ho, hx, Instr.loadAt, Instr.sureAddr, Sem.run_bind, Sem.run_pure, Result.andThen_ok, run_load_us hT w g t f hg]
    exact hK' _ _ h

theorem arrIn_store {F : Fence} {m : Nat} {ty n : Nat} (hT : ArrT ty n) {ops : Array Oper} {rest : List Oper} {o : Oper} {a : Act} {w : World} {Q : Exit → Act → World → Prop} (hgd : o.guard = none) (x y : Operand) (ho : o.op = .store ty x y)
    (g : Nat) (hx : a.eval x = .pointer (some ⟨g, 0, none⟩)) (f : Nat → Int) (hy : a.eval y = uv f n) (t : TypeId) (old : Nat → Int) (hg : Blk w g t (us old n))
    (h : ∀ w', Blk w' g t (us f n) → w.grownBy w' (some g) → wpListIn F m Try.prog ops Q rest (a.put o.dst undef) w') : wpListIn F m Try.prog ops Q (o :: rest) a w := by
  obtain ⟨⟨e, hu⟩, hi⟩ := hT
  refine wpListIn_plain hgd fun K hK' => ?_
  unfold Oper.wpIn
  refine ⟨?_, ?_⟩
  · simp [Oper.about, ho]
  · rw [Oper.semAt_plain F _ _ (by rw [ho]; intro c hc'; cases hc')]
    unfold execOp
    simp only [ho, hx, hy, Instr.storeAt, Instr.sureAddr, Sem.run_bind, Sem.run_pure, Result.andThen_ok, run_storeVar_row (P := Try.prog) w g t ty (us old n).toArray (us f n).toArray hg (by rw [hi]; simp [us_length]) (by simp [us_length]) (us_all f n)]
    exact hK' _ _ (h _ (setRow_blk hg _) (setRow_grown _))
end Go.Proofs.Ytififfadodjmeaa

namespace Go.Proofs.Ytififfadodjmeaa
open Go.RowKit Go.Shelf
attribute [local go_sem] Oper.semAt_some

/-- A piece: where it begins, how long it is. -/
abbrev CP (L : Nat) := { p : Nat × Nat // p.1 + p.2 ≤ L }
abbrev cpEnc {L : Nat} (b off : Nat) (p : CP L) : Array Value := #[.slice (some ⟨b, off + p.1.1, none⟩) p.1.2 p.1.2]
def chn (L s k : Nat) : CP L := ⟨(min (k * s) L, min s (L - min (k * s) L)), by dsimp only; omega⟩
/-- How many pieces. -/
def chc (L s : Nat) : Nat := (L + s - 1) / s
def chs (L s : Nat) : List (CP L) := (List.range (chc L s)).map (chn L s)
theorem chs_length (L s : Nat) : (chs L s).length = chc L s := by simp [chs]
theorem chs_at {L s k : Nat} (h : k < chc L s) : (chs L s)[k]? = some (chn L s k) := by unfold chs; rw [List.getElem?_map, List.getElem?_range h]; rfl
theorem chc_lt {L s k : Nat} (hs : 1 ≤ s) : k < chc L s ↔ k * s < L := by
  unfold chc
  rw [Nat.lt_iff_add_one_le, Nat.le_div_iff_mul_le (by omega), Nat.add_mul]
  omega
theorem chn_of {L s k : Nat} (h : k * s < L) : chn L s k = ⟨(k * s, min s (L - k * s)), by dsimp only; omega⟩ := by
  unfold chn
  apply Subtype.ext
  dsimp only
  rw [Nat.min_eq_left (Nat.le_of_lt h)]
theorem chc_nil (s : Nat) (hs : 1 ≤ s) : chc 0 s = 0 := by unfold chc; exact Nat.div_eq_of_lt (by omega)

set_option maxRecDepth 100000 in
set_option maxHeartbeats 4000000 in
theorem chunk1_in (F : Fence) (m : Nat) (h : F.fn 99) (hro : F.round = none) (hm : 1 ≤ m) (l Bs Bn b off cap L s : Nat) (hL : L ≤ 140737488354000) (hcap : L ≤ cap) (hcap' : cap ≤ 9223372036854775807) (hs : 1 ≤ s) (hs' : s ≤ 9223372036854775807) (J Jx : Nat → World → Prop) (W : World) (hJ : ∀ k W, J k W → J k W.drew)
    (hY : ∀ k W1, J k W1 → k < chc L s → YieldAt F (m - 1) Try.prog l (cpEnc b off (chn L s k)) W1 fun e W' =>
      (e = .returned (.bool true) ∧ J (k + 1) W' ∧ KeepB2 Bs Bn W1 W') ∨ (e = .returned (.bool false) ∧ Jx (k + 1) W'))
    (k1 : Boxed W Bs 37 (.slice (some ⟨b, off, none⟩) L cap)) (k2 : Boxed W Bn 3 (.int .i64 (s : Nat))) (h0 : J 0 W) :
    CallsIn F m Try.prog 99 #[.func (.yield l) #[] #[], .pointer (some ⟨Bs, 0, none⟩), .pointer (some ⟨Bn, 0, none⟩)] W fun e W' => (∃ v, e = .returned v) ∧
      (J (chc L s) W' ∨ (∃ k, k ≤ chc L s ∧ Jx k W')) := by
  refine callsIn_of_wp Try.func99 rfl h ?_ hro
  simp only [Try.ntmps99, List.size_toArray, List.length_cons, List.length_nil, Nat.reduceAdd, Nat.reduceSub, Array.replicate_succ, Array.replicate_zero, List.push_toArray, List.append_toArray, List.nil_append, List.cons_append]
  have hcL : (L : Int) ≤ (cap : Int) := by omega
  have hcI : (cap : Int) ≤ 9223372036854775807 := by omega
  gi_wp2
  gi_loopw [4] (fun i wr => ∃ k : Nat, k ≤ chc L s ∧ i = .int .i64 ((k * s : Nat) : Int) ∧ J k wr ∧ Boxed wr Bs 37 (.slice (some ⟨b, off, none⟩) L cap) ∧ Boxed wr Bn 3 (.int .i64 (s : Nat))) (fun i _ => L - (intOf i).toNat)
  case atStart => exact ⟨0, Nat.zero_le _, by rw [Nat.zero_mul]; rfl, h0, k1, k2⟩
  case round =>
    obtain ⟨k, hk, rfl, hJs, k1, k2⟩ := hrel
    have c1 := k1.cell
    have c2 := k2.cell
    by_cases hlt : k < chc L s
    · have hkL : k * s < L := (chc_lt hs).1 hlt
      obtain ⟨fn, tmps, assign, body, hy, hR⟩ := hY k wr.drew (hJ _ wr hJs) hlt
      rw [chn_of hkL] at hy
      change (Instr.yield l #[.slice (some ⟨b, off + k * s, none⟩) (min s (L - k * s)) (min s (L - k * s))]).run _ _ = _ at hy
      have hks : k * s + s ≤ 9223372036854775807 := by
        rcases Nat.eq_zero_or_pos k with h0 | h0
        · subst h0; omega
        · have := Nat.le_mul_of_pos_left s h0; omega
      have hnx : (k + 1) * s = k * s + s := Nat.succ_mul k s
      have HN := Lib.hid hnx
      clear hnx
      have HK : Hid (k + 1 ≤ chc L s) := Lib.hid hlt
      clear hlt
      generalize k * s = i at *
      have hi : (i : Int) < (L : Int) := by omega
      have his : (i : Int) + (s : Int) ≤ 9223372036854775807 := by omega
      have hne : ¬ cap = i := by omega
      have hiL : i ≤ L := by omega
      have hE : (if L - i < s then ((L - i : Nat) : Int) else (s : Int)) = ((min s (L - i) : Nat) : Int) := by split <;> omega
      have he0 : 0 < min s (L - i) := by omega
      have heL : i + min s (L - i) ≤ L := by omega
      have HE := Lib.hid hE
      clear hE
      generalize min s (L - i) = e at *
      have hie : (i : Int) + (e : Int) ≤ (L : Int) := by omega
      gi_wp2_with fail
      gi_region
      all_goals
        rw [HE.out]
        clear HE
        gi_wp2
        refine hR.mono ?_
        clear hy
        rintro e' W3 (⟨rfl, hJ3, hk3⟩ | ⟨rfl, hJx3⟩)
        · have q1 : Boxed W3 Bs 37 (.slice (some ⟨b, off, none⟩) L cap) := hk3.1.trans k1
          have q2 : Boxed W3 Bn 3 (.int .i64 (s : Nat)) := hk3.2.trans k2
          have d1 := q1.cell
          have d2 := q2.cell
          clear c1 c2
          gi_wp2
          have hq : (i : Int) + (s : Int) = (((k + 1) * s : Nat) : Int) := by rw [HN.out]; omega
          go_roundw
          case rel => exact ⟨k + 1, HK.out, by rw [hq], hJ3, q1, q2⟩
          case measure => simp [intOf]; omega
        · gi_wp2
          refine bodyPost_ret (results_none rfl _ _ _) rfl ?_
          exact ⟨⟨_, rfl⟩, .inr ⟨_, HK.out, hJx3⟩⟩
    · have hkL : ¬ k * s < L := fun e => hlt ((chc_lt hs).2 e)
      obtain rfl : k = chc L s := by omega
      clear hlt
      generalize chc L s * s = i at *
      have hkL' : ¬ (i : Int) < (L : Int) := by omega
      gi_wp2
      go_end0
      exact ⟨⟨_, rfl⟩, .inl hJs⟩

set_option maxRecDepth 100000 in
set_option maxHeartbeats 1000000 in
/-- .. of none: no round. -/
theorem chunk1_nil_in (F : Fence) (m : Nat) (h : F.fn 99) (hro : F.round = none) (l Bs Bn : Nat) (a : Option Addr) (cap : Nat) (J : World → Prop) (W : World) (hBs : W.cell? ⟨Bs, 0, none⟩ = some (.slice a 0 cap)) (h0 : J W) :
    CallsIn F m Try.prog 99 #[.func (.yield l) #[] #[], .pointer (some ⟨Bs, 0, none⟩), .pointer (some ⟨Bn, 0, none⟩)] W fun e W' => (∃ v, e = .returned v) ∧ J W' := by
  refine callsIn_of_wp Try.func99 rfl h ?_ hro
  simp only [Try.ntmps99, List.size_toArray, List.length_cons, List.length_nil, Nat.reduceAdd, Nat.reduceSub, Array.replicate_succ, Array.replicate_zero, List.push_toArray, List.append_toArray, List.nil_append, List.cons_append]
  gi_wp2
  gi_loopw [4] (fun i wr => i = .int .i64 0 ∧ J wr ∧ wr.cell? ⟨Bs, 0, none⟩ = some (.slice a 0 cap)) (fun _ _ => 0)
  case atStart => exact ⟨rfl, h0, hBs⟩
  case round =>
    obtain ⟨rfl, hJs, hc⟩ := hrel
    gi_wp2
    go_end0
    exact ⟨⟨_, rfl⟩, hJs⟩

set_option maxHeartbeats 1000000 in
theorem chunk_in (F : Fence) (m : Nat) (h5 : F.fn 89) (hro : F.round = none) (a : Option Addr) (len cap : Nat) (z : Int) (hs : 1 ≤ z) (w : World) :
    CallsIn F m Try.prog 89 #[.slice a len cap, .int .i64 z] w fun e w' => e = .returned (.func (.func 99) #[] #[.pointer (some ⟨w.heap.size, 0, none⟩), .pointer (some ⟨w.heap.size + 1, 0, none⟩)]) ∧ w' = (w.alloc (.cells #[.slice a len cap] 37)).alloc (.cells #[.int .i64 z] 3) := by
  have hs0 : ¬ z < 1 := by omega
  refine callsIn_of_wp Try.func89 rfl h5 ?_ hro
  simp only [Try.ntmps89, List.size_toArray, List.length_cons, List.length_nil, Nat.reduceAdd, Nat.reduceSub, Array.replicate_succ, Array.replicate_zero, List.push_toArray, List.append_toArray, List.nil_append, List.cons_append]
  gi_wp2
  go_ret
  exact ⟨rfl, rfl⟩

theorem chunk_stops (F : Fence) (m : Nat) (h : F.fn 99) (hro : F.round = none) (hm : 1 ≤ m) (Bs Bn b off cap L s : Nat) (a : Option Addr) (ha : L = 0 ∨ a = some ⟨b, off, none⟩) (hL : L ≤ 140737488354000) (hcap : L ≤ cap) (hcap' : cap ≤ 9223372036854775807) (hs : 1 ≤ s) (hs' : s ≤ 9223372036854775807)
    (w : World) (k1 : Boxed w Bs 37 (.slice a L cap)) (k2 : Boxed w Bn 3 (.int .i64 (s : Nat))) :
    SeqStopsK F m Try.prog 99 #[.pointer (some ⟨Bs, 0, none⟩), .pointer (some ⟨Bn, 0, none⟩)] (cpEnc b off) (KeepB2 Bs Bn) (fun ys => ys = chs L s) (fun _ => True) (chc L s) w := fun l J Jx W hW hJ _ hY h0 => by
  have q1 : Boxed W Bs 37 (.slice a L cap) := (hW.block Bs k1.lt).trans k1
  have q2 : Boxed W Bn 3 (.int .i64 (s : Nat)) := (hW.block Bn k2.lt).trans k2
  rcases ha with rfl | rfl
  · exact (chunk1_nil_in F m h hro l Bs Bn a cap (J []) W q1.cell h0).mono fun e W' ⟨he, hj⟩ => ⟨he, .inl ⟨_, by unfold chs; rw [chc_nil s hs]; rfl, hj⟩⟩
  · refine (chunk1_in F m h hro hm l Bs Bn b off cap L s hL hcap hcap' hs hs' (fun k => J ((chs L s).take k)) (fun k => Jx ((chs L s).take k)) W (fun k X hX => hJ _ X X.drew none hX ⟨rfl, rfl, rfl, Nat.le_refl _, fun _ _ _ => rfl⟩ (by simp)) (fun k W1 hj hk => ?_) q1 q2 h0).mono ?_
    · have ht : (chs L s).take (k + 1) = (chs L s).take k ++ [chn L s k] := by rw [List.take_add_one, chs_at hk]; rfl
      rw [ht]
      exact hY _ _ W1 hj (by rw [List.length_take, chs_length]; omega)
    · rintro e W' ⟨he, hj | ⟨k, _, hj⟩⟩
      · exact ⟨he, .inl ⟨_, by rw [List.take_of_length_le (by rw [chs_length]; exact Nat.le_refl _)], hj⟩⟩
      · exact ⟨he, .inr ⟨_, trivial, hj⟩⟩

end Go.Proofs.Ytififfadodjmeaa
