/-
  An element of an array by value.
  The cells of a block that is known whole.
  What is put of an ask: bid's PutAsk.
  '==' and '!=' of two wide numbers are those of their words.
  wide.down hands back a sequence of a number's four words with their places, the highest first.
  wide.Cmp tells which of two wide numbers is greater.
  A region that draws: the condition on the world may be strengthened on the way.
  Which asks and bids may be: bid's CheckAsk and Check.
-/
import Derived.WalkSpells
import Derived.Laws.CopyOwn
import Derived.Outline
import Derived.Laws.StructEq
import Derived.Deep.RegionHeld3
import Derived.Test.YtiibeahgleaonaaProg
import Derived.Deep.Cut
import Derived.Test.YtiibeahgleaonaaK05
namespace Go.Proofs.Ytiibeahgleaonaa
open Go.RowKit Go.Shelf

/-- An element of an array by value. -/
theorem wpList_indexTo {P : Program} {ops : Array Oper} {rest : List Oper} {o : Oper} {a : Act} {w : World} {Q : Exit → Act → World → Prop} (hg : o.guard = none) (t : TypeId) (x y : Operand) (ho : o.op = .index t x y)
    (d : Option Tmp) (hd : o.dst = d) (v : Value) (hf : (Instr.index t (a.eval x) (a.eval y)).run P w = .ok v w)
    (h : wpList P ops Q rest (a.put d v) w) : wpList P ops Q (o :: rest) a w := by
  subst hd
  refine wpList_plain hg fun K hK => ?_
  unfold Oper.wp execOp
  simp only [ho, Sem.run_bind, hf, Result.andThen_ok]
  exact hK _ _ h
end Go.Proofs.Ytiibeahgleaonaa

namespace Go.Proofs.Ytiibeahgleaonaa
open Go.RowKit Go.Shelf

theorem Blk.c7 {W : World} {B : Nat} {t : TypeId} {v0 v1 v2 v3 v4 v5 v6 : Value} (h : Blk W B t [v0, v1, v2, v3, v4, v5, v6]) :
    W.cell? ⟨B, 0, none⟩ = some v0 ∧ W.cell? ⟨B, 1, none⟩ = some v1 ∧ W.cell? ⟨B, 2, none⟩ = some v2 ∧ W.cell? ⟨B, 3, none⟩ = some v3 ∧ W.cell? ⟨B, 4, none⟩ = some v4 ∧ W.cell? ⟨B, 5, none⟩ = some v5 ∧ W.cell? ⟨B, 6, none⟩ = some v6 :=
  ⟨h.cell 0, h.cell 1, h.cell 2, h.cell 3, h.cell 4, h.cell 5, h.cell 6⟩
theorem Blk.c5 {W : World} {B : Nat} {t : TypeId} {v0 v1 v2 v3 v4 : Value} (h : Blk W B t [v0, v1, v2, v3, v4]) :
    W.cell? ⟨B, 0, none⟩ = some v0 ∧ W.cell? ⟨B, 1, none⟩ = some v1 ∧ W.cell? ⟨B, 2, none⟩ = some v2 ∧ W.cell? ⟨B, 3, none⟩ = some v3 ∧ W.cell? ⟨B, 4, none⟩ = some v4 :=
  ⟨h.cell 0, h.cell 1, h.cell 2, h.cell 3, h.cell 4⟩
theorem Blk.c6 {W : World} {B : Nat} {t : TypeId} {v0 v1 v2 v3 v4 v5 : Value} (h : Blk W B t [v0, v1, v2, v3, v4, v5]) :
    W.cell? ⟨B, 0, none⟩ = some v0 ∧ W.cell? ⟨B, 1, none⟩ = some v1 ∧ W.cell? ⟨B, 2, none⟩ = some v2 ∧ W.cell? ⟨B, 3, none⟩ = some v3 ∧ W.cell? ⟨B, 4, none⟩ = some v4 ∧ W.cell? ⟨B, 5, none⟩ = some v5 :=
  ⟨h.cell 0, h.cell 1, h.cell 2, h.cell 3, h.cell 4, h.cell 5⟩
theorem Blk.c9 {W : World} {B : Nat} {t : TypeId} {v0 v1 v2 v3 v4 v5 v6 v7 v8 : Value} (h : Blk W B t [v0, v1, v2, v3, v4, v5, v6, v7, v8]) :
    W.cell? ⟨B, 0, none⟩ = some v0 ∧ W.cell? ⟨B, 1, none⟩ = some v1 ∧ W.cell? ⟨B, 2, none⟩ = some v2 ∧ W.cell? ⟨B, 3, none⟩ = some v3 ∧ W.cell? ⟨B, 4, none⟩ = some v4 ∧ W.cell? ⟨B, 5, none⟩ = some v5 ∧ W.cell? ⟨B, 6, none⟩ = some v6 ∧ W.cell? ⟨B, 7, none⟩ = some v7 ∧ W.cell? ⟨B, 8, none⟩ = some v8 :=
  ⟨h.cell 0, h.cell 1, h.cell 2, h.cell 3, h.cell 4, h.cell 5, h.cell 6, h.cell 7, h.cell 8⟩
theorem Blk.c16 {W : World} {B : Nat} {t : TypeId} {v0 v1 v2 v3 v4 v5 v6 v7 v8 v9 v10 v11 v12 v13 v14 v15 : Value} (h : Blk W B t [v0, v1, v2, v3, v4, v5, v6, v7, v8, v9, v10, v11, v12, v13, v14, v15]) :
    W.cell? ⟨B, 0, none⟩ = some v0 ∧ W.cell? ⟨B, 1, none⟩ = some v1 ∧ W.cell? ⟨B, 2, none⟩ = some v2 ∧ W.cell? ⟨B, 3, none⟩ = some v3 ∧ W.cell? ⟨B, 4, none⟩ = some v4 ∧ W.cell? ⟨B, 5, none⟩ = some v5 ∧ W.cell? ⟨B, 6, none⟩ = some v6 ∧ W.cell? ⟨B, 7, none⟩ = some v7 ∧ W.cell? ⟨B, 8, none⟩ = some v8 ∧ W.cell? ⟨B, 9, none⟩ = some v9 ∧ W.cell? ⟨B, 10, none⟩ = some v10 ∧ W.cell? ⟨B, 11, none⟩ = some v11 ∧ W.cell? ⟨B, 12, none⟩ = some v12 ∧ W.cell? ⟨B, 13, none⟩ = some v13 ∧ W.cell? ⟨B, 14, none⟩ = some v14 ∧ W.cell? ⟨B, 15, none⟩ = some v15 :=
  ⟨h.cell 0, h.cell 1, h.cell 2, h.cell 3, h.cell 4, h.cell 5, h.cell 6, h.cell 7, h.cell 8, h.cell 9, h.cell 10, h.cell 11, h.cell 12, h.cell 13, h.cell 14, h.cell 15⟩
end Go.Proofs.Ytiibeahgleaonaa

namespace Go.Proofs.Ytiibeahgleaonaa
open Go.RowKit Go.Shelf

def nA (a : Ak) (k : Nat) : Int := match k with | 0 => a.us | 1 => a.se | 2 => a.re | _ => a.to
def numA (s : St) (a : Ak) (k : Nat) : St := match k with | 0 => s | k + 1 => numS (numA s a k) (nA a k)
set_option maxRecDepth 100000 in
theorem idx_ask4 (a : Ak) (w : World) {k : Nat} (hk : k < 4) :
    (Instr.index 57 (.agg #[.int .i64 a.us, .int .i64 a.se, .int .i64 a.re, .int .i64 a.to]) (.int .i64 k)).run Try.prog w = .ok (.int .i64 (nA a k)) w := by
  have hs : ∀ j : Nat, (sizeOf 3).run Try.prog w = .ok 1 w := fun _ => by kernel_rfl
  have h1 : (0 : Int) ≤ (k : Int) ∧ (k : Int) < 4 := ⟨by omega, by omega⟩
  obtain rfl | rfl | rfl | rfl : k = 0 ∨ k = 1 ∨ k = 2 ∨ k = 3 := by omega
  all_goals
    simp [Instr.index, run_underlying Try.underlying57, asIntOf, hs 0, go_sem, nA]

set_option maxRecDepth 100000 in
set_option maxHeartbeats 2000000 in
theorem bidPutAsk_any {p : Option Addr} {s : St} (a : Ak) (ha : Ok4 a.a0 a.a1 a.a2 a.a3) (w : World) (h : ObjP 56 w p s) :
    Calls Try.prog 7 #[.pointer p, akv a] w (DidS 56 p (putA s a) w) := by
  have HNE := Lib.hid (ptr_lt h (Nat.le_refl _))
  have HP : Hid (putA s a = txtS (wideS (numA s a 4) a.a0 a.a1 a.a2 a.a3) a.id) := Lib.hid rfl
  have kB := (Blk.new w 26 (akc a))
  have hG := World.grownBy_alloc w (.cells (akc a).toArray 26) (p.map (·.block))
  have hO := h.below (chain0 w (.cells (akc a).toArray 26))
  clear h
  go_enter Try.func7, Try.ntmps7
  go_wp2_with fail
  go_loopw [15] (fun n wr => ∃ k : Nat, k ≤ 4 ∧ n = .int .i64 k ∧ ObjP 56 wr p (numA s a k) ∧ w.grownBy wr (p.map (·.block)) ∧ Blk wr w.heap.size 26 (akc a)) (fun n _ => 4 - (intOf n).toNat)
  case atStart => exact ⟨0, by omega, rfl, hO, hG, kB⟩
  case round =>
    clear hO hG kB
    obtain ⟨k, hk, rfl, hO, hG, kB⟩ := hrel
    by_cases hlt : k < 4
    · have hlt' : (k : Int) < 4 := by omega
      have HI := Lib.hid (fun W => idx_ask4 a W hlt)
      have HS : Hid (numA s a (k + 1) = numS (numA s a k) (nA a k)) := Lib.hid rfl
      generalize numA s a k = st at *
      generalize nA a k = x at *
      go_wp2_with (first
        | (refine wpList_indexTo rfl 57 (.tmp 14) (.tmp 15) rfl (some 17) rfl _ (HI.out _) ?_)
        | (go_at_call 20; refine (outNum_any _ _ hO).mono ?_; rintro e W1 ⟨rfl, hO1, hG1⟩))
      go_roundw
      case rel => exact ⟨k + 1, by omega, by go_num, by rw [HS.out]; exact hO1, hG.trans hG1, kB.kept hG1 HNE.out⟩
      case measure => simp [intOf]; omega
    · obtain rfl : k = 4 := by omega
      generalize numA s a 4 = st at *
      obtain ⟨c0, c1, c2, c3, c4, c5, c6, c7, c8⟩ := Blk.c9 kB
      go_wp2_with (first
        | (go_at_call 21; refine (outWide_any ha _ hO).mono ?_; rintro e W1 ⟨rfl, hO1, hG1⟩; replace hO := hO1; replace hG := hG.trans hG1; replace kB := kB.kept hG1 HNE.out; clear c0 c1 c2 c3 c4 c5 c6 c7 c8 hO1 hG1; have c8 := (kB.cell 8).trans rfl)
        | (go_at_call 22; refine (outText_any _ _ hO).mono ?_; rintro e W1 ⟨rfl, hO1, hG1⟩))
      go_end0
      exact ⟨rfl, by rw [HP.out]; exact hO1, hG.trans hG1⟩
end Go.Proofs.Ytiibeahgleaonaa

namespace Go.Proofs.Ytiibeahgleaonaa
open Go.RowKit Go.Shelf

/-- The same words. -/
def wEq (a0 a1 a2 a3 b0 b1 b2 b3 : Int) : Bool := decide (a0 = b0 ∧ a1 = b1 ∧ a2 = b2 ∧ a3 = b3)
theorem wEq_refl (a0 a1 a2 a3 : Int) : wEq a0 a1 a2 a3 a0 a1 a2 a3 = true := by simp [wEq]
theorem wEq_of {a0 a1 a2 a3 b0 b1 b2 b3 : Int} (h : a0 = b0 ∧ a1 = b1 ∧ a2 = b2 ∧ a3 = b3) : wEq a0 a1 a2 a3 b0 b1 b2 b3 = true := decide_eq_true h
theorem wEq_not {a0 a1 a2 a3 b0 b1 b2 b3 : Int} (h : ¬ (a0 = b0 ∧ a1 = b1 ∧ a2 = b2 ∧ a3 = b3)) : wEq a0 a1 a2 a3 b0 b1 b2 b3 = false := decide_eq_false h

theorem run_equalIn_wide' (d : Nat) (a0 a1 a2 a3 b0 b1 b2 b3 : Int) (w : World) :
    (Op.equalIn (d + 2) 24 (.agg #[.int .u64 a0, .int .u64 a1, .int .u64 a2, .int .u64 a3]) (.agg #[.int .u64 b0, .int .u64 b1, .int .u64 b2, .int .u64 b3])).run Try.prog w = .ok (wEq a0 a1 a2 a3 b0 b1 b2 b3) w := by
  have e : ∀ a b : Int, (Op.equalIn (d + 1) 22 (.int .u64 a) (.int .u64 b)).run Try.prog w = .ok (a == b) w := fun a b => run_equalIn_int w d 22 .u64 .u64 a b Try.underlying22
  rw [show d + 2 = (d + 1) + 1 from rfl]
  unfold Op.equalIn
  by_cases h0 : a0 = b0
  · subst h0
    by_cases h1 : a1 = b1
    · subst h1
      by_cases h2 : a2 = b2
      · subst h2
        by_cases h3 : a3 = b3
        · subst h3
          simp [run_underlying Try.underlying24, List.range', part, e, Result.andThen, wEq]
        · simp [run_underlying Try.underlying24, List.range', part, e, Result.andThen, wEq, h3]
      · simp [run_underlying Try.underlying24, List.range', part, e, Result.andThen, wEq, h2]
    · simp [run_underlying Try.underlying24, List.range', part, e, Result.andThen, wEq, h1]
  · simp [run_underlying Try.underlying24, List.range', part, e, Result.andThen, wEq, h0]

/-- As the walk meets it. -/
theorem run_equalIn_wide (a0 a1 a2 a3 b0 b1 b2 b3 : Int) (w : World) :
    (Op.equalIn 10000 24 (.agg #[.int .u64 a0, .int .u64 a1, .int .u64 a2, .int .u64 a3]) (.agg #[.int .u64 b0, .int .u64 b1, .int .u64 b2, .int .u64 b3])).run Try.prog w = .ok (wEq a0 a1 a2 a3 b0 b1 b2 b3) w :=
  run_equalIn_wide' 9998 a0 a1 a2 a3 b0 b1 b2 b3 w

end Go.Proofs.Ytiibeahgleaonaa

namespace Go.Proofs.Ytiibeahgleaonaa
open Go.RowKit Go.Shelf
attribute [local go_sem] Oper.semAt_some

set_option maxRecDepth 100000 in
set_option maxHeartbeats 4000000 in
theorem down1_stops (F : Fence) (n : Nat) (h : F.fn 68) (hro : F.round = none) (hn : 1 ≤ n) {a0 a1 a2 a3 : Nat} (ha : Ok4 a0 a1 a2 a3) (B : Nat) (w : World) (hb : BlkW w B a0 a1 a2 a3) :
    SeqStopsK F n Try.prog 68 #[.pointer (some ⟨B, 0, none⟩)] pwEnc (KeepB B) (fun ys => ys = downs ha) (fun pre => pre <+: downs ha) 4 w := fun l J Jx W hW _ _ hY h0 => by
  have hb' : BlkW W B a0 a1 a2 a3 := hb.below hW hb.lt
  clear hb
  refine callsIn_of_wp Try.func68 rfl h ?_ hro
  simp only [Try.ntmps68, List.size_toArray, List.length_cons, List.length_nil, Nat.reduceAdd, Nat.reduceSub, Array.replicate_succ, Array.replicate_zero, List.push_toArray, List.append_toArray, List.nil_append, List.cons_append]
  gi_wp2
  gi_loopw [3] (fun i wr => ∃ k : Nat, k ≤ 4 ∧ i = .int .i64 (3 - (k : Int)) ∧ BlkW wr B a0 a1 a2 a3 ∧ J ((downs ha).take k) wr) (fun i _ => ((intOf i) + 1).toNat)
  case atStart => exact ⟨0, by omega, rfl, hb', h0⟩
  case round =>
    obtain ⟨k, hk, rfl, hbr, hJs⟩ := hrel
    obtain ⟨x0, x1, x2, x3⟩ := hbr.c4
    have hk' : k = 0 ∨ k = 1 ∨ k = 2 ∨ k = 3 ∨ k = 4 := by omega
    rcases hk' with rfl | rfl | rfl | rfl | rfl
    · obtain ⟨fn, tmps, assign, body, hy, hR⟩ := hY _ (pw 3 a3 (by omega) ha.h3) wr hJs (by simp [downs])
      change (Instr.yield l #[.int .i64 3, .int .u64 (a3 : Int)]).run _ _ = _ at hy
      gi_wp2
      refine hR.mono ?_
      rintro e W3 (⟨rfl, hJ3, hk3⟩ | ⟨rfl, hJx3⟩)
      · replace hbr : BlkW W3 B a0 a1 a2 a3 := hk3.trans hbr
        clear x0 x1 x2 x3
        gi_wp2
        go_roundw
        case rel => exact ⟨1, by omega, by simp, hbr, hJ3⟩
        case measure => simp [intOf]
      · gi_wp2
        refine bodyPost_ret (results_none rfl _ _ _) rfl ?_
        exact ⟨⟨_, rfl⟩, .inr ⟨(downs ha).take 1, List.take_prefix _ _, hJx3⟩⟩
    · obtain ⟨fn, tmps, assign, body, hy, hR⟩ := hY _ (pw 2 a2 (by omega) ha.h2) wr hJs (by simp [downs])
      change (Instr.yield l #[.int .i64 2, .int .u64 (a2 : Int)]).run _ _ = _ at hy
      gi_wp2
      refine hR.mono ?_
      rintro e W3 (⟨rfl, hJ3, hk3⟩ | ⟨rfl, hJx3⟩)
      · replace hbr : BlkW W3 B a0 a1 a2 a3 := hk3.trans hbr
        clear x0 x1 x2 x3
        gi_wp2
        go_roundw
        case rel => exact ⟨2, by omega, by simp, hbr, hJ3⟩
        case measure => simp [intOf]
      · gi_wp2
        refine bodyPost_ret (results_none rfl _ _ _) rfl ?_
        exact ⟨⟨_, rfl⟩, .inr ⟨(downs ha).take 2, List.take_prefix _ _, hJx3⟩⟩
    · obtain ⟨fn, tmps, assign, body, hy, hR⟩ := hY _ (pw 1 a1 (by omega) ha.h1) wr hJs (by simp [downs])
      change (Instr.yield l #[.int .i64 1, .int .u64 (a1 : Int)]).run _ _ = _ at hy
      gi_wp2
      refine hR.mono ?_
      rintro e W3 (⟨rfl, hJ3, hk3⟩ | ⟨rfl, hJx3⟩)
      · replace hbr : BlkW W3 B a0 a1 a2 a3 := hk3.trans hbr
        clear x0 x1 x2 x3
        gi_wp2
        go_roundw
        case rel => exact ⟨3, by omega, by simp, hbr, hJ3⟩
        case measure => simp [intOf]
      · gi_wp2
        refine bodyPost_ret (results_none rfl _ _ _) rfl ?_
        exact ⟨⟨_, rfl⟩, .inr ⟨(downs ha).take 3, List.take_prefix _ _, hJx3⟩⟩
    · obtain ⟨fn, tmps, assign, body, hy, hR⟩ := hY _ (pw 0 a0 (by omega) ha.h0) wr hJs (by simp [downs])
      change (Instr.yield l #[.int .i64 0, .int .u64 (a0 : Int)]).run _ _ = _ at hy
      gi_wp2
      refine hR.mono ?_
      rintro e W3 (⟨rfl, hJ3, hk3⟩ | ⟨rfl, hJx3⟩)
      · replace hbr : BlkW W3 B a0 a1 a2 a3 := hk3.trans hbr
        clear x0 x1 x2 x3
        gi_wp2
        go_roundw
        case rel => exact ⟨4, by omega, by simp, hbr, hJ3⟩
        case measure => simp [intOf]
      · gi_wp2
        refine bodyPost_ret (results_none rfl _ _ _) rfl ?_
        exact ⟨⟨_, rfl⟩, .inr ⟨(downs ha).take 4, List.take_prefix _ _, hJx3⟩⟩
    · gi_wp2
      go_end0
      exact ⟨⟨_, rfl⟩, .inl ⟨_, rfl, hJs⟩⟩

set_option maxHeartbeats 1000000 in
theorem down_in (F : Fence) (n : Nat) (h : F.fn 58) (hro : F.round = none) (a0 a1 a2 a3 : Nat) (w : World) :
    CallsIn F n Try.prog 58 #[wv a0 a1 a2 a3] w fun e w' => e = .returned (.func (.func 68) #[] #[.pointer (some ⟨w.heap.size, 0, none⟩)]) ∧ w' = w.alloc (.cells #[.int .u64 a0, .int .u64 a1, .int .u64 a2, .int .u64 a3] 24) := by
  refine callsIn_of_wp Try.func58 rfl h ?_ hro
  simp only [Try.ntmps58, List.size_toArray, List.length_cons, List.length_nil, Nat.reduceAdd, Nat.reduceSub, Array.replicate_succ, Array.replicate_zero, List.push_toArray, List.append_toArray, List.nil_append, List.cons_append]
  gi_wp2
  go_ret
  exact ⟨rfl, rfl⟩

end Go.Proofs.Ytiibeahgleaonaa

namespace Go.Proofs.Ytiibeahgleaonaa
open Go.RowKit Go.Shelf
attribute [local go_sem] Oper.semAt_some

set_option maxHeartbeats 1000000 in
theorem compare_any (x y : Nat) (w : World) : Calls Try.prog 59 #[.int .u64 (x : Int), .int .u64 (y : Int)] w fun e w' => e = .returned (.int .i64 (cmpN x y)) ∧ w' = w := by
  have hxx : ((x : Int) == (x : Int)) = true := by simp
  have hyy : ((y : Int) == (y : Int)) = true := by simp
  rcases Nat.lt_trichotomy x y with h | h | h
  · have h1 : (x : Int) < (y : Int) := by omega
    have HC : Hid (cmpN x y = -1) := Lib.hid (by unfold cmpN; rw [if_pos h])
    go_enter Try.func59, Try.ntmps59
    go_wp2
    go_ret
    exact ⟨by rw [HC.out]; rfl, rfl⟩
  · have h1 : ¬ (x : Int) < (y : Int) := by omega
    have h2 : ¬ (y : Int) < (x : Int) := by omega
    have HC : Hid (cmpN x y = 0) := Lib.hid (by unfold cmpN; rw [if_neg (by omega), if_neg (by omega)])
    clear h
    go_enter Try.func59, Try.ntmps59
    go_wp2
    go_ret
    exact ⟨by rw [HC.out]; rfl, rfl⟩
  · have h1 : ¬ (x : Int) < (y : Int) := by omega
    have h2 : (y : Int) < (x : Int) := by omega
    have HC : Hid (cmpN x y = 1) := Lib.hid (by unfold cmpN; rw [if_neg (by omega), if_pos h])
    go_enter Try.func59, Try.ntmps59
    go_wp2
    go_ret
    exact ⟨by rw [HC.out]; rfl, rfl⟩

/-- The first word that differs. -/
def fd (b : Nat → Nat) (pre : List PW) : Option PW := pre.find? fun p => decide (p.1.2 ≠ b p.1.1)
theorem fd_hit {b : Nat → Nat} {pre : List PW} {x : PW} (h : fd b pre = none) (hx : x.1.2 ≠ b x.1.1) : fd b (pre ++ [x]) = some x := by
  unfold fd at *; rw [List.find?_append, h]; simp [hx]
theorem fd_miss {b : Nat → Nat} {pre : List PW} {x : PW} (h : fd b pre = none) (hx : x.1.2 = b x.1.1) : fd b (pre ++ [x]) = none := by
  unfold fd at *; rw [List.find?_append, h]; simp [hx]
theorem fd_prefix {b : Nat → Nat} {pre ys : List PW} {p : PW} (h : fd b pre = some p) (hp : pre <+: ys) : fd b ys = some p := by
  obtain ⟨t, rfl⟩ := hp
  unfold fd at *; rw [List.find?_append, h]; rfl

theorem cmp_words {a0 a1 a2 a3 b0 b1 b2 b3 : Nat} (ha : Ok4 a0 a1 a2 a3) (hb : Ok4 b0 b1 b2 b3) :
    cmpN (val a0 a1 a2 a3) (val b0 b1 b2 b3) = if a3 ≠ b3 then cmpN a3 b3 else if a2 ≠ b2 then cmpN a2 b2 else if a1 ≠ b1 then cmpN a1 b1 else if a0 ≠ b0 then cmpN a0 b0 else 0 := by
  obtain ⟨h0, h1, h2, h3⟩ := ha
  obtain ⟨k0, k1, k2, k3⟩ := hb
  have less : ∀ {x y X Y : Nat}, x < M → y < M → X < Y → x + M * X < y + M * Y := fun {x y X Y} hx hy h => by
    have : M * (X + 1) ≤ M * Y := Nat.mul_le_mul_left _ h
    rw [Nat.mul_add] at this
    omega
  have step : ∀ {x y X Y : Nat}, x < M → y < M → cmpN (x + M * X) (y + M * Y) = if X ≠ Y then cmpN X Y else cmpN x y := fun {x y X Y} hx hy => by
    unfold cmpN
    rcases Nat.lt_trichotomy X Y with h | h | h
    · rw [if_pos (less hx hy h), if_pos (by omega), if_pos h]
    · subst h
      rw [if_neg (by omega : ¬ X ≠ X)]
      simp only [Nat.add_lt_add_iff_right]
    · have := less hy hx h
      rw [if_neg (by omega), if_pos this, if_pos (by omega), if_neg (by omega), if_pos h]
  unfold val
  rw [step h0 k0, step h1 k1, step h2 k2]
  by_cases e3 : a3 = b3
  · subst e3
    by_cases e2 : a2 = b2
    · subst e2
      by_cases e1 : a1 = b1
      · subst e1
        by_cases e0 : a0 = b0
        · subst e0; simp [cmpN]
        · simp [e0]
      · have : a1 + M * (a2 + M * a3) ≠ b1 + M * (a2 + M * a3) := by omega
        simp [e1]
    · have l1 : a2 + M * a3 ≠ b2 + M * a3 := by omega
      have l2 : a1 + M * (a2 + M * a3) ≠ b1 + M * (b2 + M * a3) := by
        rcases Nat.lt_trichotomy (a2 + M * a3) (b2 + M * a3) with h | h | h
        · have := less h1 k1 h; omega
        · exact absurd h l1
        · have := less k1 h1 h; omega
      simp [e2, l2]
  · have l1 : a2 + M * a3 ≠ b2 + M * b3 := by
      rcases Nat.lt_trichotomy a3 b3 with h | h | h
      · have := less h2 k2 h; omega
      · exact absurd h e3
      · have := less k2 h2 h; omega
    have l2 : a1 + M * (a2 + M * a3) ≠ b1 + M * (b2 + M * b3) := by
      rcases Nat.lt_trichotomy (a2 + M * a3) (b2 + M * b3) with h | h | h
      · have := less h1 k1 h; omega
      · exact absurd h l1
      · have := less k1 h1 h; omega
    simp [e3, l1, l2]

theorem fd_downs {a0 a1 a2 a3 b0 b1 b2 b3 : Nat} (ha : Ok4 a0 a1 a2 a3) (hb : Ok4 b0 b1 b2 b3) : ((fd (word b0 b1 b2 b3) (downs ha)).map fun p => cmpN p.1.2 (word b0 b1 b2 b3 p.1.1)).getD 0 = cmpN (val a0 a1 a2 a3) (val b0 b1 b2 b3) := by
  rw [cmp_words ha hb]
  by_cases h3 : a3 = b3
  · by_cases h2 : a2 = b2
    · by_cases h1 : a1 = b1
      · by_cases h0 : a0 = b0
        · simp [fd, downs, pw, word, List.find?, h0, h1, h2, h3]
        · simp [fd, downs, pw, word, List.find?, h0, h1, h2, h3]
      · simp [fd, downs, pw, word, List.find?, h1, h2, h3]
    · simp [fd, downs, pw, word, List.find?, h2, h3]
  · simp [fd, downs, pw, word, h3]

set_option maxRecDepth 100000 in
set_option maxHeartbeats 4000000 in
theorem cmp_in (n : Nat) (hn : 3 ≤ n) {a0 a1 a2 a3 b0 b1 b2 b3 : Nat} (ha : Ok4 a0 a1 a2 a3) (hb : Ok4 b0 b1 b2 b3) (w : World) :
    CallsIn Fence.wide n Try.prog 39 #[wv a0 a1 a2 a3, wv b0 b1 b2 b3] w fun e W' => e = .returned (.int .i64 (cmpN (val a0 a1 a2 a3) (val b0 b1 b2 b3))) ∧ Below w.heap.size w W' := by
  have h1 : 1 ≤ n := by omega
  refine callsIn_of_wp_marks Try.func39 rfl trivial ?_ rfl
  simp only [Try.ntmps39, List.size_toArray, List.length_cons, List.length_nil, Nat.reduceAdd, Nat.reduceSub, Array.replicate_succ, Array.replicate_zero, List.push_toArray, List.append_toArray, List.nil_append, List.cons_append]
  gi_wp2_with (refine ⟨trivial, ?_⟩; gi_at_call 58; refine (down_in Fence.wide (n - 1) trivial rfl _ _ _ _ _).mono ?_; rintro e w' ⟨rfl, rfl⟩)
  generalize hW5 : World.alloc _ _ = W5
  have k1 : Blk W5 (w.heap.size + 1) 24 (ws (word b0 b1 b2 b3)) := by rw [← hW5]; exact ((Blk.new' (by simp)).alloc _).alloc _
  have k2 : Blk W5 (w.heap.size + 1 + 1) 3 [.int .i64 0] := by rw [← hW5]; exact (Blk.new' (by simp)).alloc _
  have k5 : BlkW W5 (w.heap.size + 1 + 1 + 1) a0 a1 a2 a3 := by rw [← hW5]; exact Blk.new' (by simp)
  have hB0 : Below w.heap.size w W5 := by rw [← hW5]; exact chainA (chainA (chainA (chain0 _ _) _) _) _
  have hz : W5.heap.size = w.heap.size + 4 := by rw [← hW5]; simp
  clear hW5
  refine wpIn_rangeFunc_ownF (S := fun ys => ys = downs ha) rfl h1 (gf := 68) (lb := #[.pointer (some ⟨w.heap.size + 1 + 1 + 1, 0, none⟩)]) rfl trivial (enters_of Try.func68 (by kernel_rfl) rfl)
    (down1_stops Fence.wide (n - 1) trivial rfl (by omega) ha (w.heap.size + 1 + 1 + 1) W5 k5) KeepB.t (KeepB.b k5.lt) (Below.refl _ _) (fun _ => rfl)
    (fun pre W => (Blk W (w.heap.size + 1) 24 (ws (word b0 b1 b2 b3)) ∧ Blk W (w.heap.size + 1 + 1) 3 [.int .i64 0] ∧ fd (word b0 b1 b2 b3) pre = none) ∧ Below w.heap.size w W)
    (fun c pre W => (Blk W (w.heap.size + 1 + 1) 3 [.int .i64 (((fd (word b0 b1 b2 b3) pre).map fun p => cmpN p.1.2 (word b0 b1 b2 b3 p.1.1)).getD 0)] ∧ c = .ret ∧ ∃ p, fd (word b0 b1 b2 b3) pre = some p) ∧ Below w.heap.size w W)
    (OwnFrom.and (Own.from (fun s A B row hs hg hr => ⟨blk_own _ _ (fun _ => _) s A B row hs.1 hg hr, blk_own _ _ (fun _ => _) s A B row hs.2.1 hg hr, hs.2.2⟩) _) (ownFrom_below (Nat.le_refl _) (by omega)))
    (fun c => OwnFrom.and (Own.from (fun s A B row hs hg hr => ⟨blk_own _ _ (fun pre => [.int .i64 (((fd (word b0 b1 b2 b3) pre).map fun p => cmpN p.1.2 (word b0 b1 b2 b3 p.1.1)).getD 0)]) s A B row hs.1 hg hr, hs.2⟩) _) (ownFrom_below (Nat.le_refl _) (by omega)))
    ⟨⟨k1, k2, rfl⟩, hB0⟩
    (fun x => { tmps := #[wv a0 a1 a2 a3, wv b0 b1 b2 b3, .pointer (some ⟨w.heap.size, 0, none⟩), .pointer (some ⟨w.heap.size + 1, 0, none⟩), .pointer (some ⟨w.heap.size + 1 + 1, 0, none⟩), .int .i64 (x.1.1 : Int), .int .u64 (x.1.2 : Int), undef, wv a0 a1 a2 a3, .func (.func 68) #[] #[.pointer (some ⟨w.heap.size + 1 + 1 + 1, 0, none⟩)], .int .i64 (x.1.1 : Int), .int .u64 (x.1.2 : Int), undef, undef, undef, undef, undef, undef, undef, undef], defers := [] }) ?assign ?body ?done ?stop
  case assign =>
    intro l x W K hK
    gi_wp2
    exact hK
  case body =>
    rintro l pre ⟨⟨i, x⟩, hi, hx⟩ W ⟨⟨k1, k2, hf⟩, hB⟩ _
    dsimp only at hi hx
    have hf' := fun (e : x ≠ word b0 b1 b2 b3 i) => fd_hit (b := word b0 b1 b2 b3) (x := ⟨(i, x), hi, hx⟩) hf e
    have hg' := fun (e : x = word b0 b1 b2 b3 i) => fd_miss (b := word b0 b1 b2 b3) (x := ⟨(i, x), hi, hx⟩) hf e
    have HF := Lib.hid hf'
    have HG := Lib.hid hg'
    clear hf hf' hg'
    have hi' : (i : Int) < 4 := by omega
    have c1 := k1.cell i
    rw [ws_at _ hi] at c1
    have c2 : W.cell? ⟨w.heap.size + 1 + 1, 0, none⟩ = some (.int .i64 0) := k2.cell 0
    have f2 := k2.frozen 0
    have hne : cmpN x (word b0 b1 b2 b3 i) = 0 ↔ x = word b0 b1 b2 b3 i := by
      unfold cmpN
      split
      · omega
      · split <;> omega
    have HN := Lib.hid hne
    clear hne
    gi_wp2_with fail
    refine ⟨trivial, (fun _ => by omega), ?_⟩
    refine (CallsIn.inRound l (callsIn_wide.2 (compare_any _ _ _))).mono ?_
    rintro e w' ⟨rfl, rfl⟩
    generalize hcg : cmpN x (word b0 b1 b2 b3 i) = c at *
    have HC := Lib.hid hcg
    clear hcg
    by_cases hc0 : c = 0
    · have hcb : (c == 0) = true := by simp [hc0]
      have hxe := HN.out.1 hc0
      have HX := Lib.hid hxe
      clear hxe hc0
      gi_wp2
      exact ⟨KeepsOthers.refl _, KeepB.refl _ _, ⟨k1, k2, HG.out HX.out⟩, hB⟩
    · have hcb : (c == 0) = false := by simp [hc0]
      have hxe : x ≠ word b0 b1 b2 b3 i := fun e => hc0 (HN.out.2 e)
      have HX := Lib.hid hxe
      clear hxe hc0
      gi_wp2
      refine ⟨KeepsOthers.setCell _ _ _, ⟨?_, rfl, _, HF.out HX.out⟩, hB.setCell (p := ⟨w.heap.size + 1 + 1, 0, none⟩) (by simp; omega) _⟩
      rw [HF.out HX.out]
      have kk := k2.set 0 (.int .i64 c)
      rw [← HC.out] at kk ⊢
      exact kk
  case done =>
    rintro D ys W hD rfl ⟨⟨k1, k2, hf⟩, hB⟩ hK
    have c2 : W.cell? ⟨w.heap.size + 1 + 1, 0, none⟩ = some (.int .i64 0) := k2.cell 0
    have f2 := k2.frozen 0
    have hbits := fd_downs ha hb
    rw [hf] at hbits
    have HB := Lib.hid hbits
    have HF := Lib.hid hf
    clear hbits hf
    gi_wp2
    have hK' := (KeepsOthers.setCell W ⟨w.heap.size + 1 + 1, 0, none⟩ (.int .i64 0)).same D _ hK rfl
    have k2' := (k2.set 0 (.int .i64 0)).kept (grownBy_putObj' _ D (.deferred none)) (by intro e; cases e; omega)
    have r0 := k2'.cell 0
    simp only [List.set_cons_zero, List.getElem?_cons_zero] at r0
    have hB' := (hB.setCell (p := ⟨w.heap.size + 1 + 1, 0, none⟩) (by simp; omega) (.int .i64 0)).trans (belowK_b (w := w) (Nat.le_refl _) _ D _ (.deferred none) (by omega) hK' rfl rfl)
    refine ⟨by simp, .inl ⟨_, _, rfl, run_takeDeferred hK', ?_⟩⟩
    refine ⟨.int .i64 0, ?_, ?_⟩
    · simp [results, Try.f39, go_sem, r0]
    · exact ⟨by rw [← HB.out]; rfl, hB'⟩
  case stop =>
    rintro D c pre W hD hpre ⟨⟨k2, rfl, hp⟩, hB⟩ hK
    obtain ⟨p, hp⟩ := hp
    have hbits : ((fd (word b0 b1 b2 b3) pre).map fun p => cmpN p.1.2 (word b0 b1 b2 b3 p.1.1)).getD 0 = cmpN (val a0 a1 a2 a3) (val b0 b1 b2 b3) := by rw [hp, ← fd_prefix hp hpre]; exact fd_downs ha hb
    rw [hbits] at k2
    clear hbits hp
    gi_wp2
    have k2' := k2.kept (grownBy_putObj' _ D (.deferred none)) (by intro e; cases e; omega)
    have r0 := k2'.cell 0
    simp only [List.getElem?_cons_zero] at r0
    have hB' := hB.trans (belowK_b (w := w) (Nat.le_refl _) _ D _ (.deferred none) (by omega) hK rfl rfl)
    refine ⟨by simp, .inl ⟨_, _, rfl, run_takeDeferred hK, ?_⟩⟩
    refine ⟨.int .i64 (cmpN (val a0 a1 a2 a3) (val b0 b1 b2 b3)), ?_, ?_⟩
    · simp [results, Try.f39, go_sem, r0]
    · exact ⟨rfl, hB'⟩

theorem cmp_any {a0 a1 a2 a3 b0 b1 b2 b3 : Nat} (ha : Ok4 a0 a1 a2 a3) (hb : Ok4 b0 b1 b2 b3) (w : World) :
    Calls Try.prog 39 #[wv a0 a1 a2 a3, wv b0 b1 b2 b3] w fun e W' => e = .returned (.int .i64 (cmpN (val a0 a1 a2 a3) (val b0 b1 b2 b3))) ∧ Below w.heap.size w W' := callsIn_wide.1 (cmp_in 3 (by omega) ha hb w)
end Go.Proofs.Ytiibeahgleaonaa

namespace Go.Proofs.Ytiibeahgleaonaa

theorem wpAnyH_mono {P : Program} {ops : Array Oper} {Q : Exit → Act → World → Prop} {md : Region.Mode} {S S' : World → Prop} (h : ∀ w, S' w → S w) :
    ∀ (fuel : Nat) (listed : Array Bool) (a : Act) (w : World), wpAnyH P md ops Q S' fuel listed a w → wpAnyH P md ops Q S fuel listed a w
  | 0, _, _, _, H => H
  | fuel + 1, _, _, _, H => ⟨H.1, fun i hi => wpOp_mono (fun a' w' h' => ⟨h _ h'.1, wpAnyH_mono h fuel _ a' w' h'.2⟩) (H.2 i hi)⟩
end Go.Proofs.Ytiibeahgleaonaa

namespace Go.Proofs.Ytiibeahgleaonaa
open Go.RowKit Go.Shelf

/-- A number is where it may be. -/
def inB (n l m : Int) : Bool := decide (l ≤ n ∧ n ≤ m)
theorem within_any (n l m : Int) (w : World) :
    Calls Try.prog 38 #[.int .i64 n, .int .i64 l, .int .i64 m] w fun e W' => e = .returned (.bool (inB n l m)) ∧ w = W' := by
  by_cases h1 : l ≤ n
  · by_cases h2 : n ≤ m
    · rw [show inB n l m = true from decide_eq_true ⟨h1, h2⟩]
      go_enter Try.func38, Try.ntmps38
      go_wp2
      go_ret
      exact ⟨rfl, rfl⟩
    · rw [show inB n l m = false from decide_eq_false (by omega)]
      go_enter Try.func38, Try.ntmps38
      go_wp2
      go_ret
      exact ⟨rfl, rfl⟩
  · rw [show inB n l m = false from decide_eq_false (by omega)]
    go_enter Try.func38, Try.ntmps38
    go_wp2
    go_ret
    exact ⟨rfl, rfl⟩

/-- Rule k of six. -/
def bAt (b0 b1 b2 b3 b4 b5 : Bool) (k : Nat) : Bool := match k with | 0 => b0 | 1 => b1 | 2 => b2 | 3 => b3 | 4 => b4 | _ => b5
def judgeI (b0 b1 b2 b3 b4 b5 : Bool) : Int := if b0 = true ∧ b1 = true ∧ b2 = true ∧ b3 = true ∧ b4 = true ∧ b5 = true then 0 else 39
theorem judge_all {b0 b1 b2 b3 b4 b5 : Bool} (h : ∀ j, j < 6 → bAt b0 b1 b2 b3 b4 b5 j = true) : judgeI b0 b1 b2 b3 b4 b5 = 0 :=
  if_pos ⟨h 0 (by omega), h 1 (by omega), h 2 (by omega), h 3 (by omega), h 4 (by omega), h 5 (by omega)⟩
theorem judge_not {b0 b1 b2 b3 b4 b5 : Bool} {j : Nat} (hj : j < 6) (h : bAt b0 b1 b2 b3 b4 b5 j = false) : judgeI b0 b1 b2 b3 b4 b5 = 39 := by
  refine if_neg fun ⟨h0, h1, h2, h3, h4, h5⟩ => ?_
  match j, hj with
  | 0, _ => exact absurd (h0.symm.trans h) (by decide)
  | 1, _ => exact absurd (h1.symm.trans h) (by decide)
  | 2, _ => exact absurd (h2.symm.trans h) (by decide)
  | 3, _ => exact absurd (h3.symm.trans h) (by decide)
  | 4, _ => exact absurd (h4.symm.trans h) (by decide)
  | 5, _ => exact absurd (h5.symm.trans h) (by decide)
set_option maxRecDepth 100000 in
theorem idx_rules (b0 b1 b2 b3 b4 b5 : Bool) (w : World) {k : Nat} (hk : k < 6) :
    (Instr.index 83 (.agg #[.bool b0, .bool b1, .bool b2, .bool b3, .bool b4, .bool b5]) (.int .i64 k)).run Try.prog w = .ok (.bool (bAt b0 b1 b2 b3 b4 b5 k)) w := by
  have hs : ∀ j : Nat, (sizeOf 4).run Try.prog w = .ok 1 w := fun _ => by kernel_rfl
  obtain rfl | rfl | rfl | rfl | rfl | rfl : k = 0 ∨ k = 1 ∨ k = 2 ∨ k = 3 ∨ k = 4 ∨ k = 5 := by omega
  all_goals
    simp [Instr.index, run_underlying Try.underlying83, asIntOf, hs 0, go_sem, bAt]
set_option maxRecDepth 100000 in
set_option maxHeartbeats 1000000 in
theorem judge_any (b0 b1 b2 b3 b4 b5 : Bool) (w : World) :
    Calls Try.prog 37 #[.agg #[.bool b0, .bool b1, .bool b2, .bool b3, .bool b4, .bool b5]] w fun e W' => e = .returned (.int .i64 (judgeI b0 b1 b2 b3 b4 b5)) ∧ Below w.heap.size w W' := by
  have kB := Blk.new w 83 [.bool b0, .bool b1, .bool b2, .bool b3, .bool b4, .bool b5]
  have hB := chain0 w (.cells #[.bool b0, .bool b1, .bool b2, .bool b3, .bool b4, .bool b5] 83)
  obtain ⟨c0, c1, c2, c3, c4, c5⟩ := Blk.c6 kB
  have HJ : Hid (∀ (j : Nat), j < 6 → ∀ W, (Instr.index 83 (.agg #[.bool b0, .bool b1, .bool b2, .bool b3, .bool b4, .bool b5]) (.int .i64 j)).run Try.prog W = .ok (.bool (bAt b0 b1 b2 b3 b4 b5 j)) W) := Lib.hid fun j hj W => idx_rules b0 b1 b2 b3 b4 b5 W hj
  have HA1 := Lib.hid (fun h => judge_all (b0 := b0) (b1 := b1) (b2 := b2) (b3 := b3) (b4 := b4) (b5 := b5) h)
  have HA2 := Lib.hid (fun j hj h => judge_not (b0 := b0) (b1 := b1) (b2 := b2) (b3 := b3) (b4 := b4) (b5 := b5) (j := j) hj h)
  generalize bAt b0 b1 b2 b3 b4 b5 = f at *
  go_enter Try.func37, Try.ntmps37
  go_wp2_with fail
  clear c0 c1 c2 c3 c4 c5 kB
  go_loopw [6] (fun n wr => ∃ k : Nat, k ≤ 6 ∧ n = .int .i64 k ∧ (∀ j, j < k → f j = true) ∧ Below w.heap.size w wr) (fun n _ => 6 - (intOf n).toNat)
  case atStart => exact ⟨0, by omega, rfl, fun j hj => absurd hj (by omega), hB⟩
  case round =>
    clear hB
    obtain ⟨k, hk, rfl, hall, hB⟩ := hrel
    have HA := Lib.hid hall
    clear hall
    by_cases hlt : k < 6
    · have hlt' : (k : Int) < 6 := by omega
      have HI := Lib.hid (fun W => HJ.out k hlt W)
      by_cases hb : f k = true
      · have HN : Hid (∀ j, j < k + 1 → f j = true) := Lib.hid fun j hj => by
          by_cases hjk : j < k
          · exact HA.out j hjk
          · obtain rfl : j = k := by omega
            exact hb
        rw [hb] at HI
        clear hb HA
        go_wp2_with (refine wpList_indexTo rfl 83 (.tmp 5) (.tmp 6) rfl (some 8) rfl _ (HI.out _) ?_)
        go_roundw
        case rel => exact ⟨k + 1, by omega, by go_num, HN.out, hB⟩
        case measure => simp [intOf]; omega
      · replace hb : f k = false := by simpa using hb
        have HX := Lib.hid (HA2.out k hlt hb)
        rw [hb] at HI
        clear hb HA
        go_wp2_with (refine wpList_indexTo rfl 83 (.tmp 5) (.tmp 6) rfl (some 8) rfl _ (HI.out _) ?_)
        go_ret
        exact ⟨by rw [HX.out]; rfl, hB⟩
    · obtain rfl : k = 6 := by omega
      go_wp2
      go_ret
      exact ⟨by rw [HA1.out HA.out]; rfl, hB⟩

theorem errA_judge {a : Ak} {z : Bool} (hz : z = true ↔ zw a.a0 a.a1 a.a2 a.a3) :
    judgeI (inB a.us 0 1) (inB a.se 0 1) (inB a.re 0 1) (inB a.to 0 7) (!z) (inB a.id.size 1 16) = errA a := by
  unfold judgeI errA
  congr 1
  simp only [inB, decide_eq_true_eq, maybeA, Bool.not_eq_true', eq_iff_iff]
  have e : (z = false) ↔ ¬ zw a.a0 a.a1 a.a2 a.a3 := by rw [← hz]; simp
  rw [e]
  constructor
  · rintro ⟨h0, h1, h2, h3, h4, h5⟩
    exact ⟨h0, h1, h2, h3, h4, by omega, by omega⟩
  · rintro ⟨h0, h1, h2, h3, h4, h5, h6⟩
    exact ⟨h0, h1, h2, h3, h4, by omega, by omega⟩
theorem zw_eq (a0 a1 a2 a3 : Nat) : (wEq a0 a1 a2 a3 0 0 0 0 = true ↔ zw a0 a1 a2 a3) := by
  unfold wEq zw; rw [decide_eq_true_eq]; omega

set_option maxRecDepth 100000 in
set_option maxHeartbeats 2000000 in
theorem checkAsk_any (a : Ak) (w : World) :
    Calls Try.prog 16 #[akv a] w fun e W' => e = .returned (.int .i64 (errA a)) ∧ Below w.heap.size w W' := by
  have hmx : Try.prog.follows .mixedOrders = true := by kernel_rfl
  have HE := Lib.hid (errA_judge (a := a) (zw_eq a.a0 a.a1 a.a2 a.a3))
  have hweq := @run_equalIn_wide
  generalize hz : wEq (a.a0 : Nat) (a.a1 : Nat) (a.a2 : Nat) (a.a3 : Nat) 0 0 0 0 = z at *
  have kB := Blk.new w 26 (akc a)
  have hB := chain0 w (.cells (akc a).toArray 26)
  go_enter Try.func16, Try.ntmps16
  go_wp2_with fail
  refine wp_region_held_drew (S := fun W => Blk W w.heap.size 26 (akc a)) hmx kB ?_
  intro hS
  replace hB := hB.drew
  clear kB
  generalize World.drew _ = Y at *
  refine' wpAnyH_take (i := 0) (oi := _) (v := _) ?hi1 (by kernel_rfl) (by kernel_rfl) (by kernel_rfl) ?hQ1 (Or.inl ⟨?hw1, ?hy1⟩) hS ?rest1
  case hi1 => simp only [List.getElem?_toArray, List.getElem?_cons_zero]; rfl
  case hQ1 => exact fun _ _ _ h => h
  case hw1 => rfl
  case hy1 => intro W' hS'; go_simp; with_reducible rfl
  try simp only [Act.put, List.setIfInBounds_toArray, List.set_cons_zero, List.set_cons_succ]
  refine' wpAnyH_take (i := 1) (oi := _) (v := _) ?hi2 (by kernel_rfl) (by kernel_rfl) (by kernel_rfl) ?hQ2 (Or.inl ⟨?hw2, ?hy2⟩) hS ?rest2
  case hi2 => simp only [List.getElem?_toArray, List.getElem?_cons_succ, List.getElem?_cons_zero]; rfl
  case hQ2 => exact fun _ _ _ h => h
  case hw2 => rfl
  case hy2 => intro W' hS'; obtain ⟨c0, c1, c2, c3, c4, c5, c6, c7, c8⟩ := Blk.c9 hS'; go_simp; with_reducible rfl
  try simp only [Act.put, List.setIfInBounds_toArray, List.set_cons_zero, List.set_cons_succ]
  refine' wpAnyH_take (i := 3) (oi := _) (v := _) ?hi3 (by kernel_rfl) (by kernel_rfl) (by kernel_rfl) ?hQ3 (Or.inl ⟨?hw3, ?hy3⟩) hS ?rest3
  case hi3 => simp only [List.getElem?_toArray, List.getElem?_cons_succ, List.getElem?_cons_zero]; rfl
  case hQ3 => exact fun _ _ _ h => h
  case hw3 => rfl
  case hy3 => intro W' hS'; go_simp; with_reducible rfl
  try simp only [Act.put, List.setIfInBounds_toArray, List.set_cons_zero, List.set_cons_succ]
  refine' wpAnyH_take (i := 4) (oi := _) (v := _) ?hi4 (by kernel_rfl) (by kernel_rfl) (by kernel_rfl) ?hQ4 (Or.inl ⟨?hw4, ?hy4⟩) hS ?rest4
  case hi4 => simp only [List.getElem?_toArray, List.getElem?_cons_succ, List.getElem?_cons_zero]; rfl
  case hQ4 => exact fun _ _ _ h => h
  case hw4 => rfl
  case hy4 => intro W' hS'; obtain ⟨c0, c1, c2, c3, c4, c5, c6, c7, c8⟩ := Blk.c9 hS'; go_simp; with_reducible rfl
  try simp only [Act.put, List.setIfInBounds_toArray, List.set_cons_zero, List.set_cons_succ]
  refine' wpAnyH_take (i := 6) (oi := _) (v := _) ?hi5 (by kernel_rfl) (by kernel_rfl) (by kernel_rfl) ?hQ5 (Or.inl ⟨?hw5, ?hy5⟩) hS ?rest5
  case hi5 => simp only [List.getElem?_toArray, List.getElem?_cons_succ, List.getElem?_cons_zero]; rfl
  case hQ5 => exact fun _ _ _ h => h
  case hw5 => rfl
  case hy5 => intro W' hS'; go_simp; with_reducible rfl
  try simp only [Act.put, List.setIfInBounds_toArray, List.set_cons_zero, List.set_cons_succ]
  refine' wpAnyH_take (i := 7) (oi := _) (v := _) ?hi6 (by kernel_rfl) (by kernel_rfl) (by kernel_rfl) ?hQ6 (Or.inl ⟨?hw6, ?hy6⟩) hS ?rest6
  case hi6 => simp only [List.getElem?_toArray, List.getElem?_cons_succ, List.getElem?_cons_zero]; rfl
  case hQ6 => exact fun _ _ _ h => h
  case hw6 => rfl
  case hy6 => intro W' hS'; obtain ⟨c0, c1, c2, c3, c4, c5, c6, c7, c8⟩ := Blk.c9 hS'; go_simp; with_reducible rfl
  try simp only [Act.put, List.setIfInBounds_toArray, List.set_cons_zero, List.set_cons_succ]
  refine' wpAnyH_take (i := 9) (oi := _) (v := _) ?hi7 (by kernel_rfl) (by kernel_rfl) (by kernel_rfl) ?hQ7 (Or.inl ⟨?hw7, ?hy7⟩) hS ?rest7
  case hi7 => simp only [List.getElem?_toArray, List.getElem?_cons_succ, List.getElem?_cons_zero]; rfl
  case hQ7 => exact fun _ _ _ h => h
  case hw7 => rfl
  case hy7 => intro W' hS'; go_simp; with_reducible rfl
  try simp only [Act.put, List.setIfInBounds_toArray, List.set_cons_zero, List.set_cons_succ]
  refine' wpAnyH_take (i := 10) (oi := _) (v := _) ?hi8 (by kernel_rfl) (by kernel_rfl) (by kernel_rfl) ?hQ8 (Or.inl ⟨?hw8, ?hy8⟩) hS ?rest8
  case hi8 => simp only [List.getElem?_toArray, List.getElem?_cons_succ, List.getElem?_cons_zero]; rfl
  case hQ8 => exact fun _ _ _ h => h
  case hw8 => rfl
  case hy8 => intro W' hS'; obtain ⟨c0, c1, c2, c3, c4, c5, c6, c7, c8⟩ := Blk.c9 hS'; go_simp; with_reducible rfl
  try simp only [Act.put, List.setIfInBounds_toArray, List.set_cons_zero, List.set_cons_succ]
  refine' wpAnyH_take (i := 12) (oi := _) (v := _) ?hi9 (by kernel_rfl) (by kernel_rfl) (by kernel_rfl) ?hQ9 (Or.inl ⟨?hw9, ?hy9⟩) hS ?rest9
  case hi9 => simp only [List.getElem?_toArray, List.getElem?_cons_succ, List.getElem?_cons_zero]; rfl
  case hQ9 => exact fun _ _ _ h => h
  case hw9 => rfl
  case hy9 => intro W' hS'; go_simp; with_reducible rfl
  try simp only [Act.put, List.setIfInBounds_toArray, List.set_cons_zero, List.set_cons_succ]
  refine' wpAnyH_take (i := 13) (oi := _) (v := _) ?hi10 (by kernel_rfl) (by kernel_rfl) (by kernel_rfl) ?hQ10 (Or.inl ⟨?hw10, ?hy10⟩) hS ?rest10
  case hi10 => simp only [List.getElem?_toArray, List.getElem?_cons_succ, List.getElem?_cons_zero]; rfl
  case hQ10 => exact fun _ _ _ h => h
  case hw10 => rfl
  case hy10 => intro W' hS'; obtain ⟨c0, c1, c2, c3, c4, c5, c6, c7, c8⟩ := Blk.c9 hS'; go_simp; with_reducible rfl
  try simp only [Act.put, List.setIfInBounds_toArray, List.set_cons_zero, List.set_cons_succ]
  refine' wpAnyH_take (i := 14) (oi := _) (v := _) ?hi11 (by kernel_rfl) (by kernel_rfl) (by kernel_rfl) ?hQ11 (Or.inl ⟨?hw11, ?hy11⟩) hS ?rest11
  case hi11 => simp only [List.getElem?_toArray, List.getElem?_cons_succ, List.getElem?_cons_zero]; rfl
  case hQ11 => exact fun _ _ _ h => h
  case hw11 => rfl
  case hy11 => intro W' hS'; go_simp; with_reducible rfl
  try simp only [Act.put, List.setIfInBounds_toArray, List.set_cons_zero, List.set_cons_succ]
  refine' wpAnyH_take (i := 15) (oi := _) (v := _) ?hi12 (by kernel_rfl) (by kernel_rfl) (by kernel_rfl) ?hQ12 (Or.inl ⟨?hw12, ?hy12⟩) hS ?rest12
  case hi12 => simp only [List.getElem?_toArray, List.getElem?_cons_succ, List.getElem?_cons_zero]; rfl
  case hQ12 => exact fun _ _ _ h => h
  case hw12 => rfl
  case hy12 => intro W' hS'; go_simp; with_reducible rfl
  try simp only [Act.put, List.setIfInBounds_toArray, List.set_cons_zero, List.set_cons_succ]
  refine' wpAnyH_take (i := 16) (oi := _) (v := _) ?hi13 (by kernel_rfl) (by kernel_rfl) (by kernel_rfl) ?hQ13 (Or.inl ⟨?hw13, ?hy13⟩) hS ?rest13
  case hi13 => simp only [List.getElem?_toArray, List.getElem?_cons_succ, List.getElem?_cons_zero]; rfl
  case hQ13 => exact fun _ _ _ h => h
  case hw13 => rfl
  case hy13 => intro W' hS'; go_simp; with_reducible rfl
  try simp only [Act.put, List.setIfInBounds_toArray, List.set_cons_zero, List.set_cons_succ]
  refine' wpAnyH_take (i := 17) (oi := _) (v := _) ?hi14 (by kernel_rfl) (by kernel_rfl) (by kernel_rfl) ?hQ14 (Or.inl ⟨?hw14, ?hy14⟩) hS ?rest14
  case hi14 => simp only [List.getElem?_toArray, List.getElem?_cons_succ, List.getElem?_cons_zero]; rfl
  case hQ14 => exact fun _ _ _ h => h
  case hw14 => rfl
  case hy14 => intro W' hS'; obtain ⟨c0, c1, c2, c3, c4, c5, c6, c7, c8⟩ := Blk.c9 hS'; go_simp; with_reducible rfl
  try simp only [Act.put, List.setIfInBounds_toArray, List.set_cons_zero, List.set_cons_succ]
  refine' wpAnyH_take (i := 18) (oi := _) (v := _) ?hi15 (by kernel_rfl) (by kernel_rfl) (by kernel_rfl) ?hQ15 (Or.inl ⟨?hw15, ?hy15⟩) hS ?rest15
  case hi15 => simp only [List.getElem?_toArray, List.getElem?_cons_succ, List.getElem?_cons_zero]; rfl
  case hQ15 => exact fun _ _ _ h => h
  case hw15 => rfl
  case hy15 => intro W' hS'; go_simp; with_reducible rfl
  try simp only [Act.put, List.setIfInBounds_toArray, List.set_cons_zero, List.set_cons_succ]
  refine wpAnyH_ready (rs := [2]) (by kernel_rfl) (by simp) ?_
  refine' AllReadyH.cons (o := _) ?ho16 (fun K hK => ?st16) AllReadyH.nil
  case ho16 => simp only [List.getElem?_toArray, List.getElem?_cons_succ, List.getElem?_cons_zero]; rfl
  case st16 =>
    go_simp
    refine (within_any a.us 0 1 _).mono ?_
    rintro e Y1 ⟨rfl, rfl⟩
    refine hK.out _ _ hS (fun hS => ?_)
    clear hK K
    try simp only [Act.put, List.setIfInBounds_toArray, List.set_cons_zero, List.set_cons_succ]
    refine wpAnyH_ready (rs := [5]) (by kernel_rfl) (by simp) ?_
    refine' AllReadyH.cons (o := _) ?ho17 (fun K hK => ?st17) AllReadyH.nil
    case ho17 => simp only [List.getElem?_toArray, List.getElem?_cons_succ, List.getElem?_cons_zero]; rfl
    case st17 =>
      go_simp
      refine (within_any a.se 0 1 _).mono ?_
      rintro e Y1 ⟨rfl, rfl⟩
      refine hK.out _ _ hS (fun hS => ?_)
      clear hK K
      try simp only [Act.put, List.setIfInBounds_toArray, List.set_cons_zero, List.set_cons_succ]
      refine wpAnyH_ready (rs := [8]) (by kernel_rfl) (by simp) ?_
      refine' AllReadyH.cons (o := _) ?ho18 (fun K hK => ?st18) AllReadyH.nil
      case ho18 => simp only [List.getElem?_toArray, List.getElem?_cons_succ, List.getElem?_cons_zero]; rfl
      case st18 =>
        go_simp
        refine (within_any a.re 0 1 _).mono ?_
        rintro e Y1 ⟨rfl, rfl⟩
        refine hK.out _ _ hS (fun hS => ?_)
        clear hK K
        try simp only [Act.put, List.setIfInBounds_toArray, List.set_cons_zero, List.set_cons_succ]
        refine wpAnyH_ready (rs := [11]) (by kernel_rfl) (by simp) ?_
        refine' AllReadyH.cons (o := _) ?ho19 (fun K hK => ?st19) AllReadyH.nil
        case ho19 => simp only [List.getElem?_toArray, List.getElem?_cons_succ, List.getElem?_cons_zero]; rfl
        case st19 =>
          go_simp
          refine (within_any a.to 0 7 _).mono ?_
          rintro e Y1 ⟨rfl, rfl⟩
          refine hK.out _ _ hS (fun hS => ?_)
          clear hK K
          try simp only [Act.put, List.setIfInBounds_toArray, List.set_cons_zero, List.set_cons_succ]
          refine wpAnyH_ready (rs := [19]) (by kernel_rfl) (by simp) ?_
          refine' AllReadyH.cons (o := _) ?ho20 (fun K hK => ?st20) AllReadyH.nil
          case ho20 => simp only [List.getElem?_toArray, List.getElem?_cons_succ, List.getElem?_cons_zero]; rfl
          case st20 =>
            go_simp
            refine (within_any a.id.size 1 16 _).mono ?_
            rintro e Y1 ⟨rfl, rfl⟩
            refine hK.out _ _ hS (fun hS => ?_)
            clear hK K
            try simp only [Act.put, List.setIfInBounds_toArray, List.set_cons_zero, List.set_cons_succ]
            refine' wpAnyH_take (i := 20) (oi := _) (v := _) ?hi21 (by kernel_rfl) (by kernel_rfl) (by kernel_rfl) ?hQ21 (Or.inl ⟨?hw21, ?hy21⟩) hS ?rest21
            case hi21 => simp only [List.getElem?_toArray, List.getElem?_cons_succ, List.getElem?_cons_zero]; rfl
            case hQ21 => exact fun _ _ _ h => h
            case hw21 => rfl
            case hy21 => intro W' hS'; go_simp; with_reducible rfl
            try simp only [Act.put, List.setIfInBounds_toArray, List.set_cons_zero, List.set_cons_succ]
            refine wpAnyH_ready (rs := [21]) (by kernel_rfl) (by simp) ?_
            refine' AllReadyH.cons (o := _) ?ho22 (fun K hK => ?st22) AllReadyH.nil
            case ho22 => simp only [List.getElem?_toArray, List.getElem?_cons_succ, List.getElem?_cons_zero]; rfl
            case st22 =>
              go_simp
              refine (judge_any _ _ _ _ _ _ _).mono ?_
              rintro e Y1 ⟨rfl, hb⟩
              refine hK.out _ _ (hS.below hb hS.lt) (fun hS => ?_)
              clear hK K
              try simp only [Act.put, List.setIfInBounds_toArray, List.set_cons_zero, List.set_cons_succ]
              replace hB := chain hB hb
              clear hb
              refine' wpAnyH_take (i := 22) (oi := _) (v := _) ?hi23 (by kernel_rfl) (by kernel_rfl) (by kernel_rfl) ?hQ23 (Or.inl ⟨?hw23, ?hy23⟩) hS ?rest23
              case hi23 => simp only [List.getElem?_toArray, List.getElem?_cons_succ, List.getElem?_cons_zero]; rfl
              case hQ23 => exact fun _ _ _ h => h
              case hw23 => rfl
              case hy23 => intro W' hS'; go_simp; with_reducible rfl
              try simp only [Act.put, List.setIfInBounds_toArray, List.set_cons_zero, List.set_cons_succ]
              refine wpAnyH_done (by kernel_rfl) ?_ _
              go_wp2_with fail
              go_ret
              exact ⟨by rw [HE.out]; rfl, hB⟩

theorem errB_judge {b : Bd} {z : Bool} (hz : z = true ↔ zw b.b0 b.b1 b.b2 b.b3) :
    judgeI (inB b.ro 2 3) (errA b.k == 0) (!z) (decide (cmpN (val b.b0 b.b1 b.b2 b.b3) (val b.k.a0 b.k.a1 b.k.a2 b.k.a3) ≤ 0)) (inB b.un 0 1099511627776) (decide ((b.sg.size : Int) ≤ 1024)) = errB b := by
  unfold judgeI errB
  congr 1
  have e : (z = false) ↔ ¬ zw b.b0 b.b1 b.b2 b.b3 := by rw [← hz]; simp
  have e2 : cmpN (val b.b0 b.b1 b.b2 b.b3) (val b.k.a0 b.k.a1 b.k.a2 b.k.a3) ≤ 0 ↔ val b.b0 b.b1 b.b2 b.b3 ≤ val b.k.a0 b.k.a1 b.k.a2 b.k.a3 := by
    unfold cmpN; split
    · omega
    · split <;> omega
  have e3 : (errA b.k == 0) = true ↔ maybeA b.k := by
    unfold errA; split <;> simp_all
  simp only [inB, decide_eq_true_eq, maybeB, Bool.not_eq_true', eq_iff_iff, e, e2, e3]
  constructor
  · rintro ⟨h0, h1, h2, h3, h4, h5⟩
    exact ⟨h0, h1, h2, h3, h4, by omega⟩
  · rintro ⟨h0, h1, h2, h3, h4, h5⟩
    exact ⟨h0, h1, h2, h3, h4, by omega⟩

set_option maxRecDepth 100000 in
set_option maxHeartbeats 4000000 in
theorem check_any (b : Bd) (hb4 : OkB b) (w : World) :
    Calls Try.prog 19 #[bdv b] w fun e W' => e = .returned (.int .i64 (errB b)) ∧ Below w.heap.size w W' := by
  have hmx : Try.prog.follows .mixedOrders = true := by kernel_rfl
  have HE := Lib.hid (errB_judge (b := b) (zw_eq b.b0 b.b1 b.b2 b.b3))
  have HC := Lib.hid (checkAsk_any b.k)
  have HV := Lib.hid (fun W => cmp_any hb4.b hb4.k W)
  have hweq := @run_equalIn_wide
  generalize hz : wEq (b.b0 : Nat) (b.b1 : Nat) (b.b2 : Nat) (b.b3 : Nat) 0 0 0 0 = z at *
  generalize errA b.k = ea at *
  generalize cmpN _ _ = cn at *
  have kB := Blk.new w 51 (bdc b)
  have hB := chain0 w (.cells (bdc b).toArray 51)
  go_enter Try.func19, Try.ntmps19
  go_wp2_with fail
  refine wp_region_held_drew (S := fun W => Blk W w.heap.size 51 (bdc b)) hmx kB ?_
  intro hS
  replace hB := hB.drew
  clear kB
  generalize World.drew _ = Y at *
  refine' wpAnyH_take (i := 0) (oi := _) (v := _) ?hi24 (by kernel_rfl) (by kernel_rfl) (by kernel_rfl) ?hQ24 (Or.inl ⟨?hw24, ?hy24⟩) hS ?rest24
  case hi24 => simp only [List.getElem?_toArray, List.getElem?_cons_zero]; rfl
  case hQ24 => exact fun _ _ _ h => h
  case hw24 => rfl
  case hy24 => intro W' hS'; go_simp; with_reducible rfl
  try simp only [Act.put, List.setIfInBounds_toArray, List.set_cons_zero, List.set_cons_succ]
  refine' wpAnyH_take (i := 1) (oi := _) (v := _) ?hi25 (by kernel_rfl) (by kernel_rfl) (by kernel_rfl) ?hQ25 (Or.inl ⟨?hw25, ?hy25⟩) hS ?rest25
  case hi25 => simp only [List.getElem?_toArray, List.getElem?_cons_succ, List.getElem?_cons_zero]; rfl
  case hQ25 => exact fun _ _ _ h => h
  case hw25 => rfl
  case hy25 => intro W' hS'; obtain ⟨c0, c1, c2, c3, c4, c5, c6, c7, c8, c9, c10, c11, c12, c13, c14, c15⟩ := Blk.c16 hS'; go_simp; with_reducible rfl
  try simp only [Act.put, List.setIfInBounds_toArray, List.set_cons_zero, List.set_cons_succ]
  refine' wpAnyH_take (i := 3) (oi := _) (v := _) ?hi26 (by kernel_rfl) (by kernel_rfl) (by kernel_rfl) ?hQ26 (Or.inl ⟨?hw26, ?hy26⟩) hS ?rest26
  case hi26 => simp only [List.getElem?_toArray, List.getElem?_cons_succ, List.getElem?_cons_zero]; rfl
  case hQ26 => exact fun _ _ _ h => h
  case hw26 => rfl
  case hy26 => intro W' hS'; go_simp; with_reducible rfl
  try simp only [Act.put, List.setIfInBounds_toArray, List.set_cons_zero, List.set_cons_succ]
  refine' wpAnyH_take (i := 4) (oi := _) (v := _) ?hi27 (by kernel_rfl) (by kernel_rfl) (by kernel_rfl) ?hQ27 (Or.inl ⟨?hw27, ?hy27⟩) hS ?rest27
  case hi27 => simp only [List.getElem?_toArray, List.getElem?_cons_succ, List.getElem?_cons_zero]; rfl
  case hQ27 => exact fun _ _ _ h => h
  case hw27 => rfl
  case hy27 => intro W' hS'; obtain ⟨c0, c1, c2, c3, c4, c5, c6, c7, c8, c9, c10, c11, c12, c13, c14, c15⟩ := Blk.c16 hS'; go_simp; with_reducible rfl
  try simp only [Act.put, List.setIfInBounds_toArray, List.set_cons_zero, List.set_cons_succ]
  refine' wpAnyH_take (i := 7) (oi := _) (v := _) ?hi28 (by kernel_rfl) (by kernel_rfl) (by kernel_rfl) ?hQ28 (Or.inl ⟨?hw28, ?hy28⟩) hS ?rest28
  case hi28 => simp only [List.getElem?_toArray, List.getElem?_cons_succ, List.getElem?_cons_zero]; rfl
  case hQ28 => exact fun _ _ _ h => h
  case hw28 => rfl
  case hy28 => intro W' hS'; go_simp; with_reducible rfl
  try simp only [Act.put, List.setIfInBounds_toArray, List.set_cons_zero, List.set_cons_succ]
  refine' wpAnyH_take (i := 8) (oi := _) (v := _) ?hi29 (by kernel_rfl) (by kernel_rfl) (by kernel_rfl) ?hQ29 (Or.inl ⟨?hw29, ?hy29⟩) hS ?rest29
  case hi29 => simp only [List.getElem?_toArray, List.getElem?_cons_succ, List.getElem?_cons_zero]; rfl
  case hQ29 => exact fun _ _ _ h => h
  case hw29 => rfl
  case hy29 => intro W' hS'; obtain ⟨c0, c1, c2, c3, c4, c5, c6, c7, c8, c9, c10, c11, c12, c13, c14, c15⟩ := Blk.c16 hS'; go_simp; with_reducible rfl
  try simp only [Act.put, List.setIfInBounds_toArray, List.set_cons_zero, List.set_cons_succ]
  refine' wpAnyH_take (i := 9) (oi := _) (v := _) ?hi30 (by kernel_rfl) (by kernel_rfl) (by kernel_rfl) ?hQ30 (Or.inl ⟨?hw30, ?hy30⟩) hS ?rest30
  case hi30 => simp only [List.getElem?_toArray, List.getElem?_cons_succ, List.getElem?_cons_zero]; rfl
  case hQ30 => exact fun _ _ _ h => h
  case hw30 => rfl
  case hy30 => intro W' hS'; go_simp; with_reducible rfl
  try simp only [Act.put, List.setIfInBounds_toArray, List.set_cons_zero, List.set_cons_succ]
  refine' wpAnyH_take (i := 10) (oi := _) (v := _) ?hi31 (by kernel_rfl) (by kernel_rfl) (by kernel_rfl) ?hQ31 (Or.inl ⟨?hw31, ?hy31⟩) hS ?rest31
  case hi31 => simp only [List.getElem?_toArray, List.getElem?_cons_succ, List.getElem?_cons_zero]; rfl
  case hQ31 => exact fun _ _ _ h => h
  case hw31 => rfl
  case hy31 => intro W' hS'; go_simp; with_reducible rfl
  try simp only [Act.put, List.setIfInBounds_toArray, List.set_cons_zero, List.set_cons_succ]
  refine' wpAnyH_take (i := 11) (oi := _) (v := _) ?hi32 (by kernel_rfl) (by kernel_rfl) (by kernel_rfl) ?hQ32 (Or.inl ⟨?hw32, ?hy32⟩) hS ?rest32
  case hi32 => simp only [List.getElem?_toArray, List.getElem?_cons_succ, List.getElem?_cons_zero]; rfl
  case hQ32 => exact fun _ _ _ h => h
  case hw32 => rfl
  case hy32 => intro W' hS'; go_simp; with_reducible rfl
  try simp only [Act.put, List.setIfInBounds_toArray, List.set_cons_zero, List.set_cons_succ]
  refine' wpAnyH_take (i := 12) (oi := _) (v := _) ?hi33 (by kernel_rfl) (by kernel_rfl) (by kernel_rfl) ?hQ33 (Or.inl ⟨?hw33, ?hy33⟩) hS ?rest33
  case hi33 => simp only [List.getElem?_toArray, List.getElem?_cons_succ, List.getElem?_cons_zero]; rfl
  case hQ33 => exact fun _ _ _ h => h
  case hw33 => rfl
  case hy33 => intro W' hS'; obtain ⟨c0, c1, c2, c3, c4, c5, c6, c7, c8, c9, c10, c11, c12, c13, c14, c15⟩ := Blk.c16 hS'; go_simp; with_reducible rfl
  try simp only [Act.put, List.setIfInBounds_toArray, List.set_cons_zero, List.set_cons_succ]
  refine' wpAnyH_take (i := 13) (oi := _) (v := _) ?hi34 (by kernel_rfl) (by kernel_rfl) (by kernel_rfl) ?hQ34 (Or.inl ⟨?hw34, ?hy34⟩) hS ?rest34
  case hi34 => simp only [List.getElem?_toArray, List.getElem?_cons_succ, List.getElem?_cons_zero]; rfl
  case hQ34 => exact fun _ _ _ h => h
  case hw34 => rfl
  case hy34 => intro W' hS'; go_simp; with_reducible rfl
  try simp only [Act.put, List.setIfInBounds_toArray, List.set_cons_zero, List.set_cons_succ]
  refine' wpAnyH_take (i := 14) (oi := _) (v := _) ?hi35 (by kernel_rfl) (by kernel_rfl) (by kernel_rfl) ?hQ35 (Or.inl ⟨?hw35, ?hy35⟩) hS ?rest35
  case hi35 => simp only [List.getElem?_toArray, List.getElem?_cons_succ, List.getElem?_cons_zero]; rfl
  case hQ35 => exact fun _ _ _ h => h
  case hw35 => rfl
  case hy35 => intro W' hS'; go_simp; with_reducible rfl
  try simp only [Act.put, List.setIfInBounds_toArray, List.set_cons_zero, List.set_cons_succ]
  refine' wpAnyH_take (i := 15) (oi := _) (v := _) ?hi36 (by kernel_rfl) (by kernel_rfl) (by kernel_rfl) ?hQ36 (Or.inl ⟨?hw36, ?hy36⟩) hS ?rest36
  case hi36 => simp only [List.getElem?_toArray, List.getElem?_cons_succ, List.getElem?_cons_zero]; rfl
  case hQ36 => exact fun _ _ _ h => h
  case hw36 => rfl
  case hy36 => intro W' hS'; obtain ⟨c0, c1, c2, c3, c4, c5, c6, c7, c8, c9, c10, c11, c12, c13, c14, c15⟩ := Blk.c16 hS'; go_simp; with_reducible rfl
  try simp only [Act.put, List.setIfInBounds_toArray, List.set_cons_zero, List.set_cons_succ]
  refine' wpAnyH_take (i := 18) (oi := _) (v := _) ?hi37 (by kernel_rfl) (by kernel_rfl) (by kernel_rfl) ?hQ37 (Or.inl ⟨?hw37, ?hy37⟩) hS ?rest37
  case hi37 => simp only [List.getElem?_toArray, List.getElem?_cons_succ, List.getElem?_cons_zero]; rfl
  case hQ37 => exact fun _ _ _ h => h
  case hw37 => rfl
  case hy37 => intro W' hS'; go_simp; with_reducible rfl
  try simp only [Act.put, List.setIfInBounds_toArray, List.set_cons_zero, List.set_cons_succ]
  refine' wpAnyH_take (i := 19) (oi := _) (v := _) ?hi38 (by kernel_rfl) (by kernel_rfl) (by kernel_rfl) ?hQ38 (Or.inl ⟨?hw38, ?hy38⟩) hS ?rest38
  case hi38 => simp only [List.getElem?_toArray, List.getElem?_cons_succ, List.getElem?_cons_zero]; rfl
  case hQ38 => exact fun _ _ _ h => h
  case hw38 => rfl
  case hy38 => intro W' hS'; obtain ⟨c0, c1, c2, c3, c4, c5, c6, c7, c8, c9, c10, c11, c12, c13, c14, c15⟩ := Blk.c16 hS'; go_simp; with_reducible rfl
  try simp only [Act.put, List.setIfInBounds_toArray, List.set_cons_zero, List.set_cons_succ]
  refine' wpAnyH_take (i := 21) (oi := _) (v := _) ?hi39 (by kernel_rfl) (by kernel_rfl) (by kernel_rfl) ?hQ39 (Or.inl ⟨?hw39, ?hy39⟩) hS ?rest39
  case hi39 => simp only [List.getElem?_toArray, List.getElem?_cons_succ, List.getElem?_cons_zero]; rfl
  case hQ39 => exact fun _ _ _ h => h
  case hw39 => rfl
  case hy39 => intro W' hS'; go_simp; with_reducible rfl
  try simp only [Act.put, List.setIfInBounds_toArray, List.set_cons_zero, List.set_cons_succ]
  refine' wpAnyH_take (i := 22) (oi := _) (v := _) ?hi40 (by kernel_rfl) (by kernel_rfl) (by kernel_rfl) ?hQ40 (Or.inl ⟨?hw40, ?hy40⟩) hS ?rest40
  case hi40 => simp only [List.getElem?_toArray, List.getElem?_cons_succ, List.getElem?_cons_zero]; rfl
  case hQ40 => exact fun _ _ _ h => h
  case hw40 => rfl
  case hy40 => intro W' hS'; obtain ⟨c0, c1, c2, c3, c4, c5, c6, c7, c8, c9, c10, c11, c12, c13, c14, c15⟩ := Blk.c16 hS'; go_simp; with_reducible rfl
  try simp only [Act.put, List.setIfInBounds_toArray, List.set_cons_zero, List.set_cons_succ]
  refine' wpAnyH_take (i := 23) (oi := _) (v := _) ?hi41 (by kernel_rfl) (by kernel_rfl) (by kernel_rfl) ?hQ41 (Or.inl ⟨?hw41, ?hy41⟩) hS ?rest41
  case hi41 => simp only [List.getElem?_toArray, List.getElem?_cons_succ, List.getElem?_cons_zero]; rfl
  case hQ41 => exact fun _ _ _ h => h
  case hw41 => rfl
  case hy41 => intro W' hS'; go_simp; with_reducible rfl
  try simp only [Act.put, List.setIfInBounds_toArray, List.set_cons_zero, List.set_cons_succ]
  refine' wpAnyH_take (i := 24) (oi := _) (v := _) ?hi42 (by kernel_rfl) (by kernel_rfl) (by kernel_rfl) ?hQ42 (Or.inl ⟨?hw42, ?hy42⟩) hS ?rest42
  case hi42 => simp only [List.getElem?_toArray, List.getElem?_cons_succ, List.getElem?_cons_zero]; rfl
  case hQ42 => exact fun _ _ _ h => h
  case hw42 => rfl
  case hy42 => intro W' hS'; go_simp; with_reducible rfl
  try simp only [Act.put, List.setIfInBounds_toArray, List.set_cons_zero, List.set_cons_succ]
  refine wpAnyH_ready (rs := [2]) (by kernel_rfl) (by simp) ?_
  refine' AllReadyH.cons (o := _) ?ho43 (fun K hK => ?st43) AllReadyH.nil
  case ho43 => simp only [List.getElem?_toArray, List.getElem?_cons_succ, List.getElem?_cons_zero]; rfl
  case st43 =>
    go_simp
    refine (within_any b.ro 2 3 _).mono ?_
    rintro e Y1 ⟨rfl, rfl⟩
    refine hK.out _ _ hS (fun hS => ?_)
    clear hK K
    try simp only [Act.put, List.setIfInBounds_toArray, List.set_cons_zero, List.set_cons_succ]
    refine wpAnyH_ready (rs := [5]) (by kernel_rfl) (by simp) ?_
    refine' AllReadyH.cons (o := _) ?ho44 (fun K hK => ?st44) AllReadyH.nil
    case ho44 => simp only [List.getElem?_toArray, List.getElem?_cons_succ, List.getElem?_cons_zero]; rfl
    case st44 =>
      go_simp
      refine (HC.out _).mono ?_
      rintro e Y1 ⟨rfl, hb⟩
      refine hK.out _ _ (hS.below hb hS.lt) (fun hS => ?_)
      clear hK K
      try simp only [Act.put, List.setIfInBounds_toArray, List.set_cons_zero, List.set_cons_succ]
      replace hB := chain hB hb
      clear hb
      refine' wpAnyH_take (i := 6) (oi := _) (v := _) ?hi45 (by kernel_rfl) (by kernel_rfl) (by kernel_rfl) ?hQ45 (Or.inl ⟨?hw45, ?hy45⟩) hS ?rest45
      case hi45 => simp only [List.getElem?_toArray, List.getElem?_cons_succ, List.getElem?_cons_zero]; rfl
      case hQ45 => exact fun _ _ _ h => h
      case hw45 => rfl
      case hy45 => intro W' hS'; go_simp; with_reducible rfl
      try simp only [Act.put, List.setIfInBounds_toArray, List.set_cons_zero, List.set_cons_succ]
      refine wpAnyH_ready (rs := [16]) (by kernel_rfl) (by simp) ?_
      refine' AllReadyH.cons (o := _) ?ho46 (fun K hK => ?st46) AllReadyH.nil
      case ho46 => simp only [List.getElem?_toArray, List.getElem?_cons_succ, List.getElem?_cons_zero]; rfl
      case st46 =>
        go_simp
        refine (HV.out _).mono ?_
        rintro e Y1 ⟨rfl, hb⟩
        refine hK.out _ _ (hS.below hb hS.lt) (fun hS => ?_)
        clear hK K
        try simp only [Act.put, List.setIfInBounds_toArray, List.set_cons_zero, List.set_cons_succ]
        replace hB := chain hB hb
        clear hb
        refine' wpAnyH_take (i := 17) (oi := _) (v := _) ?hi47 (by kernel_rfl) (by kernel_rfl) (by kernel_rfl) ?hQ47 (Or.inl ⟨?hw47, ?hy47⟩) hS ?rest47
        case hi47 => simp only [List.getElem?_toArray, List.getElem?_cons_succ, List.getElem?_cons_zero]; rfl
        case hQ47 => exact fun _ _ _ h => h
        case hw47 => rfl
        case hy47 => intro W' hS'; go_simp; with_reducible rfl
        try simp only [Act.put, List.setIfInBounds_toArray, List.set_cons_zero, List.set_cons_succ]
        refine wpAnyH_ready (rs := [20]) (by kernel_rfl) (by simp) ?_
        refine' AllReadyH.cons (o := _) ?ho48 (fun K hK => ?st48) AllReadyH.nil
        case ho48 => simp only [List.getElem?_toArray, List.getElem?_cons_succ, List.getElem?_cons_zero]; rfl
        case st48 =>
          go_simp
          refine (within_any b.un 0 1099511627776 _).mono ?_
          rintro e Y1 ⟨rfl, rfl⟩
          refine hK.out _ _ hS (fun hS => ?_)
          clear hK K
          try simp only [Act.put, List.setIfInBounds_toArray, List.set_cons_zero, List.set_cons_succ]
          refine' wpAnyH_take (i := 25) (oi := _) (v := _) ?hi49 (by kernel_rfl) (by kernel_rfl) (by kernel_rfl) ?hQ49 (Or.inl ⟨?hw49, ?hy49⟩) hS ?rest49
          case hi49 => simp only [List.getElem?_toArray, List.getElem?_cons_succ, List.getElem?_cons_zero]; rfl
          case hQ49 => exact fun _ _ _ h => h
          case hw49 => rfl
          case hy49 => intro W' hS'; go_simp; with_reducible rfl
          try simp only [Act.put, List.setIfInBounds_toArray, List.set_cons_zero, List.set_cons_succ]
          refine wpAnyH_ready (rs := [26]) (by kernel_rfl) (by simp) ?_
          refine' AllReadyH.cons (o := _) ?ho50 (fun K hK => ?st50) AllReadyH.nil
          case ho50 => simp only [List.getElem?_toArray, List.getElem?_cons_succ, List.getElem?_cons_zero]; rfl
          case st50 =>
            go_simp
            refine (judge_any _ _ _ _ _ _ _).mono ?_
            rintro e Y1 ⟨rfl, hb⟩
            refine hK.out _ _ (hS.below hb hS.lt) (fun hS => ?_)
            clear hK K
            try simp only [Act.put, List.setIfInBounds_toArray, List.set_cons_zero, List.set_cons_succ]
            replace hB := chain hB hb
            clear hb
            refine' wpAnyH_take (i := 27) (oi := _) (v := _) ?hi51 (by kernel_rfl) (by kernel_rfl) (by kernel_rfl) ?hQ51 (Or.inl ⟨?hw51, ?hy51⟩) hS ?rest51
            case hi51 => simp only [List.getElem?_toArray, List.getElem?_cons_succ, List.getElem?_cons_zero]; rfl
            case hQ51 => exact fun _ _ _ h => h
            case hw51 => rfl
            case hy51 => intro W' hS'; go_simp; with_reducible rfl
            try simp only [Act.put, List.setIfInBounds_toArray, List.set_cons_zero, List.set_cons_succ]
            refine wpAnyH_done (by kernel_rfl) ?_ _
            go_wp2_with fail
            go_ret
            exact ⟨by rw [HE.out]; rfl, hB⟩
end Go.Proofs.Ytiibeahgleaonaa
