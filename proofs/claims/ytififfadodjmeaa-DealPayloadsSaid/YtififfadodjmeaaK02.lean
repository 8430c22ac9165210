/-
  Two blocks that lie as they lay.
  slices.Backward over a number's four words: each with its place, the highest first.
  A region that draws its order, in a round of a range over a function: reads and quiet calls first, then stores in one order.
  blob.Wide: a wide number's octets.
  Fields as octets: what is written, and what is read, as plain functions; the state of an Out, or of an In: octets, and the first error.
  Appending a slice of octets, nil or not.
  slices.Clone of octets.
  slices.Values over octets: each.
  blob.Int: the number of the first seven octets at most.
-/
import Derived.RangeFuncCalls
import Derived.RangeFuncIn
import Derived.OrdersIn
import Derived.StillTail
import Derived.StillTailTactics
import Derived.WalkKit
import Derived.Laws.OwnMore
import Derived.WalkSpells
import Derived.Test.YtififfadodjmeaaK01
namespace Go.Proofs.Ytififfadodjmeaa
open Go.RowKit Go.Shelf

/-- Both blocks lie as they lay. -/
def KeepB2 (B B' : Nat) (W W' : World) : Prop := KeepB B W W' ∧ KeepB B' W W'
theorem KeepB2.t {B B' : Nat} {X Y Z : World} (h : KeepB2 B B' X Y) (k : KeepB2 B B' Y Z) : KeepB2 B B' X Z := ⟨h.1.t k.1, h.2.t k.2⟩
theorem KeepB2.b {B B' : Nat} {w : World} (hB : B < w.heap.size) (hB' : B' < w.heap.size) (W : World) (l : Nat) (o o' : Obj) (hl : w.heap.size ≤ l) (h1 : W.heap[l]? = some o) (h2 : o.isCells = false) (h3 : o.isWalk = false) : KeepB2 B B' W (W.putObj l o') :=
  ⟨KeepB.b hB W l o o' hl h1 h2 h3, KeepB.b hB' W l o o' hl h1 h2 h3⟩

end Go.Proofs.Ytififfadodjmeaa

namespace Go.Proofs.Ytififfadodjmeaa
open Go.RowKit Go.Shelf
attribute [local go_sem] Oper.semAt_some

theorem downs_at {a0 a1 a2 a3 : Nat} (ha : Ok4 a0 a1 a2 a3) {k : Nat} (hk : k < 4) : (downs ha)[k]? = some (pw (3 - k) (word a0 a1 a2 a3 (3 - k)) (by omega) (word_lt ha.h0 ha.h1 ha.h2 ha.h3 _)) := by
  have : k = 0 ∨ k = 1 ∨ k = 2 ∨ k = 3 := by omega
  rcases this with rfl | rfl | rfl | rfl <;> rfl
set_option maxRecDepth 100000 in
set_option maxHeartbeats 4000000 in
theorem backward1_stops (F : Fence) (m : Nat) (h : F.fn 96) (hro : F.round = none) (hm : 1 ≤ m) {a0 a1 a2 a3 : Nat} (ha : Ok4 a0 a1 a2 a3) (Ba Bs : Nat) (w : World) (hb : BlkW w Ba a0 a1 a2 a3) (hs : Boxed w Bs 132 (.slice (some ⟨Ba, 0, none⟩) 4 4)) :
    SeqStopsK F m Try.prog 96 #[.pointer (some ⟨Bs, 0, none⟩)] pwEnc (KeepB2 Ba Bs) (fun ys => ys = downs ha) (fun _ => True) 4 w := fun l J Jx W hW _ _ hY h0 => by
  have hb' : Blk W Ba 26 (ws (word a0 a1 a2 a3)) := hb.below hW hb.lt
  have hs' : Boxed W Bs 132 (.slice (some ⟨Ba, 0, none⟩) 4 4) := (hW.block Bs hs.lt).trans hs
  clear hb hs
  have hsc := hs'.cell
  refine callsIn_of_wp Try.func96 rfl h ?_ hro
  simp only [Try.ntmps96, List.size_toArray, List.length_cons, List.length_nil, Nat.reduceAdd, Nat.reduceSub, Array.replicate_succ, Array.replicate_zero, List.push_toArray, List.append_toArray, List.nil_append, List.cons_append]
  gi_wp2
  clear hsc
  gi_loopw [3] (fun i wr => ∃ k : Nat, k ≤ 4 ∧ i = .int .i64 (3 - (k : Int)) ∧ Blk wr Ba 26 (ws (word a0 a1 a2 a3)) ∧ Boxed wr Bs 132 (.slice (some ⟨Ba, 0, none⟩) 4 4) ∧ J ((downs ha).take k) wr) (fun i _ => ((intOf i) + 1).toNat)
  case atStart => exact ⟨0, by omega, rfl, hb', hs', h0⟩
  case round =>
    obtain ⟨k, hk, rfl, hbr, hsr, hJs⟩ := hrel
    by_cases hlt : k < 4
    · have hdk := downs_at ha hlt
      obtain ⟨fn, tmps, assign, body, hy, hR⟩ := hY _ (pw (3 - k) (word a0 a1 a2 a3 (3 - k)) (by omega) (word_lt ha.h0 ha.h1 ha.h2 ha.h3 _)) wr hJs (by simp [downs]; omega)
      have ht : (downs ha).take (k + 1) = (downs ha).take k ++ [pw (3 - k) (word a0 a1 a2 a3 (3 - k)) (by omega) (word_lt ha.h0 ha.h1 ha.h2 ha.h3 _)] := by rw [List.take_add_one, hdk]; rfl
      rw [← ht] at hR
      clear ht hdk
      have hcx := hbr.cell (3 - k)
      rw [ws_at _ (by omega)] at hcx
      have hp : (3 : Int) - k = ((3 - k : Nat) : Int) := by omega
      have hpl : 3 - k ≤ 3 := by omega
      change (Instr.yield l #[.int .i64 ((3 - k : Nat) : Int), .int .u64 ((word a0 a1 a2 a3 (3 - k) : Nat) : Int)]).run _ _ = _ at hy
      rw [hp]
      have HP := Lib.hid hp
      clear hp
      generalize word a0 a1 a2 a3 (3 - k) = x at *
      generalize 3 - k = p at *
      have hsc := hsr.cell
      gi_wp2
      refine hR.mono ?_
      clear hy
      rintro e W3 (⟨rfl, hJ3, hk3⟩ | ⟨rfl, hJx3⟩)
      · have hb3 : Blk W3 Ba 26 (ws (word a0 a1 a2 a3)) := hk3.1.trans hbr
        have hs3 : Boxed W3 Bs 132 (.slice (some ⟨Ba, 0, none⟩) 4 4) := hk3.2.trans hsr
        clear hcx hsc
        gi_wp2
        have hq : (3 : Int) - ((k + 1 : Nat) : Int) = (p : Int) - 1 := by have := HP.out; omega
        go_roundw
        case rel => exact ⟨k + 1, by omega, by rw [hq], hb3, hs3, hJ3⟩
        case measure => simp [intOf]
      · gi_wp2
        refine bodyPost_ret (results_none rfl _ _ _) rfl ?_
        exact ⟨⟨_, rfl⟩, .inr ⟨_, trivial, hJx3⟩⟩
    · obtain rfl : k = 4 := by omega
      gi_wp2
      go_end0
      exact ⟨⟨_, rfl⟩, .inl ⟨_, rfl, hJs⟩⟩

set_option maxHeartbeats 1000000 in
theorem backward_in (F : Fence) (m : Nat) (h : F.fn 82) (hro : F.round = none) (sv : Value) (hsv : ∃ a l c, sv = .slice a l c) (w : World) :
    CallsIn F m Try.prog 82 #[sv] w fun e w' => e = .returned (.func (.func 96) #[] #[.pointer (some ⟨w.heap.size, 0, none⟩)]) ∧ w' = w.alloc (.cells #[sv] 132) := by
  obtain ⟨a, l, c, rfl⟩ := hsv
  refine callsIn_of_wp Try.func82 rfl h ?_ hro
  simp only [Try.ntmps82, List.size_toArray, List.length_cons, List.length_nil, Nat.reduceAdd, Nat.reduceSub, Array.replicate_succ, Array.replicate_zero, List.push_toArray, List.append_toArray, List.nil_append, List.cons_append]
  gi_wp2
  go_ret
  exact ⟨rfl, rfl⟩

end Go.Proofs.Ytififfadodjmeaa

namespace Go.Proofs.Ytififfadodjmeaa
open Go.RowKit

variable {P : Program} {ops : Array Oper} {md : Region.Mode}

/-- No operation of these is a defer statement. -/
def noDefer (l : List Oper) : Bool := l.all fun o => match o.op with | .defer _ => false | _ => true
theorem noDefer_at {l : List Oper} (h : noDefer l = true) {i : Nat} {o : Oper} (ho : l[i]? = some o) (c : Call) : o.op ≠ .defer c := by
  intro e
  have := List.all_eq_true.1 h o (List.mem_of_getElem? ho)
  rw [e] at this
  cases this

theorem rowsIn_wide {n : Nat} {row : String} {args : Array Value} {w : World} {R : Value → World → Prop} (h : Go.Rows P row args w R) : RowsIn Fence.wide n P row args w R :=
  fun c cs _ => let ⟨v, w', r, s⟩ := h c cs; ⟨v, w', r, stepsIn_wide.2 s⟩

theorem Oper.wpIn_round {r n : Nat} {o : Oper} {a : Act} {w : World} {K : Act → World → Prop} {Q : Exit → Act → World → Prop} (hd : ∀ c, o.op ≠ .defer c) (h : o.wp P a w K Q) : o.wpIn (Fence.wide.inRound r) n P a w K Q := by
  refine ⟨fun _ _ => trivial, ?_⟩
  rw [Oper.semAt_eq _ _ _ hd]
  unfold Oper.wp at h
  generalize (execOp a.eval o).run P w = res at *
  cases res with
  | ok x w' =>
    cases x <;> simp only [Oper.upon, Oper.uponIn] at h ⊢ <;> first | exact h | exact ⟨fun e => (by cases e), (callsIn_wide (n := n - 1)).2 h⟩ | exact ⟨fun e => (by cases e), rowsIn_wide h⟩ | exact h.elim
  | halt x w' => cases x <;> simp only [Oper.upon, Oper.uponIn] at h ⊢ <;> exact h

theorem wpOpIn_round {r n : Nat} {l : List Oper} {Q : Exit → Act → World → Prop} {i : Nat} {K : Act → World → Prop} {a : Act} {w : World} (hd : noDefer l = true) (hq : ¬ LetsOut Q) (h : wpOp P l.toArray Q i K a w) :
    wpOpIn (Fence.wide.inRound r) n P l.toArray Q i K a w := by
  unfold wpOp at h
  unfold wpOpIn
  split
  · rename_i ho; simp only [ho] at h; exact h
  · rename_i o ho
    simp only [ho] at h
    split
    · rename_i hw; simp only [hw, if_true] at h
      exact Oper.wpIn_round (noDefer_at hd (by simpa using ho)) (h.resolve_right fun hh => hq hh.2)
    · rename_i hw; simp only [hw] at h; exact ⟨fun _ _ => trivial, h⟩

theorem wpAnyIn_round {r n : Nat} {l : List Oper} {Q : Exit → Act → World → Prop} (hd : noDefer l = true) (hq : ¬ LetsOut Q) : ∀ (fuel : Nat) (listed : Array Bool) (a : Act) (w : World),
    wpAny P md l.toArray Q fuel listed a w → wpAnyIn (Fence.wide.inRound r) n P md l.toArray Q fuel listed a w
  | 0, _, _, _, h => h
  | fuel + 1, _, _, _, h => ⟨h.1, fun i hi => wpOpIn_mono (fun a w => wpAnyIn_round hd hq fuel _ a w) (wpOpIn_round hd hq (h.2 i hi))⟩

/-- In a round: the first k operations read and call quietly, in whatever order; the others come in one order. -/
theorem wpIn_round_still_tail {r n id : Nat} {Q : Exit → Act → World → Prop} {a : Act} {w : World} {l : List Oper} (k : Nat) (hm : P.follows .mixedOrders = true) (hd : noDefer l = true) (hB : Region.lexTailB .any l.toArray k = true)
    (h : wpStill P l.toArray w.drew (fun a' => wpList P l.toArray (Exit.then (fun a w => Q .normal a w) (fun _ _ _ => False)) (l.drop k) a' w.drew) (l.take k) a) : (Code.region id l.toArray true).wpIn (Fence.wide.inRound r) n P Q a w := by
  simp only [Region.lexTailB, Bool.and_eq_true, decide_eq_true_eq] at hB
  obtain ⟨⟨⟨⟨hsel, hn⟩, hs⟩, hc⟩, hlex⟩ := hB
  have hn' : k < l.length := by simpa using hn
  have htl : (l.take k).length = k := by simp; omega
  have hdl : (l.drop k).length = l.toArray.size - k := by simp
  have inv0 : HeadInv .any l.toArray k (Array.replicate l.toArray.size false) :=
    ⟨by simp, fun j oj _ hl => (by rw [getD_replicate_false] at hl; cases hl), fun t _ ht => getD_in (by simpa using ht) (getD_replicate_false _ _)⟩
  have H := wpAnyL_lex (md := .any) (g := l.toArray.size - k) hsel hs hc hn (l.take k) 0 _ a (fun j hj => by
    rw [htl] at hj; simp [hj]) (by simpa using htl) inv0 (by rw [htl]; exact hlex) h
  have T := wpAny_of_head (Q' := Exit.then (fun a w => Q .normal a w) (fun _ _ _ => False)) (g := l.toArray.size - k) (fun listed a' hL => by
    have := wpAny_of_seq (md := .any) (Q' := Exit.then (fun a w => Q .normal a w) (fun _ _ _ => False)) (l.drop k) k listed a' w.drew (fun j => by simp [List.getElem?_drop]) (by rw [hdl]; exact hL.1) hL.2
    rwa [hdl] at this) _ _ _ H
  rw [htl, show k + (l.toArray.size - k) = l.toArray.size by omega] at T
  refine wpIn_mono (wpIn_region_any (Q := Exit.then (fun a w => Q .normal a w) (fun _ _ _ => False)) hm (wpAnyIn_round hd (fun ⟨_, _, h⟩ => h) _ _ _ _ T)) ?_
  intro e a w hq
  cases e <;> first | exact hq | exact hq.elim

/-- In a round, a region that draws: whatever order comes. -/
theorem wpIn_round_any {r n id : Nat} {Q : Exit → Act → World → Prop} {a : Act} {w : World} {l : List Oper} (hm : P.follows .mixedOrders = true) (hd : noDefer l = true)
    (h : wpAny P .any l.toArray (Exit.then (fun a w => Q .normal a w) (fun _ _ _ => False)) l.length (Array.replicate l.length false) a w.drew) : (Code.region id l.toArray true).wpIn (Fence.wide.inRound r) n P Q a w := by
  refine wpIn_mono (wpIn_region_any (Q := Exit.then (fun a w => Q .normal a w) (fun _ _ _ => False)) hm (wpAnyIn_round hd (fun ⟨_, _, h⟩ => h) _ _ _ _ (by simpa using h))) ?_
  intro e a w hq
  cases e <;> first | exact hq | exact hq.elim

end Go.Proofs.Ytififfadodjmeaa

namespace Go.Proofs.Ytififfadodjmeaa
open Go.RowKit Go.Shelf
attribute [local go_sem] Oper.semAt_some

theorem octets_any (n s : Int) (w : World) :
    Calls Try.prog 81 #[.int .u64 n, .int .i64 s] w fun e w' => e = .returned (.func (.func 95) #[] #[.pointer (some ⟨w.heap.size + 1, 0, none⟩), .pointer (some ⟨w.heap.size, 0, none⟩)]) ∧ w' = (w.alloc (.cells #[.int .u64 n] 24)).alloc (.cells #[.int .i64 s] 3) :=
  callsIn_wide.1 (octets_in Fence.wide 1 trivial rfl n s w)
theorem appendSeq_any (n₀ k x s : Nat) (hk : k ≤ 1000000) (hs : s ≤ 8) (sv : Value) (xs : List Value) (Bn Bs : Nat) (w : World) (hn₀ : n₀ ≤ w.heap.size) (hrow : w.ownsRow n₀ 5 1 sv k xs)
    (kn : Boxed w Bn 24 (.int .u64 (x : Nat))) (ks : Boxed w Bs 3 (.int .i64 (s : Nat))) :
    Calls Try.prog 83 #[sv, .func (.func 95) #[] #[.pointer (some ⟨Bs, 0, none⟩), .pointer (some ⟨Bn, 0, none⟩)]] w (SeqW n₀ (k + s) (xs ++ (octs x s).map bv) w) :=
  callsIn_wide.1 (appendSeq_in 3 (by omega) n₀ k x s hk hs sv xs Bn Bs w hn₀ hrow kn ks)

/-- The words' octets. -/
def wOcts (pre : List PW) : List UInt8 := (pre.map fun x => octs x.1.2 8).flatten
theorem wOcts_snoc (pre : List PW) (x : PW) : wOcts (pre ++ [x]) = wOcts pre ++ octs x.1.2 8 := by simp [wOcts]
theorem wOcts_length (pre : List PW) : (wOcts pre).length = 8 * pre.length := by
  induction pre with
  | nil => rfl
  | cons x l ih => simp only [wOcts, List.map_cons, List.flatten_cons, List.length_append, octs_length, List.length_cons] at ih ⊢; omega
def wide8 (a0 a1 a2 a3 : Nat) : List UInt8 := octs a3 8 ++ (octs a2 8 ++ (octs a1 8 ++ octs a0 8))
theorem wOcts_downs {a0 a1 a2 a3 : Nat} (ha : Ok4 a0 a1 a2 a3) : wOcts (downs ha) = wide8 a0 a1 a2 a3 := by
  simp [wOcts, downs, pw, wide8]

/-- Between two rounds. -/
def BWI (N B3 Bs a0 a1 a2 a3 : Nat) (w : World) (pre : List PW) (W : World) : Prop :=
  ((∃ v, Boxed W B3 37 v ∧ W.ownsRow N 5 1 v (8 * pre.length) ((wOcts pre).map bv) ∧ True) ∧ BlkW W N a0 a1 a2 a3 ∧ Boxed W Bs 132 (.slice (some ⟨N, 0, none⟩) 4 4)) ∧ Below N w W
theorem bwI_own {N B3 Bs a0 a1 a2 a3 : Nat} {w : World} {B : Nat} (h : N ≤ w.heap.size) (hB : N ≤ B) : OwnFrom B (BWI N B3 Bs a0 a1 a2 a3 w) :=
  OwnFrom.and (OwnFrom.and (Own.from (holdsRow_own N B3 37 5 1 (fun pre : List PW => 8 * pre.length) (fun pre => (wOcts pre).map bv) (fun _ _ => True)) _)
    (OwnFrom.and (Own.from (fun _ X Y row hs hg hr => blk_own N 26 (fun (_ : Unit) => [.int .u64 (a0 : Int), .int .u64 (a1 : Int), .int .u64 (a2 : Int), .int .u64 (a3 : Int)]) () X Y row hs hg hr) _)
      (Own.from (fun _ X Y row hs hg hr => blk_own Bs 132 (fun (_ : Unit) => [.slice (some ⟨N, 0, none⟩) 4 4]) () X Y row hs hg hr) _))) (ownFrom_below h hB)

set_option maxRecDepth 100000 in
set_option maxHeartbeats 4000000 in
theorem blobWide_in (m : Nat) (hm : 4 ≤ m) {a0 a1 a2 a3 : Nat} (ha : Ok4 a0 a1 a2 a3) (w : World) :
    CallsIn Fence.wide m Try.prog 64 #[wv a0 a1 a2 a3] w (ByW (wide8 a0 a1 a2 a3) w) := by
  have h1 : 1 ≤ m := by omega
  refine callsIn_of_wp_marks Try.func64 rfl trivial ?_ rfl
  simp only [Try.ntmps64, List.size_toArray, List.length_cons, List.length_nil, Nat.reduceAdd, Nat.reduceSub, Array.replicate_succ, Array.replicate_zero, List.push_toArray, List.append_toArray, List.nil_append, List.cons_append]
  obtain ⟨i0, hi, hz0, hz1, hz2⟩ := info_parts Try.infoByte
  gi_wp2_with (first
    | (gi_at_make; refine wpListIn_make_own _ rfl _ _ 37 rfl w.heap.size 5 i0 (.int .u8 0) 1 Try.underlying37 hi hz0 hz1 .i64 .i64 32 32 rfl rfl rfl (by rw [hz2]; omega) (by unfold maxLen; omega) (by simp) ?_; intro w1 hown hgrow)
    | (refine ⟨trivial, ?_⟩; gi_at_call 82; refine (backward_in Fence.wide (m - 1) trivial rfl _ ⟨_, _, _, rfl⟩ _).mono ?_; rintro e w' ⟨rfl, rfl⟩))
  have e1 : w.heap.size + 1 ≤ w1.heap.size := by have := hgrow.size; simpa using this
  have kA1 : BlkW w1 w.heap.size a0 a1 a2 a3 := Blk.kept (Blk.new' rfl) hgrow (by simp)
  have hB1 : Below w.heap.size w w1 := (chain0 w _).grown hgrow (by simp) (fun k e => by cases e)
  generalize hW5 : World.alloc (World.alloc _ _) _ = W5
  have k0 : Boxed W5 w1.heap.size 37 (.slice (some ⟨w.heap.size + 1, 0, none⟩) 0 32) := by rw [← hW5]; exact (Boxed.new _ _ _).alloc _
  have k1 : Boxed W5 (w1.heap.size + 1) 132 (.slice (some ⟨w.heap.size, 0, none⟩) 4 4) := by rw [← hW5]; exact Blk.new' (vs := [_]) (by simp)
  have kA : BlkW W5 w.heap.size a0 a1 a2 a3 := by rw [← hW5]; exact (kA1.alloc _).alloc _
  have hB0 : Below w.heap.size w W5 := by rw [← hW5]; exact chainA (chainA hB1 _) _
  have hown5 : W5.ownsRow w.heap.size 5 1 (.slice (some ⟨w.heap.size + 1, 0, none⟩) 0 32) 0 [] := by rw [← hW5, show w.heap.size + 1 = (w.alloc (.cells #[.int .u64 (a0 : Int), .int .u64 (a1 : Int), .int .u64 (a2 : Int), .int .u64 (a3 : Int)] 26)).heap.size by simp]; exact (hown.alloc _).alloc _
  have hz : W5.heap.size = w1.heap.size + 2 := by rw [← hW5]; simp
  clear hW5 hgrow
  have hmx : Try.prog.follows .mixedOrders = true := by kernel_rfl
  refine wpIn_rangeFunc_ownF (S := fun ys => ys = downs ha) rfl h1 (gf := 96) (lb := #[.pointer (some ⟨w1.heap.size + 1, 0, none⟩)]) rfl trivial (enters_of Try.func96 (by kernel_rfl) rfl)
    (backward1_stops Fence.wide (m - 1) trivial rfl (by omega) ha w.heap.size (w1.heap.size + 1) W5 kA k1) KeepB2.t (KeepB2.b kA.lt k1.lt) (Below.refl _ _) (fun _ => rfl)
    (BWI w.heap.size w1.heap.size (w1.heap.size + 1) a0 a1 a2 a3 w) (fun _ _ _ => False) (bwI_own (Nat.le_refl _) (by omega)) (fun _ _ _ _ _ hs _ _ => hs)
    ⟨⟨⟨_, k0, hown5, trivial⟩, kA, k1⟩, hB0⟩ ?_ ?_ ?_ ?_ ?_
  rotate_left
  · intro l x W K hK
    gi_wp2
    exact hK
  · rintro l pre ⟨⟨i, x⟩, hix⟩ W ⟨⟨⟨v, kv, hown, _⟩, kA, kS⟩, hB⟩ hlt
    have ko := kv.cell
    have kf := kv.frozen
    have l3 := kv.lt
    have hNW : w.heap.size ≤ W.heap.size := hB.size
    gi_wp2_with fail
    refine wpIn_round_any hmx (by kernel_rfl) ?_
    refine wpAny_take (i := 1) (v := ?_) rfl (by kernel_rfl) (by kernel_rfl) (by kernel_rfl) (fun _ _ _ h => h) (Or.inl ⟨rfl, ?_⟩) ?_
    rotate_left
    · intro w'; go_simp; with_reducible rfl
    refine wpAny_ready (rs := [0, 2]) (by kernel_rfl) (by simp) ?_
    refine AllReady.cons rfl (fun K hK => ?_) (AllReady.cons rfl (fun K hK => ?_) AllReady.nil)
    go_simp
    refine hK _ _ ?_
    clear hK K
    refine wpAny_ready (rs := [2]) (by kernel_rfl) (by simp) ?_
    refine AllReady.cons rfl (fun K hK => ?_) AllReady.nil
    go_simp
    refine (octets_any _ _ _).mono ?_
    rintro e w2 ⟨rfl, rfl⟩
    refine hK _ _ ?_
    clear hK K
    rotate_left
    go_simp
    refine (octets_any _ _ _).mono ?_
    rintro e w2 ⟨rfl, rfl⟩
    refine hK _ _ ?_
    clear hK K
    refine wpAny_ready (rs := [0]) (by kernel_rfl) (by simp) ?_
    refine AllReady.cons rfl (fun K hK => ?_) AllReady.nil
    go_simp
    refine hK _ _ ?_
    clear hK K
    rotate_left
    all_goals
      refine wpAny_ready (rs := [3]) (by kernel_rfl) (by simp) ?_
      refine AllReady.cons rfl (fun K hK => ?_) AllReady.nil
      go_simp
      have kv2 : Boxed ((W.drew.alloc (.cells #[.int .u64 (x : Int)] 24)).alloc (.cells #[.int .i64 8] 3)) w1.heap.size 37 v := (Boxed.alloc (W := W.drew) kv _).alloc _
      have hsp2 : Spares 5 W ((W.drew.alloc (.cells #[.int .u64 (x : Int)] 24)).alloc (.cells #[.int .i64 8] 3)) := Spares.of_below ((((Below.refl _ W).drew).alloc (Nat.le_refl _) _).alloc (by simp) _)
      have hb2 : Below w.heap.size W ((W.drew.alloc (.cells #[.int .u64 (x : Int)] 24)).alloc (.cells #[.int .i64 8] 3)) := (((Below.refl _ W).drew).alloc (by simpa using hNW) _).alloc (by simp; omega) _
      refine (appendSeq_any w.heap.size (8 * pre.length) x 8 (by omega) (by omega) v ((wOcts pre).map bv) _ _ _ (by simp; omega) ((World.ownsRow.alloc (w := W.drew) hown _).alloc _) ((Boxed.new W.drew _ _).alloc _) (Blk.new' (vs := [_]) (by simp))).mono ?_
      rintro e w3 ⟨v', rfl, hown3, hb3, hsp3⟩
      refine hK _ _ ?_
      clear hK K
      have hsp := hsp2.t hsp3
      have hbb := hb2.trans hb3
      clear hsp2 hsp3 hb2 hb3
      have kv3 := hsp.boxed kv (by decide)
      have kA3 := hsp.blk kA (by decide)
      have kS3 := hsp.boxed kS (by decide)
      have ko3 := kv3.cell
      have kf3 := kv3.frozen
      obtain ⟨a, c, rfl⟩ := ownsRow_slice hown3
      have HW := Lib.hid (wOcts_snoc pre ⟨(i, x), hix⟩)
      refine wpAny_ready (rs := [4]) (by kernel_rfl) (by simp) ?_
      refine AllReady.cons rfl (fun K hK => ?_) AllReady.nil
      go_simp
      refine hK _ _ ?_
      clear hK K
      refine wpAny_done (by kernel_rfl) ?_ _
      have hge : w.heap.size < w1.heap.size := by omega
      have hgS := grownBy_setCell' w3 w1.heap.size (.slice a (8 * pre.length + 8) c)
      have qv := kv3.set (.slice a (8 * pre.length + 8) c)
      have qA := Blk.other kA3 (B' := w1.heap.size) 0 (.slice a (8 * pre.length + 8) c) (by omega)
      have qS := kS3.kept hgS (by simp)
      have qo := hown3.kept hgS (.inr (Boxed.not_row kv3 (by decide) hown3).symm)
      refine ⟨hsp.others.trans (KeepsOthers.setCell _ _ _), ⟨qA.trans kA.symm, qS.trans kS.symm⟩, ⟨⟨_, qv, ?_, trivial⟩, qA, qS⟩, hB.trans (hbb.setCell (p := ⟨w1.heap.size, 0, none⟩) (by simp; omega) _)⟩
      rw [HW.out, List.map_append, List.length_append, Nat.mul_add]
      exact qo
  · rintro D ys W hD rfl ⟨⟨⟨v, kv, hown, _⟩, kA, kS⟩, hB⟩ hK
    have ko := kv.cell
    have HZ := Lib.hid hz
    clear hz
    gi_wp2
    have hB' := hB.trans (belowK_b (w := w) (Nat.le_refl _) _ D _ (.deferred none) (by have := HZ.out; omega) hK rfl rfl)
    have hown3 := ownsRow_putObj hown (.deferred none) hK rfl
    rw [← wOcts_length, wOcts_downs] at hown3
    refine ⟨by simp, .inl ⟨_, _, rfl, run_takeDeferred hK, ?_⟩⟩
    refine ⟨v, ?_, ?_⟩
    · simp [results, Try.f64, go_sem]
    · exact ⟨v, rfl, BSl.of_own hown3, hB'⟩
  · rintro D c pre W _ _ h _
    exact h.elim

theorem blobWide_any {a0 a1 a2 a3 : Nat} (ha : Ok4 a0 a1 a2 a3) (w : World) : Calls Try.prog 64 #[wv a0 a1 a2 a3] w (ByW (wide8 a0 a1 a2 a3) w) := callsIn_wide.1 (blobWide_in 4 (by omega) ha w)

end Go.Proofs.Ytififfadodjmeaa

namespace Go.Proofs.Ytififfadodjmeaa
open Go.RowKit Go.Shelf

abbrev St := List UInt8 × Int
def errS (s : St) (x : Int) : St := if s.2 = 0 then ([], x) else s
def addS (s : St) (l : List UInt8) : St := if s.2 = 0 then (if s.1.length + l.length ≤ 8192 then (s.1 ++ l, 0) else ([], 5)) else s
def numS (s : St) (n : Int) : St := if 0 ≤ n ∧ n ≤ 1099511627776 then addS s (octs (two n) 6) else errS s 4
def txtS (s : St) (t : ByteArray) : St := if t.size ≤ 1024 then addS s (octs t.size 2 ++ t.data.toList) else errS s 5
def wideS (s : St) (a0 a1 a2 a3 : Nat) : St := addS s (wide8 a0 a1 a2 a3)
/-- What is taken: octets, and the state behind it. -/
def takeS (s : St) (n : Nat) : List UInt8 × St := if s.2 = 0 then (if n ≤ s.1.length then (s.1.take n, (s.1.drop n, 0)) else ([], ([], 16))) else ([], s)
def mostS (s : St) (size : Nat) (most : Int) : Nat × St :=
  if (takeS s size).2.2 = 0 ∧ most < (be ((takeS s size).1.take 7) : Int) then (0, ([], 4)) else (be ((takeS s size).1.take 7), (takeS s size).2)
def gtxtS (s : St) (most : Int) : List UInt8 × St := takeS (mostS s 2 most).2 (mostS s 2 most).1

/-- A state that can be: behind an error there is nothing; there are no more octets than may be. -/
def OkS (s : St) : Prop := (s.2 ≠ 0 → s.1 = []) ∧ s.1.length ≤ 8192
theorem okS_err {s : St} (h : OkS s) (x : Int) : OkS (errS s x) := by
  unfold errS; split
  · exact ⟨fun _ => rfl, by simp⟩
  · exact h
theorem okS_add {s : St} (h : OkS s) (l : List UInt8) : OkS (addS s l) := by
  unfold addS; split
  · split
    · exact ⟨fun k => absurd rfl k, by simpa using ‹_›⟩
    · exact ⟨fun _ => rfl, by simp⟩
  · exact h
theorem okS_num {s : St} (h : OkS s) (n : Int) : OkS (numS s n) := by
  unfold numS; split
  · exact okS_add h _
  · exact okS_err h _
theorem okS_txt {s : St} (h : OkS s) (t : ByteArray) : OkS (txtS s t) := by
  unfold txtS; split
  · exact okS_add h _
  · exact okS_err h _
theorem okS_wide {s : St} (h : OkS s) (a0 a1 a2 a3 : Nat) : OkS (wideS s a0 a1 a2 a3) := okS_add h _
theorem okS_take {s : St} (h : OkS s) (n : Nat) : OkS (takeS s n).2 := by
  unfold takeS; split
  · split
    · refine ⟨fun k => absurd rfl k, ?_⟩
      have := h.2
      simp only [List.length_drop]; omega
    · exact ⟨fun _ => rfl, by simp⟩
  · exact h
theorem okS_most {s : St} (h : OkS s) (n : Nat) (m : Int) : OkS (mostS s n m).2 := by
  unfold mostS; split
  · exact ⟨fun _ => rfl, by simp⟩
  · exact okS_take h n
theorem okS_gtxt {s : St} (h : OkS s) (m : Int) : OkS (gtxtS s m).2 := okS_take (okS_most h _ _) _
theorem addS_bad {s : St} (h : s.2 ≠ 0) (l : List UInt8) : addS s l = s := if_neg h
theorem errS_bad {s : St} (h : s.2 ≠ 0) (x : Int) : errS s x = s := if_neg h
theorem takeS_bad {s : St} (h : s.2 ≠ 0) (n : Nat) : takeS s n = ([], s) := if_neg h
theorem takeS_short {s : St} (h : s.2 = 0) {n : Nat} (k : s.1.length < n) : takeS s n = ([], ([], 16)) := by
  unfold takeS; rw [if_pos h, if_neg (by omega)]
theorem takeS_ok {s : St} (h : s.2 = 0) {n : Nat} (k : n ≤ s.1.length) : takeS s n = (s.1.take n, (s.1.drop n, 0)) := by
  unfold takeS; rw [if_pos h, if_pos k]
theorem takeS_len (s : St) (n : Nat) : (takeS s n).1.length ≤ n := by
  unfold takeS; split
  · split
    · simp only [List.length_take]; omega
    · simp
  · simp

theorem BSl.shape {lo hi : Nat} {W : World} {sv : Value} {l : List UInt8} (h : BSl lo hi W sv l) : ∃ a c, sv = .slice a l.length c ∧ l.length ≤ c := by
  obtain ⟨a, c, e, hc, _⟩ := h
  exact ⟨a, c, e, hc⟩
theorem BSl.shape3 {lo hi : Nat} {W : World} {sv : Value} {l : List UInt8} (h : BSl lo hi W sv l) : ∃ a m c, sv = .slice a m c := by
  obtain ⟨a, c, e, _⟩ := h
  exact ⟨a, _, c, e⟩
theorem takeS_err {s : St} {n : Nat} (h : (takeS s n).2.2 ≠ 0) : (takeS s n).1 = [] := by
  unfold takeS at *; split
  · rename_i h0
    rw [if_pos h0] at h
    split
    · rename_i h1
      rw [if_pos h1] at h
      exact absurd rfl h
    · rfl
  · rfl
/-- The block of r has no octet among its cells. -/
def NoOct (W : World) (r : Nat) : Prop := ∀ i x, W.cell? ⟨r, i, none⟩ ≠ some (bv x)
theorem BSl.to {lo hi : Nat} {W W' : World} {row : Option Nat} {sv : Value} {l : List UInt8} (h : BSl lo hi W sv l) (hhi : hi ≤ W.heap.size) (hg : W.grownBy W' row) (hne : ∀ r, row = some r → NoOct W r) : BSl lo hi W' sv l := by
  obtain ⟨a, cap, e, hc, h0 | ⟨b, off, ha, hl, hh, ho⟩⟩ := h
  · exact ⟨a, cap, e, hc, .inl h0⟩
  · refine ⟨a, cap, e, hc, ?_⟩
    by_cases hl0 : l = []
    · exact .inl hl0
    · refine .inr ⟨b, off, ha, hl, hh, ho.kept (by omega) hg (fun e' => ?_)⟩
      obtain ⟨x, l', rfl⟩ : ∃ x l', l = x :: l' := List.exists_cons_of_ne_nil hl0
      exact hne b e'.symm (off + 0) x (ho 0 x rfl)
theorem noOct_blk {W : World} {B : Nat} {t : TypeId} {vs : List Value} (h : Blk W B t vs) (hv : ∀ v ∈ vs, ∀ x, v ≠ bv x) : NoOct W B := fun i x e => by
  rw [h.cell i] at e
  exact hv _ (List.mem_of_getElem? e) x rfl

/-- The object that p leads to (an Out, or an In) has this state; what nobody made has none, and ErrState. -/
def ObjP (T : TypeId) (W : World) (p : Option Addr) (s : St) : Prop :=
  (p = none ∧ s = ([], 9)) ∨ ∃ B m a n c x, p = some ⟨B, 0, none⟩ ∧ Blk W B T [.bool m, .slice a n c, .int .i64 x] ∧
    ((m = false ∧ s = ([], 9)) ∨ (m = true ∧ s.2 = x ∧ OkS s ∧ BSl 0 W.heap.size W (.slice a n c) s.1))
theorem ObjP.ok {T : TypeId} {W : World} {p : Option Addr} {s : St} (h : ObjP T W p s) : OkS s := by
  rcases h with ⟨_, rfl⟩ | ⟨B, m, a, n, c, x, _, _, ⟨_, rfl⟩ | ⟨_, _, h, _⟩⟩
  · exact ⟨fun _ => rfl, by simp⟩
  · exact ⟨fun _ => rfl, by simp⟩
  · exact h
theorem noOct3 {W : World} {B : Nat} {T : TypeId} {m : Bool} {a : Option Addr} {n c : Nat} {x : Int} (h : Blk W B T [.bool m, .slice a n c, .int .i64 x]) : NoOct W B := noOct_blk h (by
  intro v hv y
  simp only [List.mem_cons, List.not_mem_nil, or_false] at hv
  rcases hv with rfl | rfl | rfl <;> simp [bv])
theorem grew {W W' : World} (h : Below W.heap.size W W') (row : Option Nat) : W.grownBy W' row := ⟨h.os, h.tape, h.output, h.size, fun k hk _ => h.block k hk⟩
theorem Blk.c3 {W : World} {B : Nat} {t : TypeId} {v0 v1 v2 : Value} (h : Blk W B t [v0, v1, v2]) :
    W.cell? ⟨B, 0, none⟩ = some v0 ∧ W.cell? ⟨B, 1, none⟩ = some v1 ∧ W.cell? ⟨B, 2, none⟩ = some v2 := ⟨h.cell 0, h.cell 1, h.cell 2⟩
/-- What is written beside it, and new, leaves it. -/
theorem ObjP.to {T : TypeId} {W W' : World} {p : Option Addr} {s : St} {row : Option Nat} (h : ObjP T W p s) (hg : W.grownBy W' row) (hne : ∀ r, row = some r → NoOct W r ∧ p.map (·.block) ≠ some r) : ObjP T W' p s := by
  rcases h with h | ⟨B, m, a, n, c, x, rfl, hb, hs⟩
  · exact .inl h
  · refine .inr ⟨B, m, a, n, c, x, rfl, hb.kept hg (fun e => (hne B e.symm).2 rfl), ?_⟩
    rcases hs with h | ⟨hm, hx, hok, hsl⟩
    · exact .inl h
    · exact .inr ⟨hm, hx, hok, (hsl.to (Nat.le_refl _) hg (fun r e => (hne r e).1)).mono (Nat.le_refl _) hg.size⟩
theorem ObjP.below {T : TypeId} {W W' : World} {p : Option Addr} {s : St} (h : ObjP T W p s) (hb : Below W.heap.size W W') : ObjP T W' p s := h.to (grew hb none) (fun _ e => by cases e)
/-- A method that hands back nothing: the object's state is s behind it; nothing else has turned. -/
def DidS (T : TypeId) (p : Option Addr) (s : St) (w : World) (e : Ending) (W' : World) : Prop :=
  e = .returned (.tuple #[]) ∧ ObjP T W' p s ∧ w.grownBy W' (p.map (·.block))
end Go.Proofs.Ytififfadodjmeaa

namespace Go.Proofs.Ytififfadodjmeaa
open Go.RowKit Go.Shelf

theorem run_append_b {P : Program} (w : World) (base : Nat) (t ty e : TypeId) (i : TypeInfo) (z : Value) (ht : P.underlying t = some (.slice e)) (hi : P.info? e = some i) (hz : i.zero = some z)
    (hsize : i.size = 1) (hby : i.bytes = 1) (hzs : z.cells.size = 1) (v : Value) (n : Nat) (xs : List Value) (hown : w.ownsRow base e 1 v n xs)
    {lo hi' : Nat} {sv : Value} {l : List UInt8} (hsv : BSl lo hi' w sv l) (h63 : n + l.length ≤ 140737488355328) (hbase : base ≤ w.heap.size) :
    ∃ v' w', (Builtin.append_ #[t, t] ty #[v, sv]).run P w = .ok v' w' ∧ w'.ownsRow base e 1 v' (n + l.length) (xs ++ l.map bv) ∧ w.grownBy w' v.ownBlock := by
  obtain ⟨a, cap, rfl, _, h0⟩ := hsv
  rcases a with _ | ad
  · have hl : l = [] := by
      rcases h0 with h0 | ⟨_, _, h, _⟩
      · exact h0
      · cases h
    subst hl
    refine ⟨v, w, ?_, by simpa using hown, World.grownBy.refl w _⟩
    rcases hown.2 with ⟨rfl, rfl⟩ | ⟨g, c, cur, rfl, _, _, hnc, _⟩
    · simp [Builtin.append_, run_underlying ht, sizeOf, typeInfo, hi, Builtin.lenOf, Builtin.firstCells]
    · simp [Builtin.append_, run_underlying ht, sizeOf, typeInfo, hi, Builtin.lenOf, Builtin.firstCells, hnc, storeCells]
  · obtain ⟨v', w', hr, h2, h3, _⟩ := run_append_own (P := P) w base t ty e i z 1 1 ht hi hz hsize hby hzs (by omega) v n xs hown ad l.length cap (l.map bv) (by simp)
      (fun j u hu => by
        rcases h0 with rfl | ⟨b, off, ha, _, _, ho⟩
        · simp at hu
        · cases ha
          rw [List.getElem?_map] at hu
          obtain ⟨x, hx, rfl⟩ := Option.map_eq_some_iff.1 hu
          have hp : (⟨b, off, none⟩ : Addr).add j = ⟨b, off + j, none⟩ := by cases j <;> simp [Addr.add]
          rw [hp]; exact ho j x hx)
      (by intro u hu; obtain ⟨x, _, rfl⟩ := List.mem_map.1 hu; rfl) (by unfold maxLen; omega) (by omega) hbase
    exact ⟨v', w', hr, h2, h3⟩

theorem wpList_append_b {P : Program} (w : World) {ops : Array Oper} {rest : List Oper} {o : Oper} {a : Act} {Q : Exit → Act → World → Prop}
    (hg : o.guard = none) (s x : Operand) (t : TypeId) (hop : o.op = Op.call { callee := Callee.builtin Builtin.append, args := #[s, x], argTypes := #[t, t] })
    (base : Nat) (e : TypeId) (i : TypeInfo) (z : Value) (ht : P.underlying t = some (.slice e)) (hi : P.info? e = some i) (hz : i.zero = some z)
    (hsize : i.size = 1) (hby : i.bytes = 1) (hzs : z.cells.size = 1) (v : Value) (n : Nat) (xs : List Value) (hs : a.eval s = v) (hown : w.ownsRow base e 1 v n xs)
    {lo hi' : Nat} (sv : Value) (l : List UInt8) (hx : a.eval x = sv) (hsv : BSl lo hi' w sv l) (h63 : n + l.length ≤ 140737488355328) (hbase : base ≤ w.heap.size)
    (hK : ∀ v' w', w'.ownsRow base e 1 v' (n + l.length) (xs ++ l.map bv) → w.grownBy w' v.ownBlock → wpList P ops Q rest (a.put o.dst v') w') :
    wpList P ops Q (o :: rest) a w := by
  refine wpList_plain hg fun K hK' => ?_
  obtain ⟨v', w', hrun, r1, r2⟩ := run_append_b (P := P) w base t o.type e i z ht hi hz hsize hby hzs v n xs hown hsv h63 hbase
  unfold Oper.wp
  simp [execOp, hop, resolve, invoke, builtin, hs, hx, hrun, Result.andThen]
  exact hK' _ _ (hK v' w' r1 r2)

theorem wpListIn_append_b {F : Fence} {m : Nat} {P : Program} (w : World) {ops : Array Oper} {rest : List Oper} {o : Oper} {a : Act} {Q : Exit → Act → World → Prop}
    (hg : o.guard = none) (s x : Operand) (t : TypeId) (hop : o.op = Op.call { callee := Callee.builtin Builtin.append, args := #[s, x], argTypes := #[t, t] })
    (base : Nat) (e : TypeId) (i : TypeInfo) (z : Value) (ht : P.underlying t = some (.slice e)) (hi : P.info? e = some i) (hz : i.zero = some z)
    (hsize : i.size = 1) (hby : i.bytes = 1) (hzs : z.cells.size = 1) (v : Value) (n : Nat) (xs : List Value) (hs : a.eval s = v) (hown : w.ownsRow base e 1 v n xs)
    {lo hi' : Nat} (sv : Value) (l : List UInt8) (hx : a.eval x = sv) (hsv : BSl lo hi' w sv l) (h63 : n + l.length ≤ 140737488355328) (hbase : base ≤ w.heap.size)
    (hK : ∀ v' w', w'.ownsRow base e 1 v' (n + l.length) (xs ++ l.map bv) → w.grownBy w' v.ownBlock → wpListIn F m P ops Q rest (a.put o.dst v') w') :
    wpListIn F m P ops Q (o :: rest) a w := by
  refine wpListIn_plain hg fun K hK' => ?_
  obtain ⟨v', w', hrun, r1, r2⟩ := run_append_b (P := P) w base t o.type e i z ht hi hz hsize hby hzs v n xs hown hsv h63 hbase
  unfold Oper.wpIn
  refine ⟨?_, ?_⟩
  · simp [Oper.about, hop, resolve, Target.leads, Sem.run_pure]
  · rw [Oper.semAt_plain F _ _ (by rw [hop]; intro c hc'; cases hc')]
    simp [execOp, hop, resolve, invoke, builtin, hs, hx, hrun, Result.andThen]
    exact hK' _ _ (hK v' w' r1 r2)

/-- A slice of these octets: a row of the call's own. -/
def ByO (l : List UInt8) (w : World) (e : Ending) (W' : World) : Prop := ∃ sv, e = .returned sv ∧ W'.ownsRow w.heap.size 5 1 sv l.length (l.map bv) ∧ Below w.heap.size w W'

end Go.Proofs.Ytififfadodjmeaa

namespace Go.Proofs.Ytififfadodjmeaa
open Go.RowKit Go.Shelf

set_option maxRecDepth 100000 in
set_option maxHeartbeats 1000000 in
theorem clone_any (l : List UInt8) (sv : Value) (w : World) {lo hi' : Nat} (hreach : l.length ≤ 140737488355328) (hsv : BSl lo hi' w sv l) (hhi : hi' ≤ w.heap.size) :
    Calls Try.prog 44 #[sv] w (ByO l w) := by
  obtain ⟨i0, hi, hz0, hz1, hz2⟩ := info_parts Try.infoByte
  have hsv0 := hsv
  obtain ⟨a, cap, rfl, hcap, h0⟩ := hsv
  rcases a with _ | ad
  · have hl : l = [] := by
      rcases h0 with h0 | ⟨_, _, h, _⟩
      · exact h0
      · cases h
    subst hl
    have hnil := fun w => Lib.run_eql_slice_nil (P := Try.prog) w 37 5 none 0 cap 0 0 Try.underlying37
    change Calls _ _ #[.slice none 0 cap] _ _
    go_enter Try.func44, Try.ntmps44
    go_wp2
    go_ret
    exact ⟨_, rfl, World.ownsRow_nil _ _ _ _, Below.refl _ _⟩
  · clear h0
    have hnil := fun w => Lib.run_eql_slice_nil (P := Try.prog) w 37 5 (some ad) l.length cap 0 0 Try.underlying37
    generalize hL : l.length = len at *
    have HL := Lib.hid hL
    clear hL
    go_enter Try.func44, Try.ntmps44
    go_wp2_with (at_builtin; refine wpList_append_b _ rfl _ _ 37 rfl w.heap.size 5 i0 (.int .u8 0) Try.underlying37 hi hz0 hz1 hz2 rfl _ 0 [] rfl (World.ownsRow_lit w #[] 0 (Nat.le_refl _) (by unfold maxLen; omega) rfl) _ l rfl (hsv0.below ((Below.refl hi' w).alloc hhi _) (Nat.le_refl _)) (by rw [HL.out]; omega) (by simp) ?_; intro v' w1 hown' hgrow)
    go_ret
    refine ⟨_, rfl, by simpa using hown', ((chain0 w _).grown hgrow (by simp) (fun k e => ?_))⟩
    have : w.heap.size = k := Option.some.inj e
    omega

end Go.Proofs.Ytififfadodjmeaa

namespace Go.Proofs.Ytififfadodjmeaa
open Go.RowKit Go.Shelf
attribute [local go_sem] Oper.semAt_some

set_option maxRecDepth 100000 in
set_option maxHeartbeats 4000000 in
theorem valuesB1_in (F : Fence) (n : Nat) (h7 : F.fn 102) (hro : F.round = none) (hn : 1 ≤ n) (l Bs n₀ b off cap : Nat) (zs : List UInt8) (hreach : zs.length ≤ 140737488351232) (hb : b < n₀) (J Jx : List UInt8 → World → Prop)
    (W : World)
    (hY : ∀ pre x W, J pre W → pre.length < zs.length → YieldAt F (n - 1) Try.prog l #[bv x] W fun e W' =>
      (e = .returned (.bool true) ∧ J (pre ++ [x]) W' ∧ Below n₀ W W') ∨ (e = .returned (.bool false) ∧ Jx (pre ++ [x]) W'))
    (hBs : W.cell? ⟨Bs, 0, none⟩ = some (.slice (some ⟨b, off, none⟩) zs.length cap)) (hc : Octs W b off zs) (h0 : J [] W) :
    CallsIn F n Try.prog 102 #[.func (.yield l) #[] #[], .pointer (some ⟨Bs, 0, none⟩)] W fun e W' => (∃ v, e = .returned v) ∧
      ((∃ ys, ys = zs ∧ J ys W') ∨ (∃ pre, True ∧ Jx pre W')) := by
  refine callsIn_of_wp Try.func102 rfl h7 ?_ hro
  simp only [Try.ntmps102, List.size_toArray, List.length_cons, List.length_nil, Nat.reduceAdd, Nat.reduceSub, Array.replicate_succ, Array.replicate_zero, List.push_toArray, List.append_toArray, List.nil_append, List.cons_append]
  gi_wp2
  gi_loopw [7] (fun i wr => ∃ k : Nat, k ≤ zs.length ∧ i = .int .i64 k ∧ J (zs.take k) wr ∧ Below n₀ W wr) (fun i _ => zs.length - (intOf i).toNat)
  case atStart => exact ⟨0, Nat.zero_le _, rfl, h0, Below.refl _ _⟩
  case round =>
    obtain ⟨k, hk, rfl, hJs, hnx⟩ := hrel
    by_cases hlt : k < zs.length
    · obtain ⟨x, hx⟩ : ∃ x, zs[k]? = some x := ⟨_, List.getElem?_eq_getElem hlt⟩
      have c0 := (hc.below hnx hb) k x hx
      have hk0 : (k : Int) < (zs.length : Int) := by omega
      obtain ⟨fn, tmps, assign, body, hy, hR⟩ := hY (zs.take k) x wr hJs (by simp; omega)
      have ht : zs.take (k + 1) = zs.take k ++ [x] := by rw [List.take_add_one, hx]; rfl
      rw [← ht] at hR
      clear ht
      have HX := Lib.hid hx
      clear hx
      generalize hL : zs.length = len at *
      have HL := Lib.hid hL
      clear hL
      gi_wp2
      refine hR.mono ?_
      rintro e W3 (⟨rfl, hJ3, hk3⟩ | ⟨rfl, hJx3⟩)
      · gi_wp2
        go_roundw
        case rel => exact ⟨k + 1, by omega, by simp, hJ3, hnx.trans hk3⟩
        case measure => simp [intOf]; omega
      · gi_wp2
        refine bodyPost_ret (results_none rfl _ _ _) rfl ?_
        exact ⟨⟨_, rfl⟩, .inr ⟨_, trivial, hJx3⟩⟩
    · obtain rfl : k = zs.length := by omega
      gi_wp2
      go_end0
      rw [List.take_length] at hJs
      exact ⟨⟨_, rfl⟩, .inl ⟨_, rfl, hJs⟩⟩

set_option maxRecDepth 100000 in
set_option maxHeartbeats 1000000 in
/-- .. at a slice of none: no round. -/
theorem valuesB1_nil_in (F : Fence) (n : Nat) (h7 : F.fn 102) (hro : F.round = none) (l Bs : Nat) (a : Option Addr) (cap : Nat) (J : List UInt8 → World → Prop) (W : World) (hBs : W.cell? ⟨Bs, 0, none⟩ = some (.slice a 0 cap)) (h0 : J [] W) :
    CallsIn F n Try.prog 102 #[.func (.yield l) #[] #[], .pointer (some ⟨Bs, 0, none⟩)] W fun e W' => (∃ v, e = .returned v) ∧ J [] W' := by
  refine callsIn_of_wp Try.func102 rfl h7 ?_ hro
  simp only [Try.ntmps102, List.size_toArray, List.length_cons, List.length_nil, Nat.reduceAdd, Nat.reduceSub, Array.replicate_succ, Array.replicate_zero, List.push_toArray, List.append_toArray, List.nil_append, List.cons_append]
  gi_wp2
  gi_loopw [7] (fun i wr => i = .int .i64 0 ∧ J [] wr) (fun _ _ => 0)
  case atStart => exact ⟨rfl, h0⟩
  case round =>
    obtain ⟨rfl, hJs⟩ := hrel
    gi_wp2
    go_end0
    exact ⟨⟨_, rfl⟩, hJs⟩

set_option maxHeartbeats 1000000 in
theorem valuesB_in (F : Fence) (n : Nat) (h5 : F.fn 97) (hro : F.round = none) (a : Option Addr) (len cap : Nat) (w : World) :
    CallsIn F n Try.prog 97 #[.slice a len cap] w fun e w' => e = .returned (.func (.func 102) #[] #[.pointer (some ⟨w.heap.size, 0, none⟩)]) ∧ w' = w.alloc (.cells #[.slice a len cap] 37) := by
  refine callsIn_of_wp Try.func97 rfl h5 ?_ hro
  simp only [Try.ntmps97, List.size_toArray, List.length_cons, List.length_nil, Nat.reduceAdd, Nat.reduceSub, Array.replicate_succ, Array.replicate_zero, List.push_toArray, List.append_toArray, List.nil_append, List.cons_append]
  gi_wp2
  go_ret
  exact ⟨rfl, rfl⟩

theorem valuesB_stops (F : Fence) (n : Nat) (h7 : F.fn 102) (hro : F.round = none) (hn : 1 ≤ n) (Bs n₀ : Nat) (sv : Value) (zs : List UInt8) (hreach : zs.length ≤ 140737488351232) (w : World) (hn₀ : n₀ ≤ w.heap.size)
    (hk : Boxed w Bs 37 sv) (hI : BSl 0 n₀ w sv zs) :
    SeqStopsK F n Try.prog 102 #[.pointer (some ⟨Bs, 0, none⟩)] (fun x => #[bv x]) (Below n₀) (fun ys => ys = zs) (fun _ => True) zs.length w := fun l J Jx W hW hJ _ hY h0 => by
  have hc' := (hW.cell (p := ⟨Bs, 0, none⟩) hk.lt).trans hk.cell
  obtain ⟨a, cap, rfl, hcap, rfl | ⟨b, off, rfl, _, hb, hcs⟩⟩ := hI.below hW hn₀
  · exact (valuesB1_nil_in F n h7 hro l Bs a cap J W hc' h0).mono fun e W' ⟨he, hj⟩ => ⟨he, .inl ⟨_, rfl, hj⟩⟩
  · exact valuesB1_in F n h7 hro hn l Bs n₀ b off cap zs hreach hb J Jx W hY hc' hcs h0

end Go.Proofs.Ytififfadodjmeaa

namespace Go.Proofs.Ytififfadodjmeaa
open Go.RowKit Go.Shelf
attribute [local go_sem] Oper.semAt_some

/-- Between two rounds. -/
def IntI (N : Nat) (w : World) (pre : List UInt8) (W : World) : Prop := Boxed W N 3 (.int .i64 (be pre : Nat)) ∧ Below N w W
theorem intI_own {N : Nat} {w : World} {B : Nat} (h : N ≤ w.heap.size) (hB : N ≤ B) : OwnFrom B (IntI N w) :=
  OwnFrom.and (Own.from (fun s X Y row hs hg hr => blk_own N 3 (fun s : List UInt8 => [.int .i64 (be s : Nat)]) s X Y row hs hg hr) _) (ownFrom_below h hB)
/-- A slice's first octets. -/
theorem BSl.take {lo hi : Nat} {W : World} {a : Option Addr} {cap : Nat} {l : List UInt8} (h : BSl lo hi W (.slice a l.length cap) l) (k : Nat) (hk : k ≤ l.length) : BSl lo hi W (.slice a k cap) (l.take k) := by
  obtain ⟨a', cap', e, hc, h0⟩ := h
  cases e
  refine ⟨a, cap, by rw [List.length_take, Nat.min_eq_left hk], by simp; omega, ?_⟩
  rcases h0 with rfl | ⟨b, off, ha, h1, h2, ho⟩
  · exact .inl (by simp)
  · exact .inr ⟨b, off, ha, h1, h2, fun j x hj => ho j x (by
      have hjk : j < k := by have := (List.getElem?_eq_some_iff.1 hj).1; simp at this; omega
      rwa [List.getElem?_take_of_lt hjk] at hj)⟩

set_option maxRecDepth 100000 in
set_option maxHeartbeats 4000000 in
theorem blobInt_in (m : Nat) (hm : 2 ≤ m) (l : List UInt8) (sv : Value) (w : World) (hreach : l.length ≤ 140737488351232) (hsv : BSl 0 w.heap.size w sv l) :
    CallsIn Fence.wide m Try.prog 85 #[sv] w fun e W' => e = .returned (.int .i64 (be (l.take 7) : Nat)) ∧ Below w.heap.size w W' := by
  have h1 : 1 ≤ m := by omega
  have hsv0 := hsv
  obtain ⟨a, cap, rfl, hcap, hcs⟩ := hsv
  clear hcs
  refine callsIn_of_wp_marks Try.func85 rfl trivial ?_ rfl
  simp only [Try.ntmps85, List.size_toArray, List.length_cons, List.length_nil, Nat.reduceAdd, Nat.reduceSub, Array.replicate_succ, Array.replicate_zero, List.push_toArray, List.append_toArray, List.nil_append, List.cons_append]
  have hN : (l.take 7).length ≤ 7 := by rw [List.length_take]; omega
  have hcase : (((l.length : Nat) : Int) ≤ 7 ∧ BSl 0 w.heap.size w (.slice a l.length cap) (l.take 7)) ∨ (¬ ((l.length : Nat) : Int) ≤ 7 ∧ BSl 0 w.heap.size w (.slice a 7 cap) (l.take 7)) := by
    by_cases h : l.length ≤ 7
    · exact .inl ⟨by omega, by rw [List.take_of_length_le h]; exact hsv0⟩
    · exact .inr ⟨by omega, hsv0.take 7 (by omega)⟩
  clear hsv0
  generalize l.take 7 = z at *
  rcases hcase with ⟨h7, hT⟩ | ⟨h7, hT⟩
  all_goals
    gi_wp2_with (refine ⟨trivial, ?_⟩; gi_at_call 97; refine (valuesB_in Fence.wide (m - 1) trivial rfl _ _ _ _).mono ?_; rintro e w' ⟨rfl, rfl⟩)
    generalize hW5 : World.alloc _ _ = W5
    have k0 : Boxed W5 w.heap.size 3 (.int .i64 (be [] : Nat)) := by rw [← hW5]; exact (Boxed.new _ _ (.int .i64 (be [] : Nat))).alloc _
    have k2 := show Boxed W5 (w.heap.size + 1) 37 (.slice a _ cap) by rw [← hW5]; exact Blk.new' (vs := [_]) (by simp)
    have hB0 : Below w.heap.size w W5 := by rw [← hW5]; exact chainA (chain0 _ _) _
    have hz : W5.heap.size = w.heap.size + 2 := by rw [← hW5]; simp
    clear hW5
    refine wpIn_rangeFunc_ownF (S := fun ys => ys = z) rfl h1 (gf := 102) (lb := #[.pointer (some ⟨w.heap.size + 1, 0, none⟩)]) rfl trivial (enters_of Try.func102 (by kernel_rfl) rfl)
      (valuesB_stops Fence.wide (m - 1) trivial rfl (by omega) (w.heap.size + 1) w.heap.size _ z (by omega) W5 (by omega) k2 (hT.below hB0 (Nat.le_refl _))) belowK_t (belowK_b (by omega)) (Below.refl _ _) (fun _ => rfl)
      (IntI w.heap.size w) (fun _ _ _ => False) (intI_own (Nat.le_refl _) (by omega)) (fun _ _ _ _ _ hs _ _ => hs)
      ⟨k0, hB0⟩ ?_ ?_ ?_ ?_ ?_
    rotate_left
    · intro l x W K hK
      gi_wp2
      exact hK
    · rintro r pre x W ⟨k0, hB⟩ hlt
      have co := k0.cell
      have cf := k0.frozen
      have hsn := be_snoc pre x
      have HS := Lib.hid hsn
      have hl1 : be pre ≤ 281474976710655 := by have := be_lt' (l := pre) (k := 6) (by omega); omega
      have hor := or_byte64 (a := be pre) (x := x.toNat) (by omega) x.toNat_lt
      have HO := Lib.hid hor
      clear hor hsn
      generalize be pre = y at *
      have hy : (y : Int) ≤ 281474976710655 := by omega
      have hxl := x.toNat_lt
      have hxl' : (x.toNat : Int) ≤ 255 := by omega
      gi_wp2
      rw [HO.out, ← HS.out]
      have hbw := (Below.refl w.heap.size W).setCell (p := ⟨w.heap.size, 0, none⟩) (Nat.le_refl _) (.int .i64 (be (pre ++ [x]) : Nat))
      exact ⟨KeepsOthers.setCell _ _ _, hbw, k0.set _, hB.trans hbw⟩
    · rintro D ys W hD rfl ⟨k0, hB⟩ hK
      have co := k0.cell
      have HZ := Lib.hid hz
      clear hz
      gi_wp2
      have hB' := hB.trans (belowK_b (w := w) (Nat.le_refl _) _ D _ (.deferred none) (by have := HZ.out; omega) hK rfl rfl)
      refine ⟨by simp, .inl ⟨_, _, rfl, run_takeDeferred hK, ?_⟩⟩
      refine ⟨.int .i64 (be ys : Nat), ?_, ?_⟩
      · simp [results, Try.f85, go_sem]
      · exact ⟨rfl, hB'⟩
    · rintro D c pre W _ _ h _
      exact h.elim

theorem blobInt_any (l : List UInt8) (sv : Value) (w : World) (hreach : l.length ≤ 140737488351232) (hsv : BSl 0 w.heap.size w sv l) :
    Calls Try.prog 85 #[sv] w fun e W' => e = .returned (.int .i64 (be (l.take 7) : Nat)) ∧ Below w.heap.size w W' := callsIn_wide.1 (blobInt_in 2 (by omega) l sv w hreach hsv)

end Go.Proofs.Ytififfadodjmeaa
