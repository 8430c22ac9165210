/-
  Two blocks that lie as they lay.
  slices.Backward over a number's four words: each with its place, the highest first.
  A region that draws its order, in a round of a range over a function: reads and quiet calls first, then stores in one order.
  blob.Wide: a wide number's octets.
  Fields as octets: what is written, and what is read, as plain functions; the state of an Out, or of an In: octets, and the first error.
  A transfer and a side's data as plain things; whether they may be; what is put of them, and read, as states of octets.
  Digits of 16 bits: rows of numbers that a call owns; what digits come to.
  What digits of 16 bits come to, word by word.
-/
import Derived.RangeFuncCalls
import Derived.RangeFuncIn
import Derived.OrdersIn
import Derived.StillTail
import Derived.StillTailTactics
import Derived.WalkKit
import Derived.Test.YtiibeahgleaonaaK01
namespace Go.Proofs.Ytiibeahgleaonaa
open Go.RowKit Go.Shelf

/-- Both blocks lie as they lay. -/
def KeepB2 (B B' : Nat) (W W' : World) : Prop := KeepB B W W' ∧ KeepB B' W W'
theorem KeepB2.t {B B' : Nat} {X Y Z : World} (h : KeepB2 B B' X Y) (k : KeepB2 B B' Y Z) : KeepB2 B B' X Z := ⟨h.1.t k.1, h.2.t k.2⟩
theorem KeepB2.b {B B' : Nat} {w : World} (hB : B < w.heap.size) (hB' : B' < w.heap.size) (W : World) (l : Nat) (o o' : Obj) (hl : w.heap.size ≤ l) (h1 : W.heap[l]? = some o) (h2 : o.isCells = false) (h3 : o.isWalk = false) : KeepB2 B B' W (W.putObj l o') :=
  ⟨KeepB.b hB W l o o' hl h1 h2 h3, KeepB.b hB' W l o o' hl h1 h2 h3⟩

end Go.Proofs.Ytiibeahgleaonaa

namespace Go.Proofs.Ytiibeahgleaonaa
open Go.RowKit Go.Shelf
attribute [local go_sem] Oper.semAt_some

theorem downs_at {a0 a1 a2 a3 : Nat} (ha : Ok4 a0 a1 a2 a3) {k : Nat} (hk : k < 4) : (downs ha)[k]? = some (pw (3 - k) (word a0 a1 a2 a3 (3 - k)) (by omega) (word_lt ha.h0 ha.h1 ha.h2 ha.h3 _)) := by
  have : k = 0 ∨ k = 1 ∨ k = 2 ∨ k = 3 := by omega
  rcases this with rfl | rfl | rfl | rfl <;> rfl
set_option maxRecDepth 100000 in
set_option maxHeartbeats 4000000 in
theorem backward1_stops (F : Fence) (m : Nat) (h : F.fn 71) (hro : F.round = none) (hm : 1 ≤ m) {a0 a1 a2 a3 : Nat} (ha : Ok4 a0 a1 a2 a3) (Ba Bs : Nat) (w : World) (hb : BlkW w Ba a0 a1 a2 a3) (hs : Boxed w Bs 112 (.slice (some ⟨Ba, 0, none⟩) 4 4)) :
    SeqStopsK F m Try.prog 71 #[.pointer (some ⟨Bs, 0, none⟩)] pwEnc (KeepB2 Ba Bs) (fun ys => ys = downs ha) (fun _ => True) 4 w := fun l J Jx W hW _ _ hY h0 => by
  have hb' : Blk W Ba 24 (ws (word a0 a1 a2 a3)) := hb.below hW hb.lt
  have hs' : Boxed W Bs 112 (.slice (some ⟨Ba, 0, none⟩) 4 4) := (hW.block Bs hs.lt).trans hs
  clear hb hs
  have hsc := hs'.cell
  refine callsIn_of_wp Try.func71 rfl h ?_ hro
  simp only [Try.ntmps71, List.size_toArray, List.length_cons, List.length_nil, Nat.reduceAdd, Nat.reduceSub, Array.replicate_succ, Array.replicate_zero, List.push_toArray, List.append_toArray, List.nil_append, List.cons_append]
  gi_wp2
  clear hsc
  gi_loopw [3] (fun i wr => ∃ k : Nat, k ≤ 4 ∧ i = .int .i64 (3 - (k : Int)) ∧ Blk wr Ba 24 (ws (word a0 a1 a2 a3)) ∧ Boxed wr Bs 112 (.slice (some ⟨Ba, 0, none⟩) 4 4) ∧ J ((downs ha).take k) wr) (fun i _ => ((intOf i) + 1).toNat)
  case atStart => exact ⟨0, by omega, rfl, hb', hs', h0⟩
  case round =>
    obtain ⟨k, hk, rfl, hbr, hsr, hJs⟩ := hrel
    by_cases hlt : k < 4
    · have hdk := downs_at ha hlt
      obtain ⟨fn, tmps, assign, body, hy, hR⟩ := hY _ (pw (3 - k) (word a0 a1 a2 a3 (3 - k)) (by omega) (word_lt ha.h0 ha.h1 ha.h2 ha.h3 _)) wr hJs (by simp [downs]; omega)
      have ht : (downs ha).take (k + 1) = (downs ha).take k ++ [pw (3 - k) (word a0 a1 a2 a3 (3 - k)) (by omega) (word_lt ha.h0 ha.h1 ha.h2 ha.h3 _)] := by rw [List.take_add_one, hdk]; rfl
      rw [← ht] at hR
      clear ht hdk
      have hcx := hbr.cell (3 - k)
      rw [ws_at _ (by omega)] at hcx
      have hp : (3 : Int) - k = ((3 - k : Nat) : Int) := by omega
      have hpl : 3 - k ≤ 3 := by omega
      change (Instr.yield l #[.int .i64 ((3 - k : Nat) : Int), .int .u64 ((word a0 a1 a2 a3 (3 - k) : Nat) : Int)]).run _ _ = _ at hy
      rw [hp]
      have HP := Lib.hid hp
      clear hp
      generalize word a0 a1 a2 a3 (3 - k) = x at *
      generalize 3 - k = p at *
      have hsc := hsr.cell
      gi_wp2
      refine hR.mono ?_
      clear hy
      rintro e W3 (⟨rfl, hJ3, hk3⟩ | ⟨rfl, hJx3⟩)
      · have hb3 : Blk W3 Ba 24 (ws (word a0 a1 a2 a3)) := hk3.1.trans hbr
        have hs3 : Boxed W3 Bs 112 (.slice (some ⟨Ba, 0, none⟩) 4 4) := hk3.2.trans hsr
        clear hcx hsc
        gi_wp2
        have hq : (3 : Int) - ((k + 1 : Nat) : Int) = (p : Int) - 1 := by have := HP.out; omega
        go_roundw
        case rel => exact ⟨k + 1, by omega, by rw [hq], hb3, hs3, hJ3⟩
        case measure => simp [intOf]
      · gi_wp2
        refine bodyPost_ret (results_none rfl _ _ _) rfl ?_
        exact ⟨⟨_, rfl⟩, .inr ⟨_, trivial, hJx3⟩⟩
    · obtain rfl : k = 4 := by omega
      gi_wp2
      go_end0
      exact ⟨⟨_, rfl⟩, .inl ⟨_, rfl, hJs⟩⟩

set_option maxHeartbeats 1000000 in
theorem backward_in (F : Fence) (m : Nat) (h : F.fn 61) (hro : F.round = none) (sv : Value) (hsv : ∃ a l c, sv = .slice a l c) (w : World) :
    CallsIn F m Try.prog 61 #[sv] w fun e w' => e = .returned (.func (.func 71) #[] #[.pointer (some ⟨w.heap.size, 0, none⟩)]) ∧ w' = w.alloc (.cells #[sv] 112) := by
  obtain ⟨a, l, c, rfl⟩ := hsv
  refine callsIn_of_wp Try.func61 rfl h ?_ hro
  simp only [Try.ntmps61, List.size_toArray, List.length_cons, List.length_nil, Nat.reduceAdd, Nat.reduceSub, Array.replicate_succ, Array.replicate_zero, List.push_toArray, List.append_toArray, List.nil_append, List.cons_append]
  gi_wp2
  go_ret
  exact ⟨rfl, rfl⟩

end Go.Proofs.Ytiibeahgleaonaa

namespace Go.Proofs.Ytiibeahgleaonaa
open Go.RowKit

variable {P : Program} {ops : Array Oper} {md : Region.Mode}

/-- No operation of these is a defer statement. -/
def noDefer (l : List Oper) : Bool := l.all fun o => match o.op with | .defer _ => false | _ => true
theorem noDefer_at {l : List Oper} (h : noDefer l = true) {i : Nat} {o : Oper} (ho : l[i]? = some o) (c : Call) : o.op ≠ .defer c := by
  intro e
  have := List.all_eq_true.1 h o (List.mem_of_getElem? ho)
  rw [e] at this
  cases this

theorem rowsIn_wide {n : Nat} {row : String} {args : Array Value} {w : World} {R : Value → World → Prop} (h : Go.Rows P row args w R) : RowsIn Fence.wide n P row args w R :=
  fun c cs _ => let ⟨v, w', r, s⟩ := h c cs; ⟨v, w', r, stepsIn_wide.2 s⟩

theorem Oper.wpIn_round {r n : Nat} {o : Oper} {a : Act} {w : World} {K : Act → World → Prop} {Q : Exit → Act → World → Prop} (hd : ∀ c, o.op ≠ .defer c) (h : o.wp P a w K Q) : o.wpIn (Fence.wide.inRound r) n P a w K Q := by
  refine ⟨fun _ _ => trivial, ?_⟩
  rw [Oper.semAt_eq _ _ _ hd]
  unfold Oper.wp at h
  generalize (execOp a.eval o).run P w = res at *
  cases res with
  | ok x w' =>
    cases x <;> simp only [Oper.upon, Oper.uponIn] at h ⊢ <;> first | exact h | exact ⟨fun e => (by cases e), (callsIn_wide (n := n - 1)).2 h⟩ | exact ⟨fun e => (by cases e), rowsIn_wide h⟩ | exact h.elim
  | halt x w' => cases x <;> simp only [Oper.upon, Oper.uponIn] at h ⊢ <;> exact h

theorem wpOpIn_round {r n : Nat} {l : List Oper} {Q : Exit → Act → World → Prop} {i : Nat} {K : Act → World → Prop} {a : Act} {w : World} (hd : noDefer l = true) (hq : ¬ LetsOut Q) (h : wpOp P l.toArray Q i K a w) :
    wpOpIn (Fence.wide.inRound r) n P l.toArray Q i K a w := by
  unfold wpOp at h
  unfold wpOpIn
  split
  · rename_i ho; simp only [ho] at h; exact h
  · rename_i o ho
    simp only [ho] at h
    split
    · rename_i hw; simp only [hw, if_true] at h
      exact Oper.wpIn_round (noDefer_at hd (by simpa using ho)) (h.resolve_right fun hh => hq hh.2)
    · rename_i hw; simp only [hw] at h; exact ⟨fun _ _ => trivial, h⟩

theorem wpAnyIn_round {r n : Nat} {l : List Oper} {Q : Exit → Act → World → Prop} (hd : noDefer l = true) (hq : ¬ LetsOut Q) : ∀ (fuel : Nat) (listed : Array Bool) (a : Act) (w : World),
    wpAny P md l.toArray Q fuel listed a w → wpAnyIn (Fence.wide.inRound r) n P md l.toArray Q fuel listed a w
  | 0, _, _, _, h => h
  | fuel + 1, _, _, _, h => ⟨h.1, fun i hi => wpOpIn_mono (fun a w => wpAnyIn_round hd hq fuel _ a w) (wpOpIn_round hd hq (h.2 i hi))⟩

/-- In a round: the first k operations read and call quietly, in whatever order; the others come in one order. -/
theorem wpIn_round_still_tail {r n id : Nat} {Q : Exit → Act → World → Prop} {a : Act} {w : World} {l : List Oper} (k : Nat) (hm : P.follows .mixedOrders = true) (hd : noDefer l = true) (hB : Region.lexTailB .any l.toArray k = true)
    (h : wpStill P l.toArray w.drew (fun a' => wpList P l.toArray (Exit.then (fun a w => Q .normal a w) (fun _ _ _ => False)) (l.drop k) a' w.drew) (l.take k) a) : (Code.region id l.toArray true).wpIn (Fence.wide.inRound r) n P Q a w := by
  simp only [Region.lexTailB, Bool.and_eq_true, decide_eq_true_eq] at hB
  obtain ⟨⟨⟨⟨hsel, hn⟩, hs⟩, hc⟩, hlex⟩ := hB
  have hn' : k < l.length := by simpa using hn
  have htl : (l.take k).length = k := by simp; omega
  have hdl : (l.drop k).length = l.toArray.size - k := by simp
  have inv0 : HeadInv .any l.toArray k (Array.replicate l.toArray.size false) :=
    ⟨by simp, fun j oj _ hl => (by rw [getD_replicate_false] at hl; cases hl), fun t _ ht => getD_in (by simpa using ht) (getD_replicate_false _ _)⟩
  have H := wpAnyL_lex (md := .any) (g := l.toArray.size - k) hsel hs hc hn (l.take k) 0 _ a (fun j hj => by
    rw [htl] at hj; simp [hj]) (by simpa using htl) inv0 (by rw [htl]; exact hlex) h
  have T := wpAny_of_head (Q' := Exit.then (fun a w => Q .normal a w) (fun _ _ _ => False)) (g := l.toArray.size - k) (fun listed a' hL => by
    have := wpAny_of_seq (md := .any) (Q' := Exit.then (fun a w => Q .normal a w) (fun _ _ _ => False)) (l.drop k) k listed a' w.drew (fun j => by simp [List.getElem?_drop]) (by rw [hdl]; exact hL.1) hL.2
    rwa [hdl] at this) _ _ _ H
  rw [htl, show k + (l.toArray.size - k) = l.toArray.size by omega] at T
  refine wpIn_mono (wpIn_region_any (Q := Exit.then (fun a w => Q .normal a w) (fun _ _ _ => False)) hm (wpAnyIn_round hd (fun ⟨_, _, h⟩ => h) _ _ _ _ T)) ?_
  intro e a w hq
  cases e <;> first | exact hq | exact hq.elim

/-- In a round, a region that draws: whatever order comes. -/
theorem wpIn_round_any {r n id : Nat} {Q : Exit → Act → World → Prop} {a : Act} {w : World} {l : List Oper} (hm : P.follows .mixedOrders = true) (hd : noDefer l = true)
    (h : wpAny P .any l.toArray (Exit.then (fun a w => Q .normal a w) (fun _ _ _ => False)) l.length (Array.replicate l.length false) a w.drew) : (Code.region id l.toArray true).wpIn (Fence.wide.inRound r) n P Q a w := by
  refine wpIn_mono (wpIn_region_any (Q := Exit.then (fun a w => Q .normal a w) (fun _ _ _ => False)) hm (wpAnyIn_round hd (fun ⟨_, _, h⟩ => h) _ _ _ _ (by simpa using h))) ?_
  intro e a w hq
  cases e <;> first | exact hq | exact hq.elim

end Go.Proofs.Ytiibeahgleaonaa

namespace Go.Proofs.Ytiibeahgleaonaa
open Go.RowKit Go.Shelf
attribute [local go_sem] Oper.semAt_some

theorem octets_any (n s : Int) (w : World) :
    Calls Try.prog 60 #[.int .u64 n, .int .i64 s] w fun e w' => e = .returned (.func (.func 70) #[] #[.pointer (some ⟨w.heap.size + 1, 0, none⟩), .pointer (some ⟨w.heap.size, 0, none⟩)]) ∧ w' = (w.alloc (.cells #[.int .u64 n] 22)).alloc (.cells #[.int .i64 s] 3) :=
  callsIn_wide.1 (octets_in Fence.wide 1 trivial rfl n s w)
theorem appendSeq_any (n₀ k x s : Nat) (hk : k ≤ 1000000) (hs : s ≤ 8) (sv : Value) (xs : List Value) (Bn Bs : Nat) (w : World) (hn₀ : n₀ ≤ w.heap.size) (hrow : w.ownsRow n₀ 5 1 sv k xs)
    (kn : Boxed w Bn 22 (.int .u64 (x : Nat))) (ks : Boxed w Bs 3 (.int .i64 (s : Nat))) :
    Calls Try.prog 62 #[sv, .func (.func 70) #[] #[.pointer (some ⟨Bs, 0, none⟩), .pointer (some ⟨Bn, 0, none⟩)]] w (SeqW n₀ (k + s) (xs ++ (octs x s).map bv) w) :=
  callsIn_wide.1 (appendSeq_in 3 (by omega) n₀ k x s hk hs sv xs Bn Bs w hn₀ hrow kn ks)

/-- The words' octets. -/
def wOcts (pre : List PW) : List UInt8 := (pre.map fun x => octs x.1.2 8).flatten
theorem wOcts_snoc (pre : List PW) (x : PW) : wOcts (pre ++ [x]) = wOcts pre ++ octs x.1.2 8 := by simp [wOcts]
theorem wOcts_length (pre : List PW) : (wOcts pre).length = 8 * pre.length := by
  induction pre with
  | nil => rfl
  | cons x l ih => simp only [wOcts, List.map_cons, List.flatten_cons, List.length_append, octs_length, List.length_cons] at ih ⊢; omega
def wide8 (a0 a1 a2 a3 : Nat) : List UInt8 := octs a3 8 ++ (octs a2 8 ++ (octs a1 8 ++ octs a0 8))
theorem wOcts_downs {a0 a1 a2 a3 : Nat} (ha : Ok4 a0 a1 a2 a3) : wOcts (downs ha) = wide8 a0 a1 a2 a3 := by
  simp [wOcts, downs, pw, wide8]

/-- Between two rounds. -/
def BWI (N B3 Bs a0 a1 a2 a3 : Nat) (w : World) (pre : List PW) (W : World) : Prop :=
  ((∃ v, Boxed W B3 27 v ∧ W.ownsRow N 5 1 v (8 * pre.length) ((wOcts pre).map bv) ∧ True) ∧ BlkW W N a0 a1 a2 a3 ∧ Boxed W Bs 112 (.slice (some ⟨N, 0, none⟩) 4 4)) ∧ Below N w W
theorem bwI_own {N B3 Bs a0 a1 a2 a3 : Nat} {w : World} {B : Nat} (h : N ≤ w.heap.size) (hB : N ≤ B) : OwnFrom B (BWI N B3 Bs a0 a1 a2 a3 w) :=
  OwnFrom.and (OwnFrom.and (Own.from (holdsRow_own N B3 27 5 1 (fun pre : List PW => 8 * pre.length) (fun pre => (wOcts pre).map bv) (fun _ _ => True)) _)
    (OwnFrom.and (Own.from (fun _ X Y row hs hg hr => blk_own N 24 (fun (_ : Unit) => [.int .u64 (a0 : Int), .int .u64 (a1 : Int), .int .u64 (a2 : Int), .int .u64 (a3 : Int)]) () X Y row hs hg hr) _)
      (Own.from (fun _ X Y row hs hg hr => blk_own Bs 112 (fun (_ : Unit) => [.slice (some ⟨N, 0, none⟩) 4 4]) () X Y row hs hg hr) _))) (ownFrom_below h hB)

set_option maxRecDepth 100000 in
set_option maxHeartbeats 4000000 in
theorem blobWide_in (m : Nat) (hm : 4 ≤ m) {a0 a1 a2 a3 : Nat} (ha : Ok4 a0 a1 a2 a3) (w : World) :
    CallsIn Fence.wide m Try.prog 43 #[wv a0 a1 a2 a3] w (ByW (wide8 a0 a1 a2 a3) w) := by
  have h1 : 1 ≤ m := by omega
  refine callsIn_of_wp_marks Try.func43 rfl trivial ?_ rfl
  simp only [Try.ntmps43, List.size_toArray, List.length_cons, List.length_nil, Nat.reduceAdd, Nat.reduceSub, Array.replicate_succ, Array.replicate_zero, List.push_toArray, List.append_toArray, List.nil_append, List.cons_append]
  obtain ⟨i0, hi, hz0, hz1, hz2⟩ := info_parts Try.infoByte
  gi_wp2_with (first
    | (gi_at_make; refine wpListIn_make_own _ rfl _ _ 27 rfl w.heap.size 5 i0 (.int .u8 0) 1 Try.underlying27 hi hz0 hz1 .i64 .i64 32 32 rfl rfl rfl (by rw [hz2]; omega) (by unfold maxLen; omega) (by simp) ?_; intro w1 hown hgrow)
    | (refine ⟨trivial, ?_⟩; gi_at_call 61; refine (backward_in Fence.wide (m - 1) trivial rfl _ ⟨_, _, _, rfl⟩ _).mono ?_; rintro e w' ⟨rfl, rfl⟩))
  have e1 : w.heap.size + 1 ≤ w1.heap.size := by have := hgrow.size; simpa using this
  have kA1 : BlkW w1 w.heap.size a0 a1 a2 a3 := Blk.kept (Blk.new' rfl) hgrow (by simp)
  have hB1 : Below w.heap.size w w1 := (chain0 w _).grown hgrow (by simp) (fun k e => by cases e)
  generalize hW5 : World.alloc (World.alloc _ _) _ = W5
  have k0 : Boxed W5 w1.heap.size 27 (.slice (some ⟨w.heap.size + 1, 0, none⟩) 0 32) := by rw [← hW5]; exact (Boxed.new _ _ _).alloc _
  have k1 : Boxed W5 (w1.heap.size + 1) 112 (.slice (some ⟨w.heap.size, 0, none⟩) 4 4) := by rw [← hW5]; exact Blk.new' (vs := [_]) (by simp)
  have kA : BlkW W5 w.heap.size a0 a1 a2 a3 := by rw [← hW5]; exact (kA1.alloc _).alloc _
  have hB0 : Below w.heap.size w W5 := by rw [← hW5]; exact chainA (chainA hB1 _) _
  have hown5 : W5.ownsRow w.heap.size 5 1 (.slice (some ⟨w.heap.size + 1, 0, none⟩) 0 32) 0 [] := by rw [← hW5, show w.heap.size + 1 = (w.alloc (.cells #[.int .u64 (a0 : Int), .int .u64 (a1 : Int), .int .u64 (a2 : Int), .int .u64 (a3 : Int)] 24)).heap.size by simp]; exact (hown.alloc _).alloc _
  have hz : W5.heap.size = w1.heap.size + 2 := by rw [← hW5]; simp
  clear hW5 hgrow
  have hmx : Try.prog.follows .mixedOrders = true := by kernel_rfl
  refine wpIn_rangeFunc_ownF (S := fun ys => ys = downs ha) rfl h1 (gf := 71) (lb := #[.pointer (some ⟨w1.heap.size + 1, 0, none⟩)]) rfl trivial (enters_of Try.func71 (by kernel_rfl) rfl)
    (backward1_stops Fence.wide (m - 1) trivial rfl (by omega) ha w.heap.size (w1.heap.size + 1) W5 kA k1) KeepB2.t (KeepB2.b kA.lt k1.lt) (Below.refl _ _) (fun _ => rfl)
    (BWI w.heap.size w1.heap.size (w1.heap.size + 1) a0 a1 a2 a3 w) (fun _ _ _ => False) (bwI_own (Nat.le_refl _) (by omega)) (fun _ _ _ _ _ hs _ _ => hs)
    ⟨⟨⟨_, k0, hown5, trivial⟩, kA, k1⟩, hB0⟩ ?_ ?_ ?_ ?_ ?_
  rotate_left
  · intro l x W K hK
    gi_wp2
    exact hK
  · rintro l pre ⟨⟨i, x⟩, hix⟩ W ⟨⟨⟨v, kv, hown, _⟩, kA, kS⟩, hB⟩ hlt
    have ko := kv.cell
    have kf := kv.frozen
    have l3 := kv.lt
    have hNW : w.heap.size ≤ W.heap.size := hB.size
    gi_wp2_with fail
    refine wpIn_round_any hmx (by kernel_rfl) ?_
    refine wpAny_take (i := 1) (v := ?_) rfl (by kernel_rfl) (by kernel_rfl) (by kernel_rfl) (fun _ _ _ h => h) (Or.inl ⟨rfl, ?_⟩) ?_
    rotate_left
    · intro w'; go_simp; with_reducible rfl
    refine wpAny_ready (rs := [0, 2]) (by kernel_rfl) (by simp) ?_
    refine AllReady.cons rfl (fun K hK => ?_) (AllReady.cons rfl (fun K hK => ?_) AllReady.nil)
    go_simp
    refine hK _ _ ?_
    clear hK K
    refine wpAny_ready (rs := [2]) (by kernel_rfl) (by simp) ?_
    refine AllReady.cons rfl (fun K hK => ?_) AllReady.nil
    go_simp
    refine (octets_any _ _ _).mono ?_
    rintro e w2 ⟨rfl, rfl⟩
    refine hK _ _ ?_
    clear hK K
    rotate_left
    go_simp
    refine (octets_any _ _ _).mono ?_
    rintro e w2 ⟨rfl, rfl⟩
    refine hK _ _ ?_
    clear hK K
    refine wpAny_ready (rs := [0]) (by kernel_rfl) (by simp) ?_
    refine AllReady.cons rfl (fun K hK => ?_) AllReady.nil
    go_simp
    refine hK _ _ ?_
    clear hK K
    rotate_left
    all_goals
      refine wpAny_ready (rs := [3]) (by kernel_rfl) (by simp) ?_
      refine AllReady.cons rfl (fun K hK => ?_) AllReady.nil
      go_simp
      have kv2 : Boxed ((W.drew.alloc (.cells #[.int .u64 (x : Int)] 22)).alloc (.cells #[.int .i64 8] 3)) w1.heap.size 27 v := (Boxed.alloc (W := W.drew) kv _).alloc _
      have hsp2 : Spares 5 W ((W.drew.alloc (.cells #[.int .u64 (x : Int)] 22)).alloc (.cells #[.int .i64 8] 3)) := Spares.of_below ((((Below.refl _ W).drew).alloc (Nat.le_refl _) _).alloc (by simp) _)
      have hb2 : Below w.heap.size W ((W.drew.alloc (.cells #[.int .u64 (x : Int)] 22)).alloc (.cells #[.int .i64 8] 3)) := (((Below.refl _ W).drew).alloc (by simpa using hNW) _).alloc (by simp; omega) _
      refine (appendSeq_any w.heap.size (8 * pre.length) x 8 (by omega) (by omega) v ((wOcts pre).map bv) _ _ _ (by simp; omega) ((World.ownsRow.alloc (w := W.drew) hown _).alloc _) ((Boxed.new W.drew _ _).alloc _) (Blk.new' (vs := [_]) (by simp))).mono ?_
      rintro e w3 ⟨v', rfl, hown3, hb3, hsp3⟩
      refine hK _ _ ?_
      clear hK K
      have hsp := hsp2.t hsp3
      have hbb := hb2.trans hb3
      clear hsp2 hsp3 hb2 hb3
      have kv3 := hsp.boxed kv (by decide)
      have kA3 := hsp.blk kA (by decide)
      have kS3 := hsp.boxed kS (by decide)
      have ko3 := kv3.cell
      have kf3 := kv3.frozen
      obtain ⟨a, c, rfl⟩ := ownsRow_slice hown3
      have HW := Lib.hid (wOcts_snoc pre ⟨(i, x), hix⟩)
      refine wpAny_ready (rs := [4]) (by kernel_rfl) (by simp) ?_
      refine AllReady.cons rfl (fun K hK => ?_) AllReady.nil
      go_simp
      refine hK _ _ ?_
      clear hK K
      refine wpAny_done (by kernel_rfl) ?_ _
      have hge : w.heap.size < w1.heap.size := by omega
      have hgS := grownBy_setCell' w3 w1.heap.size (.slice a (8 * pre.length + 8) c)
      have qv := kv3.set (.slice a (8 * pre.length + 8) c)
      have qA := Blk.other kA3 (B' := w1.heap.size) 0 (.slice a (8 * pre.length + 8) c) (by omega)
      have qS := kS3.kept hgS (by simp)
      have qo := hown3.kept hgS (.inr (Boxed.not_row kv3 (by decide) hown3).symm)
      refine ⟨hsp.others.trans (KeepsOthers.setCell _ _ _), ⟨qA.trans kA.symm, qS.trans kS.symm⟩, ⟨⟨_, qv, ?_, trivial⟩, qA, qS⟩, hB.trans (hbb.setCell (p := ⟨w1.heap.size, 0, none⟩) (by simp; omega) _)⟩
      rw [HW.out, List.map_append, List.length_append, Nat.mul_add]
      exact qo
  · rintro D ys W hD rfl ⟨⟨⟨v, kv, hown, _⟩, kA, kS⟩, hB⟩ hK
    have ko := kv.cell
    have HZ := Lib.hid hz
    clear hz
    gi_wp2
    have hB' := hB.trans (belowK_b (w := w) (Nat.le_refl _) _ D _ (.deferred none) (by have := HZ.out; omega) hK rfl rfl)
    have hown3 := ownsRow_putObj hown (.deferred none) hK rfl
    rw [← wOcts_length, wOcts_downs] at hown3
    refine ⟨by simp, .inl ⟨_, _, rfl, run_takeDeferred hK, ?_⟩⟩
    refine ⟨v, ?_, ?_⟩
    · simp [results, Try.f43, go_sem]
    · exact ⟨v, rfl, BSl.of_own hown3, hB'⟩
  · rintro D c pre W _ _ h _
    exact h.elim

theorem blobWide_any {a0 a1 a2 a3 : Nat} (ha : Ok4 a0 a1 a2 a3) (w : World) : Calls Try.prog 43 #[wv a0 a1 a2 a3] w (ByW (wide8 a0 a1 a2 a3) w) := callsIn_wide.1 (blobWide_in 4 (by omega) ha w)

end Go.Proofs.Ytiibeahgleaonaa

namespace Go.Proofs.Ytiibeahgleaonaa
open Go.RowKit Go.Shelf

abbrev St := List UInt8 × Int
def errS (s : St) (x : Int) : St := if s.2 = 0 then ([], x) else s
def addS (s : St) (l : List UInt8) : St := if s.2 = 0 then (if s.1.length + l.length ≤ 8192 then (s.1 ++ l, 0) else ([], 5)) else s
def numS (s : St) (n : Int) : St := if 0 ≤ n ∧ n ≤ 1099511627776 then addS s (octs (two n) 6) else errS s 4
def txtS (s : St) (t : ByteArray) : St := if t.size ≤ 1024 then addS s (octs t.size 2 ++ t.data.toList) else errS s 5
def wideS (s : St) (a0 a1 a2 a3 : Nat) : St := addS s (wide8 a0 a1 a2 a3)
/-- What is taken: octets, and the state behind it. -/
def takeS (s : St) (n : Nat) : List UInt8 × St := if s.2 = 0 then (if n ≤ s.1.length then (s.1.take n, (s.1.drop n, 0)) else ([], ([], 16))) else ([], s)
def mostS (s : St) (size : Nat) (most : Int) : Nat × St :=
  if (takeS s size).2.2 = 0 ∧ most < (be ((takeS s size).1.take 7) : Int) then (0, ([], 4)) else (be ((takeS s size).1.take 7), (takeS s size).2)
def gtxtS (s : St) (most : Int) : List UInt8 × St := takeS (mostS s 2 most).2 (mostS s 2 most).1

/-- A state that can be: behind an error there is nothing; there are no more octets than may be. -/
def OkS (s : St) : Prop := (s.2 ≠ 0 → s.1 = []) ∧ s.1.length ≤ 8192
theorem okS_err {s : St} (h : OkS s) (x : Int) : OkS (errS s x) := by
  unfold errS; split
  · exact ⟨fun _ => rfl, by simp⟩
  · exact h
theorem okS_add {s : St} (h : OkS s) (l : List UInt8) : OkS (addS s l) := by
  unfold addS; split
  · split
    · exact ⟨fun k => absurd rfl k, by simpa using ‹_›⟩
    · exact ⟨fun _ => rfl, by simp⟩
  · exact h
theorem okS_num {s : St} (h : OkS s) (n : Int) : OkS (numS s n) := by
  unfold numS; split
  · exact okS_add h _
  · exact okS_err h _
theorem okS_txt {s : St} (h : OkS s) (t : ByteArray) : OkS (txtS s t) := by
  unfold txtS; split
  · exact okS_add h _
  · exact okS_err h _
theorem okS_wide {s : St} (h : OkS s) (a0 a1 a2 a3 : Nat) : OkS (wideS s a0 a1 a2 a3) := okS_add h _
theorem okS_take {s : St} (h : OkS s) (n : Nat) : OkS (takeS s n).2 := by
  unfold takeS; split
  · split
    · refine ⟨fun k => absurd rfl k, ?_⟩
      have := h.2
      simp only [List.length_drop]; omega
    · exact ⟨fun _ => rfl, by simp⟩
  · exact h
theorem okS_most {s : St} (h : OkS s) (n : Nat) (m : Int) : OkS (mostS s n m).2 := by
  unfold mostS; split
  · exact ⟨fun _ => rfl, by simp⟩
  · exact okS_take h n
theorem okS_gtxt {s : St} (h : OkS s) (m : Int) : OkS (gtxtS s m).2 := okS_take (okS_most h _ _) _
theorem addS_bad {s : St} (h : s.2 ≠ 0) (l : List UInt8) : addS s l = s := if_neg h
theorem errS_bad {s : St} (h : s.2 ≠ 0) (x : Int) : errS s x = s := if_neg h
theorem takeS_bad {s : St} (h : s.2 ≠ 0) (n : Nat) : takeS s n = ([], s) := if_neg h
theorem takeS_short {s : St} (h : s.2 = 0) {n : Nat} (k : s.1.length < n) : takeS s n = ([], ([], 16)) := by
  unfold takeS; rw [if_pos h, if_neg (by omega)]
theorem takeS_ok {s : St} (h : s.2 = 0) {n : Nat} (k : n ≤ s.1.length) : takeS s n = (s.1.take n, (s.1.drop n, 0)) := by
  unfold takeS; rw [if_pos h, if_pos k]
theorem takeS_len (s : St) (n : Nat) : (takeS s n).1.length ≤ n := by
  unfold takeS; split
  · split
    · simp only [List.length_take]; omega
    · simp
  · simp

theorem BSl.shape {lo hi : Nat} {W : World} {sv : Value} {l : List UInt8} (h : BSl lo hi W sv l) : ∃ a c, sv = .slice a l.length c ∧ l.length ≤ c := by
  obtain ⟨a, c, e, hc, _⟩ := h
  exact ⟨a, c, e, hc⟩
theorem BSl.shape3 {lo hi : Nat} {W : World} {sv : Value} {l : List UInt8} (h : BSl lo hi W sv l) : ∃ a m c, sv = .slice a m c := by
  obtain ⟨a, c, e, _⟩ := h
  exact ⟨a, _, c, e⟩
theorem takeS_err {s : St} {n : Nat} (h : (takeS s n).2.2 ≠ 0) : (takeS s n).1 = [] := by
  unfold takeS at *; split
  · rename_i h0
    rw [if_pos h0] at h
    split
    · rename_i h1
      rw [if_pos h1] at h
      exact absurd rfl h
    · rfl
  · rfl
/-- The block of r has no octet among its cells. -/
def NoOct (W : World) (r : Nat) : Prop := ∀ i x, W.cell? ⟨r, i, none⟩ ≠ some (bv x)
theorem BSl.to {lo hi : Nat} {W W' : World} {row : Option Nat} {sv : Value} {l : List UInt8} (h : BSl lo hi W sv l) (hhi : hi ≤ W.heap.size) (hg : W.grownBy W' row) (hne : ∀ r, row = some r → NoOct W r) : BSl lo hi W' sv l := by
  obtain ⟨a, cap, e, hc, h0 | ⟨b, off, ha, hl, hh, ho⟩⟩ := h
  · exact ⟨a, cap, e, hc, .inl h0⟩
  · refine ⟨a, cap, e, hc, ?_⟩
    by_cases hl0 : l = []
    · exact .inl hl0
    · refine .inr ⟨b, off, ha, hl, hh, ho.kept (by omega) hg (fun e' => ?_)⟩
      obtain ⟨x, l', rfl⟩ : ∃ x l', l = x :: l' := List.exists_cons_of_ne_nil hl0
      exact hne b e'.symm (off + 0) x (ho 0 x rfl)
theorem noOct_blk {W : World} {B : Nat} {t : TypeId} {vs : List Value} (h : Blk W B t vs) (hv : ∀ v ∈ vs, ∀ x, v ≠ bv x) : NoOct W B := fun i x e => by
  rw [h.cell i] at e
  exact hv _ (List.mem_of_getElem? e) x rfl

/-- The object that p leads to (an Out, or an In) has this state; what nobody made has none, and ErrState. -/
def ObjP (T : TypeId) (W : World) (p : Option Addr) (s : St) : Prop :=
  (p = none ∧ s = ([], 9)) ∨ ∃ B m a n c x, p = some ⟨B, 0, none⟩ ∧ Blk W B T [.bool m, .slice a n c, .int .i64 x] ∧
    ((m = false ∧ s = ([], 9)) ∨ (m = true ∧ s.2 = x ∧ OkS s ∧ BSl 0 W.heap.size W (.slice a n c) s.1))
theorem ObjP.ok {T : TypeId} {W : World} {p : Option Addr} {s : St} (h : ObjP T W p s) : OkS s := by
  rcases h with ⟨_, rfl⟩ | ⟨B, m, a, n, c, x, _, _, ⟨_, rfl⟩ | ⟨_, _, h, _⟩⟩
  · exact ⟨fun _ => rfl, by simp⟩
  · exact ⟨fun _ => rfl, by simp⟩
  · exact h
theorem noOct3 {W : World} {B : Nat} {T : TypeId} {m : Bool} {a : Option Addr} {n c : Nat} {x : Int} (h : Blk W B T [.bool m, .slice a n c, .int .i64 x]) : NoOct W B := noOct_blk h (by
  intro v hv y
  simp only [List.mem_cons, List.not_mem_nil, or_false] at hv
  rcases hv with rfl | rfl | rfl <;> simp [bv])
theorem grew {W W' : World} (h : Below W.heap.size W W') (row : Option Nat) : W.grownBy W' row := ⟨h.os, h.tape, h.output, h.size, fun k hk _ => h.block k hk⟩
theorem Blk.c3 {W : World} {B : Nat} {t : TypeId} {v0 v1 v2 : Value} (h : Blk W B t [v0, v1, v2]) :
    W.cell? ⟨B, 0, none⟩ = some v0 ∧ W.cell? ⟨B, 1, none⟩ = some v1 ∧ W.cell? ⟨B, 2, none⟩ = some v2 := ⟨h.cell 0, h.cell 1, h.cell 2⟩
/-- What is written beside it, and new, leaves it. -/
theorem ObjP.to {T : TypeId} {W W' : World} {p : Option Addr} {s : St} {row : Option Nat} (h : ObjP T W p s) (hg : W.grownBy W' row) (hne : ∀ r, row = some r → NoOct W r ∧ p.map (·.block) ≠ some r) : ObjP T W' p s := by
  rcases h with h | ⟨B, m, a, n, c, x, rfl, hb, hs⟩
  · exact .inl h
  · refine .inr ⟨B, m, a, n, c, x, rfl, hb.kept hg (fun e => (hne B e.symm).2 rfl), ?_⟩
    rcases hs with h | ⟨hm, hx, hok, hsl⟩
    · exact .inl h
    · exact .inr ⟨hm, hx, hok, (hsl.to (Nat.le_refl _) hg (fun r e => (hne r e).1)).mono (Nat.le_refl _) hg.size⟩
theorem ObjP.below {T : TypeId} {W W' : World} {p : Option Addr} {s : St} (h : ObjP T W p s) (hb : Below W.heap.size W W') : ObjP T W' p s := h.to (grew hb none) (fun _ e => by cases e)
/-- A method that hands back nothing: the object's state is s behind it; nothing else has turned. -/
def DidS (T : TypeId) (p : Option Addr) (s : St) (w : World) (e : Ending) (W' : World) : Prop :=
  e = .returned (.tuple #[]) ∧ ObjP T W' p s ∧ w.grownBy W' (p.map (·.block))
/-- Word i of 32 octets; 0, if there are not so many. -/
def wdS (l : List UInt8) (i : Nat) : Nat := if l.length = 32 then uwd l 32 i else 0
theorem ptr_lt {T : TypeId} {W : World} {p : Option Addr} {s : St} (h : ObjP T W p s) {n : Nat} (hn : W.heap.size ≤ n) : some n ≠ p.map (·.block) := by
  rcases h with ⟨rfl, _⟩ | ⟨B, m, a, n', c, x, rfl, hb, _⟩
  · simp
  · intro e
    have := hb.lt
    have : n = B := by simpa using e
    omega
theorem noOct4 {W : World} {B : Nat} {T : TypeId} {b0 b1 b2 b3 : Int} (h : Blk W B T [.int .u64 b0, .int .u64 b1, .int .u64 b2, .int .u64 b3]) : NoOct W B := noOct_blk h (by
  intro v hv y
  simp only [List.mem_cons, List.not_mem_nil, or_false] at hv
  rcases hv with rfl | rfl | rfl | rfl <;> simp [bv])
end Go.Proofs.Ytiibeahgleaonaa

namespace Go.Proofs.Ytiibeahgleaonaa
open Go.RowKit Go.Shelf

structure Trf where
  us : Int
  rt : ByteArray
  ro : Int
  se : Int
  re : Int
  to : Int
  id : ByteArray
/-- A transfer as a value. -/
abbrev ivv (i : Trf) : Value := .agg #[.int .i64 i.us, .string i.rt, .int .i64 i.ro, .int .i64 i.se, .int .i64 i.re, .int .i64 i.to, .string i.id]
/-- Its cells. -/
abbrev ivc (i : Trf) : List Value := [.int .i64 i.us, .string i.rt, .int .i64 i.ro, .int .i64 i.se, .int .i64 i.re, .int .i64 i.to, .string i.id]
structure OkI (i : Trf) : Prop where
  rs : i.rt.size ≤ 140737488351232
  is : i.id.size ≤ 140737488351232
def emptyB : ByteArray := ⟨#[]⟩
def noI : Trf := ⟨0, ⟨#[]⟩, 0, 0, 0, 0, ⟨#[]⟩⟩
def maybeI (i : Trf) : Prop := (0 ≤ i.us ∧ i.us ≤ 1) ∧ i.rt.size = 8 ∧ (2 ≤ i.ro ∧ i.ro ≤ 3) ∧ (0 ≤ i.se ∧ i.se ≤ 1) ∧ (0 ≤ i.re ∧ i.re ≤ 1) ∧ (0 ≤ i.to ∧ i.to ≤ 7) ∧ 1 ≤ i.id.size ∧ i.id.size ≤ 16
instance (i : Trf) : Decidable (maybeI i) := by unfold maybeI; infer_instance
def errI (i : Trf) : Int := if maybeI i then 0 else 39
theorem errI_zero {i : Trf} (h : maybeI i) : errI i = 0 := if_pos h
theorem errI_bad {i : Trf} (h : ¬ maybeI i) : errI i = 39 := if_neg h

structure Sid where
  a0 : Nat
  a1 : Nat
  a2 : Nat
  a3 : Nat
  x : Int
abbrev svv (v : Sid) : Value := .agg #[.int .u64 (v.a0 : Nat), .int .u64 (v.a1 : Nat), .int .u64 (v.a2 : Nat), .int .u64 (v.a3 : Nat), .int .i64 v.x]
abbrev svc (v : Sid) : List Value := [.int .u64 (v.a0 : Nat), .int .u64 (v.a1 : Nat), .int .u64 (v.a2 : Nat), .int .u64 (v.a3 : Nat), .int .i64 v.x]
def noV : Sid := ⟨0, 0, 0, 0, 0⟩
def maybeV (v : Sid) : Prop := ¬ (v.a0 = 0 ∧ v.a1 = 0 ∧ v.a2 = 0 ∧ v.a3 = 0) ∧ 0 ≤ v.x ∧ v.x ≤ 1099511627776
instance (v : Sid) : Decidable (maybeV v) := by unfold maybeV; infer_instance
def errV (v : Sid) : Int := if maybeV v then 0 else 36
theorem errV_zero {v : Sid} (h : maybeV v) : errV v = 0 := if_pos h
theorem errV_bad {v : Sid} (h : ¬ maybeV v) : errV v = 36 := if_neg h

/-- The texts "inv", "act". -/
def invB : ByteArray := ⟨#[105, 110, 118]⟩
def actB : ByteArray := ⟨#[97, 99, 116]⟩
def putI1 (s : St) (i : Trf) : St := txtS (numS (txtS s invB) i.us) i.rt
def putI2 (s : St) (i : Trf) : St := numS (numS (numS (numS s i.ro) i.se) i.re) i.to
def putI (s : St) (i : Trf) : St := txtS (putI2 (putI1 s i) i) i.id
def putV (s : St) (v : Sid) : St := numS (wideS s v.a0 v.a1 v.a2 v.a3) v.x
def paySt (act : Int) (key : ByteArray) (a0 a1 a2 a3 : Nat) : St := wideS (txtS (numS (txtS ([], 0) actB) act) key) a0 a1 a2 a3
theorem okS_new : OkS ([], 0) := ⟨fun _ => rfl, by simp⟩
theorem okS_putI1 {s : St} (h : OkS s) (i : Trf) : OkS (putI1 s i) := okS_txt (okS_num (okS_txt h _) _) _
theorem okS_putI2 {s : St} (h : OkS s) (i : Trf) : OkS (putI2 s i) := okS_num (okS_num (okS_num (okS_num h _) _) _) _
theorem okS_putI {s : St} (h : OkS s) (i : Trf) : OkS (putI s i) := okS_txt (okS_putI2 (okS_putI1 h i) i) _
theorem okS_putV {s : St} (h : OkS s) (v : Sid) : OkS (putV s v) := okS_num (okS_wide h _ _ _ _) _

/-- The number 'most' of a field of a transfer. -/
abbrev big : Int := 1099511627776
def str (l : List UInt8) : ByteArray := ⟨l.toArray⟩
/-- What is read of octets: the first text, the transfer's things, and the state behind. -/
def rd0 (s : St) : List UInt8 × St := gtxtS s 16
def rd1 (s : St) : Nat × St := mostS (rd0 s).2 6 big
def rd2 (s : St) : List UInt8 × St := gtxtS (rd1 s).2 8
def rd3 (s : St) : Nat × St := mostS (rd2 s).2 6 big
def rd4 (s : St) : Nat × St := mostS (rd3 s).2 6 big
def rd5 (s : St) : Nat × St := mostS (rd4 s).2 6 big
def rd6 (s : St) : Nat × St := mostS (rd5 s).2 6 big
def rd7 (s : St) : List UInt8 × St := gtxtS (rd6 s).2 16
def rawI (s : St) : Trf := ⟨(rd1 s).1, str (rd2 s).1, (rd3 s).1, (rd4 s).1, (rd5 s).1, (rd6 s).1, str (rd7 s).1⟩
def goodI (s : St) : Prop := str (rd0 s).1 = invB ∧ maybeI (rawI s)
instance (s : St) : Decidable (goodI s) := by unfold goodI; infer_instance
/-- The transfer that is read, and the state behind it. -/
def getI (s : St) : Trf × St := if (rd7 s).2.2 = 0 ∧ goodI s then (rawI s, (rd7 s).2) else (noI, errS (rd7 s).2 16)
def vd0 (s : St) : List UInt8 × St := takeS s 32
def vd1 (s : St) : Nat × St := mostS (vd0 s).2 6 big
def rawV (s : St) : Sid := ⟨wdS (vd0 s).1 0, wdS (vd0 s).1 1, wdS (vd0 s).1 2, wdS (vd0 s).1 3, (vd1 s).1⟩
def getV (s : St) : Sid × St := if (vd1 s).2.2 = 0 ∧ maybeV (rawV s) then (rawV s, (vd1 s).2) else (noV, errS (vd1 s).2 16)
theorem okS_rd7 {s : St} (h : OkS s) : OkS (rd7 s).2 := okS_gtxt (okS_most (okS_most (okS_most (okS_most (okS_gtxt (okS_most (okS_gtxt h _) _ _) _) _ _) _ _) _ _) _ _) _
theorem okS_vd1 {s : St} (h : OkS s) : OkS (vd1 s).2 := okS_most (okS_take h _) _ _
theorem okS_getI {s : St} (h : OkS s) : OkS (getI s).2 := by
  unfold getI; split
  · exact okS_rd7 h
  · exact okS_err (okS_rd7 h) _
theorem okS_getV {s : St} (h : OkS s) : OkS (getV s).2 := by
  unfold getV; split
  · exact okS_vd1 h
  · exact okS_err (okS_vd1 h) _
end Go.Proofs.Ytiibeahgleaonaa

namespace Go.Proofs.Ytiibeahgleaonaa
open Go.RowKit

theorem Try.infoInt : (Try.prog.info? 3).map (fun i => (i.zero, i.size, i.bytes)) = some (some (.int .i64 0), 1, 8) := by kernel_rfl

/-- The slice value v owns a row of n numbers, f 0, f 1, .. -/
def OR (W : World) (base : Nat) (v : Value) (n : Nat) (f : Nat → Nat) : Prop := W.ownsRow base 3 1 v n ((List.range n).map fun k => Value.int .i64 (f k : Nat))
theorem OR.nil (W : World) (base : Nat) (f : Nat → Nat) : OR W base (.slice none 0 0) 0 f := ⟨rfl, .inl ⟨rfl, rfl⟩⟩
theorem OR.out {W : World} {base : Nat} {v : Value} {n : Nat} {f : Nat → Nat} (h : OR W base v n f) : W.ownsRow base 3 1 v n ((List.range n).map fun k => Value.int .i64 (f k : Nat)) := h
theorem OR.step {W : World} {base : Nat} {v : Value} {n : Nat} {f : Nat → Nat} {x : Int} (h : W.ownsRow base 3 1 v (n + 1) (((List.range n).map fun k => Value.int .i64 (f k : Nat)) ++ [.int .i64 x])) (hx : x = (f n : Nat)) : OR W base v (n + 1) f := by
  unfold OR
  rw [List.range_succ, List.map_append]
  rw [hx] at h
  exact h
theorem OR.alloc {W : World} {base : Nat} {v : Value} {n : Nat} {f : Nat → Nat} (h : OR W base v n f) (o : Obj) : OR (W.alloc o) base v n f := World.ownsRow.alloc h o
theorem OR.grown {W w1 : World} {base n : Nat} {u v' : Value} {f : Nat → Nat} {o : Obj} {x : Int} (hown : OR W base u n f) (hsz : base ≤ W.heap.size)
    (hown' : w1.ownsRow base 3 1 v' (n + 1) (((List.range n).map fun k => Value.int .i64 (f k : Nat)) ++ [.int .i64 x])) (hg : (W.alloc o).grownBy w1 u.ownBlock) (hx : x = (f n : Nat)) :
    OR w1 base v' (n + 1) f ∧ base ≤ w1.heap.size ∧ Below base W w1 := by
  have hb : Below base W w1 := ((Below.refl base W).alloc hsz o).grown hg (by simp; omega) (fun j hj => (World.ownsRow.lt hown.out j hj).1)
  exact ⟨OR.step hown' hx, Nat.le_trans hsz hb.size, hb⟩
/-- The slice at block g holds n numbers. -/
def Nums (W : World) (g n : Nat) (f : Nat → Nat) : Prop := ∀ k, k < n → W.cell? ⟨g, k, none⟩ = some (.int .i64 (f k : Nat))
theorem OR.nums {W : World} {base : Nat} {v : Value} {n : Nat} {f : Nat → Nat} (h : OR W base v n f) (hn : 0 < n) :
    ∃ g cap, v = .slice (some ⟨g, 0, none⟩) n cap ∧ base ≤ g ∧ g < W.heap.size ∧ Nums W g n f := by
  obtain ⟨hl, ⟨_, h0⟩ | ⟨g, cap, cur, rfl, hg, hb, hnc, hcm, hsz, htake⟩⟩ := h
  · omega
  · refine ⟨g, cap, rfl, hg, (Array.getElem?_eq_some_iff.1 hb).1, fun k hk => ?_⟩
    have e : cur[k]? = (cur.toList.take (n * 1))[k]? := by
      rw [List.getElem?_take_of_lt (by omega)]
      simp
    simp only [World.cell?, hb]
    rw [show (if (none : Option Nat).isSome = true then (none : Option Value) else cur[k]?) = cur[k]? from rfl, e, htake]
    simp [hk]
theorem Nums.below {W W' : World} {m g n : Nat} {f : Nat → Nat} (h : Nums W g n f) (hb : Below m W W') (hg : g < m) : Nums W' g n f := fun k hk => (hb.cell (p := ⟨g, k, none⟩) hg).trans (h k hk)

/-- A slice of n numbers, and nothing that was there has turned. -/
def SlW (n : Nat) (f : Nat → Nat) (w : World) (e : Ending) (W' : World) : Prop :=
  ∃ g cap, e = .returned (.slice (some ⟨g, 0, none⟩) n cap) ∧ w.heap.size ≤ g ∧ g < W'.heap.size ∧ Nums W' g n f ∧ Below w.heap.size w W'

/-- x without its t lowest digits. -/
def sh (x : Nat) : Nat → Nat
  | 0 => x
  | t + 1 => sh x t / 65536
/-- The digit at place n. -/
def dg (a0 a1 a2 a3 n : Nat) : Nat := sh (word a0 a1 a2 a3 (n / 4)) (n % 4) % 65536
theorem dg_at {a0 a1 a2 a3 k t : Nat} (ht : t < 4) : dg a0 a1 a2 a3 (4 * k + t) = sh (word a0 a1 a2 a3 k) t % 65536 := by
  unfold dg
  rw [show (4 * k + t) / 4 = k by omega, show (4 * k + t) % 4 = t by omega]
theorem sh_lt {x : Nat} (h : x < M) (t : Nat) : sh x t < M := by
  induction t with
  | zero => exact h
  | succ t ih => show sh x t / 65536 < M; omega

/-- n numbers as cells. -/
def ds (f : Nat → Nat) (n : Nat) : List Value := (List.range n).map fun k => .int .i64 (f k : Nat)
theorem ds_at (f : Nat → Nat) {n k : Nat} (h : k < n) : (ds f n)[k]? = some (.int .i64 (f k : Nat)) := by
  unfold ds; rw [List.getElem?_map, List.getElem?_range h]; rfl
theorem ds_set (f : Nat → Nat) {n k : Nat} (v : Nat) : (ds f n).set k (.int .i64 (v : Nat)) = ds (upd f k v) n := by
  apply List.ext_getElem?
  intro j
  rw [List.getElem?_set]
  by_cases hj : k = j
  · subst hj
    by_cases hk : k < n
    · rw [if_pos rfl, if_pos (by simp [ds]; exact hk), ds_at _ hk]; simp [upd]
    · rw [if_pos rfl, if_neg (by simp [ds]; omega), eq_comm, List.getElem?_eq_none]; simp [ds]; omega
  · rw [if_neg hj]
    by_cases hk : j < n
    · rw [ds_at _ hk, ds_at _ hk]; simp [upd, Ne.symm hj]
    · rw [List.getElem?_eq_none (by simp [ds]; omega), List.getElem?_eq_none (by simp [ds]; omega)]
theorem Blk.numsOf {W : World} {B n : Nat} {f : Nat → Nat} (h : Blk W B 3 (ds f n)) : Nums W B n f := fun k hk => (h.cell k).trans (ds_at f hk)
end Go.Proofs.Ytiibeahgleaonaa

namespace Go.Proofs.Ytiibeahgleaonaa
open Go.RowKit

/-- What the digits below place i come to, in word j. -/
def wdg (f : Nat → Nat) (i j : Nat) : Nat :=
  (if 4 * j < i then f (4 * j) else 0) + (if 4 * j + 1 < i then f (4 * j + 1) * 65536 else 0) + (if 4 * j + 2 < i then f (4 * j + 2) * 4294967296 else 0) + (if 4 * j + 3 < i then f (4 * j + 3) * 281474976710656 else 0)
def p16 : Nat → Nat | 0 => 1 | 1 => 65536 | 2 => 4294967296 | _ => 281474976710656

theorem p16_0 : p16 0 = 1 := rfl
theorem p16_1 : p16 1 = 65536 := rfl
theorem p16_2 : p16 2 = 4294967296 := rfl
theorem p16_3 : p16 3 = 281474976710656 := rfl
theorem wdg_zero (f : Nat → Nat) : wdg f 0 = fun _ => 0 := by funext j; simp [wdg]
theorem wdg_high (f : Nat → Nat) {i : Nat} (hi : 16 ≤ i) : ws (wdg f (i + 1)) = ws (wdg f i) := by
  have e : ∀ j, j < 4 → wdg f (i + 1) j = wdg f i j := fun j hj => by
    unfold wdg
    rw [if_pos (by omega), if_pos (by omega), if_pos (by omega), if_pos (by omega), if_pos (by omega), if_pos (by omega), if_pos (by omega), if_pos (by omega)]
  unfold ws
  rw [e 0 (by omega), e 1 (by omega), e 2 (by omega), e 3 (by omega)]
theorem wdg_0 (f : Nat → Nat) (q : Nat) : wdg f (4 * q) q = 0 := by
  unfold wdg; rw [if_neg (by omega), if_neg (by omega), if_neg (by omega), if_neg (by omega)]
theorem wdg_1 (f : Nat → Nat) (q : Nat) : wdg f (4 * q + 1) q = f (4 * q) := by
  unfold wdg; rw [if_pos (by omega), if_neg (by omega), if_neg (by omega), if_neg (by omega)]; omega
theorem wdg_2 (f : Nat → Nat) (q : Nat) : wdg f (4 * q + 2) q = f (4 * q) + f (4 * q + 1) * 65536 := by
  unfold wdg; rw [if_pos (by omega), if_pos (by omega), if_neg (by omega), if_neg (by omega)]; omega
theorem wdg_3 (f : Nat → Nat) (q : Nat) : wdg f (4 * q + 3) q = f (4 * q) + f (4 * q + 1) * 65536 + f (4 * q + 2) * 4294967296 := by
  unfold wdg; rw [if_pos (by omega), if_pos (by omega), if_pos (by omega), if_neg (by omega)]; omega
theorem wdg_4 (f : Nat → Nat) {i q : Nat} (h : 4 * q + 4 ≤ i) : wdg f i q = f (4 * q) + f (4 * q + 1) * 65536 + f (4 * q + 2) * 4294967296 + f (4 * q + 3) * 281474976710656 := by
  unfold wdg; rw [if_pos (by omega), if_pos (by omega), if_pos (by omega), if_pos (by omega)]
theorem wdg_step (f : Nat → Nat) (i : Nat) : wdg f (i + 1) = upd (wdg f i) (i / 4) (wdg f i (i / 4) + f i * p16 (i % 4)) := by
  funext j
  obtain ⟨q, r, hr, rfl⟩ : ∃ q r, r < 4 ∧ i = 4 * q + r := ⟨i / 4, i % 4, by omega, by omega⟩
  have e1 : (4 * q + r) / 4 = q := by omega
  have e2 : (4 * q + r) % 4 = r := by omega
  rw [e1, e2]
  unfold upd
  by_cases hj : j = q
  · subst hj
    rw [if_pos rfl]
    have : r = 0 ∨ r = 1 ∨ r = 2 ∨ r = 3 := by omega
    rcases this with rfl | rfl | rfl | rfl
    · simp only [Nat.add_zero]; rw [wdg_1, wdg_0, p16_0, Nat.zero_add, Nat.mul_one]
    · rw [wdg_2 f j, wdg_1, p16_1]
    · rw [wdg_3 f j, wdg_2, p16_2]
    · rw [wdg_4 f (i := 4 * j + 3 + 1) (by omega), wdg_3, p16_3]
  · rw [if_neg hj]
    unfold wdg
    have k : ∀ t, t < 4 → (4 * j + t < 4 * q + r + 1 ↔ 4 * j + t < 4 * q + r) := fun t ht => by omega
    have k0 := k 0 (by omega)
    simp only [Nat.add_zero] at k0
    simp only [k0, k 1 (by omega), k 2 (by omega), k 3 (by omega)]
theorem wdg_lt {f : Nat → Nat} {i : Nat} (hf : ∀ k, k ≤ i → f k < 65536) : wdg f i (i / 4) + f i * p16 (i % 4) ≤ 18446744073709551615 := by
  obtain ⟨q, r, hr, rfl⟩ : ∃ q r, r < 4 ∧ i = 4 * q + r := ⟨i / 4, i % 4, by omega, by omega⟩
  have e1 : (4 * q + r) / 4 = q := by omega
  have e2 : (4 * q + r) % 4 = r := by omega
  rw [e1, e2]
  have : r = 0 ∨ r = 1 ∨ r = 2 ∨ r = 3 := by omega
  rcases this with rfl | rfl | rfl | rfl
  · have h0 := hf (4 * q) (by omega)
    simp only [Nat.add_zero]; rw [wdg_0, p16_0]; omega
  · have h0 := hf (4 * q) (by omega)
    have h1 := hf (4 * q + 1) (by omega)
    rw [wdg_1, p16_1]; omega
  · have h0 := hf (4 * q) (by omega)
    have h1 := hf (4 * q + 1) (by omega)
    have h2 := hf (4 * q + 2) (by omega)
    rw [wdg_2, p16_2]; omega
  · have h0 := hf (4 * q) (by omega)
    have h1 := hf (4 * q + 1) (by omega)
    have h2 := hf (4 * q + 2) (by omega)
    have h3 := hf (4 * q + 3) (by omega)
    rw [wdg_3, p16_3]; omega
theorem p16_step {r : Nat} (h : r < 3) : p16 (r + 1) = p16 r * 65536 := by
  have : r = 0 ∨ r = 1 ∨ r = 2 := by omega
  rcases this with rfl | rfl | rfl
  · rw [p16_1, p16_0]
  · rw [p16_2, p16_1]
  · rw [p16_3, p16_2]
theorem p16_le (r : Nat) : p16 r ≤ 281474976710656 := by unfold p16; split <;> omega
theorem p16_le2 {r : Nat} (h : r < 3) : p16 r ≤ 4294967296 := by
  have : r = 0 ∨ r = 1 ∨ r = 2 := by omega
  rcases this with rfl | rfl | rfl
  · rw [p16_0]; omega
  · rw [p16_1]; omega
  · rw [p16_2]; omega

end Go.Proofs.Ytiibeahgleaonaa
