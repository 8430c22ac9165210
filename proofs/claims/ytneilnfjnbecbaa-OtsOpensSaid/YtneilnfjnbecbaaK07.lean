/-
  hash.mix: the state behind all rounds.
  A region that draws its order, in a round of a range over a function: reads and quiet calls first, then stores in one order.
  hash.Sum.
  hash.Text and hash.Short.
-/
import Derived.IntWalk
import Derived.Outline
import Derived.Deep.QuietTactic
import Derived.BigQuiet
import Derived.StillTactics
import Derived.RangeFuncCalls
import Derived.RangeFuncIn
import Derived.OrdersIn
import Derived.StillTail
import Derived.StillTailTactics
import Derived.WalkKit
import Derived.Test.YtneilnfjnbecbaaK06
namespace Go.Proofs.Ytneilnfjnbecbaa
open Go.RowKit

set_option maxRecDepth 100000 in
set_option maxHeartbeats 8000000 in
theorem mix_any (f m : Nat → Int) (w : World) : Calls Try.prog 44 #[uv f 8, uv m 64] w fun e W' => e = .returned (uv (mixed cb m f) 8) ∧ Below w.heap.size w W' := by
  go_enter Try.func44, Try.ntmps44
  go_wp2
  generalize hW0 : World.alloc _ _ = W0
  have kS : Blk W0 w.heap.size 63 (us f 8) := by rw [← hW0]; exact ((Blk.new' rfl).alloc _).alloc _
  have kM : Blk W0 (w.heap.size + 1) 70 (us m 64) := by rw [← hW0]; exact (Blk.new' (by simp)).alloc _
  have kR : Blk W0 (w.heap.size + 1 + 1) 63 (us (fun _ => 0) 8) := by rw [← hW0, us0_8]; exact Blk.new' (by simp)
  have d0 : Below w.heap.size w W0 := by rw [← hW0]; exact chainA (chainA (chain0 _ _) _) _
  clear hW0
  have q0 := (kS.cell 0).trans (us_at _ (by omega))
  have q1 := (kS.cell 1).trans (us_at _ (by omega))
  have q2 := (kS.cell 2).trans (us_at _ (by omega))
  have q3 := (kS.cell 3).trans (us_at _ (by omega))
  have q4 := (kS.cell 4).trans (us_at _ (by omega))
  have q5 := (kS.cell 5).trans (us_at _ (by omega))
  have q6 := (kS.cell 6).trans (us_at _ (by omega))
  have q7 := (kS.cell 7).trans (us_at _ (by omega))
  go_quiet (fail)
  go_wp2
  go_quiet (fail)
  go_wp2_with (go_at_call 63; refine (cubeRoots_any _).mono ?_; rintro e w1 ⟨rfl, hb1⟩)
  replace hb1 : Below W0.heap.size W0 w1 := (below_drewN W0 _).trans hb1
  have d1 : Below w.heap.size w w1 := chain d0 hb1
  have kS1 : Blk w1 w.heap.size 63 (us f 8) := Blk.below (n := W0.heap.size) kS hb1 kS.lt
  have kM1 : Blk w1 (w.heap.size + 1) 70 (us m 64) := Blk.below (n := W0.heap.size) kM hb1 kM.lt
  have kR1 : Blk w1 (w.heap.size + 1 + 1) 63 (us (fun _ => 0) 8) := Blk.below (n := W0.heap.size) kR hb1 kR.lt
  clear kS kM kR q0 q1 q2 q3 q4 q5 q6 q7 hb1 d0
  go_loopw [5, 6, 7, 8, 9, 10, 11, 12, 36] (fun a b c d e f' g h i wr => ∃ (k : Nat) (s : S8), k ≤ 64 ∧ Hid (s = rds cb m (s8 f) k) ∧ i = .int .i64 k ∧ a = .int .u32 s.a ∧ b = .int .u32 s.b ∧ c = .int .u32 s.c ∧ d = .int .u32 s.d ∧ e = .int .u32 s.e ∧ f' = .int .u32 s.f ∧ g = .int .u32 s.g ∧ h = .int .u32 s.h ∧
    Blk wr w.heap.size 63 (us f 8) ∧ Blk wr (w.heap.size + 1) 70 (us m 64) ∧ Blk wr (w.heap.size + 1 + 1) 63 (us (fun _ => 0) 8) ∧ Below w.heap.size w wr) (fun _ _ _ _ _ _ _ _ i _ => 64 - (intOf i).toNat)
  case atStart => exact ⟨0, s8 f, by omega, Lib.hid rfl, rfl, rfl, rfl, rfl, rfl, rfl, rfl, rfl, rfl, kS1, kM1, kR1, d1⟩
  clear kS1 kM1 kR1 d1
  case round =>
    obtain ⟨k, ⟨a, b, c, d, e, f', g, h⟩, hk, HS, rfl, rfl, rfl, rfl, rfl, rfl, rfl, rfl, rfl, kS, kM, kR, hB⟩ := hrel
    dsimp only
    by_cases hlt : k < 64
    · have hix := run_index_us 70 64 und64 cb k hlt
      have cM := (kM.cell k).trans (us_at _ hlt)
      have hk0 : (k : Int) < 64 := by omega
      go_wp2_with fail
      have L3 : (0 : Int) ≤ (k : Int) := by omega
      have hsg : (if IntKind.u32.signed = true then (-1 : Int) else IntKind.u32.max) = 4294967295 := by decide
      refine wp_region_still_lit (by kernel_rfl) (by kernel_rfl) ?_
      repeat still_step
      still_call (rotr_still _ _ 6 t6 rfl _)
      repeat still_step
      still_call (rotr_still _ _ 11 t11 rfl _)
      repeat still_step
      still_call (rotr_still _ _ 25 t25 rfl _)
      repeat still_step
      refine wpStill_nil ?_
      generalize hx1 : IntKind.u32.wrap (IntKind.u32.wrap (IntKind.u32.wrap (IntKind.u32.wrap (h + _) + _) + cb k) + m k) = x1
      have HX1 : Hid (tmp1 ⟨a, b, c, d, e, f', g, h⟩ (cb k) (m k) = x1) := Lib.hid (by
        rw [← hx1]; simp only [tmp1, bs1, chs3, IntKind.wrap_u32, Int.emod_add_emod])
      clear hx1
      replace kS : Blk wr.drew w.heap.size 63 (us f 8) := kS
      replace kM : Blk wr.drew (w.heap.size + 1) 70 (us m 64) := kM
      replace kR : Blk wr.drew (w.heap.size + 1 + 1) 63 (us (fun _ => 0) 8) := kR
      replace hB : Below w.heap.size w wr.drew := hB.drew
      change Exit.then _ _ _ _ wr.drew
      generalize wr.drew = wq at *
      clear cM hix hsg
      go_wp2_with fail
      refine (rotr_still _ _ 2 t2 rfl _).mono ?_
      rintro e' w' ⟨rfl, rfl⟩
      go_wp2_with fail
      refine (rotr_still _ _ 13 t13 rfl _).mono ?_
      rintro e' w' ⟨rfl, rfl⟩
      go_wp2_with fail
      refine (rotr_still _ _ 22 t22 rfl _).mono ?_
      rintro e' w' ⟨rfl, rfl⟩
      go_wp2_with fail
      exact ⟨⟨k + 1, rnd ⟨a, b, c, d, e, f', g, h⟩ (cb k) (m k), by omega, Lib.hid (by rw [HS.out]; rfl), by simp, by rw [← HX1.out]; rfl, rfl, rfl, rfl, by rw [← HX1.out]; rfl, rfl, rfl, rfl, kS, kM, kR, hB⟩, by simp [intOf]; omega⟩
    · obtain rfl : k = 64 := by omega
      clear hk hlt
      go_wp2
      go_loopw [107] (fun i wr => ∃ k : Nat, k ≤ 8 ∧ i = .int .i64 k ∧ Blk wr w.heap.size 63 (us (fun t => if t < k then mixed cb m f t else f t) 8) ∧ Blk wr (w.heap.size + 1 + 1) 63 (us (fun _ => 0) 8) ∧ Below w.heap.size w wr) (fun i _ => 8 - (intOf i).toNat)
      case atStart => exact ⟨0, by omega, rfl, kS, kR, hB⟩
      case round =>
        obtain ⟨k, hk, rfl, kS, kR, hB⟩ := hrel
        by_cases hlt : k < 8
        · have hix : ∀ w, (Instr.index 63 (.agg #[.int .u32 a, .int .u32 b, .int .u32 c, .int .u32 d, .int .u32 e, .int .u32 f', .int .u32 g, .int .u32 h]) (.int .i64 (k : Int))).run Try.prog w = .ok (.int .u32 (S8.at ⟨a, b, c, d, e, f', g, h⟩ k)) w := run_index_us 63 8 und8 (S8.at ⟨a, b, c, d, e, f', g, h⟩) k hlt
          have cS := (kS.cell k).trans (us_at _ hlt)
          rw [if_neg (by omega)] at cS
          have hf := kS.frozen k
          have hk0 : (k : Int) < 8 := by omega
          have HM : Hid (mixed cb m f k = (f k + S8.at ⟨a, b, c, d, e, f', g, h⟩ k) % 4294967296) := Lib.hid (by unfold mixed; rw [← HS.out])
          generalize S8.at ⟨a, b, c, d, e, f', g, h⟩ k = z at *
          go_wp2_with fail
          rw [← HM.out]
          have kS' := kS.set k (.int .u32 (mixed cb m f k))
          rw [us_set, us_congr (g := fun t => if t < k + 1 then mixed cb m f t else f t) (fun t ht => by
            unfold updI
            by_cases e1 : t = k
            · subst e1; rw [if_pos rfl, if_pos (by omega)]
            · rw [if_neg e1]
              show (if t < k then mixed cb m f t else f t) = _
              by_cases e2 : t < k
              · rw [if_pos e2, if_pos (by omega)]
              · rw [if_neg e2, if_neg (by omega)])] at kS'
          exact ⟨⟨k + 1, by omega, by simp, kS', kR.other _ _ (by omega), hB.setCell (p := ⟨w.heap.size, _, none⟩) (by simp) _⟩, by simp [intOf]; omega⟩
        · obtain rfl : k = 8 := by omega
          rw [us_congr (g := mixed cb m f) (fun t ht => if_pos ht)] at kS
          go_wp2_with (first | (with_reducible refine arr_load arr8 rfl (.tmp 2) rfl w.heap.size rfl 63 (mixed cb m f) kS ?_) | (with_reducible refine arr_store arr8 rfl (.tmp 4) (.tmp 118) rfl (w.heap.size + 1 + 1) rfl (mixed cb m f) rfl 63 (fun _ => 0) kR ?_; intro w5 kR5 hg5))
          exact bodyPost_ret (v := uv (mixed cb m f) 8) (arr_result arr8 rfl _ _ (w.heap.size + 1 + 1) 63 (mixed cb m f) rfl kR5) rfl ⟨rfl, hB.grown hg5 hB.size (fun k e => by have : w.heap.size + 1 + 1 = k := Option.some.inj e; omega)⟩
end Go.Proofs.Ytneilnfjnbecbaa

namespace Go.Proofs.Ytneilnfjnbecbaa
open Go.RowKit

variable {P : Program} {ops : Array Oper} {md : Region.Mode}

/-- No operation of these is a defer statement. -/
def noDefer (l : List Oper) : Bool := l.all fun o => match o.op with | .defer _ => false | _ => true
theorem noDefer_at {l : List Oper} (h : noDefer l = true) {i : Nat} {o : Oper} (ho : l[i]? = some o) (c : Call) : o.op ≠ .defer c := by
  intro e
  have := List.all_eq_true.1 h o (List.mem_of_getElem? ho)
  rw [e] at this
  cases this

theorem rowsIn_wide {n : Nat} {row : String} {args : Array Value} {w : World} {R : Value → World → Prop} (h : Go.Rows P row args w R) : RowsIn Fence.wide n P row args w R :=
  fun c cs _ => let ⟨v, w', r, s⟩ := h c cs; ⟨v, w', r, stepsIn_wide.2 s⟩

theorem Oper.wpIn_round {r n : Nat} {o : Oper} {a : Act} {w : World} {K : Act → World → Prop} {Q : Exit → Act → World → Prop} (hd : ∀ c, o.op ≠ .defer c) (h : o.wp P a w K Q) : o.wpIn (Fence.wide.inRound r) n P a w K Q := by
  refine ⟨fun _ _ => trivial, ?_⟩
  rw [Oper.semAt_eq _ _ _ hd]
  unfold Oper.wp at h
  generalize (execOp a.eval o).run P w = res at *
  cases res with
  | ok x w' =>
    cases x <;> simp only [Oper.upon, Oper.uponIn] at h ⊢ <;> first | exact h | exact ⟨fun e => (by cases e), (callsIn_wide (n := n - 1)).2 h⟩ | exact ⟨fun e => (by cases e), rowsIn_wide h⟩ | exact h.elim
  | halt x w' => cases x <;> simp only [Oper.upon, Oper.uponIn] at h ⊢ <;> exact h

theorem wpOpIn_round {r n : Nat} {l : List Oper} {Q : Exit → Act → World → Prop} {i : Nat} {K : Act → World → Prop} {a : Act} {w : World} (hd : noDefer l = true) (hq : ¬ LetsOut Q) (h : wpOp P l.toArray Q i K a w) :
    wpOpIn (Fence.wide.inRound r) n P l.toArray Q i K a w := by
  unfold wpOp at h
  unfold wpOpIn
  split
  · rename_i ho; simp only [ho] at h; exact h
  · rename_i o ho
    simp only [ho] at h
    split
    · rename_i hw; simp only [hw, if_true] at h
      exact Oper.wpIn_round (noDefer_at hd (by simpa using ho)) (h.resolve_right fun hh => hq hh.2)
    · rename_i hw; simp only [hw] at h; exact ⟨fun _ _ => trivial, h⟩

theorem wpAnyIn_round {r n : Nat} {l : List Oper} {Q : Exit → Act → World → Prop} (hd : noDefer l = true) (hq : ¬ LetsOut Q) : ∀ (fuel : Nat) (listed : Array Bool) (a : Act) (w : World),
    wpAny P md l.toArray Q fuel listed a w → wpAnyIn (Fence.wide.inRound r) n P md l.toArray Q fuel listed a w
  | 0, _, _, _, h => h
  | fuel + 1, _, _, _, h => ⟨h.1, fun i hi => wpOpIn_mono (fun a w => wpAnyIn_round hd hq fuel _ a w) (wpOpIn_round hd hq (h.2 i hi))⟩

/-- In a round: the first k operations read and call quietly, in whatever order; the others come in one order. -/
theorem wpIn_round_still_tail {r n id : Nat} {Q : Exit → Act → World → Prop} {a : Act} {w : World} {l : List Oper} (k : Nat) (hm : P.follows .mixedOrders = true) (hd : noDefer l = true) (hB : Region.lexTailB .any l.toArray k = true)
    (h : wpStill P l.toArray w.drew (fun a' => wpList P l.toArray (Exit.then (fun a w => Q .normal a w) (fun _ _ _ => False)) (l.drop k) a' w.drew) (l.take k) a) : (Code.region id l.toArray true).wpIn (Fence.wide.inRound r) n P Q a w := by
  simp only [Region.lexTailB, Bool.and_eq_true, decide_eq_true_eq] at hB
  obtain ⟨⟨⟨⟨hsel, hn⟩, hs⟩, hc⟩, hlex⟩ := hB
  have hn' : k < l.length := by simpa using hn
  have htl : (l.take k).length = k := by simp; omega
  have hdl : (l.drop k).length = l.toArray.size - k := by simp
  have inv0 : HeadInv .any l.toArray k (Array.replicate l.toArray.size false) :=
    ⟨by simp, fun j oj _ hl => (by rw [getD_replicate_false] at hl; cases hl), fun t _ ht => getD_in (by simpa using ht) (getD_replicate_false _ _)⟩
  have H := wpAnyL_lex (md := .any) (g := l.toArray.size - k) hsel hs hc hn (l.take k) 0 _ a (fun j hj => by
    rw [htl] at hj; simp [hj]) (by simpa using htl) inv0 (by rw [htl]; exact hlex) h
  have T := wpAny_of_head (Q' := Exit.then (fun a w => Q .normal a w) (fun _ _ _ => False)) (g := l.toArray.size - k) (fun listed a' hL => by
    have := wpAny_of_seq (md := .any) (Q' := Exit.then (fun a w => Q .normal a w) (fun _ _ _ => False)) (l.drop k) k listed a' w.drew (fun j => by simp [List.getElem?_drop]) (by rw [hdl]; exact hL.1) hL.2
    rwa [hdl] at this) _ _ _ H
  rw [htl, show k + (l.toArray.size - k) = l.toArray.size by omega] at T
  refine wpIn_mono (wpIn_region_any (Q := Exit.then (fun a w => Q .normal a w) (fun _ _ _ => False)) hm (wpAnyIn_round hd (fun ⟨_, _, h⟩ => h) _ _ _ _ T)) ?_
  intro e a w hq
  cases e <;> first | exact hq | exact hq.elim

/-- In a round, a region that draws: whatever order comes. -/
theorem wpIn_round_any {r n id : Nat} {Q : Exit → Act → World → Prop} {a : Act} {w : World} {l : List Oper} (hm : P.follows .mixedOrders = true) (hd : noDefer l = true)
    (h : wpAny P .any l.toArray (Exit.then (fun a w => Q .normal a w) (fun _ _ _ => False)) l.length (Array.replicate l.length false) a w.drew) : (Code.region id l.toArray true).wpIn (Fence.wide.inRound r) n P Q a w := by
  refine wpIn_mono (wpIn_region_any (Q := Exit.then (fun a w => Q .normal a w) (fun _ _ _ => False)) hm (wpAnyIn_round hd (fun ⟨_, _, h⟩ => h) _ _ _ _ (by simpa using h))) ?_
  intro e a w hq
  cases e <;> first | exact hq | exact hq.elim

end Go.Proofs.Ytneilnfjnbecbaa

namespace Go.Proofs.Ytneilnfjnbecbaa
open Go.RowKit Go.Shelf
attribute [local go_sem] Oper.semAt_some

theorem blk_zero8 (w : World) (t : TypeId) : Blk (w.alloc (.cells #[.int .u32 0, .int .u32 0, .int .u32 0, .int .u32 0, .int .u32 0, .int .u32 0, .int .u32 0, .int .u32 0] t)) w.heap.size t (us (fun _ => 0) 8) := by rw [us0_8]; exact Blk.new' rfl
theorem blk_zero16 (w : World) (t : TypeId) : Blk (w.alloc (.cells #[.int .u32 0, .int .u32 0, .int .u32 0, .int .u32 0, .int .u32 0, .int .u32 0, .int .u32 0, .int .u32 0, .int .u32 0, .int .u32 0, .int .u32 0, .int .u32 0, .int .u32 0, .int .u32 0, .int .u32 0, .int .u32 0] t)) w.heap.size t (us (fun _ => 0) 16) := by rw [us0_16]; exact Blk.new' rfl
/-- The state behind k blocks. -/
theorem sts_succ (kk : Nat → Int) (p : List UInt8) (f : Nat → Int) (n : Nat) : sts kk p f (n + 1) = mixed kk (sch (wd (blk p n)) 48) (sts kk p f n) := rfl

theorem bsl_slice {lo hi : Nat} {W : World} {sv : Value} {l : List UInt8} (h : BSl lo hi W sv l) : ∃ a c, sv = .slice a l.length c := by
  obtain ⟨a, c, e, _⟩ := h
  exact ⟨a, c, e⟩

set_option maxRecDepth 100000 in
set_option maxHeartbeats 8000000 in
theorem sum_in (m : Nat) (hm : 10 ≤ m) (l : List UInt8) (sv : Value) (w : World) (hreach : l.length ≤ 140737488353000) (hsv : BSl 0 w.heap.size w sv l) :
    CallsIn Fence.wide m Try.prog 23 #[sv] w (ByO (sumL cb sq l) w) := by
  have h1 : 1 ≤ m := by omega
  have hmx : Try.prog.follows .mixedOrders = true := by kernel_rfl
  obtain ⟨i0, hi, hz0, hz1, hz2⟩ := info_parts Try.infoByte
  have hsv0 := hsv
  obtain ⟨a, cap, rfl, hcap, hcs⟩ := hsv
  clear hcs
  refine callsIn_of_wp_marks Try.func23 rfl trivial ?_ rfl
  simp only [Try.ntmps23, List.size_toArray, List.length_cons, List.length_nil, Nat.reduceAdd, Nat.reduceSub, Array.replicate_succ, Array.replicate_zero, List.push_toArray, List.append_toArray, List.nil_append, List.cons_append]
  gi_wp2_with (first
    | (refine ⟨trivial, ?_⟩; gi_at_call 41; refine (callsIn_wide.2 (squareRoots_any _)).mono ?_; rintro e w1 ⟨rfl, hb1⟩)
    | (with_reducible refine arrIn_store arr8 rfl (.tmp 3) (.tmp 8) rfl w1.heap.size rfl sq rfl 63 (fun _ => 0) (blk_zero8 w1 _) ?_; intro w2 kS hg2)
    | (refine ⟨trivial, ?_⟩; gi_at_call 43; (have hb2 : Below w.heap.size w w2 := (chainA hb1 (.cells #[.int .u32 0, .int .u32 0, .int .u32 0, .int .u32 0, .int .u32 0, .int .u32 0, .int .u32 0, .int .u32 0] 63)).grown hg2 (by simp; have := hb1.size; omega) (fun k e => by have : w1.heap.size = k := Option.some.inj e; have := hb1.size; omega)); refine (callsIn_wide.2 (pad_any l _ _ (by omega) ((hsv0.below hb2 (Nat.le_refl _)).mono (Nat.le_refl _) hb2.size))).mono ?_; rintro e w3 ⟨pv, rfl, hown, hb3⟩; obtain ⟨pa, pc, rfl⟩ := ownsRow_slice hown)
    | (refine ⟨trivial, ?_⟩; gi_at_call 42; refine (blocks_in Fence.wide (m - 1) trivial rfl _ _ _ _).mono ?_; rintro e w' ⟨rfl, rfl⟩))
  have hb23 : Below w.heap.size w w3 := chain hb2 hb3
  have hw1 : w.heap.size ≤ w1.heap.size := hb1.size
  have hw2 : w1.heap.size < w2.heap.size := kS.lt
  have hpb := BSl.of_own hown
  have hpl := padL_length l
  have HS : Hid (sumL cb sq l = sumTo (sts cb (padL l) sq ((padL l).length / 64)) 8) := Lib.hid rfl
  generalize hp : padL l = p at *
  clear hp
  obtain ⟨pa', pc', hpe, hpc, hp0⟩ := hpb
  cases hpe
  have hnz : p ≠ [] := fun e => by rw [e] at hpl; simp at hpl; omega
  obtain ⟨pb, po, rfl, hpl0, hpb, hpo⟩ := hp0.resolve_left hnz
  have hcm : pc ≤ maxLen := by
    rcases hown.2 with ⟨e, _⟩ | ⟨g, c, cur, e, _, _, _, hcm, _⟩
    · cases e
    · cases e; exact hcm
  unfold maxLen at hcm
  have hl64 : p.length = 64 * (p.length / 64) := by omega
  have hN1 : 1 ≤ p.length / 64 := by omega
  have hreach' : p.length ≤ 140737488354000 := by omega
  generalize hN : p.length / 64 = N at *
  clear hpl hN hnz hp0
  have kS3 := kS.below hb3 kS.lt
  generalize hW4 : World.alloc _ _ = w4
  have kp : Boxed w4 w3.heap.size 22 (.slice (some ⟨pb, po, none⟩) p.length pc) := by rw [← hW4]; exact Boxed.new _ _ _
  have kS4 : Blk w4 w1.heap.size 63 (us sq 8) := by rw [← hW4]; exact kS3.alloc _
  have hb34 : Below w3.heap.size w3 w4 := by rw [← hW4]; exact chain0 _ _
  have hpo4 := hpo.below hb34 hpb
  have hb4 : Below w.heap.size w w4 := chain hb23 hb34
  have hw4 : w4.heap.size = w3.heap.size + 1 := by rw [← hW4]; simp
  have hw3 := hb3.size
  clear hW4
  generalize hq : p.length = q at *
  have HQ := Lib.hid hq
  have HL64 := Lib.hid hl64
  clear hl64
  have hseq := blocks1_all (m - 1) (by omega) w1.heap.size w3.heap.size pb po pc N p (by rw [HQ.out]; exact HL64.out) hN1 (by rw [HQ.out]; exact hreach') (by rw [HQ.out]; exact hpc) (by omega) w4 (by omega) (by omega) (by omega) hpo4 (by rw [HQ.out]; exact kp)
  clear hq
  refine wpIn_rangeFunc_all (ys := blkWords p N) rfl h1 (gf := 60) (lb := #[.pointer (some ⟨w3.heap.size, 0, none⟩)]) rfl trivial (enters_of Try.func60 (by kernel_rfl) rfl)
    hseq AllBut.t (fun X o o' _ _ _ => AllBut.b _ _ X o') (Below.refl _ _) (fun _ => rfl)
    (fun k X => (Blk X w1.heap.size 63 (us (sts cb p sq k) 8) ∧ w4.heap.size ≤ X.heap.size) ∧ Below w.heap.size w X)
    (OwnFrom.and (fun k X Y row hs hg hr => ⟨blk_own w1.heap.size 63 (fun _ : Unit => _) () X Y row hs.1 hg (fun r e => (hr r e).2), Nat.le_trans hs.2 hg.size⟩) (ownFrom_below (Nat.le_refl _) (by omega)))
    ⟨⟨kS4, Nat.le_refl _⟩, hb4⟩
    (fun x a' X => ∃ Bx, w4.heap.size ≤ Bx ∧ Blk X Bx 68 (us x 16) ∧ a' = { tmps := #[.slice a l.length cap, undef, .slice none 0 0, .pointer (some ⟨w1.heap.size, 0, none⟩), .pointer (some ⟨Bx, 0, none⟩), undef, undef, undef, uv sq 8, .slice a l.length cap, .slice (some ⟨pb, po, none⟩) q pc, .func (.func 60) #[] #[.pointer (some ⟨w3.heap.size, 0, none⟩)], uv x 16, undef, undef, undef, undef, undef, undef, undef, undef, undef, undef, undef, undef, undef, undef, undef], defers := [] })
    (fun x a' s X Y row ⟨Bx, h1, h2, h3⟩ hg hr => ⟨Bx, h1, blk_own Bx 68 (fun _ : Unit => _) () X Y row h2 hg (fun r e => (hr r e).2), h3⟩) ?_ ?_ ?_
  · rintro l' k x X K ⟨⟨hS, hsz⟩, hB⟩ hK
    gi_wp2_with (with_reducible refine arrIn_store arr16 rfl (.tmp 4) (.tmp 12) rfl X.heap.size rfl x rfl 68 (fun _ => 0) (blk_zero16 X _) ?_; intro X2 kX hgX)
    have hX2 : Below X.heap.size X X2 := (chain0 X _).grown hgX (by simp) (fun k e => by have : X.heap.size = k := Option.some.inj e; omega)
    exact hK _ _ ⟨hX2.size, fun j o _ hj _ => (hX2.block j (Array.getElem?_eq_some_iff.1 hj).1).trans hj⟩ (AllBut.of_below hX2) ⟨⟨hS.below hX2 hS.lt, Nat.le_trans hsz hX2.size⟩, hB.trans (hX2.mono hB.size)⟩ ⟨X.heap.size, hsz, kX, rfl⟩
  · rintro l' k x a' X hx ⟨⟨hS, hsz⟩, hB⟩ ⟨Bx, hBx, kX, rfl⟩
    have hk : k < N := by have := (List.getElem?_eq_some_iff.1 hx).1; simpa [blkWords] using this
    rw [blkWords_at p hk] at hx
    obtain rfl := Option.some.inj hx
    have hne : w1.heap.size ≠ Bx := by omega
    clear hx
    have hst := Lib.hid (sts_succ cb p sq k)
    generalize sts cb p sq k = st at *
    generalize wd (blk p k) = x at *
    gi_wp2_with fail
    refine wpIn_round_any hmx (by kernel_rfl) ?_
    change wpAny _ _ _ _ _ _ _ X.drew
    replace hS : Blk X.drew w1.heap.size 63 (us st 8) := hS
    replace kX : Blk X.drew Bx 68 (us x 16) := kX
    have hXd : Below X.heap.size X X.drew := (Below.refl _ X).drew
    generalize X.drew = Y at *
    have hFin : ∀ (Y2 Y3 Y4 : World) (a' : Act), Below Y.heap.size Y Y2 → Below Y2.heap.size Y2 Y3 → Blk Y4 w1.heap.size 63 (us (mixed cb (sch x 48) st) 8) → Y3.grownBy Y4 (some w1.heap.size) →
        goesOn w4.heap.size (AllBut w1.heap.size (w4.heap.size + 1)) (fun X => (Blk X w1.heap.size 63 (us (sts cb p sq (k + 1)) 8) ∧ w4.heap.size ≤ X.heap.size) ∧ Below w.heap.size w X) X Exit.normal a' Y4 := fun Y2 Y3 Y4 a' hbY2 hbY3 hS4 hgY => by
      have hXY : Below X.heap.size X Y3 := hXd.trans ((chain hbY2 hbY3).mono hXd.size)
      have hA : ∀ j, j < X.heap.size → j ≠ w1.heap.size → Y4.heap[j]? = X.heap[j]? := fun j hj hne => (hgY.block j (Nat.lt_of_lt_of_le hj hXY.size) (fun e => hne (Option.some.inj e))).trans (hXY.block j hj)
      have hsz4 : X.heap.size ≤ Y4.heap.size := Nat.le_trans hXY.size hgY.size
      refine ⟨⟨hsz4, fun j o hBj hj _ => (hA j (Array.getElem?_eq_some_iff.1 hj).1 (by omega)).trans hj⟩, ⟨hsz4, fun j hj h1 _ => hA j hj h1⟩, ⟨by rw [hst.out]; exact hS4, Nat.le_trans hsz hsz4⟩, ?_⟩
      have hB3 := hB.trans (hXY.mono hB.size)
      exact hB3.grown hgY hB3.size (fun k e => by have : w1.heap.size = k := Option.some.inj e; omega)
    refine wpAny_ready (rs := [0, 1]) (by kernel_rfl) (by simp) ?_
    refine AllReady.cons rfl (fun K hK => ?_) (AllReady.cons rfl (fun K hK => ?_) AllReady.nil)
    · refine step_load_us arr8 rfl (.tmp 3) rfl w1.heap.size rfl 63 st hS ?_
      refine hK _ _ ?_
      clear hK K
      refine wpAny_ready (rs := [1]) (by kernel_rfl) (by simp) ?_
      refine AllReady.cons rfl (fun K hK => ?_) AllReady.nil
      refine step_load_us arr16 rfl (.tmp 4) rfl Bx rfl 68 x kX ?_
      refine hK _ _ ?_
      clear hK K
      refine wpAny_ready (rs := [2]) (by kernel_rfl) (by simp) ?_
      refine AllReady.cons rfl (fun K hK => ?_) AllReady.nil
      go_simp
      refine (schedule_any _ _).mono ?_
      rintro e Y2 ⟨rfl, hbY2⟩
      have hS2 := hS.below hbY2 hS.lt
      refine hK _ _ ?_
      clear hK K
      refine wpAny_ready (rs := [3]) (by kernel_rfl) (by simp) ?_
      refine AllReady.cons rfl (fun K hK => ?_) AllReady.nil
      go_simp
      refine (mix_any _ _ _).mono ?_
      rintro e Y3 ⟨rfl, hbY3⟩
      have hS3 := hS2.below hbY3 hS2.lt
      refine hK _ _ ?_
      clear hK K
      refine wpAny_ready (rs := [4]) (by kernel_rfl) (by simp) ?_
      refine AllReady.cons rfl (fun K hK => ?_) AllReady.nil
      refine step_store_us arr8 rfl (.tmp 3) (.tmp 16) rfl w1.heap.size rfl (mixed cb (sch x 48) st) rfl 63 st hS3 ?_
      intro Y4 hS4 hgY
      refine hK _ _ ?_
      clear hK K
      refine wpAny_done (by kernel_rfl) ?_ _
      exact hFin Y2 Y3 Y4 { tmps := #[], defers := [] } hbY2 hbY3 hS4 hgY
    · refine step_load_us arr16 rfl (.tmp 4) rfl Bx rfl 68 x kX ?_
      refine hK _ _ ?_
      clear hK K
      refine wpAny_ready (rs := [0, 2]) (by kernel_rfl) (by simp) ?_
      refine AllReady.cons rfl (fun K hK => ?_) (AllReady.cons rfl (fun K hK => ?_) AllReady.nil)
      · refine step_load_us arr8 rfl (.tmp 3) rfl w1.heap.size rfl 63 st hS ?_
        refine hK _ _ ?_
        clear hK K
        refine wpAny_ready (rs := [2]) (by kernel_rfl) (by simp) ?_
        refine AllReady.cons rfl (fun K hK => ?_) AllReady.nil
        go_simp
        refine (schedule_any _ _).mono ?_
        rintro e Y2 ⟨rfl, hbY2⟩
        have hS2 := hS.below hbY2 hS.lt
        refine hK _ _ ?_
        clear hK K
        refine wpAny_ready (rs := [3]) (by kernel_rfl) (by simp) ?_
        refine AllReady.cons rfl (fun K hK => ?_) AllReady.nil
        go_simp
        refine (mix_any _ _ _).mono ?_
        rintro e Y3 ⟨rfl, hbY3⟩
        have hS3 := hS2.below hbY3 hS2.lt
        refine hK _ _ ?_
        clear hK K
        refine wpAny_ready (rs := [4]) (by kernel_rfl) (by simp) ?_
        refine AllReady.cons rfl (fun K hK => ?_) AllReady.nil
        refine step_store_us arr8 rfl (.tmp 3) (.tmp 16) rfl w1.heap.size rfl (mixed cb (sch x 48) st) rfl 63 st hS3 ?_
        intro Y4 hS4 hgY
        refine hK _ _ ?_
        clear hK K
        refine wpAny_done (by kernel_rfl) ?_ _
        exact hFin Y2 Y3 Y4 { tmps := #[], defers := [] } hbY2 hbY3 hS4 hgY
      · go_simp
        refine (schedule_any _ _).mono ?_
        rintro e Y2 ⟨rfl, hbY2⟩
        have hS2 := hS.below hbY2 hS.lt
        refine hK _ _ ?_
        clear hK K
        refine wpAny_ready (rs := [0]) (by kernel_rfl) (by simp) ?_
        refine AllReady.cons rfl (fun K hK => ?_) AllReady.nil
        refine step_load_us arr8 rfl (.tmp 3) rfl w1.heap.size rfl 63 st hS2 ?_
        refine hK _ _ ?_
        clear hK K
        refine wpAny_ready (rs := [3]) (by kernel_rfl) (by simp) ?_
        refine AllReady.cons rfl (fun K hK => ?_) AllReady.nil
        go_simp
        refine (mix_any _ _ _).mono ?_
        rintro e Y3 ⟨rfl, hbY3⟩
        have hS3 := hS2.below hbY3 hS2.lt
        refine hK _ _ ?_
        clear hK K
        refine wpAny_ready (rs := [4]) (by kernel_rfl) (by simp) ?_
        refine AllReady.cons rfl (fun K hK => ?_) AllReady.nil
        refine step_store_us arr8 rfl (.tmp 3) (.tmp 16) rfl w1.heap.size rfl (mixed cb (sch x 48) st) rfl 63 st hS3 ?_
        intro Y4 hS4 hgY
        refine hK _ _ ?_
        clear hK K
        refine wpAny_done (by kernel_rfl) ?_ _
        exact hFin Y2 Y3 Y4 { tmps := #[], defers := [] } hbY2 hbY3 hS4 hgY
  · rintro D X hD ⟨⟨hS, hsz⟩, hB⟩ hK
    rw [show (blkWords p N).length = N by simp [blkWords]] at hS
    have hst : Hid (sumL cb sq l = sumTo (sts cb p sq N) 8) := HS
    generalize sts cb p sq N = st at *
    gi_wp2_with (with_reducible refine arrIn_load arr8 rfl (.tmp 3) rfl w1.heap.size rfl 63 st hS ?_)
    gi_loopw [5, 18] (fun v i wr => ∃ k : Nat, k ≤ 8 ∧ i = .int .i64 k ∧ wr.ownsRow w.heap.size 5 1 v (4 * k) ((sumTo st k).map bv) ∧ wr.heap[D]? = some (.deferred (some [])) ∧ Below w.heap.size w wr) (fun _ i _ => 8 - (intOf i).toNat)
    case atStart => exact ⟨0, by omega, rfl, World.ownsRow_nil _ _ _ _, hK, hB⟩
    clear hS hB hK hsz
    case round =>
      obtain ⟨k, hk, rfl, hown, hD', hB⟩ := hrel
      obtain ⟨va, vc, rfl⟩ := ownsRow_slice hown
      have hNW := hB.size
      by_cases hlt : k < 8
      · have hix := run_index_us 63 8 und8 st k hlt
        have hk0 : (k : Int) < 8 := by omega
        gi_wp2_with (first
          | (refine ⟨trivial, ?_⟩; gi_at_call 46; refine (callsIn_wide.2 (num_any _ 4 (by omega) (by omega) _)).mono ?_; rintro e w5 ⟨s4, rfl, hs4, hb5⟩; rw [show clamp 4 = 4 from rfl] at hs4; have hown5 := own_below4 hown hb5; have hNW5 := Nat.le_trans hNW hb5.size; obtain ⟨a4, c4, rfl⟩ := bsl_slice hs4)
          | (gi_at_builtin; refine wpListIn_append_b _ rfl _ _ 22 rfl w.heap.size 5 i0 (.int .u8 0) Try.underlying22 hi hz0 hz1 hz2 rfl _ (4 * k) ((sumTo st k).map bv) rfl hown5 _ _ rfl hs4 (by rw [octs_length]; omega) hNW5 ?_; intro v6 w6 hown6 hgrow6))
        have hD5 : w5.heap[D]? = some (.deferred (some [])) := (hb5.block D (Array.getElem?_eq_some_iff.1 hD').1).trans hD'
        have hD6 : w6.heap[D]? = some (.deferred (some [])) := (hgrow6.block D (Array.getElem?_eq_some_iff.1 hD5).1 (fun e => by
          obtain ⟨cur, fr, hc⟩ := ownsRow_block hown5 D e.symm
          rw [hD5] at hc; cases hc)).trans hD5
        rw [octs_length, ← List.map_append] at hown6
        have hB6 : Below w.heap.size w w6 := (chain hB hb5).grown hgrow6 hNW5 (fun j hj => (World.ownsRow.lt hown5 j hj).1)
        go_roundw
        case rel => exact ⟨k + 1, by omega, by simp, hown6, hD6, hB6⟩
        case measure => simp [intOf]; omega
      · obtain rfl : k = 8 := by omega
        gi_wp2_with fail
        have hB' := hB.trans (belowK_b (w := w) (Nat.le_refl _) _ D _ (.deferred none) (by omega) hD' rfl rfl)
        have hown3 := ownsRow_putObj hown (.deferred none) hD' rfl
        refine ⟨by simp, .inl ⟨_, _, rfl, run_takeDeferred hD', ?_⟩⟩
        refine ⟨.slice va (4 * 8) vc, ?_, ?_⟩
        · simp [results, Try.f23, go_sem]
        · exact ⟨_, rfl, by rw [hst.out, sumTo_length]; exact hown3, hB'⟩

theorem sum_any (l : List UInt8) (sv : Value) (w : World) (hreach : l.length ≤ 140737488353000) (hsv : BSl 0 w.heap.size w sv l) :
    Calls Try.prog 23 #[sv] w (ByO (sumL cb sq l) w) := callsIn_wide.1 (sum_in 10 (by omega) l sv w hreach hsv)
end Go.Proofs.Ytneilnfjnbecbaa

namespace Go.Proofs.Ytneilnfjnbecbaa
open Go.RowKit Go.Shelf

/-- The sum of a text, as a string. -/
def sumS (l : List UInt8) : ByteArray := ⟨(sumL cb sq l).toArray⟩
theorem sumS_size (l : List UInt8) : (sumS l).size = 32 := by
  show (sumL cb sq l).toArray.size = 32
  rw [List.size_toArray]
  exact sumTo_length _ 8

set_option maxRecDepth 100000 in
set_option maxHeartbeats 2000000 in
theorem text_any {o : Nat} (sv : Value) (w : World) (zs : List (SX o w.heap.size w)) (hreach : zs.length ≤ 140737488351232) (hfl : (flat zs).length ≤ 140737488353000) (hsv : SSl w.heap.size w sv zs) :
    Calls Try.prog 69 #[sv] w fun e W' => e = .returned (.string (sumS (flat zs))) ∧ Below w.heap.size w W' := by
  have hsv0 := hsv
  obtain ⟨a, cap, rfl, _⟩ := hsv
  go_enter Try.func69, Try.ntmps69
  go_wp2_with fail
  refine (cat_any _ _ zs hreach (by omega) hsv0).mono ?_
  rintro e w1 ⟨cv, rfl, hc, hb1⟩
  go_wp2_with fail
  refine (sum_any (flat zs) _ _ hfl (hc.mono (Nat.zero_le _) (Nat.le_refl _))).mono ?_
  rintro e w2 ⟨sv2, rfl, hown, hb2⟩
  have hcv := run_string (P := Try.prog) 22 5 9 Try.underlying22 Try.underlying5 Try.underlying9 w2 (BSl.of_own hown)
  go_wp2_with fail
  go_ret
  exact ⟨rfl, chain hb1 hb2⟩

set_option maxRecDepth 100000 in
set_option maxHeartbeats 2000000 in
theorem short_any {o : Nat} (sv : Value) (w : World) (zs : List (SX o w.heap.size w)) (hreach : zs.length ≤ 140737488351232) (hfl : (flat zs).length ≤ 140737488353000) (hsv : SSl w.heap.size w sv zs) :
    Calls Try.prog 52 #[sv] w fun e W' => e = .returned (.string ((sumS (flat zs)).extract 0 8)) ∧ Below w.heap.size w W' := by
  have hsv0 := hsv
  obtain ⟨a, cap, rfl, _⟩ := hsv
  go_enter Try.func52, Try.ntmps52
  go_wp2_with fail
  refine (text_any _ _ zs hreach hfl hsv0).mono ?_
  rintro e w1 ⟨rfl, hb1⟩
  have h8 : 8 ≤ (sumS (flat zs)).size := by rw [sumS_size]; omega
  have h8' : (8 : Int) ≤ ((sumS (flat zs)).size : Int) := by omega
  generalize hs : sumS (flat zs) = s at *
  have HS := Lib.hid hs
  clear hs
  go_wp2_with fail
  go_ret
  exact ⟨by rw [HS.out]; rfl, hb1⟩
end Go.Proofs.Ytneilnfjnbecbaa
