/-
  ots.digits: a sequence of a number's digits of 2 bits, the highest first.
  blob.octets hands back a sequence of a number's octets, the highest first.
  blob.Num: the lowest octets of a number.
  slices.AppendSeq of digits onto a row of ints of the call's own; slices.Collect of digits.
  slices.AppendSeq of strings onto a row of the call's own.
  Appending a slice of octets, nil or not.
  blob.Num hands back a row of its own.
  Arrays of words: as cells, as values; read and stored whole.
-/
import Derived.Laws.BitsLemmas
import Derived.Outline
import Derived.Laws.OwnMore
import Derived.WalkSpells
import Derived.Laws.CopyOwn
import Derived.Laws.Rows
import Derived.Laws.Tables
import Derived.Test.YtalmoaggancdjaaK01
namespace Go.Proofs.Ytalmoaggancdjaa
open Go.RowKit Go.Shelf
attribute [local go_sem] Oper.semAt_some

/-- The digit at place p of x, counted from the lowest one. -/
def dig (x p : Nat) : Nat := x / 2 ^ (p * 2) % 4
/-- The lowest N digits, the highest first. -/
def digs (x N : Nat) : List Int := (List.range N).map fun i => (dig x (N - 1 - i) : Int)
theorem digs_length (x N : Nat) : (digs x N).length = N := by simp [digs]
theorem digs_at (x : Nat) {N k : Nat} (h : k < N) : (digs x N)[k]? = some (dig x (N - 1 - k) : Int) := by unfold digs; rw [List.getElem?_map, List.getElem?_range h]; rfl

theorem and3 {a : Nat} (ha : a ≤ 9223372036854775807) : bits .and .i64 (a : Int) 3 = ((a % 4 : Nat) : Int) := by
  have e := (Go.bits_nat .i64 63 (by decide) (fun n h0 h1 => by rw [IntKind.wrap_i64]; omega) a 3 (by simp; omega) (by simp)).1
  have h : a &&& 3 = a % 4 := by
    have := Nat.and_two_pow_sub_one_eq_mod a 2
    simpa using this
  rw [h] at e
  rw [← e]
  rfl

set_option maxRecDepth 100000 in
set_option maxHeartbeats 2000000 in
theorem digits1_rel (m : Nat) (hm : 1 ≤ m) (x N : Nat) (hx : x ≤ 16777215) (hN : N ≤ 16) (Bn Bm : Nat) (w : World) (kn : Boxed w Bn 3 (.int .i64 (x : Nat))) (km : Boxed w Bm 3 (.int .i64 (N : Nat))) :
    SeqRel Fence.wide m Try.prog 77 #[.pointer (some ⟨Bm, 0, none⟩), .pointer (some ⟨Bn, 0, none⟩)] N (fun k r _ => ∃ y : Int, (digs x N)[k]? = some y ∧ r = #[iv y]) (fun _ => KeepB2 Bn Bm) w := fun l J W hW _ _ _ hY h0 => by
  have hcn : Boxed W Bn 3 (.int .i64 (x : Nat)) := (hW.block Bn kn.lt).trans kn
  have hcm : Boxed W Bm 3 (.int .i64 (N : Nat)) := (hW.block Bm km.lt).trans km
  refine callsIn_of_wp Try.func77 rfl trivial ?_ rfl
  simp only [Try.ntmps77, List.size_toArray, List.length_cons, List.length_nil, Nat.reduceAdd, Nat.reduceSub, Array.replicate_succ, Array.replicate_zero, List.push_toArray, List.append_toArray, List.nil_append, List.cons_append]
  have hN' : (N : Int) ≤ 16 := by omega
  have cm := hcm.cell
  gi_wp2
  clear cm
  gi_loopw [7] (fun i wr => ∃ k : Nat, k ≤ N ∧ i = .int .i64 (k : Nat) ∧ (Boxed wr Bn 3 (.int .i64 (x : Nat)) ∧ Boxed wr Bm 3 (.int .i64 (N : Nat))) ∧ J k wr) (fun i _ => N - (intOf i).toNat)
  case atStart => exact ⟨0, by omega, rfl, ⟨hcn, hcm⟩, h0⟩
  clear hcn hcm h0
  case round =>
    obtain ⟨k, hk, rfl, ⟨hbn, hbm⟩, hJ⟩ := hrel
    have cn := hbn.cell
    have cm := hbm.cell
    by_cases hlt : k < N
    · have hlt' : (k : Int) < (N : Int) := by omega
      have hD := digs_at x hlt
      have hp : (N : Int) - 1 - k = ((N - 1 - k : Nat) : Int) := by omega
      have hpl : N - 1 - k ≤ 15 := by omega
      have hpl' : ((N - 1 - k : Nat) : Int) ≤ 15 := by omega
      obtain ⟨fn, tmps, assign, body, hy, hR⟩ := hY k #[iv (dig x (N - 1 - k) : Int)] wr hlt ⟨_, hD, rfl⟩ hJ
      clear hD
      generalize N - 1 - k = p at *
      have hb : bits BinOp.and IntKind.i64 ((x : Int) / 2 ^ (p * 2)) 3 = (dig x p : Int) := by
        have hle : x / 2 ^ (p * 2) ≤ x := Nat.div_le_self _ _
        have h := and3 (a := x / 2 ^ (p * 2)) (by omega)
        rw [show (((x / 2 ^ (p * 2) : Nat)) : Int) = (x : Int) / 2 ^ (p * 2) by simp] at h
        exact h
      simp only [iv] at hy
      gi_wp2
      clear hy hb
      refine hR.mono ?_
      rintro e W3 ⟨rfl, hJ3, hk3⟩
      have hbn3 : Boxed W3 Bn 3 (.int .i64 (x : Nat)) := hk3.1.trans hbn
      have hbm3 : Boxed W3 Bm 3 (.int .i64 (N : Nat)) := hk3.2.trans hbm
      clear cn cm hp
      gi_wp2
      go_roundw
      case rel => exact ⟨k + 1, by omega, by simp, ⟨hbn3, hbm3⟩, hJ3⟩
      case measure => simp [intOf]; omega
    · obtain rfl : k = N := by omega
      gi_wp2
      go_end0
      exact ⟨⟨_, rfl⟩, hJ⟩

set_option maxHeartbeats 1000000 in
theorem digits_in (F : Fence) (m : Nat) (h : F.fn 54) (hro : F.round = none) (x N : Int) (w : World) :
    CallsIn F m Try.prog 54 #[.int .i64 x, .int .i64 N] w fun e w' => e = .returned (.func (.func 77) #[] #[.pointer (some ⟨w.heap.size + 1, 0, none⟩), .pointer (some ⟨w.heap.size, 0, none⟩)]) ∧ w' = (w.alloc (.cells #[.int .i64 x] 3)).alloc (.cells #[.int .i64 N] 3) := by
  refine callsIn_of_wp Try.func54 rfl h ?_ hro
  simp only [Try.ntmps54, List.size_toArray, List.length_cons, List.length_nil, Nat.reduceAdd, Nat.reduceSub, Array.replicate_succ, Array.replicate_zero, List.push_toArray, List.append_toArray, List.nil_append, List.cons_append]
  gi_wp2
  go_ret
  exact ⟨rfl, rfl⟩

end Go.Proofs.Ytalmoaggancdjaa

namespace Go.Proofs.Ytalmoaggancdjaa
open Go.RowKit Go.Shelf
attribute [local go_sem] Oper.semAt_some

theorem oct_toNat (n p : Nat) : ((oct n p).toNat : Int) = (n : Int) / 2 ^ (p * 8) % 256 := by
  unfold oct
  rw [UInt8.toNat_ofNat']
  simp

theorem oct_bv (n p : Nat) : bv (oct n p) = .int .u8 ((n : Int) / 2 ^ (p * 8) % 256) := by rw [← oct_toNat]

set_option maxRecDepth 100000 in
set_option maxHeartbeats 2000000 in
theorem octets1_stops (F : Fence) (m : Nat) (h : F.fn 61) (hro : F.round = none) (hm : 1 ≤ m) (n s : Nat) (hs : s ≤ 8) (Bn Bs : Nat) (w : World) (hBn : Bn < w.heap.size) (hBs : Bs < w.heap.size)
    (hcn : w.cell? ⟨Bn, 0, none⟩ = some (.int .u64 (n : Nat))) (hcs : w.cell? ⟨Bs, 0, none⟩ = some (.int .i64 (s : Nat))) (Kp : World → World → Prop) (hKp : ∀ A B, Kp A B → B.cell? ⟨Bn, 0, none⟩ = A.cell? ⟨Bn, 0, none⟩) :
    SeqStopsK F m Try.prog 61 #[.pointer (some ⟨Bs, 0, none⟩), .pointer (some ⟨Bn, 0, none⟩)] (fun x => #[bv x]) Kp (fun ys => ys = octs n s) (fun _ => True) s w := fun l J Jx W hW _ _ hY h0 => by
  have hcn' := (hW.cell (p := ⟨Bn, 0, none⟩) hBn).trans hcn
  have hcs' := (hW.cell (p := ⟨Bs, 0, none⟩) hBs).trans hcs
  clear hcn hcs
  refine callsIn_of_wp Try.func61 rfl h ?_ hro
  simp only [Try.ntmps61, List.size_toArray, List.length_cons, List.length_nil, Nat.reduceAdd, Nat.reduceSub, Array.replicate_succ, Array.replicate_zero, List.push_toArray, List.append_toArray, List.nil_append, List.cons_append]
  have hs' : (s : Int) ≤ 8 := by omega
  gi_wp2
  clear hcs'
  gi_loopw [4] (fun i wr => ∃ k : Nat, k ≤ s ∧ i = .int .i64 ((s : Int) - 1 - k) ∧ wr.cell? ⟨Bn, 0, none⟩ = some (.int .u64 (n : Nat)) ∧ J ((octs n s).take k) wr) (fun i _ => ((intOf i) + 1).toNat)
  case atStart => exact ⟨0, by omega, by simp, hcn', h0⟩
  case round =>
    obtain ⟨k, hk, rfl, hcw, hJs⟩ := hrel
    clear hcn'
    by_cases hlt : k < s
    · obtain ⟨fn, tmps, assign, body, hy, hR⟩ := hY _ (oct n (s - 1 - k)) wr hJs (by simp [octs_length]; omega)
      have ht : (octs n s).take (k + 1) = (octs n s).take k ++ [oct n (s - 1 - k)] := by rw [List.take_add_one, octs_at n s k hlt]; rfl
      have HT := Lib.hid ht
      clear ht
      have hp : (s : Int) - 1 - k = ((s - 1 - k : Nat) : Int) := by omega
      have hpl : s - 1 - k ≤ 7 := by omega
      rw [hp]
      generalize s - 1 - k = p at *
      have HP := Lib.hid hp
      clear hp
      rw [oct_bv] at hy
      gi_wp2
      refine hR.mono ?_
      clear hy
      rintro e W3 (⟨rfl, hJ3, hk3⟩ | ⟨rfl, hJx3⟩)
      · have hcw3 := (hKp _ _ hk3).trans hcw
        clear hcw
        gi_wp2
        have hq : ((s : Int) - 1 - ((k + 1 : Nat) : Int)) = (p : Int) - 1 := by have := HP.out; omega
        go_roundw
        case rel => exact ⟨k + 1, by omega, by rw [hq], hcw3, by rw [HT.out]; exact hJ3⟩
        case measure => simp [intOf]
      · gi_wp2
        refine bodyPost_ret (results_none rfl _ _ _) rfl ?_
        exact ⟨⟨_, rfl⟩, .inr ⟨_, trivial, hJx3⟩⟩
    · obtain rfl : k = s := by omega
      have hp : (k : Int) - 1 - k = -1 := by omega
      rw [hp]
      clear hp
      gi_wp2
      go_end0
      rw [List.take_of_length_le (by rw [octs_length]; omega)] at hJs
      exact ⟨⟨_, rfl⟩, .inl ⟨_, rfl, hJs⟩⟩

set_option maxHeartbeats 1000000 in
theorem octets_in (F : Fence) (m : Nat) (h : F.fn 38) (hro : F.round = none) (n s : Int) (w : World) :
    CallsIn F m Try.prog 38 #[.int .u64 n, .int .i64 s] w fun e w' => e = .returned (.func (.func 61) #[] #[.pointer (some ⟨w.heap.size + 1, 0, none⟩), .pointer (some ⟨w.heap.size, 0, none⟩)]) ∧ w' = (w.alloc (.cells #[.int .u64 n] 61)).alloc (.cells #[.int .i64 s] 3) := by
  refine callsIn_of_wp Try.func38 rfl h ?_ hro
  simp only [Try.ntmps38, List.size_toArray, List.length_cons, List.length_nil, Nat.reduceAdd, Nat.reduceSub, Array.replicate_succ, Array.replicate_zero, List.push_toArray, List.append_toArray, List.nil_append, List.cons_append]
  gi_wp2
  go_ret
  exact ⟨rfl, rfl⟩

end Go.Proofs.Ytalmoaggancdjaa

namespace Go.Proofs.Ytalmoaggancdjaa
open Go.RowKit Go.Shelf
attribute [local go_sem] Oper.semAt_some

/-- A slice of these octets, in memory of the call's own. -/
def ByW (l : List UInt8) (w : World) (e : Ending) (W' : World) : Prop := ∃ sv, e = .returned sv ∧ BSl w.heap.size W'.heap.size W' sv l ∧ Below w.heap.size w W'
/-- From 0 to 8, else the nearest. -/
def clamp (z : Int) : Nat := if z ≤ 0 then 0 else if 8 ≤ z then 8 else z.toNat
/-- A number as its two's complement. -/
def two (z : Int) : Nat := (z % 18446744073709551616).toNat

theorem Try.infoByte : (Try.prog.info? 5).map (fun i => (i.zero, i.size, i.bytes)) = some (some (.int .u8 0), 1, 1) := by kernel_rfl
theorem wrap_two (z : Int) : IntKind.u64.wrap z = (two z : Nat) := by
  unfold two
  simp [IntKind.wrap, IntKind.bits, IntKind.signed]
  omega
theorem clamp_le (z : Int) : clamp z ≤ 8 := by unfold clamp; split; · omega
                                               split <;> omega
theorem clamp_cases (z : Int) : (z < 0 ∧ (clamp z : Int) = 0) ∨ (0 ≤ z ∧ z ≤ 8 ∧ (clamp z : Int) = z) ∨ (8 < z ∧ (clamp z : Int) = 8) := by
  unfold clamp
  by_cases h0 : z < 0
  · rw [if_pos (by omega)]; exact .inl ⟨h0, rfl⟩
  · by_cases h8 : 8 < z
    · rw [if_neg (by omega), if_pos (by omega)]; exact .inr (.inr ⟨h8, rfl⟩)
    · refine .inr (.inl ⟨by omega, by omega, ?_⟩)
      by_cases e0 : z = 0
      · rw [if_pos (by omega)]; omega
      · rw [if_neg (by omega)]
        by_cases e8 : z = 8
        · rw [if_pos (by omega)]; omega
        · rw [if_neg (by omega)]; omega
/-- Between two rounds: the box holds a slice that owns what has come. -/
def NumI (N Bn x : Nat) (w : World) (pre : List UInt8) (W : World) : Prop :=
  ((∃ v, Boxed W N 24 v ∧ W.ownsRow N 5 1 v pre.length (pre.map bv) ∧ True) ∧ Boxed W Bn 61 (.int .u64 (x : Nat))) ∧ Below N w W
theorem numI_own {N Bn x : Nat} {w : World} {B : Nat} (h : N ≤ w.heap.size) (hB : N ≤ B) : OwnFrom B (NumI N Bn x w) :=
  OwnFrom.and (OwnFrom.and (Own.from (holdsRow_own N N 24 5 1 (fun pre : List UInt8 => pre.length) (fun pre => pre.map bv) (fun _ _ => True)) _)
    (Own.from (fun _ X Y row hs hg hr => blk_own Bn 61 (fun (_ : Unit) => [.int .u64 (x : Nat)]) () X Y row hs hg hr) _)) (ownFrom_below h hB)

set_option maxRecDepth 100000 in
set_option maxHeartbeats 4000000 in
theorem num_in (m : Nat) (hm : 3 ≤ m) (n size : Int) (hs : -9223372036854775808 ≤ size) (hs' : size ≤ 9223372036854775807) (w : World) :
    CallsIn Fence.wide m Try.prog 22 #[.int .i64 n, .int .i64 size] w (ByW (octs (two n) (clamp size)) w) := by
  have h1 : 1 ≤ m := by omega
  refine callsIn_of_wp_marks Try.func22 rfl trivial ?_ rfl
  simp only [Try.ntmps22, List.size_toArray, List.length_cons, List.length_nil, Nat.reduceAdd, Nat.reduceSub, Array.replicate_succ, Array.replicate_zero, List.push_toArray, List.append_toArray, List.nil_append, List.cons_append]
  obtain ⟨i0, hi, hz0, hz1, hz2⟩ := info_parts Try.infoByte
  have hU : IntKind.u64.wrap n = (two n : Nat) := wrap_two n
  have hx : two n < M := by unfold two M; omega
  generalize two n = x at *
  have H8 := clamp_le size
  have hCC := clamp_cases size
  generalize clamp size = s at *
  rcases hCC with ⟨hc0, hC⟩ | ⟨hc0, hc8, hC⟩ | ⟨hc8, hC⟩
  all_goals
    have HC := Lib.hid hC
    clear hC
    gi_wp2_with (refine ⟨trivial, ?_⟩; gi_at_call 38; refine (octets_in Fence.wide (m - 1) trivial rfl _ _ _).mono ?_; rintro e w' ⟨rfl, rfl⟩)
    generalize hW5 : World.alloc _ _ = W5
    have k0 : Boxed W5 w.heap.size 24 (.slice none 0 0) := by rw [← hW5]; exact ((Boxed.new _ _ _).alloc _).alloc _
    have k1 : Boxed W5 (w.heap.size + 1) 61 (.int .u64 (x : Nat)) := by rw [← hW5]; exact (Blk.new' (vs := [.int .u64 (x : Nat)]) (by simp)).alloc _
    have k2 : Boxed W5 (w.heap.size + 1 + 1) 3 (.int .i64 (s : Nat)) := by rw [HC.out, ← hW5]; exact Blk.new' (vs := [.int .i64 _]) (by simp)
    have hB0 : Below w.heap.size w W5 := by rw [← hW5]; exact chainA (chainA (chain0 _ _) _) _
    have hz : W5.heap.size = w.heap.size + 3 := by rw [← hW5]; simp
    clear hW5
    refine wpIn_rangeFunc_ownF (S := fun ys => ys = octs x s) rfl h1 (gf := 61) (lb := #[.pointer (some ⟨w.heap.size + 1 + 1, 0, none⟩), .pointer (some ⟨w.heap.size + 1, 0, none⟩)]) rfl trivial (enters_of Try.func61 (by kernel_rfl) rfl)
      (octets1_stops Fence.wide (m - 1) trivial rfl (by omega) x s H8 (w.heap.size + 1) (w.heap.size + 1 + 1) W5 k1.lt k2.lt (k1.cell) k2.cell (KeepB (w.heap.size + 1)) (fun A B h => World.cell?_of_block h)) KeepB.t (KeepB.b k1.lt) (Below.refl _ _) (fun _ => rfl)
      (NumI w.heap.size (w.heap.size + 1) x w) (fun _ _ _ => False) (numI_own (Nat.le_refl _) (by omega)) (fun _ _ _ _ _ hs _ _ => hs)
      ⟨⟨⟨_, k0, World.ownsRow_nil _ _ _ _, trivial⟩, k1⟩, hB0⟩ ?_ ?_ ?_ ?_ ?_
    rotate_left
    · intro l x W K hK
      gi_wp2
      exact hK
    · rintro l pre o W ⟨⟨⟨v, kv, hown, _⟩, kn⟩, hB⟩ hlt
      have ko := kv.cell
      have kf := kv.frozen
      have hNW : w.heap.size ≤ W.heap.size := hB.size
      gi_wp2_with (gi_at_builtin; refine wpListIn_append_own _ rfl _ _ 24 rfl w.heap.size 5 i0 (.int .u8 0) 1 1 Try.underlying24 hi hz0 hz1 hz2 rfl (by decide) v pre.length (pre.map bv) rfl (hown.alloc _) ⟨W.heap.size, 0, none⟩ 1 1 [bv o] rfl rfl (cell_one_new _ _ _) (by simp [Value.oneCell']) (by unfold maxLen; omega) (by omega) (by simp; omega) ?_; intro v' w1 hown' hgrow _; obtain ⟨g, cap, rfl⟩ := ownsRow_succ hown'; obtain ⟨hv1, kv', hrow', hk3, hbw⟩ := kv.appended (by decide) hown hNW (Nat.le_refl _) hown' hgrow; have ko1 := hv1.cell; have kf1 := hv1.frozen)
      have hn1 : W.heap.size ≤ w1.heap.size := Nat.le_trans (by simp) hgrow.size
      have kn1 : Boxed w1 (w.heap.size + 1) 61 (.int .u64 (x : Nat)) := (kn.alloc _).kept hgrow (Boxed.not_row kn (by decide) hown)
      have kn3 := kn1.kept (grownBy_setCell' w1 w.heap.size (.slice (some ⟨g, 0, none⟩) (pre.length + 1) cap)) (by simp)
      exact ⟨hk3, kn3.trans kn.symm, ⟨⟨_, kv', by simpa using hrow', trivial⟩, kn3⟩, hB.trans hbw⟩
    · rintro D ys W hD rfl ⟨⟨⟨v, kv, hown, _⟩, kn⟩, hB⟩ hK
      have ko := kv.cell
      have HZ := Lib.hid hz
      clear hz
      gi_wp2
      have hB' := hB.trans (belowK_b (w := w) (Nat.le_refl _) _ D _ (.deferred none) (by have := HZ.out; omega) hK rfl rfl)
      have hown3 := ownsRow_putObj hown (.deferred none) hK rfl
      refine ⟨by simp, .inl ⟨_, _, rfl, run_takeDeferred hK, ?_⟩⟩
      refine ⟨v, ?_, ?_⟩
      · simp [results, Try.f22, go_sem]
      · exact ⟨v, rfl, BSl.of_own hown3, hB'⟩
    · rintro D c pre W _ _ h _
      exact h.elim

theorem num_any (n size : Int) (hs : -9223372036854775808 ≤ size) (hs' : size ≤ 9223372036854775807) (w : World) :
    Calls Try.prog 22 #[.int .i64 n, .int .i64 size] w (ByW (octs (two n) (clamp size)) w) := callsIn_wide.1 (num_in 3 (by omega) n size hs hs' w)

end Go.Proofs.Ytalmoaggancdjaa

namespace Go.Proofs.Ytalmoaggancdjaa
open Go.RowKit Go.Shelf
attribute [local go_sem] Oper.semAt_some

theorem Try.infoInt : (Try.prog.info? 3).map (fun i => (i.zero, i.size, i.bytes)) = some (some (.int .i64 0), 1, 8) := by kernel_rfl

/-- Between two rounds. -/
def SeqII (n₀ B Bn Bm x N k : Nat) (xs ys : List Value) (w : World) (j : Nat) (W : World) : Prop :=
  (((∃ v, Boxed W B 54 v ∧ W.ownsRow n₀ 3 1 v (k + j) (xs ++ ys.take j) ∧ True) ∧ (Boxed W Bn 3 (.int .i64 (x : Nat)) ∧ Boxed W Bm 3 (.int .i64 (N : Nat)))) ∧ Below n₀ w W) ∧ Spares 3 w W
theorem seqII_own {n₀ Bb Bn Bm x N k : Nat} {xs ys : List Value} {w : World} {B : Nat} (h : n₀ ≤ w.heap.size) (hB : w.heap.size ≤ B) : OwnFrom B (SeqII n₀ Bb Bn Bm x N k xs ys w) :=
  OwnFrom.and (OwnFrom.and (OwnFrom.and (Own.from (holdsRow_own n₀ Bb 54 3 1 (fun j : Nat => k + j) (fun j => xs ++ ys.take j) (fun _ _ => True)) _)
    (OwnFrom.and (Own.from (fun _ X Y row hs hg hr => blk_own Bn 3 (fun (_ : Unit) => [.int .i64 (x : Nat)]) () X Y row hs hg hr) _)
      (Own.from (fun _ X Y row hs hg hr => blk_own Bm 3 (fun (_ : Unit) => [.int .i64 (N : Nat)]) () X Y row hs hg hr) _))) (ownFrom_below h (Nat.le_trans h hB))) (ownFrom_spares hB)
/-- What is handed back: the row. -/
def RowW (n₀ : Nat) (e : TypeId) (k : Nat) (xs : List Value) (w : World) (en : Ending) (W' : World) : Prop :=
  ∃ v', en = .returned v' ∧ W'.ownsRow n₀ e 1 v' k xs ∧ Below n₀ w W'

/-- .. and all but rows of e lies as it lay. -/
def RowSW (n₀ : Nat) (e : TypeId) (k : Nat) (xs : List Value) (w : World) (en : Ending) (W' : World) : Prop :=
  ∃ v', en = .returned v' ∧ W'.ownsRow n₀ e 1 v' k xs ∧ Below n₀ w W' ∧ Spares e w W'

set_option maxRecDepth 100000 in
set_option maxHeartbeats 4000000 in
theorem appendSeqI_in (m : Nat) (hm : 3 ≤ m) (n₀ k x N : Nat) (hk : k ≤ 1000000) (hx : x ≤ 16777215) (hN : N ≤ 16) (sv : Value) (xs : List Value) (Bn Bm : Nat) (w : World) (hn₀ : n₀ ≤ w.heap.size) (hrow : w.ownsRow n₀ 3 1 sv k xs)
    (kn : Boxed w Bn 3 (.int .i64 (x : Nat))) (km : Boxed w Bm 3 (.int .i64 (N : Nat))) (hne : (Bn < n₀ ∧ Bm < n₀) ∨ 2 ≤ k) :
    CallsIn Fence.wide m Try.prog 56 #[sv, .func (.func 77) #[] #[.pointer (some ⟨Bm, 0, none⟩), .pointer (some ⟨Bn, 0, none⟩)]] w (RowSW n₀ 3 (k + N) (xs ++ (digs x N).map iv) w) := by
  have h1 : 1 ≤ m := by omega
  obtain ⟨a, c, rfl⟩ := ownsRow_slice hrow
  refine callsIn_of_wp_marks Try.func56 rfl trivial ?_ rfl
  simp only [Try.ntmps56, List.size_toArray, List.length_cons, List.length_nil, Nat.reduceAdd, Nat.reduceSub, Array.replicate_succ, Array.replicate_zero, List.push_toArray, List.append_toArray, List.nil_append, List.cons_append]
  obtain ⟨i0, hi, hz0, hz1, hz2⟩ := info_parts Try.infoInt
  gi_wp2
  generalize hW5 : World.alloc _ _ = W5
  have k0 : Boxed W5 w.heap.size 54 (.slice a k c) := by rw [← hW5]; exact Boxed.new _ _ _
  have k1 : Boxed W5 Bn 3 (.int .i64 (x : Nat)) := by rw [← hW5]; exact kn.alloc _
  have k2 : Boxed W5 Bm 3 (.int .i64 (N : Nat)) := by rw [← hW5]; exact km.alloc _
  have hB0 : Below w.heap.size w W5 := by rw [← hW5]; exact chain0 _ _
  have hrow5 : W5.ownsRow n₀ 3 1 (.slice a k c) k xs := by rw [← hW5]; exact hrow.alloc _
  have hz : W5.heap.size = w.heap.size + 1 := by rw [← hW5]; simp
  have hBnw : Bn < w.heap.size := kn.lt
  have hBmw : Bm < w.heap.size := km.lt
  clear hW5
  refine wpIn_rangeFunc_relA rfl h1 (gf := 77) (lb := #[.pointer (some ⟨Bm, 0, none⟩), .pointer (some ⟨Bn, 0, none⟩)]) rfl trivial (enters_of Try.func77 (by kernel_rfl) rfl)
    (digits1_rel (m - 1) (by omega) x N hx hN Bn Bm W5 k1 k2) KeepB2.t (fun X o o' h2 h3 h4 => ⟨World.putObj_heap_other (by omega), World.putObj_heap_other (by omega)⟩) (fun X => ⟨rfl, rfl⟩) (Below.refl _ _) (fun _ => rfl)
    (SeqII n₀ w.heap.size Bn Bm x N k xs ((digs x N).map iv) w) (seqII_own hn₀ (by omega))
    ⟨⟨⟨⟨_, k0, by simpa using hrow5, trivial⟩, k1, k2⟩, hB0.mono hn₀⟩, Spares.of_below hB0⟩ (fun _ _ _ _ _ _ h _ _ => h) ?_ ?_ ?_ ?_
  rotate_left
  · intro l k x W K _ hK
    gi_wp2
    exact hK
  · rintro l j y W hlt ⟨⟨⟨⟨v, kv, hown, _⟩, kn, km⟩, hB⟩, hsp⟩ hy
    have ht : ((digs x N).map iv).take (j + 1) = ((digs x N).map iv).take j ++ [iv y] := by rw [List.take_add_one, List.getElem?_map, hy]; rfl
    have HT := Lib.hid ht
    clear ht hy
    have ko := kv.cell
    have kf := kv.frozen
    have hNW : n₀ ≤ W.heap.size := Nat.le_trans hn₀ hB.size
    have hn1 := own_ne (B := Bn) hown kn (by omega)
    have hn2 := own_ne (B := Bm) hown km (by omega)
    generalize ((digs x N).map iv).take j = zs at *
    gi_wp2_with (gi_at_builtin; refine wpListIn_append_own _ rfl _ _ 54 rfl n₀ 3 i0 (.int .i64 0) 1 8 Try.underlying54 hi hz0 hz1 hz2 rfl (by decide) v (k + j) (xs ++ zs) rfl (hown.alloc _) ⟨W.heap.size, 0, none⟩ 1 1 [iv y] rfl rfl (cell_one_new _ _ _) (by simp [Value.oneCell']) (by unfold maxLen; omega) (by omega) (by simp; omega) ?_; intro v' w1 hown' hgrow _; obtain ⟨g, cap, rfl⟩ := ownsRow_succ hown'; obtain ⟨hv1, kv', hrow', hk3, hbw⟩ := kv.appended (by decide) hown hNW hn₀ hown' hgrow; have ko1 := hv1.cell; have kf1 := hv1.frozen)
    have kn1 : Boxed w1 Bn 3 (.int .i64 (x : Nat)) := (kn.alloc _).kept hgrow hn1
    have kn3 := kn1.kept (grownBy_setCell' w1 w.heap.size (.slice (some ⟨g, 0, none⟩) (k + j + 1) cap)) (fun e => by cases e; omega)
    have km1 : Boxed w1 Bm 3 (.int .i64 (N : Nat)) := (km.alloc _).kept hgrow hn2
    have km3 := km1.kept (grownBy_setCell' w1 w.heap.size (.slice (some ⟨g, 0, none⟩) (k + j + 1) cap)) (fun e => by cases e; omega)
    have hsp1 := ((hsp.grown (World.grownBy_alloc W (.cells #[iv y] 3) none) (fun r e => by cases e)).grown hgrow (fun r e => .inr (ownsRow_block (hown.alloc _) r e))).grown (grownBy_setCell' w1 w.heap.size (.slice (some ⟨g, 0, none⟩) (k + j + 1) cap)) (fun r e => by cases e; exact .inl (Nat.le_refl _))
    exact ⟨hk3.from _, ⟨kn3.trans kn.symm, km3.trans km.symm⟩, ⟨⟨⟨_, kv', by rw [HT.out]; simpa [Nat.add_assoc] using hrow', trivial⟩, kn3, km3⟩, hB.trans hbw⟩, hsp1⟩
  · rintro D W hD ⟨⟨⟨⟨v, kv, hown, _⟩, _⟩, hB⟩, hsp⟩ hK
    have ko := kv.cell
    have HZ := Lib.hid hz
    clear hz
    gi_wp2
    have hD' : w.heap.size ≤ D := by have := HZ.out; omega
    have hB' := hB.trans (belowK_b (w := w) hn₀ _ D _ (.deferred none) hD' hK rfl rfl)
    have hown3 := ownsRow_putObj hown (.deferred none) hK rfl
    rw [List.take_of_length_le (by simp [digs_length])] at hown3
    refine ⟨by simp, .inl ⟨_, _, rfl, run_takeDeferred hK, ?_⟩⟩
    refine ⟨v, ?_, ?_⟩
    · simp [results, Try.f56, go_sem]
    · exact ⟨v, rfl, hown3, hB', hsp.grown (grownBy_putObj' _ D (.deferred none)) (fun r e => by cases e; exact .inl hD')⟩

theorem collectI_in (m : Nat) (hm : 4 ≤ m) (x N : Nat) (hx : x ≤ 16777215) (hN : N ≤ 16) (Bn Bm : Nat) (w : World)
    (kn : Boxed w Bn 3 (.int .i64 (x : Nat))) (km : Boxed w Bm 3 (.int .i64 (N : Nat))) :
    CallsIn Fence.wide m Try.prog 53 #[.func (.func 77) #[] #[.pointer (some ⟨Bm, 0, none⟩), .pointer (some ⟨Bn, 0, none⟩)]] w (RowW w.heap.size 3 N ((digs x N).map iv) w) := by
  have h1 : 1 ≤ m := by omega
  refine callsIn_of_wp Try.func53 rfl trivial ?_ rfl
  simp only [Try.ntmps53, List.size_toArray, List.length_cons, List.length_nil, Nat.reduceAdd, Nat.reduceSub, Array.replicate_succ, Array.replicate_zero, List.push_toArray, List.append_toArray, List.nil_append, List.cons_append]
  gi_wp2_with (refine ⟨trivial, ?_⟩; gi_at_call 56; refine (appendSeqI_in (m - 1) (by omega) w.heap.size 0 x N (by omega) hx hN _ [] Bn Bm w (Nat.le_refl _) (World.ownsRow_nil _ _ _ _) kn km (.inl ⟨kn.lt, km.lt⟩)).mono ?_; rintro e w' ⟨v, rfl, hown, hb, _⟩; obtain ⟨a, c, rfl⟩ := ownsRow_slice hown)
  go_ret
  exact ⟨_, rfl, by simpa using hown, hb⟩

end Go.Proofs.Ytalmoaggancdjaa

namespace Go.Proofs.Ytalmoaggancdjaa
open Go.RowKit Go.Shelf
attribute [local go_sem] Oper.semAt_some

theorem Try.infoStr : (Try.prog.info? 9).map (fun i => (i.zero, i.size, i.bytes)) = some (some (.string ⟨#[]⟩), 1, 16) := by kernel_rfl

/-- All but the rows of e and two blocks lie as they lay. -/
def ButRows (e : TypeId) (B l : Nat) (W W' : World) : Prop := W.heap.size ≤ W'.heap.size ∧ ∀ (j : Nat) (o : Obj), W.heap[j]? = some o → j ≠ B → j ≠ l → (∀ cur fr, o ≠ .cells cur e fr) → W'.heap[j]? = some o
theorem ButRows.refl (e : TypeId) (B l : Nat) (W : World) : ButRows e B l W W := ⟨Nat.le_refl _, fun _ _ h _ _ _ => h⟩
theorem ButRows.t {e : TypeId} {B l : Nat} {X Y Z : World} (h : ButRows e B l X Y) (k : ButRows e B l Y Z) : ButRows e B l X Z :=
  ⟨Nat.le_trans h.1 k.1, fun j o hj h1 h2 h3 => k.2 j o (h.2 j o hj h1 h2 h3) h1 h2 h3⟩
theorem ButRows.b (e : TypeId) (B l : Nat) (W : World) (o' : Obj) : ButRows e B l W (W.putObj l o') := ⟨by simp, fun j o hj _ h2 _ => (World.putObj_heap_other h2).trans hj⟩
theorem own_butRows {W W' : World} {base : Nat} {e e' : TypeId} {size k : Nat} {v : Value} {xs : List Value} {B l : Nat} (h : W.ownsRow base e size v k xs) (hs : ButRows e' B l W W') (hne : e ≠ e') (hB : B < base) (hl : l < base) : W'.ownsRow base e size v k xs := by
  obtain ⟨h1, h2⟩ := h
  refine ⟨h1, ?_⟩
  rcases h2 with h2 | ⟨g, cap, cur, rfl, hb, hh, r⟩
  · exact .inl h2
  · exact .inr ⟨g, cap, cur, rfl, hb, hs.2 g _ hh (by omega) (by omega) (fun cur' fr' e => by cases e; exact hne rfl), r⟩

/-- Between two rounds. -/
def SeqTI (n₀ B k : Nat) (xs ys : List Value) (w : World) (j : Nat) (W : World) : Prop :=
  ((∃ v, Boxed W B 28 v ∧ W.ownsRow n₀ 9 1 v (k + j) (xs ++ ys.take j) ∧ True) ∧ Below n₀ w W) ∧ Spares 9 w W
theorem seqTI_own {n₀ Bb k : Nat} {xs ys : List Value} {w : World} {B : Nat} (h : n₀ ≤ w.heap.size) (hB : w.heap.size ≤ B) : OwnFrom B (SeqTI n₀ Bb k xs ys w) :=
  OwnFrom.and (OwnFrom.and (Own.from (holdsRow_own n₀ Bb 28 9 1 (fun j : Nat => k + j) (fun j => xs ++ ys.take j) (fun _ _ => True)) _)
    (ownFrom_below h (Nat.le_trans h hB))) (ownFrom_spares hB)

set_option maxRecDepth 100000 in
set_option maxHeartbeats 4000000 in
theorem appendSeqT_in (m : Nat) (hm : 3 ≤ m) (n₀ k : Nat) (hk : k ≤ 1000000) (zs : List ByteArray) (hz0 : zs.length ≤ 1000000) (sv : Value) (xs : List Value) (w : World) (hn₀ : n₀ ≤ w.heap.size) (hrow : w.ownsRow n₀ 9 1 sv k xs)
    (gf : Nat) (lb : Array Value) (eg : ∀ args w, (callFunc gf args).run Try.prog w = .ok (.enter gf args) w)
    (hseq : ∀ W, Below w.heap.size w W → w.heap.size < W.heap.size → SeqRel Fence.wide (m - 1) Try.prog gf lb zs.length (fun j r _ => ∃ y, zs[j]? = some y ∧ r = #[tv y]) (fun l A B => Below n₀ A B ∧ ButRows 9 w.heap.size l A B) W) :
    CallsIn Fence.wide m Try.prog 81 #[sv, .func (.func gf) #[] lb] w (RowSW n₀ 9 (k + zs.length) (xs ++ zs.map tv) w) := by
  have h1 : 1 ≤ m := by omega
  obtain ⟨a, c, rfl⟩ := ownsRow_slice hrow
  refine callsIn_of_wp_marks Try.func81 rfl trivial ?_ rfl
  simp only [Try.ntmps81, List.size_toArray, List.length_cons, List.length_nil, Nat.reduceAdd, Nat.reduceSub, Array.replicate_succ, Array.replicate_zero, List.push_toArray, List.append_toArray, List.nil_append, List.cons_append]
  obtain ⟨i0, hi, hz0', hz1, hz2⟩ := info_parts Try.infoStr
  gi_wp2
  generalize hW5 : World.alloc _ _ = W5
  have k0 : Boxed W5 w.heap.size 28 (.slice a k c) := by rw [← hW5]; exact Boxed.new _ _ _
  have hB0 : Below w.heap.size w W5 := by rw [← hW5]; exact chain0 _ _
  have hrow5 : W5.ownsRow n₀ 9 1 (.slice a k c) k xs := by rw [← hW5]; exact hrow.alloc _
  have hz : W5.heap.size = w.heap.size + 1 := by rw [← hW5]; simp
  clear hW5
  refine wpIn_rangeFunc_relA (encs := fun y : ByteArray => #[tv y]) rfl h1 (gf := gf) (lb := lb) rfl trivial eg
    (hseq W5 hB0 (by omega)) (fun h k => ⟨h.1.trans k.1, h.2.t k.2⟩) (fun X o o' h2 h3 h4 => ⟨belowK_b (w := w) hn₀ _ _ o o' (by omega) h2 h3 h4, ButRows.b _ _ _ X o'⟩) (fun X => ⟨Below.refl _ X, ButRows.refl _ _ _ X⟩) (Below.refl _ _) (fun _ => rfl)
    (SeqTI n₀ w.heap.size k xs (zs.map tv) w) (seqTI_own hn₀ (by omega))
    ⟨⟨⟨_, k0, by simpa using hrow5, trivial⟩, hB0.mono hn₀⟩, Spares.of_below hB0⟩ (fun _ _ _ _ _ _ h _ _ => h) ?_ ?_ ?_ ?_
  rotate_left
  · intro l j y W K _ hK
    gi_wp2
    exact hK
  · rintro l j y W hlt ⟨⟨⟨v, kv, hown, _⟩, hB⟩, hsp⟩ hy
    have ht : (zs.map tv).take (j + 1) = (zs.map tv).take j ++ [tv y] := by rw [List.take_add_one, List.getElem?_map, hy]; rfl
    have HT := Lib.hid ht
    clear ht hy
    have ko := kv.cell
    have kf := kv.frozen
    have hNW : n₀ ≤ W.heap.size := Nat.le_trans hn₀ hB.size
    have HZ := Lib.hid hz
    clear hz
    generalize (zs.map tv).take j = ts at *
    gi_wp2_with (gi_at_builtin; refine wpListIn_append_own _ rfl _ _ 28 rfl n₀ 9 i0 (.string ⟨#[]⟩) 1 16 Try.underlying28 hi hz0' hz1 hz2 rfl (by decide) v (k + j) (xs ++ ts) rfl (hown.alloc _) ⟨W.heap.size, 0, none⟩ 1 1 [tv y] rfl rfl (cell_one_new _ _ _) (by simp [Value.oneCell']) (by unfold maxLen; omega) (by omega) (by simp; omega) ?_; intro v' w1 hown' hgrow _; obtain ⟨g, cap, rfl⟩ := ownsRow_succ hown'; obtain ⟨hv1, kv', hrow', hk3, hbw⟩ := kv.appended (by decide) hown hNW hn₀ hown' hgrow; have ko1 := hv1.cell; have kf1 := hv1.frozen)
    have hspW : Spares 9 W w1 := ((Spares.of_below (Below.refl _ W)).grown (World.grownBy_alloc W (.cells #[tv y] 9) none) (fun r e => by cases e)).grown hgrow (fun r e => .inr (ownsRow_block (hown.alloc _) r e))
    have hbut : ButRows 9 w.heap.size (W5.heap.size + 1) W (w1.setCell ⟨w.heap.size, 0, none⟩ (.slice (some ⟨g, 0, none⟩) (k + j + 1) cap)) :=
      ⟨Nat.le_trans hspW.1 (grownBy_setCell' w1 w.heap.size (.slice (some ⟨g, 0, none⟩) (k + j + 1) cap)).size, fun i o hi' h1' _ h3' => (Below.heap_setCell w1 ⟨w.heap.size, 0, none⟩ _ i h1').trans (hspW.2 i o hi' h3')⟩
    have hsp1 := (hsp.t hspW).grown (grownBy_setCell' w1 w.heap.size (.slice (some ⟨g, 0, none⟩) (k + j + 1) cap)) (fun r e => by cases e; exact .inl (Nat.le_refl _))
    exact ⟨hk3.from _, ⟨hbw, hbut⟩, ⟨⟨_, kv', by rw [HT.out]; simpa [Nat.add_assoc] using hrow', trivial⟩, hB.trans hbw⟩, hsp1⟩
  · rintro D W hD ⟨⟨⟨v, kv, hown, _⟩, hB⟩, hsp⟩ hK
    have ko := kv.cell
    have HZ := Lib.hid hz
    clear hz
    gi_wp2
    have hD' : w.heap.size ≤ D := by have := HZ.out; omega
    have hB' := hB.trans (belowK_b (w := w) hn₀ _ D _ (.deferred none) hD' hK rfl rfl)
    have hown3 := ownsRow_putObj hown (.deferred none) hK rfl
    rw [List.take_of_length_le (by simp)] at hown3
    refine ⟨by simp, .inl ⟨_, _, rfl, run_takeDeferred hK, ?_⟩⟩
    refine ⟨v, ?_, ?_⟩
    · simp [results, Try.f81, go_sem]
    · exact ⟨v, rfl, hown3, hB', hsp.grown (grownBy_putObj' _ D (.deferred none)) (fun r e => by cases e; exact .inl hD')⟩

theorem collectT_in (m : Nat) (hm : 4 ≤ m) (zs : List ByteArray) (hz0 : zs.length ≤ 1000000) (w : World)
    (gf : Nat) (lb : Array Value) (eg : ∀ args w, (callFunc gf args).run Try.prog w = .ok (.enter gf args) w)
    (hseq : ∀ W, Below w.heap.size w W → w.heap.size < W.heap.size → SeqRel Fence.wide (m - 1 - 1) Try.prog gf lb zs.length (fun j r _ => ∃ y, zs[j]? = some y ∧ r = #[tv y]) (fun l A B => Below w.heap.size A B ∧ ButRows 9 w.heap.size l A B) W) :
    CallsIn Fence.wide m Try.prog 59 #[.func (.func gf) #[] lb] w (RowW w.heap.size 9 zs.length (zs.map tv) w) := by
  have h1 : 1 ≤ m := by omega
  refine callsIn_of_wp Try.func59 rfl trivial ?_ rfl
  simp only [Try.ntmps59, List.size_toArray, List.length_cons, List.length_nil, Nat.reduceAdd, Nat.reduceSub, Array.replicate_succ, Array.replicate_zero, List.push_toArray, List.append_toArray, List.nil_append, List.cons_append]
  gi_wp2_with (refine ⟨trivial, ?_⟩; gi_at_call 81; refine (appendSeqT_in (m - 1) (by omega) w.heap.size 0 (by omega) zs hz0 _ [] w (Nat.le_refl _) (World.ownsRow_nil _ _ _ _) gf lb eg hseq).mono ?_; rintro e w' ⟨v, rfl, hown, hb, _⟩; obtain ⟨a, c, rfl⟩ := ownsRow_slice hown)
  go_ret
  exact ⟨_, rfl, by simpa using hown, hb⟩

end Go.Proofs.Ytalmoaggancdjaa

namespace Go.Proofs.Ytalmoaggancdjaa
open Go.RowKit Go.Shelf

theorem run_append_b {P : Program} (w : World) (base : Nat) (t ty e : TypeId) (i : TypeInfo) (z : Value) (ht : P.underlying t = some (.slice e)) (hi : P.info? e = some i) (hz : i.zero = some z)
    (hsize : i.size = 1) (hby : i.bytes = 1) (hzs : z.cells.size = 1) (v : Value) (n : Nat) (xs : List Value) (hown : w.ownsRow base e 1 v n xs)
    {lo hi' : Nat} {sv : Value} {l : List UInt8} (hsv : BSl lo hi' w sv l) (h63 : n + l.length ≤ 140737488355328) (hbase : base ≤ w.heap.size) :
    ∃ v' w', (Builtin.append_ #[t, t] ty #[v, sv]).run P w = .ok v' w' ∧ w'.ownsRow base e 1 v' (n + l.length) (xs ++ l.map bv) ∧ w.grownBy w' v.ownBlock := by
  obtain ⟨a, cap, rfl, _, h0⟩ := hsv
  rcases a with _ | ad
  · have hl : l = [] := by
      rcases h0 with h0 | ⟨_, _, h, _⟩
      · exact h0
      · cases h
    subst hl
    refine ⟨v, w, ?_, by simpa using hown, World.grownBy.refl w _⟩
    rcases hown.2 with ⟨rfl, rfl⟩ | ⟨g, c, cur, rfl, _, _, hnc, _⟩
    · simp [Builtin.append_, run_underlying ht, sizeOf, typeInfo, hi, Builtin.lenOf, Builtin.firstCells]
    · simp [Builtin.append_, run_underlying ht, sizeOf, typeInfo, hi, Builtin.lenOf, Builtin.firstCells, hnc, storeCells]
  · obtain ⟨v', w', hr, h2, h3, _⟩ := run_append_own (P := P) w base t ty e i z 1 1 ht hi hz hsize hby hzs (by omega) v n xs hown ad l.length cap (l.map bv) (by simp)
      (fun j u hu => by
        rcases h0 with rfl | ⟨b, off, ha, _, _, ho⟩
        · simp at hu
        · cases ha
          rw [List.getElem?_map] at hu
          obtain ⟨x, hx, rfl⟩ := Option.map_eq_some_iff.1 hu
          have hp : (⟨b, off, none⟩ : Addr).add j = ⟨b, off + j, none⟩ := by cases j <;> simp [Addr.add]
          rw [hp]; exact ho j x hx)
      (by intro u hu; obtain ⟨x, _, rfl⟩ := List.mem_map.1 hu; rfl) (by unfold maxLen; omega) (by omega) hbase
    exact ⟨v', w', hr, h2, h3⟩

theorem wpList_append_b {P : Program} (w : World) {ops : Array Oper} {rest : List Oper} {o : Oper} {a : Act} {Q : Exit → Act → World → Prop}
    (hg : o.guard = none) (s x : Operand) (t : TypeId) (hop : o.op = Op.call { callee := Callee.builtin Builtin.append, args := #[s, x], argTypes := #[t, t] })
    (base : Nat) (e : TypeId) (i : TypeInfo) (z : Value) (ht : P.underlying t = some (.slice e)) (hi : P.info? e = some i) (hz : i.zero = some z)
    (hsize : i.size = 1) (hby : i.bytes = 1) (hzs : z.cells.size = 1) (v : Value) (n : Nat) (xs : List Value) (hs : a.eval s = v) (hown : w.ownsRow base e 1 v n xs)
    {lo hi' : Nat} (sv : Value) (l : List UInt8) (hx : a.eval x = sv) (hsv : BSl lo hi' w sv l) (h63 : n + l.length ≤ 140737488355328) (hbase : base ≤ w.heap.size)
    (hK : ∀ v' w', w'.ownsRow base e 1 v' (n + l.length) (xs ++ l.map bv) → w.grownBy w' v.ownBlock → wpList P ops Q rest (a.put o.dst v') w') :
    wpList P ops Q (o :: rest) a w := by
  refine wpList_plain hg fun K hK' => ?_
  obtain ⟨v', w', hrun, r1, r2⟩ := run_append_b (P := P) w base t o.type e i z ht hi hz hsize hby hzs v n xs hown hsv h63 hbase
  unfold Oper.wp
  simp [execOp, hop, resolve, invoke, builtin, hs, hx, hrun, Result.andThen]
  exact hK' _ _ (hK v' w' r1 r2)

theorem wpListIn_append_b {F : Fence} {m : Nat} {P : Program} (w : World) {ops : Array Oper} {rest : List Oper} {o : Oper} {a : Act} {Q : Exit → Act → World → Prop}
    (hg : o.guard = none) (s x : Operand) (t : TypeId) (hop : o.op = Op.call { callee := Callee.builtin Builtin.append, args := #[s, x], argTypes := #[t, t] })
    (base : Nat) (e : TypeId) (i : TypeInfo) (z : Value) (ht : P.underlying t = some (.slice e)) (hi : P.info? e = some i) (hz : i.zero = some z)
    (hsize : i.size = 1) (hby : i.bytes = 1) (hzs : z.cells.size = 1) (v : Value) (n : Nat) (xs : List Value) (hs : a.eval s = v) (hown : w.ownsRow base e 1 v n xs)
    {lo hi' : Nat} (sv : Value) (l : List UInt8) (hx : a.eval x = sv) (hsv : BSl lo hi' w sv l) (h63 : n + l.length ≤ 140737488355328) (hbase : base ≤ w.heap.size)
    (hK : ∀ v' w', w'.ownsRow base e 1 v' (n + l.length) (xs ++ l.map bv) → w.grownBy w' v.ownBlock → wpListIn F m P ops Q rest (a.put o.dst v') w') :
    wpListIn F m P ops Q (o :: rest) a w := by
  refine wpListIn_plain hg fun K hK' => ?_
  obtain ⟨v', w', hrun, r1, r2⟩ := run_append_b (P := P) w base t o.type e i z ht hi hz hsize hby hzs v n xs hown hsv h63 hbase
  unfold Oper.wpIn
  refine ⟨?_, ?_⟩
  · simp [Oper.about, hop, resolve, Target.leads, Sem.run_pure]
  · rw [Oper.semAt_plain F _ _ (by rw [hop]; intro c hc'; cases hc')]
    simp [execOp, hop, resolve, invoke, builtin, hs, hx, hrun, Result.andThen]
    exact hK' _ _ (hK v' w' r1 r2)

/-- A slice of these octets: a row of the call's own. -/
def ByO (l : List UInt8) (w : World) (e : Ending) (W' : World) : Prop := ∃ sv, e = .returned sv ∧ W'.ownsRow w.heap.size 5 1 sv l.length (l.map bv) ∧ Below w.heap.size w W'

end Go.Proofs.Ytalmoaggancdjaa

namespace Go.Proofs.Ytalmoaggancdjaa
open Go.RowKit Go.Shelf
attribute [local go_sem] Oper.semAt_some

set_option maxRecDepth 100000 in
set_option maxHeartbeats 4000000 in
theorem numO_in (m : Nat) (hm : 3 ≤ m) (n size : Int) (hs : -9223372036854775808 ≤ size) (hs' : size ≤ 9223372036854775807) (w : World) :
    CallsIn Fence.wide m Try.prog 22 #[.int .i64 n, .int .i64 size] w (ByO (octs (two n) (clamp size)) w) := by
  have h1 : 1 ≤ m := by omega
  refine callsIn_of_wp_marks Try.func22 rfl trivial ?_ rfl
  simp only [Try.ntmps22, List.size_toArray, List.length_cons, List.length_nil, Nat.reduceAdd, Nat.reduceSub, Array.replicate_succ, Array.replicate_zero, List.push_toArray, List.append_toArray, List.nil_append, List.cons_append]
  obtain ⟨i0, hi, hz0, hz1, hz2⟩ := info_parts Try.infoByte
  have hU : IntKind.u64.wrap n = (two n : Nat) := wrap_two n
  have hx : two n < M := by unfold two M; omega
  generalize two n = x at *
  have H8 := clamp_le size
  have hCC := clamp_cases size
  generalize clamp size = s at *
  rcases hCC with ⟨hc0, hC⟩ | ⟨hc0, hc8, hC⟩ | ⟨hc8, hC⟩
  all_goals
    have HC := Lib.hid hC
    clear hC
    gi_wp2_with (refine ⟨trivial, ?_⟩; gi_at_call 38; refine (octets_in Fence.wide (m - 1) trivial rfl _ _ _).mono ?_; rintro e w' ⟨rfl, rfl⟩)
    generalize hW5 : World.alloc _ _ = W5
    have k0 : Boxed W5 w.heap.size 24 (.slice none 0 0) := by rw [← hW5]; exact ((Boxed.new _ _ _).alloc _).alloc _
    have k1 : Boxed W5 (w.heap.size + 1) 61 (.int .u64 (x : Nat)) := by rw [← hW5]; exact (Blk.new' (vs := [.int .u64 (x : Nat)]) (by simp)).alloc _
    have k2 : Boxed W5 (w.heap.size + 1 + 1) 3 (.int .i64 (s : Nat)) := by rw [HC.out, ← hW5]; exact Blk.new' (vs := [.int .i64 _]) (by simp)
    have hB0 : Below w.heap.size w W5 := by rw [← hW5]; exact chainA (chainA (chain0 _ _) _) _
    have hz : W5.heap.size = w.heap.size + 3 := by rw [← hW5]; simp
    clear hW5
    refine wpIn_rangeFunc_ownF (S := fun ys => ys = octs x s) rfl h1 (gf := 61) (lb := #[.pointer (some ⟨w.heap.size + 1 + 1, 0, none⟩), .pointer (some ⟨w.heap.size + 1, 0, none⟩)]) rfl trivial (enters_of Try.func61 (by kernel_rfl) rfl)
      (octets1_stops Fence.wide (m - 1) trivial rfl (by omega) x s H8 (w.heap.size + 1) (w.heap.size + 1 + 1) W5 k1.lt k2.lt (k1.cell) k2.cell (KeepB (w.heap.size + 1)) (fun A B h => World.cell?_of_block h)) KeepB.t (KeepB.b k1.lt) (Below.refl _ _) (fun _ => rfl)
      (NumI w.heap.size (w.heap.size + 1) x w) (fun _ _ _ => False) (numI_own (Nat.le_refl _) (by omega)) (fun _ _ _ _ _ hs _ _ => hs)
      ⟨⟨⟨_, k0, World.ownsRow_nil _ _ _ _, trivial⟩, k1⟩, hB0⟩ ?_ ?_ ?_ ?_ ?_
    rotate_left
    · intro l x W K hK
      gi_wp2
      exact hK
    · rintro l pre o W ⟨⟨⟨v, kv, hown, _⟩, kn⟩, hB⟩ hlt
      have ko := kv.cell
      have kf := kv.frozen
      have hNW : w.heap.size ≤ W.heap.size := hB.size
      gi_wp2_with (gi_at_builtin; refine wpListIn_append_own _ rfl _ _ 24 rfl w.heap.size 5 i0 (.int .u8 0) 1 1 Try.underlying24 hi hz0 hz1 hz2 rfl (by decide) v pre.length (pre.map bv) rfl (hown.alloc _) ⟨W.heap.size, 0, none⟩ 1 1 [bv o] rfl rfl (cell_one_new _ _ _) (by simp [Value.oneCell']) (by unfold maxLen; omega) (by omega) (by simp; omega) ?_; intro v' w1 hown' hgrow _; obtain ⟨g, cap, rfl⟩ := ownsRow_succ hown'; obtain ⟨hv1, kv', hrow', hk3, hbw⟩ := kv.appended (by decide) hown hNW (Nat.le_refl _) hown' hgrow; have ko1 := hv1.cell; have kf1 := hv1.frozen)
      have hn1 : W.heap.size ≤ w1.heap.size := Nat.le_trans (by simp) hgrow.size
      have kn1 : Boxed w1 (w.heap.size + 1) 61 (.int .u64 (x : Nat)) := (kn.alloc _).kept hgrow (Boxed.not_row kn (by decide) hown)
      have kn3 := kn1.kept (grownBy_setCell' w1 w.heap.size (.slice (some ⟨g, 0, none⟩) (pre.length + 1) cap)) (by simp)
      exact ⟨hk3, kn3.trans kn.symm, ⟨⟨_, kv', by simpa using hrow', trivial⟩, kn3⟩, hB.trans hbw⟩
    · rintro D ys W hD rfl ⟨⟨⟨v, kv, hown, _⟩, kn⟩, hB⟩ hK
      have ko := kv.cell
      have HZ := Lib.hid hz
      clear hz
      gi_wp2
      have hB' := hB.trans (belowK_b (w := w) (Nat.le_refl _) _ D _ (.deferred none) (by have := HZ.out; omega) hK rfl rfl)
      have hown3 := ownsRow_putObj hown (.deferred none) hK rfl
      refine ⟨by simp, .inl ⟨_, _, rfl, run_takeDeferred hK, ?_⟩⟩
      refine ⟨v, ?_, ?_⟩
      · simp [results, Try.f22, go_sem]
      · exact ⟨v, rfl, hown3, hB'⟩
    · rintro D c pre W _ _ h _
      exact h.elim

theorem numO_any (n size : Int) (hs : -9223372036854775808 ≤ size) (hs' : size ≤ 9223372036854775807) (w : World) :
    Calls Try.prog 22 #[.int .i64 n, .int .i64 size] w (ByO (octs (two n) (clamp size)) w) := callsIn_wide.1 (numO_in 3 (by omega) n size hs hs' w)
end Go.Proofs.Ytalmoaggancdjaa

namespace Go.Proofs.Ytalmoaggancdjaa
open Go.RowKit

/-- n words as cells. -/
def us (f : Nat → Int) (n : Nat) : List Value := upto (fun k => Value.int .u32 (f k)) n
def updI (f : Nat → Int) (i : Nat) (v : Int) : Nat → Int := fun j => if j = i then v else f j
theorem us_length (f : Nat → Int) (n : Nat) : (us f n).length = n := upto_length _ _
theorem us_at (f : Nat → Int) {n k : Nat} (h : k < n) : (us f n)[k]? = some (.int .u32 (f k)) := by
  unfold us upto; rw [List.getElem?_map, List.getElem?_range h]; rfl
theorem us_set (f : Nat → Int) {n k : Nat} (v : Int) : (us f n).set k (.int .u32 v) = us (updI f k v) n := by
  apply List.ext_getElem?
  intro j
  rw [List.getElem?_set]
  by_cases hj : k = j
  · subst hj
    by_cases hk : k < n
    · rw [if_pos rfl, if_pos (by rw [us_length]; exact hk), us_at _ hk]; simp [updI]
    · rw [if_pos rfl, if_neg (by rw [us_length]; omega), eq_comm, List.getElem?_eq_none]; rw [us_length]; omega
  · rw [if_neg hj]
    by_cases hk : j < n
    · rw [us_at _ hk, us_at _ hk]; simp [updI, Ne.symm hj]
    · rw [List.getElem?_eq_none (by rw [us_length]; omega), List.getElem?_eq_none (by rw [us_length]; omega)]
theorem us_congr {f g : Nat → Int} {n : Nat} (h : ∀ k, k < n → f k = g k) : us f n = us g n := by
  apply List.ext_getElem?
  intro j
  by_cases hk : j < n
  · rw [us_at _ hk, us_at _ hk, h j hk]
  · rw [List.getElem?_eq_none (by rw [us_length]; omega), List.getElem?_eq_none (by rw [us_length]; omega)]
/-- n words as a value. -/
abbrev uv (f : Nat → Int) (n : Nat) : Value := .agg (us f n).toArray

theorem us_zeros (n : Nat) : us (fun _ => 0) n = List.replicate n (.int .u32 0) := by
  apply List.ext_getElem?
  intro j
  by_cases hk : j < n
  · rw [us_at _ hk]; simp [hk]
  · rw [List.getElem?_eq_none (by rw [us_length]; omega), List.getElem?_eq_none (by simp; omega)]
theorem us_one (f : Nat → Int) (n : Nat) : ∀ v ∈ us f n, v.oneCell' = true := by
  intro v hv
  unfold us upto at hv
  obtain ⟨k, _, rfl⟩ := List.mem_map.1 hv
  rfl
theorem us_splice (f g : Nat → Int) {m n : Nat} (h : m ≤ n) : splice (us g n) 0 (us f m) = us (fun t => if t < m then f t else g t) n := by
  apply List.ext_getElem?
  intro j
  unfold splice
  simp only [List.take_zero, List.nil_append, us_length, Nat.zero_add]
  by_cases hm : j < m
  · rw [List.getElem?_append_left (by rw [us_length]; exact hm), us_at _ hm, us_at _ (by omega), if_pos hm]
  · rw [List.getElem?_append_right (by rw [us_length]; omega), us_length, List.getElem?_drop, show m + (j - m) = j by omega]
    by_cases hn : j < n
    · rw [us_at _ hn, us_at _ hn, if_neg hm]
    · rw [List.getElem?_eq_none (by rw [us_length]; omega), List.getElem?_eq_none (by rw [us_length]; omega)]
theorem us0_64 : us (fun _ => 0) 64 = [.int .u32 0, .int .u32 0, .int .u32 0, .int .u32 0, .int .u32 0, .int .u32 0, .int .u32 0, .int .u32 0, .int .u32 0, .int .u32 0, .int .u32 0, .int .u32 0, .int .u32 0, .int .u32 0, .int .u32 0, .int .u32 0, .int .u32 0, .int .u32 0, .int .u32 0, .int .u32 0, .int .u32 0, .int .u32 0, .int .u32 0, .int .u32 0, .int .u32 0, .int .u32 0, .int .u32 0, .int .u32 0, .int .u32 0, .int .u32 0, .int .u32 0, .int .u32 0, .int .u32 0, .int .u32 0, .int .u32 0, .int .u32 0, .int .u32 0, .int .u32 0, .int .u32 0, .int .u32 0, .int .u32 0, .int .u32 0, .int .u32 0, .int .u32 0, .int .u32 0, .int .u32 0, .int .u32 0, .int .u32 0, .int .u32 0, .int .u32 0, .int .u32 0, .int .u32 0, .int .u32 0, .int .u32 0, .int .u32 0, .int .u32 0, .int .u32 0, .int .u32 0, .int .u32 0, .int .u32 0, .int .u32 0, .int .u32 0, .int .u32 0, .int .u32 0] := rfl

/-- An array type of n words. -/
structure ArrT (ty n : Nat) : Prop where
  hu : ∃ e, Try.prog.underlying ty = some (.array n e)
  hi : (Try.prog.info? ty).map (·.size) = some n
theorem arr8 : ArrT 96 8 := ⟨⟨_, Try.underlying96⟩, by kernel_rfl⟩
theorem arr16 : ArrT 105 16 := ⟨⟨_, Try.underlying105⟩, by kernel_rfl⟩
theorem arr64 : ArrT 97 64 := ⟨⟨_, Try.underlying97⟩, by kernel_rfl⟩

theorem arr_load {ty n : Nat} (hT : ArrT ty n) {ops : Array Oper} {rest : List Oper} {o : Oper} {a : Act} {w : World} {Q : Exit → Act → World → Prop} (hgd : o.guard = none) (x : Operand) (ho : o.op = .load ty x)
    (g : Nat) (hx : a.eval x = .pointer (some ⟨g, 0, none⟩)) (t : TypeId) (f : Nat → Int) (hg : Blk w g t (us f n))
    (h : wpList Try.prog ops Q rest (a.put o.dst (uv f n)) w) : wpList Try.prog ops Q (o :: rest) a w := by
  obtain ⟨⟨e, hu⟩, hi⟩ := hT
  exact wpList_load_row hgd ty x ho g hx t _ (0, 0) _ hg hu rfl (by rw [hi]; simp [us_length]) h
theorem us_all (f : Nat → Int) (n : Nat) : (us f n).toArray.all (·.oneCell') = true := by
  rw [Array.all_eq_true_iff_forall_mem]
  intro v hv
  exact us_one f n v (by simpa using hv)
theorem setRow_blk {w : World} {g : Nat} {t : TypeId} {old : List Value} (hg : Blk w g t old) (vs : List Value) : Blk (w.setRow g vs.toArray) g t vs := setRow_heap w g _ _ t _ hg
theorem setRow_grown {w : World} {g : Nat} (vs : Array Value) : w.grownBy (w.setRow g vs) (some g) :=
  ⟨rfl, rfl, rfl, by simp [World.setRow], fun k _ hne => setRow_other w g k vs (fun e => hne (by rw [e]))⟩
theorem arr_store {ty n : Nat} (hT : ArrT ty n) {ops : Array Oper} {rest : List Oper} {o : Oper} {a : Act} {w : World} {Q : Exit → Act → World → Prop} (hgd : o.guard = none) (x y : Operand) (ho : o.op = .store ty x y)
    (g : Nat) (hx : a.eval x = .pointer (some ⟨g, 0, none⟩)) (f : Nat → Int) (hy : a.eval y = uv f n) (t : TypeId) (old : Nat → Int) (hg : Blk w g t (us old n))
    (h : ∀ w', Blk w' g t (us f n) → w.grownBy w' (some g) → wpList Try.prog ops Q rest (a.put o.dst undef) w') : wpList Try.prog ops Q (o :: rest) a w := by
  obtain ⟨⟨e, hu⟩, hi⟩ := hT
  exact wpList_store_row hgd ty x y ho g _ hx hy t _ hg (by rw [hi]; simp [us_length]) (by simp [us_length]) (us_all f n) (h _ (setRow_blk hg _) (setRow_grown _))
theorem arr_result {ty n : Nat} (hT : ArrT ty n) {fn : Func} {p : Tmp} (h : fn.results = #[.cell p ty]) (tmps : Array Value) (w : World) (g : Nat) (t : TypeId) (f : Nat → Int)
    (hp : tmps.getD p undef = .pointer (some ⟨g, 0, none⟩)) (hg : Blk w g t (us f n)) : (results fn tmps).run Try.prog w = .ok (uv f n) w := by
  obtain ⟨⟨e, hu⟩, hi⟩ := hT
  exact results_cell_row h tmps w g t _ (0, 0) _ hp hg hu rfl (by rw [hi]; simp [us_length])
theorem below_drewN {B : Nat} (W : World) (n : Nat) : Below B W (W.drewN n) := ⟨rfl, rfl, rfl, Nat.le_refl _, fun _ _ => rfl⟩
end Go.Proofs.Ytalmoaggancdjaa
