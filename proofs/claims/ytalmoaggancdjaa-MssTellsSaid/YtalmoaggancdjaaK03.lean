/-
  Arrays of words, read and stored whole inside a fence.
  slices.Chunk over octets: pieces of a size, the last one maybe shorter.
  slices.Values over octets: each.
  What octets come to, the highest first; the words of 32 octets.
  blob.Int: the number of the first seven octets at most.
  Words of 32 bits: rotations to the right.
  hash.squareRoots, hash.cubeRoots, the reference's table: the first words, and those of the rounds.
  What a round makes of eight words.
-/
import Derived.WalkSpells
import Derived.StillTail
import Derived.StillTactics
import Derived.Laws.BitsLemmas
import Derived.WalkKit
import Derived.Lib.Hide
import Derived.Test.YtalmoaggancdjaaProg
import Derived.IntWalk
import Derived.Outline
import Derived.Deep.QuietTactic
import Derived.BigQuiet
import Derived.Great.BuildSlice
import Derived.Test.YtalmoaggancdjaaK02
namespace Go.Proofs.Ytalmoaggancdjaa
open Go.RowKit Go.Shelf

theorem run_load_us {ty n : Nat} (hT : ArrT ty n) (w : World) (g : Nat) (t : TypeId) (f : Nat → Int) (hg : Blk w g t (us f n)) : (loadVar ty ⟨g, 0, none⟩).run Try.prog w = .ok (uv f n) w := by
  obtain ⟨⟨e, hu⟩, hi⟩ := hT
  exact run_loadVar_row w g t ty _ (0, 0) _ hg hu rfl (by rw [hi]; simp [us_length])
theorem still_load {ty n : Nat} (hT : ArrT ty n) {ops : Array Oper} {rest : List Oper} {o : Oper} {a : Act} {w : World} {Q : Act → Prop} (hgd : o.guard = none) (x : Operand) (ho : o.op = .load ty x)
    (g : Nat) (hx : a.eval x = .pointer (some ⟨g, 0, none⟩)) (t : TypeId) (f : Nat → Int) (hg : Blk w g t (us f n)) (h : wpStill Try.prog ops w Q rest (a.put o.dst (uv f n))) : wpStill Try.prog ops w Q (o :: rest) a := by
  refine wpStill_step fun K hK => ?_
  rw [if_pos (by simp [Region.wanted, hgd])]
  unfold Oper.still execOp
  simp only [ho, hx, Instr.loadAt, Instr.sureAddr, Sem.run_bind, Sem.run_pure, Result.andThen_ok, run_load_us hT w g t f hg, Oper.stillUpon_value]
  exact hK _ h

theorem step_load_us {ty n : Nat} (hT : ArrT ty n) {ops : Array Oper} {o : Oper} {a : Act} {w : World} {K : Act → World → Prop} {Q : Exit → Act → World → Prop} {E : Prop} (hgd : o.guard = none) (x : Operand) (ho : o.op = .load ty x)
    (g : Nat) (hx : a.eval x = .pointer (some ⟨g, 0, none⟩)) (t : TypeId) (f : Nat → Int) (hg : Blk w g t (us f n)) (h : K (a.put o.dst (uv f n)) w) :
    if Region.wanted o (yielded ops a.tmps) = true then Oper.wp Try.prog o a w K Q else E := by
  rw [if_pos (by simp [Region.wanted, hgd])]
  obtain ⟨⟨e, hu⟩, hi⟩ := hT
  exact wp_load_row ty x ho g hx t _ (0, 0) _ hg hu rfl (by rw [hi]; simp [us_length]) h
theorem step_store_us {ty n : Nat} (hT : ArrT ty n) {ops : Array Oper} {o : Oper} {a : Act} {w : World} {K : Act → World → Prop} {Q : Exit → Act → World → Prop} {E : Prop} (hgd : o.guard = none) (x y : Operand) (ho : o.op = .store ty x y)
    (g : Nat) (hx : a.eval x = .pointer (some ⟨g, 0, none⟩)) (f : Nat → Int) (hy : a.eval y = uv f n) (t : TypeId) (old : Nat → Int) (hg : Blk w g t (us old n))
    (h : ∀ w', Blk w' g t (us f n) → w.grownBy w' (some g) → K (a.put o.dst undef) w') :
    if Region.wanted o (yielded ops a.tmps) = true then Oper.wp Try.prog o a w K Q else E := by
  rw [if_pos (by simp [Region.wanted, hgd])]
  obtain ⟨⟨e, hu⟩, hi⟩ := hT
  exact wp_store_row ty x y ho g _ hx hy t _ hg (by rw [hi]; simp [us_length]) (by simp [us_length]) (us_all f n) (h _ (setRow_blk hg _) (setRow_grown _))

theorem arrIn_load {F : Fence} {m : Nat} {ty n : Nat} (hT : ArrT ty n) {ops : Array Oper} {rest : List Oper} {o : Oper} {a : Act} {w : World} {Q : Exit → Act → World → Prop} (hgd : o.guard = none) (x : Operand) (ho : o.op = .load ty x)
    (g : Nat) (hx : a.eval x = .pointer (some ⟨g, 0, none⟩)) (t : TypeId) (f : Nat → Int) (hg : Blk w g t (us f n))
    (h : wpListIn F m Try.prog ops Q rest (a.put o.dst (uv f n)) w) : wpListIn F m Try.prog ops Q (o :: rest) a w := by
  refine wpListIn_plain hgd fun K hK' => ?_
  unfold Oper.wpIn
  refine ⟨?_, ?_⟩
  · simp [Oper.about, ho]
  · rw [Oper.semAt_plain F _ _ (by rw [ho]; intro c hc'; cases hc')]
    unfold execOp
    simp only [ho, hx, Instr.loadAt, Instr.sureAddr, Sem.run_bind, Sem.run_pure, Result.andThen_ok, run_load_us hT w g t f hg]
    exact hK' _ _ h

theorem arrIn_store {F : Fence} {m : Nat} {ty n : Nat} (hT : ArrT ty n) {ops : Array Oper} {rest : List Oper} {o : Oper} {a : Act} {w : World} {Q : Exit → Act → World → Prop} (hgd : o.guard = none) (x y : Operand) (ho : o.op = .store ty x y)
    (g : Nat) (hx : a.eval x = .pointer (some ⟨g, 0, none⟩)) (f : Nat → Int) (hy : a.eval y = uv f n) (t : TypeId) (old : Nat → Int) (hg : Blk w g t (us old n))
    (h : ∀ w', Blk w' g t (us f n) → w.grownBy w' (some g) → wpListIn F m Try.prog ops Q rest (a.put o.dst undef) w') : wpListIn F m Try.prog ops Q (o :: rest) a w := by
  obtain ⟨⟨e, hu⟩, hi⟩ := hT
  refine wpListIn_plain hgd fun K hK' => ?_
  unfold Oper.wpIn
  refine ⟨?_, ?_⟩
  · simp [Oper.about, ho]
  · rw [Oper.semAt_plain F _ _ (by rw [ho]; intro c hc'; cases hc')]
    unfold execOp
    simp only [ho, hx, hy, Instr.storeAt, Instr.sureAddr, Sem.run_bind, Sem.run_pure, Result.andThen_ok, run_storeVar_row (P := Try.prog) w g t ty (us old n).toArray (us f n).toArray hg (by rw [hi]; simp [us_length]) (by simp [us_length]) (us_all f n)]
    exact hK' _ _ (h _ (setRow_blk hg _) (setRow_grown _))
end Go.Proofs.Ytalmoaggancdjaa

namespace Go.Proofs.Ytalmoaggancdjaa
open Go.RowKit Go.Shelf
attribute [local go_sem] Oper.semAt_some

/-- A piece: where it begins, how long it is. -/
abbrev CP (L : Nat) := { p : Nat × Nat // p.1 + p.2 ≤ L }
abbrev cpEnc {L : Nat} (b off : Nat) (p : CP L) : Array Value := #[.slice (some ⟨b, off + p.1.1, none⟩) p.1.2 p.1.2]
def chn (L s k : Nat) : CP L := ⟨(min (k * s) L, min s (L - min (k * s) L)), by dsimp only; omega⟩
/-- How many pieces. -/
def chc (L s : Nat) : Nat := (L + s - 1) / s
def chs (L s : Nat) : List (CP L) := (List.range (chc L s)).map (chn L s)
theorem chs_length (L s : Nat) : (chs L s).length = chc L s := by simp [chs]
theorem chs_at {L s k : Nat} (h : k < chc L s) : (chs L s)[k]? = some (chn L s k) := by unfold chs; rw [List.getElem?_map, List.getElem?_range h]; rfl
theorem chc_lt {L s k : Nat} (hs : 1 ≤ s) : k < chc L s ↔ k * s < L := by
  unfold chc
  rw [Nat.lt_iff_add_one_le, Nat.le_div_iff_mul_le (by omega), Nat.add_mul]
  omega
theorem chn_of {L s k : Nat} (h : k * s < L) : chn L s k = ⟨(k * s, min s (L - k * s)), by dsimp only; omega⟩ := by
  unfold chn
  apply Subtype.ext
  dsimp only
  rw [Nat.min_eq_left (Nat.le_of_lt h)]
theorem chc_nil (s : Nat) (hs : 1 ≤ s) : chc 0 s = 0 := by unfold chc; exact Nat.div_eq_of_lt (by omega)

set_option maxRecDepth 100000 in
set_option maxHeartbeats 4000000 in
theorem chunk1_in (F : Fence) (m : Nat) (h : F.fn 101) (hro : F.round = none) (hm : 1 ≤ m) (l Bs Bn b off cap L s : Nat) (hL : L ≤ 140737488354000) (hcap : L ≤ cap) (hcap' : cap ≤ 9223372036854775807) (hs : 1 ≤ s) (hs' : s ≤ 9223372036854775807) (J Jx : Nat → World → Prop) (W : World) (hJ : ∀ k W, J k W → J k W.drew)
    (hY : ∀ k W1, J k W1 → k < chc L s → YieldAt F (m - 1) Try.prog l (cpEnc b off (chn L s k)) W1 fun e W' =>
      (e = .returned (.bool true) ∧ J (k + 1) W' ∧ KeepB2 Bs Bn W1 W') ∨ (e = .returned (.bool false) ∧ Jx (k + 1) W'))
    (k1 : Boxed W Bs 24 (.slice (some ⟨b, off, none⟩) L cap)) (k2 : Boxed W Bn 3 (.int .i64 (s : Nat))) (h0 : J 0 W) :
    CallsIn F m Try.prog 101 #[.func (.yield l) #[] #[], .pointer (some ⟨Bs, 0, none⟩), .pointer (some ⟨Bn, 0, none⟩)] W fun e W' => (∃ v, e = .returned v) ∧
      (J (chc L s) W' ∨ (∃ k, k ≤ chc L s ∧ Jx k W')) := by
  refine callsIn_of_wp Try.func101 rfl h ?_ hro
  simp only [Try.ntmps101, List.size_toArray, List.length_cons, List.length_nil, Nat.reduceAdd, Nat.reduceSub, Array.replicate_succ, Array.replicate_zero, List.push_toArray, List.append_toArray, List.nil_append, List.cons_append]
  have hcL : (L : Int) ≤ (cap : Int) := by omega
  have hcI : (cap : Int) ≤ 9223372036854775807 := by omega
  gi_wp2
  gi_loopw [4] (fun i wr => ∃ k : Nat, k ≤ chc L s ∧ i = .int .i64 ((k * s : Nat) : Int) ∧ J k wr ∧ Boxed wr Bs 24 (.slice (some ⟨b, off, none⟩) L cap) ∧ Boxed wr Bn 3 (.int .i64 (s : Nat))) (fun i _ => L - (intOf i).toNat)
  case atStart => exact ⟨0, Nat.zero_le _, by rw [Nat.zero_mul]; rfl, h0, k1, k2⟩
  case round =>
    obtain ⟨k, hk, rfl, hJs, k1, k2⟩ := hrel
    have c1 := k1.cell
    have c2 := k2.cell
    by_cases hlt : k < chc L s
    · have hkL : k * s < L := (chc_lt hs).1 hlt
      obtain ⟨fn, tmps, assign, body, hy, hR⟩ := hY k wr.drew (hJ _ wr hJs) hlt
      rw [chn_of hkL] at hy
      change (Instr.yield l #[.slice (some ⟨b, off + k * s, none⟩) (min s (L - k * s)) (min s (L - k * s))]).run _ _ = _ at hy
      have hks : k * s + s ≤ 9223372036854775807 := by
        rcases Nat.eq_zero_or_pos k with h0 | h0
        · subst h0; omega
        · have := Nat.le_mul_of_pos_left s h0; omega
      have hnx : (k + 1) * s = k * s + s := Nat.succ_mul k s
      have HN := Lib.hid hnx
      clear hnx
      have HK : Hid (k + 1 ≤ chc L s) := Lib.hid hlt
      clear hlt
      generalize k * s = i at *
      have hi : (i : Int) < (L : Int) := by omega
      have his : (i : Int) + (s : Int) ≤ 9223372036854775807 := by omega
      have hne : ¬ cap = i := by omega
      have hiL : i ≤ L := by omega
      have hE : (if L - i < s then ((L - i : Nat) : Int) else (s : Int)) = ((min s (L - i) : Nat) : Int) := by split <;> omega
      have he0 : 0 < min s (L - i) := by omega
      have heL : i + min s (L - i) ≤ L := by omega
      have HE := Lib.hid hE
      clear hE
      generalize min s (L - i) = e at *
      have hie : (i : Int) + (e : Int) ≤ (L : Int) := by omega
      gi_wp2_with fail
      gi_region
      all_goals
        rw [HE.out]
        clear HE
        gi_wp2
        refine hR.mono ?_
        clear hy
        rintro e' W3 (⟨rfl, hJ3, hk3⟩ | ⟨rfl, hJx3⟩)
        · have q1 : Boxed W3 Bs 24 (.slice (some ⟨b, off, none⟩) L cap) := hk3.1.trans k1
          have q2 : Boxed W3 Bn 3 (.int .i64 (s : Nat)) := hk3.2.trans k2
          have d1 := q1.cell
          have d2 := q2.cell
          clear c1 c2
          gi_wp2
          have hq : (i : Int) + (s : Int) = (((k + 1) * s : Nat) : Int) := by rw [HN.out]; omega
          go_roundw
          case rel => exact ⟨k + 1, HK.out, by rw [hq], hJ3, q1, q2⟩
          case measure => simp [intOf]; omega
        · gi_wp2
          refine bodyPost_ret (results_none rfl _ _ _) rfl ?_
          exact ⟨⟨_, rfl⟩, .inr ⟨_, HK.out, hJx3⟩⟩
    · have hkL : ¬ k * s < L := fun e => hlt ((chc_lt hs).2 e)
      obtain rfl : k = chc L s := by omega
      clear hlt
      generalize chc L s * s = i at *
      have hkL' : ¬ (i : Int) < (L : Int) := by omega
      gi_wp2
      go_end0
      exact ⟨⟨_, rfl⟩, .inl hJs⟩

set_option maxRecDepth 100000 in
set_option maxHeartbeats 1000000 in
/-- .. of none: no round. -/
theorem chunk1_nil_in (F : Fence) (m : Nat) (h : F.fn 101) (hro : F.round = none) (l Bs Bn : Nat) (a : Option Addr) (cap : Nat) (J : World → Prop) (W : World) (hBs : W.cell? ⟨Bs, 0, none⟩ = some (.slice a 0 cap)) (h0 : J W) :
    CallsIn F m Try.prog 101 #[.func (.yield l) #[] #[], .pointer (some ⟨Bs, 0, none⟩), .pointer (some ⟨Bn, 0, none⟩)] W fun e W' => (∃ v, e = .returned v) ∧ J W' := by
  refine callsIn_of_wp Try.func101 rfl h ?_ hro
  simp only [Try.ntmps101, List.size_toArray, List.length_cons, List.length_nil, Nat.reduceAdd, Nat.reduceSub, Array.replicate_succ, Array.replicate_zero, List.push_toArray, List.append_toArray, List.nil_append, List.cons_append]
  gi_wp2
  gi_loopw [4] (fun i wr => i = .int .i64 0 ∧ J wr ∧ wr.cell? ⟨Bs, 0, none⟩ = some (.slice a 0 cap)) (fun _ _ => 0)
  case atStart => exact ⟨rfl, h0, hBs⟩
  case round =>
    obtain ⟨rfl, hJs, hc⟩ := hrel
    gi_wp2
    go_end0
    exact ⟨⟨_, rfl⟩, hJs⟩

set_option maxHeartbeats 1000000 in
theorem chunk_in (F : Fence) (m : Nat) (h5 : F.fn 93) (hro : F.round = none) (a : Option Addr) (len cap : Nat) (z : Int) (hs : 1 ≤ z) (w : World) :
    CallsIn F m Try.prog 93 #[.slice a len cap, .int .i64 z] w fun e w' => e = .returned (.func (.func 101) #[] #[.pointer (some ⟨w.heap.size, 0, none⟩), .pointer (some ⟨w.heap.size + 1, 0, none⟩)]) ∧ w' = (w.alloc (.cells #[.slice a len cap] 24)).alloc (.cells #[.int .i64 z] 3) := by
  have hs0 : ¬ z < 1 := by omega
  refine callsIn_of_wp Try.func93 rfl h5 ?_ hro
  simp only [Try.ntmps93, List.size_toArray, List.length_cons, List.length_nil, Nat.reduceAdd, Nat.reduceSub, Array.replicate_succ, Array.replicate_zero, List.push_toArray, List.append_toArray, List.nil_append, List.cons_append]
  gi_wp2
  go_ret
  exact ⟨rfl, rfl⟩

theorem chunk_stops (F : Fence) (m : Nat) (h : F.fn 101) (hro : F.round = none) (hm : 1 ≤ m) (Bs Bn b off cap L s : Nat) (a : Option Addr) (ha : L = 0 ∨ a = some ⟨b, off, none⟩) (hL : L ≤ 140737488354000) (hcap : L ≤ cap) (hcap' : cap ≤ 9223372036854775807) (hs : 1 ≤ s) (hs' : s ≤ 9223372036854775807)
    (w : World) (k1 : Boxed w Bs 24 (.slice a L cap)) (k2 : Boxed w Bn 3 (.int .i64 (s : Nat))) :
    SeqStopsK F m Try.prog 101 #[.pointer (some ⟨Bs, 0, none⟩), .pointer (some ⟨Bn, 0, none⟩)] (cpEnc b off) (KeepB2 Bs Bn) (fun ys => ys = chs L s) (fun _ => True) (chc L s) w := fun l J Jx W hW hJ _ hY h0 => by
  have q1 : Boxed W Bs 24 (.slice a L cap) := (hW.block Bs k1.lt).trans k1
  have q2 : Boxed W Bn 3 (.int .i64 (s : Nat)) := (hW.block Bn k2.lt).trans k2
  rcases ha with rfl | rfl
  · exact (chunk1_nil_in F m h hro l Bs Bn a cap (J []) W q1.cell h0).mono fun e W' ⟨he, hj⟩ => ⟨he, .inl ⟨_, by unfold chs; rw [chc_nil s hs]; rfl, hj⟩⟩
  · refine (chunk1_in F m h hro hm l Bs Bn b off cap L s hL hcap hcap' hs hs' (fun k => J ((chs L s).take k)) (fun k => Jx ((chs L s).take k)) W (fun k X hX => hJ _ X X.drew none hX ⟨rfl, rfl, rfl, Nat.le_refl _, fun _ _ _ => rfl⟩ (by simp)) (fun k W1 hj hk => ?_) q1 q2 h0).mono ?_
    · have ht : (chs L s).take (k + 1) = (chs L s).take k ++ [chn L s k] := by rw [List.take_add_one, chs_at hk]; rfl
      rw [ht]
      exact hY _ _ W1 hj (by rw [List.length_take, chs_length]; omega)
    · rintro e W' ⟨he, hj | ⟨k, _, hj⟩⟩
      · exact ⟨he, .inl ⟨_, by rw [List.take_of_length_le (by rw [chs_length]; exact Nat.le_refl _)], hj⟩⟩
      · exact ⟨he, .inr ⟨_, trivial, hj⟩⟩

end Go.Proofs.Ytalmoaggancdjaa

namespace Go.Proofs.Ytalmoaggancdjaa
open Go.RowKit Go.Shelf
attribute [local go_sem] Oper.semAt_some

set_option maxRecDepth 100000 in
set_option maxHeartbeats 4000000 in
theorem valuesB1_in (F : Fence) (n : Nat) (h7 : F.fn 91) (hro : F.round = none) (hn : 1 ≤ n) (l Bs n₀ b off cap : Nat) (zs : List UInt8) (hreach : zs.length ≤ 140737488351232) (hb : b < n₀) (J Jx : List UInt8 → World → Prop)
    (W : World)
    (hY : ∀ pre x W, J pre W → pre.length < zs.length → YieldAt F (n - 1) Try.prog l #[bv x] W fun e W' =>
      (e = .returned (.bool true) ∧ J (pre ++ [x]) W' ∧ Below n₀ W W') ∨ (e = .returned (.bool false) ∧ Jx (pre ++ [x]) W'))
    (hBs : W.cell? ⟨Bs, 0, none⟩ = some (.slice (some ⟨b, off, none⟩) zs.length cap)) (hc : Octs W b off zs) (h0 : J [] W) :
    CallsIn F n Try.prog 91 #[.func (.yield l) #[] #[], .pointer (some ⟨Bs, 0, none⟩)] W fun e W' => (∃ v, e = .returned v) ∧
      ((∃ ys, ys = zs ∧ J ys W') ∨ (∃ pre, True ∧ Jx pre W')) := by
  refine callsIn_of_wp Try.func91 rfl h7 ?_ hro
  simp only [Try.ntmps91, List.size_toArray, List.length_cons, List.length_nil, Nat.reduceAdd, Nat.reduceSub, Array.replicate_succ, Array.replicate_zero, List.push_toArray, List.append_toArray, List.nil_append, List.cons_append]
  gi_wp2
  gi_loopw [7] (fun i wr => ∃ k : Nat, k ≤ zs.length ∧ i = .int .i64 k ∧ J (zs.take k) wr ∧ Below n₀ W wr) (fun i _ => zs.length - (intOf i).toNat)
  case atStart => exact ⟨0, Nat.zero_le _, rfl, h0, Below.refl _ _⟩
  case round =>
    obtain ⟨k, hk, rfl, hJs, hnx⟩ := hrel
    by_cases hlt : k < zs.length
    · obtain ⟨x, hx⟩ : ∃ x, zs[k]? = some x := ⟨_, List.getElem?_eq_getElem hlt⟩
      have c0 := (hc.below hnx hb) k x hx
      have hk0 : (k : Int) < (zs.length : Int) := by omega
      obtain ⟨fn, tmps, assign, body, hy, hR⟩ := hY (zs.take k) x wr hJs (by simp; omega)
      have ht : zs.take (k + 1) = zs.take k ++ [x] := by rw [List.take_add_one, hx]; rfl
      rw [← ht] at hR
      clear ht
      have HX := Lib.hid hx
      clear hx
      generalize hL : zs.length = len at *
      have HL := Lib.hid hL
      clear hL
      gi_wp2
      refine hR.mono ?_
      rintro e W3 (⟨rfl, hJ3, hk3⟩ | ⟨rfl, hJx3⟩)
      · gi_wp2
        go_roundw
        case rel => exact ⟨k + 1, by omega, by simp, hJ3, hnx.trans hk3⟩
        case measure => simp [intOf]; omega
      · gi_wp2
        refine bodyPost_ret (results_none rfl _ _ _) rfl ?_
        exact ⟨⟨_, rfl⟩, .inr ⟨_, trivial, hJx3⟩⟩
    · obtain rfl : k = zs.length := by omega
      gi_wp2
      go_end0
      rw [List.take_length] at hJs
      exact ⟨⟨_, rfl⟩, .inl ⟨_, rfl, hJs⟩⟩

set_option maxRecDepth 100000 in
set_option maxHeartbeats 1000000 in
/-- .. at a slice of none: no round. -/
theorem valuesB1_nil_in (F : Fence) (n : Nat) (h7 : F.fn 91) (hro : F.round = none) (l Bs : Nat) (a : Option Addr) (cap : Nat) (J : List UInt8 → World → Prop) (W : World) (hBs : W.cell? ⟨Bs, 0, none⟩ = some (.slice a 0 cap)) (h0 : J [] W) :
    CallsIn F n Try.prog 91 #[.func (.yield l) #[] #[], .pointer (some ⟨Bs, 0, none⟩)] W fun e W' => (∃ v, e = .returned v) ∧ J [] W' := by
  refine callsIn_of_wp Try.func91 rfl h7 ?_ hro
  simp only [Try.ntmps91, List.size_toArray, List.length_cons, List.length_nil, Nat.reduceAdd, Nat.reduceSub, Array.replicate_succ, Array.replicate_zero, List.push_toArray, List.append_toArray, List.nil_append, List.cons_append]
  gi_wp2
  gi_loopw [7] (fun i wr => i = .int .i64 0 ∧ J [] wr) (fun _ _ => 0)
  case atStart => exact ⟨rfl, h0⟩
  case round =>
    obtain ⟨rfl, hJs⟩ := hrel
    gi_wp2
    go_end0
    exact ⟨⟨_, rfl⟩, hJs⟩

set_option maxHeartbeats 1000000 in
theorem valuesB_in (F : Fence) (n : Nat) (h5 : F.fn 71) (hro : F.round = none) (a : Option Addr) (len cap : Nat) (w : World) :
    CallsIn F n Try.prog 71 #[.slice a len cap] w fun e w' => e = .returned (.func (.func 91) #[] #[.pointer (some ⟨w.heap.size, 0, none⟩)]) ∧ w' = w.alloc (.cells #[.slice a len cap] 24) := by
  refine callsIn_of_wp Try.func71 rfl h5 ?_ hro
  simp only [Try.ntmps71, List.size_toArray, List.length_cons, List.length_nil, Nat.reduceAdd, Nat.reduceSub, Array.replicate_succ, Array.replicate_zero, List.push_toArray, List.append_toArray, List.nil_append, List.cons_append]
  gi_wp2
  go_ret
  exact ⟨rfl, rfl⟩

theorem valuesB_stops (F : Fence) (n : Nat) (h7 : F.fn 91) (hro : F.round = none) (hn : 1 ≤ n) (Bs n₀ : Nat) (sv : Value) (zs : List UInt8) (hreach : zs.length ≤ 140737488351232) (w : World) (hn₀ : n₀ ≤ w.heap.size)
    (hk : Boxed w Bs 24 sv) (hI : BSl 0 n₀ w sv zs) :
    SeqStopsK F n Try.prog 91 #[.pointer (some ⟨Bs, 0, none⟩)] (fun x => #[bv x]) (Below n₀) (fun ys => ys = zs) (fun _ => True) zs.length w := fun l J Jx W hW hJ _ hY h0 => by
  have hc' := (hW.cell (p := ⟨Bs, 0, none⟩) hk.lt).trans hk.cell
  obtain ⟨a, cap, rfl, hcap, rfl | ⟨b, off, rfl, _, hb, hcs⟩⟩ := hI.below hW hn₀
  · exact (valuesB1_nil_in F n h7 hro l Bs a cap J W hc' h0).mono fun e W' ⟨he, hj⟩ => ⟨he, .inl ⟨_, rfl, hj⟩⟩
  · exact valuesB1_in F n h7 hro hn l Bs n₀ b off cap zs hreach hb J Jx W hY hc' hcs h0

end Go.Proofs.Ytalmoaggancdjaa

namespace Go.Proofs.Ytalmoaggancdjaa
open Go.RowKit

theorem wr_u64 (n : Int) (h₀ : 0 ≤ n) (h₁ : n < 2 ^ 64) : IntKind.u64.wrap n = n := by rw [IntKind.wrap_u64]; omega
theorem wr_i64 (n : Int) (h₀ : 0 ≤ n) (h₁ : n < 2 ^ 63) : IntKind.i64.wrap n = n := by rw [IntKind.wrap_i64]; omega
/-- What octets come to. -/
def be (l : List UInt8) : Nat := l.foldl (fun n x => n * 256 + x.toNat) 0
theorem be_snoc (l : List UInt8) (x : UInt8) : be (l ++ [x]) = be l * 256 + x.toNat := by simp [be]
theorem be_lt (l : List UInt8) : be l < 256 ^ l.length := by
  rw [← List.reverse_reverse l]
  generalize l.reverse = r
  induction r with
  | nil => decide
  | cons x r ih =>
    rw [List.reverse_cons, be_snoc, List.length_append, List.length_singleton, Nat.pow_succ]
    have := x.toNat_lt
    omega
theorem be_lt' {l : List UInt8} {k : Nat} (h : l.length ≤ k) : be l < 256 ^ k := Nat.lt_of_lt_of_le (be_lt l) (Nat.pow_le_pow_right (by omega) h)
theorem octs_snoc (n s : Nat) : octs n (s + 1) = octs (n / 256) s ++ [oct n 0] := by
  induction s with
  | zero => rfl
  | succ s ih =>
    rw [octs, ih]
    show _ = oct (n / 256) s :: octs (n / 256) s ++ [oct n 0]
    have : oct n (s + 1) = oct (n / 256) s := by
      unfold oct
      rw [show (s + 1) * 8 = 8 + s * 8 by omega, Nat.pow_add, ← Nat.div_div_eq_div_mul]
    rw [this]
    rfl
theorem be_octs (n s : Nat) : be (octs n s) = n % 256 ^ s := by
  induction s generalizing n with
  | zero => simp [octs, be, Nat.mod_one]
  | succ s ih =>
    rw [octs_snoc, be_snoc, ih, Nat.pow_succ]
    unfold oct
    rw [UInt8.toNat_ofNat', show n / 2 ^ (0 * 8) = n by simp, Nat.mul_comm (256 ^ s) 256, Nat.mod_mul]
    omega

theorem or_byte {a x : Nat} (ha : a ≤ 72057594037927935) (hx : x < 256) : bits .or .u64 ((a : Int) * 256) (x : Int) = ((a * 256 + x : Nat) : Int) := by
  have e := (Go.bits_nat .u64 64 (by decide) (fun n h0 h1 => wr_u64 n h0 h1) (a * 256) x (by simp; omega) (by simp; omega)).2
  have h : a * 256 ||| x = a * 256 + x := by
    have := Nat.shiftLeft_add_eq_or_of_lt (show x < 2 ^ 8 by simpa using hx) a
    rw [Nat.shiftLeft_eq] at this
    exact this.symm
  rw [h] at e
  rw [← e]
  simp
theorem or_byte64 {a x : Nat} (ha : a ≤ 36028797018963967) (hx : x < 256) : bits .or .i64 ((a : Int) * 256) (x : Int) = ((a * 256 + x : Nat) : Int) := by
  have e := (Go.bits_nat .i64 63 (by decide) (fun n h0 h1 => wr_i64 n h0 h1) (a * 256) x (by simp; omega) (by simp; omega)).2
  have h : a * 256 ||| x = a * 256 + x := by
    have := Nat.shiftLeft_add_eq_or_of_lt (show x < 2 ^ 8 by simpa using hx) a
    rw [Nat.shiftLeft_eq] at this
    exact this.symm
  rw [h] at e
  rw [← e]
  simp

/-- Of the first k octets: what those of word q come to. -/
def uwd (l : List UInt8) (k q : Nat) : Nat := be (((l.take k).drop (8 * (3 - q))).take 8)
theorem uwd_zero (l : List UInt8) : ws (uwd l 0) = ws fun _ => 0 := by simp [ws, uwd, be]
theorem uwd_step {l : List UInt8} {k : Nat} {x : UInt8} (hx : l[k]? = some x) (hk : k < 32) : ws (uwd l (k + 1)) = ws (upd (uwd l k) (3 - k / 8) (uwd l k (3 - k / 8) * 256 + x.toNat)) := by
  have hkl : k < l.length := (List.getElem?_eq_some_iff.1 hx).1
  have key : ∀ q, q < 4 → uwd l (k + 1) q = upd (uwd l k) (3 - k / 8) (uwd l k (3 - k / 8) * 256 + x.toNat) q := fun q hq => by
    have e1 : l.take (k + 1) = l.take k ++ [x] := by rw [List.take_add_one, hx]; rfl
    have hl : (l.take k).length = k := by simp; omega
    unfold upd
    by_cases h : q = 3 - k / 8
    · subst h
      rw [if_pos rfl]
      unfold uwd
      rw [e1, ← be_snoc]
      have e2 : (3 - (3 - k / 8)) = k / 8 := by omega
      rw [e2, List.drop_append_of_le_length (by rw [hl]; omega), List.take_of_length_le (l := (l.take k).drop (8 * (k / 8)) ++ [x]) (by simp; omega), List.take_of_length_le (l := (l.take k).drop (8 * (k / 8))) (by simp; omega)]
    · rw [if_neg h]
      unfold uwd
      rw [e1]
      by_cases h' : k < 8 * (3 - q)
      · rw [List.drop_of_length_le (by simp; omega), List.drop_of_length_le (by rw [hl]; omega)]
      · rw [List.drop_append_of_le_length (by rw [hl]; omega), List.take_append_of_le_length (by rw [List.length_drop, hl]; omega)]
  unfold ws
  rw [key 0 (by omega), key 1 (by omega), key 2 (by omega), key 3 (by omega)]
theorem uwd_lt {l : List UInt8} {k : Nat} (hk : k < 32) : uwd l k (3 - k / 8) ≤ 72057594037927935 := by
  have : (((l.take k).drop (8 * (3 - (3 - k / 8)))).take 8).length ≤ 7 := by
    simp
    omega
  have := be_lt' this
  unfold uwd
  omega
/-- An octet with its place: below 32. -/
abbrev PX := { p : UInt8 × Nat // p.2 < 32 }
abbrev pxEnc (p : PX) : Array Value := #[.int .i64 (p.1.2 : Int), bv p.1.1]
/-- One round: the word takes the octet. -/
def unS (s : Nat → Nat) (p : PX) : Nat → Nat := upd s (3 - p.1.2 / 8) (s (3 - p.1.2 / 8) * 256 % M ||| p.1.1.toNat)
def unF (pre : List PX) : Nat → Nat := pre.foldl unS fun _ => 0
theorem unF_snoc (pre : List PX) (p : PX) : unF (pre ++ [p]) = unS (unF pre) p := by simp [unF]
theorem unS_lt {s : Nat → Nat} (h : ∀ q, s q < M) (p : PX) (q : Nat) : unS s p q < M := by
  unfold unS upd
  split
  · have h1 : s (3 - p.1.2 / 8) * 256 % M < 2 ^ 64 := by unfold M; omega
    have h2 : p.1.1.toNat < 2 ^ 64 := by have := p.1.1.toNat_lt; omega
    have := Nat.or_lt_two_pow h1 h2
    rw [show (2 : Nat) ^ 64 = M from by unfold M; decide] at this
    exact this
  · exact h q
theorem unF_lt (pre : List PX) (q : Nat) : unF pre q < M := by
  rw [← List.reverse_reverse pre]
  generalize pre.reverse = r
  induction r generalizing q with
  | nil => exact M_pos
  | cons x r ih => rw [List.reverse_cons, unF_snoc]; exact unS_lt ih x q
theorem or_wrap {a x : Nat} (hx : x < 256) : bits .or .u64 (IntKind.u64.wrap ((a : Int) * 256)) (x : Int) = ((a * 256 % M ||| x : Nat) : Int) := by
  have e := (Go.bits_nat .u64 64 (by decide) (fun n h0 h1 => wr_u64 n h0 h1) (a * 256 % M) x (by unfold M; omega) (by omega)).2
  rw [← e, IntKind.wrap_u64]
  unfold M
  simp
theorem mod_or {a x : Nat} (ha : a ≤ 72057594037927935) (hx : x < 256) : a * 256 % M ||| x = a * 256 + x := by
  rw [Nat.mod_eq_of_lt (by unfold M; omega)]
  have := Nat.shiftLeft_add_eq_or_of_lt (show x < 2 ^ 8 by simpa using hx) a
  rw [Nat.shiftLeft_eq] at this
  exact this.symm
/-- The octets with their places. -/
def pxs (l : List UInt8) (_ : l.length = 32) : List PX := (List.range 32).attach.map fun k => ⟨(l.getD k.1 0, k.1), by have := List.mem_range.1 k.2; exact this⟩
theorem pxs_length (l : List UInt8) (h : l.length = 32) : (pxs l h).length = 32 := by simp [pxs]
theorem pxs_at {l : List UInt8} (h : l.length = 32) {k : Nat} {p : PX} (hp : (pxs l h)[k]? = some p) : p.1.2 = k ∧ l[k]? = some p.1.1 := by
  have hk : k < 32 := by have := (List.getElem?_eq_some_iff.1 hp).1; rwa [pxs_length] at this
  simp only [pxs, List.getElem?_map] at hp
  have e : (List.range 32).attach[k]? = some ⟨k, List.mem_range.2 hk⟩ := by
    rw [List.getElem?_eq_getElem (by simpa using hk)]
    simp
  rw [e] at hp
  simp only [Option.map_some, Option.some.injEq] at hp
  subst hp
  exact ⟨rfl, by simp [List.getD, List.getElem?_eq_getElem (show k < l.length by omega)]⟩
theorem unF_take {l : List UInt8} (h : l.length = 32) (k : Nat) (hk : k ≤ 32) : ws (unF ((pxs l h).take k)) = ws (uwd l k) := by
  induction k with
  | zero => rw [uwd_zero]; rfl
  | succ k ih =>
    have ih' := ih (by omega)
    obtain ⟨p, hp⟩ : ∃ p, (pxs l h)[k]? = some p := ⟨_, List.getElem?_eq_getElem (by rw [pxs_length]; omega)⟩
    obtain ⟨h2, hx⟩ := pxs_at h hp
    rw [List.take_add_one, hp, uwd_step hx (by omega)]
    show ws (unF (_ ++ [p])) = _
    rw [unF_snoc]
    unfold unS
    rw [h2]
    have hq : 3 - k / 8 < 4 := by omega
    rw [← ws_set _ hq, ← ws_set _ hq, ih']
    have e : unF ((pxs l h).take k) (3 - k / 8) = uwd l k (3 - k / 8) := by
      have h1 := ws_at (unF ((pxs l h).take k)) hq
      rw [ih', ws_at _ hq] at h1
      have := Option.some.inj h1
      injection this with _ h3
      omega
    rw [e, mod_or (uwd_lt (by omega)) p.1.1.toNat_lt]
theorem unF_all {l : List UInt8} (h : l.length = 32) : ws (unF (pxs l h)) = ws (uwd l 32) := by
  rw [← unF_take h 32 (by omega), List.take_of_length_le (by rw [pxs_length]; omega)]
end Go.Proofs.Ytalmoaggancdjaa

namespace Go.Proofs.Ytalmoaggancdjaa
open Go.RowKit Go.Shelf
attribute [local go_sem] Oper.semAt_some

/-- Between two rounds. -/
def IntI (N : Nat) (w : World) (pre : List UInt8) (W : World) : Prop := Boxed W N 3 (.int .i64 (be pre : Nat)) ∧ Below N w W
theorem intI_own {N : Nat} {w : World} {B : Nat} (h : N ≤ w.heap.size) (hB : N ≤ B) : OwnFrom B (IntI N w) :=
  OwnFrom.and (Own.from (fun s X Y row hs hg hr => blk_own N 3 (fun s : List UInt8 => [.int .i64 (be s : Nat)]) s X Y row hs hg hr) _) (ownFrom_below h hB)
/-- A slice's first octets. -/
theorem BSl.take {lo hi : Nat} {W : World} {a : Option Addr} {cap : Nat} {l : List UInt8} (h : BSl lo hi W (.slice a l.length cap) l) (k : Nat) (hk : k ≤ l.length) : BSl lo hi W (.slice a k cap) (l.take k) := by
  obtain ⟨a', cap', e, hc, h0⟩ := h
  cases e
  refine ⟨a, cap, by rw [List.length_take, Nat.min_eq_left hk], by simp; omega, ?_⟩
  rcases h0 with rfl | ⟨b, off, ha, h1, h2, ho⟩
  · exact .inl (by simp)
  · exact .inr ⟨b, off, ha, h1, h2, fun j x hj => ho j x (by
      have hjk : j < k := by have := (List.getElem?_eq_some_iff.1 hj).1; simp at this; omega
      rwa [List.getElem?_take_of_lt hjk] at hj)⟩

set_option maxRecDepth 100000 in
set_option maxHeartbeats 4000000 in
theorem blobInt_in (m : Nat) (hm : 2 ≤ m) (l : List UInt8) (sv : Value) (w : World) (hreach : l.length ≤ 140737488351232) (hsv : BSl 0 w.heap.size w sv l) :
    CallsIn Fence.wide m Try.prog 51 #[sv] w fun e W' => e = .returned (.int .i64 (be (l.take 7) : Nat)) ∧ Below w.heap.size w W' := by
  have h1 : 1 ≤ m := by omega
  have hsv0 := hsv
  obtain ⟨a, cap, rfl, hcap, hcs⟩ := hsv
  clear hcs
  refine callsIn_of_wp_marks Try.func51 rfl trivial ?_ rfl
  simp only [Try.ntmps51, List.size_toArray, List.length_cons, List.length_nil, Nat.reduceAdd, Nat.reduceSub, Array.replicate_succ, Array.replicate_zero, List.push_toArray, List.append_toArray, List.nil_append, List.cons_append]
  have hN : (l.take 7).length ≤ 7 := by rw [List.length_take]; omega
  have hcase : (((l.length : Nat) : Int) ≤ 7 ∧ BSl 0 w.heap.size w (.slice a l.length cap) (l.take 7)) ∨ (¬ ((l.length : Nat) : Int) ≤ 7 ∧ BSl 0 w.heap.size w (.slice a 7 cap) (l.take 7)) := by
    by_cases h : l.length ≤ 7
    · exact .inl ⟨by omega, by rw [List.take_of_length_le h]; exact hsv0⟩
    · exact .inr ⟨by omega, hsv0.take 7 (by omega)⟩
  clear hsv0
  generalize l.take 7 = z at *
  rcases hcase with ⟨h7, hT⟩ | ⟨h7, hT⟩
  all_goals
    gi_wp2_with (refine ⟨trivial, ?_⟩; gi_at_call 71; refine (valuesB_in Fence.wide (m - 1) trivial rfl _ _ _ _).mono ?_; rintro e w' ⟨rfl, rfl⟩)
    generalize hW5 : World.alloc _ _ = W5
    have k0 : Boxed W5 w.heap.size 3 (.int .i64 (be [] : Nat)) := by rw [← hW5]; exact (Boxed.new _ _ (.int .i64 (be [] : Nat))).alloc _
    have k2 := show Boxed W5 (w.heap.size + 1) 24 (.slice a _ cap) by rw [← hW5]; exact Blk.new' (vs := [_]) (by simp)
    have hB0 : Below w.heap.size w W5 := by rw [← hW5]; exact chainA (chain0 _ _) _
    have hz : W5.heap.size = w.heap.size + 2 := by rw [← hW5]; simp
    clear hW5
    refine wpIn_rangeFunc_ownF (S := fun ys => ys = z) rfl h1 (gf := 91) (lb := #[.pointer (some ⟨w.heap.size + 1, 0, none⟩)]) rfl trivial (enters_of Try.func91 (by kernel_rfl) rfl)
      (valuesB_stops Fence.wide (m - 1) trivial rfl (by omega) (w.heap.size + 1) w.heap.size _ z (by omega) W5 (by omega) k2 (hT.below hB0 (Nat.le_refl _))) belowK_t (belowK_b (by omega)) (Below.refl _ _) (fun _ => rfl)
      (IntI w.heap.size w) (fun _ _ _ => False) (intI_own (Nat.le_refl _) (by omega)) (fun _ _ _ _ _ hs _ _ => hs)
      ⟨k0, hB0⟩ ?_ ?_ ?_ ?_ ?_
    rotate_left
    · intro l x W K hK
      gi_wp2
      exact hK
    · rintro r pre x W ⟨k0, hB⟩ hlt
      have co := k0.cell
      have cf := k0.frozen
      have hsn := be_snoc pre x
      have HS := Lib.hid hsn
      have hl1 : be pre ≤ 281474976710655 := by have := be_lt' (l := pre) (k := 6) (by omega); omega
      have hor := or_byte64 (a := be pre) (x := x.toNat) (by omega) x.toNat_lt
      have HO := Lib.hid hor
      clear hor hsn
      generalize be pre = y at *
      have hy : (y : Int) ≤ 281474976710655 := by omega
      have hxl := x.toNat_lt
      have hxl' : (x.toNat : Int) ≤ 255 := by omega
      gi_wp2
      rw [HO.out, ← HS.out]
      have hbw := (Below.refl w.heap.size W).setCell (p := ⟨w.heap.size, 0, none⟩) (Nat.le_refl _) (.int .i64 (be (pre ++ [x]) : Nat))
      exact ⟨KeepsOthers.setCell _ _ _, hbw, k0.set _, hB.trans hbw⟩
    · rintro D ys W hD rfl ⟨k0, hB⟩ hK
      have co := k0.cell
      have HZ := Lib.hid hz
      clear hz
      gi_wp2
      have hB' := hB.trans (belowK_b (w := w) (Nat.le_refl _) _ D _ (.deferred none) (by have := HZ.out; omega) hK rfl rfl)
      refine ⟨by simp, .inl ⟨_, _, rfl, run_takeDeferred hK, ?_⟩⟩
      refine ⟨.int .i64 (be ys : Nat), ?_, ?_⟩
      · simp [results, Try.f51, go_sem]
      · exact ⟨rfl, hB'⟩
    · rintro D c pre W _ _ h _
      exact h.elim

theorem blobInt_any (l : List UInt8) (sv : Value) (w : World) (hreach : l.length ≤ 140737488351232) (hsv : BSl 0 w.heap.size w sv l) :
    Calls Try.prog 51 #[sv] w fun e W' => e = .returned (.int .i64 (be (l.take 7) : Nat)) ∧ Below w.heap.size w W' := callsIn_wide.1 (blobInt_in 2 (by omega) l sv w hreach hsv)

end Go.Proofs.Ytalmoaggancdjaa

namespace Go.Proofs.Ytalmoaggancdjaa
open Go.RowKit

/-- x, turned to the right by n bits. -/
def rot (x : Int) (n : Nat) : Int := bits .or .u32 (x / (2 : Int) ^ n) (x * (2 : Int) ^ (32 - n) % 4294967296)
theorem or_comm32 (a b : Int) : bits .or .u32 a b = bits .or .u32 b a := by simp only [bits, BitVec.or_comm]
theorem mask31 (n : Nat) (h : n ∈ [2, 3, 6, 7, 10, 11, 13, 17, 18, 19, 22, 25]) : bits .and .u64 (IntKind.u64.wrap (-(n : Int))) 31 = ((32 - n : Nat) : Int) := by
  simp only [List.mem_cons, List.not_mem_nil, or_false] at h
  rcases h with rfl | rfl | rfl | rfl | rfl | rfl | rfl | rfl | rfl | rfl | rfl | rfl <;> decide

set_option maxHeartbeats 1000000 in
theorem rotateLeft_any (x : Int) (k : Int) (s : Nat) (hs : bits .and .u64 (IntKind.u64.wrap k) 31 = (s : Int)) (h0 : 1 ≤ (s : Int)) (h1 : (s : Int) ≤ 31) (w : World) : Calls Try.prog 103 #[.int .u32 x, .int .i64 k] w fun e w' => e = .returned (.int .u32 (rot x (32 - s))) ∧ w = w' := by
  go_enter Try.func103, Try.ntmps103
  go_wp2
  go_ret
  refine ⟨?_, rfl⟩
  have hr : rot x (32 - s) = bits .or .u32 (x * 2 ^ s % 4294967296) (x / 2 ^ (32 - s)) := by
    unfold rot
    rw [or_comm32, show 32 - (32 - s) = s by omega]
  rw [hr]
  rfl

/-- How far words are turned. -/
def turns (n : Nat) : Prop := n ∈ [2, 3, 6, 7, 10, 11, 13, 17, 18, 19, 22, 25]
set_option maxHeartbeats 1000000 in
theorem rotr_any (x : Int) (n : Nat) (hn : turns n) (w : World) : Calls Try.prog 96 #[.int .u32 x, .int .i64 (n : Int)] w fun e w' => e = .returned (.int .u32 (rot x n)) ∧ w = w' := by
  have hs := mask31 n hn
  have hb : 1 ≤ n ∧ n ≤ 31 := by
    unfold turns at hn
    simp only [List.mem_cons, List.not_mem_nil, or_false] at hn
    omega
  obtain ⟨hb1, hb2⟩ := hb
  have HN := Lib.hid hs
  clear hs hn
  have hm : (n : Int) ≤ 31 := by omega
  go_enter Try.func96, Try.ntmps96
  go_wp2_with (go_at_call 103; refine (rotateLeft_any _ _ _ HN.out (by omega) (by omega) _).mono ?_; rintro e w' ⟨rfl, rfl⟩)
  go_ret
  have hq : 32 - (32 - n) = n := by omega
  exact ⟨congrArg (fun q => Ending.returned (.int .u32 (rot x q))) hq, rfl⟩

theorem rotr_still (x : Int) (k : Int) (n : Nat) (hn : turns n) (hk : k = (n : Int)) (w : World) : Calls Try.prog 96 #[.int .u32 x, .int .i64 k] w fun e w' => e = .returned (.int .u32 (rot x n)) ∧ w' = w := by
  subst hk; exact (rotr_any x n hn w).mono fun _ _ h => ⟨h.1, h.2.symm⟩

set_option maxHeartbeats 1000000 in
theorem turn_any (x : Int) (n : Nat) (hn : turns n) (w : World) : Calls Try.prog 99 #[.int .u32 x, .int .i64 (n : Int)] w fun e w' => e = .returned (.int .u32 (rot x n)) ∧ w = w' := by
  have hb : 1 ≤ (n : Int) ∧ (n : Int) ≤ 31 := by
    unfold turns at hn
    simp only [List.mem_cons, List.not_mem_nil, or_false] at hn
    omega
  obtain ⟨hb1, hb2⟩ := hb
  clear hn
  have hw : (32 : Int) - (n : Int) = ((32 - n : Nat) : Int) := by omega
  go_enter Try.func99, Try.ntmps99
  go_wp2
  go_ret
  exact ⟨rfl, rfl⟩
theorem turn_still (x : Int) (k : Int) (n : Nat) (hn : turns n) (hk : k = (n : Int)) (w : World) : Calls Try.prog 99 #[.int .u32 x, .int .i64 k] w fun e w' => e = .returned (.int .u32 (rot x n)) ∧ w' = w := by
  subst hk; exact (turn_any x n hn w).mono fun _ _ h => ⟨h.1, h.2.symm⟩
theorem t2 : turns 2 := by unfold turns; simp
theorem t6 : turns 6 := by unfold turns; simp
theorem t7 : turns 7 := by unfold turns; simp
theorem t11 : turns 11 := by unfold turns; simp
theorem t13 : turns 13 := by unfold turns; simp
theorem t17 : turns 17 := by unfold turns; simp
theorem t18 : turns 18 := by unfold turns; simp
theorem t19 : turns 19 := by unfold turns; simp
theorem t22 : turns 22 := by unfold turns; simp
theorem t25 : turns 25 := by unfold turns; simp
end Go.Proofs.Ytalmoaggancdjaa

namespace Go.Proofs.Ytalmoaggancdjaa
open Go.RowKit

def sqList : List Int := [1779033703, 3144134277, 1013904242, 2773480762, 1359893119, 2600822924, 528734635, 1541459225]
def cbList : List Int := [0x428a2f98, 0x71374491, 0xb5c0fbcf, 0xe9b5dba5, 0x3956c25b, 0x59f111f1, 0x923f82a4, 0xab1c5ed5,
  0xd807aa98, 0x12835b01, 0x243185be, 0x550c7dc3, 0x72be5d74, 0x80deb1fe, 0x9bdc06a7, 0xc19bf174,
  0xe49b69c1, 0xefbe4786, 0x0fc19dc6, 0x240ca1cc, 0x2de92c6f, 0x4a7484aa, 0x5cb0a9dc, 0x76f988da,
  0x983e5152, 0xa831c66d, 0xb00327c8, 0xbf597fc7, 0xc6e00bf3, 0xd5a79147, 0x06ca6351, 0x14292967,
  0x27b70a85, 0x2e1b2138, 0x4d2c6dfc, 0x53380d13, 0x650a7354, 0x766a0abb, 0x81c2c92e, 0x92722c85,
  0xa2bfe8a1, 0xa81a664b, 0xc24b8b70, 0xc76c51a3, 0xd192e819, 0xd6990624, 0xf40e3585, 0x106aa070,
  0x19a4c116, 0x1e376c08, 0x2748774c, 0x34b0bcb5, 0x391c0cb3, 0x4ed8aa4a, 0x5b9cca4f, 0x682e6ff3,
  0x748f82ee, 0x78a5636f, 0x84c87814, 0x8cc70208, 0x90befffa, 0xa4506ceb, 0xbef9a3f7, 0xc67178f2]
/-- The state at first; the rounds' words. -/
def sq (k : Nat) : Int := sqList.getD k 0
def cb (k : Nat) : Int := cbList.getD k 0

theorem us_list (l : List Int) : l.map (Value.int .u32) = us (fun k => l.getD k 0) l.length := by
  apply List.ext_getElem?
  intro j
  by_cases hj : j < l.length
  · rw [us_at _ hj, List.getElem?_map, List.getElem?_eq_getElem hj]; simp [List.getD, hj]
  · rw [List.getElem?_eq_none (by simp; omega), List.getElem?_eq_none (by rw [us_length]; omega)]
theorem zero8 : ((Try.prog.info? 96).bind (·.zero)).map (·.cells.size) = some 8 := by kernel_rfl
theorem zero64 : ((Try.prog.info? 97).bind (·.zero)).map (·.cells.size) = some 64 := by kernel_rfl
theorem szW : (Try.prog.info? 95).map (·.size) = some 1 := by kernel_rfl
theorem und8 : Try.prog.underlying 96 = some (.array 8 95) := by kernel_rfl
theorem und64 : Try.prog.underlying 97 = some (.array 64 95) := by kernel_rfl

theorem us0_8 : us (fun _ => 0) 8 = [.int .u32 0, .int .u32 0, .int .u32 0, .int .u32 0, .int .u32 0, .int .u32 0, .int .u32 0, .int .u32 0] := rfl
theorem sq_us : sqList.map (Value.int .u32) = us sq 8 := us_list sqList
theorem cb_us : cbList.map (Value.int .u32) = us cb 64 := us_list cbList

set_option maxRecDepth 100000 in
set_option maxHeartbeats 4000000 in
theorem squareRoots_any (w : World) : Calls Try.prog 72 #[] w fun e W' => e = .returned (uv sq 8) ∧ Below w.heap.size w W' := by
  go_enter Try.func72, Try.ntmps72
  apply wp_seq_k; intro K0 hK0
  apply wp_region_lit
  refine wpList_plain rfl fun K hK => ?_
  go_simp
  refine hK _ _ ?_
  clear hK K
  apply wpList_nil
  refine hK0 _ _ ?_
  clear hK0 K0
  apply wp_seq_k; intro K0 hK0
  apply wp_region_lit
  refine wpList_buildFlatArrTo rfl 96 95 8 _ rfl .u32 sqList (some 1) rfl und8 szW zero8 (by kernel_rfl) ?_
  rw [sq_us]
  generalize hW0 : World.alloc _ _ = W0
  have kR : Blk W0 w.heap.size 96 (us (fun _ => 0) 8) := by rw [← hW0, us0_8]; exact Blk.new' rfl
  have d0 : Below w.heap.size w W0 := by rw [← hW0]; exact chain0 _ _
  clear hW0
  refine arr_store arr8 rfl (.tmp 0) (.tmp 1) rfl w.heap.size rfl sq rfl 96 (fun _ => 0) kR ?_
  intro w5 kR5 hg5
  apply wpList_nil
  refine hK0 _ _ ?_
  clear hK0 K0
  go_wp2
  exact bodyPost_ret (v := uv sq 8) (arr_result arr8 rfl _ _ w.heap.size 96 sq rfl kR5) rfl ⟨rfl, d0.grown hg5 d0.size (fun k e => by have : w.heap.size = k := Option.some.inj e; omega)⟩
set_option maxRecDepth 100000 in
set_option maxHeartbeats 4000000 in
theorem cubeRoots_any (w : World) : Calls Try.prog 95 #[] w fun e W' => e = .returned (uv cb 64) ∧ Below w.heap.size w W' := by
  go_enter Try.func95, Try.ntmps95
  apply wp_seq_k; intro K0 hK0
  apply wp_region_lit
  refine wpList_plain rfl fun K hK => ?_
  go_simp
  refine hK _ _ ?_
  clear hK K
  apply wpList_nil
  refine hK0 _ _ ?_
  clear hK0 K0
  apply wp_seq_k; intro K0 hK0
  apply wp_region_lit
  refine wpList_buildFlatArrTo rfl 97 95 64 _ rfl .u32 cbList (some 1) rfl und64 szW zero64 (by kernel_rfl) ?_
  rw [cb_us]
  generalize hW0 : World.alloc _ _ = W0
  have kR : Blk W0 w.heap.size 97 (us (fun _ => 0) 64) := by rw [← hW0, us0_64]; exact Blk.new' rfl
  have d0 : Below w.heap.size w W0 := by rw [← hW0]; exact chain0 _ _
  clear hW0
  refine arr_store arr64 rfl (.tmp 0) (.tmp 1) rfl w.heap.size rfl cb rfl 97 (fun _ => 0) kR ?_
  intro w5 kR5 hg5
  apply wpList_nil
  refine hK0 _ _ ?_
  clear hK0 K0
  go_wp2
  exact bodyPost_ret (v := uv cb 64) (arr_result arr64 rfl _ _ w.heap.size 97 cb rfl kR5) rfl ⟨rfl, d0.grown hg5 d0.size (fun k e => by have : w.heap.size = k := Option.some.inj e; omega)⟩
set_option maxRecDepth 100000 in
set_option maxHeartbeats 4000000 in
theorem table_any (w : World) : Calls Try.prog 69 #[] w fun e W' => e = .returned (uv cb 64) ∧ Below w.heap.size w W' := by
  go_enter Try.func69, Try.ntmps69
  apply wp_seq_k; intro K0 hK0
  apply wp_region_lit
  refine wpList_plain rfl fun K hK => ?_
  go_simp
  refine hK _ _ ?_
  clear hK K
  apply wpList_nil
  refine hK0 _ _ ?_
  clear hK0 K0
  apply wp_seq_k; intro K0 hK0
  apply wp_region_lit
  refine wpList_buildFlatArrTo rfl 97 95 64 _ rfl .u32 cbList (some 1) rfl und64 szW zero64 (by kernel_rfl) ?_
  rw [cb_us]
  generalize hW0 : World.alloc _ _ = W0
  have kR : Blk W0 w.heap.size 97 (us (fun _ => 0) 64) := by rw [← hW0, us0_64]; exact Blk.new' rfl
  have d0 : Below w.heap.size w W0 := by rw [← hW0]; exact chain0 _ _
  clear hW0
  refine arr_store arr64 rfl (.tmp 0) (.tmp 1) rfl w.heap.size rfl cb rfl 97 (fun _ => 0) kR ?_
  intro w5 kR5 hg5
  apply wpList_nil
  refine hK0 _ _ ?_
  clear hK0 K0
  go_wp2
  exact bodyPost_ret (v := uv cb 64) (arr_result arr64 rfl _ _ w.heap.size 97 cb rfl kR5) rfl ⟨rfl, d0.grown hg5 d0.size (fun k e => by have : w.heap.size = k := Option.some.inj e; omega)⟩
end Go.Proofs.Ytalmoaggancdjaa

namespace Go.Proofs.Ytalmoaggancdjaa
open Go.RowKit

/-- Eight words. -/
structure S8 where
  a : Int
  b : Int
  c : Int
  d : Int
  e : Int
  f : Int
  g : Int
  h : Int
/-- e's turns, a's turns; a choice; the most. -/
def bs1 (e : Int) : Int := bits .xor .u32 (bits .xor .u32 (rot e 6) (rot e 11)) (rot e 25)
def bs0 (a : Int) : Int := bits .xor .u32 (bits .xor .u32 (rot a 2) (rot a 13)) (rot a 22)
def chs3 (e f g : Int) : Int := bits .xor .u32 (bits .and .u32 e f) (bits .and .u32 (bits .xor .u32 4294967295 e) g)
def maj (a b c : Int) : Int := bits .xor .u32 (bits .xor .u32 (bits .and .u32 a b) (bits .and .u32 a c)) (bits .and .u32 b c)
def tmp1 (s : S8) (k w : Int) : Int := (s.h + bs1 s.e + chs3 s.e s.f s.g + k + w) % 4294967296
def tmp2 (s : S8) : Int := (bs0 s.a + maj s.a s.b s.c) % 4294967296
def rnd (s : S8) (k w : Int) : S8 := ⟨(tmp1 s k w + tmp2 s) % 4294967296, s.a, s.b, s.c, (s.d + tmp1 s k w) % 4294967296, s.e, s.f, s.g⟩
/-- Behind n rounds. -/
def rds (k w : Nat → Int) (s : S8) : Nat → S8
  | 0 => s
  | n + 1 => rnd (rds k w s n) (k n) (w n)
def S8.at (s : S8) : Nat → Int
  | 0 => s.a
  | 1 => s.b
  | 2 => s.c
  | 3 => s.d
  | 4 => s.e
  | 5 => s.f
  | 6 => s.g
  | _ => s.h
def s8 (f : Nat → Int) : S8 := ⟨f 0, f 1, f 2, f 3, f 4, f 5, f 6, f 7⟩
/-- The state behind a block. -/
def mixed (k w f : Nat → Int) : Nat → Int := fun i => (f i + (rds k w (s8 f) 64).at i) % 4294967296
theorem not32 (e : Int) : bits .xor .u32 4294967295 e = (-1 - e) % 4294967296 := by
  have h1 : (BitVec.ofInt IntKind.u32.bits 4294967295 ^^^ BitVec.ofInt IntKind.u32.bits e).toNat = 4294967295 - (e % 4294967296).toNat := by
    show (BitVec.ofInt 32 4294967295 ^^^ BitVec.ofInt 32 e).toNat = _
    rw [show BitVec.ofInt 32 4294967295 = BitVec.allOnes 32 by decide, BitVec.allOnes_xor, BitVec.toNat_not, BitVec.toNat_ofInt]
    rfl
  simp only [bits]
  rw [h1, IntKind.wrap_u32]
  omega

/-- A word of an array. -/
theorem run_index_us (ty n : Nat) (hu : Try.prog.underlying ty = some (.array n 95)) (f : Nat → Int) (k : Nat) (hk : k < n) (w : World) : (Instr.index ty (uv f n) (.int .i64 (k : Int))).run Try.prog w = .ok (.int .u32 (f k)) w := by
  have hk' : (0 ≤ (k : Int) ∧ (k : Int) < (n : Int)) := by omega
  have hg : (us f n)[k]? = some (.int .u32 (f k)) := us_at f hk
  simp [Instr.index, run_underlying hu, asIntOf, hg, go_sem, hk]
end Go.Proofs.Ytalmoaggancdjaa
