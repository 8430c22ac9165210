/-
  Arrays of words: as cells, as values; read and stored whole; Arrays of words, read and stored whole inside a fence; slices.Chunk over octets: pieces of a size, the last one maybe shorter; slices.Values over octets: each; blob.Int: the number of the first seven octets at most; Words of 32 bits: rotations to the right; hash.squareRoots, hash.cubeRoots, the reference's table: the first words, and tho
-/
import Derived.Laws.CopyOwn
import Derived.Laws.Rows
import Derived.Laws.Tables
import Derived.WalkSpells
import Derived.StillTail
import Derived.StillTactics
import Derived.WalkKit
import Derived.Laws.BitsLemmas
import Derived.Lib.Hide
import Derived.Test.YtbjpifcgnombaaaProg
import Derived.IntWalk
import Derived.Outline
import Derived.Deep.QuietTactic
import Derived.BigQuiet
import Derived.Great.BuildSlice
import Derived.StillTailTactics
import Derived.RegionTactic
import Derived.Test.YtbjpifcgnombaaaK05
namespace Go.Proofs.Ytbjpifcgnombaaa
open Go.RowKit
def us (f : Nat → Int) (n : Nat) : List Value := upto (fun k => Value.int .u32 (f k)) n
def updI (f : Nat → Int) (i : Nat) (v : Int) : Nat → Int := fun j => if j = i then v else f j
theorem us_length (f : Nat → Int) (n : Nat) : (us f n).length = n := upto_length _ _
theorem us_at (f : Nat → Int) {n k : Nat} (h : k < n) : (us f n)[k]? = some (.int .u32 (f k)) := by
  unfold us upto; rw [List.getElem?_map, List.getElem?_range h]; rfl
theorem us_set (f : Nat → Int) {n k : Nat} (v : Int) : (us f n).set k (.int .u32 v) = us (updI f k v) n := by
  apply List.ext_getElem?
  intro j
  rw [List.getElem?_set]
  by_cases hj : k = j
  · subst hj
    by_cases hk : k < n
    · rw [if_pos rfl, if_pos (by rw [us_length]; exact hk), us_at _ hk]; simp [updI]
    · rw [if_pos rfl, if_neg (by rw [us_length]; omega), eq_comm, List.getElem?_eq_none]; rw [us_length]; omega
  · rw [if_neg hj]
    by_cases hk : j < n
    · rw [us_at _ hk, us_at _ hk]; simp [updI, Ne.symm hj]
    · rw [List.getElem?_eq_none (by rw [us_length]; omega), List.getElem?_eq_none (by rw [us_length]; omega)]
theorem us_congr {f g : Nat → Int} {n : Nat} (h : ∀ k, k < n → f k = g k) : us f n = us g n := by
  apply List.ext_getElem?
  intro j
  by_cases hk : j < n
  · rw [us_at _ hk, us_at _ hk, h j hk]
  · rw [List.getElem?_eq_none (by rw [us_length]; omega), List.getElem?_eq_none (by rw [us_length]; omega)]
abbrev uv (f : Nat → Int) (n : Nat) : Value := .agg (us f n).toArray
theorem us_one (f : Nat → Int) (n : Nat) : ∀ v ∈ us f n, v.oneCell' = true := by
  intro v hv
  unfold us upto at hv
  obtain ⟨k, _, rfl⟩ := List.mem_map.1 hv
  rfl
theorem us_splice (f g : Nat → Int) {m n : Nat} (h : m ≤ n) : splice (us g n) 0 (us f m) = us (fun t => if t < m then f t else g t) n := by
  apply List.ext_getElem?
  intro j
  unfold splice
  simp only [List.take_zero, List.nil_append, us_length, Nat.zero_add]
  by_cases hm : j < m
  · rw [List.getElem?_append_left (by rw [us_length]; exact hm), us_at _ hm, us_at _ (by omega), if_pos hm]
  · rw [List.getElem?_append_right (by rw [us_length]; omega), us_length, List.getElem?_drop, show m + (j - m) = j by omega]
    by_cases hn : j < n
    · rw [us_at _ hn, us_at _ hn, if_neg hm]
    · rw [List.getElem?_eq_none (by rw [us_length]; omega), List.getElem?_eq_none (by rw [us_length]; omega)]
theorem us0_64 : us (fun _ => 0) 64 = [.int .u32 0, .int .u32 0, .int .u32 0, .int .u32 0, .int .u32 0, .int .u32 0, .int .u32 0, .int .u32 0, .int .u32 0, .int .u32 0, .int .u32 0, .int .u32 0, .int .u32 0, .int .u32 0, .int .u32 0, .int .u32 0, .int .u32 0, .int .u32 0, .int .u32 0, .int .u32 0, .int .u32 0, .int .u32 0, .int .u32 0, .int .u32 0, .int .u32 0, .int .u32 0, .int .u32 0, .int .u32 0, .int .u32 0, .int .u32 0, .int .u32 0, .int .u32 0, .int .u32 0, .int .u32 0, .int .u32 0, .int .u32 0, .int .u32 0, .int .u32 0, .int .u32 0, .int .u32 0, .int .u32 0, .int .u32 0, .int .u32 0, .int .u32 0, .int .u32 0, .int .u32 0, .int .u32 0, .int .u32 0, .int .u32 0, .int .u32 0, .int .u32 0, .int .u32 0, .int .u32 0, .int .u32 0, .int .u32 0, .int .u32 0, .int .u32 0, .int .u32 0, .int .u32 0, .int .u32 0, .int .u32 0, .int .u32 0, .int .u32 0, .int .u32 0] := rfl
structure ArrT (ty n : Nat) : Prop where
  hu : ∃ e, Try.prog.underlying ty = some (.array n e)
  hi : (Try.prog.info? ty).map (·.size) = some n
theorem arr8 : ArrT 119 8 := ⟨⟨_, Try.underlying119⟩, by kernel_rfl⟩
theorem arr16 : ArrT 148 16 := ⟨⟨_, Try.underlying148⟩, by kernel_rfl⟩
theorem arr64 : ArrT 120 64 := ⟨⟨_, Try.underlying120⟩, by kernel_rfl⟩
theorem arr_load {ty n : Nat} (hT : ArrT ty n) {ops : Array Oper} {rest : List Oper} {o : Oper} {a : Act} {w : World} {Q : Exit → Act → World → Prop} (hgd : o.guard = none) (x : Operand) (ho : o.op = .load ty x)
    (g : Nat) (hx : a.eval x = .pointer (some ⟨g, 0, none⟩)) (t : TypeId) (f : Nat → Int) (hg : Blk w g t (us f n))
    (h : wpList Try.prog ops Q rest (a.put o.dst (uv f n)) w) : wpList Try.prog ops Q (o :: rest) a w := by
  obtain ⟨⟨e, hu⟩, hi⟩ := hT
  exact wpList_load_row hgd ty x ho g hx t _ (0, 0) _ hg hu rfl (by rw [hi]; simp [us_length]) h
theorem us_all (f : Nat → Int) (n : Nat) : (us f n).toArray.all (·.oneCell') = true := by
  rw [Array.all_eq_true_iff_forall_mem]
  intro v hv
  exact us_one f n v (by simpa using hv)
theorem setRow_blk {w : World} {g : Nat} {t : TypeId} {old : List Value} (hg : Blk w g t old) (vs : List Value) : Blk (w.setRow g vs.toArray) g t vs := setRow_heap w g _ _ t _ hg
theorem setRow_grown {w : World} {g : Nat} (vs : Array Value) : w.grownBy (w.setRow g vs) (some g) :=
  ⟨rfl, rfl, rfl, by simp [World.setRow], fun k _ hne => setRow_other w g k vs (fun e => hne (by rw [e]))⟩
theorem arr_store {ty n : Nat} (hT : ArrT ty n) {ops : Array Oper} {rest : List Oper} {o : Oper} {a : Act} {w : World} {Q : Exit → Act → World → Prop} (hgd : o.guard = none) (x y : Operand) (ho : o.op = .store ty x y)
    (g : Nat) (hx : a.eval x = .pointer (some ⟨g, 0, none⟩)) (f : Nat → Int) (hy : a.eval y = uv f n) (t : TypeId) (old : Nat → Int) (hg : Blk w g t (us old n))
    (h : ∀ w', Blk w' g t (us f n) → w.grownBy w' (some g) → wpList Try.prog ops Q rest (a.put o.dst undef) w') : wpList Try.prog ops Q (o :: rest) a w := by
  obtain ⟨⟨e, hu⟩, hi⟩ := hT
  exact wpList_store_row hgd ty x y ho g _ hx hy t _ hg (by rw [hi]; simp [us_length]) (by simp [us_length]) (us_all f n) (h _ (setRow_blk hg _) (setRow_grown _))
theorem arr_result {ty n : Nat} (hT : ArrT ty n) {fn : Func} {p : Tmp} (h : fn.results = #[.cell p ty]) (tmps : Array Value) (w : World) (g : Nat) (t : TypeId) (f : Nat → Int)
    (hp : tmps.getD p undef = .pointer (some ⟨g, 0, none⟩)) (hg : Blk w g t (us f n)) : (results fn tmps).run Try.prog w = .ok (uv f n) w := by
  obtain ⟨⟨e, hu⟩, hi⟩ := hT
  exact results_cell_row h tmps w g t _ (0, 0) _ hp hg hu rfl (by rw [hi]; simp [us_length])
theorem below_drewN {B : Nat} (W : World) (n : Nat) : Below B W (W.drewN n) := ⟨rfl, rfl, rfl, Nat.le_refl _, fun _ _ => rfl⟩
end Go.Proofs.Ytbjpifcgnombaaa
namespace Go.Proofs.Ytbjpifcgnombaaa
open Go.RowKit Go.Shelf
theorem run_load_us {ty n : Nat} (hT : ArrT ty n) (w : World) (g : Nat) (t : TypeId) (f : Nat → Int) (hg : Blk w g t (us f n)) : (loadVar ty ⟨g, 0, none⟩).run Try.prog w = .ok (uv f n) w := by
  obtain ⟨⟨e, hu⟩, hi⟩ := hT
  exact run_loadVar_row w g t ty _ (0, 0) _ hg hu rfl (by rw [hi]; simp [us_length])
theorem still_load {ty n : Nat} (hT : ArrT ty n) {ops : Array Oper} {rest : List Oper} {o : Oper} {a : Act} {w : World} {Q : Act → Prop} (hgd : o.guard = none) (x : Operand) (ho : o.op = .load ty x)
    (g : Nat) (hx : a.eval x = .pointer (some ⟨g, 0, none⟩)) (t : TypeId) (f : Nat → Int) (hg : Blk w g t (us f n)) (h : wpStill Try.prog ops w Q rest (a.put o.dst (uv f n))) : wpStill Try.prog ops w Q (o :: rest) a := by
  refine wpStill_step fun K hK => ?_
  rw [if_pos (by simp [Region.wanted, hgd])]
  unfold Oper.still execOp
  simp only [ho, hx, Instr.loadAt, Instr.sureAddr, Sem.run_bind, Sem.run_pure, Result.andThen_ok, run_load_us hT w g t f hg, Oper.stillUpon_value]
  exact hK _ h
theorem step_load_us {ty n : Nat} (hT : ArrT ty n) {ops : Array Oper} {o : Oper} {a : Act} {w : World} {K : Act → World → Prop} {Q : Exit → Act → World → Prop} {E : Prop} (hgd : o.guard = none) (x : Operand) (ho : o.op = .load ty x)
    (g : Nat) (hx : a.eval x = .pointer (some ⟨g, 0, none⟩)) (t : TypeId) (f : Nat → Int) (hg : Blk w g t (us f n)) (h : K (a.put o.dst (uv f n)) w) :
    if Region.wanted o (yielded ops a.tmps) = true then Oper.wp Try.prog o a w K Q else E := by
  rw [if_pos (by simp [Region.wanted, hgd])]
  obtain ⟨⟨e, hu⟩, hi⟩ := hT
  exact wp_load_row ty x ho g hx t _ (0, 0) _ hg hu rfl (by rw [hi]; simp [us_length]) h
theorem step_store_us {ty n : Nat} (hT : ArrT ty n) {ops : Array Oper} {o : Oper} {a : Act} {w : World} {K : Act → World → Prop} {Q : Exit → Act → World → Prop} {E : Prop} (hgd : o.guard = none) (x y : Operand) (ho : o.op = .store ty x y)
    (g : Nat) (hx : a.eval x = .pointer (some ⟨g, 0, none⟩)) (f : Nat → Int) (hy : a.eval y = uv f n) (t : TypeId) (old : Nat → Int) (hg : Blk w g t (us old n))
    (h : ∀ w', Blk w' g t (us f n) → w.grownBy w' (some g) → K (a.put o.dst undef) w') :
    if Region.wanted o (yielded ops a.tmps) = true then Oper.wp Try.prog o a w K Q else E := by
  rw [if_pos (by simp [Region.wanted, hgd])]
  obtain ⟨⟨e, hu⟩, hi⟩ := hT
  exact wp_store_row ty x y ho g _ hx hy t _ hg (by rw [hi]; simp [us_length]) (by simp [us_length]) (us_all f n) (h _ (setRow_blk hg _) (setRow_grown _))
theorem arrIn_load {F : Fence} {m : Nat} {ty n : Nat} (hT : ArrT ty n) {ops : Array Oper} {rest : List Oper} {o : Oper} {a : Act} {w : World} {Q : Exit → Act → World → Prop} (hgd : o.guard = none) (x : Operand) (ho : o.op = .load ty x)
    (g : Nat) (hx : a.eval x = .pointer (some ⟨g, 0, none⟩)) (t : TypeId) (f : Nat → Int) (hg : Blk w g t (us f n))
    (h : wpListIn F m Try.prog ops Q rest (a.put o.dst (uv f n)) w) : wpListIn F m Try.prog ops Q (o :: rest) a w := by
  refine wpListIn_plain hgd fun K hK' => ?_
  unfold Oper.wpIn
  refine ⟨?_, ?_⟩
  · simp [Oper.about, ho]
  · rw [Oper.semAt_plain F _ _ (by rw [ho]; intro c hc'; cases hc')]
    unfold execOp
    simp only [ho, hx, Instr.loadAt, Instr.sureAddr, Sem.run_bind, Sem.run_pure, Result.andThen_ok, run_load_us hT w g t f hg]
    exact hK' _ _ h
theorem arrIn_store {F : Fence} {m : Nat} {ty n : Nat} (hT : ArrT ty n) {ops : Array Oper} {rest : List Oper} {o : Oper} {a : Act} {w : World} {Q : Exit → Act → World → Prop} (hgd : o.guard = none) (x y : Operand) (ho : o.op = .store ty x y)
    (g : Nat) (hx : a.eval x = .pointer (some ⟨g, 0, none⟩)) (f : Nat → Int) (hy : a.eval y = uv f n) (t : TypeId) (old : Nat → Int) (hg : Blk w g t (us old n))
    (h : ∀ w', Blk w' g t (us f n) → w.grownBy w' (some g) → wpListIn F m Try.prog ops Q rest (a.put o.dst undef) w') : wpListIn F m Try.prog ops Q (o :: rest) a w := by
  obtain ⟨⟨e, hu⟩, hi⟩ := hT
  refine wpListIn_plain hgd fun K hK' => ?_
  unfold Oper.wpIn
  refine ⟨?_, ?_⟩
  · simp [Oper.about, ho]
  · rw [Oper.semAt_plain F _ _ (by rw [ho]; intro c hc'; cases hc')]
    unfold execOp
    simp only [ho, hx, hy, Instr.storeAt, Instr.sureAddr, Sem.run_bind, Sem.run_pure, Result.andThen_ok, run_storeVar_row (P := Try.prog) w g t ty (us old n).toArray (us f n).toArray hg (by rw [hi]; simp [us_length]) (by simp [us_length]) (us_all f n)]
    exact hK' _ _ (h _ (setRow_blk hg _) (setRow_grown _))
end Go.Proofs.Ytbjpifcgnombaaa
namespace Go.Proofs.Ytbjpifcgnombaaa
open Go.RowKit Go.Shelf
attribute [local go_sem] Oper.semAt_some
abbrev CP (L : Nat) := { p : Nat × Nat // p.1 + p.2 ≤ L }
abbrev cpEnc {L : Nat} (b off : Nat) (p : CP L) : Array Value := #[.slice (some ⟨b, off + p.1.1, none⟩) p.1.2 p.1.2]
def chn (L s k : Nat) : CP L := ⟨(min (k * s) L, min s (L - min (k * s) L)), by dsimp only; omega⟩
def chc (L s : Nat) : Nat := (L + s - 1) / s
def chs (L s : Nat) : List (CP L) := (List.range (chc L s)).map (chn L s)
theorem chs_length (L s : Nat) : (chs L s).length = chc L s := by simp [chs]
theorem chs_at {L s k : Nat} (h : k < chc L s) : (chs L s)[k]? = some (chn L s k) := by unfold chs; rw [List.getElem?_map, List.getElem?_range h]; rfl
theorem chc_lt {L s k : Nat} (hs : 1 ≤ s) : k < chc L s ↔ k * s < L := by
  unfold chc
  rw [Nat.lt_iff_add_one_le, Nat.le_div_iff_mul_le (by omega), Nat.add_mul]
  omega
theorem chn_of {L s k : Nat} (h : k * s < L) : chn L s k = ⟨(k * s, min s (L - k * s)), by dsimp only; omega⟩ := by
  unfold chn
  apply Subtype.ext
  dsimp only
  rw [Nat.min_eq_left (Nat.le_of_lt h)]
set_option maxRecDepth 100000 in
set_option maxHeartbeats 4000000 in
theorem chunk1_in (F : Fence) (m : Nat) (h : F.fn 93) (hro : F.round = none) (hm : 1 ≤ m) (l Bs Bn b off cap L s : Nat) (hL : L ≤ 140737488354000) (hcap : L ≤ cap) (hcap' : cap ≤ 9223372036854775807) (hs : 1 ≤ s) (hs' : s ≤ 9223372036854775807) (J Jx : Nat → World → Prop) (W : World) (hJ : ∀ k W, J k W → J k W.drew)
    (hY : ∀ k W1, J k W1 → k < chc L s → YieldAt F (m - 1) Try.prog l (cpEnc b off (chn L s k)) W1 fun e W' =>
      (e = .returned (.bool true) ∧ J (k + 1) W' ∧ KeepB2 Bs Bn W1 W') ∨ (e = .returned (.bool false) ∧ Jx (k + 1) W'))
    (k1 : Boxed W Bs 68 (.slice (some ⟨b, off, none⟩) L cap)) (k2 : Boxed W Bn 3 (.int .i64 (s : Nat))) (h0 : J 0 W) :
    CallsIn F m Try.prog 93 #[.func (.yield l) #[] #[], .pointer (some ⟨Bs, 0, none⟩), .pointer (some ⟨Bn, 0, none⟩)] W fun e W' => (∃ v, e = .returned v) ∧
      (J (chc L s) W' ∨ (∃ k, k ≤ chc L s ∧ Jx k W')) := by
  refine callsIn_of_wp Try.func93 rfl h ?_ hro
  simp only [Try.ntmps93, List.size_toArray, List.length_cons, List.length_nil, Nat.reduceAdd, Nat.reduceSub, Array.replicate_succ, Array.replicate_zero, List.push_toArray, List.append_toArray, List.nil_append, List.cons_append]
  have hcL : (L : Int) ≤ (cap : Int) := by omega
  have hcI : (cap : Int) ≤ 9223372036854775807 := by omega
  gi_wp2
  gi_loopw [4] (fun i wr => ∃ k : Nat, k ≤ chc L s ∧ i = .int .i64 ((k * s : Nat) : Int) ∧ J k wr ∧ Boxed wr Bs 68 (.slice (some ⟨b, off, none⟩) L cap) ∧ Boxed wr Bn 3 (.int .i64 (s : Nat))) (fun i _ => L - (intOf i).toNat)
  case atStart => exact ⟨0, Nat.zero_le _, by rw [Nat.zero_mul]; rfl, h0, k1, k2⟩
  case round =>
    obtain ⟨k, hk, rfl, hJs, k1, k2⟩ := hrel
    have c1 := k1.cell
    have c2 := k2.cell
    by_cases hlt : k < chc L s
    · have hkL : k * s < L := (chc_lt hs).1 hlt
      obtain ⟨fn, tmps, assign, body, hy, hR⟩ := hY k wr.drew (hJ _ wr hJs) hlt
      rw [chn_of hkL] at hy
      change (Instr.yield l #[.slice (some ⟨b, off + k * s, none⟩) (min s (L - k * s)) (min s (L - k * s))]).run _ _ = _ at hy
      have hks : k * s + s ≤ 9223372036854775807 := by
        rcases Nat.eq_zero_or_pos k with h0 | h0
        · subst h0; omega
        · have := Nat.le_mul_of_pos_left s h0; omega
      have hnx : (k + 1) * s = k * s + s := Nat.succ_mul k s
      have HN := Lib.hid hnx
      clear hnx
      have HK : Hid (k + 1 ≤ chc L s) := Lib.hid hlt
      clear hlt
      generalize k * s = i at *
      have hi : (i : Int) < (L : Int) := by omega
      have his : (i : Int) + (s : Int) ≤ 9223372036854775807 := by omega
      have hne : ¬ cap = i := by omega
      have hiL : i ≤ L := by omega
      have hE : (if L - i < s then ((L - i : Nat) : Int) else (s : Int)) = ((min s (L - i) : Nat) : Int) := by split <;> omega
      have he0 : 0 < min s (L - i) := by omega
      have heL : i + min s (L - i) ≤ L := by omega
      have HE := Lib.hid hE
      clear hE
      generalize min s (L - i) = e at *
      have hie : (i : Int) + (e : Int) ≤ (L : Int) := by omega
      gi_wp2_with fail
      gi_region
      all_goals
        rw [HE.out]
        clear HE
        gi_wp2
        refine hR.mono ?_
        clear hy
        rintro e' W3 (⟨rfl, hJ3, hk3⟩ | ⟨rfl, hJx3⟩)
        · have q1 : Boxed W3 Bs 68 (.slice (some ⟨b, off, none⟩) L cap) := hk3.1.trans k1
          have q2 : Boxed W3 Bn 3 (.int .i64 (s : Nat)) := hk3.2.trans k2
          have d1 := q1.cell
          have d2 := q2.cell
          clear c1 c2
          gi_wp2
          have hq : (i : Int) + (s : Int) = (((k + 1) * s : Nat) : Int) := by rw [HN.out]; omega
          go_roundw
          case rel => exact ⟨k + 1, HK.out, by rw [hq], hJ3, q1, q2⟩
          case measure => simp [intOf]; omega
        · gi_wp2
          refine bodyPost_ret (results_none rfl _ _ _) rfl ?_
          exact ⟨⟨_, rfl⟩, .inr ⟨_, HK.out, hJx3⟩⟩
    · have hkL : ¬ k * s < L := fun e => hlt ((chc_lt hs).2 e)
      obtain rfl : k = chc L s := by omega
      clear hlt
      generalize chc L s * s = i at *
      have hkL' : ¬ (i : Int) < (L : Int) := by omega
      gi_wp2
      go_end0
      exact ⟨⟨_, rfl⟩, .inl hJs⟩
set_option maxHeartbeats 1000000 in
theorem chunk_in (F : Fence) (m : Nat) (h5 : F.fn 87) (hro : F.round = none) (a : Option Addr) (len cap : Nat) (z : Int) (hs : 1 ≤ z) (w : World) :
    CallsIn F m Try.prog 87 #[.slice a len cap, .int .i64 z] w fun e w' => e = .returned (.func (.func 93) #[] #[.pointer (some ⟨w.heap.size, 0, none⟩), .pointer (some ⟨w.heap.size + 1, 0, none⟩)]) ∧ w' = (w.alloc (.cells #[.slice a len cap] 68)).alloc (.cells #[.int .i64 z] 3) := by
  have hs0 : ¬ z < 1 := by omega
  refine callsIn_of_wp Try.func87 rfl h5 ?_ hro
  simp only [Try.ntmps87, List.size_toArray, List.length_cons, List.length_nil, Nat.reduceAdd, Nat.reduceSub, Array.replicate_succ, Array.replicate_zero, List.push_toArray, List.append_toArray, List.nil_append, List.cons_append]
  gi_wp2
  go_ret
  exact ⟨rfl, rfl⟩
end Go.Proofs.Ytbjpifcgnombaaa
namespace Go.Proofs.Ytbjpifcgnombaaa
open Go.RowKit Go.Shelf
attribute [local go_sem] Oper.semAt_some
set_option maxRecDepth 100000 in
set_option maxHeartbeats 4000000 in
theorem valuesB1_in (F : Fence) (n : Nat) (h7 : F.fn 97) (hro : F.round = none) (hn : 1 ≤ n) (l Bs n₀ b off cap : Nat) (zs : List UInt8) (hreach : zs.length ≤ 140737488351232) (hb : b < n₀) (J Jx : List UInt8 → World → Prop)
    (W : World)
    (hY : ∀ pre x W, J pre W → pre.length < zs.length → YieldAt F (n - 1) Try.prog l #[bv x] W fun e W' =>
      (e = .returned (.bool true) ∧ J (pre ++ [x]) W' ∧ Below n₀ W W') ∨ (e = .returned (.bool false) ∧ Jx (pre ++ [x]) W'))
    (hBs : W.cell? ⟨Bs, 0, none⟩ = some (.slice (some ⟨b, off, none⟩) zs.length cap)) (hc : Octs W b off zs) (h0 : J [] W) :
    CallsIn F n Try.prog 97 #[.func (.yield l) #[] #[], .pointer (some ⟨Bs, 0, none⟩)] W fun e W' => (∃ v, e = .returned v) ∧
      ((∃ ys, ys = zs ∧ J ys W') ∨ (∃ pre, True ∧ Jx pre W')) := by
  refine callsIn_of_wp Try.func97 rfl h7 ?_ hro
  simp only [Try.ntmps97, List.size_toArray, List.length_cons, List.length_nil, Nat.reduceAdd, Nat.reduceSub, Array.replicate_succ, Array.replicate_zero, List.push_toArray, List.append_toArray, List.nil_append, List.cons_append]
  gi_wp2
  gi_loopw [7] (fun i wr => ∃ k : Nat, k ≤ zs.length ∧ i = .int .i64 k ∧ J (zs.take k) wr ∧ Below n₀ W wr) (fun i _ => zs.length - (intOf i).toNat)
  case atStart => exact ⟨0, Nat.zero_le _, rfl, h0, Below.refl _ _⟩
  case round =>
    obtain ⟨k, hk, rfl, hJs, hnx⟩ := hrel
    by_cases hlt : k < zs.length
    · obtain ⟨x, hx⟩ : ∃ x, zs[k]? = some x := ⟨_, List.getElem?_eq_getElem hlt⟩
      have c0 := (hc.below hnx hb) k x hx
      have hk0 : (k : Int) < (zs.length : Int) := by omega
      obtain ⟨fn, tmps, assign, body, hy, hR⟩ := hY (zs.take k) x wr hJs (by simp; omega)
      have ht : zs.take (k + 1) = zs.take k ++ [x] := by rw [List.take_add_one, hx]; rfl
      rw [← ht] at hR
      clear ht
      have HX := Lib.hid hx
      clear hx
      generalize hL : zs.length = len at *
      have HL := Lib.hid hL
      clear hL
      gi_wp2
      refine hR.mono ?_
      rintro e W3 (⟨rfl, hJ3, hk3⟩ | ⟨rfl, hJx3⟩)
      · gi_wp2
        go_roundw
        case rel => exact ⟨k + 1, by omega, by simp, hJ3, hnx.trans hk3⟩
        case measure => simp [intOf]; omega
      · gi_wp2
        refine bodyPost_ret (results_none rfl _ _ _) rfl ?_
        exact ⟨⟨_, rfl⟩, .inr ⟨_, trivial, hJx3⟩⟩
    · obtain rfl : k = zs.length := by omega
      gi_wp2
      go_end0
      rw [List.take_length] at hJs
      exact ⟨⟨_, rfl⟩, .inl ⟨_, rfl, hJs⟩⟩
set_option maxRecDepth 100000 in
set_option maxHeartbeats 1000000 in
theorem valuesB1_nil_in (F : Fence) (n : Nat) (h7 : F.fn 97) (hro : F.round = none) (l Bs : Nat) (a : Option Addr) (cap : Nat) (J : List UInt8 → World → Prop) (W : World) (hBs : W.cell? ⟨Bs, 0, none⟩ = some (.slice a 0 cap)) (h0 : J [] W) :
    CallsIn F n Try.prog 97 #[.func (.yield l) #[] #[], .pointer (some ⟨Bs, 0, none⟩)] W fun e W' => (∃ v, e = .returned v) ∧ J [] W' := by
  refine callsIn_of_wp Try.func97 rfl h7 ?_ hro
  simp only [Try.ntmps97, List.size_toArray, List.length_cons, List.length_nil, Nat.reduceAdd, Nat.reduceSub, Array.replicate_succ, Array.replicate_zero, List.push_toArray, List.append_toArray, List.nil_append, List.cons_append]
  gi_wp2
  gi_loopw [7] (fun i wr => i = .int .i64 0 ∧ J [] wr) (fun _ _ => 0)
  case atStart => exact ⟨rfl, h0⟩
  case round =>
    obtain ⟨rfl, hJs⟩ := hrel
    gi_wp2
    go_end0
    exact ⟨⟨_, rfl⟩, hJs⟩
set_option maxHeartbeats 1000000 in
theorem valuesB_in (F : Fence) (n : Nat) (h5 : F.fn 94) (hro : F.round = none) (a : Option Addr) (len cap : Nat) (w : World) :
    CallsIn F n Try.prog 94 #[.slice a len cap] w fun e w' => e = .returned (.func (.func 97) #[] #[.pointer (some ⟨w.heap.size, 0, none⟩)]) ∧ w' = w.alloc (.cells #[.slice a len cap] 68) := by
  refine callsIn_of_wp Try.func94 rfl h5 ?_ hro
  simp only [Try.ntmps94, List.size_toArray, List.length_cons, List.length_nil, Nat.reduceAdd, Nat.reduceSub, Array.replicate_succ, Array.replicate_zero, List.push_toArray, List.append_toArray, List.nil_append, List.cons_append]
  gi_wp2
  go_ret
  exact ⟨rfl, rfl⟩
theorem valuesB_stops (F : Fence) (n : Nat) (h7 : F.fn 97) (hro : F.round = none) (hn : 1 ≤ n) (Bs n₀ : Nat) (sv : Value) (zs : List UInt8) (hreach : zs.length ≤ 140737488351232) (w : World) (hn₀ : n₀ ≤ w.heap.size)
    (hk : Boxed w Bs 68 sv) (hI : BSl 0 n₀ w sv zs) :
    SeqStopsK F n Try.prog 97 #[.pointer (some ⟨Bs, 0, none⟩)] (fun x => #[bv x]) (Below n₀) (fun ys => ys = zs) (fun _ => True) zs.length w := fun l J Jx W hW hJ _ hY h0 => by
  have hc' := (hW.cell (p := ⟨Bs, 0, none⟩) hk.lt).trans hk.cell
  obtain ⟨a, cap, rfl, hcap, rfl | ⟨b, off, rfl, _, hb, hcs⟩⟩ := hI.below hW hn₀
  · exact (valuesB1_nil_in F n h7 hro l Bs a cap J W hc' h0).mono fun e W' ⟨he, hj⟩ => ⟨he, .inl ⟨_, rfl, hj⟩⟩
  · exact valuesB1_in F n h7 hro hn l Bs n₀ b off cap zs hreach hb J Jx W hY hc' hcs h0
end Go.Proofs.Ytbjpifcgnombaaa
namespace Go.Proofs.Ytbjpifcgnombaaa
open Go.RowKit Go.Shelf
attribute [local go_sem] Oper.semAt_some
def IntI (N : Nat) (w : World) (pre : List UInt8) (W : World) : Prop := Boxed W N 3 (.int .i64 (be pre : Nat)) ∧ Below N w W
theorem intI_own {N : Nat} {w : World} {B : Nat} (h : N ≤ w.heap.size) (hB : N ≤ B) : OwnFrom B (IntI N w) :=
  OwnFrom.and (Own.from (fun s X Y row hs hg hr => blk_own N 3 (fun s : List UInt8 => [.int .i64 (be s : Nat)]) s X Y row hs hg hr) _) (ownFrom_below h hB)
theorem BSl.take {lo hi : Nat} {W : World} {a : Option Addr} {cap : Nat} {l : List UInt8} (h : BSl lo hi W (.slice a l.length cap) l) (k : Nat) (hk : k ≤ l.length) : BSl lo hi W (.slice a k cap) (l.take k) := by
  obtain ⟨a', cap', e, hc, h0⟩ := h
  cases e
  refine ⟨a, cap, by rw [List.length_take, Nat.min_eq_left hk], by simp; omega, ?_⟩
  rcases h0 with rfl | ⟨b, off, ha, h1, h2, ho⟩
  · exact .inl (by simp)
  · exact .inr ⟨b, off, ha, h1, h2, fun j x hj => ho j x (by
      have hjk : j < k := by have := (List.getElem?_eq_some_iff.1 hj).1; simp at this; omega
      rwa [List.getElem?_take_of_lt hjk] at hj)⟩
set_option maxRecDepth 100000 in
set_option maxHeartbeats 4000000 in
theorem blobInt_in (m : Nat) (hm : 2 ≤ m) (l : List UInt8) (sv : Value) (w : World) (hreach : l.length ≤ 140737488351232) (hsv : BSl 0 w.heap.size w sv l) :
    CallsIn Fence.wide m Try.prog 88 #[sv] w fun e W' => e = .returned (.int .i64 (be (l.take 7) : Nat)) ∧ Below w.heap.size w W' := by
  have h1 : 1 ≤ m := by omega
  have hsv0 := hsv
  obtain ⟨a, cap, rfl, hcap, hcs⟩ := hsv
  clear hcs
  refine callsIn_of_wp_marks Try.func88 rfl trivial ?_ rfl
  simp only [Try.ntmps88, List.size_toArray, List.length_cons, List.length_nil, Nat.reduceAdd, Nat.reduceSub, Array.replicate_succ, Array.replicate_zero, List.push_toArray, List.append_toArray, List.nil_append, List.cons_append]
  have hN : (l.take 7).length ≤ 7 := by rw [List.length_take]; omega
  have hcase : (((l.length : Nat) : Int) ≤ 7 ∧ BSl 0 w.heap.size w (.slice a l.length cap) (l.take 7)) ∨ (¬ ((l.length : Nat) : Int) ≤ 7 ∧ BSl 0 w.heap.size w (.slice a 7 cap) (l.take 7)) := by
    by_cases h : l.length ≤ 7
    · exact .inl ⟨by omega, by rw [List.take_of_length_le h]; exact hsv0⟩
    · exact .inr ⟨by omega, hsv0.take 7 (by omega)⟩
  clear hsv0
  generalize l.take 7 = z at *
  rcases hcase with ⟨h7, hT⟩ | ⟨h7, hT⟩
  all_goals
    gi_wp2_with (refine ⟨trivial, ?_⟩; gi_at_call 94; refine (valuesB_in Fence.wide (m - 1) trivial rfl _ _ _ _).mono ?_; rintro e w' ⟨rfl, rfl⟩)
    generalize hW5 : World.alloc _ _ = W5
    have k0 : Boxed W5 w.heap.size 3 (.int .i64 (be [] : Nat)) := by rw [← hW5]; exact (Boxed.new _ _ (.int .i64 (be [] : Nat))).alloc _
    have k2 := show Boxed W5 (w.heap.size + 1) 68 (.slice a _ cap) by rw [← hW5]; exact Blk.new' (vs := [_]) (by simp)
    have hB0 : Below w.heap.size w W5 := by rw [← hW5]; exact chainA (chain0 _ _) _
    have hz : W5.heap.size = w.heap.size + 2 := by rw [← hW5]; simp
    clear hW5
    refine wpIn_rangeFunc_ownF (S := fun ys => ys = z) rfl h1 (gf := 97) (lb := #[.pointer (some ⟨w.heap.size + 1, 0, none⟩)]) rfl trivial (enters_of Try.func97 (by kernel_rfl) rfl)
      (valuesB_stops Fence.wide (m - 1) trivial rfl (by omega) (w.heap.size + 1) w.heap.size _ z (by omega) W5 (by omega) k2 (hT.below hB0 (Nat.le_refl _))) belowK_t (belowK_b (by omega)) (Below.refl _ _) (fun _ => rfl)
      (IntI w.heap.size w) (fun _ _ _ => False) (intI_own (Nat.le_refl _) (by omega)) (fun _ _ _ _ _ hs _ _ => hs)
      ⟨k0, hB0⟩ ?_ ?_ ?_ ?_ ?_
    rotate_left
    · intro l x W K hK
      gi_wp2
      exact hK
    · rintro r pre x W ⟨k0, hB⟩ hlt
      have co := k0.cell
      have cf := k0.frozen
      have hsn := be_snoc pre x
      have HS := Lib.hid hsn
      have hl1 : be pre ≤ 281474976710655 := by have := be_lt' (l := pre) (k := 6) (by omega); omega
      have hor := or_byte64 (a := be pre) (x := x.toNat) (by omega) x.toNat_lt
      have HO := Lib.hid hor
      clear hor hsn
      generalize be pre = y at *
      have hy : (y : Int) ≤ 281474976710655 := by omega
      have hxl := x.toNat_lt
      have hxl' : (x.toNat : Int) ≤ 255 := by omega
      gi_wp2
      rw [HO.out, ← HS.out]
      have hbw := (Below.refl w.heap.size W).setCell (p := ⟨w.heap.size, 0, none⟩) (Nat.le_refl _) (.int .i64 (be (pre ++ [x]) : Nat))
      exact ⟨KeepsOthers.setCell _ _ _, hbw, k0.set _, hB.trans hbw⟩
    · rintro D ys W hD rfl ⟨k0, hB⟩ hK
      have co := k0.cell
      have HZ := Lib.hid hz
      clear hz
      gi_wp2
      have hB' := hB.trans (belowK_b (w := w) (Nat.le_refl _) _ D _ (.deferred none) (by have := HZ.out; omega) hK rfl rfl)
      refine ⟨by simp, .inl ⟨_, _, rfl, run_takeDeferred hK, ?_⟩⟩
      refine ⟨.int .i64 (be ys : Nat), ?_, ?_⟩
      · simp [results, Try.f88, go_sem]
      · exact ⟨rfl, hB'⟩
    · rintro D c pre W _ _ h _
      exact h.elim
theorem blobInt_any (l : List UInt8) (sv : Value) (w : World) (hreach : l.length ≤ 140737488351232) (hsv : BSl 0 w.heap.size w sv l) :
    Calls Try.prog 88 #[sv] w fun e W' => e = .returned (.int .i64 (be (l.take 7) : Nat)) ∧ Below w.heap.size w W' := callsIn_wide.1 (blobInt_in 2 (by omega) l sv w hreach hsv)
end Go.Proofs.Ytbjpifcgnombaaa
namespace Go.Proofs.Ytbjpifcgnombaaa
open Go.RowKit
def rot (x : Int) (n : Nat) : Int := bits .or .u32 (x / (2 : Int) ^ n) (x * (2 : Int) ^ (32 - n) % 4294967296)
theorem or_comm32 (a b : Int) : bits .or .u32 a b = bits .or .u32 b a := by simp only [bits, BitVec.or_comm]
theorem mask31 (n : Nat) (h : n ∈ [2, 3, 6, 7, 10, 11, 13, 17, 18, 19, 22, 25]) : bits .and .u64 (IntKind.u64.wrap (-(n : Int))) 31 = ((32 - n : Nat) : Int) := by
  simp only [List.mem_cons, List.not_mem_nil, or_false] at h
  rcases h with rfl | rfl | rfl | rfl | rfl | rfl | rfl | rfl | rfl | rfl | rfl | rfl <;> decide
set_option maxHeartbeats 1000000 in
theorem rotateLeft_any (x : Int) (k : Int) (s : Nat) (hs : bits .and .u64 (IntKind.u64.wrap k) 31 = (s : Int)) (h0 : 1 ≤ (s : Int)) (h1 : (s : Int) ≤ 31) (w : World) : Calls Try.prog 96 #[.int .u32 x, .int .i64 k] w fun e w' => e = .returned (.int .u32 (rot x (32 - s))) ∧ w = w' := by
  go_enter Try.func96, Try.ntmps96
  go_wp2
  go_ret
  refine ⟨?_, rfl⟩
  have hr : rot x (32 - s) = bits .or .u32 (x * 2 ^ s % 4294967296) (x / 2 ^ (32 - s)) := by
    unfold rot
    rw [or_comm32, show 32 - (32 - s) = s by omega]
  rw [hr]
  rfl
def turns (n : Nat) : Prop := n ∈ [2, 3, 6, 7, 10, 11, 13, 17, 18, 19, 22, 25]
set_option maxHeartbeats 1000000 in
theorem rotr_any (x : Int) (n : Nat) (hn : turns n) (w : World) : Calls Try.prog 91 #[.int .u32 x, .int .i64 (n : Int)] w fun e w' => e = .returned (.int .u32 (rot x n)) ∧ w = w' := by
  have hs := mask31 n hn
  have hb : 1 ≤ n ∧ n ≤ 31 := by
    unfold turns at hn
    simp only [List.mem_cons, List.not_mem_nil, or_false] at hn
    omega
  obtain ⟨hb1, hb2⟩ := hb
  have HN := Lib.hid hs
  clear hs hn
  have hm : (n : Int) ≤ 31 := by omega
  go_enter Try.func91, Try.ntmps91
  go_wp2_with (go_at_call 96; refine (rotateLeft_any _ _ _ HN.out (by omega) (by omega) _).mono ?_; rintro e w' ⟨rfl, rfl⟩)
  go_ret
  have hq : 32 - (32 - n) = n := by omega
  exact ⟨congrArg (fun q => Ending.returned (.int .u32 (rot x q))) hq, rfl⟩
theorem rotr_still (x : Int) (k : Int) (n : Nat) (hn : turns n) (hk : k = (n : Int)) (w : World) : Calls Try.prog 91 #[.int .u32 x, .int .i64 k] w fun e w' => e = .returned (.int .u32 (rot x n)) ∧ w' = w := by
  subst hk; exact (rotr_any x n hn w).mono fun _ _ h => ⟨h.1, h.2.symm⟩
set_option maxHeartbeats 1000000 in
theorem turn_any (x : Int) (n : Nat) (hn : turns n) (w : World) : Calls Try.prog 78 #[.int .u32 x, .int .i64 (n : Int)] w fun e w' => e = .returned (.int .u32 (rot x n)) ∧ w = w' := by
  have hb : 1 ≤ (n : Int) ∧ (n : Int) ≤ 31 := by
    unfold turns at hn
    simp only [List.mem_cons, List.not_mem_nil, or_false] at hn
    omega
  obtain ⟨hb1, hb2⟩ := hb
  clear hn
  have hw : (32 : Int) - (n : Int) = ((32 - n : Nat) : Int) := by omega
  go_enter Try.func78, Try.ntmps78
  go_wp2
  go_ret
  exact ⟨rfl, rfl⟩
theorem turn_still (x : Int) (k : Int) (n : Nat) (hn : turns n) (hk : k = (n : Int)) (w : World) : Calls Try.prog 78 #[.int .u32 x, .int .i64 k] w fun e w' => e = .returned (.int .u32 (rot x n)) ∧ w' = w := by
  subst hk; exact (turn_any x n hn w).mono fun _ _ h => ⟨h.1, h.2.symm⟩
theorem t2 : turns 2 := by unfold turns; simp
theorem t6 : turns 6 := by unfold turns; simp
theorem t7 : turns 7 := by unfold turns; simp
theorem t11 : turns 11 := by unfold turns; simp
theorem t13 : turns 13 := by unfold turns; simp
theorem t17 : turns 17 := by unfold turns; simp
theorem t18 : turns 18 := by unfold turns; simp
theorem t19 : turns 19 := by unfold turns; simp
theorem t22 : turns 22 := by unfold turns; simp
theorem t25 : turns 25 := by unfold turns; simp
end Go.Proofs.Ytbjpifcgnombaaa
namespace Go.Proofs.Ytbjpifcgnombaaa
open Go.RowKit
def sqList : List Int := [1779033703, 3144134277, 1013904242, 2773480762, 1359893119, 2600822924, 528734635, 1541459225]
def cbList : List Int := [0x428a2f98, 0x71374491, 0xb5c0fbcf, 0xe9b5dba5, 0x3956c25b, 0x59f111f1, 0x923f82a4, 0xab1c5ed5,
  0xd807aa98, 0x12835b01, 0x243185be, 0x550c7dc3, 0x72be5d74, 0x80deb1fe, 0x9bdc06a7, 0xc19bf174,
  0xe49b69c1, 0xefbe4786, 0x0fc19dc6, 0x240ca1cc, 0x2de92c6f, 0x4a7484aa, 0x5cb0a9dc, 0x76f988da,
  0x983e5152, 0xa831c66d, 0xb00327c8, 0xbf597fc7, 0xc6e00bf3, 0xd5a79147, 0x06ca6351, 0x14292967,
  0x27b70a85, 0x2e1b2138, 0x4d2c6dfc, 0x53380d13, 0x650a7354, 0x766a0abb, 0x81c2c92e, 0x92722c85,
  0xa2bfe8a1, 0xa81a664b, 0xc24b8b70, 0xc76c51a3, 0xd192e819, 0xd6990624, 0xf40e3585, 0x106aa070,
  0x19a4c116, 0x1e376c08, 0x2748774c, 0x34b0bcb5, 0x391c0cb3, 0x4ed8aa4a, 0x5b9cca4f, 0x682e6ff3,
  0x748f82ee, 0x78a5636f, 0x84c87814, 0x8cc70208, 0x90befffa, 0xa4506ceb, 0xbef9a3f7, 0xc67178f2]
def sq (k : Nat) : Int := sqList.getD k 0
def cb (k : Nat) : Int := cbList.getD k 0
theorem us_list (l : List Int) : l.map (Value.int .u32) = us (fun k => l.getD k 0) l.length := by
  apply List.ext_getElem?
  intro j
  by_cases hj : j < l.length
  · rw [us_at _ hj, List.getElem?_map, List.getElem?_eq_getElem hj]; simp [List.getD, hj]
  · rw [List.getElem?_eq_none (by simp; omega), List.getElem?_eq_none (by rw [us_length]; omega)]
theorem zero8 : ((Try.prog.info? 119).bind (·.zero)).map (·.cells.size) = some 8 := by kernel_rfl
theorem zero64 : ((Try.prog.info? 120).bind (·.zero)).map (·.cells.size) = some 64 := by kernel_rfl
theorem szW : (Try.prog.info? 118).map (·.size) = some 1 := by kernel_rfl
theorem und8 : Try.prog.underlying 119 = some (.array 8 118) := by kernel_rfl
theorem und64 : Try.prog.underlying 120 = some (.array 64 118) := by kernel_rfl
theorem us0_8 : us (fun _ => 0) 8 = [.int .u32 0, .int .u32 0, .int .u32 0, .int .u32 0, .int .u32 0, .int .u32 0, .int .u32 0, .int .u32 0] := rfl
theorem sq_us : sqList.map (Value.int .u32) = us sq 8 := us_list sqList
theorem cb_us : cbList.map (Value.int .u32) = us cb 64 := us_list cbList
set_option maxRecDepth 100000 in
set_option maxHeartbeats 4000000 in
theorem squareRoots_any (w : World) : Calls Try.prog 80 #[] w fun e W' => e = .returned (uv sq 8) ∧ Below w.heap.size w W' := by
  go_enter Try.func80, Try.ntmps80
  apply wp_seq_k; intro K0 hK0
  apply wp_region_lit
  refine wpList_plain rfl fun K hK => ?_
  go_simp
  refine hK _ _ ?_
  clear hK K
  apply wpList_nil
  refine hK0 _ _ ?_
  clear hK0 K0
  apply wp_seq_k; intro K0 hK0
  apply wp_region_lit
  refine wpList_buildFlatArrTo rfl 119 118 8 _ rfl .u32 sqList (some 1) rfl und8 szW zero8 (by kernel_rfl) ?_
  rw [sq_us]
  generalize hW0 : World.alloc _ _ = W0
  have kR : Blk W0 w.heap.size 119 (us (fun _ => 0) 8) := by rw [← hW0, us0_8]; exact Blk.new' rfl
  have d0 : Below w.heap.size w W0 := by rw [← hW0]; exact chain0 _ _
  clear hW0
  refine arr_store arr8 rfl (.tmp 0) (.tmp 1) rfl w.heap.size rfl sq rfl 119 (fun _ => 0) kR ?_
  intro w5 kR5 hg5
  apply wpList_nil
  refine hK0 _ _ ?_
  clear hK0 K0
  go_wp2
  exact bodyPost_ret (v := uv sq 8) (arr_result arr8 rfl _ _ w.heap.size 119 sq rfl kR5) rfl ⟨rfl, d0.grown hg5 d0.size (fun k e => by have : w.heap.size = k := Option.some.inj e; omega)⟩
set_option maxRecDepth 100000 in
set_option maxHeartbeats 4000000 in
theorem cubeRoots_any (w : World) : Calls Try.prog 90 #[] w fun e W' => e = .returned (uv cb 64) ∧ Below w.heap.size w W' := by
  go_enter Try.func90, Try.ntmps90
  apply wp_seq_k; intro K0 hK0
  apply wp_region_lit
  refine wpList_plain rfl fun K hK => ?_
  go_simp
  refine hK _ _ ?_
  clear hK K
  apply wpList_nil
  refine hK0 _ _ ?_
  clear hK0 K0
  apply wp_seq_k; intro K0 hK0
  apply wp_region_lit
  refine wpList_buildFlatArrTo rfl 120 118 64 _ rfl .u32 cbList (some 1) rfl und64 szW zero64 (by kernel_rfl) ?_
  rw [cb_us]
  generalize hW0 : World.alloc _ _ = W0
  have kR : Blk W0 w.heap.size 120 (us (fun _ => 0) 64) := by rw [← hW0, us0_64]; exact Blk.new' rfl
  have d0 : Below w.heap.size w W0 := by rw [← hW0]; exact chain0 _ _
  clear hW0
  refine arr_store arr64 rfl (.tmp 0) (.tmp 1) rfl w.heap.size rfl cb rfl 120 (fun _ => 0) kR ?_
  intro w5 kR5 hg5
  apply wpList_nil
  refine hK0 _ _ ?_
  clear hK0 K0
  go_wp2
  exact bodyPost_ret (v := uv cb 64) (arr_result arr64 rfl _ _ w.heap.size 120 cb rfl kR5) rfl ⟨rfl, d0.grown hg5 d0.size (fun k e => by have : w.heap.size = k := Option.some.inj e; omega)⟩
set_option maxRecDepth 100000 in
set_option maxHeartbeats 4000000 in
theorem table_any (w : World) : Calls Try.prog 60 #[] w fun e W' => e = .returned (uv cb 64) ∧ Below w.heap.size w W' := by
  go_enter Try.func60, Try.ntmps60
  apply wp_seq_k; intro K0 hK0
  apply wp_region_lit
  refine wpList_plain rfl fun K hK => ?_
  go_simp
  refine hK _ _ ?_
  clear hK K
  apply wpList_nil
  refine hK0 _ _ ?_
  clear hK0 K0
  apply wp_seq_k; intro K0 hK0
  apply wp_region_lit
  refine wpList_buildFlatArrTo rfl 120 118 64 _ rfl .u32 cbList (some 1) rfl und64 szW zero64 (by kernel_rfl) ?_
  rw [cb_us]
  generalize hW0 : World.alloc _ _ = W0
  have kR : Blk W0 w.heap.size 120 (us (fun _ => 0) 64) := by rw [← hW0, us0_64]; exact Blk.new' rfl
  have d0 : Below w.heap.size w W0 := by rw [← hW0]; exact chain0 _ _
  clear hW0
  refine arr_store arr64 rfl (.tmp 0) (.tmp 1) rfl w.heap.size rfl cb rfl 120 (fun _ => 0) kR ?_
  intro w5 kR5 hg5
  apply wpList_nil
  refine hK0 _ _ ?_
  clear hK0 K0
  go_wp2
  exact bodyPost_ret (v := uv cb 64) (arr_result arr64 rfl _ _ w.heap.size 120 cb rfl kR5) rfl ⟨rfl, d0.grown hg5 d0.size (fun k e => by have : w.heap.size = k := Option.some.inj e; omega)⟩
end Go.Proofs.Ytbjpifcgnombaaa
namespace Go.Proofs.Ytbjpifcgnombaaa
open Go.RowKit
structure S8 where
  a : Int
  b : Int
  c : Int
  d : Int
  e : Int
  f : Int
  g : Int
  h : Int
def bs1 (e : Int) : Int := bits .xor .u32 (bits .xor .u32 (rot e 6) (rot e 11)) (rot e 25)
def bs0 (a : Int) : Int := bits .xor .u32 (bits .xor .u32 (rot a 2) (rot a 13)) (rot a 22)
def chs3 (e f g : Int) : Int := bits .xor .u32 (bits .and .u32 e f) (bits .and .u32 (bits .xor .u32 4294967295 e) g)
def maj (a b c : Int) : Int := bits .xor .u32 (bits .xor .u32 (bits .and .u32 a b) (bits .and .u32 a c)) (bits .and .u32 b c)
def tmp1 (s : S8) (k w : Int) : Int := (s.h + bs1 s.e + chs3 s.e s.f s.g + k + w) % 4294967296
def tmp2 (s : S8) : Int := (bs0 s.a + maj s.a s.b s.c) % 4294967296
def rnd (s : S8) (k w : Int) : S8 := ⟨(tmp1 s k w + tmp2 s) % 4294967296, s.a, s.b, s.c, (s.d + tmp1 s k w) % 4294967296, s.e, s.f, s.g⟩
def rds (k w : Nat → Int) (s : S8) : Nat → S8
  | 0 => s
  | n + 1 => rnd (rds k w s n) (k n) (w n)
def S8.at (s : S8) : Nat → Int
  | 0 => s.a
  | 1 => s.b
  | 2 => s.c
  | 3 => s.d
  | 4 => s.e
  | 5 => s.f
  | 6 => s.g
  | _ => s.h
def s8 (f : Nat → Int) : S8 := ⟨f 0, f 1, f 2, f 3, f 4, f 5, f 6, f 7⟩
def mixed (k w f : Nat → Int) : Nat → Int := fun i => (f i + (rds k w (s8 f) 64).at i) % 4294967296
theorem run_index_us (ty n : Nat) (hu : Try.prog.underlying ty = some (.array n 118)) (f : Nat → Int) (k : Nat) (hk : k < n) (w : World) : (Instr.index ty (uv f n) (.int .i64 (k : Int))).run Try.prog w = .ok (.int .u32 (f k)) w := by
  have hk' : (0 ≤ (k : Int) ∧ (k : Int) < (n : Int)) := by omega
  have hg : (us f n)[k]? = some (.int .u32 (f k)) := us_at f hk
  simp [Instr.index, run_underlying hu, asIntOf, hg, go_sem, hk]
end Go.Proofs.Ytbjpifcgnombaaa
namespace Go.Proofs.Ytbjpifcgnombaaa
open Go.RowKit
def sg0 (x : Int) : Int := bits .xor .u32 (bits .xor .u32 (rot x 7) (rot x 18)) (x / 8)
def sg1 (x : Int) : Int := bits .xor .u32 (bits .xor .u32 (rot x 17) (rot x 19)) (x / 1024)
def nwS (f : Nat → Int) (t : Nat) : Int := (sg1 (f (t - 2)) + f (t - 7) + sg0 (f (t - 15)) + f (t - 16)) % 4294967296
def sch (f : Nat → Int) : Nat → Nat → Int
  | 0 => fun t => if t < 16 then f t else 0
  | k + 1 => updI (sch f k) (k + 16) (nwS (sch f k) (k + 16))
set_option maxRecDepth 100000 in
set_option maxHeartbeats 4000000 in
theorem schedule_any (f : Nat → Int) (w : World) : Calls Try.prog 84 #[uv f 16] w fun e W' => e = .returned (uv (sch f 48) 64) ∧ Below w.heap.size w W' := by
  have hmx : Try.prog.follows .mixedOrders = true := by kernel_rfl
  go_enter Try.func84, Try.ntmps84
  go_wp2
  generalize hW0 : World.alloc _ _ = W0
  have kS : Blk W0 w.heap.size 148 (us f 16) := by rw [← hW0]; exact ((Blk.new' rfl).alloc _).alloc _
  have kR : Blk W0 (w.heap.size + 1) 120 (us (fun _ => 0) 64) := by rw [← hW0, us0_64]; exact (Blk.new' (by simp)).alloc _
  have kW : Blk W0 (w.heap.size + 1 + 1) 120 (us (fun _ => 0) 64) := by rw [← hW0, us0_64]; exact Blk.new' (by simp)
  have d0 : Below w.heap.size w W0 := by rw [← hW0]; exact chainA (chainA (chain0 _ _) _) _
  clear hW0
  refine wp_region_any hmx ?_
  change wpAny _ _ _ _ _ _ _ (World.drew _)
  refine wpAny_take (i := 0) (v := ?_) rfl (by kernel_rfl) (by kernel_rfl) (by kernel_rfl) (fun _ _ _ h => h) (Or.inl ⟨rfl, ?_⟩) ?_
  rotate_left
  · intro w'; go_simp; with_reducible rfl
  refine wpAny_take (i := 1) (v := ?_) rfl (by kernel_rfl) (by kernel_rfl) (by kernel_rfl) (fun _ _ _ h => h) (Or.inl ⟨rfl, ?_⟩) ?_
  rotate_left
  · intro w'; go_simp; with_reducible rfl
  refine wpAny_ready (rs := [2]) (by kernel_rfl) (by simp) ?_
  refine AllReady.cons rfl (fun K hK => ?_) AllReady.nil
  refine step_copy_splice rfl (.tmp 8) (.tmp 9) 153 153 rfl 118 (by kernel_rfl) (by kernel_rfl) (some ⟨w.heap.size + 1 + 1, 0, none⟩) (some ⟨w.heap.size, 0, none⟩) 64 64 16 16 rfl rfl (w.heap.size + 1 + 1) 0 (us (fun _ => 0) 64) 120 kW (us f 16) (by rw [us_length]; rfl)
    (fun _ => ⟨rfl, _, rfl, fun j v hj => ?_⟩) (by rw [us_length, us_length]; omega) (us_one _ _) (w.heap.size + 1 + 1) W0 ((Below.refl _ _).drew) (Nat.le_refl _) ?_
  · have h16 : j < 16 := by have := (List.getElem?_eq_some_iff.1 hj).1; rwa [us_length] at this
    have hc : W0.cell? ⟨w.heap.size, 0 + j, none⟩ = some v := by rw [Nat.zero_add]; exact (kS.cell j).trans hj
    cases j <;> exact hc
  intro w4 hg4 hb4
  refine hK _ _ ?_
  clear hK K
  refine wpAny_done (by kernel_rfl) ?_ _
  have hg5 := hg4.out
  rw [us_splice _ _ (by omega)] at hg5
  have k4 : Blk w4 (w.heap.size + 1 + 1) 120 (us (sch f 0) 64) := hg5
  have kR4 := kR.below hb4 (by omega)
  have d4 : Below w.heap.size w w4 := d0.trans (hb4.mono (by omega))
  clear hg4 hg5 hb4 kS kR kW d0
  go_wp2
  go_loopw [11] (fun i wr => ∃ k : Nat, k ≤ 48 ∧ i = .int .i64 k ∧ Blk wr (w.heap.size + 1 + 1) 120 (us (sch f k) 64) ∧ Blk wr (w.heap.size + 1) 120 (us (fun _ => 0) 64) ∧ Below w.heap.size w wr) (fun i _ => 48 - (intOf i).toNat)
  case atStart => exact ⟨0, by omega, rfl, k4, kR4, d4⟩
  case round =>
    obtain ⟨k, hk, rfl, kW, kR, hB⟩ := hrel
    by_cases hlt : k < 48
    · obtain ⟨T, hT⟩ : ∃ T, T = k + 16 := ⟨_, rfl⟩
      have c2 := (kW.cell (T - 2)).trans (us_at _ (by omega))
      have c15 := (kW.cell (T - 15)).trans (us_at _ (by omega))
      have c7 := (kW.cell (T - 7)).trans (us_at _ (by omega))
      have c16 := (kW.cell (T - 16)).trans (us_at _ (by omega))
      have hf := kW.frozen T
      have cT := (kW.cell T).trans (us_at _ (by omega))
      have hk0 : (k : Int) < 48 := by omega
      have hT2 : (T : Int) < 64 := by omega
      have hT3 : 16 ≤ (T : Int) := by omega
      have HT := Lib.hid hT
      clear hT
      go_wp2
      rw [show (k : Int) + 16 = (T : Int) by have := HT.out; omega]
      have l2 : IntKind.i64.wrap ((T : Int) - 2) = (T : Int) - 2 := IntWalk.i64_in _ (by omega)
      have l15 : IntKind.i64.wrap ((T : Int) - 15) = (T : Int) - 15 := IntWalk.i64_in _ (by omega)
      have b2 : 0 ≤ (T : Int) - 2 := by omega
      have b2' : (T : Int) - 2 < 64 := by omega
      have b15 : 0 ≤ (T : Int) - 15 := by omega
      have b15' : (T : Int) - 15 < 64 := by omega
      have n2 : ((T : Int) - 2).toNat = T - 2 := by omega
      have n15 : ((T : Int) - 15).toNat = T - 15 := by omega
      go_quiet (fail)
      clear l2 l15 b2 b2' b15 b15' n2 n15 c2 c15
      replace kW : Blk (wr.drewN nq) (w.heap.size + 1 + 1) 120 (us (sch f k) 64) := kW
      replace kR : Blk (wr.drewN nq) (w.heap.size + 1) 120 (us (fun _ => 0) 64) := kR
      replace hB : Below w.heap.size w (wr.drewN nq) := hB.trans ⟨rfl, rfl, rfl, Nat.le_refl _, fun _ _ => rfl⟩
      replace hf : (wr.drewN nq).frozen? ⟨w.heap.size + 1 + 1, T, none⟩ = false := hf
      replace c7 : (wr.drewN nq).cell? ⟨w.heap.size + 1 + 1, T - 7, none⟩ = some (.int .u32 (sch f k (T - 7))) := c7
      replace c16 : (wr.drewN nq).cell? ⟨w.heap.size + 1 + 1, T - 16, none⟩ = some (.int .u32 (sch f k (T - 16))) := c16
      replace cT : (wr.drewN nq).cell? ⟨w.heap.size + 1 + 1, T, none⟩ = some (.int .u32 (sch f k T)) := cT
      generalize wr.drewN nq = wq at *
      have HN := Lib.hid (show nwS (sch f k) T = (bits .xor .u32 (bits .xor .u32 (rot (sch f k (T - 2)) 17) (rot (sch f k (T - 2)) 19)) (sch f k (T - 2) / 1024) + sch f k (T - 7) + bits .xor .u32 (bits .xor .u32 (rot (sch f k (T - 15)) 7) (rot (sch f k (T - 15)) 18)) (sch f k (T - 15) / 8) + sch f k (T - 16)) % 4294967296 from rfl)
      generalize sch f k T = xT at *
      generalize sch f k (T - 2) = x2 at *
      generalize sch f k (T - 15) = x15 at *
      generalize sch f k (T - 7) = x7 at *
      generalize sch f k (T - 16) = x16 at *
      go_wp2
      have l7 : IntKind.i64.wrap ((T : Int) - 7) = (T : Int) - 7 := IntWalk.i64_in _ (by omega)
      have l16 : IntKind.i64.wrap ((T : Int) - 16) = (T : Int) - 16 := IntWalk.i64_in _ (by omega)
      have b7 : 0 ≤ (T : Int) - 7 := by omega
      have b7' : (T : Int) - 7 < 64 := by omega
      have b16 : 0 ≤ (T : Int) - 16 := by omega
      have b16' : (T : Int) - 16 < 64 := by omega
      have b7n : 7 ≤ (T : Int) := by omega
      have n7 : ((T : Int) - 7).toNat = T - 7 := by omega
      have n16 : ((T : Int) - 16).toNat = T - 16 := by omega
      go_still_tail 29, (by kernel_rfl)
      still_call (rotr_still _ _ 17 t17 rfl _)
      repeat still_step
      still_call (rotr_still _ _ 19 t19 rfl _)
      repeat still_step
      still_call (rotr_still _ _ 7 t7 rfl _)
      repeat still_step
      still_call (rotr_still _ _ 18 t18 rfl _)
      repeat still_step
      refine wpStill_nil ?_
      change wpList _ _ _ _ _ wq.drew
      clear l7 l16
      go_wp2
      rw [← HN.out]
      have hT := HT.out
      subst hT
      have kW' := kW.set (k + 16) (.int .u32 (nwS (sch f k) (k + 16)))
      rw [us_set] at kW'
      exact ⟨⟨k + 1, by omega, by simp, kW', kR.other _ _ (by omega), (hB.setCell (p := ⟨w.heap.size + 1 + 1, _, none⟩) (by simp; omega) _).drew⟩, by simp [intOf]; omega⟩
    · obtain rfl : k = 48 := by omega
      go_wp2_with (first | (with_reducible refine arr_load arr64 rfl (.tmp 3) rfl (w.heap.size + 1 + 1) rfl 120 (sch f 48) kW ?_) | (with_reducible refine arr_store arr64 rfl (.tmp 2) (.tmp 54) rfl (w.heap.size + 1) rfl (sch f 48) rfl 120 (fun _ => 0) kR ?_; intro w5 kR5 hg5))
      exact bodyPost_ret (v := uv (sch f 48) 64) (arr_result arr64 rfl _ _ (w.heap.size + 1) 120 (sch f 48) rfl kR5) rfl ⟨rfl, hB.grown hg5 hB.size (fun k e => by have : w.heap.size + 1 = k := Option.some.inj e; omega)⟩
end Go.Proofs.Ytbjpifcgnombaaa
