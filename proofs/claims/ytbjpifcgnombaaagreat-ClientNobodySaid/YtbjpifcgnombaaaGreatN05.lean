/-
  slices.AppendSeq of digits onto a row of ints of the call's own; slices.Collect of digits; slices.AppendSeq of strings onto a row of the call's own; Arrays of words: as cells, as values; read and stored whole; Arrays of words, read and stored whole inside a fence; slices.Chunk over octets: pieces of a size, the last one maybe shorter; slices.Values over octets: each; blob.Int: the number of the fi
-/
import Derived.Deep.RegionHeld3
import Derived.Outline
import Derived.Deep.Cut
import Derived.Laws.BitsLemmas
import Derived.Laws.CopyOwn
import Derived.Laws.Rows
import Derived.Laws.Tables
import Derived.WalkSpells
import Derived.StillTail
import Derived.StillTactics
import Derived.WalkKit
import Derived.Lib.Hide
import Derived.Test.YtbjpifcgnombaaaGreatProg
import Derived.Test.YtbjpifcgnombaaaGreatN04
namespace Go.Proofs.YtbjpifcgnombaaaGreat
open Go.RowKit Go.Shelf
attribute [local go_sem] Oper.semAt_some
def RowW (n₀ : Nat) (e : TypeId) (k : Nat) (xs : List Value) (w : World) (en : Ending) (W' : World) : Prop :=
  ∃ v', en = .returned v' ∧ W'.ownsRow n₀ e 1 v' k xs ∧ Below n₀ w W'
def RowSW (n₀ : Nat) (e : TypeId) (k : Nat) (xs : List Value) (w : World) (en : Ending) (W' : World) : Prop :=
  ∃ v', en = .returned v' ∧ W'.ownsRow n₀ e 1 v' k xs ∧ Below n₀ w W' ∧ Spares e w W'
end Go.Proofs.YtbjpifcgnombaaaGreat
namespace Go.Proofs.YtbjpifcgnombaaaGreat
open Go.RowKit Go.Shelf
attribute [local go_sem] Oper.semAt_some
theorem Tryz.infoStr : (Tryz.prog.info? 9).map (fun i => (i.zero, i.size, i.bytes)) = some (some (.string ⟨#[]⟩), 1, 16) := by kernel_rfl
def ButRows (e : TypeId) (B l : Nat) (W W' : World) : Prop := W.heap.size ≤ W'.heap.size ∧ ∀ (j : Nat) (o : Obj), W.heap[j]? = some o → j ≠ B → j ≠ l → (∀ cur fr, o ≠ .cells cur e fr) → W'.heap[j]? = some o
theorem ButRows.refl (e : TypeId) (B l : Nat) (W : World) : ButRows e B l W W := ⟨Nat.le_refl _, fun _ _ h _ _ _ => h⟩
theorem ButRows.t {e : TypeId} {B l : Nat} {X Y Z : World} (h : ButRows e B l X Y) (k : ButRows e B l Y Z) : ButRows e B l X Z :=
  ⟨Nat.le_trans h.1 k.1, fun j o hj h1 h2 h3 => k.2 j o (h.2 j o hj h1 h2 h3) h1 h2 h3⟩
theorem ButRows.b (e : TypeId) (B l : Nat) (W : World) (o' : Obj) : ButRows e B l W (W.putObj l o') := ⟨by simp, fun j o hj _ h2 _ => (World.putObj_heap_other h2).trans hj⟩
theorem own_butRows {W W' : World} {base : Nat} {e e' : TypeId} {size k : Nat} {v : Value} {xs : List Value} {B l : Nat} (h : W.ownsRow base e size v k xs) (hs : ButRows e' B l W W') (hne : e ≠ e') (hB : B < base) (hl : l < base) : W'.ownsRow base e size v k xs := by
  obtain ⟨h1, h2⟩ := h
  refine ⟨h1, ?_⟩
  rcases h2 with h2 | ⟨g, cap, cur, rfl, hb, hh, r⟩
  · exact .inl h2
  · exact .inr ⟨g, cap, cur, rfl, hb, hs.2 g _ hh (by omega) (by omega) (fun cur' fr' e => by cases e; exact hne rfl), r⟩
def SeqTI (n₀ B k : Nat) (xs ys : List Value) (w : World) (j : Nat) (W : World) : Prop :=
  ((∃ v, Boxed W B 61 v ∧ W.ownsRow n₀ 9 1 v (k + j) (xs ++ ys.take j) ∧ True) ∧ Below n₀ w W) ∧ Spares 9 w W
theorem seqTI_own {n₀ Bb k : Nat} {xs ys : List Value} {w : World} {B : Nat} (h : n₀ ≤ w.heap.size) (hB : w.heap.size ≤ B) : OwnFrom B (SeqTI n₀ Bb k xs ys w) :=
  OwnFrom.and (OwnFrom.and (Own.from (holdsRow_own n₀ Bb 61 9 1 (fun j : Nat => k + j) (fun j => xs ++ ys.take j) (fun _ _ => True)) _)
    (ownFrom_below h (Nat.le_trans h hB))) (ownFrom_spares hB)
set_option maxRecDepth 100000 in
set_option maxHeartbeats 4000000 in
theorem appendSeqT_in (m : Nat) (hm : 3 ≤ m) (n₀ k : Nat) (hk : k ≤ 1000000) (zs : List ByteArray) (hz0 : zs.length ≤ 1000000) (sv : Value) (xs : List Value) (w : World) (hn₀ : n₀ ≤ w.heap.size) (hrow : w.ownsRow n₀ 9 1 sv k xs)
    (gf : Nat) (lb : Array Value) (eg : ∀ args w, (callFunc gf args).run Tryz.prog w = .ok (.enter gf args) w)
    (hseq : ∀ W, Below w.heap.size w W → w.heap.size < W.heap.size → SeqRel Fence.wide (m - 1) Tryz.prog gf lb zs.length (fun j r _ => ∃ y, zs[j]? = some y ∧ r = #[tv y]) (fun l A B => Below n₀ A B ∧ ButRows 9 w.heap.size l A B) W) :
    CallsIn Fence.wide m Tryz.prog 323 #[sv, .func (.func gf) #[] lb] w (RowSW n₀ 9 (k + zs.length) (xs ++ zs.map tv) w) := by
  have h1 : 1 ≤ m := by omega
  obtain ⟨a, c, rfl⟩ := ownsRow_slice hrow
  refine callsIn_of_wp_marks Tryz.func323 rfl trivial ?_ rfl
  simp only [Tryz.ntmps323, List.size_toArray, List.length_cons, List.length_nil, Nat.reduceAdd, Nat.reduceSub, Array.replicate_succ, Array.replicate_zero, List.push_toArray, List.append_toArray, List.nil_append, List.cons_append]
  obtain ⟨i0, hi, hz0', hz1, hz2⟩ := info_parts Tryz.infoStr
  gi_wp2
  generalize hW5 : World.alloc _ _ = W5
  have k0 : Boxed W5 w.heap.size 61 (.slice a k c) := by rw [← hW5]; exact Boxed.new _ _ _
  have hB0 : Below w.heap.size w W5 := by rw [← hW5]; exact chain0 _ _
  have hrow5 : W5.ownsRow n₀ 9 1 (.slice a k c) k xs := by rw [← hW5]; exact hrow.alloc _
  have hz : W5.heap.size = w.heap.size + 1 := by rw [← hW5]; simp
  clear hW5
  refine wpIn_rangeFunc_relA (encs := fun y : ByteArray => #[tv y]) rfl h1 (gf := gf) (lb := lb) rfl trivial eg
    (hseq W5 hB0 (by omega)) (fun h k => ⟨h.1.trans k.1, h.2.t k.2⟩) (fun X o o' h2 h3 h4 => ⟨belowK_b (w := w) hn₀ _ _ o o' (by omega) h2 h3 h4, ButRows.b _ _ _ X o'⟩) (fun X => ⟨Below.refl _ X, ButRows.refl _ _ _ X⟩) (Below.refl _ _) (fun _ => rfl)
    (SeqTI n₀ w.heap.size k xs (zs.map tv) w) (seqTI_own hn₀ (by omega))
    ⟨⟨⟨_, k0, by simpa using hrow5, trivial⟩, hB0.mono hn₀⟩, Spares.of_below hB0⟩ (fun _ _ _ _ _ _ h _ _ => h) ?_ ?_ ?_ ?_
  rotate_left
  · intro l j y W K _ hK
    gi_wp2
    exact hK
  · rintro l j y W hlt ⟨⟨⟨v, kv, hown, _⟩, hB⟩, hsp⟩ hy
    have ht : (zs.map tv).take (j + 1) = (zs.map tv).take j ++ [tv y] := by rw [List.take_add_one, List.getElem?_map, hy]; rfl
    have HT := Lib.hid ht
    clear ht hy
    have ko := kv.cell
    have kf := kv.frozen
    have hNW : n₀ ≤ W.heap.size := Nat.le_trans hn₀ hB.size
    have HZ := Lib.hid hz
    clear hz
    generalize (zs.map tv).take j = ts at *
    gi_wp2_with (gi_at_builtin; refine wpListIn_append_own _ rfl _ _ 61 rfl n₀ 9 i0 (.string ⟨#[]⟩) 1 16 Tryz.underlying61 hi hz0' hz1 hz2 rfl (by decide) v (k + j) (xs ++ ts) rfl (hown.alloc _) ⟨W.heap.size, 0, none⟩ 1 1 [tv y] rfl rfl (cell_one_new _ _ _) (by simp [Value.oneCell']) (by unfold maxLen; omega) (by omega) (by simp; omega) ?_; intro v' w1 hown' hgrow _; obtain ⟨g, cap, rfl⟩ := ownsRow_succ hown'; obtain ⟨hv1, kv', hrow', hk3, hbw⟩ := kv.appended (by decide) hown hNW hn₀ hown' hgrow; have ko1 := hv1.cell; have kf1 := hv1.frozen)
    have hspW : Spares 9 W w1 := ((Spares.of_below (Below.refl _ W)).grown (World.grownBy_alloc W (.cells #[tv y] 9) none) (fun r e => by cases e)).grown hgrow (fun r e => .inr (ownsRow_block (hown.alloc _) r e))
    have hbut : ButRows 9 w.heap.size (W5.heap.size + 1) W (w1.setCell ⟨w.heap.size, 0, none⟩ (.slice (some ⟨g, 0, none⟩) (k + j + 1) cap)) :=
      ⟨Nat.le_trans hspW.1 (grownBy_setCell' w1 w.heap.size (.slice (some ⟨g, 0, none⟩) (k + j + 1) cap)).size, fun i o hi' h1' _ h3' => (Below.heap_setCell w1 ⟨w.heap.size, 0, none⟩ _ i h1').trans (hspW.2 i o hi' h3')⟩
    have hsp1 := (hsp.t hspW).grown (grownBy_setCell' w1 w.heap.size (.slice (some ⟨g, 0, none⟩) (k + j + 1) cap)) (fun r e => by cases e; exact .inl (Nat.le_refl _))
    exact ⟨hk3.from _, ⟨hbw, hbut⟩, ⟨⟨_, kv', by rw [HT.out]; simpa [Nat.add_assoc] using hrow', trivial⟩, hB.trans hbw⟩, hsp1⟩
  · rintro D W hD ⟨⟨⟨v, kv, hown, _⟩, hB⟩, hsp⟩ hK
    have ko := kv.cell
    have HZ := Lib.hid hz
    clear hz
    gi_wp2
    have hD' : w.heap.size ≤ D := by have := HZ.out; omega
    have hB' := hB.trans (belowK_b (w := w) hn₀ _ D _ (.deferred none) hD' hK rfl rfl)
    have hown3 := ownsRow_putObj hown (.deferred none) hK rfl
    rw [List.take_of_length_le (by simp)] at hown3
    refine ⟨by simp, .inl ⟨_, _, rfl, run_takeDeferred hK, ?_⟩⟩
    refine ⟨v, ?_, ?_⟩
    · simp [results, Tryz.f323, go_sem]
    · exact ⟨v, rfl, hown3, hB', hsp.grown (grownBy_putObj' _ D (.deferred none)) (fun r e => by cases e; exact .inl hD')⟩
theorem collectT_in (m : Nat) (hm : 4 ≤ m) (zs : List ByteArray) (hz0 : zs.length ≤ 1000000) (w : World)
    (gf : Nat) (lb : Array Value) (eg : ∀ args w, (callFunc gf args).run Tryz.prog w = .ok (.enter gf args) w)
    (hseq : ∀ W, Below w.heap.size w W → w.heap.size < W.heap.size → SeqRel Fence.wide (m - 1 - 1) Tryz.prog gf lb zs.length (fun j r _ => ∃ y, zs[j]? = some y ∧ r = #[tv y]) (fun l A B => Below w.heap.size A B ∧ ButRows 9 w.heap.size l A B) W) :
    CallsIn Fence.wide m Tryz.prog 289 #[.func (.func gf) #[] lb] w (RowW w.heap.size 9 zs.length (zs.map tv) w) := by
  have h1 : 1 ≤ m := by omega
  refine callsIn_of_wp Tryz.func289 rfl trivial ?_ rfl
  simp only [Tryz.ntmps289, List.size_toArray, List.length_cons, List.length_nil, Nat.reduceAdd, Nat.reduceSub, Array.replicate_succ, Array.replicate_zero, List.push_toArray, List.append_toArray, List.nil_append, List.cons_append]
  gi_wp2_with (refine ⟨trivial, ?_⟩; gi_at_call 323; refine (appendSeqT_in (m - 1) (by omega) w.heap.size 0 (by omega) zs hz0 _ [] w (Nat.le_refl _) (World.ownsRow_nil _ _ _ _) gf lb eg hseq).mono ?_; rintro e w' ⟨v, rfl, hown, hb, _⟩; obtain ⟨a, c, rfl⟩ := ownsRow_slice hown)
  go_ret
  exact ⟨_, rfl, by simpa using hown, hb⟩
end Go.Proofs.YtbjpifcgnombaaaGreat
namespace Go.Proofs.YtbjpifcgnombaaaGreat
open Go.RowKit
def us (f : Nat → Int) (n : Nat) : List Value := upto (fun k => Value.int .u32 (f k)) n
def updI (f : Nat → Int) (i : Nat) (v : Int) : Nat → Int := fun j => if j = i then v else f j
theorem us_length (f : Nat → Int) (n : Nat) : (us f n).length = n := upto_length _ _
theorem us_at (f : Nat → Int) {n k : Nat} (h : k < n) : (us f n)[k]? = some (.int .u32 (f k)) := by
  unfold us upto; rw [List.getElem?_map, List.getElem?_range h]; rfl
theorem us_set (f : Nat → Int) {n k : Nat} (v : Int) : (us f n).set k (.int .u32 v) = us (updI f k v) n := by
  apply List.ext_getElem?
  intro j
  rw [List.getElem?_set]
  by_cases hj : k = j
  · subst hj
    by_cases hk : k < n
    · rw [if_pos rfl, if_pos (by rw [us_length]; exact hk), us_at _ hk]; simp [updI]
    · rw [if_pos rfl, if_neg (by rw [us_length]; omega), eq_comm, List.getElem?_eq_none]; rw [us_length]; omega
  · rw [if_neg hj]
    by_cases hk : j < n
    · rw [us_at _ hk, us_at _ hk]; simp [updI, Ne.symm hj]
    · rw [List.getElem?_eq_none (by rw [us_length]; omega), List.getElem?_eq_none (by rw [us_length]; omega)]
theorem us_congr {f g : Nat → Int} {n : Nat} (h : ∀ k, k < n → f k = g k) : us f n = us g n := by
  apply List.ext_getElem?
  intro j
  by_cases hk : j < n
  · rw [us_at _ hk, us_at _ hk, h j hk]
  · rw [List.getElem?_eq_none (by rw [us_length]; omega), List.getElem?_eq_none (by rw [us_length]; omega)]
abbrev uv (f : Nat → Int) (n : Nat) : Value := .agg (us f n).toArray
theorem us_one (f : Nat → Int) (n : Nat) : ∀ v ∈ us f n, v.oneCell' = true := by
  intro v hv
  unfold us upto at hv
  obtain ⟨k, _, rfl⟩ := List.mem_map.1 hv
  rfl
theorem us_splice (f g : Nat → Int) {m n : Nat} (h : m ≤ n) : splice (us g n) 0 (us f m) = us (fun t => if t < m then f t else g t) n := by
  apply List.ext_getElem?
  intro j
  unfold splice
  simp only [List.take_zero, List.nil_append, us_length, Nat.zero_add]
  by_cases hm : j < m
  · rw [List.getElem?_append_left (by rw [us_length]; exact hm), us_at _ hm, us_at _ (by omega), if_pos hm]
  · rw [List.getElem?_append_right (by rw [us_length]; omega), us_length, List.getElem?_drop, show m + (j - m) = j by omega]
    by_cases hn : j < n
    · rw [us_at _ hn, us_at _ hn, if_neg hm]
    · rw [List.getElem?_eq_none (by rw [us_length]; omega), List.getElem?_eq_none (by rw [us_length]; omega)]
theorem us0_64 : us (fun _ => 0) 64 = [.int .u32 0, .int .u32 0, .int .u32 0, .int .u32 0, .int .u32 0, .int .u32 0, .int .u32 0, .int .u32 0, .int .u32 0, .int .u32 0, .int .u32 0, .int .u32 0, .int .u32 0, .int .u32 0, .int .u32 0, .int .u32 0, .int .u32 0, .int .u32 0, .int .u32 0, .int .u32 0, .int .u32 0, .int .u32 0, .int .u32 0, .int .u32 0, .int .u32 0, .int .u32 0, .int .u32 0, .int .u32 0, .int .u32 0, .int .u32 0, .int .u32 0, .int .u32 0, .int .u32 0, .int .u32 0, .int .u32 0, .int .u32 0, .int .u32 0, .int .u32 0, .int .u32 0, .int .u32 0, .int .u32 0, .int .u32 0, .int .u32 0, .int .u32 0, .int .u32 0, .int .u32 0, .int .u32 0, .int .u32 0, .int .u32 0, .int .u32 0, .int .u32 0, .int .u32 0, .int .u32 0, .int .u32 0, .int .u32 0, .int .u32 0, .int .u32 0, .int .u32 0, .int .u32 0, .int .u32 0, .int .u32 0, .int .u32 0, .int .u32 0, .int .u32 0] := rfl
structure ArrT (ty n : Nat) : Prop where
  hu : ∃ e, Tryz.prog.underlying ty = some (.array n e)
  hi : (Tryz.prog.info? ty).map (·.size) = some n
theorem arr8 : ArrT 242 8 := ⟨⟨_, Tryz.underlying242⟩, by kernel_rfl⟩
theorem arr16 : ArrT 247 16 := ⟨⟨_, Tryz.underlying247⟩, by kernel_rfl⟩
theorem arr64 : ArrT 249 64 := ⟨⟨_, Tryz.underlying249⟩, by kernel_rfl⟩
theorem arr_load {ty n : Nat} (hT : ArrT ty n) {ops : Array Oper} {rest : List Oper} {o : Oper} {a : Act} {w : World} {Q : Exit → Act → World → Prop} (hgd : o.guard = none) (x : Operand) (ho : o.op = .load ty x)
    (g : Nat) (hx : a.eval x = .pointer (some ⟨g, 0, none⟩)) (t : TypeId) (f : Nat → Int) (hg : Blk w g t (us f n))
    (h : wpList Tryz.prog ops Q rest (a.put o.dst (uv f n)) w) : wpList Tryz.prog ops Q (o :: rest) a w := by
  obtain ⟨⟨e, hu⟩, hi⟩ := hT
  exact wpList_load_row hgd ty x ho g hx t _ (0, 0) _ hg hu rfl (by rw [hi]; simp [us_length]) h
theorem us_all (f : Nat → Int) (n : Nat) : (us f n).toArray.all (·.oneCell') = true := by
  rw [Array.all_eq_true_iff_forall_mem]
  intro v hv
  exact us_one f n v (by simpa using hv)
theorem setRow_blk {w : World} {g : Nat} {t : TypeId} {old : List Value} (hg : Blk w g t old) (vs : List Value) : Blk (w.setRow g vs.toArray) g t vs := setRow_heap w g _ _ t _ hg
theorem setRow_grown {w : World} {g : Nat} (vs : Array Value) : w.grownBy (w.setRow g vs) (some g) :=
  ⟨rfl, rfl, rfl, by simp [World.setRow], fun k _ hne => setRow_other w g k vs (fun e => hne (by rw [e]))⟩
theorem arr_store {ty n : Nat} (hT : ArrT ty n) {ops : Array Oper} {rest : List Oper} {o : Oper} {a : Act} {w : World} {Q : Exit → Act → World → Prop} (hgd : o.guard = none) (x y : Operand) (ho : o.op = .store ty x y)
    (g : Nat) (hx : a.eval x = .pointer (some ⟨g, 0, none⟩)) (f : Nat → Int) (hy : a.eval y = uv f n) (t : TypeId) (old : Nat → Int) (hg : Blk w g t (us old n))
    (h : ∀ w', Blk w' g t (us f n) → w.grownBy w' (some g) → wpList Tryz.prog ops Q rest (a.put o.dst undef) w') : wpList Tryz.prog ops Q (o :: rest) a w := by
  obtain ⟨⟨e, hu⟩, hi⟩ := hT
  exact wpList_store_row hgd ty x y ho g _ hx hy t _ hg (by rw [hi]; simp [us_length]) (by simp [us_length]) (us_all f n) (h _ (setRow_blk hg _) (setRow_grown _))
theorem arr_result {ty n : Nat} (hT : ArrT ty n) {fn : Func} {p : Tmp} (h : fn.results = #[.cell p ty]) (tmps : Array Value) (w : World) (g : Nat) (t : TypeId) (f : Nat → Int)
    (hp : tmps.getD p undef = .pointer (some ⟨g, 0, none⟩)) (hg : Blk w g t (us f n)) : (results fn tmps).run Tryz.prog w = .ok (uv f n) w := by
  obtain ⟨⟨e, hu⟩, hi⟩ := hT
  exact results_cell_row h tmps w g t _ (0, 0) _ hp hg hu rfl (by rw [hi]; simp [us_length])
theorem below_drewN {B : Nat} (W : World) (n : Nat) : Below B W (W.drewN n) := ⟨rfl, rfl, rfl, Nat.le_refl _, fun _ _ => rfl⟩
end Go.Proofs.YtbjpifcgnombaaaGreat
namespace Go.Proofs.YtbjpifcgnombaaaGreat
open Go.RowKit Go.Shelf
theorem run_load_us {ty n : Nat} (hT : ArrT ty n) (w : World) (g : Nat) (t : TypeId) (f : Nat → Int) (hg : Blk w g t (us f n)) : (loadVar ty ⟨g, 0, none⟩).run Tryz.prog w = .ok (uv f n) w := by
  obtain ⟨⟨e, hu⟩, hi⟩ := hT
  exact run_loadVar_row w g t ty _ (0, 0) _ hg hu rfl (by rw [hi]; simp [us_length])
theorem still_load {ty n : Nat} (hT : ArrT ty n) {ops : Array Oper} {rest : List Oper} {o : Oper} {a : Act} {w : World} {Q : Act → Prop} (hgd : o.guard = none) (x : Operand) (ho : o.op = .load ty x)
    (g : Nat) (hx : a.eval x = .pointer (some ⟨g, 0, none⟩)) (t : TypeId) (f : Nat → Int) (hg : Blk w g t (us f n)) (h : wpStill Tryz.prog ops w Q rest (a.put o.dst (uv f n))) : wpStill Tryz.prog ops w Q (o :: rest) a := by
  refine wpStill_step fun K hK => ?_
  rw [if_pos (by simp [Region.wanted, hgd])]
  unfold Oper.still execOp
  simp only [ho, hx, Instr.loadAt, Instr.sureAddr, Sem.run_bind, Sem.run_pure, Result.andThen_ok, run_load_us hT w g t f hg, Oper.stillUpon_value]
  exact hK _ h
theorem step_load_us {ty n : Nat} (hT : ArrT ty n) {ops : Array Oper} {o : Oper} {a : Act} {w : World} {K : Act → World → Prop} {Q : Exit → Act → World → Prop} {E : Prop} (hgd : o.guard = none) (x : Operand) (ho : o.op = .load ty x)
    (g : Nat) (hx : a.eval x = .pointer (some ⟨g, 0, none⟩)) (t : TypeId) (f : Nat → Int) (hg : Blk w g t (us f n)) (h : K (a.put o.dst (uv f n)) w) :
    if Region.wanted o (yielded ops a.tmps) = true then Oper.wp Tryz.prog o a w K Q else E := by
  rw [if_pos (by simp [Region.wanted, hgd])]
  obtain ⟨⟨e, hu⟩, hi⟩ := hT
  exact wp_load_row ty x ho g hx t _ (0, 0) _ hg hu rfl (by rw [hi]; simp [us_length]) h
theorem step_store_us {ty n : Nat} (hT : ArrT ty n) {ops : Array Oper} {o : Oper} {a : Act} {w : World} {K : Act → World → Prop} {Q : Exit → Act → World → Prop} {E : Prop} (hgd : o.guard = none) (x y : Operand) (ho : o.op = .store ty x y)
    (g : Nat) (hx : a.eval x = .pointer (some ⟨g, 0, none⟩)) (f : Nat → Int) (hy : a.eval y = uv f n) (t : TypeId) (old : Nat → Int) (hg : Blk w g t (us old n))
    (h : ∀ w', Blk w' g t (us f n) → w.grownBy w' (some g) → K (a.put o.dst undef) w') :
    if Region.wanted o (yielded ops a.tmps) = true then Oper.wp Tryz.prog o a w K Q else E := by
  rw [if_pos (by simp [Region.wanted, hgd])]
  obtain ⟨⟨e, hu⟩, hi⟩ := hT
  exact wp_store_row ty x y ho g _ hx hy t _ hg (by rw [hi]; simp [us_length]) (by simp [us_length]) (us_all f n) (h _ (setRow_blk hg _) (setRow_grown _))
theorem arrIn_load {F : Fence} {m : Nat} {ty n : Nat} (hT : ArrT ty n) {ops : Array Oper} {rest : List Oper} {o : Oper} {a : Act} {w : World} {Q : Exit → Act → World → Prop} (hgd : o.guard = none) (x : Operand) (ho : o.op = .load ty x)
    (g : Nat) (hx : a.eval x = .pointer (some ⟨g, 0, none⟩)) (t : TypeId) (f : Nat → Int) (hg : Blk w g t (us f n))
    (h : wpListIn F m Tryz.prog ops Q rest (a.put o.dst (uv f n)) w) : wpListIn F m Tryz.prog ops Q (o :: rest) a w := by
  refine wpListIn_plain hgd fun K hK' => ?_
  unfold Oper.wpIn
  refine ⟨?_, ?_⟩
  · simp [Oper.about, ho]
  · rw [Oper.semAt_plain F _ _ (by rw [ho]; intro c hc'; cases hc')]
    unfold execOp
    simp only [ho, hx, Instr.loadAt, Instr.sureAddr, Sem.run_bind, Sem.run_pure, Result.andThen_ok, run_load_us hT w g t f hg]
    exact hK' _ _ h
theorem arrIn_store {F : Fence} {m : Nat} {ty n : Nat} (hT : ArrT ty n) {ops : Array Oper} {rest : List Oper} {o : Oper} {a : Act} {w : World} {Q : Exit → Act → World → Prop} (hgd : o.guard = none) (x y : Operand) (ho : o.op = .store ty x y)
    (g : Nat) (hx : a.eval x = .pointer (some ⟨g, 0, none⟩)) (f : Nat → Int) (hy : a.eval y = uv f n) (t : TypeId) (old : Nat → Int) (hg : Blk w g t (us old n))
    (h : ∀ w', Blk w' g t (us f n) → w.grownBy w' (some g) → wpListIn F m Tryz.prog ops Q rest (a.put o.dst undef) w') : wpListIn F m Tryz.prog ops Q (o :: rest) a w := by
  obtain ⟨⟨e, hu⟩, hi⟩ := hT
  refine wpListIn_plain hgd fun K hK' => ?_
  unfold Oper.wpIn
  refine ⟨?_, ?_⟩
  · simp [Oper.about, ho]
  · rw [Oper.semAt_plain F _ _ (by rw [ho]; intro c hc'; cases hc')]
    unfold execOp
    simp only [ho, hx, hy, Instr.storeAt, Instr.sureAddr, Sem.run_bind, Sem.run_pure, Result.andThen_ok, run_storeVar_row (P := Tryz.prog) w g t ty (us old n).toArray (us f n).toArray hg (by rw [hi]; simp [us_length]) (by simp [us_length]) (us_all f n)]
    exact hK' _ _ (h _ (setRow_blk hg _) (setRow_grown _))
end Go.Proofs.YtbjpifcgnombaaaGreat
namespace Go.Proofs.YtbjpifcgnombaaaGreat
open Go.RowKit Go.Shelf
attribute [local go_sem] Oper.semAt_some
abbrev CP (L : Nat) := { p : Nat × Nat // p.1 + p.2 ≤ L }
abbrev cpEnc {L : Nat} (b off : Nat) (p : CP L) : Array Value := #[.slice (some ⟨b, off + p.1.1, none⟩) p.1.2 p.1.2]
def chn (L s k : Nat) : CP L := ⟨(min (k * s) L, min s (L - min (k * s) L)), by dsimp only; omega⟩
def chc (L s : Nat) : Nat := (L + s - 1) / s
def chs (L s : Nat) : List (CP L) := (List.range (chc L s)).map (chn L s)
theorem chs_length (L s : Nat) : (chs L s).length = chc L s := by simp [chs]
theorem chs_at {L s k : Nat} (h : k < chc L s) : (chs L s)[k]? = some (chn L s k) := by unfold chs; rw [List.getElem?_map, List.getElem?_range h]; rfl
theorem chc_lt {L s k : Nat} (hs : 1 ≤ s) : k < chc L s ↔ k * s < L := by
  unfold chc
  rw [Nat.lt_iff_add_one_le, Nat.le_div_iff_mul_le (by omega), Nat.add_mul]
  omega
theorem chn_of {L s k : Nat} (h : k * s < L) : chn L s k = ⟨(k * s, min s (L - k * s)), by dsimp only; omega⟩ := by
  unfold chn
  apply Subtype.ext
  dsimp only
  rw [Nat.min_eq_left (Nat.le_of_lt h)]
set_option maxRecDepth 100000 in
set_option maxHeartbeats 4000000 in
theorem chunk1_in (F : Fence) (m : Nat) (h : F.fn 300) (hro : F.round = none) (hm : 1 ≤ m) (l Bs Bn b off cap L s : Nat) (hL : L ≤ 140737488354000) (hcap : L ≤ cap) (hcap' : cap ≤ 9223372036854775807) (hs : 1 ≤ s) (hs' : s ≤ 9223372036854775807) (J Jx : Nat → World → Prop) (W : World) (hJ : ∀ k W, J k W → J k W.drew)
    (hY : ∀ k W1, J k W1 → k < chc L s → YieldAt F (m - 1) Tryz.prog l (cpEnc b off (chn L s k)) W1 fun e W' =>
      (e = .returned (.bool true) ∧ J (k + 1) W' ∧ KeepB2 Bs Bn W1 W') ∨ (e = .returned (.bool false) ∧ Jx (k + 1) W'))
    (k1 : Boxed W Bs 80 (.slice (some ⟨b, off, none⟩) L cap)) (k2 : Boxed W Bn 3 (.int .i64 (s : Nat))) (h0 : J 0 W) :
    CallsIn F m Tryz.prog 300 #[.func (.yield l) #[] #[], .pointer (some ⟨Bs, 0, none⟩), .pointer (some ⟨Bn, 0, none⟩)] W fun e W' => (∃ v, e = .returned v) ∧
      (J (chc L s) W' ∨ (∃ k, k ≤ chc L s ∧ Jx k W')) := by
  refine callsIn_of_wp Tryz.func300 rfl h ?_ hro
  simp only [Tryz.ntmps300, List.size_toArray, List.length_cons, List.length_nil, Nat.reduceAdd, Nat.reduceSub, Array.replicate_succ, Array.replicate_zero, List.push_toArray, List.append_toArray, List.nil_append, List.cons_append]
  have hcL : (L : Int) ≤ (cap : Int) := by omega
  have hcI : (cap : Int) ≤ 9223372036854775807 := by omega
  gi_wp2
  gi_loopw [4] (fun i wr => ∃ k : Nat, k ≤ chc L s ∧ i = .int .i64 ((k * s : Nat) : Int) ∧ J k wr ∧ Boxed wr Bs 80 (.slice (some ⟨b, off, none⟩) L cap) ∧ Boxed wr Bn 3 (.int .i64 (s : Nat))) (fun i _ => L - (intOf i).toNat)
  case atStart => exact ⟨0, Nat.zero_le _, by rw [Nat.zero_mul]; rfl, h0, k1, k2⟩
  case round =>
    obtain ⟨k, hk, rfl, hJs, k1, k2⟩ := hrel
    have c1 := k1.cell
    have c2 := k2.cell
    by_cases hlt : k < chc L s
    · have hkL : k * s < L := (chc_lt hs).1 hlt
      obtain ⟨fn, tmps, assign, body, hy, hR⟩ := hY k wr.drew (hJ _ wr hJs) hlt
      rw [chn_of hkL] at hy
      change (Instr.yield l #[.slice (some ⟨b, off + k * s, none⟩) (min s (L - k * s)) (min s (L - k * s))]).run _ _ = _ at hy
      have hks : k * s + s ≤ 9223372036854775807 := by
        rcases Nat.eq_zero_or_pos k with h0 | h0
        · subst h0; omega
        · have := Nat.le_mul_of_pos_left s h0; omega
      have hnx : (k + 1) * s = k * s + s := Nat.succ_mul k s
      have HN := Lib.hid hnx
      clear hnx
      have HK : Hid (k + 1 ≤ chc L s) := Lib.hid hlt
      clear hlt
      generalize k * s = i at *
      have hi : (i : Int) < (L : Int) := by omega
      have his : (i : Int) + (s : Int) ≤ 9223372036854775807 := by omega
      have hne : ¬ cap = i := by omega
      have hiL : i ≤ L := by omega
      have hE : (if L - i < s then ((L - i : Nat) : Int) else (s : Int)) = ((min s (L - i) : Nat) : Int) := by split <;> omega
      have he0 : 0 < min s (L - i) := by omega
      have heL : i + min s (L - i) ≤ L := by omega
      have HE := Lib.hid hE
      clear hE
      generalize min s (L - i) = e at *
      have hie : (i : Int) + (e : Int) ≤ (L : Int) := by omega
      gi_wp2_with fail
      gi_region
      all_goals
        rw [HE.out]
        clear HE
        gi_wp2
        refine hR.mono ?_
        clear hy
        rintro e' W3 (⟨rfl, hJ3, hk3⟩ | ⟨rfl, hJx3⟩)
        · have q1 : Boxed W3 Bs 80 (.slice (some ⟨b, off, none⟩) L cap) := hk3.1.trans k1
          have q2 : Boxed W3 Bn 3 (.int .i64 (s : Nat)) := hk3.2.trans k2
          have d1 := q1.cell
          have d2 := q2.cell
          clear c1 c2
          gi_wp2
          have hq : (i : Int) + (s : Int) = (((k + 1) * s : Nat) : Int) := by rw [HN.out]; omega
          go_roundw
          case rel => exact ⟨k + 1, HK.out, by rw [hq], hJ3, q1, q2⟩
          case measure => simp [intOf]; omega
        · gi_wp2
          refine bodyPost_ret (results_none rfl _ _ _) rfl ?_
          exact ⟨⟨_, rfl⟩, .inr ⟨_, HK.out, hJx3⟩⟩
    · have hkL : ¬ k * s < L := fun e => hlt ((chc_lt hs).2 e)
      obtain rfl : k = chc L s := by omega
      clear hlt
      generalize chc L s * s = i at *
      have hkL' : ¬ (i : Int) < (L : Int) := by omega
      gi_wp2
      go_end0
      exact ⟨⟨_, rfl⟩, .inl hJs⟩
set_option maxHeartbeats 1000000 in
theorem chunk_in (F : Fence) (m : Nat) (h5 : F.fn 240) (hro : F.round = none) (a : Option Addr) (len cap : Nat) (z : Int) (hs : 1 ≤ z) (w : World) :
    CallsIn F m Tryz.prog 240 #[.slice a len cap, .int .i64 z] w fun e w' => e = .returned (.func (.func 300) #[] #[.pointer (some ⟨w.heap.size, 0, none⟩), .pointer (some ⟨w.heap.size + 1, 0, none⟩)]) ∧ w' = (w.alloc (.cells #[.slice a len cap] 80)).alloc (.cells #[.int .i64 z] 3) := by
  have hs0 : ¬ z < 1 := by omega
  refine callsIn_of_wp Tryz.func240 rfl h5 ?_ hro
  simp only [Tryz.ntmps240, List.size_toArray, List.length_cons, List.length_nil, Nat.reduceAdd, Nat.reduceSub, Array.replicate_succ, Array.replicate_zero, List.push_toArray, List.append_toArray, List.nil_append, List.cons_append]
  gi_wp2
  go_ret
  exact ⟨rfl, rfl⟩
end Go.Proofs.YtbjpifcgnombaaaGreat
namespace Go.Proofs.YtbjpifcgnombaaaGreat
open Go.RowKit Go.Shelf
attribute [local go_sem] Oper.semAt_some
set_option maxRecDepth 100000 in
set_option maxHeartbeats 4000000 in
theorem valuesB1_in (F : Fence) (n : Nat) (h7 : F.fn 329) (hro : F.round = none) (hn : 1 ≤ n) (l Bs n₀ b off cap : Nat) (zs : List UInt8) (hreach : zs.length ≤ 140737488351232) (hb : b < n₀) (J Jx : List UInt8 → World → Prop)
    (W : World)
    (hY : ∀ pre x W, J pre W → pre.length < zs.length → YieldAt F (n - 1) Tryz.prog l #[bv x] W fun e W' =>
      (e = .returned (.bool true) ∧ J (pre ++ [x]) W' ∧ Below n₀ W W') ∨ (e = .returned (.bool false) ∧ Jx (pre ++ [x]) W'))
    (hBs : W.cell? ⟨Bs, 0, none⟩ = some (.slice (some ⟨b, off, none⟩) zs.length cap)) (hc : Octs W b off zs) (h0 : J [] W) :
    CallsIn F n Tryz.prog 329 #[.func (.yield l) #[] #[], .pointer (some ⟨Bs, 0, none⟩)] W fun e W' => (∃ v, e = .returned v) ∧
      ((∃ ys, ys = zs ∧ J ys W') ∨ (∃ pre, True ∧ Jx pre W')) := by
  refine callsIn_of_wp Tryz.func329 rfl h7 ?_ hro
  simp only [Tryz.ntmps329, List.size_toArray, List.length_cons, List.length_nil, Nat.reduceAdd, Nat.reduceSub, Array.replicate_succ, Array.replicate_zero, List.push_toArray, List.append_toArray, List.nil_append, List.cons_append]
  gi_wp2
  gi_loopw [7] (fun i wr => ∃ k : Nat, k ≤ zs.length ∧ i = .int .i64 k ∧ J (zs.take k) wr ∧ Below n₀ W wr) (fun i _ => zs.length - (intOf i).toNat)
  case atStart => exact ⟨0, Nat.zero_le _, rfl, h0, Below.refl _ _⟩
  case round =>
    obtain ⟨k, hk, rfl, hJs, hnx⟩ := hrel
    by_cases hlt : k < zs.length
    · obtain ⟨x, hx⟩ : ∃ x, zs[k]? = some x := ⟨_, List.getElem?_eq_getElem hlt⟩
      have c0 := (hc.below hnx hb) k x hx
      have hk0 : (k : Int) < (zs.length : Int) := by omega
      obtain ⟨fn, tmps, assign, body, hy, hR⟩ := hY (zs.take k) x wr hJs (by simp; omega)
      have ht : zs.take (k + 1) = zs.take k ++ [x] := by rw [List.take_add_one, hx]; rfl
      rw [← ht] at hR
      clear ht
      have HX := Lib.hid hx
      clear hx
      generalize hL : zs.length = len at *
      have HL := Lib.hid hL
      clear hL
      gi_wp2
      refine hR.mono ?_
      rintro e W3 (⟨rfl, hJ3, hk3⟩ | ⟨rfl, hJx3⟩)
      · gi_wp2
        go_roundw
        case rel => exact ⟨k + 1, by omega, by simp, hJ3, hnx.trans hk3⟩
        case measure => simp [intOf]; omega
      · gi_wp2
        refine bodyPost_ret (results_none rfl _ _ _) rfl ?_
        exact ⟨⟨_, rfl⟩, .inr ⟨_, trivial, hJx3⟩⟩
    · obtain rfl : k = zs.length := by omega
      gi_wp2
      go_end0
      rw [List.take_length] at hJs
      exact ⟨⟨_, rfl⟩, .inl ⟨_, rfl, hJs⟩⟩
set_option maxRecDepth 100000 in
set_option maxHeartbeats 1000000 in
theorem valuesB1_nil_in (F : Fence) (n : Nat) (h7 : F.fn 329) (hro : F.round = none) (l Bs : Nat) (a : Option Addr) (cap : Nat) (J : List UInt8 → World → Prop) (W : World) (hBs : W.cell? ⟨Bs, 0, none⟩ = some (.slice a 0 cap)) (h0 : J [] W) :
    CallsIn F n Tryz.prog 329 #[.func (.yield l) #[] #[], .pointer (some ⟨Bs, 0, none⟩)] W fun e W' => (∃ v, e = .returned v) ∧ J [] W' := by
  refine callsIn_of_wp Tryz.func329 rfl h7 ?_ hro
  simp only [Tryz.ntmps329, List.size_toArray, List.length_cons, List.length_nil, Nat.reduceAdd, Nat.reduceSub, Array.replicate_succ, Array.replicate_zero, List.push_toArray, List.append_toArray, List.nil_append, List.cons_append]
  gi_wp2
  gi_loopw [7] (fun i wr => i = .int .i64 0 ∧ J [] wr) (fun _ _ => 0)
  case atStart => exact ⟨rfl, h0⟩
  case round =>
    obtain ⟨rfl, hJs⟩ := hrel
    gi_wp2
    go_end0
    exact ⟨⟨_, rfl⟩, hJs⟩
set_option maxHeartbeats 1000000 in
theorem valuesB_in (F : Fence) (n : Nat) (h5 : F.fn 301) (hro : F.round = none) (a : Option Addr) (len cap : Nat) (w : World) :
    CallsIn F n Tryz.prog 301 #[.slice a len cap] w fun e w' => e = .returned (.func (.func 329) #[] #[.pointer (some ⟨w.heap.size, 0, none⟩)]) ∧ w' = w.alloc (.cells #[.slice a len cap] 80) := by
  refine callsIn_of_wp Tryz.func301 rfl h5 ?_ hro
  simp only [Tryz.ntmps301, List.size_toArray, List.length_cons, List.length_nil, Nat.reduceAdd, Nat.reduceSub, Array.replicate_succ, Array.replicate_zero, List.push_toArray, List.append_toArray, List.nil_append, List.cons_append]
  gi_wp2
  go_ret
  exact ⟨rfl, rfl⟩
theorem valuesB_stops (F : Fence) (n : Nat) (h7 : F.fn 329) (hro : F.round = none) (hn : 1 ≤ n) (Bs n₀ : Nat) (sv : Value) (zs : List UInt8) (hreach : zs.length ≤ 140737488351232) (w : World) (hn₀ : n₀ ≤ w.heap.size)
    (hk : Boxed w Bs 80 sv) (hI : BSl 0 n₀ w sv zs) :
    SeqStopsK F n Tryz.prog 329 #[.pointer (some ⟨Bs, 0, none⟩)] (fun x => #[bv x]) (Below n₀) (fun ys => ys = zs) (fun _ => True) zs.length w := fun l J Jx W hW hJ _ hY h0 => by
  have hc' := (hW.cell (p := ⟨Bs, 0, none⟩) hk.lt).trans hk.cell
  obtain ⟨a, cap, rfl, hcap, rfl | ⟨b, off, rfl, _, hb, hcs⟩⟩ := hI.below hW hn₀
  · exact (valuesB1_nil_in F n h7 hro l Bs a cap J W hc' h0).mono fun e W' ⟨he, hj⟩ => ⟨he, .inl ⟨_, rfl, hj⟩⟩
  · exact valuesB1_in F n h7 hro hn l Bs n₀ b off cap zs hreach hb J Jx W hY hc' hcs h0
end Go.Proofs.YtbjpifcgnombaaaGreat
namespace Go.Proofs.YtbjpifcgnombaaaGreat
open Go.RowKit Go.Shelf
attribute [local go_sem] Oper.semAt_some
def IntI (N : Nat) (w : World) (pre : List UInt8) (W : World) : Prop := Boxed W N 3 (.int .i64 (be pre : Nat)) ∧ Below N w W
theorem intI_own {N : Nat} {w : World} {B : Nat} (h : N ≤ w.heap.size) (hB : N ≤ B) : OwnFrom B (IntI N w) :=
  OwnFrom.and (Own.from (fun s X Y row hs hg hr => blk_own N 3 (fun s : List UInt8 => [.int .i64 (be s : Nat)]) s X Y row hs hg hr) _) (ownFrom_below h hB)
theorem BSl.take {lo hi : Nat} {W : World} {a : Option Addr} {cap : Nat} {l : List UInt8} (h : BSl lo hi W (.slice a l.length cap) l) (k : Nat) (hk : k ≤ l.length) : BSl lo hi W (.slice a k cap) (l.take k) := by
  obtain ⟨a', cap', e, hc, h0⟩ := h
  cases e
  refine ⟨a, cap, by rw [List.length_take, Nat.min_eq_left hk], by simp; omega, ?_⟩
  rcases h0 with rfl | ⟨b, off, ha, h1, h2, ho⟩
  · exact .inl (by simp)
  · exact .inr ⟨b, off, ha, h1, h2, fun j x hj => ho j x (by
      have hjk : j < k := by have := (List.getElem?_eq_some_iff.1 hj).1; simp at this; omega
      rwa [List.getElem?_take_of_lt hjk] at hj)⟩
set_option maxRecDepth 100000 in
set_option maxHeartbeats 4000000 in
theorem blobInt_in (m : Nat) (hm : 2 ≤ m) (l : List UInt8) (sv : Value) (w : World) (hreach : l.length ≤ 140737488351232) (hsv : BSl 0 w.heap.size w sv l) :
    CallsIn Fence.wide m Tryz.prog 241 #[sv] w fun e W' => e = .returned (.int .i64 (be (l.take 7) : Nat)) ∧ Below w.heap.size w W' := by
  have h1 : 1 ≤ m := by omega
  have hsv0 := hsv
  obtain ⟨a, cap, rfl, hcap, hcs⟩ := hsv
  clear hcs
  refine callsIn_of_wp_marks Tryz.func241 rfl trivial ?_ rfl
  simp only [Tryz.ntmps241, List.size_toArray, List.length_cons, List.length_nil, Nat.reduceAdd, Nat.reduceSub, Array.replicate_succ, Array.replicate_zero, List.push_toArray, List.append_toArray, List.nil_append, List.cons_append]
  have hN : (l.take 7).length ≤ 7 := by rw [List.length_take]; omega
  have hcase : (((l.length : Nat) : Int) ≤ 7 ∧ BSl 0 w.heap.size w (.slice a l.length cap) (l.take 7)) ∨ (¬ ((l.length : Nat) : Int) ≤ 7 ∧ BSl 0 w.heap.size w (.slice a 7 cap) (l.take 7)) := by
    by_cases h : l.length ≤ 7
    · exact .inl ⟨by omega, by rw [List.take_of_length_le h]; exact hsv0⟩
    · exact .inr ⟨by omega, hsv0.take 7 (by omega)⟩
  clear hsv0
  generalize l.take 7 = z at *
  rcases hcase with ⟨h7, hT⟩ | ⟨h7, hT⟩
  all_goals
    gi_wp2_with (refine ⟨trivial, ?_⟩; gi_at_call 301; refine (valuesB_in Fence.wide (m - 1) trivial rfl _ _ _ _).mono ?_; rintro e w' ⟨rfl, rfl⟩)
    generalize hW5 : World.alloc _ _ = W5
    have k0 : Boxed W5 w.heap.size 3 (.int .i64 (be [] : Nat)) := by rw [← hW5]; exact (Boxed.new _ _ (.int .i64 (be [] : Nat))).alloc _
    have k2 := show Boxed W5 (w.heap.size + 1) 80 (.slice a _ cap) by rw [← hW5]; exact Blk.new' (vs := [_]) (by simp)
    have hB0 : Below w.heap.size w W5 := by rw [← hW5]; exact chainA (chain0 _ _) _
    have hz : W5.heap.size = w.heap.size + 2 := by rw [← hW5]; simp
    clear hW5
    refine wpIn_rangeFunc_ownF (S := fun ys => ys = z) rfl h1 (gf := 329) (lb := #[.pointer (some ⟨w.heap.size + 1, 0, none⟩)]) rfl trivial (enters_of Tryz.func329 (by kernel_rfl) rfl)
      (valuesB_stops Fence.wide (m - 1) trivial rfl (by omega) (w.heap.size + 1) w.heap.size _ z (by omega) W5 (by omega) k2 (hT.below hB0 (Nat.le_refl _))) belowK_t (belowK_b (by omega)) (Below.refl _ _) (fun _ => rfl)
      (IntI w.heap.size w) (fun _ _ _ => False) (intI_own (Nat.le_refl _) (by omega)) (fun _ _ _ _ _ hs _ _ => hs)
      ⟨k0, hB0⟩ ?_ ?_ ?_ ?_ ?_
    rotate_left
    · intro l x W K hK
      gi_wp2
      exact hK
    · rintro r pre x W ⟨k0, hB⟩ hlt
      have co := k0.cell
      have cf := k0.frozen
      have hsn := be_snoc pre x
      have HS := Lib.hid hsn
      have hl1 : be pre ≤ 281474976710655 := by have := be_lt' (l := pre) (k := 6) (by omega); omega
      have hor := or_byte64 (a := be pre) (x := x.toNat) (by omega) x.toNat_lt
      have HO := Lib.hid hor
      clear hor hsn
      generalize be pre = y at *
      have hy : (y : Int) ≤ 281474976710655 := by omega
      have hxl := x.toNat_lt
      have hxl' : (x.toNat : Int) ≤ 255 := by omega
      gi_wp2
      rw [HO.out, ← HS.out]
      have hbw := (Below.refl w.heap.size W).setCell (p := ⟨w.heap.size, 0, none⟩) (Nat.le_refl _) (.int .i64 (be (pre ++ [x]) : Nat))
      exact ⟨KeepsOthers.setCell _ _ _, hbw, k0.set _, hB.trans hbw⟩
    · rintro D ys W hD rfl ⟨k0, hB⟩ hK
      have co := k0.cell
      have HZ := Lib.hid hz
      clear hz
      gi_wp2
      have hB' := hB.trans (belowK_b (w := w) (Nat.le_refl _) _ D _ (.deferred none) (by have := HZ.out; omega) hK rfl rfl)
      refine ⟨by simp, .inl ⟨_, _, rfl, run_takeDeferred hK, ?_⟩⟩
      refine ⟨.int .i64 (be ys : Nat), ?_, ?_⟩
      · simp [results, Tryz.f241, go_sem]
      · exact ⟨rfl, hB'⟩
    · rintro D c pre W _ _ h _
      exact h.elim
theorem blobInt_any (l : List UInt8) (sv : Value) (w : World) (hreach : l.length ≤ 140737488351232) (hsv : BSl 0 w.heap.size w sv l) :
    Calls Tryz.prog 241 #[sv] w fun e W' => e = .returned (.int .i64 (be (l.take 7) : Nat)) ∧ Below w.heap.size w W' := callsIn_wide.1 (blobInt_in 2 (by omega) l sv w hreach hsv)
end Go.Proofs.YtbjpifcgnombaaaGreat
namespace Go.Proofs.YtbjpifcgnombaaaGreat
open Go.RowKit
def rot (x : Int) (n : Nat) : Int := bits .or .u32 (x / (2 : Int) ^ n) (x * (2 : Int) ^ (32 - n) % 4294967296)
theorem or_comm32 (a b : Int) : bits .or .u32 a b = bits .or .u32 b a := by simp only [bits, BitVec.or_comm]
theorem mask31 (n : Nat) (h : n ∈ [2, 3, 6, 7, 10, 11, 13, 17, 18, 19, 22, 25]) : bits .and .u64 (IntKind.u64.wrap (-(n : Int))) 31 = ((32 - n : Nat) : Int) := by
  simp only [List.mem_cons, List.not_mem_nil, or_false] at h
  rcases h with rfl | rfl | rfl | rfl | rfl | rfl | rfl | rfl | rfl | rfl | rfl | rfl <;> decide
set_option maxHeartbeats 1000000 in
theorem rotateLeft_any (x : Int) (k : Int) (s : Nat) (hs : bits .and .u64 (IntKind.u64.wrap k) 31 = (s : Int)) (h0 : 1 ≤ (s : Int)) (h1 : (s : Int) ≤ 31) (w : World) : Calls Tryz.prog 303 #[.int .u32 x, .int .i64 k] w fun e w' => e = .returned (.int .u32 (rot x (32 - s))) ∧ w = w' := by
  go_enter Tryz.func303, Tryz.ntmps303
  go_wp2
  go_ret
  refine ⟨?_, rfl⟩
  have hr : rot x (32 - s) = bits .or .u32 (x * 2 ^ s % 4294967296) (x / 2 ^ (32 - s)) := by
    unfold rot
    rw [or_comm32, show 32 - (32 - s) = s by omega]
  rw [hr]
  rfl
def turns (n : Nat) : Prop := n ∈ [2, 3, 6, 7, 10, 11, 13, 17, 18, 19, 22, 25]
set_option maxHeartbeats 1000000 in
theorem rotr_any (x : Int) (n : Nat) (hn : turns n) (w : World) : Calls Tryz.prog 244 #[.int .u32 x, .int .i64 (n : Int)] w fun e w' => e = .returned (.int .u32 (rot x n)) ∧ w = w' := by
  have hs := mask31 n hn
  have hb : 1 ≤ n ∧ n ≤ 31 := by
    unfold turns at hn
    simp only [List.mem_cons, List.not_mem_nil, or_false] at hn
    omega
  obtain ⟨hb1, hb2⟩ := hb
  have HN := Lib.hid hs
  clear hs hn
  have hm : (n : Int) ≤ 31 := by omega
  go_enter Tryz.func244, Tryz.ntmps244
  go_wp2_with (go_at_call 303; refine (rotateLeft_any _ _ _ HN.out (by omega) (by omega) _).mono ?_; rintro e w' ⟨rfl, rfl⟩)
  go_ret
  have hq : 32 - (32 - n) = n := by omega
  exact ⟨congrArg (fun q => Ending.returned (.int .u32 (rot x q))) hq, rfl⟩
theorem rotr_still (x : Int) (k : Int) (n : Nat) (hn : turns n) (hk : k = (n : Int)) (w : World) : Calls Tryz.prog 244 #[.int .u32 x, .int .i64 k] w fun e w' => e = .returned (.int .u32 (rot x n)) ∧ w' = w := by
  subst hk; exact (rotr_any x n hn w).mono fun _ _ h => ⟨h.1, h.2.symm⟩
set_option maxHeartbeats 1000000 in
theorem turn_any (x : Int) (n : Nat) (hn : turns n) (w : World) : Calls Tryz.prog 339 #[.int .u32 x, .int .i64 (n : Int)] w fun e w' => e = .returned (.int .u32 (rot x n)) ∧ w = w' := by
  have hb : 1 ≤ (n : Int) ∧ (n : Int) ≤ 31 := by
    unfold turns at hn
    simp only [List.mem_cons, List.not_mem_nil, or_false] at hn
    omega
  obtain ⟨hb1, hb2⟩ := hb
  clear hn
  have hw : (32 : Int) - (n : Int) = ((32 - n : Nat) : Int) := by omega
  go_enter Tryz.func339, Tryz.ntmps339
  go_wp2
  go_ret
  exact ⟨rfl, rfl⟩
theorem turn_still (x : Int) (k : Int) (n : Nat) (hn : turns n) (hk : k = (n : Int)) (w : World) : Calls Tryz.prog 339 #[.int .u32 x, .int .i64 k] w fun e w' => e = .returned (.int .u32 (rot x n)) ∧ w' = w := by
  subst hk; exact (turn_any x n hn w).mono fun _ _ h => ⟨h.1, h.2.symm⟩
theorem t2 : turns 2 := by unfold turns; simp
theorem t6 : turns 6 := by unfold turns; simp
theorem t7 : turns 7 := by unfold turns; simp
theorem t11 : turns 11 := by unfold turns; simp
theorem t13 : turns 13 := by unfold turns; simp
theorem t17 : turns 17 := by unfold turns; simp
theorem t18 : turns 18 := by unfold turns; simp
theorem t19 : turns 19 := by unfold turns; simp
theorem t22 : turns 22 := by unfold turns; simp
theorem t25 : turns 25 := by unfold turns; simp
end Go.Proofs.YtbjpifcgnombaaaGreat
