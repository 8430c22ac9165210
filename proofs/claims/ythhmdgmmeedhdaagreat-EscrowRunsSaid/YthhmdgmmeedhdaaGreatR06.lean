/-
  The cells of a block that is known whole; What is put of a transfer, and of a side's data; All that an Out took: deal's octets; Arrays of words: as cells, as values; read and stored whole; Arrays of words, read and stored whole inside a fence; slices.Chunk over octets: pieces of a size, the last one maybe shorter; slices.Values over octets: each; blob.Int: the number of the first seven octets at m
-/
import Derived.Laws.CopyOwn
import Derived.Laws.Rows
import Derived.Laws.Tables
import Derived.WalkSpells
import Derived.StillTail
import Derived.StillTactics
import Derived.WalkKit
import Derived.Laws.BitsLemmas
import Derived.Lib.Hide
import Derived.Test.YthhmdgmmeedhdaaGreatProg
import Derived.IntWalk
import Derived.Outline
import Derived.Deep.QuietTactic
import Derived.BigQuiet
import Derived.Great.BuildSlice
import Derived.StillTailTactics
import Derived.RegionTactic
import Derived.Laws.OwnMore
import Derived.Lib.AppendZeros
import Derived.OwnWalkIn
import Derived.Test.YthhmdgmmeedhdaaGreatR05
namespace Go.Proofs.YthhmdgmmeedhdaaGreat
open Go.RowKit Go.Shelf
theorem Blk.c7 {W : World} {B : Nat} {t : TypeId} {v0 v1 v2 v3 v4 v5 v6 : Value} (h : Blk W B t [v0, v1, v2, v3, v4, v5, v6]) :
  W.cell? ⟨B, 0, none⟩ = some v0 ∧ W.cell? ⟨B, 1, none⟩ = some v1 ∧ W.cell? ⟨B, 2, none⟩ = some v2 ∧ W.cell? ⟨B, 3, none⟩ = some v3 ∧ W.cell? ⟨B, 4, none⟩ = some v4 ∧ W.cell? ⟨B, 5, none⟩ = some v5 ∧ W.cell? ⟨B, 6, none⟩ = some v6 :=
 ⟨h.cell 0, h.cell 1, h.cell 2, h.cell 3, h.cell 4, h.cell 5, h.cell 6⟩
theorem Blk.c5 {W : World} {B : Nat} {t : TypeId} {v0 v1 v2 v3 v4 : Value} (h : Blk W B t [v0, v1, v2, v3, v4]) :
  W.cell? ⟨B, 0, none⟩ = some v0 ∧ W.cell? ⟨B, 1, none⟩ = some v1 ∧ W.cell? ⟨B, 2, none⟩ = some v2 ∧ W.cell? ⟨B, 3, none⟩ = some v3 ∧ W.cell? ⟨B, 4, none⟩ = some v4 :=
 ⟨h.cell 0, h.cell 1, h.cell 2, h.cell 3, h.cell 4⟩
end Go.Proofs.YthhmdgmmeedhdaaGreat
namespace Go.Proofs.YthhmdgmmeedhdaaGreat
open Go.RowKit Go.Shelf
def nN (i : Trf) (k : Nat) : Int := match k with | 0 => i.ro | 1 => i.se | 2 => i.re | _ => i.to
def numK (s : St) (i : Trf) (k : Nat) : St := match k with | 0 => s | k + 1 => numS (numK s i k) (nN i k)
set_option maxRecDepth 100000 in
theorem idx_four (i : Trf) (w : World) {k : Nat} (hk : k < 4) :
  (Instr.index 135 (.agg #[.int .i64 i.ro, .int .i64 i.se, .int .i64 i.re, .int .i64 i.to]) (.int .i64 k)).run Tryz.prog w = .ok (.int .i64 (nN i k)) w := by
 have hs : ∀ j : Nat, (sizeOf 3).run Tryz.prog w = .ok 1 w := fun _ => by kernel_rfl
 have h1 : (0 : Int) ≤ (k : Int) ∧ (k : Int) < 4 := ⟨by omega, by omega⟩
 obtain rfl | rfl | rfl | rfl : k = 0 ∨ k = 1 ∨ k = 2 ∨ k = 3 := by omega
 all_goals
  simp [Instr.index, run_underlying Tryz.underlying135, asIntOf, hs 0, go_sem, nN]
set_option maxRecDepth 100000 in
set_option maxHeartbeats 2000000 in
theorem dealPut_any {p : Option Addr} {s : St} (i : Trf) (w : World) (h : ObjP 132 w p s) :
  Calls Tryz.prog 47 #[.pointer p, ivv i] w (DidS 132 p (putI s i) w) := by
 have hne := ptr_lt h (Nat.le_refl _)
 have kB := (Blk.new w 46 (ivc i))
 have hG := World.grownBy_alloc w (.cells (ivc i).toArray 46) (p.map (·.block))
 have hO := h.below (chain0 w (.cells (ivc i).toArray 46))
 have HNE := Lib.hid hne
 clear h hne
 go_enter Tryz.func47, Tryz.ntmps47
 go_wp2_with (first
  | (go_at_call 81; refine (outText_any _ _ hO).mono ?_; rintro e W1 ⟨rfl, hO1, hG1⟩; replace hO := hO1; replace hG := hG.trans hG1; replace kB := kB.kept hG1 HNE.out; (try clear c0 c1 c2 c3 c4 c5 c6); obtain ⟨c0, c1, c2, c3, c4, c5, c6⟩ := kB.c7; clear hO1 hG1)
  | (go_at_call 82; refine (outNum_any _ _ hO).mono ?_; rintro e W1 ⟨rfl, hO1, hG1⟩; replace hO := hO1; replace hG := hG.trans hG1; replace kB := kB.kept hG1 HNE.out; (try clear c0 c1 c2 c3 c4 c5 c6); obtain ⟨c0, c1, c2, c3, c4, c5, c6⟩ := kB.c7; clear hO1 hG1))
 try clear c0 c1 c2 c3 c4 c5 c6
 go_loopw [25] (fun n wr => ∃ k : Nat, k ≤ 4 ∧ n = .int .i64 k ∧ ObjP 132 wr p (numK (putI1 s i) i k) ∧ w.grownBy wr (p.map (·.block)) ∧ Blk wr w.heap.size 46 (ivc i)) (fun n _ => 4 - (intOf n).toNat)
 case atStart => exact ⟨0, by omega, rfl, hO, hG, kB⟩
 case round =>
  clear hO hG kB
  obtain ⟨k, hk, rfl, hO, hG, kB⟩ := hrel
  by_cases hlt : k < 4
  ·
   have hlt' : (k : Int) < 4 := by omega
   have HI := Lib.hid (fun W => idx_four i W hlt)
   have HS : Hid (numK (putI1 s i) i (k + 1) = numS (numK (putI1 s i) i k) (nN i k)) := Lib.hid rfl
   generalize numK (putI1 s i) i k = st at *
   generalize nN i k = x at *
   go_wp2_with (first
    | (refine wpList_indexTo rfl 135 (.tmp 24) (.tmp 25) rfl (some 27) rfl _ (HI.out _) ?_)
    | (go_at_call 82; refine (outNum_any _ _ hO).mono ?_; rintro e W1 ⟨rfl, hO1, hG1⟩))
   go_roundw
   case rel => exact ⟨k + 1, by omega, by go_num, by rw [HS.out]; exact hO1, hG.trans hG1, kB.kept hG1 HNE.out⟩
   case measure => simp [intOf]; omega
  ·
   obtain rfl : k = 4 := by omega
   obtain ⟨c0, c1, c2, c3, c4, c5, c6⟩ := kB.c7
   go_wp2_with (first
    | (go_at_call 81; refine (outText_any _ _ hO).mono ?_; rintro e W1 ⟨rfl, hO1, hG1⟩))
   go_end0
   exact ⟨rfl, hO1, hG.trans hG1⟩
set_option maxRecDepth 100000 in
set_option maxHeartbeats 1000000 in
theorem dealPutVar_any {p : Option Addr} {s : St} (v : Sid) (hv4 : Ok4 v.a0 v.a1 v.a2 v.a3) (w : World) (h : ObjP 132 w p s) :
  Calls Tryz.prog 127 #[.pointer p, svv v] w (DidS 132 p (putV s v) w) := by
 have hne := ptr_lt h (Nat.le_refl _)
 have kB := (Blk.new w 48 (svc v))
 have hG := World.grownBy_alloc w (.cells (svc v).toArray 48) (p.map (·.block))
 have hO := h.below (chain0 w (.cells (svc v).toArray 48))
 have HNE := Lib.hid hne
 clear h hne
 go_enter Tryz.func127, Tryz.ntmps127
 go_wp2_with (first
  | (go_at_call 143; refine (outWide_any hv4 _ hO).mono ?_; rintro e W1 ⟨rfl, hO1, hG1⟩; replace hO := hO1; replace hG := hG.trans hG1; replace kB := kB.kept hG1 HNE.out; obtain ⟨c0, c1, c2, c3, c4⟩ := kB.c5; clear hO1 hG1)
  | (go_at_call 82; refine (outNum_any _ _ hO).mono ?_; rintro e W1 ⟨rfl, hO1, hG1⟩))
 go_end0
 exact ⟨rfl, hO1, hG.trans hG1⟩
end Go.Proofs.YthhmdgmmeedhdaaGreat
namespace Go.Proofs.YthhmdgmmeedhdaaGreat
open Go.RowKit Go.Shelf
def OctsS (s : St) (w : World) (e : Ending) (W' : World) : Prop := ∃ sv, e = .returned sv ∧ BSl 0 W'.heap.size W' sv s.1 ∧ Below w.heap.size w W'
theorem dealOctets_any {p : Option Addr} {s : St} (w : World) (h : ObjP 132 w p s) :
  Calls Tryz.prog 49 #[.pointer p] w (OctsS s w) := by
 go_enter Tryz.func49, Tryz.ntmps49
 go_wp2_with (first
  | (go_at_call 85; refine (outDone_any _ h).mono ?_; rintro e W1 ⟨sv, rfl, hsv, hb⟩; obtain ⟨va, vm, vc, rfl⟩ := hsv.shape3))
 go_ret
 exact ⟨_, rfl, hsv, hb⟩
end Go.Proofs.YthhmdgmmeedhdaaGreat
namespace Go.Proofs.YthhmdgmmeedhdaaGreat
open Go.RowKit
def us (f : Nat → Int) (n : Nat) : List Value := upto (fun k => Value.int .u32 (f k)) n
def updI (f : Nat → Int) (i : Nat) (v : Int) : Nat → Int := fun j => if j = i then v else f j
theorem us_length (f : Nat → Int) (n : Nat) : (us f n).length = n := upto_length _ _
theorem us_at (f : Nat → Int) {n k : Nat} (h : k < n) : (us f n)[k]? = some (.int .u32 (f k)) := by
 unfold us upto; rw [List.getElem?_map, List.getElem?_range h]; rfl
theorem us_set (f : Nat → Int) {n k : Nat} (v : Int) : (us f n).set k (.int .u32 v) = us (updI f k v) n := by
 apply List.ext_getElem?
 intro j
 rw [List.getElem?_set]
 by_cases hj : k = j
 ·
  subst hj
  by_cases hk : k < n
  ·
   rw [if_pos rfl, if_pos (by rw [us_length]; exact hk), us_at _ hk]; simp [updI]
  ·
   rw [if_pos rfl, if_neg (by rw [us_length]; omega), eq_comm, List.getElem?_eq_none]; rw [us_length]; omega
 ·
  rw [if_neg hj]
  by_cases hk : j < n
  ·
   rw [us_at _ hk, us_at _ hk]; simp [updI, Ne.symm hj]
  ·
   rw [List.getElem?_eq_none (by rw [us_length]; omega), List.getElem?_eq_none (by rw [us_length]; omega)]
theorem us_congr {f g : Nat → Int} {n : Nat} (h : ∀ k, k < n → f k = g k) : us f n = us g n := by
 apply List.ext_getElem?
 intro j
 by_cases hk : j < n
 ·
  rw [us_at _ hk, us_at _ hk, h j hk]
 ·
  rw [List.getElem?_eq_none (by rw [us_length]; omega), List.getElem?_eq_none (by rw [us_length]; omega)]
abbrev uv (f : Nat → Int) (n : Nat) : Value := .agg (us f n).toArray
theorem us_one (f : Nat → Int) (n : Nat) : ∀ v ∈ us f n, v.oneCell' = true := by
 intro v hv
 unfold us upto at hv
 obtain ⟨k, _, rfl⟩ := List.mem_map.1 hv
 rfl
theorem us_splice (f g : Nat → Int) {m n : Nat} (h : m ≤ n) : splice (us g n) 0 (us f m) = us (fun t => if t < m then f t else g t) n := by
 apply List.ext_getElem?
 intro j
 unfold splice
 simp only [List.take_zero, List.nil_append, us_length, Nat.zero_add]
 by_cases hm : j < m
 ·
  rw [List.getElem?_append_left (by rw [us_length]; exact hm), us_at _ hm, us_at _ (by omega), if_pos hm]
 ·
  rw [List.getElem?_append_right (by rw [us_length]; omega), us_length, List.getElem?_drop, show m + (j - m) = j by omega]
  by_cases hn : j < n
  ·
   rw [us_at _ hn, us_at _ hn, if_neg hm]
  ·
   rw [List.getElem?_eq_none (by rw [us_length]; omega), List.getElem?_eq_none (by rw [us_length]; omega)]
theorem us0_64 : us (fun _ => 0) 64 = [.int .u32 0, .int .u32 0, .int .u32 0, .int .u32 0, .int .u32 0, .int .u32 0, .int .u32 0, .int .u32 0, .int .u32 0, .int .u32 0, .int .u32 0, .int .u32 0, .int .u32 0, .int .u32 0, .int .u32 0, .int .u32 0, .int .u32 0, .int .u32 0, .int .u32 0, .int .u32 0, .int .u32 0, .int .u32 0, .int .u32 0, .int .u32 0, .int .u32 0, .int .u32 0, .int .u32 0, .int .u32 0, .int .u32 0, .int .u32 0, .int .u32 0, .int .u32 0, .int .u32 0, .int .u32 0, .int .u32 0, .int .u32 0, .int .u32 0, .int .u32 0, .int .u32 0, .int .u32 0, .int .u32 0, .int .u32 0, .int .u32 0, .int .u32 0, .int .u32 0, .int .u32 0, .int .u32 0, .int .u32 0, .int .u32 0, .int .u32 0, .int .u32 0, .int .u32 0, .int .u32 0, .int .u32 0, .int .u32 0, .int .u32 0, .int .u32 0, .int .u32 0, .int .u32 0, .int .u32 0, .int .u32 0, .int .u32 0, .int .u32 0, .int .u32 0] := rfl
structure ArrT (ty n : Nat) : Prop where
 hu : ∃ e, Tryz.prog.underlying ty = some (.array n e)
 hi : (Tryz.prog.info? ty).map (·.size) = some n
theorem arr8 : ArrT 142 8 := ⟨⟨_, Tryz.underlying142⟩, by kernel_rfl⟩
theorem arr16 : ArrT 167 16 := ⟨⟨_, Tryz.underlying167⟩, by kernel_rfl⟩
theorem arr64 : ArrT 143 64 := ⟨⟨_, Tryz.underlying143⟩, by kernel_rfl⟩
theorem arr_load {ty n : Nat} (hT : ArrT ty n) {ops : Array Oper} {rest : List Oper} {o : Oper} {a : Act} {w : World} {Q : Exit → Act → World → Prop} (hgd : o.guard = none) (x : Operand) (ho : o.op = .load ty x)
  (g : Nat) (hx : a.eval x = .pointer (some ⟨g, 0, none⟩)) (t : TypeId) (f : Nat → Int) (hg : Blk w g t (us f n))
  (h : wpList Tryz.prog ops Q rest (a.put o.dst (uv f n)) w) : wpList Tryz.prog ops Q (o :: rest) a w := by
 obtain ⟨⟨e, hu⟩, hi⟩ := hT
 exact wpList_load_row hgd ty x ho g hx t _ (0, 0) _ hg hu rfl (by rw [hi]; simp [us_length]) h
theorem us_all (f : Nat → Int) (n : Nat) : (us f n).toArray.all (·.oneCell') = true := by
 rw [Array.all_eq_true_iff_forall_mem]
 intro v hv
 exact us_one f n v (by simpa using hv)
theorem setRow_blk {w : World} {g : Nat} {t : TypeId} {old : List Value} (hg : Blk w g t old) (vs : List Value) : Blk (w.setRow g vs.toArray) g t vs := setRow_heap w g _ _ t _ hg
theorem setRow_grown {w : World} {g : Nat} (vs : Array Value) : w.grownBy (w.setRow g vs) (some g) :=
 ⟨rfl, rfl, rfl, by simp [World.setRow], fun k _ hne => setRow_other w g k vs (fun e => hne (by rw [e]))⟩
theorem arr_store {ty n : Nat} (hT : ArrT ty n) {ops : Array Oper} {rest : List Oper} {o : Oper} {a : Act} {w : World} {Q : Exit → Act → World → Prop} (hgd : o.guard = none) (x y : Operand) (ho : o.op = .store ty x y)
  (g : Nat) (hx : a.eval x = .pointer (some ⟨g, 0, none⟩)) (f : Nat → Int) (hy : a.eval y = uv f n) (t : TypeId) (old : Nat → Int) (hg : Blk w g t (us old n))
  (h : ∀ w', Blk w' g t (us f n) → w.grownBy w' (some g) → wpList Tryz.prog ops Q rest (a.put o.dst undef) w') : wpList Tryz.prog ops Q (o :: rest) a w := by
 obtain ⟨⟨e, hu⟩, hi⟩ := hT
 exact wpList_store_row hgd ty x y ho g _ hx hy t _ hg (by rw [hi]; simp [us_length]) (by simp [us_length]) (us_all f n) (h _ (setRow_blk hg _) (setRow_grown _))
theorem arr_result {ty n : Nat} (hT : ArrT ty n) {fn : Func} {p : Tmp} (h : fn.results = #[.cell p ty]) (tmps : Array Value) (w : World) (g : Nat) (t : TypeId) (f : Nat → Int)
  (hp : tmps.getD p undef = .pointer (some ⟨g, 0, none⟩)) (hg : Blk w g t (us f n)) : (results fn tmps).run Tryz.prog w = .ok (uv f n) w := by
 obtain ⟨⟨e, hu⟩, hi⟩ := hT
 exact results_cell_row h tmps w g t _ (0, 0) _ hp hg hu rfl (by rw [hi]; simp [us_length])
theorem below_drewN {B : Nat} (W : World) (n : Nat) : Below B W (W.drewN n) := ⟨rfl, rfl, rfl, Nat.le_refl _, fun _ _ => rfl⟩
end Go.Proofs.YthhmdgmmeedhdaaGreat
namespace Go.Proofs.YthhmdgmmeedhdaaGreat
open Go.RowKit Go.Shelf
theorem run_load_us {ty n : Nat} (hT : ArrT ty n) (w : World) (g : Nat) (t : TypeId) (f : Nat → Int) (hg : Blk w g t (us f n)) : (loadVar ty ⟨g, 0, none⟩).run Tryz.prog w = .ok (uv f n) w := by
 obtain ⟨⟨e, hu⟩, hi⟩ := hT
 exact run_loadVar_row w g t ty _ (0, 0) _ hg hu rfl (by rw [hi]; simp [us_length])
theorem still_load {ty n : Nat} (hT : ArrT ty n) {ops : Array Oper} {rest : List Oper} {o : Oper} {a : Act} {w : World} {Q : Act → Prop} (hgd : o.guard = none) (x : Operand) (ho : o.op = .load ty x)
  (g : Nat) (hx : a.eval x = .pointer (some ⟨g, 0, none⟩)) (t : TypeId) (f : Nat → Int) (hg : Blk w g t (us f n)) (h : wpStill Tryz.prog ops w Q rest (a.put o.dst (uv f n))) : wpStill Tryz.prog ops w Q (o :: rest) a := by
 refine wpStill_step fun K hK => ?_
 rw [if_pos (by simp [Region.wanted, hgd])]
 unfold Oper.still execOp
 simp only [ho, hx, Instr.loadAt, Instr.sureAddr, Sem.run_bind, Sem.run_pure, Result.andThen_ok, run_load_us hT w g t f hg, Oper.stillUpon_value]
 exact hK _ h
theorem step_load_us {ty n : Nat} (hT : ArrT ty n) {ops : Array Oper} {o : Oper} {a : Act} {w : World} {K : Act → World → Prop} {Q : Exit → Act → World → Prop} {E : Prop} (hgd : o.guard = none) (x : Operand) (ho : o.op = .load ty x)
  (g : Nat) (hx : a.eval x = .pointer (some ⟨g, 0, none⟩)) (t : TypeId) (f : Nat → Int) (hg : Blk w g t (us f n)) (h : K (a.put o.dst (uv f n)) w) :
  if Region.wanted o (yielded ops a.tmps) = true then Oper.wp Tryz.prog o a w K Q else E := by
 rw [if_pos (by simp [Region.wanted, hgd])]
 obtain ⟨⟨e, hu⟩, hi⟩ := hT
 exact wp_load_row ty x ho g hx t _ (0, 0) _ hg hu rfl (by rw [hi]; simp [us_length]) h
theorem step_store_us {ty n : Nat} (hT : ArrT ty n) {ops : Array Oper} {o : Oper} {a : Act} {w : World} {K : Act → World → Prop} {Q : Exit → Act → World → Prop} {E : Prop} (hgd : o.guard = none) (x y : Operand) (ho : o.op = .store ty x y)
  (g : Nat) (hx : a.eval x = .pointer (some ⟨g, 0, none⟩)) (f : Nat → Int) (hy : a.eval y = uv f n) (t : TypeId) (old : Nat → Int) (hg : Blk w g t (us old n))
  (h : ∀ w', Blk w' g t (us f n) → w.grownBy w' (some g) → K (a.put o.dst undef) w') :
  if Region.wanted o (yielded ops a.tmps) = true then Oper.wp Tryz.prog o a w K Q else E := by
 rw [if_pos (by simp [Region.wanted, hgd])]
 obtain ⟨⟨e, hu⟩, hi⟩ := hT
 exact wp_store_row ty x y ho g _ hx hy t _ hg (by rw [hi]; simp [us_length]) (by simp [us_length]) (us_all f n) (h _ (setRow_blk hg _) (setRow_grown _))
theorem arrIn_load {F : Fence} {m : Nat} {ty n : Nat} (hT : ArrT ty n) {ops : Array Oper} {rest : List Oper} {o : Oper} {a : Act} {w : World} {Q : Exit → Act → World → Prop} (hgd : o.guard = none) (x : Operand) (ho : o.op = .load ty x)
  (g : Nat) (hx : a.eval x = .pointer (some ⟨g, 0, none⟩)) (t : TypeId) (f : Nat → Int) (hg : Blk w g t (us f n))
  (h : wpListIn F m Tryz.prog ops Q rest (a.put o.dst (uv f n)) w) : wpListIn F m Tryz.prog ops Q (o :: rest) a w := by
 refine wpListIn_plain hgd fun K hK' => ?_
 unfold Oper.wpIn
 refine ⟨?_, ?_⟩
 ·
  simp [Oper.about, ho]
 ·
  rw [Oper.semAt_plain F _ _ (by rw [ho]; intro c hc'; cases hc')]
  unfold execOp
  simp only [ho, hx, Instr.loadAt, Instr.sureAddr, Sem.run_bind, Sem.run_pure, Result.andThen_ok, run_load_us hT w g t f hg]
  exact hK' _ _ h
theorem arrIn_store {F : Fence} {m : Nat} {ty n : Nat} (hT : ArrT ty n) {ops : Array Oper} {rest : List Oper} {o : Oper} {a : Act} {w : World} {Q : Exit → Act → World → Prop} (hgd : o.guard = none) (x y : Operand) (ho : o.op = .store ty x y)
  (g : Nat) (hx : a.eval x = .pointer (some ⟨g, 0, none⟩)) (f : Nat → Int) (hy : a.eval y = uv f n) (t : TypeId) (old : Nat → Int) (hg : Blk w g t (us old n))
  (h : ∀ w', Blk w' g t (us f n) → w.grownBy w' (some g) → wpListIn F m Tryz.prog ops Q rest (a.put o.dst undef) w') : wpListIn F m Tryz.prog ops Q (o :: rest) a w := by
 obtain ⟨⟨e, hu⟩, hi⟩ := hT
 refine wpListIn_plain hgd fun K hK' => ?_
 unfold Oper.wpIn
 refine ⟨?_, ?_⟩
 ·
  simp [Oper.about, ho]
 ·
  rw [Oper.semAt_plain F _ _ (by rw [ho]; intro c hc'; cases hc')]
  unfold execOp
  simp only [ho, hx, hy, Instr.storeAt, Instr.sureAddr, Sem.run_bind, Sem.run_pure, Result.andThen_ok, run_storeVar_row (P := Tryz.prog) w g t ty (us old n).toArray (us f n).toArray hg (by rw [hi]; simp [us_length]) (by simp [us_length]) (us_all f n)]
  exact hK' _ _ (h _ (setRow_blk hg _) (setRow_grown _))
end Go.Proofs.YthhmdgmmeedhdaaGreat
namespace Go.Proofs.YthhmdgmmeedhdaaGreat
open Go.RowKit Go.Shelf
attribute [local go_sem] Oper.semAt_some
abbrev CP (L : Nat) := { p : Nat × Nat // p.1 + p.2 ≤ L }
abbrev cpEnc {L : Nat} (b off : Nat) (p : CP L) : Array Value := #[.slice (some ⟨b, off + p.1.1, none⟩) p.1.2 p.1.2]
def chn (L s k : Nat) : CP L := ⟨(min (k * s) L, min s (L - min (k * s) L)), by dsimp only; omega⟩
def chc (L s : Nat) : Nat := (L + s - 1) / s
def chs (L s : Nat) : List (CP L) := (List.range (chc L s)).map (chn L s)
theorem chs_length (L s : Nat) : (chs L s).length = chc L s := by simp [chs]
theorem chs_at {L s k : Nat} (h : k < chc L s) : (chs L s)[k]? = some (chn L s k) := by unfold chs; rw [List.getElem?_map, List.getElem?_range h]; rfl
theorem chc_lt {L s k : Nat} (hs : 1 ≤ s) : k < chc L s ↔ k * s < L := by
 unfold chc
 rw [Nat.lt_iff_add_one_le, Nat.le_div_iff_mul_le (by omega), Nat.add_mul]
 omega
theorem chn_of {L s k : Nat} (h : k * s < L) : chn L s k = ⟨(k * s, min s (L - k * s)), by dsimp only; omega⟩ := by
 unfold chn
 apply Subtype.ext
 dsimp only
 rw [Nat.min_eq_left (Nat.le_of_lt h)]
set_option maxRecDepth 100000 in
set_option maxHeartbeats 4000000 in
theorem chunk1_in (F : Fence) (m : Nat) (h : F.fn 152) (hro : F.round = none) (hm : 1 ≤ m) (l Bs Bn b off cap L s : Nat) (hL : L ≤ 140737488354000) (hcap : L ≤ cap) (hcap' : cap ≤ 9223372036854775807) (hs : 1 ≤ s) (hs' : s ≤ 9223372036854775807) (J Jx : Nat → World → Prop) (W : World) (hJ : ∀ k W, J k W → J k W.drew)
  (hY : ∀ k W1, J k W1 → k < chc L s → YieldAt F (m - 1) Tryz.prog l (cpEnc b off (chn L s k)) W1 fun e W' =>
   (e = .returned (.bool true) ∧ J (k + 1) W' ∧ KeepB2 Bs Bn W1 W') ∨ (e = .returned (.bool false) ∧ Jx (k + 1) W'))
  (k1 : Boxed W Bs 95 (.slice (some ⟨b, off, none⟩) L cap)) (k2 : Boxed W Bn 3 (.int .i64 (s : Nat))) (h0 : J 0 W) :
  CallsIn F m Tryz.prog 152 #[.func (.yield l) #[] #[], .pointer (some ⟨Bs, 0, none⟩), .pointer (some ⟨Bn, 0, none⟩)] W fun e W' => (∃ v, e = .returned v) ∧
   (J (chc L s) W' ∨ (∃ k, k ≤ chc L s ∧ Jx k W')) := by
 refine callsIn_of_wp Tryz.func152 rfl h ?_ hro
 simp only [Tryz.ntmps152, List.size_toArray, List.length_cons, List.length_nil, Nat.reduceAdd, Nat.reduceSub, Array.replicate_succ, Array.replicate_zero, List.push_toArray, List.append_toArray, List.nil_append, List.cons_append]
 have hcL : (L : Int) ≤ (cap : Int) := by omega
 have hcI : (cap : Int) ≤ 9223372036854775807 := by omega
 gi_wp2
 gi_loopw [4] (fun i wr => ∃ k : Nat, k ≤ chc L s ∧ i = .int .i64 ((k * s : Nat) : Int) ∧ J k wr ∧ Boxed wr Bs 95 (.slice (some ⟨b, off, none⟩) L cap) ∧ Boxed wr Bn 3 (.int .i64 (s : Nat))) (fun i _ => L - (intOf i).toNat)
 case atStart => exact ⟨0, Nat.zero_le _, by rw [Nat.zero_mul]; rfl, h0, k1, k2⟩
 case round =>
  obtain ⟨k, hk, rfl, hJs, k1, k2⟩ := hrel
  have c1 := k1.cell
  have c2 := k2.cell
  by_cases hlt : k < chc L s
  ·
   have hkL : k * s < L := (chc_lt hs).1 hlt
   obtain ⟨fn, tmps, assign, body, hy, hR⟩ := hY k wr.drew (hJ _ wr hJs) hlt
   rw [chn_of hkL] at hy
   change (Instr.yield l #[.slice (some ⟨b, off + k * s, none⟩) (min s (L - k * s)) (min s (L - k * s))]).run _ _ = _ at hy
   have hks : k * s + s ≤ 9223372036854775807 := by
    rcases Nat.eq_zero_or_pos k with h0 | h0
    ·
     subst h0; omega
    ·
     have := Nat.le_mul_of_pos_left s h0; omega
   have hnx : (k + 1) * s = k * s + s := Nat.succ_mul k s
   have HN := Lib.hid hnx
   clear hnx
   have HK : Hid (k + 1 ≤ chc L s) := Lib.hid hlt
   clear hlt
   generalize k * s = i at *
   have hi : (i : Int) < (L : Int) := by omega
   have his : (i : Int) + (s : Int) ≤ 9223372036854775807 := by omega
   have hne : ¬ cap = i := by omega
   have hiL : i ≤ L := by omega
   have hE : (if L - i < s then ((L - i : Nat) : Int) else (s : Int)) = ((min s (L - i) : Nat) : Int) := by split <;> omega
   have he0 : 0 < min s (L - i) := by omega
   have heL : i + min s (L - i) ≤ L := by omega
   have HE := Lib.hid hE
   clear hE
   generalize min s (L - i) = e at *
   have hie : (i : Int) + (e : Int) ≤ (L : Int) := by omega
   gi_wp2_with fail
   gi_region
   all_goals
    rw [HE.out]
    clear HE
    gi_wp2
    refine hR.mono ?_
    clear hy
    rintro e' W3 (⟨rfl, hJ3, hk3⟩ | ⟨rfl, hJx3⟩)
    ·
     have q1 : Boxed W3 Bs 95 (.slice (some ⟨b, off, none⟩) L cap) := hk3.1.trans k1
     have q2 : Boxed W3 Bn 3 (.int .i64 (s : Nat)) := hk3.2.trans k2
     have d1 := q1.cell
     have d2 := q2.cell
     clear c1 c2
     gi_wp2
     have hq : (i : Int) + (s : Int) = (((k + 1) * s : Nat) : Int) := by rw [HN.out]; omega
     go_roundw
     case rel => exact ⟨k + 1, HK.out, by rw [hq], hJ3, q1, q2⟩
     case measure => simp [intOf]; omega
    ·
     gi_wp2
     refine bodyPost_ret (results_none rfl _ _ _) rfl ?_
     exact ⟨⟨_, rfl⟩, .inr ⟨_, HK.out, hJx3⟩⟩
  ·
   have hkL : ¬ k * s < L := fun e => hlt ((chc_lt hs).2 e)
   obtain rfl : k = chc L s := by omega
   clear hlt
   generalize chc L s * s = i at *
   have hkL' : ¬ (i : Int) < (L : Int) := by omega
   gi_wp2
   go_end0
   exact ⟨⟨_, rfl⟩, .inl hJs⟩
set_option maxHeartbeats 1000000 in
theorem chunk_in (F : Fence) (m : Nat) (h5 : F.fn 135) (hro : F.round = none) (a : Option Addr) (len cap : Nat) (z : Int) (hs : 1 ≤ z) (w : World) :
  CallsIn F m Tryz.prog 135 #[.slice a len cap, .int .i64 z] w fun e w' => e = .returned (.func (.func 152) #[] #[.pointer (some ⟨w.heap.size, 0, none⟩), .pointer (some ⟨w.heap.size + 1, 0, none⟩)]) ∧ w' = (w.alloc (.cells #[.slice a len cap] 95)).alloc (.cells #[.int .i64 z] 3) := by
 have hs0 : ¬ z < 1 := by omega
 refine callsIn_of_wp Tryz.func135 rfl h5 ?_ hro
 simp only [Tryz.ntmps135, List.size_toArray, List.length_cons, List.length_nil, Nat.reduceAdd, Nat.reduceSub, Array.replicate_succ, Array.replicate_zero, List.push_toArray, List.append_toArray, List.nil_append, List.cons_append]
 gi_wp2
 go_ret
 exact ⟨rfl, rfl⟩
end Go.Proofs.YthhmdgmmeedhdaaGreat
namespace Go.Proofs.YthhmdgmmeedhdaaGreat
open Go.RowKit Go.Shelf
attribute [local go_sem] Oper.semAt_some
set_option maxRecDepth 100000 in
set_option maxHeartbeats 4000000 in
theorem valuesB1_in (F : Fence) (n : Nat) (h7 : F.fn 163) (hro : F.round = none) (hn : 1 ≤ n) (l Bs n₀ b off cap : Nat) (zs : List UInt8) (hreach : zs.length ≤ 140737488351232) (hb : b < n₀) (J Jx : List UInt8 → World → Prop)
  (W : World)
  (hY : ∀ pre x W, J pre W → pre.length < zs.length → YieldAt F (n - 1) Tryz.prog l #[bv x] W fun e W' =>
   (e = .returned (.bool true) ∧ J (pre ++ [x]) W' ∧ Below n₀ W W') ∨ (e = .returned (.bool false) ∧ Jx (pre ++ [x]) W'))
  (hBs : W.cell? ⟨Bs, 0, none⟩ = some (.slice (some ⟨b, off, none⟩) zs.length cap)) (hc : Octs W b off zs) (h0 : J [] W) :
  CallsIn F n Tryz.prog 163 #[.func (.yield l) #[] #[], .pointer (some ⟨Bs, 0, none⟩)] W fun e W' => (∃ v, e = .returned v) ∧
   ((∃ ys, ys = zs ∧ J ys W') ∨ (∃ pre, True ∧ Jx pre W')) := by
 refine callsIn_of_wp Tryz.func163 rfl h7 ?_ hro
 simp only [Tryz.ntmps163, List.size_toArray, List.length_cons, List.length_nil, Nat.reduceAdd, Nat.reduceSub, Array.replicate_succ, Array.replicate_zero, List.push_toArray, List.append_toArray, List.nil_append, List.cons_append]
 gi_wp2
 gi_loopw [7] (fun i wr => ∃ k : Nat, k ≤ zs.length ∧ i = .int .i64 k ∧ J (zs.take k) wr ∧ Below n₀ W wr) (fun i _ => zs.length - (intOf i).toNat)
 case atStart => exact ⟨0, Nat.zero_le _, rfl, h0, Below.refl _ _⟩
 case round =>
  obtain ⟨k, hk, rfl, hJs, hnx⟩ := hrel
  by_cases hlt : k < zs.length
  ·
   obtain ⟨x, hx⟩ : ∃ x, zs[k]? = some x := ⟨_, List.getElem?_eq_getElem hlt⟩
   have c0 := (hc.below hnx hb) k x hx
   have hk0 : (k : Int) < (zs.length : Int) := by omega
   obtain ⟨fn, tmps, assign, body, hy, hR⟩ := hY (zs.take k) x wr hJs (by simp; omega)
   have ht : zs.take (k + 1) = zs.take k ++ [x] := by rw [List.take_add_one, hx]; rfl
   rw [← ht] at hR
   clear ht
   have HX := Lib.hid hx
   clear hx
   generalize hL : zs.length = len at *
   have HL := Lib.hid hL
   clear hL
   gi_wp2
   refine hR.mono ?_
   rintro e W3 (⟨rfl, hJ3, hk3⟩ | ⟨rfl, hJx3⟩)
   ·
    gi_wp2
    go_roundw
    case rel => exact ⟨k + 1, by omega, by simp, hJ3, hnx.trans hk3⟩
    case measure => simp [intOf]; omega
   ·
    gi_wp2
    refine bodyPost_ret (results_none rfl _ _ _) rfl ?_
    exact ⟨⟨_, rfl⟩, .inr ⟨_, trivial, hJx3⟩⟩
  ·
   obtain rfl : k = zs.length := by omega
   gi_wp2
   go_end0
   rw [List.take_length] at hJs
   exact ⟨⟨_, rfl⟩, .inl ⟨_, rfl, hJs⟩⟩
set_option maxRecDepth 100000 in
set_option maxHeartbeats 1000000 in
theorem valuesB1_nil_in (F : Fence) (n : Nat) (h7 : F.fn 163) (hro : F.round = none) (l Bs : Nat) (a : Option Addr) (cap : Nat) (J : List UInt8 → World → Prop) (W : World) (hBs : W.cell? ⟨Bs, 0, none⟩ = some (.slice a 0 cap)) (h0 : J [] W) :
  CallsIn F n Tryz.prog 163 #[.func (.yield l) #[] #[], .pointer (some ⟨Bs, 0, none⟩)] W fun e W' => (∃ v, e = .returned v) ∧ J [] W' := by
 refine callsIn_of_wp Tryz.func163 rfl h7 ?_ hro
 simp only [Tryz.ntmps163, List.size_toArray, List.length_cons, List.length_nil, Nat.reduceAdd, Nat.reduceSub, Array.replicate_succ, Array.replicate_zero, List.push_toArray, List.append_toArray, List.nil_append, List.cons_append]
 gi_wp2
 gi_loopw [7] (fun i wr => i = .int .i64 0 ∧ J [] wr) (fun _ _ => 0)
 case atStart => exact ⟨rfl, h0⟩
 case round =>
  obtain ⟨rfl, hJs⟩ := hrel
  gi_wp2
  go_end0
  exact ⟨⟨_, rfl⟩, hJs⟩
set_option maxHeartbeats 1000000 in
theorem valuesB_in (F : Fence) (n : Nat) (h5 : F.fn 153) (hro : F.round = none) (a : Option Addr) (len cap : Nat) (w : World) :
  CallsIn F n Tryz.prog 153 #[.slice a len cap] w fun e w' => e = .returned (.func (.func 163) #[] #[.pointer (some ⟨w.heap.size, 0, none⟩)]) ∧ w' = w.alloc (.cells #[.slice a len cap] 95) := by
 refine callsIn_of_wp Tryz.func153 rfl h5 ?_ hro
 simp only [Tryz.ntmps153, List.size_toArray, List.length_cons, List.length_nil, Nat.reduceAdd, Nat.reduceSub, Array.replicate_succ, Array.replicate_zero, List.push_toArray, List.append_toArray, List.nil_append, List.cons_append]
 gi_wp2
 go_ret
 exact ⟨rfl, rfl⟩
theorem valuesB_stops (F : Fence) (n : Nat) (h7 : F.fn 163) (hro : F.round = none) (hn : 1 ≤ n) (Bs n₀ : Nat) (sv : Value) (zs : List UInt8) (hreach : zs.length ≤ 140737488351232) (w : World) (hn₀ : n₀ ≤ w.heap.size)
  (hk : Boxed w Bs 95 sv) (hI : BSl 0 n₀ w sv zs) :
  SeqStopsK F n Tryz.prog 163 #[.pointer (some ⟨Bs, 0, none⟩)] (fun x => #[bv x]) (Below n₀) (fun ys => ys = zs) (fun _ => True) zs.length w := fun l J Jx W hW hJ _ hY h0 => by
 have hc' := (hW.cell (p := ⟨Bs, 0, none⟩) hk.lt).trans hk.cell
 obtain ⟨a, cap, rfl, hcap, rfl | ⟨b, off, rfl, _, hb, hcs⟩⟩ := hI.below hW hn₀
 ·
  exact (valuesB1_nil_in F n h7 hro l Bs a cap J W hc' h0).mono fun e W' ⟨he, hj⟩ => ⟨he, .inl ⟨_, rfl, hj⟩⟩
 ·
  exact valuesB1_in F n h7 hro hn l Bs n₀ b off cap zs hreach hb J Jx W hY hc' hcs h0
end Go.Proofs.YthhmdgmmeedhdaaGreat
namespace Go.Proofs.YthhmdgmmeedhdaaGreat
open Go.RowKit Go.Shelf
attribute [local go_sem] Oper.semAt_some
def IntI (N : Nat) (w : World) (pre : List UInt8) (W : World) : Prop := Boxed W N 3 (.int .i64 (be pre : Nat)) ∧ Below N w W
theorem intI_own {N : Nat} {w : World} {B : Nat} (h : N ≤ w.heap.size) (hB : N ≤ B) : OwnFrom B (IntI N w) :=
 OwnFrom.and (Own.from (fun s X Y row hs hg hr => blk_own N 3 (fun s : List UInt8 => [.int .i64 (be s : Nat)]) s X Y row hs hg hr) _) (ownFrom_below h hB)
theorem BSl.take {lo hi : Nat} {W : World} {a : Option Addr} {cap : Nat} {l : List UInt8} (h : BSl lo hi W (.slice a l.length cap) l) (k : Nat) (hk : k ≤ l.length) : BSl lo hi W (.slice a k cap) (l.take k) := by
 obtain ⟨a', cap', e, hc, h0⟩ := h
 cases e
 refine ⟨a, cap, by rw [List.length_take, Nat.min_eq_left hk], by simp; omega, ?_⟩
 rcases h0 with rfl | ⟨b, off, ha, h1, h2, ho⟩
 ·
  exact .inl (by simp)
 ·
  exact .inr ⟨b, off, ha, h1, h2, fun j x hj => ho j x (by
   have hjk : j < k := by have := (List.getElem?_eq_some_iff.1 hj).1; simp at this; omega
   rwa [List.getElem?_take_of_lt hjk] at hj)⟩
set_option maxRecDepth 100000 in
set_option maxHeartbeats 4000000 in
theorem blobInt_in (m : Nat) (hm : 2 ≤ m) (l : List UInt8) (sv : Value) (w : World) (hreach : l.length ≤ 140737488351232) (hsv : BSl 0 w.heap.size w sv l) :
  CallsIn Fence.wide m Tryz.prog 136 #[sv] w fun e W' => e = .returned (.int .i64 (be (l.take 7) : Nat)) ∧ Below w.heap.size w W' := by
 have h1 : 1 ≤ m := by omega
 have hsv0 := hsv
 obtain ⟨a, cap, rfl, hcap, hcs⟩ := hsv
 clear hcs
 refine callsIn_of_wp_marks Tryz.func136 rfl trivial ?_ rfl
 simp only [Tryz.ntmps136, List.size_toArray, List.length_cons, List.length_nil, Nat.reduceAdd, Nat.reduceSub, Array.replicate_succ, Array.replicate_zero, List.push_toArray, List.append_toArray, List.nil_append, List.cons_append]
 have hN : (l.take 7).length ≤ 7 := by rw [List.length_take]; omega
 have hcase : (((l.length : Nat) : Int) ≤ 7 ∧ BSl 0 w.heap.size w (.slice a l.length cap) (l.take 7)) ∨ (¬ ((l.length : Nat) : Int) ≤ 7 ∧ BSl 0 w.heap.size w (.slice a 7 cap) (l.take 7)) := by
  by_cases h : l.length ≤ 7
  ·
   exact .inl ⟨by omega, by rw [List.take_of_length_le h]; exact hsv0⟩
  ·
   exact .inr ⟨by omega, hsv0.take 7 (by omega)⟩
 clear hsv0
 generalize l.take 7 = z at *
 rcases hcase with ⟨h7, hT⟩ | ⟨h7, hT⟩
 all_goals
  gi_wp2_with (refine ⟨trivial, ?_⟩; gi_at_call 153; refine (valuesB_in Fence.wide (m - 1) trivial rfl _ _ _ _).mono ?_; rintro e w' ⟨rfl, rfl⟩)
  generalize hW5 : World.alloc _ _ = W5
  have k0 : Boxed W5 w.heap.size 3 (.int .i64 (be [] : Nat)) := by rw [← hW5]; exact (Boxed.new _ _ (.int .i64 (be [] : Nat))).alloc _
  have k2 := show Boxed W5 (w.heap.size + 1) 95 (.slice a _ cap) by rw [← hW5]; exact Blk.new' (vs := [_]) (by simp)
  have hB0 : Below w.heap.size w W5 := by rw [← hW5]; exact chainA (chain0 _ _) _
  have hz : W5.heap.size = w.heap.size + 2 := by rw [← hW5]; simp
  clear hW5
  refine wpIn_rangeFunc_ownF (S := fun ys => ys = z) rfl h1 (gf := 163) (lb := #[.pointer (some ⟨w.heap.size + 1, 0, none⟩)]) rfl trivial (enters_of Tryz.func163 (by kernel_rfl) rfl)
   (valuesB_stops Fence.wide (m - 1) trivial rfl (by omega) (w.heap.size + 1) w.heap.size _ z (by omega) W5 (by omega) k2 (hT.below hB0 (Nat.le_refl _))) belowK_t (belowK_b (by omega)) (Below.refl _ _) (fun _ => rfl)
   (IntI w.heap.size w) (fun _ _ _ => False) (intI_own (Nat.le_refl _) (by omega)) (fun _ _ _ _ _ hs _ _ => hs)
   ⟨k0, hB0⟩ ?_ ?_ ?_ ?_ ?_
  rotate_left
  ·
   intro l x W K hK
   gi_wp2
   exact hK
  ·
   rintro r pre x W ⟨k0, hB⟩ hlt
   have co := k0.cell
   have cf := k0.frozen
   have hsn := be_snoc pre x
   have HS := Lib.hid hsn
   have hl1 : be pre ≤ 281474976710655 := by have := be_lt' (l := pre) (k := 6) (by omega); omega
   have hor := or_byte64 (a := be pre) (x := x.toNat) (by omega) x.toNat_lt
   have HO := Lib.hid hor
   clear hor hsn
   generalize be pre = y at *
   have hy : (y : Int) ≤ 281474976710655 := by omega
   have hxl := x.toNat_lt
   have hxl' : (x.toNat : Int) ≤ 255 := by omega
   gi_wp2
   rw [HO.out, ← HS.out]
   have hbw := (Below.refl w.heap.size W).setCell (p := ⟨w.heap.size, 0, none⟩) (Nat.le_refl _) (.int .i64 (be (pre ++ [x]) : Nat))
   exact ⟨KeepsOthers.setCell _ _ _, hbw, k0.set _, hB.trans hbw⟩
  ·
   rintro D ys W hD rfl ⟨k0, hB⟩ hK
   have co := k0.cell
   have HZ := Lib.hid hz
   clear hz
   gi_wp2
   have hB' := hB.trans (belowK_b (w := w) (Nat.le_refl _) _ D _ (.deferred none) (by have := HZ.out; omega) hK rfl rfl)
   refine ⟨by simp, .inl ⟨_, _, rfl, run_takeDeferred hK, ?_⟩⟩
   refine ⟨.int .i64 (be ys : Nat), ?_, ?_⟩
   ·
    simp [results, Tryz.f136, go_sem]
   ·
    exact ⟨rfl, hB'⟩
  ·
   rintro D c pre W _ _ h _
   exact h.elim
theorem blobInt_any (l : List UInt8) (sv : Value) (w : World) (hreach : l.length ≤ 140737488351232) (hsv : BSl 0 w.heap.size w sv l) :
  Calls Tryz.prog 136 #[sv] w fun e W' => e = .returned (.int .i64 (be (l.take 7) : Nat)) ∧ Below w.heap.size w W' := callsIn_wide.1 (blobInt_in 2 (by omega) l sv w hreach hsv)
end Go.Proofs.YthhmdgmmeedhdaaGreat
namespace Go.Proofs.YthhmdgmmeedhdaaGreat
open Go.RowKit
def rot (x : Int) (n : Nat) : Int := bits .or .u32 (x / (2 : Int) ^ n) (x * (2 : Int) ^ (32 - n) % 4294967296)
theorem or_comm32 (a b : Int) : bits .or .u32 a b = bits .or .u32 b a := by simp only [bits, BitVec.or_comm]
theorem mask31 (n : Nat) (h : n ∈ [2, 3, 6, 7, 10, 11, 13, 17, 18, 19, 22, 25]) : bits .and .u64 (IntKind.u64.wrap (-(n : Int))) 31 = ((32 - n : Nat) : Int) := by
 simp only [List.mem_cons, List.not_mem_nil, or_false] at h
 rcases h with rfl | rfl | rfl | rfl | rfl | rfl | rfl | rfl | rfl | rfl | rfl | rfl <;> decide
set_option maxHeartbeats 1000000 in
theorem rotateLeft_any (x : Int) (k : Int) (s : Nat) (hs : bits .and .u64 (IntKind.u64.wrap k) 31 = (s : Int)) (h0 : 1 ≤ (s : Int)) (h1 : (s : Int) ≤ 31) (w : World) : Calls Tryz.prog 155 #[.int .u32 x, .int .i64 k] w fun e w' => e = .returned (.int .u32 (rot x (32 - s))) ∧ w = w' := by
 go_enter Tryz.func155, Tryz.ntmps155
 go_wp2
 go_ret
 refine ⟨?_, rfl⟩
 have hr : rot x (32 - s) = bits .or .u32 (x * 2 ^ s % 4294967296) (x / 2 ^ (32 - s)) := by
  unfold rot
  rw [or_comm32, show 32 - (32 - s) = s by omega]
 rw [hr]
 rfl
def turns (n : Nat) : Prop := n ∈ [2, 3, 6, 7, 10, 11, 13, 17, 18, 19, 22, 25]
set_option maxHeartbeats 1000000 in
theorem rotr_any (x : Int) (n : Nat) (hn : turns n) (w : World) : Calls Tryz.prog 139 #[.int .u32 x, .int .i64 (n : Int)] w fun e w' => e = .returned (.int .u32 (rot x n)) ∧ w = w' := by
 have hs := mask31 n hn
 have hb : 1 ≤ n ∧ n ≤ 31 := by
  unfold turns at hn
  simp only [List.mem_cons, List.not_mem_nil, or_false] at hn
  omega
 obtain ⟨hb1, hb2⟩ := hb
 have HN := Lib.hid hs
 clear hs hn
 have hm : (n : Int) ≤ 31 := by omega
 go_enter Tryz.func139, Tryz.ntmps139
 go_wp2_with (go_at_call 155; refine (rotateLeft_any _ _ _ HN.out (by omega) (by omega) _).mono ?_; rintro e w' ⟨rfl, rfl⟩)
 go_ret
 have hq : 32 - (32 - n) = n := by omega
 exact ⟨congrArg (fun q => Ending.returned (.int .u32 (rot x q))) hq, rfl⟩
theorem rotr_still (x : Int) (k : Int) (n : Nat) (hn : turns n) (hk : k = (n : Int)) (w : World) : Calls Tryz.prog 139 #[.int .u32 x, .int .i64 k] w fun e w' => e = .returned (.int .u32 (rot x n)) ∧ w' = w := by
 subst hk; exact (rotr_any x n hn w).mono fun _ _ h => ⟨h.1, h.2.symm⟩
set_option maxHeartbeats 1000000 in
theorem turn_any (x : Int) (n : Nat) (hn : turns n) (w : World) : Calls Tryz.prog 142 #[.int .u32 x, .int .i64 (n : Int)] w fun e w' => e = .returned (.int .u32 (rot x n)) ∧ w = w' := by
 have hb : 1 ≤ (n : Int) ∧ (n : Int) ≤ 31 := by
  unfold turns at hn
  simp only [List.mem_cons, List.not_mem_nil, or_false] at hn
  omega
 obtain ⟨hb1, hb2⟩ := hb
 clear hn
 have hw : (32 : Int) - (n : Int) = ((32 - n : Nat) : Int) := by omega
 go_enter Tryz.func142, Tryz.ntmps142
 go_wp2
 go_ret
 exact ⟨rfl, rfl⟩
theorem turn_still (x : Int) (k : Int) (n : Nat) (hn : turns n) (hk : k = (n : Int)) (w : World) : Calls Tryz.prog 142 #[.int .u32 x, .int .i64 k] w fun e w' => e = .returned (.int .u32 (rot x n)) ∧ w' = w := by
 subst hk; exact (turn_any x n hn w).mono fun _ _ h => ⟨h.1, h.2.symm⟩
theorem t2 : turns 2 := by unfold turns; simp
theorem t6 : turns 6 := by unfold turns; simp
theorem t7 : turns 7 := by unfold turns; simp
theorem t11 : turns 11 := by unfold turns; simp
theorem t13 : turns 13 := by unfold turns; simp
theorem t17 : turns 17 := by unfold turns; simp
theorem t18 : turns 18 := by unfold turns; simp
theorem t19 : turns 19 := by unfold turns; simp
theorem t22 : turns 22 := by unfold turns; simp
theorem t25 : turns 25 := by unfold turns; simp
end Go.Proofs.YthhmdgmmeedhdaaGreat
namespace Go.Proofs.YthhmdgmmeedhdaaGreat
open Go.RowKit
def sqList : List Int := [1779033703, 3144134277, 1013904242, 2773480762, 1359893119, 2600822924, 528734635, 1541459225]
def cbList : List Int := [0x428a2f98, 0x71374491, 0xb5c0fbcf, 0xe9b5dba5, 0x3956c25b, 0x59f111f1, 0x923f82a4, 0xab1c5ed5,
 0xd807aa98, 0x12835b01, 0x243185be, 0x550c7dc3, 0x72be5d74, 0x80deb1fe, 0x9bdc06a7, 0xc19bf174,
 0xe49b69c1, 0xefbe4786, 0x0fc19dc6, 0x240ca1cc, 0x2de92c6f, 0x4a7484aa, 0x5cb0a9dc, 0x76f988da,
 0x983e5152, 0xa831c66d, 0xb00327c8, 0xbf597fc7, 0xc6e00bf3, 0xd5a79147, 0x06ca6351, 0x14292967,
 0x27b70a85, 0x2e1b2138, 0x4d2c6dfc, 0x53380d13, 0x650a7354, 0x766a0abb, 0x81c2c92e, 0x92722c85,
 0xa2bfe8a1, 0xa81a664b, 0xc24b8b70, 0xc76c51a3, 0xd192e819, 0xd6990624, 0xf40e3585, 0x106aa070,
 0x19a4c116, 0x1e376c08, 0x2748774c, 0x34b0bcb5, 0x391c0cb3, 0x4ed8aa4a, 0x5b9cca4f, 0x682e6ff3,
 0x748f82ee, 0x78a5636f, 0x84c87814, 0x8cc70208, 0x90befffa, 0xa4506ceb, 0xbef9a3f7, 0xc67178f2]
def sq (k : Nat) : Int := sqList.getD k 0
def cb (k : Nat) : Int := cbList.getD k 0
theorem us_list (l : List Int) : l.map (Value.int .u32) = us (fun k => l.getD k 0) l.length := by
 apply List.ext_getElem?
 intro j
 by_cases hj : j < l.length
 ·
  rw [us_at _ hj, List.getElem?_map, List.getElem?_eq_getElem hj]; simp [List.getD, hj]
 ·
  rw [List.getElem?_eq_none (by simp; omega), List.getElem?_eq_none (by rw [us_length]; omega)]
theorem zero8 : ((Tryz.prog.info? 142).bind (·.zero)).map (·.cells.size) = some 8 := by kernel_rfl
theorem zero64 : ((Tryz.prog.info? 143).bind (·.zero)).map (·.cells.size) = some 64 := by kernel_rfl
theorem szW : (Tryz.prog.info? 141).map (·.size) = some 1 := by kernel_rfl
theorem und8 : Tryz.prog.underlying 142 = some (.array 8 141) := by kernel_rfl
theorem und64 : Tryz.prog.underlying 143 = some (.array 64 141) := by kernel_rfl
theorem us0_8 : us (fun _ => 0) 8 = [.int .u32 0, .int .u32 0, .int .u32 0, .int .u32 0, .int .u32 0, .int .u32 0, .int .u32 0, .int .u32 0] := rfl
theorem sq_us : sqList.map (Value.int .u32) = us sq 8 := us_list sqList
theorem cb_us : cbList.map (Value.int .u32) = us cb 64 := us_list cbList
set_option maxRecDepth 100000 in
set_option maxHeartbeats 4000000 in
theorem squareRoots_any (w : World) : Calls Tryz.prog 111 #[] w fun e W' => e = .returned (uv sq 8) ∧ Below w.heap.size w W' := by
 go_enter Tryz.func111, Tryz.ntmps111
 apply wp_seq_k; intro K0 hK0
 apply wp_region_lit
 refine wpList_plain rfl fun K hK => ?_
 go_simp
 refine hK _ _ ?_
 clear hK K
 apply wpList_nil
 refine hK0 _ _ ?_
 clear hK0 K0
 apply wp_seq_k; intro K0 hK0
 apply wp_region_lit
 refine wpList_buildFlatArrTo rfl 142 141 8 _ rfl .u32 sqList (some 1) rfl und8 szW zero8 (by kernel_rfl) ?_
 rw [sq_us]
 generalize hW0 : World.alloc _ _ = W0
 have kR : Blk W0 w.heap.size 142 (us (fun _ => 0) 8) := by rw [← hW0, us0_8]; exact Blk.new' rfl
 have d0 : Below w.heap.size w W0 := by rw [← hW0]; exact chain0 _ _
 clear hW0
 refine arr_store arr8 rfl (.tmp 0) (.tmp 1) rfl w.heap.size rfl sq rfl 142 (fun _ => 0) kR ?_
 intro w5 kR5 hg5
 apply wpList_nil
 refine hK0 _ _ ?_
 clear hK0 K0
 go_wp2
 exact bodyPost_ret (v := uv sq 8) (arr_result arr8 rfl _ _ w.heap.size 142 sq rfl kR5) rfl ⟨rfl, d0.grown hg5 d0.size (fun k e => by have : w.heap.size = k := Option.some.inj e; omega)⟩
set_option maxRecDepth 100000 in
set_option maxHeartbeats 4000000 in
theorem cubeRoots_any (w : World) : Calls Tryz.prog 138 #[] w fun e W' => e = .returned (uv cb 64) ∧ Below w.heap.size w W' := by
 go_enter Tryz.func138, Tryz.ntmps138
 apply wp_seq_k; intro K0 hK0
 apply wp_region_lit
 refine wpList_plain rfl fun K hK => ?_
 go_simp
 refine hK _ _ ?_
 clear hK K
 apply wpList_nil
 refine hK0 _ _ ?_
 clear hK0 K0
 apply wp_seq_k; intro K0 hK0
 apply wp_region_lit
 refine wpList_buildFlatArrTo rfl 143 141 64 _ rfl .u32 cbList (some 1) rfl und64 szW zero64 (by kernel_rfl) ?_
 rw [cb_us]
 generalize hW0 : World.alloc _ _ = W0
 have kR : Blk W0 w.heap.size 143 (us (fun _ => 0) 64) := by rw [← hW0, us0_64]; exact Blk.new' rfl
 have d0 : Below w.heap.size w W0 := by rw [← hW0]; exact chain0 _ _
 clear hW0
 refine arr_store arr64 rfl (.tmp 0) (.tmp 1) rfl w.heap.size rfl cb rfl 143 (fun _ => 0) kR ?_
 intro w5 kR5 hg5
 apply wpList_nil
 refine hK0 _ _ ?_
 clear hK0 K0
 go_wp2
 exact bodyPost_ret (v := uv cb 64) (arr_result arr64 rfl _ _ w.heap.size 143 cb rfl kR5) rfl ⟨rfl, d0.grown hg5 d0.size (fun k e => by have : w.heap.size = k := Option.some.inj e; omega)⟩
set_option maxRecDepth 100000 in
set_option maxHeartbeats 4000000 in
theorem table_any (w : World) : Calls Tryz.prog 87 #[] w fun e W' => e = .returned (uv cb 64) ∧ Below w.heap.size w W' := by
 go_enter Tryz.func87, Tryz.ntmps87
 apply wp_seq_k; intro K0 hK0
 apply wp_region_lit
 refine wpList_plain rfl fun K hK => ?_
 go_simp
 refine hK _ _ ?_
 clear hK K
 apply wpList_nil
 refine hK0 _ _ ?_
 clear hK0 K0
 apply wp_seq_k; intro K0 hK0
 apply wp_region_lit
 refine wpList_buildFlatArrTo rfl 143 141 64 _ rfl .u32 cbList (some 1) rfl und64 szW zero64 (by kernel_rfl) ?_
 rw [cb_us]
 generalize hW0 : World.alloc _ _ = W0
 have kR : Blk W0 w.heap.size 143 (us (fun _ => 0) 64) := by rw [← hW0, us0_64]; exact Blk.new' rfl
 have d0 : Below w.heap.size w W0 := by rw [← hW0]; exact chain0 _ _
 clear hW0
 refine arr_store arr64 rfl (.tmp 0) (.tmp 1) rfl w.heap.size rfl cb rfl 143 (fun _ => 0) kR ?_
 intro w5 kR5 hg5
 apply wpList_nil
 refine hK0 _ _ ?_
 clear hK0 K0
 go_wp2
 exact bodyPost_ret (v := uv cb 64) (arr_result arr64 rfl _ _ w.heap.size 143 cb rfl kR5) rfl ⟨rfl, d0.grown hg5 d0.size (fun k e => by have : w.heap.size = k := Option.some.inj e; omega)⟩
end Go.Proofs.YthhmdgmmeedhdaaGreat
namespace Go.Proofs.YthhmdgmmeedhdaaGreat
open Go.RowKit
structure S8 where
 a : Int
 b : Int
 c : Int
 d : Int
 e : Int
 f : Int
 g : Int
 h : Int
def bs1 (e : Int) : Int := bits .xor .u32 (bits .xor .u32 (rot e 6) (rot e 11)) (rot e 25)
def bs0 (a : Int) : Int := bits .xor .u32 (bits .xor .u32 (rot a 2) (rot a 13)) (rot a 22)
def chs3 (e f g : Int) : Int := bits .xor .u32 (bits .and .u32 e f) (bits .and .u32 (bits .xor .u32 4294967295 e) g)
def maj (a b c : Int) : Int := bits .xor .u32 (bits .xor .u32 (bits .and .u32 a b) (bits .and .u32 a c)) (bits .and .u32 b c)
def tmp1 (s : S8) (k w : Int) : Int := (s.h + bs1 s.e + chs3 s.e s.f s.g + k + w) % 4294967296
def tmp2 (s : S8) : Int := (bs0 s.a + maj s.a s.b s.c) % 4294967296
def rnd (s : S8) (k w : Int) : S8 := ⟨(tmp1 s k w + tmp2 s) % 4294967296, s.a, s.b, s.c, (s.d + tmp1 s k w) % 4294967296, s.e, s.f, s.g⟩
def rds (k w : Nat → Int) (s : S8) : Nat → S8
 | 0 => s
 | n + 1 => rnd (rds k w s n) (k n) (w n)
def S8.at (s : S8) : Nat → Int
 | 0 => s.a
 | 1 => s.b
 | 2 => s.c
 | 3 => s.d
 | 4 => s.e
 | 5 => s.f
 | 6 => s.g
 | _ => s.h
def s8 (f : Nat → Int) : S8 := ⟨f 0, f 1, f 2, f 3, f 4, f 5, f 6, f 7⟩
def mixed (k w f : Nat → Int) : Nat → Int := fun i => (f i + (rds k w (s8 f) 64).at i) % 4294967296
theorem run_index_us (ty n : Nat) (hu : Tryz.prog.underlying ty = some (.array n 141)) (f : Nat → Int) (k : Nat) (hk : k < n) (w : World) : (Instr.index ty (uv f n) (.int .i64 (k : Int))).run Tryz.prog w = .ok (.int .u32 (f k)) w := by
 have hk' : (0 ≤ (k : Int) ∧ (k : Int) < (n : Int)) := by omega
 have hg : (us f n)[k]? = some (.int .u32 (f k)) := us_at f hk
 simp [Instr.index, run_underlying hu, asIntOf, hg, go_sem, hk]
end Go.Proofs.YthhmdgmmeedhdaaGreat
namespace Go.Proofs.YthhmdgmmeedhdaaGreat
open Go.RowKit
def sg0 (x : Int) : Int := bits .xor .u32 (bits .xor .u32 (rot x 7) (rot x 18)) (x / 8)
def sg1 (x : Int) : Int := bits .xor .u32 (bits .xor .u32 (rot x 17) (rot x 19)) (x / 1024)
def nwS (f : Nat → Int) (t : Nat) : Int := (sg1 (f (t - 2)) + f (t - 7) + sg0 (f (t - 15)) + f (t - 16)) % 4294967296
def sch (f : Nat → Int) : Nat → Nat → Int
 | 0 => fun t => if t < 16 then f t else 0
 | k + 1 => updI (sch f k) (k + 16) (nwS (sch f k) (k + 16))
set_option maxRecDepth 100000 in
set_option maxHeartbeats 4000000 in
theorem schedule_any (f : Nat → Int) (w : World) : Calls Tryz.prog 115 #[uv f 16] w fun e W' => e = .returned (uv (sch f 48) 64) ∧ Below w.heap.size w W' := by
 have hmx : Tryz.prog.follows .mixedOrders = true := by kernel_rfl
 go_enter Tryz.func115, Tryz.ntmps115
 go_wp2
 generalize hW0 : World.alloc _ _ = W0
 have kS : Blk W0 w.heap.size 167 (us f 16) := by rw [← hW0]; exact ((Blk.new' rfl).alloc _).alloc _
 have kR : Blk W0 (w.heap.size + 1) 143 (us (fun _ => 0) 64) := by rw [← hW0, us0_64]; exact (Blk.new' (by simp)).alloc _
 have kW : Blk W0 (w.heap.size + 1 + 1) 143 (us (fun _ => 0) 64) := by rw [← hW0, us0_64]; exact Blk.new' (by simp)
 have d0 : Below w.heap.size w W0 := by rw [← hW0]; exact chainA (chainA (chain0 _ _) _) _
 clear hW0
 refine wp_region_any hmx ?_
 change wpAny _ _ _ _ _ _ _ (World.drew _)
 refine wpAny_take (i := 0) (v := ?_) rfl (by kernel_rfl) (by kernel_rfl) (by kernel_rfl) (fun _ _ _ h => h) (Or.inl ⟨rfl, ?_⟩) ?_
 rotate_left
 ·
  intro w'; go_simp; with_reducible rfl
 refine wpAny_take (i := 1) (v := ?_) rfl (by kernel_rfl) (by kernel_rfl) (by kernel_rfl) (fun _ _ _ h => h) (Or.inl ⟨rfl, ?_⟩) ?_
 rotate_left
 ·
  intro w'; go_simp; with_reducible rfl
 refine wpAny_ready (rs := [2]) (by kernel_rfl) (by simp) ?_
 refine AllReady.cons rfl (fun K hK => ?_) AllReady.nil
 refine step_copy_splice rfl (.tmp 8) (.tmp 9) 191 191 rfl 141 (by kernel_rfl) (by kernel_rfl) (some ⟨w.heap.size + 1 + 1, 0, none⟩) (some ⟨w.heap.size, 0, none⟩) 64 64 16 16 rfl rfl (w.heap.size + 1 + 1) 0 (us (fun _ => 0) 64) 143 kW (us f 16) (by rw [us_length]; rfl)
  (fun _ => ⟨rfl, _, rfl, fun j v hj => ?_⟩) (by rw [us_length, us_length]; omega) (us_one _ _) (w.heap.size + 1 + 1) W0 ((Below.refl _ _).drew) (Nat.le_refl _) ?_
 ·
  have h16 : j < 16 := by have := (List.getElem?_eq_some_iff.1 hj).1; rwa [us_length] at this
  have hc : W0.cell? ⟨w.heap.size, 0 + j, none⟩ = some v := by rw [Nat.zero_add]; exact (kS.cell j).trans hj
  cases j <;> exact hc
 intro w4 hg4 hb4
 refine hK _ _ ?_
 clear hK K
 refine wpAny_done (by kernel_rfl) ?_ _
 have hg5 := hg4.out
 rw [us_splice _ _ (by omega)] at hg5
 have k4 : Blk w4 (w.heap.size + 1 + 1) 143 (us (sch f 0) 64) := hg5
 have kR4 := kR.below hb4 (by omega)
 have d4 : Below w.heap.size w w4 := d0.trans (hb4.mono (by omega))
 clear hg4 hg5 hb4 kS kR kW d0
 go_wp2
 go_loopw [11] (fun i wr => ∃ k : Nat, k ≤ 48 ∧ i = .int .i64 k ∧ Blk wr (w.heap.size + 1 + 1) 143 (us (sch f k) 64) ∧ Blk wr (w.heap.size + 1) 143 (us (fun _ => 0) 64) ∧ Below w.heap.size w wr) (fun i _ => 48 - (intOf i).toNat)
 case atStart => exact ⟨0, by omega, rfl, k4, kR4, d4⟩
 case round =>
  obtain ⟨k, hk, rfl, kW, kR, hB⟩ := hrel
  by_cases hlt : k < 48
  ·
   obtain ⟨T, hT⟩ : ∃ T, T = k + 16 := ⟨_, rfl⟩
   have c2 := (kW.cell (T - 2)).trans (us_at _ (by omega))
   have c15 := (kW.cell (T - 15)).trans (us_at _ (by omega))
   have c7 := (kW.cell (T - 7)).trans (us_at _ (by omega))
   have c16 := (kW.cell (T - 16)).trans (us_at _ (by omega))
   have hf := kW.frozen T
   have cT := (kW.cell T).trans (us_at _ (by omega))
   have hk0 : (k : Int) < 48 := by omega
   have hT2 : (T : Int) < 64 := by omega
   have hT3 : 16 ≤ (T : Int) := by omega
   have HT := Lib.hid hT
   clear hT
   go_wp2
   rw [show (k : Int) + 16 = (T : Int) by have := HT.out; omega]
   have l2 : IntKind.i64.wrap ((T : Int) - 2) = (T : Int) - 2 := IntWalk.i64_in _ (by omega)
   have l15 : IntKind.i64.wrap ((T : Int) - 15) = (T : Int) - 15 := IntWalk.i64_in _ (by omega)
   have b2 : 0 ≤ (T : Int) - 2 := by omega
   have b2' : (T : Int) - 2 < 64 := by omega
   have b15 : 0 ≤ (T : Int) - 15 := by omega
   have b15' : (T : Int) - 15 < 64 := by omega
   have n2 : ((T : Int) - 2).toNat = T - 2 := by omega
   have n15 : ((T : Int) - 15).toNat = T - 15 := by omega
   go_quiet (fail)
   clear l2 l15 b2 b2' b15 b15' n2 n15 c2 c15
   replace kW : Blk (wr.drewN nq) (w.heap.size + 1 + 1) 143 (us (sch f k) 64) := kW
   replace kR : Blk (wr.drewN nq) (w.heap.size + 1) 143 (us (fun _ => 0) 64) := kR
   replace hB : Below w.heap.size w (wr.drewN nq) := hB.trans ⟨rfl, rfl, rfl, Nat.le_refl _, fun _ _ => rfl⟩
   replace hf : (wr.drewN nq).frozen? ⟨w.heap.size + 1 + 1, T, none⟩ = false := hf
   replace c7 : (wr.drewN nq).cell? ⟨w.heap.size + 1 + 1, T - 7, none⟩ = some (.int .u32 (sch f k (T - 7))) := c7
   replace c16 : (wr.drewN nq).cell? ⟨w.heap.size + 1 + 1, T - 16, none⟩ = some (.int .u32 (sch f k (T - 16))) := c16
   replace cT : (wr.drewN nq).cell? ⟨w.heap.size + 1 + 1, T, none⟩ = some (.int .u32 (sch f k T)) := cT
   generalize wr.drewN nq = wq at *
   have HN := Lib.hid (show nwS (sch f k) T = (bits .xor .u32 (bits .xor .u32 (rot (sch f k (T - 2)) 17) (rot (sch f k (T - 2)) 19)) (sch f k (T - 2) / 1024) + sch f k (T - 7) + bits .xor .u32 (bits .xor .u32 (rot (sch f k (T - 15)) 7) (rot (sch f k (T - 15)) 18)) (sch f k (T - 15) / 8) + sch f k (T - 16)) % 4294967296 from rfl)
   generalize sch f k T = xT at *
   generalize sch f k (T - 2) = x2 at *
   generalize sch f k (T - 15) = x15 at *
   generalize sch f k (T - 7) = x7 at *
   generalize sch f k (T - 16) = x16 at *
   go_wp2
   have l7 : IntKind.i64.wrap ((T : Int) - 7) = (T : Int) - 7 := IntWalk.i64_in _ (by omega)
   have l16 : IntKind.i64.wrap ((T : Int) - 16) = (T : Int) - 16 := IntWalk.i64_in _ (by omega)
   have b7 : 0 ≤ (T : Int) - 7 := by omega
   have b7' : (T : Int) - 7 < 64 := by omega
   have b16 : 0 ≤ (T : Int) - 16 := by omega
   have b16' : (T : Int) - 16 < 64 := by omega
   have b7n : 7 ≤ (T : Int) := by omega
   have n7 : ((T : Int) - 7).toNat = T - 7 := by omega
   have n16 : ((T : Int) - 16).toNat = T - 16 := by omega
   go_still_tail 29, (by kernel_rfl)
   still_call (rotr_still _ _ 17 t17 rfl _)
   repeat still_step
   still_call (rotr_still _ _ 19 t19 rfl _)
   repeat still_step
   still_call (rotr_still _ _ 7 t7 rfl _)
   repeat still_step
   still_call (rotr_still _ _ 18 t18 rfl _)
   repeat still_step
   refine wpStill_nil ?_
   change wpList _ _ _ _ _ wq.drew
   clear l7 l16
   go_wp2
   rw [← HN.out]
   have hT := HT.out
   subst hT
   have kW' := kW.set (k + 16) (.int .u32 (nwS (sch f k) (k + 16)))
   rw [us_set] at kW'
   exact ⟨⟨k + 1, by omega, by simp, kW', kR.other _ _ (by omega), (hB.setCell (p := ⟨w.heap.size + 1 + 1, _, none⟩) (by simp; omega) _).drew⟩, by simp [intOf]; omega⟩
  ·
   obtain rfl : k = 48 := by omega
   go_wp2_with (first | (with_reducible refine arr_load arr64 rfl (.tmp 3) rfl (w.heap.size + 1 + 1) rfl 143 (sch f 48) kW ?_) | (with_reducible refine arr_store arr64 rfl (.tmp 2) (.tmp 54) rfl (w.heap.size + 1) rfl (sch f 48) rfl 143 (fun _ => 0) kR ?_; intro w5 kR5 hg5))
   exact bodyPost_ret (v := uv (sch f 48) 64) (arr_result arr64 rfl _ _ (w.heap.size + 1) 143 (sch f 48) rfl kR5) rfl ⟨rfl, hB.grown hg5 hB.size (fun k e => by have : w.heap.size + 1 = k := Option.some.inj e; omega)⟩
end Go.Proofs.YthhmdgmmeedhdaaGreat
namespace Go.Proofs.YthhmdgmmeedhdaaGreat
open Go.RowKit
def numR (x s j : Nat) : List Value := List.replicate j (bv 0) ++ (octs x (s - j)).map bv
theorem numR_at (x s : Nat) {j p : Nat} (h : p < j) : (numR x s j)[p]? = some (bv 0) := by
 unfold numR; rw [List.getElem?_append_left (by simpa using h)]; simp [h]
theorem numR_step (x s : Nat) {p : Nat} (h : p < s) : (numR x s (p + 1)).set p (bv (oct (x / 256 ^ (s - (p + 1))) 0)) = numR x s p := by
 unfold numR
 have e : s - p = (s - (p + 1)) + 1 := by omega
 rw [e, octs]
 have e2 : oct (x / 256 ^ (s - (p + 1))) 0 = oct x (s - (p + 1)) := by
  unfold oct
  rw [show 2 ^ ((s - (p + 1)) * 8) = 256 ^ (s - (p + 1)) by rw [Nat.mul_comm, Nat.pow_mul]]
  simp
 rw [e2, List.replicate_succ', List.append_assoc, List.set_append_right _ _ (by simp)]
 simp
set_option maxRecDepth 100000 in
set_option maxHeartbeats 4000000 in
theorem refNum_any (n size : Int) (hs : -9223372036854775808 ≤ size) (hs' : size ≤ 9223372036854775807) (w : World) :
  Calls Tryz.prog 122 #[.int .i64 n, .int .i64 size] w (ByW (octs (two n) (clamp size)) w) := by
 obtain ⟨i0, hi, hz0, hz1, hz2⟩ := info_parts Tryz.infoByte
 have hU : IntKind.u64.wrap n = (two n : Nat) := wrap_two n
 have hx : two n < M := by unfold two M; omega
 generalize two n = x at *
 have H8 := clamp_le size
 have hCC := clamp_cases size
 generalize clamp size = s at *
 go_enter Tryz.func122, Tryz.ntmps122
 rcases hCC with ⟨hc0, hC⟩ | ⟨hc0, hc8, hC⟩ | ⟨hc8, hC⟩
 all_goals
  have HC := Lib.hid hC
  clear hC
  go_wp2_with (at_make; refine wpList_make_full _ rfl _ _ 95 rfl w.heap.size 5 i0 (.int .u8 0) 1 Tryz.underlying95 hi hz0 hz1 .i64 .i64 _ _ s rfl rfl HC.out.symm HC.out.symm (by rw [hz2]; omega) (by unfold maxLen; omega) (Nat.le_refl _) ?_; intro w1 hown hgrow)
  have hown0 : w1.ownsRow w.heap.size 5 1 (.slice (some ⟨w.heap.size, 0, none⟩) s s) s (numR x s s) := by
   have e : (madeCells (Value.int .u8 0).cells (s * 1)).toList = numR x s s := by
    rw [Nat.mul_one]
    refine (toList_madeCells_one (.int .u8 0) s).trans ?_
    unfold numR
    simp [octs]
   rw [← e]; exact hown
  have hB0 : Below w.heap.size w w1 := (Below.refl _ w).grown hgrow (Nat.le_refl _) (fun k e => by cases e)
  have hs8 : (s : Int) ≤ 8 := by omega
  clear hown hgrow
  go_loopw [6, 7] (fun u i wr => ∃ j : Nat, j ≤ s ∧ i = .int .i64 ((j : Int) - 1) ∧ u = .int .u64 (x / 256 ^ (s - j) : Nat) ∧ wr.ownsRow w.heap.size 5 1 (.slice (some ⟨w.heap.size, 0, none⟩) s s) s (numR x s j) ∧ Below w.heap.size w wr) (fun _ i _ => ((intOf i) + 1).toNat)
  case atStart => exact ⟨s, Nat.le_refl _, by have := HC.out; congr 1; omega, by rw [Nat.sub_self, Nat.pow_zero, Nat.div_one], hown0, hB0⟩
  case round =>
   obtain ⟨j, hj, rfl, rfl, hown, hB⟩ := hrel
   rcases j with _ | p
   ·
    have e0 : ((0 : Nat) : Int) - 1 = -1 := by omega
    rw [e0]
    go_wp2
    go_ret
    refine ⟨_, rfl, BSl.of_own (e := 5) (l := octs x s) ?_, hB⟩
    rw [octs_length]
    exact hown
   ·
    have hps : p < s := by omega
    have e1 : ((p + 1 : Nat) : Int) - 1 = (p : Int) := by omega
    have hst := numR_step x s hps
    have HS := Lib.hid hst
    clear hst
    have hc := hown.cellAt p (by omega)
    rw [numR_at x s (Nat.lt_succ_self p)] at hc
    have hf := hown.frozenAt p
    have hd : x / 256 ^ (s - (p + 1)) / 256 = x / 256 ^ (s - p) := by
     rw [Nat.div_div_eq_div_mul, ← Nat.pow_succ, show (s - (p + 1)).succ = s - p by omega]
    have HD := Lib.hid hd
    clear hd
    have hy : x / 256 ^ (s - (p + 1)) ≤ 18446744073709551615 := Nat.le_trans (Nat.div_le_self _ _) (by unfold M at hx; omega)
    have hp8 : (p : Int) < (s : Int) := by omega
    generalize x / 256 ^ (s - (p + 1)) = y at *
    have hy' : (y : Int) ≤ 18446744073709551615 := by omega
    rw [e1]
    clear e1
    go_wp2
    have hv : Value.int .u8 ((y : Int) % 256) = bv (oct y 0) := by rw [oct_bv]; simp
    have hown2 := (hown.stored p (bv (oct y 0))).1
    rw [HS.out] at hown2
    rw [hv]
    exact ⟨⟨p, by omega, rfl, by rw [← HD.out]; simp, hown2, hB.setCell (p := ⟨w.heap.size, p, none⟩) (Nat.le_refl _) _⟩, by simp [intOf]⟩
set_option maxRecDepth 100000 in
set_option maxHeartbeats 4000000 in
theorem refInt_any (l : List UInt8) (sv : Value) (w : World) (hreach : l.length ≤ 140737488351232) (hsv : BSl 0 w.heap.size w sv l) :
  Calls Tryz.prog 141 #[sv] w fun e W' => e = .returned (.int .i64 (be (l.take 7) : Nat)) ∧ W' = w := by
 obtain ⟨a, cap, rfl, hcap, hcs⟩ := hsv
 go_enter Tryz.func141, Tryz.ntmps141
 go_wp2
 go_loop [3, 4] (fun n i => ∃ k : Nat, k ≤ l.length ∧ k ≤ 7 ∧ i = .int .i64 k ∧ n = .int .i64 (be (l.take k) : Nat)) (fun _ i => l.length - (intOf i).toNat)
 case atStart => exact ⟨0, by omega, by omega, rfl, rfl⟩
 case round =>
  obtain ⟨k, hk, hk7, rfl, rfl⟩ := hrel
  have hbl := be_lt' (l := l.take k) (k := 7) (by rw [List.length_take]; omega)
  by_cases hlt : k < l.length
  ·
   by_cases h7 : k < 7
   ·
    obtain ⟨x, hx⟩ : ∃ x, l[k]? = some x := ⟨_, List.getElem?_eq_getElem hlt⟩
    obtain ⟨b, off, rfl, ho⟩ : ∃ b off, a = some ⟨b, off, none⟩ ∧ Octs w b off l := by
     rcases hcs with h0 | ⟨b, off, h1, _, _, h2⟩
     ·
      rw [h0] at hlt; simp at hlt
     ·
      exact ⟨b, off, h1, h2⟩
    have hc := ho k x hx
    have hs : be (l.take (k + 1)) = be (l.take k) * 256 + x.toNat := by
     rw [List.take_add_one, hx]; exact be_snoc _ _
    have HS := Lib.hid hs
    have HX := Lib.hid hx
    have hb6 := be_lt' (l := l.take k) (k := 6) (by rw [List.length_take]; omega)
    have hb6' : ((be (l.take k) : Nat) : Int) ≤ 281474976710655 := by omega
    clear hs hx ho hcs hbl hb6
    have hxl : (x.toNat : Int) ≤ 255 := by have := x.toNat_lt; omega
    have hlt' : (k : Int) < (l.length : Int) := by omega
    have h7' : (k : Int) < 7 := by omega
    have hd1 : decide ((k : Int) < (l.length : Int)) = true := by simpa using hlt
    generalize hL : l.length = len at *
    have HL := Lib.hid hL
    clear hL
    generalize be (l.take k) = y at *
    go_wp2
    go_round
    case rel => exact ⟨k + 1, by omega, by omega, by simp, by rw [HS.out]; simp⟩
    case measure => simp [intOf]; omega
   ·
    obtain rfl : k = 7 := by omega
    have hlt' : (7 : Int) < (l.length : Int) := by omega
    go_wp2
    go_ret
    exact ⟨rfl, rfl⟩
  ·
   obtain rfl : k = l.length := by omega
   have e7 : be (l.take l.length) = be (l.take 7) := by rw [List.take_of_length_le hk7, List.take_length]
   rw [e7]
   have HE := Lib.hid e7
   clear e7
   have hL : ((l.length : Nat) : Int) ≤ 7 := by omega
   clear hbl
   generalize hY : be (l.take 7) = y at *
   have HY := Lib.hid hY
   clear hY
   go_wp2
   go_ret
   exact ⟨congrArg (fun z : Nat => Ending.returned (.int .i64 (z : Int))) HY.out.symm, rfl⟩
end Go.Proofs.YthhmdgmmeedhdaaGreat
namespace Go.Proofs.YthhmdgmmeedhdaaGreat
open Go.RowKit
def wd (l : List UInt8) (t : Nat) : Int := (be ((l.drop (4 * t)).take 4) : Nat)
def wst (f : Nat → Int) (t : Nat) : Nat → Int := if t ≤ 16 then (fun i => if i < t then f i else 0) else sch f (t - 16)
theorem wst_low {f : Nat → Int} {t : Nat} (h : t < 16) : us (updI (wst f t) t (f t)) 64 = us (wst f (t + 1)) 64 := us_congr fun k _ => by
 unfold wst updI
 rw [if_pos (show t ≤ 16 by omega), if_pos (show t + 1 ≤ 16 by omega)]
 by_cases e : k = t
 ·
  subst e; simp
 ·
  rw [if_neg e]
  show (if k < t then f k else 0) = if k < t + 1 then f k else 0
  by_cases e2 : k < t
  ·
   rw [if_pos e2, if_pos (by omega)]
  ·
   rw [if_neg e2, if_neg (by omega)]
theorem wst_high {f : Nat → Int} {t : Nat} (h : 16 ≤ t) : wst f t = sch f (t - 16) := by
 unfold wst
 by_cases e : t ≤ 16
 ·
  have : t = 16 := by omega
  subst this
  rfl
 ·
  rw [if_neg e]
theorem sch_succ {f : Nat → Int} {t : Nat} (h : 16 ≤ t) : sch f (t + 1 - 16) = updI (sch f (t - 16)) t (nwS (sch f (t - 16)) t) := by
 obtain ⟨k, rfl⟩ : ∃ k, t = k + 16 := ⟨t - 16, by omega⟩
 rw [show k + 16 + 1 - 16 = k + 1 by omega, show k + 16 - 16 = k by omega]
 rfl
theorem sub_octs {W : World} {b off : Nat} {l : List UInt8} (h : Octs W b off l) (i n : Nat) : Octs W b (off + i) ((l.drop i).take n) := fun k x hx => by
 have hk : k < n := by
  have := (List.getElem?_eq_some_iff.1 hx).1
  rw [List.length_take] at this
  omega
 rw [List.getElem?_take_of_lt hk, List.getElem?_drop] at hx
 rw [Nat.add_assoc]
 exact h _ x hx
theorem sub_bsl {W : World} {b off cap hi : Nat} {l : List UInt8} (h : Octs W b off l) (hb : b < hi) (i n : Nat) (hl : i + n ≤ l.length) (hc : n ≤ cap) : BSl 0 hi W (.slice (some ⟨b, off + i, none⟩) n cap) ((l.drop i).take n) :=
 ⟨_, cap, by rw [show ((l.drop i).take n).length = n by simp; omega], by simp; omega, .inr ⟨b, _, rfl, Nat.zero_le _, hb, sub_octs h i n⟩⟩
theorem wd_be {l : List UInt8} (t : Nat) : ((be (((l.drop (4 * t)).take 4).take 7) : Nat) : Int) = wd l t ∧ 0 ≤ wd l t ∧ wd l t ≤ 4294967295 := by
 have hle : ((l.drop (4 * t)).take 4).length ≤ 4 := by simp; omega
 have := be_lt' hle
 rw [List.take_of_length_le (by omega)]
 unfold wd
 omega
theorem us8 (g : Nat → Int) : us g 8 = [.int .u32 (g 0), .int .u32 (g 1), .int .u32 (g 2), .int .u32 (g 3), .int .u32 (g 4), .int .u32 (g 5), .int .u32 (g 6), .int .u32 (g 7)] := rfl
set_option maxRecDepth 100000 in
set_option maxHeartbeats 8000000 in
theorem refBlock_any (f kk : Nat → Int) (l : List UInt8) (hl : l.length = 64) (b off cap : Nat) (hcap : 64 ≤ cap) (hcap' : cap ≤ 9223372036854775807) (w : World) (hb : b < w.heap.size) (ho : Octs w b off l) :
  Calls Tryz.prog 120 #[uv f 8, uv kk 64, .slice (some ⟨b, off, none⟩) 64 cap] w fun e W' => e = .returned (uv (mixed kk (sch (wd l) 48) f) 8) ∧ Below w.heap.size w W' := by
 have HL := Lib.hid hl
 clear hl
 go_enter Tryz.func120, Tryz.ntmps120
 go_wp2
 generalize hW0 : World.alloc _ _ = W0
 have kS : Blk W0 w.heap.size 142 (us f 8) := by rw [← hW0]; exact (((Blk.new' rfl).alloc _).alloc _).alloc _
 have kK : Blk W0 (w.heap.size + 1) 143 (us kk 64) := by rw [← hW0]; exact ((Blk.new' (by simp)).alloc _).alloc _
 have kR : Blk W0 (w.heap.size + 1 + 1) 142 (us (fun _ => 0) 8) := by rw [← hW0, us0_8]; exact (Blk.new' (by simp)).alloc _
 have kW : Blk W0 (w.heap.size + 1 + 1 + 1) 143 (us (fun _ => 0) 64) := by rw [← hW0, us0_64]; exact Blk.new' (by simp)
 have d0 : Below w.heap.size w W0 := by rw [← hW0]; exact chainA (chainA (chainA (chain0 _ _) _) _) _
 clear hW0
 go_loopw [8] (fun i wr => ∃ t : Nat, t ≤ 64 ∧ i = .int .i64 t ∧ Blk wr w.heap.size 142 (us f 8) ∧ Blk wr (w.heap.size + 1) 143 (us kk 64) ∧ Blk wr (w.heap.size + 1 + 1) 142 (us (fun _ => 0) 8) ∧
  Blk wr (w.heap.size + 1 + 1 + 1) 143 (us (wst (wd l) t) 64) ∧ Below w.heap.size w wr) (fun i _ => 64 - (intOf i).toNat)
 case atStart => exact ⟨0, by omega, rfl, kS, kK, kR, kW, d0⟩
 case round =>
  obtain ⟨t, ht, rfl, kS, kK, kR, kW, hB⟩ := hrel
  by_cases hlt : t < 64
  ·
   by_cases h16 : t < 16
   ·
    have hf := kW.frozen t
    have cT := (kW.cell t).trans (us_at _ (by omega))
    have i1 : (t : Int) < 64 := by omega
    have i2 : (t : Int) < 16 := by omega
    have i3 : (0 : Int) ≤ 4 * (t : Int) := by omega
    have i4 : 4 * (t : Int) + 4 ≤ (cap : Int) := by omega
    have i5 : 4 * (t : Int) ≤ 4 * (t : Int) + 4 := by omega
    have hne : ¬ cap = 4 * t := by omega
    have n1 : (4 * (t : Int)).toNat = 4 * t := by omega
    go_wp2_with fail
    refine (refInt_any ((l.drop (4 * t)).take 4) _ _ (by simp; omega) (sub_bsl (ho.below hB hb) (Nat.lt_of_lt_of_le hb hB.size) (4 * t) 4 (by rw [HL.out]; omega) (by omega))).mono ?_
    rintro e w' ⟨rfl, rfl⟩
    obtain ⟨hw, hw0, hw1⟩ := wd_be (l := l) t
    rw [hw]
    have HW := Lib.hid (wst_low (f := wd l) h16)
    clear hw
    generalize hx : wd l t = x at *
    have HX := Lib.hid hx
    clear hx i3 i4 i5 n1 hne
    go_wp2_with fail
    have kW' := kW.set t (.int .u32 x)
    rw [us_set, HW.out] at kW'
    exact ⟨⟨t + 1, by omega, by simp, kS.other _ _ (by omega), kK.other _ _ (by omega), kR.other _ _ (by omega), kW', hB.setCell (p := ⟨w.heap.size + 1 + 1 + 1, _, none⟩) (by simp; omega) _⟩, by simp [intOf]; omega⟩
   ·
    have HS := Lib.hid (sch_succ (f := wd l) (t := t) (by omega))
    have HW := Lib.hid (wst_high (f := wd l) (t := t + 1) (by omega))
    rw [wst_high (by omega)] at kW
    generalize hF : sch (wd l) (t - 16) = F at *
    have HF := Lib.hid hF
    clear hF
    have c2 := (kW.cell (t - 2)).trans (us_at _ (by omega))
    have c15 := (kW.cell (t - 15)).trans (us_at _ (by omega))
    have c7 := (kW.cell (t - 7)).trans (us_at _ (by omega))
    have c16 := (kW.cell (t - 16)).trans (us_at _ (by omega))
    have cT := (kW.cell t).trans (us_at _ (by omega))
    have hf := kW.frozen t
    have hT2 : (t : Int) < 64 := by omega
    have hT3 : 16 ≤ (t : Int) := by omega
    have hT4 : ¬ (t : Int) < 16 := by omega
    go_wp2_with fail
    have l2 : IntKind.i64.wrap ((t : Int) - 2) = (t : Int) - 2 := IntWalk.i64_in _ (by omega)
    have l15 : IntKind.i64.wrap ((t : Int) - 15) = (t : Int) - 15 := IntWalk.i64_in _ (by omega)
    have b2 : 0 ≤ (t : Int) - 2 := by omega
    have b2' : (t : Int) - 2 < 64 := by omega
    have b15 : 0 ≤ (t : Int) - 15 := by omega
    have b15' : (t : Int) - 15 < 64 := by omega
    have n2 : ((t : Int) - 2).toNat = t - 2 := by omega
    have n15 : ((t : Int) - 15).toNat = t - 15 := by omega
    go_quiet (fail)
    clear l2 l15 b2 b2' b15 b15' n2 n15 c2 c15
    replace kS : Blk (wr.drewN nq) w.heap.size 142 (us f 8) := kS
    replace kK : Blk (wr.drewN nq) (w.heap.size + 1) 143 (us kk 64) := kK
    replace kW : Blk (wr.drewN nq) (w.heap.size + 1 + 1 + 1) 143 (us F 64) := kW
    replace kR : Blk (wr.drewN nq) (w.heap.size + 1 + 1) 142 (us (fun _ => 0) 8) := kR
    replace hB : Below w.heap.size w (wr.drewN nq) := hB.trans (below_drewN _ _)
    replace hf : (wr.drewN nq).frozen? ⟨w.heap.size + 1 + 1 + 1, t, none⟩ = false := hf
    replace c7 : (wr.drewN nq).cell? ⟨w.heap.size + 1 + 1 + 1, t - 7, none⟩ = some (.int .u32 (F (t - 7))) := c7
    replace c16 : (wr.drewN nq).cell? ⟨w.heap.size + 1 + 1 + 1, t - 16, none⟩ = some (.int .u32 (F (t - 16))) := c16
    replace cT : (wr.drewN nq).cell? ⟨w.heap.size + 1 + 1 + 1, t, none⟩ = some (.int .u32 (F t)) := cT
    generalize wr.drewN nq = wq at *
    have HN := Lib.hid (show nwS F t = (bits .xor .u32 (bits .xor .u32 (rot (F (t - 2)) 17) (rot (F (t - 2)) 19)) (F (t - 2) / 1024) + F (t - 7) + bits .xor .u32 (bits .xor .u32 (rot (F (t - 15)) 7) (rot (F (t - 15)) 18)) (F (t - 15) / 8) + F (t - 16)) % 4294967296 from rfl)
    generalize F t = xT at *
    generalize F (t - 2) = x2 at *
    generalize F (t - 15) = x15 at *
    generalize F (t - 7) = x7 at *
    generalize F (t - 16) = x16 at *
    go_wp2
    have l7 : IntKind.i64.wrap ((t : Int) - 7) = (t : Int) - 7 := IntWalk.i64_in _ (by omega)
    have l16 : IntKind.i64.wrap ((t : Int) - 16) = (t : Int) - 16 := IntWalk.i64_in _ (by omega)
    have b7 : 0 ≤ (t : Int) - 7 := by omega
    have b7' : (t : Int) - 7 < 64 := by omega
    have b16 : 0 ≤ (t : Int) - 16 := by omega
    have b16' : (t : Int) - 16 < 64 := by omega
    have b7n : 7 ≤ (t : Int) := by omega
    have n7 : ((t : Int) - 7).toNat = t - 7 := by omega
    have n16 : ((t : Int) - 16).toNat = t - 16 := by omega
    go_still_tail 29, (by kernel_rfl)
    still_call (turn_still _ _ 17 t17 rfl _)
    repeat still_step
    still_call (turn_still _ _ 19 t19 rfl _)
    repeat still_step
    still_call (turn_still _ _ 7 t7 rfl _)
    repeat still_step
    still_call (turn_still _ _ 18 t18 rfl _)
    repeat still_step
    refine wpStill_nil ?_
    change wpList _ _ _ _ _ wq.drew
    clear l7 l16
    go_wp2
    rw [← HN.out]
    have kW' := kW.set t (.int .u32 (nwS F t))
    rw [us_set, ← HS.out, ← HW.out] at kW'
    exact ⟨⟨t + 1, by omega, by simp, kS.other _ _ (by omega), kK.other _ _ (by omega), kR.other _ _ (by omega), kW', (hB.setCell (p := ⟨w.heap.size + 1 + 1 + 1, _, none⟩) (by simp; omega) _).drew⟩, by simp [intOf]; omega⟩
  ·
   have hT : ¬ (t : Int) < 64 := by omega
   have ht' : t - 16 = 48 := by omega
   rw [wst_high (by omega), ht'] at kW
   generalize hm : sch (wd l) 48 = m at *
   have HMM := Lib.hid hm
   clear hm ht hlt ht'
   have q0 := (kS.cell 0).trans (us_at _ (by omega))
   have q1 := (kS.cell 1).trans (us_at _ (by omega))
   have q2 := (kS.cell 2).trans (us_at _ (by omega))
   have q3 := (kS.cell 3).trans (us_at _ (by omega))
   have q4 := (kS.cell 4).trans (us_at _ (by omega))
   have q5 := (kS.cell 5).trans (us_at _ (by omega))
   have q6 := (kS.cell 6).trans (us_at _ (by omega))
   have q7 := (kS.cell 7).trans (us_at _ (by omega))
   go_wp2_with fail
   go_quiet (fail)
   replace kS : Blk (wr.drewN nq) w.heap.size 142 (us f 8) := kS
   replace kK : Blk (wr.drewN nq) (w.heap.size + 1) 143 (us kk 64) := kK
   replace kW : Blk (wr.drewN nq) (w.heap.size + 1 + 1 + 1) 143 (us m 64) := kW
   replace kR : Blk (wr.drewN nq) (w.heap.size + 1 + 1) 142 (us (fun _ => 0) 8) := kR
   replace hB : Below w.heap.size w (wr.drewN nq) := hB.trans (below_drewN _ _)
   clear q0 q1 q2 q3 q4 q5 q6 q7
   generalize wr.drewN nq = wq at *
   go_wp2_with fail
   go_loopw [11, 12, 13, 14, 15, 16, 17, 18, 19] (fun a b c d e f' g h i wr => ∃ (k : Nat) (s : S8), k ≤ 64 ∧ Hid (s = rds kk m (s8 f) k) ∧ i = .int .i64 k ∧ a = .int .u32 s.a ∧ b = .int .u32 s.b ∧ c = .int .u32 s.c ∧ d = .int .u32 s.d ∧ e = .int .u32 s.e ∧ f' = .int .u32 s.f ∧ g = .int .u32 s.g ∧ h = .int .u32 s.h ∧
    Blk wr w.heap.size 142 (us f 8) ∧ Blk wr (w.heap.size + 1) 143 (us kk 64) ∧ Blk wr (w.heap.size + 1 + 1) 142 (us (fun _ => 0) 8) ∧ Blk wr (w.heap.size + 1 + 1 + 1) 143 (us m 64) ∧ Below w.heap.size w wr) (fun _ _ _ _ _ _ _ _ i _ => 64 - (intOf i).toNat)
   case atStart => exact ⟨0, s8 f, by omega, Lib.hid rfl, rfl, rfl, rfl, rfl, rfl, rfl, rfl, rfl, rfl, kS, kK, kR, kW, hB⟩
   clear kS kK kW kR hB
   case round =>
    obtain ⟨k, ⟨a, b', c, d, e, f', g, h⟩, hk, HS, rfl, rfl, rfl, rfl, rfl, rfl, rfl, rfl, rfl, kS, kK, kR, kW, hB⟩ := hrel
    dsimp only
    by_cases hlt : k < 64
    ·
     have cM := (kW.cell k).trans (us_at _ hlt)
     have cK := (kK.cell k).trans (us_at _ hlt)
     have hk0 : (k : Int) < 64 := by omega
     go_wp2_with fail
     refine wp_region_still_lit (by kernel_rfl) (by kernel_rfl) ?_
     repeat still_step
     still_call (turn_still _ _ 6 t6 rfl _)
     repeat still_step
     still_call (turn_still _ _ 11 t11 rfl _)
     repeat still_step
     still_call (turn_still _ _ 25 t25 rfl _)
     repeat still_step
     refine wpStill_nil ?_
     generalize hx1 : IntKind.u32.wrap (IntKind.u32.wrap (IntKind.u32.wrap (IntKind.u32.wrap (h + _) + _) + kk k) + m k) = x1
     have HX1 : Hid (tmp1 ⟨a, b', c, d, e, f', g, h⟩ (kk k) (m k) = x1) := Lib.hid (by
      rw [← hx1]; simp only [tmp1, bs1, chs3, IntKind.wrap_u32, Int.emod_add_emod])
     clear hx1
     replace kS : Blk wr.drew w.heap.size 142 (us f 8) := kS
     replace kK : Blk wr.drew (w.heap.size + 1) 143 (us kk 64) := kK
     replace kR : Blk wr.drew (w.heap.size + 1 + 1) 142 (us (fun _ => 0) 8) := kR
     replace kW : Blk wr.drew (w.heap.size + 1 + 1 + 1) 143 (us m 64) := kW
     replace hB : Below w.heap.size w wr.drew := hB.drew
     change Exit.then _ _ _ _ wr.drew
     generalize wr.drew = wq at *
     clear cM cK
     go_wp2_with fail
     refine (turn_still _ _ 2 t2 rfl _).mono ?_
     rintro e' w' ⟨rfl, rfl⟩
     go_wp2_with fail
     refine (turn_still _ _ 13 t13 rfl _).mono ?_
     rintro e' w' ⟨rfl, rfl⟩
     go_wp2_with fail
     refine (turn_still _ _ 22 t22 rfl _).mono ?_
     rintro e' w' ⟨rfl, rfl⟩
     go_wp2_with fail
     exact ⟨⟨k + 1, rnd ⟨a, b', c, d, e, f', g, h⟩ (kk k) (m k), by omega, Lib.hid (by rw [HS.out]; rfl), by simp, by rw [← HX1.out]; rfl, rfl, rfl, rfl, by rw [← HX1.out]; rfl, rfl, rfl, rfl, kS, kK, kR, kW, hB⟩, by simp [intOf]; omega⟩
    ·
     obtain rfl : k = 64 := by omega
     have q0 := (kS.cell 0).trans (us_at _ (by omega))
     have q1 := (kS.cell 1).trans (us_at _ (by omega))
     have q2 := (kS.cell 2).trans (us_at _ (by omega))
     have q3 := (kS.cell 3).trans (us_at _ (by omega))
     have q4 := (kS.cell 4).trans (us_at _ (by omega))
     have q5 := (kS.cell 5).trans (us_at _ (by omega))
     have q6 := (kS.cell 6).trans (us_at _ (by omega))
     have q7 := (kS.cell 7).trans (us_at _ (by omega))
     have hM : mixed kk m f = fun i => (f i + S8.at ⟨a, b', c, d, e, f', g, h⟩ i) % 4294967296 := by unfold mixed; rw [← HS.out]
     have HM := Lib.hid hM
     clear hM
     obtain ⟨r0, r1, r2, r3, r4, r5, r6, r7⟩ : wr.cell? ⟨w.heap.size + 1 + 1, 0, none⟩ = some (.int .u32 0) ∧ wr.cell? ⟨w.heap.size + 1 + 1, 1, none⟩ = some (.int .u32 0) ∧ wr.cell? ⟨w.heap.size + 1 + 1, 2, none⟩ = some (.int .u32 0) ∧ wr.cell? ⟨w.heap.size + 1 + 1, 3, none⟩ = some (.int .u32 0) ∧ wr.cell? ⟨w.heap.size + 1 + 1, 4, none⟩ = some (.int .u32 0) ∧ wr.cell? ⟨w.heap.size + 1 + 1, 5, none⟩ = some (.int .u32 0) ∧ wr.cell? ⟨w.heap.size + 1 + 1, 6, none⟩ = some (.int .u32 0) ∧ wr.cell? ⟨w.heap.size + 1 + 1, 7, none⟩ = some (.int .u32 0) :=
      ⟨kR.cell 0, kR.cell 1, kR.cell 2, kR.cell 3, kR.cell 4, kR.cell 5, kR.cell 6, kR.cell 7⟩
     have f0 := kR.frozen 0
     have f1 := kR.frozen 1
     have f2 := kR.frozen 2
     have f3 := kR.frozen 3
     have f4 := kR.frozen 4
     have f5 := kR.frozen 5
     have f6 := kR.frozen 6
     have f7 := kR.frozen 7
     go_wp2_with fail
     have kR5 := (((((((kR.set 0 (.int .u32 ((f 0 + a) % 4294967296))).set 1 (.int .u32 ((f 1 + b') % 4294967296))).set 2 (.int .u32 ((f 2 + c) % 4294967296))).set 3 (.int .u32 ((f 3 + d) % 4294967296))).set 4 (.int .u32 ((f 4 + e) % 4294967296))).set 5 (.int .u32 ((f 5 + f') % 4294967296))).set 6 (.int .u32 ((f 6 + g) % 4294967296))).set 7 (.int .u32 ((f 7 + h) % 4294967296))
     rw [us0_8] at kR5
     simp only [List.set_cons_zero, List.set_cons_succ] at kR5
     have hlist : [.int .u32 ((f 0 + a) % 4294967296), .int .u32 ((f 1 + b') % 4294967296), .int .u32 ((f 2 + c) % 4294967296), .int .u32 ((f 3 + d) % 4294967296), .int .u32 ((f 4 + e) % 4294967296), .int .u32 ((f 5 + f') % 4294967296), .int .u32 ((f 6 + g) % 4294967296), .int .u32 ((f 7 + h) % 4294967296)] = us (mixed kk m f) 8 := by rw [HM.out, us8]; simp only [S8.at]
     rw [hlist] at kR5
     have hB5 := (((((((hB.setCell (p := ⟨w.heap.size + 1 + 1, 0, none⟩) (by simp; omega) (.int .u32 ((f 0 + a) % 4294967296))).setCell (p := ⟨w.heap.size + 1 + 1, 1, none⟩) (by simp; omega) (.int .u32 ((f 1 + b') % 4294967296))).setCell (p := ⟨w.heap.size + 1 + 1, 2, none⟩) (by simp; omega) (.int .u32 ((f 2 + c) % 4294967296))).setCell (p := ⟨w.heap.size + 1 + 1, 3, none⟩) (by simp; omega) (.int .u32 ((f 3 + d) % 4294967296))).setCell (p := ⟨w.heap.size + 1 + 1, 4, none⟩) (by simp; omega) (.int .u32 ((f 4 + e) % 4294967296))).setCell (p := ⟨w.heap.size + 1 + 1, 5, none⟩) (by simp; omega) (.int .u32 ((f 5 + f') % 4294967296))).setCell (p := ⟨w.heap.size + 1 + 1, 6, none⟩) (by simp; omega) (.int .u32 ((f 6 + g) % 4294967296))).setCell (p := ⟨w.heap.size + 1 + 1, 7, none⟩) (by simp; omega) (.int .u32 ((f 7 + h) % 4294967296))
     exact bodyPost_ret (v := uv (mixed kk m f) 8) (arr_result arr8 rfl _ _ (w.heap.size + 1 + 1) 142 (mixed kk m f) rfl kR5) rfl ⟨by rw [HMM.out], hB5⟩
end Go.Proofs.YthhmdgmmeedhdaaGreat
namespace Go.Proofs.YthhmdgmmeedhdaaGreat
open Go.RowKit Go.Shelf
def NoneW (w : World) (e : Ending) (W' : World) : Prop := ∃ v, e = .returned v ∧ W'.ownsRow w.heap.size 5 1 v 0 [] ∧ Below w.heap.size w W'
set_option maxRecDepth 100000 in
set_option maxHeartbeats 1000000 in
theorem grow_any (n : Nat) (hn : n ≤ 140737488355328) (w : World) : Calls Tryz.prog 154 #[.slice none 0 0, .int .i64 (n : Int)] w (NoneW w) := by
 obtain ⟨i0, hi, hz0, hz1, hz2⟩ := info_parts Tryz.infoByte
 have hn' : (n : Int) ≤ 140737488355328 := by omega
 by_cases h0 : n = 0
 ·
  subst h0
  go_enter Tryz.func154, Tryz.ntmps154
  go_wp2
  go_ret
  exact ⟨_, rfl, World.ownsRow_nil _ _ _ _, Below.refl _ _⟩
 ·
  have h1 : 0 < n := by omega
  have h2 : 0 < (n : Int) := by omega
  have hr := Lib.run_append_nil_zeros (P := Tryz.prog) w 95 3 95 5 i0 (.int .u8 0) .i64 .i64 Tryz.underlying95 Tryz.underlying3 hi hz0 n h1 (by omega) (by omega) (by rw [hz2]; omega)
  have hg : n ≤ grownCap w n 0 5 ∧ grownCap w n 0 5 ≤ maxLen := ⟨grownCap_ge _ _ _ _, grownCap_le_maxLen _ _ _ _ (by unfold maxLen; omega)⟩
  obtain ⟨hg1, hg2⟩ := hg
  generalize grownCap w n 0 5 = c at *
  go_enter Tryz.func154, Tryz.ntmps154
  go_wp2_with (at_builtin; refine Lib.wpList_append_run w rfl _ _ 95 3 rfl _ _ rfl rfl _ _ hr ?_)
  go_ret
  have hz : ∀ n, (Builtin.zeroCells #[Value.int .u8 0] n).size = n := fun n => by simp [Builtin.zeroCells]
  refine ⟨_, rfl, ⟨rfl, .inr ⟨w.heap.size, c, _, rfl, Nat.le_refl _, World.alloc_heap_new _ _, by omega, hg2, by rw [Array.size_append, hz, hz]; omega, by simp⟩⟩, ?_⟩
  exact ((Below.refl _ w).drew).alloc (by simp) _
set_option maxRecDepth 100000 in
set_option maxHeartbeats 4000000 in
theorem concat_any {o : Nat} (sv : Value) (w : World) (zs : List (SX o w.heap.size w)) (hreach : zs.length ≤ 140737488351232) (ho : (flat zs).length ≤ 140737488355328) (hsv : SSl w.heap.size w sv zs) :
  Calls Tryz.prog 137 #[sv] w (ByO (flat zs) w) := by
 obtain ⟨i0, hi, hz0, hz1, hz2⟩ := info_parts Tryz.infoByte
 obtain ⟨a, cap, rfl, hcs⟩ := hsv
 have hc : zs = [] ∨ ∃ b off, a = some ⟨b, off, none⟩ ∧ b < w.heap.size ∧ SRow w b off zs := hcs
 clear hcs
 have hfl : ∀ k, (flat (zs.take k)).length ≤ 140737488355328 := fun k => by
  have := flat_prefix zs k
  omega
 have HF := Lib.hid hfl
 clear hfl
 have hrow : ∀ k x, zs[k]? = some x → ∃ b off, a = some ⟨b, off, none⟩ ∧ b < w.heap.size ∧ w.cell? ⟨b, off + k, none⟩ = some x.1.1 := fun k x hx => by
  rcases hc with rfl | ⟨b, off, ha, hb, hr⟩
  ·
   simp at hx
  ·
   exact ⟨b, off, ha, hb, hr k x hx⟩
 have HR := Lib.hid hrow
 clear hrow hc
 go_enter Tryz.func137, Tryz.ntmps137
 go_wp2
 go_loop [3, 11] (fun s i => ∃ k : Nat, k ≤ zs.length ∧ i = .int .i64 k ∧ s = .int .i64 ((flat (zs.take k)).length : Nat)) (fun _ i => zs.length - (intOf i).toNat)
 case atStart => exact ⟨0, by omega, rfl, by simp [flat]⟩
 case round =>
  obtain ⟨k, hk, rfl, rfl⟩ := hrel
  by_cases hlt : k < zs.length
  ·
   obtain ⟨x, hx⟩ : ∃ x, zs[k]? = some x := ⟨_, List.getElem?_eq_getElem hlt⟩
   obtain ⟨b, off, rfl, hb, c0⟩ := HR.out k x hx
   obtain ⟨⟨xa, xc, hxe, _⟩, _⟩ := x.2
   rw [hxe] at c0
   have HS := Lib.hid (flat_take zs hx)
   have h1 := HF.out k
   have h2 := HF.out (k + 1)
   rw [HS.out, List.length_append] at h2
   have hk0 : (k : Int) < (zs.length : Int) := by omega
   clear hxe hx
   have HL : Hid ((flat (zs.take (k + 1))).length = (flat (zs.take k)).length + x.1.2.length) := Lib.hid (by rw [HS.out, List.length_append])
   generalize hq : (flat (zs.take k)).length = q at *
   generalize x.1.2.length = xl at *
   generalize hLn : zs.length = len at *
   have HLn := Lib.hid hLn
   have HQ := Lib.hid hq
   clear hLn hq
   have h2' : (q : Int) + (xl : Int) ≤ 140737488355328 := by omega
   go_wp2
   exact ⟨⟨k + 1, by omega, by simp, by rw [HL.out]; simp⟩, by simp [intOf]; omega⟩
  ·
   obtain rfl : k = zs.length := by omega
   have hall : zs.take zs.length = zs := List.take_length
   have hq := HF.out zs.length
   rw [hall] at hq ⊢
   clear hlt hk hall
   go_wp2_with (go_at_call 154; refine (grow_any _ hq _).mono ?_; rintro e w1 ⟨v, rfl, hown, hb1⟩)
   go_loopw [6, 27] (fun v i wr => ∃ k : Nat, k ≤ zs.length ∧ i = .int .i64 k ∧ wr.ownsRow w.heap.size 5 1 v (flat (zs.take k)).length ((flat (zs.take k)).map bv) ∧ Below w.heap.size w wr) (fun _ i _ => zs.length - (intOf i).toNat)
   case atStart => exact ⟨0, by omega, rfl, hown, hb1⟩
   case round =>
    obtain ⟨k, hk, rfl, hown, hB⟩ := hrel
    by_cases hlt : k < zs.length
    ·
     obtain ⟨x, hx⟩ : ∃ x, zs[k]? = some x := ⟨_, List.getElem?_eq_getElem hlt⟩
     obtain ⟨b, off, rfl, hb, c0⟩ := HR.out k x hx
     replace c0 := (hB.cell (p := ⟨b, off + k, none⟩) hb).trans c0
     have hxs := x.2.1.below hB (Nat.le_refl _)
     have hxs' := hxs
     obtain ⟨xa, xc, hxe, _⟩ := hxs
     rw [hxe] at c0 hxs'
     have HS := Lib.hid (flat_take zs hx)
     have h2 := HF.out (k + 1)
     rw [HS.out, List.length_append] at h2
     have hk0 : (k : Int) < (zs.length : Int) := by omega
     have hNW : w.heap.size ≤ wr.heap.size := hB.size
     clear hxe hx hq
     have HL : Hid ((flat (zs.take (k + 1))).length = (flat (zs.take k)).length + x.1.2.length) := Lib.hid (by rw [HS.out, List.length_append])
     go_wp2_with (at_builtin; refine wpList_append_b _ rfl _ _ 95 rfl w.heap.size 5 i0 (.int .u8 0) Tryz.underlying95 hi hz0 hz1 hz2 rfl _ (flat (zs.take k)).length ((flat (zs.take k)).map bv) rfl hown _ x.1.2 rfl hxs' h2 hNW ?_; intro v' w1 hown' hgrow)
     refine ⟨⟨k + 1, by omega, by simp, ?_, hB.grown hgrow hNW (fun j hj => (World.ownsRow.lt hown j hj).1)⟩, by simp [intOf]; omega⟩
     rw [HS.out, List.map_append, List.length_append]
     exact hown'
    ·
     obtain rfl : k = zs.length := by omega
     rw [List.take_length] at hown
     go_wp2
     go_ret
     exact ⟨_, rfl, hown, hB⟩
end Go.Proofs.YthhmdgmmeedhdaaGreat
namespace Go.Proofs.YthhmdgmmeedhdaaGreat
open Go.RowKit Go.Shelf
def padL (l : List UInt8) : List UInt8 := l ++ [128] ++ List.replicate (63 - (l.length + 8) % 64) 0 ++ octs (two (l.length * 8 : Nat)) 8
theorem padL_length (l : List UInt8) : (padL l).length = l.length + 72 - (l.length + 8) % 64 := by
 unfold padL
 simp [octs_length]
 omega
theorem own_base4 {W : World} {base base' : Nat} {e : TypeId} {size k : Nat} {v : Value} {xs : List Value} (h : W.ownsRow base e size v k xs) (hb : base' ≤ base) : W.ownsRow base' e size v k xs := by
 obtain ⟨h1, h2⟩ := h
 refine ⟨h1, ?_⟩
 rcases h2 with h2 | ⟨g, cap, cur, rfl, hg, r⟩
 ·
  exact .inl h2
 ·
  exact .inr ⟨g, cap, cur, rfl, Nat.le_trans hb hg, r⟩
set_option maxRecDepth 100000 in
set_option maxHeartbeats 2000000 in
theorem pad_any (l : List UInt8) (sv : Value) (w : World) (hreach : l.length ≤ 140737488353000) (hsv : BSl 0 w.heap.size w sv l) :
  Calls Tryz.prog 113 #[sv] w (ByO (padL l) w) := by
 obtain ⟨i0, hi, hz0, hz1, hz2⟩ := info_parts Tryz.infoByte
 have hsv0 := hsv
 obtain ⟨a, cap, rfl, hcap, hcs⟩ := hsv
 clear hcs
 have hz : (63 : Int) - ((l.length : Int) + 8) % 64 = ((63 - (l.length + 8) % 64 : Nat) : Int) := by omega
 have h8 : (l.length : Int) * 8 = ((l.length * 8 : Nat) : Int) := by omega
 have hP : Hid (padL l = l ++ [128] ++ List.replicate (63 - (l.length + 8) % 64) 0 ++ octs (two (l.length * 8 : Nat)) 8) := Lib.hid rfl
 have hzn : 63 - (l.length + 8) % 64 ≤ 63 := by omega
 generalize hZ : 63 - (l.length + 8) % 64 = z at *
 generalize hE : l.length * 8 = e8 at *
 have he8 : (e8 : Int) ≤ 1125899906824000 := by omega
 have hl' : (l.length : Int) ≤ 140737488353000 := by omega
 clear hZ hE
 go_enter Tryz.func113, Tryz.ntmps113
 go_wp2_with fail
 clear hz h8
 refine (num_any e8 8 (by omega) (by omega) _).mono ?_
 rintro e w1 ⟨s4, rfl, hs4, hb1⟩
 rw [show clamp 8 = 8 from rfl] at hs4
 obtain ⟨a4, c4, rfl, hc4, _⟩ := id hs4
 generalize hO : octs (two e8) 8 = o8 at *
 have ho8 : o8.length = 8 := by rw [← hO]; exact octs_length _ _
 clear hO
 rw [ho8] at hs4
 have HO := Lib.hid ho8
 rw [ho8]
 clear ho8
 go_wp2_with (at_make; refine wpList_make_full _ rfl _ _ 95 rfl (w1.heap.size + 1) 5 i0 (.int .u8 0) 1 Tryz.underlying95 hi hz0 hz1 .i64 .i64 _ _ z rfl rfl rfl rfl (by rw [hz2]; omega) (by unfold maxLen; omega) (by simp) ?_; intro w2 hown hgrow)
 have hz1a : (w1.alloc (.cells #[.int .u8 128] 5)).heap.size = w1.heap.size + 1 := by simp
 have hB1 : Below (w1.heap.size + 1) (w1.alloc (.cells #[.int .u8 128] 5)) w2 := (Below.refl _ _).grown hgrow (by rw [hz1a]; exact Nat.le_refl _) (fun k e => by cases e)
 have hw2 : w1.heap.size + 1 ≤ w2.heap.size := by rw [← hz1a]; exact hB1.size
 have hw1 : w.heap.size ≤ w1.heap.size := hb1.size
 rw [hz1a] at hown
 have hown' : w2.ownsRow (w1.heap.size + 1) 5 1 (.slice (some ⟨w1.heap.size + 1, 0, none⟩) z z) (List.replicate z (0 : UInt8)).length ((List.replicate z (0 : UInt8)).map bv) := by
  have e : (madeCells (Value.int .u8 0).cells (z * 1)).toList = (List.replicate z (0 : UInt8)).map bv := by
   rw [Nat.mul_one]
   refine (toList_madeCells_one (.int .u8 0) z).trans ?_
   simp
  rw [← e, List.length_replicate]; exact hown
 clear hown
 have h8 : BSl 0 w2.heap.size w2 (.slice (some ⟨w1.heap.size, 0, none⟩) 1 1) [128] := ⟨_, 1, rfl, Nat.le_refl _, .inr ⟨_, 0, rfl, Nat.zero_le _, by omega, fun k x hx => by
  have hk : k = 0 := by have := (List.getElem?_eq_some_iff.1 hx).1; simp at this; omega
  subst hk
  have hc := (Blk.new' (t := 5) (vs := [.int .u8 128]) (rfl : w1.heap.size = w1.heap.size)).cell 0
  refine (hB1.cell (p := ⟨w1.heap.size, 0 + 0, none⟩) (by simp)).trans (hc.trans ?_)
  simp at hx
  subst hx
  rfl⟩⟩
 have hbs : Below w1.heap.size w1 w2 := (chain0 w1 (.cells #[.int .u8 128] 5)).trans (hB1.mono (by omega))
 have hbw : Below w.heap.size w w2 := chain hb1 hbs
 have hL0 := (hsv0.below hbw (Nat.le_refl _)).mono (Nat.le_refl _) hbw.size
 have hL4 := (hs4.below hbs (Nat.le_refl _)).mono (Nat.zero_le _) hbs.size
 have hLz := (BSl.of_own hown').mono (Nat.zero_le _) (Nat.le_refl _)
 generalize hW3 : World.alloc _ _ = W3
 have kB : Blk W3 w2.heap.size 95 [.slice a l.length cap, .slice (some ⟨w1.heap.size, 0, none⟩) 1 1, .slice (some ⟨w1.heap.size + 1, 0, none⟩) z z, .slice a4 8 c4] := by rw [← hW3]; exact Blk.new' rfl
 have hb3 : Below w2.heap.size w2 W3 := by rw [← hW3]; exact chain0 _ _
 clear hW3
 have hle3 := hb3.size
 have up : ∀ {sv : Value} {l : List UInt8}, BSl 0 w2.heap.size w2 sv l → BSl 0 W3.heap.size W3 sv l := fun h => (h.below hb3 (Nat.le_refl _)).mono (Nat.le_refl _) hle3
 have hHO := HO.out
 let zs : List (SX (l.length + 72) W3.heap.size W3) := [⟨(_, l), up hL0, by dsimp only; omega⟩, ⟨(_, [128]), up h8, by simp⟩, ⟨(_, List.replicate z 0), up hLz, by simp; omega⟩, ⟨(_, o8), up hL4, by dsimp only; omega⟩]
 have hfl : flat zs = l ++ [128] ++ List.replicate z 0 ++ o8 := by simp [zs, flat]
 refine (concat_any (.slice (some ⟨w2.heap.size, 0, none⟩) 4 4) W3 zs (by simp [zs]) (by rw [hfl]; simp [hHO]; omega) ⟨_, 4, rfl, .inr ⟨_, 0, rfl, kB.lt, fun k x hx => ?_⟩⟩).mono ?_
 ·
  rw [Nat.zero_add, kB.cell k]
  have hk : k < 4 := (List.getElem?_eq_some_iff.1 hx).1
  have : k = 0 ∨ k = 1 ∨ k = 2 ∨ k = 3 := by omega
  rcases this with rfl | rfl | rfl | rfl <;> (cases hx; rfl)
 ·
  rintro e w4 ⟨sv, rfl, hown4, hb4⟩
  rw [hfl, ← hP.out] at hown4
  go_wp2
  go_ret
  exact ⟨sv, rfl, own_base4 hown4 (by omega), (chain hbw hb3).trans (hb4.mono (by omega))⟩
end Go.Proofs.YthhmdgmmeedhdaaGreat
