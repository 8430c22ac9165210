/-
  Arrays of words: as cells, as values; read and stored whole.
-/
import Derived.Test.YtneilnfjnbecbaaBase
import Derived.Laws.CopyOwn
import Derived.Laws.Rows
import Derived.Laws.Tables
namespace Go.Proofs.Ytneilnfjnbecbaa
open Go.RowKit

/-- n words as cells. -/
def us (f : Nat → Int) (n : Nat) : List Value := upto (fun k => Value.int .u32 (f k)) n
def updI (f : Nat → Int) (i : Nat) (v : Int) : Nat → Int := fun j => if j = i then v else f j
theorem us_length (f : Nat → Int) (n : Nat) : (us f n).length = n := upto_length _ _
theorem us_at (f : Nat → Int) {n k : Nat} (h : k < n) : (us f n)[k]? = some (.int .u32 (f k)) := by
  unfold us upto; rw [List.getElem?_map, List.getElem?_range h]; rfl
theorem us_set (f : Nat → Int) {n k : Nat} (v : Int) : (us f n).set k (.int .u32 v) = us (updI f k v) n := by
  apply List.ext_getElem?
  intro j
  rw [List.getElem?_set]
  by_cases hj : k = j
  · subst hj
    by_cases hk : k < n
    · rw [if_pos rfl, if_pos (by rw [us_length]; exact hk), us_at _ hk]; simp [updI]
    · rw [if_pos rfl, if_neg (by rw [us_length]; omega), eq_comm, List.getElem?_eq_none]; rw [us_length]; omega
  · rw [if_neg hj]
    by_cases hk : j < n
    · rw [us_at _ hk, us_at _ hk]; simp [updI, Ne.symm hj]
    · rw [List.getElem?_eq_none (by rw [us_length]; omega), List.getElem?_eq_none (by rw [us_length]; omega)]
theorem us_congr {f g : Nat → Int} {n : Nat} (h : ∀ k, k < n → f k = g k) : us f n = us g n := by
  apply List.ext_getElem?
  intro j
  by_cases hk : j < n
  · rw [us_at _ hk, us_at _ hk, h j hk]
  · rw [List.getElem?_eq_none (by rw [us_length]; omega), List.getElem?_eq_none (by rw [us_length]; omega)]
/-- n words as a value. -/
abbrev uv (f : Nat → Int) (n : Nat) : Value := .agg (us f n).toArray

theorem us_zeros (n : Nat) : us (fun _ => 0) n = List.replicate n (.int .u32 0) := by
  apply List.ext_getElem?
  intro j
  by_cases hk : j < n
  · rw [us_at _ hk]; simp [hk]
  · rw [List.getElem?_eq_none (by rw [us_length]; omega), List.getElem?_eq_none (by simp; omega)]
theorem us_one (f : Nat → Int) (n : Nat) : ∀ v ∈ us f n, v.oneCell' = true := by
  intro v hv
  unfold us upto at hv
  obtain ⟨k, _, rfl⟩ := List.mem_map.1 hv
  rfl
theorem us_splice (f g : Nat → Int) {m n : Nat} (h : m ≤ n) : splice (us g n) 0 (us f m) = us (fun t => if t < m then f t else g t) n := by
  apply List.ext_getElem?
  intro j
  unfold splice
  simp only [List.take_zero, List.nil_append, us_length, Nat.zero_add]
  by_cases hm : j < m
  · rw [List.getElem?_append_left (by rw [us_length]; exact hm), us_at _ hm, us_at _ (by omega), if_pos hm]
  · rw [List.getElem?_append_right (by rw [us_length]; omega), us_length, List.getElem?_drop, show m + (j - m) = j by omega]
    by_cases hn : j < n
    · rw [us_at _ hn, us_at _ hn, if_neg hm]
    · rw [List.getElem?_eq_none (by rw [us_length]; omega), List.getElem?_eq_none (by rw [us_length]; omega)]
theorem us0_64 : us (fun _ => 0) 64 = [.int .u32 0, .int .u32 0, .int .u32 0, .int .u32 0, .int .u32 0, .int .u32 0, .int .u32 0, .int .u32 0, .int .u32 0, .int .u32 0, .int .u32 0, .int .u32 0, .int .u32 0, .int .u32 0, .int .u32 0, .int .u32 0, .int .u32 0, .int .u32 0, .int .u32 0, .int .u32 0, .int .u32 0, .int .u32 0, .int .u32 0, .int .u32 0, .int .u32 0, .int .u32 0, .int .u32 0, .int .u32 0, .int .u32 0, .int .u32 0, .int .u32 0, .int .u32 0, .int .u32 0, .int .u32 0, .int .u32 0, .int .u32 0, .int .u32 0, .int .u32 0, .int .u32 0, .int .u32 0, .int .u32 0, .int .u32 0, .int .u32 0, .int .u32 0, .int .u32 0, .int .u32 0, .int .u32 0, .int .u32 0, .int .u32 0, .int .u32 0, .int .u32 0, .int .u32 0, .int .u32 0, .int .u32 0, .int .u32 0, .int .u32 0, .int .u32 0, .int .u32 0, .int .u32 0, .int .u32 0, .int .u32 0, .int .u32 0, .int .u32 0, .int .u32 0] := rfl

/-- An array type of n words. -/
structure ArrT (ty n : Nat) : Prop where
  hu : ∃ e, Try.prog.underlying ty = some (.array n e)
  hi : (Try.prog.info? ty).map (·.size) = some n
theorem arr8 : ArrT 63 8 := ⟨⟨_, Try.underlying63⟩, by kernel_rfl⟩
theorem arr16 : ArrT 68 16 := ⟨⟨_, Try.underlying68⟩, by kernel_rfl⟩
theorem arr64 : ArrT 70 64 := ⟨⟨_, Try.underlying70⟩, by kernel_rfl⟩

theorem arr_load {ty n : Nat} (hT : ArrT ty n) {ops : Array Oper} {rest : List Oper} {o : Oper} {a : Act} {w : World} {Q : Exit → Act → World → Prop} (hgd : o.guard = none) (x : Operand) (ho : o.op = .load ty x)
    (g : Nat) (hx : a.eval x = .pointer (some ⟨g, 0, none⟩)) (t : TypeId) (f : Nat → Int) (hg : Blk w g t (us f n))
    (h : wpList Try.prog ops Q rest (a.put o.dst (uv f n)) w) : wpList Try.prog ops Q (o :: rest) a w := by
  obtain ⟨⟨e, hu⟩, hi⟩ := hT
  exact wpList_load_row hgd ty x ho g hx t _ (0, 0) _ hg hu rfl (by rw [hi]; simp [us_length]) h
theorem us_all (f : Nat → Int) (n : Nat) : (us f n).toArray.all (·.oneCell') = true := by
  rw [Array.all_eq_true_iff_forall_mem]
  intro v hv
  exact us_one f n v (by simpa using hv)
theorem setRow_blk {w : World} {g : Nat} {t : TypeId} {old : List Value} (hg : Blk w g t old) (vs : List Value) : Blk (w.setRow g vs.toArray) g t vs := setRow_heap w g _ _ t _ hg
theorem setRow_grown {w : World} {g : Nat} (vs : Array Value) : w.grownBy (w.setRow g vs) (some g) :=
  ⟨rfl, rfl, rfl, by simp [World.setRow], fun k _ hne => setRow_other w g k vs (fun e => hne (by rw [e]))⟩
theorem arr_store {ty n : Nat} (hT : ArrT ty n) {ops : Array Oper} {rest : List Oper} {o : Oper} {a : Act} {w : World} {Q : Exit → Act → World → Prop} (hgd : o.guard = none) (x y : Operand) (ho : o.op = .store ty x y)
    (g : Nat) (hx : a.eval x = .pointer (some ⟨g, 0, none⟩)) (f : Nat → Int) (hy : a.eval y = uv f n) (t : TypeId) (old : Nat → Int) (hg : Blk w g t (us old n))
    (h : ∀ w', Blk w' g t (us f n) → w.grownBy w' (some g) → wpList Try.prog ops Q rest (a.put o.dst undef) w') : wpList Try.prog ops Q (o :: rest) a w := by
  obtain ⟨⟨e, hu⟩, hi⟩ := hT
  exact wpList_store_row hgd ty x y ho g _ hx hy t _ hg (by rw [hi]; simp [us_length]) (by simp [us_length]) (us_all f n) (h _ (setRow_blk hg _) (setRow_grown _))
theorem arr_result {ty n : Nat} (hT : ArrT ty n) {fn : Func} {p : Tmp} (h : fn.results = #[.cell p ty]) (tmps : Array Value) (w : World) (g : Nat) (t : TypeId) (f : Nat → Int)
    (hp : tmps.getD p undef = .pointer (some ⟨g, 0, none⟩)) (hg : Blk w g t (us f n)) : (results fn tmps).run Try.prog w = .ok (uv f n) w := by
  obtain ⟨⟨e, hu⟩, hi⟩ := hT
  exact results_cell_row h tmps w g t _ (0, 0) _ hp hg hu rfl (by rw [hi]; simp [us_length])
theorem below_drewN {B : Nat} (W : World) (n : Nat) : Below B W (W.drewN n) := ⟨rfl, rfl, rfl, Nat.le_refl _, fun _ _ => rfl⟩
end Go.Proofs.Ytneilnfjnbecbaa
