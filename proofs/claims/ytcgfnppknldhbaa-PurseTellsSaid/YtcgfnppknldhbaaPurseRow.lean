/-
  Rows of wide numbers: an array's element by value; what is stored into the block that was made last; a slot is set.
-/
import Derived.Test.YtcgfnppknldhbaaPurseChk
import Derived.Test.YtcgfnppknldhbaaPurseW
import Derived.Test.YtcgfnppknldhbaaWideSum
namespace Go.Proofs.Ytcgfnppknldhbaa
open Go.RowKit Go.Shelf

/-- Whatever fills the block that was made last. -/
theorem wpList_storeN {ops : Array Oper} {rest : List Oper} {o : Oper} {a : Act} {W : World} {c : Array Value} {Q : Exit → Act → World → Prop} {T : TypeId} (ty : TypeId) (x y : Operand) (v : Value) (ns : List Value) (hv : v.cells.toList = ns) (hc : c.size = ns.length) (hi : (Try.prog.info? ty).map (·.size) = some ns.length) (h1 : ns.all (·.oneCell') = true)
    (ho : o.op = .store ty x y) (hd : o.dst = none) (hgd : o.guard = none) (hx : a.eval x = .pointer (some ⟨W.heap.size, 0, none⟩)) (hy : a.eval y = v)
    (h : wpList Try.prog ops Q rest a (W.alloc (.cells ns.toArray T))) : wpList Try.prog ops Q (o :: rest) a (W.alloc (.cells c T)) := by
  have hB : Blk (W.alloc (.cells c T)) W.heap.size T c.toList := Blk.new W T c.toList
  refine wpList_store_part ty x y ns hB 0 v ns ho hd hgd hx hy hv hi (by simp [hc]) h1 ?_ ?_
  · unfold laid
    rw [List.take_zero, List.nil_append, List.drop_of_length_le (by simp [hc]), List.append_nil]
  · rw [World.setRow_alloc_new]
    exact h
theorem rowB_set (b : Bk) (N n : Nat) {j : Nat} (hj : j < N) : laid (rowB b 0 N) (4 * j) (ws (nw n)) = rowB (updB b j n) 0 N := by
  unfold laid
  have h1 : (rowB b 0 N).take (4 * j) = rowB (updB b j n) 0 j := by
    rw [rowB_take b 0 N (by omega)]
    exact rowB_ext fun i _ hi => by rw [updB_ne b n (by omega)]
  have h2 : (rowB b 0 N).drop (4 * j + (ws (nw n)).length) = rowB (updB b j n) (j + 1) (N - (j + 1)) := by
    rw [ws_len, show 4 * j + 4 = 4 * (j + 1) by omega, rowB_drop b 0 N (by omega), Nat.zero_add]
    exact rowB_ext fun i hi _ => by rw [updB_ne b n (by omega)]
  have h3 : rowB (updB b j n) 0 N = (rowB (updB b j n) 0 N).take (4 * j) ++ (rowB (updB b j n) 0 N).drop (4 * j) := (List.take_append_drop _ _).symm
  rw [h1, h2, h3, rowB_take _ 0 N (by omega), rowB_drop _ 0 N (by omega), Nat.zero_add, List.append_assoc]
  congr 1
  obtain ⟨m, hm⟩ : ∃ m, N - j = m + 1 := ⟨N - j - 1, by omega⟩
  rw [hm, rowB, updB_at, show N - (j + 1) = m by omega]
theorem rowB_part (b : Bk) (N : Nat) {j : Nat} (hj : j < N) : ((rowB b 0 N).drop (4 * j)).take 4 = ws (nw (b j)) := by
  rw [rowB_drop b 0 N (by omega), Nat.zero_add, show 4 = 4 * 1 from rfl, rowB_take b j (N - j) (by omega), rowB, rowB, List.append_nil]
theorem rowB_one (b : Bk) (s n : Nat) : (rowB b s n).all (·.oneCell') = true := by
  induction n generalizing s with
  | zero => rfl
  | succ n ih => rw [rowB, List.all_append, ih]; rfl
theorem rowB_no (s n : Nat) : rowB noK s n = List.replicate (4 * n) (.int .u64 0) := by
  induction n generalizing s with
  | zero => rfl
  | succ n ih => rw [rowB, ih]; unfold noK ws; rw [nw_zero, nw_zero, nw_zero, nw_zero, show 4 * (n + 1) = 4 * n + 1 + 1 + 1 + 1 by omega]; simp only [List.replicate_succ]; rfl
/-- An account's row. -/
theorem idx_row (b : Bk) (w : World) {k : Nat} (hk : k < 8) :
    (Instr.index 27 (bkv b) (.int .i64 k)).run Try.prog w = .ok (.agg (rowB b (2 * k) 2).toArray) w := by
  have hs : (sizeOf 25).run Try.prog w = .ok 8 w := by kernel_rfl
  have h1 : (0 : Int) ≤ (k : Int) ∧ (k : Int) < 8 := ⟨by omega, by omega⟩
  have e : ((bkc b).drop (k * 8)).take 8 = rowB b (2 * k) 2 := by
    rw [show k * 8 = 8 * k by omega, bkc_row b hk, rowB, rowB, rowB, List.append_nil]
  have e2 : List.take 8 (List.drop (k * 8) (bkc b)) = rowB b (2 * k) 2 := e
  simp [Instr.index, run_underlying Try.underlying27, asIntOf, h1, hs, go_sem]
  rw [if_pos hk, e2]
/-- Eight numbers of one asset, the first k of them laid. -/
def colB (b : Bk) (s k : Nat) : Bk := fun i => if i < k then b (2 * i + s) else 0
theorem colB_zero (b : Bk) (s : Nat) : rowB (colB b s 0) 0 8 = List.replicate 32 (.int .u64 0) := by
  rw [rowB_ext (b := colB b s 0) (c := noK) (fun j _ _ => if_neg (Nat.not_lt_zero j))]
  exact rowB_no 0 8
theorem colB_set (b : Bk) (s : Nat) {k : Nat} (hk : k < 8) : laid (rowB (colB b s k) 0 8) (k * 4) (ws (nw (b (2 * k + s)))) = rowB (colB b s (k + 1)) 0 8 := by
  rw [show k * 4 = 4 * k by omega, rowB_set _ 8 _ hk]
  refine rowB_ext fun j _ _ => ?_
  unfold colB
  by_cases e : j = k
  · subst e; rw [updB_at, if_pos (by omega)]
  · rw [updB_ne _ _ e]
    by_cases h : j < k
    · rw [if_pos h, if_pos (by omega)]
    · rw [if_neg h, if_neg (by omega)]
def colW (b : Bk) (s : Nat) : List WW := (List.range 8).map fun i => ⟨(nw (b (2 * i + s)) 0, nw (b (2 * i + s)) 1, nw (b (2 * i + s)) 2, nw (b (2 * i + s)) 3), nw_ok _⟩
theorem colW_len (b : Bk) (s : Nat) : (colW b s).length = 8 := by simp [colW]
theorem colW_sum {b : Bk} (hb : OkK b) {s : Nat} (hs : s < 2) : sumV (colW b s) = sumB b s := by
  unfold sumV colW sumB
  have e : ∀ i, i < 8 → val (nw (b (2 * i + s)) 0) (nw (b (2 * i + s)) 1) (nw (b (2 * i + s)) 2) (nw (b (2 * i + s)) 3) = b (2 * i + s) := fun i hi => nw_val (hb _ (by omega))
  have e0 := e 0 (by omega); have e1 := e 1 (by omega); have e2 := e 2 (by omega); have e3 := e 3 (by omega); have e4 := e 4 (by omega); have e5 := e 5 (by omega); have e6 := e 6 (by omega); have e7 := e 7 (by omega)
  simp only [List.range, List.range.loop, List.map_cons, List.map_nil, List.sum_cons, List.sum_nil, wwVal, e0, e1, e2, e3, e4, e5, e6, e7]
  simp only [Nat.mul_zero, Nat.reduceMul]
  omega
theorem colW_lies {b : Bk} {s : Nat} {W : World} {g : Nat} {T : TypeId} (h : Blk W g T (rowB (colB b s 8) 0 8)) (n : Nat) (hn : g < n) (c : Nat) : WSl n W (.slice (some ⟨g, 0, none⟩) 8 c) (colW b s) := by
  refine ⟨_, c, by rw [colW_len], .inr ⟨g, 0, rfl, hn, fun k x hx => ?_⟩⟩
  have hk : k < 8 := by have := (List.getElem?_eq_some_iff.1 hx).1; rwa [colW_len] at this
  have hx' : x = ⟨(nw (b (2 * k + s)) 0, nw (b (2 * k + s)) 1, nw (b (2 * k + s)) 2, nw (b (2 * k + s)) 3), nw_ok _⟩ := by
    unfold colW at hx
    rw [List.getElem?_map, List.getElem?_range hk] at hx
    simpa using hx.symm
  subst hx'
  have hp := rowB_part (colB b s 8) 8 hk
  rw [show colB b s 8 k = b (2 * k + s) from if_pos hk] at hp
  have hc : ∀ j, j < 4 → W.cell? ⟨g, 0 + k * 4 + j, none⟩ = (ws (nw (b (2 * k + s))))[j]? := fun j hj => by
    rw [h.cell, ← hp, List.getElem?_take_of_lt hj, List.getElem?_drop]
    congr 1
    omega
  exact ⟨hc 0 (by omega), hc 1 (by omega), hc 2 (by omega), hc 3 (by omega)⟩
end Go.Proofs.Ytcgfnppknldhbaa
