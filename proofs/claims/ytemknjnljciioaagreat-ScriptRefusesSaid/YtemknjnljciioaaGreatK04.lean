/-
  Digits of 16 bits: rows of numbers that a call owns; what digits come to; A small number as a wide one; wide.Of, Add, Sub as calls; Sums and differences told by numbers alone: of the program, and of the plain digits; A book in memory: what is loaded of it, what is stored into it; Sums and differences told by numbers alone: of the program, and of the plain digits; slices.Values over wide numbers: e
-/
import Derived.RangeFuncNested
import Derived.RangeFuncBound
import Derived.RangeFuncCalls
import Derived.RangeFuncLeaves
import Derived.Shelf.Abstract
import Derived.Shelf.RegionOpen
import Derived.WalkKit
import Derived.OwnWalkIn
import Derived.TacticsInMore
import Derived.LoopNIn
import Derived.LoopIn
import Derived.Lib.Hide
import Derived.Shelf.Spec.BitsCarry
import Derived.Maps.AppendAt
import Derived.IntWalk
import Derived.Deep.QuietTactic
import Derived.Deep.RegionHeld3
import Derived.BigQuiet
import Derived.Deep.WholeRow
import Derived.Outline
import Derived.WalkLawsBesides
import Derived.Deep.Cut
import Derived.Deep.CutRange
import Derived.Deep.DeepCutAuto
import Derived.Deep.CutBlock
import Derived.Great.BuildSlice
import Derived.WalkSpells
import Derived.Laws.CopyOwn
import Derived.Laws.OwnMore
import Derived.RangeFuncIn
import Derived.Test.YtemknjnljciioaaGreatProg
import Derived.Test.YtemknjnljciioaaGreatK03
namespace Go.Proofs.YtemknjnljciioaaGreat
open Go.RowKit
def OR (W : World) (base : Nat) (v : Value) (n : Nat) (f : Nat → Nat) : Prop := W.ownsRow base 3 1 v n ((List.range n).map fun k => Value.int .i64 (f k : Nat))
theorem OR.nil (W : World) (base : Nat) (f : Nat → Nat) : OR W base (.slice none 0 0) 0 f := ⟨rfl, .inl ⟨rfl, rfl⟩⟩
theorem OR.out {W : World} {base : Nat} {v : Value} {n : Nat} {f : Nat → Nat} (h : OR W base v n f) : W.ownsRow base 3 1 v n ((List.range n).map fun k => Value.int .i64 (f k : Nat)) := h
theorem OR.step {W : World} {base : Nat} {v : Value} {n : Nat} {f : Nat → Nat} {x : Int} (h : W.ownsRow base 3 1 v (n + 1) (((List.range n).map fun k => Value.int .i64 (f k : Nat)) ++ [.int .i64 x])) (hx : x = (f n : Nat)) : OR W base v (n + 1) f := by
  unfold OR
  rw [List.range_succ, List.map_append]
  rw [hx] at h
  exact h
theorem OR.alloc {W : World} {base : Nat} {v : Value} {n : Nat} {f : Nat → Nat} (h : OR W base v n f) (o : Obj) : OR (W.alloc o) base v n f := World.ownsRow.alloc h o
theorem OR.grown {W w1 : World} {base n : Nat} {u v' : Value} {f : Nat → Nat} {o : Obj} {x : Int} (hown : OR W base u n f) (hsz : base ≤ W.heap.size)
    (hown' : w1.ownsRow base 3 1 v' (n + 1) (((List.range n).map fun k => Value.int .i64 (f k : Nat)) ++ [.int .i64 x])) (hg : (W.alloc o).grownBy w1 u.ownBlock) (hx : x = (f n : Nat)) :
    OR w1 base v' (n + 1) f ∧ base ≤ w1.heap.size ∧ Below base W w1 := by
  have hb : Below base W w1 := ((Below.refl base W).alloc hsz o).grown hg (by simp; omega) (fun j hj => (World.ownsRow.lt hown.out j hj).1)
  exact ⟨OR.step hown' hx, Nat.le_trans hsz hb.size, hb⟩
def Nums (W : World) (g n : Nat) (f : Nat → Nat) : Prop := ∀ k, k < n → W.cell? ⟨g, k, none⟩ = some (.int .i64 (f k : Nat))
theorem Nums.below {W W' : World} {m g n : Nat} {f : Nat → Nat} (h : Nums W g n f) (hb : Below m W W') (hg : g < m) : Nums W' g n f := fun k hk => (hb.cell (p := ⟨g, k, none⟩) hg).trans (h k hk)
def sh (x : Nat) : Nat → Nat
  | 0 => x
  | t + 1 => sh x t / 65536
def dg (a0 a1 a2 a3 n : Nat) : Nat := sh (word a0 a1 a2 a3 (n / 4)) (n % 4) % 65536
def ds (f : Nat → Nat) (n : Nat) : List Value := (List.range n).map fun k => .int .i64 (f k : Nat)
end Go.Proofs.YtemknjnljciioaaGreat
namespace Go.Proofs.YtemknjnljciioaaGreat
open Go.RowKit Go.Shelf
set_option maxHeartbeats 1000000 in
theorem of_any (z : Int) (n : Nat) (h : z = n) (w : World) : Calls Tryz.prog 55 #[.int .u64 z] w fun e W' => e = .returned (wv n 0 0 0) ∧ Below w.heap.size w W' := by
  subst h
  go_enter Tryz.func55, Tryz.ntmps55
  go_wp2
  exact bodyPost_ret (v := wv n 0 0 0) (by simp [results, Tryz.f55, go_sem]) rfl ⟨rfl, (Below.refl _ _).alloc (Nat.le_refl _) _⟩
-- HERE
end Go.Proofs.YtemknjnljciioaaGreat
namespace Go.Proofs.YtemknjnljciioaaGreat
open Go.RowKit Go.Shelf
theorem Ok4.one {n : Nat} (h : n < M) : Ok4 n 0 0 0 := ⟨h, M_pos, M_pos, M_pos⟩
end Go.Proofs.YtemknjnljciioaaGreat
namespace Go.Proofs.YtemknjnljciioaaGreat
open Go.RowKit Go.Shelf
theorem ofN_any (n : Nat) (h : n < M) (w : World) : Calls Tryz.prog 55 #[.int .u64 (n : Int)] w fun e W' => e = .returned (wn n) ∧ Below w.heap.size w W' :=
  (of_any (n : Int) n rfl w).mono fun _ _ ⟨he, hb⟩ => ⟨by rw [he]; obtain ⟨a, b, c, d⟩ := nw_word h; show _ = Ending.returned (wv (nw n 0) (nw n 1) (nw n 2) (nw n 3)); rw [a, b, c, d], hb⟩
-- HERE
end Go.Proofs.YtemknjnljciioaaGreat
namespace Go.Proofs.YtemknjnljciioaaGreat
open Go.RowKit Go.Shelf
theorem bkc_size (b : Bk) : (bkc b).toArray.size = 64 := by rw [List.size_toArray, bkc_len]
theorem info_book : (Tryz.prog.info? 103).map (·.size) = some 64 := by kernel_rfl
theorem load_book {W : World} {B : Nat} {T : TypeId} {b : Bk} (h : Blk W B T (bkc b)) : (Instr.loadAt 103 (.pointer (some ⟨B, 0, none⟩))).run Tryz.prog W = .ok (bkv b) W :=
  load_part h 0 (bkc b) (by rw [List.drop_zero, List.take_length]) _ _ Tryz.underlying103 rfl (by rw [bkc_len]; exact info_book)
theorem off_slot {i j : Nat} : i * 8 + j * 4 = 4 * (2 * i + j) := by omega
abbrev noK : Bk := fun _ => 0
theorem bkc_no : bkc noK = List.replicate 64 (.int .u64 0) := by
  have h : ∀ s n, rowB noK s n = List.replicate (4 * n) (.int .u64 0) := fun s n => by
    induction n generalizing s with
    | zero => rfl
    | succ n ih => rw [rowB, ih]; unfold noK ws; rw [nw_zero, nw_zero, nw_zero, nw_zero, show 4 * (n + 1) = 4 * n + 1 + 1 + 1 + 1 by omega]; simp only [List.replicate_succ]; rfl
  exact h 0 16
theorem row_book {vs : List Value} (b : Bk) (h : vs.length = 64) : laid vs 0 (bkc b) = bkc b := by
  unfold laid
  rw [bkc_len, List.take_zero, Nat.zero_add, List.drop_of_length_le (by omega), List.nil_append, List.append_nil]
theorem one_book (b : Bk) : (bkc b).all (·.oneCell') = true := by
  have h : ∀ s n, (rowB b s n).all (·.oneCell') = true := fun s n => by
    induction n generalizing s with
    | zero => rfl
    | succ n ih => rw [rowB, List.all_append, ih]; rfl
  exact h 0 16
theorem row_slot (b : Bk) (n : Nat) {i j : Nat} (hi : i < 8) (hj : j < 2) : laid (bkc b) (i * 8 + j * 4) (ws (nw n)) = bkc (updB b (2 * i + j) n) := by
  rw [off_slot]; exact bkc_set b n (by omega)
theorem wpList_store_book {ops : Array Oper} {rest : List Oper} {o : Oper} {a : Act} {w : World} {Q : Exit → Act → World → Prop} {T : TypeId} (x y : Operand) {vs : List Value} {B : Nat} (hB : Blk w B T vs) (hv : vs.length = 64) (b : Bk) (ho : o.op = .store 103 x y) (hd : o.dst = none) (hgd : o.guard = none)
    (hx : a.eval x = .pointer (some ⟨B, 0, none⟩)) (hy : a.eval y = bkv b)
    (h : wpList Tryz.prog ops Q rest a (w.setRow B (bkc b).toArray)) : wpList Tryz.prog ops Q (o :: rest) a w :=
  wpList_store_part 103 x y (bkc b) hB 0 (bkv b) (bkc b) ho hd hgd hx hy rfl (by rw [bkc_len]; exact info_book) (by rw [bkc_len, hv]; exact Nat.le_refl _) (one_book b) (row_book b hv) h
theorem wp_store_slot {o : Oper} {a : Act} {w : World} {K : Act → World → Prop} {Q : Exit → Act → World → Prop} {T : TypeId} (x y : Operand) {b : Bk} {B : Nat} (hB : Blk w B T (bkc b)) {i j : Nat} (hi : i < 8) (hj : j < 2) (n : Nat) (ho : o.op = .store 100 x y) (hd : o.dst = none)
    (hx : a.eval x = .pointer (some ⟨B, i * 8 + j * 4, none⟩)) (hy : a.eval y = wn n)
    (h : K a (w.setRow B (bkc (updB b (2 * i + j) n)).toArray)) : o.wp Tryz.prog a w K Q :=
  wp_store_part 100 x y (bkc (updB b (2 * i + j) n)) hB (i * 8 + j * 4) (wn n) (ws (nw n)) ho hd hx hy rfl (by kernel_rfl) (by rw [ws_len, bkc_len]; omega) rfl (row_slot b n hi hj) h
end Go.Proofs.YtemknjnljciioaaGreat
namespace Go.Proofs.YtemknjnljciioaaGreat
open Go.RowKit Go.Shelf
theorem res_bk {fn : Func} {p : Tmp} (h : fn.results = #[.cell p 103]) (tmps : Array Value) {w : World} {g : Nat} {T : TypeId} {b : Bk} (hp : tmps.getD p undef = .pointer (some ⟨g, 0, none⟩)) (hg : Blk w g T (bkc b)) :
    (results fn tmps).run Tryz.prog w = .ok (bkv b) w :=
  results_cell_row h tmps w g T (bkc b).toArray (0, 0) _ hp hg Tryz.underlying103 rfl (by rw [bkc_size]; exact info_book)
end Go.Proofs.YtemknjnljciioaaGreat
namespace Go.Proofs.YtemknjnljciioaaGreat
open Go.RowKit Go.Shelf
attribute [local go_sem] Oper.semAt_some
abbrev WdW := { p : Nat × Nat × Nat × Nat // Ok4 p.1 p.2.1 p.2.2.1 p.2.2.2 }
def Wides (W : World) (b off : Nat) (l : List WdW) : Prop := ∀ k x, l[k]? = some x →
  W.cell? ⟨b, off + k * 4, none⟩ = some (.int .u64 (x.1.1 : Nat)) ∧ W.cell? ⟨b, off + k * 4 + 1, none⟩ = some (.int .u64 (x.1.2.1 : Nat)) ∧
  W.cell? ⟨b, off + k * 4 + 2, none⟩ = some (.int .u64 (x.1.2.2.1 : Nat)) ∧ W.cell? ⟨b, off + k * 4 + 3, none⟩ = some (.int .u64 (x.1.2.2.2 : Nat))
theorem Wides.below {W W' : World} {n b off : Nat} {l : List WdW} (h : Wides W b off l) (hb : Below n W W') (hlt : b < n) : Wides W' b off l := fun k x hx => by
  obtain ⟨h0, h1, h2, h3⟩ := h k x hx
  exact ⟨(hb.cell (p := ⟨b, _, none⟩) hlt).trans h0, (hb.cell (p := ⟨b, _, none⟩) hlt).trans h1, (hb.cell (p := ⟨b, _, none⟩) hlt).trans h2, (hb.cell (p := ⟨b, _, none⟩) hlt).trans h3⟩
def WSl (n₀ : Nat) (W : World) (sv : Value) (zs : List WdW) : Prop :=
  ∃ a cap, sv = .slice a zs.length cap ∧ (zs = [] ∨ ∃ b off, a = some ⟨b, off, none⟩ ∧ b < n₀ ∧ Wides W b off zs)
theorem WSl.below {n₀ m : Nat} {A B : World} {sv : Value} {zs : List WdW} (h : WSl n₀ A sv zs) (hb : Below m A B) (hm : n₀ ≤ m) : WSl n₀ B sv zs := by
  obtain ⟨a, cap, e, h0 | ⟨b, off, ha, hlt, hw⟩⟩ := h
  · exact ⟨a, cap, e, .inl h0⟩
  · exact ⟨a, cap, e, .inr ⟨b, off, ha, hlt, hw.below hb (by omega)⟩⟩
end Go.Proofs.YtemknjnljciioaaGreat
namespace Go.Proofs.YtemknjnljciioaaGreat
open Go.RowKit Go.Shelf
theorem wpList_storeN {ops : Array Oper} {rest : List Oper} {o : Oper} {a : Act} {W : World} {c : Array Value} {Q : Exit → Act → World → Prop} {T : TypeId} (ty : TypeId) (x y : Operand) (v : Value) (ns : List Value) (hv : v.cells.toList = ns) (hc : c.size = ns.length) (hi : (Tryz.prog.info? ty).map (·.size) = some ns.length) (h1 : ns.all (·.oneCell') = true)
    (ho : o.op = .store ty x y) (hd : o.dst = none) (hgd : o.guard = none) (hx : a.eval x = .pointer (some ⟨W.heap.size, 0, none⟩)) (hy : a.eval y = v)
    (h : wpList Tryz.prog ops Q rest a (W.alloc (.cells ns.toArray T))) : wpList Tryz.prog ops Q (o :: rest) a (W.alloc (.cells c T)) := by
  have hB : Blk (W.alloc (.cells c T)) W.heap.size T c.toList := Blk.new W T c.toList
  refine wpList_store_part ty x y ns hB 0 v ns ho hd hgd hx hy hv hi (by simp [hc]) h1 ?_ ?_
  · unfold laid
    rw [List.take_zero, List.nil_append, List.drop_of_length_le (by simp [hc]), List.append_nil]
  · rw [World.setRow_alloc_new]
    exact h
theorem rowB_one (b : Bk) (s n : Nat) : (rowB b s n).all (·.oneCell') = true := by
  induction n generalizing s with
  | zero => rfl
  | succ n ih => rw [rowB, List.all_append, ih]; rfl
theorem idx_row (b : Bk) (w : World) {k : Nat} (hk : k < 8) :
    (Instr.index 103 (bkv b) (.int .i64 k)).run Tryz.prog w = .ok (.agg (rowB b (2 * k) 2).toArray) w := by
  have hs : (sizeOf 101).run Tryz.prog w = .ok 8 w := by kernel_rfl
  have h1 : (0 : Int) ≤ (k : Int) ∧ (k : Int) < 8 := ⟨by omega, by omega⟩
  have e : ((bkc b).drop (k * 8)).take 8 = rowB b (2 * k) 2 := by
    rw [show k * 8 = 8 * k by omega, bkc_row b hk, rowB, rowB, rowB, List.append_nil]
  have e2 : List.take 8 (List.drop (k * 8) (bkc b)) = rowB b (2 * k) 2 := e
  simp [Instr.index, run_underlying Tryz.underlying103, asIntOf, h1, hs, go_sem]
  rw [if_pos hk, e2]
end Go.Proofs.YtemknjnljciioaaGreat
namespace Go.Proofs.YtemknjnljciioaaGreat
open Go.RowKit Go.Shelf
theorem info_st : (Tryz.prog.info? 107).map (·.size) = some 151 := by kernel_rfl
section
variable {W : World} {B : Nat} {T : TypeId} {s : Es} {v : Value}
end
def Pan (c : Int) (e : Ending) : Prop := e = .panicked [{ v := .iface 277 (.int .i64 c), recovered := false }]
end Go.Proofs.YtemknjnljciioaaGreat
namespace Go.Proofs.YtemknjnljciioaaGreat
open Go.RowKit Go.Shelf
theorem Mem.sub {w W : World} {row : Option Nat} {l l' : List MB} (h : Mem w row l W) (hs : l'.Sublist l) : Mem w row l' W := ⟨fun x hx => h.1 x (hs.mem hx), h.2.1.sublist hs, h.2.2⟩
section
variable {W : World} {B : Nat} {T : TypeId} {s : Es} {v : Value}
theorem sto_st {vs : List Value} (h : Blk W B T vs) (hv : vs.length = 151) (s : Es) {u : Value} (hu : u.oneCell' = true) : (Instr.storeAt 107 (.pointer (some ⟨B, 0, none⟩)) (stv s u)).run Tryz.prog W = .ok () (W.setRow B (stc s u).toArray) :=
  sto_part _ h 0 _ _ (stc s u) rfl (by rw [stc_len]; exact info_st) (by rw [stc_len, hv]; exact Nat.le_refl _) (stc_one s u hu) (by unfold laid; rw [List.take_zero, List.nil_append, List.drop_of_length_le (by rw [stc_len, hv]; exact Nat.le_refl _), List.append_nil])
end
section
variable {W : World} {B : Nat} {T : TypeId} {t : Tr}
end
def BlkN (W : World) (B : Nat) : Prop := ∃ vs : List Value, vs.length = 151 ∧ Blk W B 107 vs
theorem BlkN.of {W : World} {B : Nat} {s : Es} {v : Value} (h : Blk W B 107 (stc s v)) : BlkN W B := ⟨_, stc_len s v, h⟩
def EndE (w : World) (B : Nat) (v : Value) (p : Es × Int) (e : Ending) (W' : World) : Prop :=
  w.grownBy W' (some B) ∧ ((p.2 = 0 ∧ e = .returned (.tuple #[]) ∧ Blk W' B 107 (stc p.1 v)) ∨ (p.2 ≠ 0 ∧ Pan p.2 e ∧ BlkN W' B))
theorem EndE.ok {w W : World} {B : Nat} {v : Value} {p : Es × Int} {s : Es} (hg : w.grownBy W (some B)) (hp : p = (s, 0)) (hB : Blk W B 107 (stc s v)) : EndE w B v p (.returned (.tuple #[])) W := by
  subst hp
  exact ⟨hg, .inl ⟨rfl, rfl, hB⟩⟩
end Go.Proofs.YtemknjnljciioaaGreat
namespace Go.Proofs.YtemknjnljciioaaGreat
open Go.RowKit Go.Shelf
def lkc (x : Lk) : List Value := [.string x.ke, .string x.dg, .int .i64 x.st]
theorem lkc_len (x : Lk) : (lkc x).length = 3 := rfl
theorem RSl.mem {α : Type} {f : α → List Value} {lo : Nat} {w W : World} {v : Value} {l : List α} {B : Nat} {m : List MB} (h : RSl f lo w.heap.size w v l) (hB : B < lo) (hM : Mem w (some B) m W) : RSl f lo w.heap.size W v l :=
  h.kept (Nat.le_refl _) hM.g (fun r hr => .inl (by cases hr; exact hB))
end Go.Proofs.YtemknjnljciioaaGreat
namespace Go.Proofs.YtemknjnljciioaaGreat
open Go.RowKit Go.Shelf
theorem run_append_b {P : Program} (w : World) (base : Nat) (t ty e : TypeId) (i : TypeInfo) (z : Value) (ht : P.underlying t = some (.slice e)) (hi : P.info? e = some i) (hz : i.zero = some z)
    (hsize : i.size = 1) (hby : i.bytes = 1) (hzs : z.cells.size = 1) (v : Value) (n : Nat) (xs : List Value) (hown : w.ownsRow base e 1 v n xs)
    {lo hi' : Nat} {sv : Value} {l : List UInt8} (hsv : BSl lo hi' w sv l) (h63 : n + l.length ≤ 140737488355328) (hbase : base ≤ w.heap.size) :
    ∃ v' w', (Builtin.append_ #[t, t] ty #[v, sv]).run P w = .ok v' w' ∧ w'.ownsRow base e 1 v' (n + l.length) (xs ++ l.map bv) ∧ w.grownBy w' v.ownBlock := by
  obtain ⟨a, cap, rfl, _, h0⟩ := hsv
  rcases a with _ | ad
  · have hl : l = [] := by
      rcases h0 with h0 | ⟨_, _, h, _⟩
      · exact h0
      · cases h
    subst hl
    refine ⟨v, w, ?_, by simpa using hown, World.grownBy.refl w _⟩
    rcases hown.2 with ⟨rfl, rfl⟩ | ⟨g, c, cur, rfl, _, _, hnc, _⟩
    · simp [Builtin.append_, run_underlying ht, sizeOf, typeInfo, hi, Builtin.lenOf, Builtin.firstCells]
    · simp [Builtin.append_, run_underlying ht, sizeOf, typeInfo, hi, Builtin.lenOf, Builtin.firstCells, hnc, storeCells]
  · obtain ⟨v', w', hr, h2, h3, _⟩ := run_append_own (P := P) w base t ty e i z 1 1 ht hi hz hsize hby hzs (by omega) v n xs hown ad l.length cap (l.map bv) (by simp)
      (fun j u hu => by
        rcases h0 with rfl | ⟨b, off, ha, _, _, ho⟩
        · simp at hu
        · cases ha
          rw [List.getElem?_map] at hu
          obtain ⟨x, hx, rfl⟩ := Option.map_eq_some_iff.1 hu
          have hp : (⟨b, off, none⟩ : Addr).add j = ⟨b, off + j, none⟩ := by cases j <;> simp [Addr.add]
          rw [hp]; exact ho j x hx)
      (by intro u hu; obtain ⟨x, _, rfl⟩ := List.mem_map.1 hu; rfl) (by unfold maxLen; omega) (by omega) hbase
    exact ⟨v', w', hr, h2, h3⟩
theorem wpListIn_append_b {F : Fence} {m : Nat} {P : Program} (w : World) {ops : Array Oper} {rest : List Oper} {o : Oper} {a : Act} {Q : Exit → Act → World → Prop}
    (hg : o.guard = none) (s x : Operand) (t : TypeId) (hop : o.op = Op.call { callee := Callee.builtin Builtin.append, args := #[s, x], argTypes := #[t, t] })
    (base : Nat) (e : TypeId) (i : TypeInfo) (z : Value) (ht : P.underlying t = some (.slice e)) (hi : P.info? e = some i) (hz : i.zero = some z)
    (hsize : i.size = 1) (hby : i.bytes = 1) (hzs : z.cells.size = 1) (v : Value) (n : Nat) (xs : List Value) (hs : a.eval s = v) (hown : w.ownsRow base e 1 v n xs)
    {lo hi' : Nat} (sv : Value) (l : List UInt8) (hx : a.eval x = sv) (hsv : BSl lo hi' w sv l) (h63 : n + l.length ≤ 140737488355328) (hbase : base ≤ w.heap.size)
    (hK : ∀ v' w', w'.ownsRow base e 1 v' (n + l.length) (xs ++ l.map bv) → w.grownBy w' v.ownBlock → wpListIn F m P ops Q rest (a.put o.dst v') w') :
    wpListIn F m P ops Q (o :: rest) a w := by
  refine wpListIn_plain hg fun K hK' => ?_
  obtain ⟨v', w', hrun, r1, r2⟩ := run_append_b (P := P) w base t o.type e i z ht hi hz hsize hby hzs v n xs hown hsv h63 hbase
  unfold Oper.wpIn
  refine ⟨?_, ?_⟩
  · simp [Oper.about, hop, resolve, Target.leads, Sem.run_pure]
  · rw [Oper.semAt_plain F _ _ (by rw [hop]; intro c hc'; cases hc')]
    simp [execOp, hop, resolve, invoke, builtin, hs, hx, hrun, Result.andThen]
    exact hK' _ _ (hK v' w' r1 r2)
def ByO (l : List UInt8) (w : World) (e : Ending) (W' : World) : Prop := ∃ sv, e = .returned sv ∧ W'.ownsRow w.heap.size 5 1 sv l.length (l.map bv) ∧ Below w.heap.size w W'
end Go.Proofs.YtemknjnljciioaaGreat
namespace Go.Proofs.YtemknjnljciioaaGreat
open Go.RowKit Go.Shelf
attribute [local go_sem] Oper.semAt_some
set_option maxRecDepth 100000 in
set_option maxHeartbeats 4000000 in
theorem numO_in (m : Nat) (hm : 3 ≤ m) (n size : Int) (hs : -9223372036854775808 ≤ size) (hs' : size ≤ 9223372036854775807) (w : World) :
    CallsIn Fence.wide m Tryz.prog 18 #[.int .i64 n, .int .i64 size] w (ByO (octs (two n) (clamp size)) w) := by
  have h1 : 1 ≤ m := by omega
  refine callsIn_of_wp_marks Tryz.func18 rfl trivial ?_ rfl
  simp only [Tryz.ntmps18, List.size_toArray, List.length_cons, List.length_nil, Nat.reduceAdd, Nat.reduceSub, Array.replicate_succ, Array.replicate_zero, List.push_toArray, List.append_toArray, List.nil_append, List.cons_append]
  obtain ⟨i0, hi, hz0, hz1, hz2⟩ := info_parts Tryz.infoByte
  have hU : IntKind.u64.wrap n = (two n : Nat) := wrap_two n
  have hx : two n < M := by unfold two M; omega
  generalize two n = x at *
  have H8 := clamp_le size
  have hCC := clamp_cases size
  generalize clamp size = s at *
  rcases hCC with ⟨hc0, hC⟩ | ⟨hc0, hc8, hC⟩ | ⟨hc8, hC⟩
  all_goals
    have HC := Lib.hid hC
    clear hC
    gi_wp2_with (refine ⟨trivial, ?_⟩; gi_at_call 45; refine (octets_in Fence.wide (m - 1) trivial rfl _ _ _).mono ?_; rintro e w' ⟨rfl, rfl⟩)
    generalize hW5 : World.alloc _ _ = W5
    have k0 : Boxed W5 w.heap.size 22 (.slice none 0 0) := by rw [← hW5]; exact ((Boxed.new _ _ _).alloc _).alloc _
    have k1 : Boxed W5 (w.heap.size + 1) 93 (.int .u64 (x : Nat)) := by rw [← hW5]; exact (Blk.new' (vs := [.int .u64 (x : Nat)]) (by simp)).alloc _
    have k2 : Boxed W5 (w.heap.size + 1 + 1) 3 (.int .i64 (s : Nat)) := by rw [HC.out, ← hW5]; exact Blk.new' (vs := [.int .i64 _]) (by simp)
    have hB0 : Below w.heap.size w W5 := by rw [← hW5]; exact chainA (chainA (chain0 _ _) _) _
    have hz : W5.heap.size = w.heap.size + 3 := by rw [← hW5]; simp
    clear hW5
    refine wpIn_rangeFunc_ownF (S := fun ys => ys = octs x s) rfl h1 (gf := 85) (lb := #[.pointer (some ⟨w.heap.size + 1 + 1, 0, none⟩), .pointer (some ⟨w.heap.size + 1, 0, none⟩)]) rfl trivial (enters_of Tryz.func85 (by kernel_rfl) rfl)
      (octets1_stops Fence.wide (m - 1) trivial rfl (by omega) x s H8 (w.heap.size + 1) (w.heap.size + 1 + 1) W5 k1.lt k2.lt (k1.cell) k2.cell (KeepB (w.heap.size + 1)) (fun A B h => World.cell?_of_block h)) KeepB.t (KeepB.b k1.lt) (Below.refl _ _) (fun _ => rfl)
      (NumI w.heap.size (w.heap.size + 1) x w) (fun _ _ _ => False) (numI_own (Nat.le_refl _) (by omega)) (fun _ _ _ _ _ hs _ _ => hs)
      ⟨⟨⟨_, k0, World.ownsRow_nil _ _ _ _, trivial⟩, k1⟩, hB0⟩ ?_ ?_ ?_ ?_ ?_
    rotate_left
    · intro l x W K hK
      gi_wp2
      exact hK
    · rintro l pre o W ⟨⟨⟨v, kv, hown, _⟩, kn⟩, hB⟩ hlt
      have ko := kv.cell
      have kf := kv.frozen
      have hNW : w.heap.size ≤ W.heap.size := hB.size
      gi_wp2_with (gi_at_builtin; refine wpListIn_append_own _ rfl _ _ 22 rfl w.heap.size 5 i0 (.int .u8 0) 1 1 Tryz.underlying22 hi hz0 hz1 hz2 rfl (by decide) v pre.length (pre.map bv) rfl (hown.alloc _) ⟨W.heap.size, 0, none⟩ 1 1 [bv o] rfl rfl (cell_one_new _ _ _) (by simp [Value.oneCell']) (by unfold maxLen; omega) (by omega) (by simp; omega) ?_; intro v' w1 hown' hgrow _; obtain ⟨g, cap, rfl⟩ := ownsRow_succ hown'; obtain ⟨hv1, kv', hrow', hk3, hbw⟩ := kv.appended (by decide) hown hNW (Nat.le_refl _) hown' hgrow; have ko1 := hv1.cell; have kf1 := hv1.frozen)
      have hn1 : W.heap.size ≤ w1.heap.size := Nat.le_trans (by simp) hgrow.size
      have kn1 : Boxed w1 (w.heap.size + 1) 93 (.int .u64 (x : Nat)) := (kn.alloc _).kept hgrow (Boxed.not_row kn (by decide) hown)
      have kn3 := kn1.kept (grownBy_setCell' w1 w.heap.size (.slice (some ⟨g, 0, none⟩) (pre.length + 1) cap)) (by simp)
      exact ⟨hk3, kn3.trans kn.symm, ⟨⟨_, kv', by simpa using hrow', trivial⟩, kn3⟩, hB.trans hbw⟩
    · rintro D ys W hD rfl ⟨⟨⟨v, kv, hown, _⟩, kn⟩, hB⟩ hK
      have ko := kv.cell
      have HZ := Lib.hid hz
      clear hz
      gi_wp2
      have hB' := hB.trans (belowK_b (w := w) (Nat.le_refl _) _ D _ (.deferred none) (by have := HZ.out; omega) hK rfl rfl)
      have hown3 := ownsRow_putObj hown (.deferred none) hK rfl
      refine ⟨by simp, .inl ⟨_, _, rfl, run_takeDeferred hK, ?_⟩⟩
      refine ⟨v, ?_, ?_⟩
      · simp [results, Tryz.f18, go_sem]
      · exact ⟨v, rfl, hown3, hB'⟩
    · rintro D c pre W _ _ h _
      exact h.elim
theorem numO_any (n size : Int) (hs : -9223372036854775808 ≤ size) (hs' : size ≤ 9223372036854775807) (w : World) :
    Calls Tryz.prog 18 #[.int .i64 n, .int .i64 size] w (ByO (octs (two n) (clamp size)) w) := callsIn_wide.1 (numO_in 3 (by omega) n size hs hs' w)
end Go.Proofs.YtemknjnljciioaaGreat
namespace Go.Proofs.YtemknjnljciioaaGreat
open Go.RowKit
variable {F : Fence} {n : Nat} {P : Program}
def goesOn (B : Nat) (Kp : World → World → Prop) (I : World → Prop) (W : World) : Exit → Act → World → Prop
  | .normal, _, W' => KeepsFrom B W W' ∧ Kp W W' ∧ I W'
  | _, _, _ => False
def AllBut (B l : Nat) (W W' : World) : Prop := W.heap.size ≤ W'.heap.size ∧ ∀ k, k < W.heap.size → k ≠ B → k ≠ l → W'.heap[k]? = W.heap[k]?
theorem AllBut.refl (B l : Nat) (W : World) : AllBut B l W W := ⟨Nat.le_refl _, fun _ _ _ _ => rfl⟩
theorem AllBut.t {B l : Nat} {X Y Z : World} (h : AllBut B l X Y) (k : AllBut B l Y Z) : AllBut B l X Z :=
  ⟨Nat.le_trans h.1 k.1, fun j hj h1 h2 => (k.2 j (Nat.lt_of_lt_of_le hj h.1) h1 h2).trans (h.2 j hj h1 h2)⟩
theorem AllBut.b (B l : Nat) (W : World) (o' : Obj) : AllBut B l W (W.putObj l o') := ⟨by simp, fun j _ _ h2 => World.putObj_heap_other h2⟩
theorem AllBut.of_below {B l : Nat} {W W' : World} (h : Below W.heap.size W W') : AllBut B l W W' := ⟨h.size, fun j hj _ _ => h.block j hj⟩
theorem AllBut.of_grown {B l : Nat} {W W' : World} (h : W.grownBy W' (some B)) : AllBut B l W W' := ⟨h.size, fun j hj h1 _ => h.block j hj (fun e => h1 (Option.some.inj e))⟩
end Go.Proofs.YtemknjnljciioaaGreat
namespace Go.Proofs.YtemknjnljciioaaGreat
open Go.RowKit
variable {F : Fence} {n : Nat} {P : Program}
def SeqRel (F : Fence) (n : Nat) (P : Program) (g : Nat) (lb : Array Value) (N : Nat) (R : Nat → Array Value → World → Prop) (Kp : Nat → World → World → Prop) (w : World) : Prop :=
  ∀ (l : Nat) (J : Nat → World → Prop) (W : World), Below w.heap.size w W → w.heap.size ≤ l → l < W.heap.size → OwnFrom W.heap.size J →
    (∀ k x W1, k < N → R k x W1 → J k W1 → YieldAt F (n - 1) P l x W1 fun e W' => e = .returned (.bool true) ∧ J (k + 1) W' ∧ Kp l W1 W') →
    J 0 W → CallsIn F n P g (#[.func (.yield l) #[] #[]] ++ lb) W fun e W' => (∃ v, e = .returned v) ∧ J N W'
theorem wpIn_rangeFunc_rel {g : Operand} {ps : Array Tmp} {assign body : Code} {Q : Exit → Act → World → Prop} {a : Act} {w : World}
    (hro : F.round = none) (h1 : 1 ≤ n) {gf : Nat} {lb : Array Value} (hg : a.eval g = .func (.func gf) #[] lb) (hFg : F.fn gf) (eg : ∀ args w, (callFunc gf args).run P w = .ok (.enter gf args) w)
    {N : Nat} {R : Nat → Array Value → World → Prop} {Kp : Nat → World → World → Prop} {w0 : World} (hseq : SeqRel F (n - 1) P gf lb N R Kp w0)
    (hKt : ∀ {A B C : World}, Kp (w.heap.size + 1) A B → Kp (w.heap.size + 1) B C → Kp (w.heap.size + 1) A C) (hKb : ∀ (W : World) (o o' : Obj), W.heap[w.heap.size + 1]? = some o → o.isCells = false → o.isWalk = false → Kp (w.heap.size + 1) W (W.putObj (w.heap.size + 1) o')) (hb0 : Below w0.heap.size w0 w) (hps : ∀ k x W, R k x W → x.size = ps.size)
    (I : Nat → World → Prop) (hI : OwnFrom w.heap.size I) (h0 : I 0 w) (Ax : Nat → Array Value → Act → World → Prop) (hAx : ∀ k x a', OwnFrom w.heap.size (fun (_ : Unit) W => Ax k x a' W))
    (hassign : ∀ (l k : Nat) (x : Array Value) (W : World) (K : Act → World → Prop), k < N → R k x W → I k W → (∀ a' W', KeepsFrom w.heap.size W W' → Kp (w.heap.size + 1) W W' → I k W' → Ax k x a' W' → K a' W') →
      assign.wpIn (F.inRound l) (n - 1 - 1) P (Exit.then K (fun _ _ _ => False)) { tmps := (ps.zip x).foldl (fun t (p, v) => t.setIfInBounds p v) a.tmps, defers := [] } W)
    (hbody : ∀ (l k : Nat) (x : Array Value) (a' : Act) (W : World), k < N → I k W → Ax k x a' W → body.wpIn (F.inRound l) (n - 1 - 1) P (goesOn w.heap.size (Kp (w.heap.size + 1)) (I (k + 1)) W) a' W)
    (hdone : ∀ (D : Nat) (W : World), w.heap.size ≤ D → I N W → W.heap[D]? = some (.deferred (some [])) → Q .normal { a with defers := { target := .collected D, args := #[] } :: a.defers } W) :
    (Code.rangeFunc g ps assign body).wpIn F n P Q a w := by
  refine wpIn_rangeFunc fun fn hfn => ?_
  rw [hro]
  have hZ : w.heap.size < w.heap.size + 1 := Nat.lt_succ_self _
  have R0 : { r : Loop // r.state = .ready ∧ r.pending = none ∧ r = { state := .ready, pending := none, fn, tmps := a.tmps, params := ps, assign, body, defers := w.heap.size } } := ⟨_, rfl, rfl, rfl⟩
  obtain ⟨r, hr1, hr2, hre⟩ := R0
  have hrun := run_enterLoop_outer (P := P) (w := w) fn a.tmps ps assign body
  rw [← hre] at hrun
  generalize hW1 : (w.alloc (.deferred (some []))).alloc (.loop r) = W1 at hrun
  have hsz : W1.heap.size = w.heap.size + 2 := by rw [← hW1]; simp
  have gw : w.grownBy (w.alloc (.deferred (some []))) none := World.grownBy_alloc _ _ _
  have hl1 : W1.heap[w.heap.size + 1]? = some (.loop r) := by
    rw [← hW1]; simpa using World.alloc_heap_new (w.alloc (.deferred (some []))) (.loop r)
  have hd1 : W1.heap[w.heap.size]? = some (.deferred (some [])) := by
    rw [← hW1]; exact (Below.heap_alloc _ _ _ (by simp)).trans (World.alloc_heap_new _ _)
  have hi1 : I 0 W1 := by rw [← hW1]; exact hI.alloc _ (hI.alloc _ h0)
  have hB1 : Below w0.heap.size w0 W1 := by
    rw [← hW1]; exact hb0.trans (((Below.refl w.heap.size w).alloc (Nat.le_refl _) _).alloc (by simp) _ |>.mono hb0.size)
  refine ⟨_, _, W1, { target := .fn (.func gf) lb, args := #[.func (.yield (w.heap.size + 1)) #[] #[]] }, W1, gf, #[.func (.yield (w.heap.size + 1)) #[] #[]] ++ lb, W1, hrun, by simp only [resolve, hg]; simp [go_sem], fun f' hf' => ?_, by simp [invoke, go_sem, eg], fun _ => h1, ?_⟩
  · simp [Target.leads] at hf'; subst hf'; exact hFg
  refine (hseq (w.heap.size + 1) (fun k W => I k W ∧ W.heap[w.heap.size + 1]? = some (.loop r) ∧ W.heap[w.heap.size]? = some (.deferred (some []))) W1 hB1 (by have := hb0.size; omega) (by omega)
    (fun s A B row ⟨hi, hl, hd⟩ hg' hrow => ⟨hI s A B row hi hg' (fun q e => ⟨by have := (hrow q e).1; omega, (hrow q e).2⟩),
      (hg'.block _ (Array.getElem?_eq_some_iff.1 hl).1 (fun e => by have := (hrow _ e.symm).1; omega)).trans hl,
      (hg'.block _ (Array.getElem?_eq_some_iff.1 hd).1 (fun e => by have := (hrow _ e.symm).1; omega)).trans hd⟩) ?_ ⟨hi1, hl1, hd1⟩).mono ?_
  · rintro k x W hx hR ⟨hi, hl, hd⟩
    have hy := run_yield (P := P) (args := x) hl (by rw [hre]; exact hps k x W hR)
    have hy' := hy
    rw [hre] at hy'
    refine ⟨_, _, _, _, hy', roundIn_of_wpIn hfn (hassign _ k x W _ hx hR hi fun a' Wa hkf hkp hia hax => ?_)⟩
    have hla := hkf.same _ _ (by omega) hl rfl
    have hda := hkf.same _ _ (Nat.le_refl _) hd rfl
    have hlt := (Array.getElem?_eq_some_iff.1 hla).1
    refine ⟨_, run_beginRound hla hr1, ?_⟩
    have hlb : (Wa.putObj (w.heap.size + 1) (.loop { r with state := .busy })).heap[w.heap.size + 1]? = some (.loop { r with state := .busy }) := World.putObj_heap_same hlt
    have hdb : (Wa.putObj (w.heap.size + 1) (.loop { r with state := .busy })).heap[w.heap.size]? = some (.deferred (some [])) := (World.putObj_heap_other (by omega)).trans hda
    have hkb := hKb Wa _ (.loop { r with state := .busy }) hla rfl rfl
    refine wpIn_mono (hbody _ k x a' _ hx (hI.putObj _ hia (by omega) hla rfl) ((hAx k x a').putObj (s := ()) _ hax (by omega) hla rfl)) ?_
    rintro e a3 W3 hp
    cases e with
    | normal =>
      obtain ⟨hk3, hkp3, hi3⟩ := hp
      have hl3 := hk3.same _ _ (by omega) hlb rfl
      have hd3 := hk3.same _ _ (Nat.le_refl _) hdb rfl
      have hend := run_endRound (P := P) none hl3
      have hr' : ({ { r with state := .busy } with state := if (none : Option Code).isNone then .ready else .done, pending := none } : Loop) = r := by
        rw [hre]; simp
      rw [hr'] at hend
      refine ⟨_, _, hend, rfl, ⟨hI.putObj _ hi3 (by omega) hl3 rfl, World.putObj_heap_same (Array.getElem?_eq_some_iff.1 hl3).1, (World.putObj_heap_other (by omega)).trans hd3⟩, ?_⟩
      exact hKt hkp (hKt hkb (hKt hkp3 (hKb _ _ _ hl3 rfl rfl)))
    | ret => exact hp.elim
    | exit id => exact hp.elim
    | goto t => exact hp.elim
    | panic c => exact hp.elim
    | outgrown => exact hp.elim
  · rintro e W2 ⟨⟨v, rfl⟩, hi, hl, hd⟩
    have hend := run_endLoop (P := P) hl (by rw [hr1]; simp)
    rw [hr2] at hend
    exact ⟨none, _, hend, hdone _ _ (Nat.le_refl _) (hI.putObj _ hi (by omega) hl rfl) ((World.putObj_heap_other (by omega)).trans hd)⟩
theorem wpIn_rangeFunc_relA {α : Type} {g : Operand} {ps : Array Tmp} {assign body : Code} {Q : Exit → Act → World → Prop} {a : Act} {w : World}
    (hro : F.round = none) (h1 : 1 ≤ n) {gf : Nat} {lb : Array Value} (hg : a.eval g = .func (.func gf) #[] lb) (hFg : F.fn gf) (eg : ∀ args w, (callFunc gf args).run P w = .ok (.enter gf args) w)
    {N : Nat} {encs : α → Array Value} {R : Nat → α → World → Prop} {Kp : Nat → World → World → Prop} {w0 : World} (hseq : SeqRel F (n - 1) P gf lb N (fun k x W => ∃ y, R k y W ∧ x = encs y) Kp w0)
    (hKt : ∀ {A B C : World}, Kp (w.heap.size + 1) A B → Kp (w.heap.size + 1) B C → Kp (w.heap.size + 1) A C) (hKb : ∀ (W : World) (o o' : Obj), W.heap[w.heap.size + 1]? = some o → o.isCells = false → o.isWalk = false → Kp (w.heap.size + 1) W (W.putObj (w.heap.size + 1) o')) (hKr : ∀ W, Kp (w.heap.size + 1) W W) (hb0 : Below w0.heap.size w0 w) (hps : ∀ y, (encs y).size = ps.size)
    (I : Nat → World → Prop) (hI : OwnFrom w.heap.size I) (h0 : I 0 w) (hR : ∀ k y, OwnFrom w.heap.size (fun (_ : Unit) W => R k y W)) (a₁ : α → Act)
    (hassign : ∀ (l k : Nat) (y : α) (W : World) (K : Act → World → Prop), R k y W → K (a₁ y) W →
      assign.wpIn (F.inRound l) (n - 1 - 1) P (Exit.then K (fun _ _ _ => False)) { tmps := (ps.zip (encs y)).foldl (fun t (p, v) => t.setIfInBounds p v) a.tmps, defers := [] } W)
    (hbody : ∀ (l k : Nat) (y : α) (W : World), k < N → I k W → R k y W → body.wpIn (F.inRound l) (n - 1 - 1) P (goesOn w.heap.size (Kp (w.heap.size + 1)) (I (k + 1)) W) (a₁ y) W)
    (hdone : ∀ (D : Nat) (W : World), w.heap.size ≤ D → I N W → W.heap[D]? = some (.deferred (some [])) → Q .normal { a with defers := { target := .collected D, args := #[] } :: a.defers } W) :
    (Code.rangeFunc g ps assign body).wpIn F n P Q a w :=
  wpIn_rangeFunc_rel hro h1 hg hFg eg hseq (fun h k => hKt h k) hKb hb0 (fun k x W ⟨y, _, e⟩ => by rw [e]; exact hps y) I hI h0 (fun k x a' W => ∃ y, a' = a₁ y ∧ R k y W) (fun k x a' s A B row ⟨y, e, h⟩ hg' hr => ⟨y, e, hR k y s A B row h hg' hr⟩)
    (fun l k x W K _ hr hi hK => by
      obtain ⟨y, hy, rfl⟩ := hr
      exact hassign l k y W K hy (hK _ _ (KeepsFrom.refl _ _) (hKr W) hi ⟨y, rfl, hy⟩))
    (fun l k x a' W hx hi e => by obtain ⟨y, rfl, hr⟩ := e; exact hbody l k y W hx hi hr) hdone
end Go.Proofs.YtemknjnljciioaaGreat
namespace Go.Proofs.YtemknjnljciioaaGreat
open Go.RowKit Go.Shelf
attribute [local go_sem] Oper.semAt_some
abbrev SX (m n : Nat) (w : World) := { x : Value × List UInt8 // BSl 0 n w x.1 x.2 ∧ x.2.length ≤ m }
abbrev sxEnc {o n : Nat} {w : World} (x : SX o n w) : Array Value := #[x.1.1]
def SRow {o n : Nat} {w : World} (W : World) (b off : Nat) (l : List (SX o n w)) : Prop := ∀ k x, l[k]? = some x → W.cell? ⟨b, off + k, none⟩ = some x.1.1
theorem SRow.below {o n : Nat} {w : World} {W W' : World} {m b off : Nat} {l : List (SX o n w)} (h : SRow W b off l) (hb : Below m W W') (hlt : b < m) : SRow W' b off l := fun k x hx => (hb.cell (p := ⟨b, _, none⟩) hlt).trans (h k x hx)
def SSl {o n : Nat} {w : World} (m : Nat) (W : World) (sv : Value) (zs : List (SX o n w)) : Prop :=
  ∃ a cap, sv = .slice a zs.length cap ∧ (zs = [] ∨ ∃ b off, a = some ⟨b, off, none⟩ ∧ b < m ∧ SRow W b off zs)
theorem SSl.below {o n : Nat} {w : World} {m k : Nat} {W W' : World} {sv : Value} {zs : List (SX o n w)} (h : SSl m W sv zs) (hb : Below k W W') (hm : m ≤ k) : SSl m W' sv zs := by
  obtain ⟨a, cap, e, h0 | ⟨b, off, ha, hl, ho⟩⟩ := h
  · exact ⟨a, cap, e, .inl h0⟩
  · exact ⟨a, cap, e, .inr ⟨b, off, ha, hl, ho.below hb (by omega)⟩⟩
def flat {o n : Nat} {w : World} (l : List (SX o n w)) : List UInt8 := (l.map fun x => x.1.2).flatten
theorem flat_snoc {o n : Nat} {w : World} (l : List (SX o n w)) (x : SX o n w) : flat (l ++ [x]) = flat l ++ x.1.2 := by simp [flat]
set_option maxRecDepth 100000 in
set_option maxHeartbeats 4000000 in
theorem valuesS1_in (F : Fence) (n : Nat) (h7 : F.fn 86) (hro : F.round = none) (hn : 1 ≤ n) (l Bs n₀ b off cap : Nat) {m₁ n₁ : Nat} {w₁ : World} (zs : List (SX m₁ n₁ w₁)) (hreach : zs.length ≤ 140737488351232) (hb : b < n₀) (J Jx : List (SX m₁ n₁ w₁) → World → Prop)
    (W : World)
    (hY : ∀ pre x W, J pre W → zs[pre.length]? = some x → YieldAt F (n - 1) Tryz.prog l (sxEnc x) W fun e W' =>
      (e = .returned (.bool true) ∧ J (pre ++ [x]) W' ∧ Below n₀ W W') ∨ (e = .returned (.bool false) ∧ Jx (pre ++ [x]) W'))
    (hBs : W.cell? ⟨Bs, 0, none⟩ = some (.slice (some ⟨b, off, none⟩) zs.length cap)) (hc : SRow W b off zs) (h0 : J [] W) :
    CallsIn F n Tryz.prog 86 #[.func (.yield l) #[] #[], .pointer (some ⟨Bs, 0, none⟩)] W fun e W' => (∃ v, e = .returned v) ∧
      ((∃ ys, ys = zs ∧ J ys W') ∨ (∃ pre, True ∧ Jx pre W')) := by
  refine callsIn_of_wp Tryz.func86 rfl h7 ?_ hro
  simp only [Tryz.ntmps86, List.size_toArray, List.length_cons, List.length_nil, Nat.reduceAdd, Nat.reduceSub, Array.replicate_succ, Array.replicate_zero, List.push_toArray, List.append_toArray, List.nil_append, List.cons_append]
  gi_wp2
  gi_loopw [7] (fun i wr => ∃ k : Nat, k ≤ zs.length ∧ i = .int .i64 k ∧ J (zs.take k) wr ∧ Below n₀ W wr) (fun i _ => zs.length - (intOf i).toNat)
  case atStart => exact ⟨0, Nat.zero_le _, rfl, h0, Below.refl _ _⟩
  case round =>
    obtain ⟨k, hk, rfl, hJs, hnx⟩ := hrel
    by_cases hlt : k < zs.length
    · obtain ⟨x, hx⟩ : ∃ x, zs[k]? = some x := ⟨_, List.getElem?_eq_getElem hlt⟩
      have c0 := (hc.below hnx hb) k x hx
      obtain ⟨⟨xa, xc, hxe, _⟩, _⟩ := x.2
      rw [hxe] at c0
      have hk0 : (k : Int) < (zs.length : Int) := by omega
      obtain ⟨fn, tmps, assign, body, hy, hR⟩ := hY (zs.take k) x wr hJs (by rw [List.length_take, Nat.min_eq_left (Nat.le_of_lt hlt)]; exact hx)
      have ht : zs.take (k + 1) = zs.take k ++ [x] := by rw [List.take_add_one, hx]; rfl
      rw [← ht] at hR
      have hE : sxEnc x = #[.slice xa x.1.2.length xc] := by show #[x.1.1] = _; rw [hxe]
      rw [hE] at hy
      clear ht hE hxe
      have HX := Lib.hid hx
      clear hx
      generalize hL : zs.length = len at *
      have HL := Lib.hid hL
      clear hL
      gi_wp2
      refine hR.mono ?_
      rintro e W3 (⟨rfl, hJ3, hk3⟩ | ⟨rfl, hJx3⟩)
      · gi_wp2
        go_roundw
        case rel => exact ⟨k + 1, by omega, by simp, hJ3, hnx.trans hk3⟩
        case measure => simp [intOf]; omega
      · gi_wp2
        refine bodyPost_ret (results_none rfl _ _ _) rfl ?_
        exact ⟨⟨_, rfl⟩, .inr ⟨_, trivial, hJx3⟩⟩
    · obtain rfl : k = zs.length := by omega
      gi_wp2
      go_end0
      rw [List.take_length] at hJs
      exact ⟨⟨_, rfl⟩, .inl ⟨_, rfl, hJs⟩⟩
set_option maxRecDepth 100000 in
set_option maxHeartbeats 1000000 in
theorem valuesS1_nil_in {m₁ n₁ : Nat} {w₁ : World} (F : Fence) (n : Nat) (h7 : F.fn 86) (hro : F.round = none) (l Bs : Nat) (a : Option Addr) (cap : Nat) (J : List (SX m₁ n₁ w₁) → World → Prop) (W : World) (hBs : W.cell? ⟨Bs, 0, none⟩ = some (.slice a 0 cap)) (h0 : J [] W) :
    CallsIn F n Tryz.prog 86 #[.func (.yield l) #[] #[], .pointer (some ⟨Bs, 0, none⟩)] W fun e W' => (∃ v, e = .returned v) ∧ J [] W' := by
  refine callsIn_of_wp Tryz.func86 rfl h7 ?_ hro
  simp only [Tryz.ntmps86, List.size_toArray, List.length_cons, List.length_nil, Nat.reduceAdd, Nat.reduceSub, Array.replicate_succ, Array.replicate_zero, List.push_toArray, List.append_toArray, List.nil_append, List.cons_append]
  gi_wp2
  gi_loopw [7] (fun i wr => i = .int .i64 0 ∧ J [] wr) (fun _ _ => 0)
  case atStart => exact ⟨rfl, h0⟩
  case round =>
    obtain ⟨rfl, hJs⟩ := hrel
    gi_wp2
    go_end0
    exact ⟨⟨_, rfl⟩, hJs⟩
set_option maxHeartbeats 1000000 in
theorem valuesS_in (F : Fence) (n : Nat) (h5 : F.fn 46) (hro : F.round = none) (a : Option Addr) (len cap : Nat) (w : World) :
    CallsIn F n Tryz.prog 46 #[.slice a len cap] w fun e w' => e = .returned (.func (.func 86) #[] #[.pointer (some ⟨w.heap.size, 0, none⟩)]) ∧ w' = w.alloc (.cells #[.slice a len cap] 94) := by
  refine callsIn_of_wp Tryz.func46 rfl h5 ?_ hro
  simp only [Tryz.ntmps46, List.size_toArray, List.length_cons, List.length_nil, Nat.reduceAdd, Nat.reduceSub, Array.replicate_succ, Array.replicate_zero, List.push_toArray, List.append_toArray, List.nil_append, List.cons_append]
  gi_wp2
  go_ret
  exact ⟨rfl, rfl⟩
theorem valuesS_rel (m : Nat) (hm : 1 ≤ m) (Bs n₀ : Nat) (sv : Value) {m₁ n₁ : Nat} {w₁ : World} (zs : List (SX m₁ n₁ w₁)) (hreach : zs.length ≤ 140737488351232) (w : World) (hn₀ : n₀ ≤ w.heap.size)
    (hk : Boxed w Bs 94 sv) (hI : SSl n₀ w sv zs) :
    SeqRel Fence.wide m Tryz.prog 86 #[.pointer (some ⟨Bs, 0, none⟩)] zs.length (fun k x _ => ∃ y, zs[k]? = some y ∧ x = sxEnc y) (fun _ => Below n₀) w := fun l J W hW _ _ _ hY h0 => by
  have hc' := (hW.cell (p := ⟨Bs, 0, none⟩) hk.lt).trans hk.cell
  obtain ⟨a, cap, rfl, rfl | ⟨b, off, rfl, hb, hcs⟩⟩ := hI.below hW hn₀
  · exact (valuesS1_nil_in (m₁ := m₁) (n₁ := n₁) (w₁ := w₁) Fence.wide m trivial rfl l Bs a cap (fun _ => J 0) W hc' h0).mono fun e W' ⟨he, hj⟩ => ⟨he, hj⟩
  · refine (valuesS1_in Fence.wide m trivial rfl hm l Bs n₀ b off cap zs hreach hb (fun pre X => pre = zs.take pre.length ∧ J pre.length X) (fun _ _ => False) W (fun pre x W1 hj hx => ?_) hc' hcs ⟨rfl, h0⟩).mono ?_
    · refine (hY pre.length (sxEnc x) W1 (List.getElem?_eq_some_iff.1 hx).1 ⟨x, hx, rfl⟩ hj.2).mono fun e W' h => .inl ⟨h.1, ⟨?_, by rw [List.length_append]; exact h.2.1⟩, h.2.2⟩
      rw [List.length_append, List.length_singleton, List.take_add_one, hx, ← hj.1]; rfl
    · rintro e W' ⟨he, ⟨ys, rfl, _, hj⟩ | ⟨_, _, h⟩⟩
      · exact ⟨he, hj⟩
      · exact h.elim
end Go.Proofs.YtemknjnljciioaaGreat
