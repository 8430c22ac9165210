/-
  What wide's words are as values; what math/bits.Add64 and Sub64 give; a sequence of four words with their places.
-/
import Derived.RangeFuncNested
import Derived.RangeFuncBound
import Derived.RangeFuncCalls
import Derived.RangeFuncLeaves
import Derived.Shelf.Abstract
import Derived.Shelf.RegionOpen
import Derived.WalkKit
import Derived.OwnWalkIn
import Derived.TacticsInMore
import Derived.LoopNIn
import Derived.LoopIn
import Derived.Lib.Hide
import Derived.Shelf.Spec.BitsCarry
import Derived.Test.YteimghegjdjjfaaProg
namespace Go.Proofs.Yteimghegjdjjfaa
open Go.RowKit Go.Shelf

/-- Two to the power of 64. -/
def M : Nat := 18446744073709551616
theorem M_eq : M = 18446744073709551616 := rfl
theorem M_pos : 0 < M := by unfold M; omega

/-- A wide number as a value: four words, the lowest first. -/
abbrev wv (a0 a1 a2 a3 : Nat) : Value := .agg #[.int .u64 (a0 : Int), .int .u64 (a1 : Int), .int .u64 (a2 : Int), .int .u64 (a3 : Int)]

def addLo (x y c : Nat) : Nat := (x + y + c) % M
def addHi (x y c : Nat) : Nat := (x + y + c) / M
def subLo (x y b : Nat) : Nat := (x + M - y - b) % M
def subHi (x y b : Nat) : Nat := if x < y + b then 1 else 0

theorem run_bitsAdd64 (x y c : Nat) (hc : c ≤ 1) (w : World) :
    (callFunc 23 #[.int .u64 x, .int .u64 y, .int .u64 c]).run Try.prog w = .ok (.value (.tuple #[.int .u64 (addLo x y c : Nat), .int .u64 (addHi x y c : Nat)])) w := by
  rw [run_callFunc_extern Try.func23 (by kernel_rfl) (by kernel_rfl) (by kernel_rfl) (e := add64Entry) (by kernel_rfl), run_add64 x y c (by omega) (by omega) (by omega) (by omega)]
  simp only [Result.andThen, addLo, addHi, M]
  congr 5 <;> omega

theorem run_bitsSub64 (x y b : Nat) (hb : b ≤ 1) (w : World) :
    (callFunc 24 #[.int .u64 x, .int .u64 y, .int .u64 b]).run Try.prog w = .ok (.value (.tuple #[.int .u64 (subLo x y b : Nat), .int .u64 (subHi x y b : Nat)])) w := by
  rw [run_callFunc_extern Try.func24 (by kernel_rfl) (by kernel_rfl) (by kernel_rfl) (e := sub64Entry) (by kernel_rfl), run_sub64 x y b hb]
  rfl

/-- The first k of what f gives. -/
def upto {α : Type} (f : Nat → α) (k : Nat) : List α := (List.range k).map f
theorem upto_succ {α : Type} (f : Nat → α) (k : Nat) : upto f (k + 1) = upto f k ++ [f k] := by simp [upto, List.range_succ]
theorem upto_length {α : Type} (f : Nat → α) (k : Nat) : (upto f k).length = k := by simp [upto]


/-- BLOCK B HOLDS THE CELLS vs. -/
def Blk (W : World) (B : Nat) (t : TypeId) (vs : List Value) : Prop := W.heap[B]? = some (.cells vs.toArray t (0, 0))
theorem Blk.lt {W : World} {B : Nat} {t : TypeId} {vs : List Value} (h : Blk W B t vs) : B < W.heap.size := (Array.getElem?_eq_some_iff.1 h).1
theorem Blk.cell {W : World} {B : Nat} {t : TypeId} {vs : List Value} (h : Blk W B t vs) (i : Nat) : W.cell? ⟨B, i, none⟩ = vs[i]? := by simp [World.cell?, show W.heap[B]? = _ from h]
theorem Blk.frozen {W : World} {B : Nat} {t : TypeId} {vs : List Value} (h : Blk W B t vs) (i : Nat) : W.frozen? ⟨B, i, none⟩ = false := by simp [World.frozen?, show W.heap[B]? = _ from h]
theorem Blk.new (W : World) (t : TypeId) (vs : List Value) : Blk (W.alloc (.cells vs.toArray t)) W.heap.size t vs := World.alloc_heap_new W _
theorem Blk.new' {W : World} {B : Nat} {t : TypeId} {vs : List Value} (h : W.heap.size = B) : Blk (W.alloc (.cells vs.toArray t)) B t vs := h ▸ Blk.new W t vs
theorem Blk.kept {W W' : World} {row : Option Nat} {B : Nat} {t : TypeId} {vs : List Value} (h : Blk W B t vs) (hg : W.grownBy W' row) (hne : some B ≠ row) : Blk W' B t vs := (hg.block B h.lt hne).trans h
theorem Blk.alloc {W : World} {B : Nat} {t : TypeId} {vs : List Value} (h : Blk W B t vs) (o : Obj) : Blk (W.alloc o) B t vs := h.kept (World.grownBy_alloc W o none) (by simp)
theorem Blk.drew {W : World} {B : Nat} {t : TypeId} {vs : List Value} (h : Blk W B t vs) : Blk W.drew B t vs := h
theorem Blk.below {W W' : World} {n B : Nat} {t : TypeId} {vs : List Value} (h : Blk W B t vs) (hb : Below n W W') (hlt : B < n) : Blk W' B t vs := (hb.block B hlt).trans h
theorem Blk.set {W : World} {B : Nat} {t : TypeId} {vs : List Value} (h : Blk W B t vs) (i : Nat) (v : Value) : Blk (W.setCell ⟨B, i, none⟩ v) B t (vs.set i v) := by
  obtain ⟨hlt, hk⟩ := Array.getElem?_eq_some_iff.1 h
  show (W.heap.modify B _)[B]? = _
  rw [Array.getElem?_eq_getElem (by rw [Array.size_modify]; exact hlt), Array.getElem_modify_self, hk]
  simp
theorem grownBy_setCell4 (W : World) (b i : Nat) (v : Value) : W.grownBy (W.setCell ⟨b, i, none⟩ v) (some b) :=
  ⟨rfl, rfl, rfl, (KeepsWalks.setCell W _ v).size, fun k _ hk => Below.heap_setCell _ _ _ k (fun e => hk (by rw [e]))⟩
theorem Blk.other {W : World} {B B' : Nat} {t : TypeId} {vs : List Value} (h : Blk W B t vs) (i : Nat) (v : Value) (hne : B ≠ B') : Blk (W.setCell ⟨B', i, none⟩ v) B t vs :=
  h.kept (grownBy_setCell4 W B' i v) (fun e => hne (by cases e; rfl))
/-- 'The block holds f s' speaks of cells alone. -/
theorem blk_own {β : Type} (B : Nat) (t : TypeId) (f : β → List Value) : Own (fun s W => Blk W B t (f s)) := fun s X Y row hs hg hrow =>
  hs.kept hg (fun e' => by obtain ⟨o, ho, hc⟩ := hrow B e'.symm; rw [show X.heap[B]? = _ from hs] at ho; cases ho; cases hc)

theorem Blk.c4 {W : World} {B : Nat} {t : TypeId} {v0 v1 v2 v3 : Value} (h : Blk W B t [v0, v1, v2, v3]) :
    W.cell? ⟨B, 0, none⟩ = some v0 ∧ W.cell? ⟨B, 1, none⟩ = some v1 ∧ W.cell? ⟨B, 2, none⟩ = some v2 ∧ W.cell? ⟨B, 3, none⟩ = some v3 := ⟨h.cell 0, h.cell 1, h.cell 2, h.cell 3⟩
/-- The block of a wide number. -/
abbrev BlkW (W : World) (B a0 a1 a2 a3 : Nat) : Prop := Blk W B 24 [.int .u64 (a0 : Int), .int .u64 (a1 : Int), .int .u64 (a2 : Int), .int .u64 (a3 : Int)]
theorem chain {w w1 w2 : World} (h : Below w.heap.size w w1) (k : Below w1.heap.size w1 w2) : Below w.heap.size w w2 := h.trans (k.mono h.size)
theorem chainA {w w1 : World} (h : Below w.heap.size w w1) (o : Obj) : Below w.heap.size w (w1.alloc o) := h.alloc h.size o
theorem chain0 (w : World) (o : Obj) : Below w.heap.size w (w.alloc o) := chainA (Below.refl _ w) o

/-- Four words as cells. -/
def ws (s : Nat → Nat) : List Value := [.int .u64 (s 0 : Nat), .int .u64 (s 1 : Nat), .int .u64 (s 2 : Nat), .int .u64 (s 3 : Nat)]
theorem ws_at (s : Nat → Nat) {i : Nat} (hi : i < 4) : (ws s)[i]? = some (.int .u64 (s i : Nat)) := by
  have : i = 0 ∨ i = 1 ∨ i = 2 ∨ i = 3 := by omega
  rcases this with rfl | rfl | rfl | rfl <;> rfl
def upd (s : Nat → Nat) (i v : Nat) : Nat → Nat := fun j => if j = i then v else s j
theorem ws_set (s : Nat → Nat) {i : Nat} (hi : i < 4) (v : Nat) : (ws s).set i (.int .u64 (v : Nat)) = ws (upd s i v) := by
  have : i = 0 ∨ i = 1 ∨ i = 2 ∨ i = 3 := by omega
  rcases this with rfl | rfl | rfl | rfl <;> rfl
/-- The word at place k of four. -/
def word (a0 a1 a2 a3 : Nat) (k : Nat) : Nat := match k with | 0 => a0 | 1 => a1 | 2 => a2 | _ => a3
theorem word_lt {a0 a1 a2 a3 : Nat} (h0 : a0 < M) (h1 : a1 < M) (h2 : a2 < M) (h3 : a3 < M) (k : Nat) : word a0 a1 a2 a3 k < M := by
  unfold word; split <;> assumption
theorem addHi_le {x y c : Nat} (hx : x < M) (hy : y < M) (hc : c ≤ 1) : addHi x y c ≤ 1 := by
  unfold addHi M at *; omega

end Go.Proofs.Yteimghegjdjjfaa
