/-
  Words for memory: blocks known whole, what lies below, four words as one number.
-/
import Derived.RangeFuncNested
import Derived.RangeFuncBound
import Derived.RangeFuncCalls
import Derived.RangeFuncLeaves
import Derived.RangeFuncBox
import Derived.Shelf.Abstract
import Derived.Shelf.RegionOpen
import Derived.WalkKit
import Derived.OwnWalkIn
import Derived.TacticsInMore
import Derived.LoopNIn
import Derived.LoopIn
import Derived.Lib.Hide
import Derived.Test.YtakeickgjplahaaProg
namespace Go.Proofs.Ytakeickgjplahaa
open Go.RowKit Go.Shelf

/-- Two to the power of 64. -/
def M : Nat := 18446744073709551616
theorem M_eq : M = 18446744073709551616 := rfl
theorem M_pos : 0 < M := by unfold M; omega

/-- A wide number as a value: four words, the lowest first. -/
abbrev wv (a0 a1 a2 a3 : Nat) : Value := .agg #[.int .u64 (a0 : Int), .int .u64 (a1 : Int), .int .u64 (a2 : Int), .int .u64 (a3 : Int)]

/-- Four words are words. -/
structure Ok4 (a0 a1 a2 a3 : Nat) : Prop where
  h0 : a0 < M
  h1 : a1 < M
  h2 : a2 < M
  h3 : a3 < M
/-- The first k of what f gives. -/
def upto {α : Type} (f : Nat → α) (k : Nat) : List α := (List.range k).map f
theorem upto_succ {α : Type} (f : Nat → α) (k : Nat) : upto f (k + 1) = upto f k ++ [f k] := by simp [upto, List.range_succ]
theorem upto_length {α : Type} (f : Nat → α) (k : Nat) : (upto f k).length = k := by simp [upto]


/-- BLOCK B HOLDS THE CELLS vs. -/
def Blk (W : World) (B : Nat) (t : TypeId) (vs : List Value) : Prop := W.heap[B]? = some (.cells vs.toArray t (0, 0))
theorem Blk.lt {W : World} {B : Nat} {t : TypeId} {vs : List Value} (h : Blk W B t vs) : B < W.heap.size := (Array.getElem?_eq_some_iff.1 h).1
theorem Blk.cell {W : World} {B : Nat} {t : TypeId} {vs : List Value} (h : Blk W B t vs) (i : Nat) : W.cell? ⟨B, i, none⟩ = vs[i]? := by simp [World.cell?, show W.heap[B]? = _ from h]
theorem Blk.frozen {W : World} {B : Nat} {t : TypeId} {vs : List Value} (h : Blk W B t vs) (i : Nat) : W.frozen? ⟨B, i, none⟩ = false := by simp [World.frozen?, show W.heap[B]? = _ from h]
theorem Blk.new (W : World) (t : TypeId) (vs : List Value) : Blk (W.alloc (.cells vs.toArray t)) W.heap.size t vs := World.alloc_heap_new W _
theorem Blk.new' {W : World} {B : Nat} {t : TypeId} {vs : List Value} (h : W.heap.size = B) : Blk (W.alloc (.cells vs.toArray t)) B t vs := h ▸ Blk.new W t vs
theorem Blk.kept {W W' : World} {row : Option Nat} {B : Nat} {t : TypeId} {vs : List Value} (h : Blk W B t vs) (hg : W.grownBy W' row) (hne : some B ≠ row) : Blk W' B t vs := (hg.block B h.lt hne).trans h
theorem Blk.alloc {W : World} {B : Nat} {t : TypeId} {vs : List Value} (h : Blk W B t vs) (o : Obj) : Blk (W.alloc o) B t vs := h.kept (World.grownBy_alloc W o none) (by simp)
theorem Blk.drew {W : World} {B : Nat} {t : TypeId} {vs : List Value} (h : Blk W B t vs) : Blk W.drew B t vs := h
theorem Blk.below {W W' : World} {n B : Nat} {t : TypeId} {vs : List Value} (h : Blk W B t vs) (hb : Below n W W') (hlt : B < n) : Blk W' B t vs := (hb.block B hlt).trans h
theorem Blk.set {W : World} {B : Nat} {t : TypeId} {vs : List Value} (h : Blk W B t vs) (i : Nat) (v : Value) : Blk (W.setCell ⟨B, i, none⟩ v) B t (vs.set i v) := by
  obtain ⟨hlt, hk⟩ := Array.getElem?_eq_some_iff.1 h
  show (W.heap.modify B _)[B]? = _
  rw [Array.getElem?_eq_getElem (by rw [Array.size_modify]; exact hlt), Array.getElem_modify_self, hk]
  simp
theorem grownBy_setCell4 (W : World) (b i : Nat) (v : Value) : W.grownBy (W.setCell ⟨b, i, none⟩ v) (some b) :=
  ⟨rfl, rfl, rfl, (KeepsWalks.setCell W _ v).size, fun k _ hk => Below.heap_setCell _ _ _ k (fun e => hk (by rw [e]))⟩
theorem Blk.other {W : World} {B B' : Nat} {t : TypeId} {vs : List Value} (h : Blk W B t vs) (i : Nat) (v : Value) (hne : B ≠ B') : Blk (W.setCell ⟨B', i, none⟩ v) B t vs :=
  h.kept (grownBy_setCell4 W B' i v) (fun e => hne (by cases e; rfl))
/-- 'The block holds f s' speaks of cells alone. -/
theorem blk_own {β : Type} (B : Nat) (t : TypeId) (f : β → List Value) : Own (fun s W => Blk W B t (f s)) := fun s X Y row hs hg hrow =>
  hs.kept hg (fun e' => by obtain ⟨o, ho, hc⟩ := hrow B e'.symm; rw [show X.heap[B]? = _ from hs] at ho; cases ho; cases hc)

theorem Blk.c4 {W : World} {B : Nat} {t : TypeId} {v0 v1 v2 v3 : Value} (h : Blk W B t [v0, v1, v2, v3]) :
    W.cell? ⟨B, 0, none⟩ = some v0 ∧ W.cell? ⟨B, 1, none⟩ = some v1 ∧ W.cell? ⟨B, 2, none⟩ = some v2 ∧ W.cell? ⟨B, 3, none⟩ = some v3 := ⟨h.cell 0, h.cell 1, h.cell 2, h.cell 3⟩
theorem chain {w w1 w2 : World} (h : Below w.heap.size w w1) (k : Below w1.heap.size w1 w2) : Below w.heap.size w w2 := h.trans (k.mono h.size)
theorem chainA {w w1 : World} (h : Below w.heap.size w w1) (o : Obj) : Below w.heap.size w (w1.alloc o) := h.alloc h.size o
theorem chain0 (w : World) (o : Obj) : Below w.heap.size w (w.alloc o) := chainA (Below.refl _ w) o

/-- Four words as cells. -/
def ws (s : Nat → Nat) : List Value := [.int .u64 (s 0 : Nat), .int .u64 (s 1 : Nat), .int .u64 (s 2 : Nat), .int .u64 (s 3 : Nat)]
theorem ws_at (s : Nat → Nat) {i : Nat} (hi : i < 4) : (ws s)[i]? = some (.int .u64 (s i : Nat)) := by
  have : i = 0 ∨ i = 1 ∨ i = 2 ∨ i = 3 := by omega
  rcases this with rfl | rfl | rfl | rfl <;> rfl
def upd (s : Nat → Nat) (i v : Nat) : Nat → Nat := fun j => if j = i then v else s j
theorem ws_set (s : Nat → Nat) {i : Nat} (hi : i < 4) (v : Nat) : (ws s).set i (.int .u64 (v : Nat)) = ws (upd s i v) := by
  have : i = 0 ∨ i = 1 ∨ i = 2 ∨ i = 3 := by omega
  rcases this with rfl | rfl | rfl | rfl <;> rfl
/-- The word at place k of four. -/
def word (a0 a1 a2 a3 : Nat) (k : Nat) : Nat := match k with | 0 => a0 | 1 => a1 | 2 => a2 | _ => a3
theorem word_lt {a0 a1 a2 a3 : Nat} (h0 : a0 < M) (h1 : a1 < M) (h2 : a2 < M) (h3 : a3 < M) (k : Nat) : word a0 a1 a2 a3 k < M := by
  unfold word; split <;> assumption
def val (a0 a1 a2 a3 : Nat) : Nat := a0 + M * (a1 + M * (a2 + M * a3))
def M4 : Nat := M * M * M * M

theorem val_lt {a0 a1 a2 a3 : Nat} (h : Ok4 a0 a1 a2 a3) : val a0 a1 a2 a3 < M4 := by
  obtain ⟨h0, h1, h2, h3⟩ := h
  unfold val M4 M at *; omega

theorem val_inj {a0 a1 a2 a3 b0 b1 b2 b3 : Nat} (h : Ok4 a0 a1 a2 a3) (k : Ok4 b0 b1 b2 b3) (e : val a0 a1 a2 a3 = val b0 b1 b2 b3) : a0 = b0 ∧ a1 = b1 ∧ a2 = b2 ∧ a3 = b3 := by
  obtain ⟨h0, h1, h2, h3⟩ := h
  obtain ⟨k0, k1, k2, k3⟩ := k
  unfold val M at *; omega

/-- Block B lies as it lay. -/
def KeepB (B : Nat) (W W' : World) : Prop := W'.heap[B]? = W.heap[B]?
theorem KeepB.t {B : Nat} {X Y Z : World} (h : KeepB B X Y) (k : KeepB B Y Z) : KeepB B X Z := k.trans h
theorem KeepB.b {B : Nat} {w : World} (hB : B < w.heap.size) (W : World) (l : Nat) (o o' : Obj) (hl : w.heap.size ≤ l) (_ : W.heap[l]? = some o) (_ : o.isCells = false) (_ : o.isWalk = false) : KeepB B W (W.putObj l o') :=
  World.putObj_heap_other (by omega)
theorem KeepB.refl (B : Nat) (W : World) : KeepB B W W := rfl
theorem KeepB.setCell {B : Nat} {W : World} {a : Addr} (v : Value) (h : B ≠ a.block) : KeepB B W (W.setCell a v) := Below.heap_setCell _ _ _ B h

/-- Words that come to n, and true. -/
def GotW (n : Nat) (w : World) (e : Ending) (W' : World) : Prop :=
  ∃ s0 s1 s2 s3, Ok4 s0 s1 s2 s3 ∧ val s0 s1 s2 s3 = n ∧ e = .returned (.tuple #[wv s0 s1 s2 s3, .bool true]) ∧ Below w.heap.size w W'
def NoW (w : World) (e : Ending) (W' : World) : Prop := e = .returned (.tuple #[wv 0 0 0 0, .bool false]) ∧ Below w.heap.size w W'
def AddW (n : Nat) (w : World) (e : Ending) (W' : World) : Prop := (n < M4 ∧ GotW n w e W') ∨ (M4 ≤ n ∧ NoW w e W')

/-- A word with its place: the place is below 4. -/
abbrev PW := { p : Nat × Nat // p.1 < 4 ∧ p.2 < M }
abbrev pwEnc (x : PW) : Array Value := #[.int .i64 (x.1.1 : Int), .int .u64 (x.1.2 : Int)]
def pw (i x : Nat) (h : i < 4) (hx : x < M) : PW := ⟨(i, x), h, hx⟩
def downs {a0 a1 a2 a3 : Nat} (h : Ok4 a0 a1 a2 a3) : List PW := [pw 3 a3 (by omega) h.h3, pw 2 a2 (by omega) h.h2, pw 1 a1 (by omega) h.h1, pw 0 a0 (by omega) h.h0]
end Go.Proofs.Ytakeickgjplahaa
