/-
  Words for memory: blocks known whole, what lies below, four words as one number; Slices of octets that are read; octets of a number; What octets come to, the highest first; the words of 32 octets; What is no row of a type's stays; rows of the call's own; Two blocks that lie as they lay; Fields as octets: what is written, and what is read, as plain functions; the state of an Out, or of an In: octet
-/
import Derived.RangeFuncNested
import Derived.RangeFuncBound
import Derived.RangeFuncCalls
import Derived.RangeFuncLeaves
import Derived.RangeFuncBox
import Derived.Shelf.Abstract
import Derived.Shelf.RegionOpen
import Derived.WalkKit
import Derived.OwnWalkIn
import Derived.TacticsInMore
import Derived.LoopNIn
import Derived.LoopIn
import Derived.Lib.Hide
import Derived.Test.YtbhfajnejibaoaaProg
import Derived.Laws.BytesArg
import Derived.Maps.AppendAt
import Derived.Deep.AppendLies
import Derived.Laws.BitsLemmas
import Derived.Laws.OwnMore
import Derived.RangeFuncIn
import Derived.OrdersIn
import Derived.StillTail
import Derived.StillTailTactics
import Derived.Laws.StructEq
import Derived.Deep.RegionHeld3
import Derived.Tactics
import Derived.KernelRfl
namespace Go.Proofs.Ytbhfajnejibaoaa
open Go.RowKit Go.Shelf
def M : Nat := 18446744073709551616
structure Ok4 (a0 a1 a2 a3 : Nat) : Prop where
  h0 : a0 < M
  h1 : a1 < M
  h2 : a2 < M
  h3 : a3 < M
def upto {α : Type} (f : Nat → α) (k : Nat) : List α := (List.range k).map f
def Blk (W : World) (B : Nat) (t : TypeId) (vs : List Value) : Prop := W.heap[B]? = some (.cells vs.toArray t (0, 0))
theorem Blk.lt {W : World} {B : Nat} {t : TypeId} {vs : List Value} (h : Blk W B t vs) : B < W.heap.size := (Array.getElem?_eq_some_iff.1 h).1
theorem Blk.cell {W : World} {B : Nat} {t : TypeId} {vs : List Value} (h : Blk W B t vs) (i : Nat) : W.cell? ⟨B, i, none⟩ = vs[i]? := by simp [World.cell?, show W.heap[B]? = _ from h]
theorem Blk.new (W : World) (t : TypeId) (vs : List Value) : Blk (W.alloc (.cells vs.toArray t)) W.heap.size t vs := World.alloc_heap_new W _
theorem Blk.kept {W W' : World} {row : Option Nat} {B : Nat} {t : TypeId} {vs : List Value} (h : Blk W B t vs) (hg : W.grownBy W' row) (hne : some B ≠ row) : Blk W' B t vs := (hg.block B h.lt hne).trans h
theorem Blk.alloc {W : World} {B : Nat} {t : TypeId} {vs : List Value} (h : Blk W B t vs) (o : Obj) : Blk (W.alloc o) B t vs := h.kept (World.grownBy_alloc W o none) (by simp)
theorem Blk.drew {W : World} {B : Nat} {t : TypeId} {vs : List Value} (h : Blk W B t vs) : Blk W.drew B t vs := h
theorem Blk.below {W W' : World} {n B : Nat} {t : TypeId} {vs : List Value} (h : Blk W B t vs) (hb : Below n W W') (hlt : B < n) : Blk W' B t vs := (hb.block B hlt).trans h
theorem Blk.set {W : World} {B : Nat} {t : TypeId} {vs : List Value} (h : Blk W B t vs) (i : Nat) (v : Value) : Blk (W.setCell ⟨B, i, none⟩ v) B t (vs.set i v) := by
  obtain ⟨hlt, hk⟩ := Array.getElem?_eq_some_iff.1 h
  show (W.heap.modify B _)[B]? = _
  rw [Array.getElem?_eq_getElem (by rw [Array.size_modify]; exact hlt), Array.getElem_modify_self, hk]
  simp
theorem grownBy_setCell4 (W : World) (b i : Nat) (v : Value) : W.grownBy (W.setCell ⟨b, i, none⟩ v) (some b) :=
  ⟨rfl, rfl, rfl, (KeepsWalks.setCell W _ v).size, fun k _ hk => Below.heap_setCell _ _ _ k (fun e => hk (by rw [e]))⟩
theorem Blk.other {W : World} {B B' : Nat} {t : TypeId} {vs : List Value} (h : Blk W B t vs) (i : Nat) (v : Value) (hne : B ≠ B') : Blk (W.setCell ⟨B', i, none⟩ v) B t vs :=
  h.kept (grownBy_setCell4 W B' i v) (fun e => hne (by cases e; rfl))
theorem chain {w w1 w2 : World} (h : Below w.heap.size w w1) (k : Below w1.heap.size w1 w2) : Below w.heap.size w w2 := h.trans (k.mono h.size)
theorem chainA {w w1 : World} (h : Below w.heap.size w w1) (o : Obj) : Below w.heap.size w (w1.alloc o) := h.alloc h.size o
theorem chain0 (w : World) (o : Obj) : Below w.heap.size w (w.alloc o) := chainA (Below.refl _ w) o
def val (a0 a1 a2 a3 : Nat) : Nat := a0 + M * (a1 + M * (a2 + M * a3))
def KeepB (B : Nat) (W W' : World) : Prop := W'.heap[B]? = W.heap[B]?
theorem KeepB.b {B : Nat} {w : World} (hB : B < w.heap.size) (W : World) (l : Nat) (o o' : Obj) (hl : w.heap.size ≤ l) (_ : W.heap[l]? = some o) (_ : o.isCells = false) (_ : o.isWalk = false) : KeepB B W (W.putObj l o') :=
  World.putObj_heap_other (by omega)
theorem KeepB.refl (B : Nat) (W : World) : KeepB B W W := rfl
theorem KeepB.setCell {B : Nat} {W : World} {a : Addr} (v : Value) (h : B ≠ a.block) : KeepB B W (W.setCell a v) := Below.heap_setCell _ _ _ B h
end Go.Proofs.Ytbhfajnejibaoaa
namespace Go.Proofs.Ytbhfajnejibaoaa
open Go.RowKit Go.Shelf
abbrev bv (x : UInt8) : Value := .int .u8 (x.toNat : Int)
def Octs (W : World) (b off : Nat) (l : List UInt8) : Prop := ∀ k x, l[k]? = some x → W.cell? ⟨b, off + k, none⟩ = some (bv x)
theorem Octs.below {W W' : World} {n b off : Nat} {l : List UInt8} (h : Octs W b off l) (hb : Below n W W') (hlt : b < n) : Octs W' b off l := fun k x hx => (hb.cell (p := ⟨b, _, none⟩) hlt).trans (h k x hx)
theorem Octs.kept {W W' : World} {row : Option Nat} {b off : Nat} {l : List UInt8} (h : Octs W b off l) (hb : b < W.heap.size) (hg : W.grownBy W' row) (hne : some b ≠ row) : Octs W' b off l := fun k x hx =>
  (World.cell?_of_block (a := ⟨b, _, none⟩) (hg.block b hb hne)).trans (h k x hx)
def BSl (lo hi : Nat) (W : World) (sv : Value) (l : List UInt8) : Prop :=
  ∃ a cap, sv = .slice a l.length cap ∧ l.length ≤ cap ∧ (l = [] ∨ ∃ b off, a = some ⟨b, off, none⟩ ∧ lo ≤ b ∧ b < hi ∧ Octs W b off l)
theorem BSl.mono {lo hi lo' hi' : Nat} {W : World} {sv : Value} {l : List UInt8} (h : BSl lo hi W sv l) (h1 : lo' ≤ lo) (h2 : hi ≤ hi') : BSl lo' hi' W sv l := by
  obtain ⟨a, cap, e, hc, h0 | ⟨b, off, ha, hl, hh, ho⟩⟩ := h
  · exact ⟨a, cap, e, hc, .inl h0⟩
  · exact ⟨a, cap, e, hc, .inr ⟨b, off, ha, by omega, by omega, ho⟩⟩
theorem BSl.below {lo hi m : Nat} {W W' : World} {sv : Value} {l : List UInt8} (h : BSl lo hi W sv l) (hb : Below m W W') (hm : hi ≤ m) : BSl lo hi W' sv l := by
  obtain ⟨a, cap, e, hc, h0 | ⟨b, off, ha, hl, hh, ho⟩⟩ := h
  · exact ⟨a, cap, e, hc, .inl h0⟩
  · exact ⟨a, cap, e, hc, .inr ⟨b, off, ha, hl, hh, ho.below hb (by omega)⟩⟩
theorem BSl.kept {lo hi : Nat} {W W' : World} {row : Option Nat} {sv : Value} {l : List UInt8} (h : BSl lo hi W sv l) (hh' : hi ≤ W.heap.size) (hg : W.grownBy W' row) (hne : ∀ r, row = some r → r < lo ∨ hi ≤ r) : BSl lo hi W' sv l := by
  obtain ⟨a, cap, e, hc, h0 | ⟨b, off, ha, hl, hh, ho⟩⟩ := h
  · exact ⟨a, cap, e, hc, .inl h0⟩
  · exact ⟨a, cap, e, hc, .inr ⟨b, off, ha, hl, hh, ho.kept (by omega) hg (fun e' => by have := hne b e'.symm; omega)⟩⟩
theorem BSl.nil (lo hi : Nat) (W : World) : BSl lo hi W (.slice none 0 0) [] := ⟨none, 0, rfl, Nat.le_refl _, .inl rfl⟩
theorem BSl.of_own {W : World} {lo : Nat} {e : TypeId} {v : Value} {l : List UInt8} (h : W.ownsRow lo e 1 v l.length (l.map bv)) : BSl lo W.heap.size W v l := by
  rcases Nat.eq_zero_or_pos l.length with h0 | h0
  · have hl : l = [] := List.eq_nil_of_length_eq_zero h0
    subst hl
    rcases h.2 with ⟨rfl, _⟩ | ⟨g, cap, cur, rfl, _, _, hnc, _⟩
    · exact BSl.nil _ _ _
    · exact ⟨_, cap, rfl, hnc, .inl rfl⟩
  · obtain ⟨hl, ⟨_, h1⟩ | ⟨g, cap, cur, rfl, hg, hb, hnc, hcm, hsz, htake⟩⟩ := h
    · omega
    · refine ⟨_, cap, rfl, hnc, .inr ⟨g, 0, rfl, hg, (Array.getElem?_eq_some_iff.1 hb).1, fun k x hk => ?_⟩⟩
      have hkl : k < l.length := (List.getElem?_eq_some_iff.1 hk).1
      have e' : cur[k]? = (cur.toList.take (l.length * 1))[k]? := by
        rw [List.getElem?_take_of_lt (by omega)]
        simp
      simp only [World.cell?, hb, Nat.zero_add]
      rw [show (if (none : Option Nat).isSome = true then (none : Option Value) else cur[k]?) = cur[k]? from rfl, e', htake]
      simp [hk]
end Go.Proofs.Ytbhfajnejibaoaa
namespace Go.Proofs.Ytbhfajnejibaoaa
open Go.RowKit
def be (l : List UInt8) : Nat := l.foldl (fun n x => n * 256 + x.toNat) 0
end Go.Proofs.Ytbhfajnejibaoaa
namespace Go.Proofs.Ytbhfajnejibaoaa
open Go.RowKit Go.Shelf
def Spares (e : TypeId) (w W : World) : Prop := w.heap.size ≤ W.heap.size ∧ ∀ (j : Nat) (o : Obj), w.heap[j]? = some o → (∀ cur fr, o ≠ .cells cur e fr) → W.heap[j]? = some o
theorem Spares.of_below {e : TypeId} {w W : World} (h : Below w.heap.size w W) : Spares e w W := ⟨h.size, fun j _ hj _ => (h.block j (Array.getElem?_eq_some_iff.1 hj).1).trans hj⟩
theorem Spares.blk {e t : TypeId} {w W : World} {B : Nat} {vs : List Value} (h : Spares e w W) (hb : Blk w B t vs) (hne : t ≠ e) : Blk W B t vs := h.2 B _ hb (fun cur fr e' => by cases e'; exact hne rfl)
end Go.Proofs.Ytbhfajnejibaoaa
namespace Go.Proofs.Ytbhfajnejibaoaa
open Go.RowKit Go.Shelf
def KeepB2 (B B' : Nat) (W W' : World) : Prop := KeepB B W W' ∧ KeepB B' W W'
theorem KeepB2.b {B B' : Nat} {w : World} (hB : B < w.heap.size) (hB' : B' < w.heap.size) (W : World) (l : Nat) (o o' : Obj) (hl : w.heap.size ≤ l) (h1 : W.heap[l]? = some o) (h2 : o.isCells = false) (h3 : o.isWalk = false) : KeepB2 B B' W (W.putObj l o') :=
  ⟨KeepB.b hB W l o o' hl h1 h2 h3, KeepB.b hB' W l o o' hl h1 h2 h3⟩
end Go.Proofs.Ytbhfajnejibaoaa
namespace Go.Proofs.Ytbhfajnejibaoaa
open Go.RowKit Go.Shelf
abbrev St := List UInt8 × Int
def takeS (s : St) (n : Nat) : List UInt8 × St := if s.2 = 0 then (if n ≤ s.1.length then (s.1.take n, (s.1.drop n, 0)) else ([], ([], 16))) else ([], s)
def mostS (s : St) (size : Nat) (most : Int) : Nat × St :=
  if (takeS s size).2.2 = 0 ∧ most < (be ((takeS s size).1.take 7) : Int) then (0, ([], 4)) else (be ((takeS s size).1.take 7), (takeS s size).2)
def gtxtS (s : St) (most : Int) : List UInt8 × St := takeS (mostS s 2 most).2 (mostS s 2 most).1
def OkS (s : St) : Prop := (s.2 ≠ 0 → s.1 = []) ∧ s.1.length ≤ 8192
def NoOct (W : World) (r : Nat) : Prop := ∀ i x, W.cell? ⟨r, i, none⟩ ≠ some (bv x)
theorem BSl.to {lo hi : Nat} {W W' : World} {row : Option Nat} {sv : Value} {l : List UInt8} (h : BSl lo hi W sv l) (hhi : hi ≤ W.heap.size) (hg : W.grownBy W' row) (hne : ∀ r, row = some r → NoOct W r) : BSl lo hi W' sv l := by
  obtain ⟨a, cap, e, hc, h0 | ⟨b, off, ha, hl, hh, ho⟩⟩ := h
  · exact ⟨a, cap, e, hc, .inl h0⟩
  · refine ⟨a, cap, e, hc, ?_⟩
    by_cases hl0 : l = []
    · exact .inl hl0
    · refine .inr ⟨b, off, ha, hl, hh, ho.kept (by omega) hg (fun e' => ?_)⟩
      obtain ⟨x, l', rfl⟩ : ∃ x l', l = x :: l' := List.exists_cons_of_ne_nil hl0
      exact hne b e'.symm (off + 0) x (ho 0 x rfl)
def ObjP (T : TypeId) (W : World) (p : Option Addr) (s : St) : Prop :=
  (p = none ∧ s = ([], 9)) ∨ ∃ B m a n c x, p = some ⟨B, 0, none⟩ ∧ Blk W B T [.bool m, .slice a n c, .int .i64 x] ∧
    ((m = false ∧ s = ([], 9)) ∨ (m = true ∧ s.2 = x ∧ OkS s ∧ BSl 0 W.heap.size W (.slice a n c) s.1))
theorem ObjP.ok {T : TypeId} {W : World} {p : Option Addr} {s : St} (h : ObjP T W p s) : OkS s := by
  rcases h with ⟨_, rfl⟩ | ⟨B, m, a, n, c, x, _, _, ⟨_, rfl⟩ | ⟨_, _, h, _⟩⟩
  · exact ⟨fun _ => rfl, by simp⟩
  · exact ⟨fun _ => rfl, by simp⟩
  · exact h
theorem grew {W W' : World} (h : Below W.heap.size W W') (row : Option Nat) : W.grownBy W' row := ⟨h.os, h.tape, h.output, h.size, fun k hk _ => h.block k hk⟩
theorem ObjP.to {T : TypeId} {W W' : World} {p : Option Addr} {s : St} {row : Option Nat} (h : ObjP T W p s) (hg : W.grownBy W' row) (hne : ∀ r, row = some r → NoOct W r ∧ p.map (·.block) ≠ some r) : ObjP T W' p s := by
  rcases h with h | ⟨B, m, a, n, c, x, rfl, hb, hs⟩
  · exact .inl h
  · refine .inr ⟨B, m, a, n, c, x, rfl, hb.kept hg (fun e => (hne B e.symm).2 rfl), ?_⟩
    rcases hs with h | ⟨hm, hx, hok, hsl⟩
    · exact .inl h
    · exact .inr ⟨hm, hx, hok, (hsl.to (Nat.le_refl _) hg (fun r e => (hne r e).1)).mono (Nat.le_refl _) hg.size⟩
theorem ObjP.below {T : TypeId} {W W' : World} {p : Option Addr} {s : St} (h : ObjP T W p s) (hb : Below W.heap.size W W') : ObjP T W' p s := h.to (grew hb none) (fun _ e => by cases e)
end Go.Proofs.Ytbhfajnejibaoaa
namespace Go.Proofs.Ytbhfajnejibaoaa
open Go.RowKit Go.Shelf
structure Trf where
  us : Int
  rt : ByteArray
  ro : Int
  se : Int
  re : Int
  to : Int
  id : ByteArray
def maybeI (i : Trf) : Prop := (0 ≤ i.us ∧ i.us ≤ 1) ∧ i.rt.size = 8 ∧ (2 ≤ i.ro ∧ i.ro ≤ 3) ∧ (0 ≤ i.se ∧ i.se ≤ 1) ∧ (0 ≤ i.re ∧ i.re ≤ 1) ∧ (0 ≤ i.to ∧ i.to ≤ 7) ∧ 1 ≤ i.id.size ∧ i.id.size ≤ 16
instance (i : Trf) : Decidable (maybeI i) := by unfold maybeI; infer_instance
structure Sid where
  a0 : Nat
  a1 : Nat
  a2 : Nat
  a3 : Nat
  x : Int
def maybeV (v : Sid) : Prop := ¬ (v.a0 = 0 ∧ v.a1 = 0 ∧ v.a2 = 0 ∧ v.a3 = 0) ∧ 0 ≤ v.x ∧ v.x ≤ 1099511627776
instance (v : Sid) : Decidable (maybeV v) := by unfold maybeV; infer_instance
def invB : ByteArray := ⟨#[105, 110, 118]⟩
abbrev big : Int := 1099511627776
def str (l : List UInt8) : ByteArray := ⟨l.toArray⟩
def rd0 (s : St) : List UInt8 × St := gtxtS s 16
def rd1 (s : St) : Nat × St := mostS (rd0 s).2 6 big
def rd2 (s : St) : List UInt8 × St := gtxtS (rd1 s).2 8
def rd3 (s : St) : Nat × St := mostS (rd2 s).2 6 big
def rd4 (s : St) : Nat × St := mostS (rd3 s).2 6 big
def rd5 (s : St) : Nat × St := mostS (rd4 s).2 6 big
def rd6 (s : St) : Nat × St := mostS (rd5 s).2 6 big
def rd7 (s : St) : List UInt8 × St := gtxtS (rd6 s).2 16
def rawI (s : St) : Trf := ⟨(rd1 s).1, str (rd2 s).1, (rd3 s).1, (rd4 s).1, (rd5 s).1, (rd6 s).1, str (rd7 s).1⟩
def goodI (s : St) : Prop := str (rd0 s).1 = invB ∧ maybeI (rawI s)
instance (s : St) : Decidable (goodI s) := by unfold goodI; infer_instance
end Go.Proofs.Ytbhfajnejibaoaa
namespace Go.Proofs.Ytbhfajnejibaoaa
open Go.RowKit
def OR (W : World) (base : Nat) (v : Value) (n : Nat) (f : Nat → Nat) : Prop := W.ownsRow base 3 1 v n ((List.range n).map fun k => Value.int .i64 (f k : Nat))
theorem OR.nil (W : World) (base : Nat) (f : Nat → Nat) : OR W base (.slice none 0 0) 0 f := ⟨rfl, .inl ⟨rfl, rfl⟩⟩
theorem OR.out {W : World} {base : Nat} {v : Value} {n : Nat} {f : Nat → Nat} (h : OR W base v n f) : W.ownsRow base 3 1 v n ((List.range n).map fun k => Value.int .i64 (f k : Nat)) := h
theorem OR.alloc {W : World} {base : Nat} {v : Value} {n : Nat} {f : Nat → Nat} (h : OR W base v n f) (o : Obj) : OR (W.alloc o) base v n f := World.ownsRow.alloc h o
def Nums (W : World) (g n : Nat) (f : Nat → Nat) : Prop := ∀ k, k < n → W.cell? ⟨g, k, none⟩ = some (.int .i64 (f k : Nat))
theorem Nums.below {W W' : World} {m g n : Nat} {f : Nat → Nat} (h : Nums W g n f) (hb : Below m W W') (hg : g < m) : Nums W' g n f := fun k hk => (hb.cell (p := ⟨g, k, none⟩) hg).trans (h k hk)
def ds (f : Nat → Nat) (n : Nat) : List Value := (List.range n).map fun k => .int .i64 (f k : Nat)
end Go.Proofs.Ytbhfajnejibaoaa
namespace Go.Proofs.Ytbhfajnejibaoaa
open Go.RowKit Go.Shelf
structure Ak where
  us : Int
  se : Int
  re : Int
  to : Int
  a0 : Nat
  a1 : Nat
  a2 : Nat
  a3 : Nat
  id : ByteArray
abbrev akv (a : Ak) : Value := .agg #[.int .i64 a.us, .int .i64 a.se, .int .i64 a.re, .int .i64 a.to, .int .u64 (a.a0 : Nat), .int .u64 (a.a1 : Nat), .int .u64 (a.a2 : Nat), .int .u64 (a.a3 : Nat), .string a.id]
abbrev akc (a : Ak) : List Value := [.int .i64 a.us, .int .i64 a.se, .int .i64 a.re, .int .i64 a.to, .int .u64 (a.a0 : Nat), .int .u64 (a.a1 : Nat), .int .u64 (a.a2 : Nat), .int .u64 (a.a3 : Nat), .string a.id]
def noA : Ak := ⟨0, 0, 0, 0, 0, 0, 0, 0, ⟨#[]⟩⟩
def zw (a0 a1 a2 a3 : Nat) : Prop := a0 = 0 ∧ a1 = 0 ∧ a2 = 0 ∧ a3 = 0
instance (a0 a1 a2 a3 : Nat) : Decidable (zw a0 a1 a2 a3) := by unfold zw; infer_instance
def maybeA (a : Ak) : Prop := (0 ≤ a.us ∧ a.us ≤ 1) ∧ (0 ≤ a.se ∧ a.se ≤ 1) ∧ (0 ≤ a.re ∧ a.re ≤ 1) ∧ (0 ≤ a.to ∧ a.to ≤ 7) ∧ ¬ zw a.a0 a.a1 a.a2 a.a3 ∧ 1 ≤ a.id.size ∧ a.id.size ≤ 16
instance (a : Ak) : Decidable (maybeA a) := by unfold maybeA; infer_instance
def errA (a : Ak) : Int := if maybeA a then 0 else 39
theorem errA_zero {a : Ak} (h : maybeA a) : errA a = 0 := if_pos h
structure Bd where
  ro : Int
  k : Ak
  b0 : Nat
  b1 : Nat
  b2 : Nat
  b3 : Nat
  un : Int
  sg : ByteArray
abbrev bdv (b : Bd) : Value := .agg #[.int .i64 b.ro, .int .i64 b.k.us, .int .i64 b.k.se, .int .i64 b.k.re, .int .i64 b.k.to, .int .u64 (b.k.a0 : Nat), .int .u64 (b.k.a1 : Nat), .int .u64 (b.k.a2 : Nat), .int .u64 (b.k.a3 : Nat), .string b.k.id, .int .u64 (b.b0 : Nat), .int .u64 (b.b1 : Nat), .int .u64 (b.b2 : Nat), .int .u64 (b.b3 : Nat), .int .i64 b.un, .string b.sg]
abbrev bdc (b : Bd) : List Value := [.int .i64 b.ro, .int .i64 b.k.us, .int .i64 b.k.se, .int .i64 b.k.re, .int .i64 b.k.to, .int .u64 (b.k.a0 : Nat), .int .u64 (b.k.a1 : Nat), .int .u64 (b.k.a2 : Nat), .int .u64 (b.k.a3 : Nat), .string b.k.id, .int .u64 (b.b0 : Nat), .int .u64 (b.b1 : Nat), .int .u64 (b.b2 : Nat), .int .u64 (b.b3 : Nat), .int .i64 b.un, .string b.sg]
def noB : Bd := ⟨0, noA, 0, 0, 0, 0, 0, ⟨#[]⟩⟩
structure OkA (a : Ak) : Prop where
  k : Ok4 a.a0 a.a1 a.a2 a.a3
structure OkB (b : Bd) : Prop where
  k : Ok4 b.k.a0 b.k.a1 b.k.a2 b.k.a3
  b : Ok4 b.b0 b.b1 b.b2 b.b3
def maybeB (b : Bd) : Prop := (2 ≤ b.ro ∧ b.ro ≤ 3) ∧ maybeA b.k ∧ ¬ zw b.b0 b.b1 b.b2 b.b3 ∧ val b.b0 b.b1 b.b2 b.b3 ≤ val b.k.a0 b.k.a1 b.k.a2 b.k.a3 ∧ (0 ≤ b.un ∧ b.un ≤ 1099511627776) ∧ b.sg.size ≤ 1024
instance (b : Bd) : Decidable (maybeB b) := by unfold maybeB; infer_instance
end Go.Proofs.Ytbhfajnejibaoaa
namespace Go.Proofs.Ytbhfajnejibaoaa
open Go.RowKit Go.Shelf
def wEq (a0 a1 a2 a3 b0 b1 b2 b3 : Int) : Bool := decide (a0 = b0 ∧ a1 = b1 ∧ a2 = b2 ∧ a3 = b3)
theorem run_equalIn_wide' (d : Nat) (a0 a1 a2 a3 b0 b1 b2 b3 : Int) (w : World) :
    (Op.equalIn (d + 2) 24 (.agg #[.int .u64 a0, .int .u64 a1, .int .u64 a2, .int .u64 a3]) (.agg #[.int .u64 b0, .int .u64 b1, .int .u64 b2, .int .u64 b3])).run Try.prog w = .ok (wEq a0 a1 a2 a3 b0 b1 b2 b3) w := by
  have e : ∀ a b : Int, (Op.equalIn (d + 1) 22 (.int .u64 a) (.int .u64 b)).run Try.prog w = .ok (a == b) w := fun a b => run_equalIn_int w d 22 .u64 .u64 a b Try.underlying22
  rw [show d + 2 = (d + 1) + 1 from rfl]
  unfold Op.equalIn
  by_cases h0 : a0 = b0
  · subst h0
    by_cases h1 : a1 = b1
    · subst h1
      by_cases h2 : a2 = b2
      · subst h2
        by_cases h3 : a3 = b3
        · subst h3
          simp [run_underlying Try.underlying24, List.range', part, e, Result.andThen, wEq]
        · simp [run_underlying Try.underlying24, List.range', part, e, Result.andThen, wEq, h3]
      · simp [run_underlying Try.underlying24, List.range', part, e, Result.andThen, wEq, h2]
    · simp [run_underlying Try.underlying24, List.range', part, e, Result.andThen, wEq, h1]
  · simp [run_underlying Try.underlying24, List.range', part, e, Result.andThen, wEq, h0]
theorem run_equalIn_wide (a0 a1 a2 a3 b0 b1 b2 b3 : Int) (w : World) :
    (Op.equalIn 10000 24 (.agg #[.int .u64 a0, .int .u64 a1, .int .u64 a2, .int .u64 a3]) (.agg #[.int .u64 b0, .int .u64 b1, .int .u64 b2, .int .u64 b3])).run Try.prog w = .ok (wEq a0 a1 a2 a3 b0 b1 b2 b3) w :=
  run_equalIn_wide' 9998 a0 a1 a2 a3 b0 b1 b2 b3 w
end Go.Proofs.Ytbhfajnejibaoaa
namespace Go.Proofs.Ytbhfajnejibaoaa
inductive Tk where
  | val (i : Nat) (d : Option Tmp) (v : Value)
  | load (i : Nat) (d : Option Tmp) (ty : TypeId) (p v : Value)
  | alt (i : Nat) (d : Option Tmp) (v u : Value)
  | skip (i : Nat) (d : Option Tmp)
  | idx (i : Nat) (d : Option Tmp) (ty : TypeId) (p x v : Value)
  | slc (i : Nat) (d : Option Tmp) (ty : TypeId) (x : Value) (lo hi mx : Option Value) (v : Value)
def Tk.place : Tk → Nat
  | .val i _ _ => i
  | .load i _ _ _ _ => i
  | .alt i _ _ _ => i
  | .skip i _ => i
  | .idx i _ _ _ _ _ => i
  | .slc i _ _ _ _ _ _ _ => i
def Tk.put (a : Act) : Tk → Act
  | .val _ d v => a.put d v
  | .load _ d _ _ v => a.put d v
  | .alt _ d _ u => a.put d u
  | .skip _ d => a.put d undef
  | .idx _ d _ _ _ v => a.put d v
  | .slc _ d _ _ _ _ _ v => a.put d v
def puts : List Tk → Act → Act
  | [], a => a
  | t :: L, a => puts L (t.put a)
inductive See where
  | run (b : Bool) (d : Option Tmp) (r : Result Next)
  | got (b : Bool) (d : Option Tmp) (t : Option (TypeId × Value))
  | no (b : Bool) (d : Option Tmp)
  | at (b : Bool) (d : Option Tmp) (t : Option (TypeId × Value × Value))
  | sl (b : Bool) (d : Option Tmp) (t : Option (TypeId × Value × Option Value × Option Value × Option Value))
def seeOp (P : Program) (ops : Array Oper) (w : World) (a : Act) (o : Oper) : Tk → See
  | .val _ _ _ => .run (Region.wanted o (yielded ops a.tmps)) o.dst ((execOp a.eval o).run P w)
  | .load _ _ _ _ _ => .got (Region.wanted o (yielded ops a.tmps)) o.dst (match o.op with | .load ty x => some (ty, a.eval x) | _ => none)
  | .alt _ _ _ _ => .run (Region.wanted o (yielded ops a.tmps)) o.dst ((execOp a.eval o).run P w)
  | .skip _ _ => .no (Region.wanted o (yielded ops a.tmps)) o.dst
  | .idx _ _ _ _ _ _ => .at (Region.wanted o (yielded ops a.tmps)) o.dst (match o.op with | .indexAddr ty x y => some (ty, a.eval x, a.eval y) | _ => none)
  | .slc _ _ _ _ _ _ _ _ => .sl (Region.wanted o (yielded ops a.tmps)) o.dst (match o.op with | .slice ty x lo hi mx => some (ty, a.eval x, lo.map a.eval, hi.map a.eval, mx.map a.eval) | _ => none)
def wantOp (w : World) : Tk → See
  | .val _ d v => .run true d (.ok (.value v) w)
  | .load _ d ty p _ => .got true d (some (ty, p))
  | .alt _ d v _ => .run true d (.ok (.value v) w)
  | .skip _ d => .no false d
  | .idx _ d ty p x _ => .at true d (some (ty, p, x))
  | .slc _ d ty x lo hi mx _ => .sl true d (some (ty, x, lo, hi, mx))
def sees (P : Program) (ops : Array Oper) (w : World) : List Tk → Act → List (Option See)
  | [], _ => []
  | t :: L, a => (ops[t.place]?).map (fun o => seeOp P ops w a o t) :: sees P ops w L (t.put a)
def wants (w : World) (L : List Tk) : List (Option See) := L.map fun t => some (wantOp w t)
def Facts (P : Program) (S : World → Prop) : List Tk → Prop
  | [] => True
  | .load _ _ ty p v :: L => (∀ w, S w → (Instr.loadAt ty p).run P w = .ok v w) ∧ Facts P S L
  | .alt _ _ v u :: L => v = u ∧ Facts P S L
  | .idx _ _ ty p x v :: L => (∀ w, S w → (Instr.indexAt ty p x).run P w = .ok v w) ∧ Facts P S L
  | .slc _ _ ty x lo hi mx v :: L => (∀ w, S w → (Instr.sliceAt ty x lo hi mx).run P w = .ok v w) ∧ Facts P S L
  | .val _ _ _ :: L => Facts P S L
  | .skip _ _ :: L => Facts P S L
def FactsAt (P : Program) (w : World) : List Tk → Prop
  | [] => True
  | .load _ _ ty p v :: L => (Instr.loadAt ty p).run P w = .ok v w ∧ FactsAt P w L
  | .alt _ _ v u :: L => v = u ∧ FactsAt P w L
  | .idx _ _ ty p x v :: L => (Instr.indexAt ty p x).run P w = .ok v w ∧ FactsAt P w L
  | .slc _ _ ty x lo hi mx v :: L => (Instr.sliceAt ty x lo hi mx).run P w = .ok v w ∧ FactsAt P w L
  | .val _ _ _ :: L => FactsAt P w L
  | .skip _ _ :: L => FactsAt P w L
theorem factsAt {P : Program} {w : World} : ∀ {L : List Tk}, FactsAt P w L → Facts P (fun W => W = w) L
  | [], _ => trivial
  | .load _ _ _ _ _ :: _, h => ⟨fun W e => by cases e; exact h.1, factsAt h.2⟩
  | .alt _ _ _ _ :: _, h => ⟨h.1, factsAt h.2⟩
  | .idx _ _ _ _ _ _ :: _, h => ⟨fun W e => by cases e; exact h.1, factsAt h.2⟩
  | .slc _ _ _ _ _ _ _ _ :: _, h => ⟨fun W e => by cases e; exact h.1, factsAt h.2⟩
  | .val _ _ _ :: L, h => factsAt (L := L) h
  | .skip _ _ :: L, h => factsAt (L := L) h
section
variable {P : Program} {md : Region.Mode} {ops : Array Oper} {Q : Exit → Act → World → Prop} {S : World → Prop}
theorem one_of {t : Tk} {o : Oper} {a : Act} (ho : ops[t.place]? = some o) (hsee : ∀ w, (ops[t.place]?).map (fun o => seeOp P ops w a o t) = some (wantOp w t)) {L : List Tk} (hf : Facts P S (t :: L)) :
    (∃ v, t.put a = a.put o.dst v ∧ YieldsIf P ops S o v a) ∧ Facts P S L := by
  rw [ho] at hsee
  have hs : ∀ w, seeOp P ops w a o t = wantOp w t := fun w => Option.some.inj (hsee w)
  cases t with
  | val i d v =>
    have hd : o.dst = d := by have := hs default; simp only [seeOp, wantOp, See.run.injEq] at this; exact this.2.1
    exact ⟨⟨v, by rw [hd]; rfl, .inl ⟨by have := hs default; simp only [seeOp, wantOp, See.run.injEq] at this; exact this.1, fun w _ => by have := hs w; simp only [seeOp, wantOp, See.run.injEq] at this; exact this.2.2⟩⟩, hf⟩
  | load i d ty p v =>
    have hd : o.dst = d := by have := hs default; simp only [seeOp, wantOp, See.got.injEq] at this; exact this.2.1
    refine ⟨⟨v, by rw [hd]; rfl, .inl ⟨by have := hs default; simp only [seeOp, wantOp, See.got.injEq] at this; exact this.1, fun w hw => ?_⟩⟩, hf.2⟩
    have h := hs w
    simp only [seeOp, wantOp, See.got.injEq] at h
    have h3 := h.2.2
    have hl := hf.1 w hw
    unfold execOp
    split at h3
    · rename_i ty' x hop
      obtain ⟨rfl, rfl⟩ := by simpa using h3
      simp only [hop, Sem.run_bind, hl, Result.andThen_ok]
      rfl
    · cases h3
  | alt i d v u =>
    have hd : o.dst = d := by have := hs default; simp only [seeOp, wantOp, See.run.injEq] at this; exact this.2.1
    obtain ⟨rfl, hf2⟩ := hf
    exact ⟨⟨v, by rw [hd]; rfl, .inl ⟨by have := hs default; simp only [seeOp, wantOp, See.run.injEq] at this; exact this.1, fun w _ => by have := hs w; simp only [seeOp, wantOp, See.run.injEq] at this; exact this.2.2⟩⟩, hf2⟩
  | skip i d =>
    have hd : o.dst = d := by have := hs default; simp only [seeOp, wantOp, See.no.injEq] at this; exact this.2
    exact ⟨⟨undef, by rw [hd]; rfl, .inr ⟨by have := hs default; simp only [seeOp, wantOp, See.no.injEq] at this; exact this.1, rfl⟩⟩, hf⟩
  | idx i d ty p x v =>
    have hd : o.dst = d := by have := hs default; simp only [seeOp, wantOp, See.at.injEq] at this; exact this.2.1
    refine ⟨⟨v, by rw [hd]; rfl, .inl ⟨by have := hs default; simp only [seeOp, wantOp, See.at.injEq] at this; exact this.1, fun w hw => ?_⟩⟩, hf.2⟩
    have h := hs w
    simp only [seeOp, wantOp, See.at.injEq] at h
    have h3 := h.2.2
    have hl := hf.1 w hw
    unfold execOp
    split at h3
    · rename_i ty' x y hop
      obtain ⟨rfl, rfl, rfl⟩ := by simpa using h3
      simp only [hop, Sem.run_bind, hl, Result.andThen_ok]
      rfl
    · cases h3
  | slc i d ty x lo hi mx v =>
    have hd : o.dst = d := by have := hs default; simp only [seeOp, wantOp, See.sl.injEq] at this; exact this.2.1
    refine ⟨⟨v, by rw [hd]; rfl, .inl ⟨by have := hs default; simp only [seeOp, wantOp, See.sl.injEq] at this; exact this.1, fun w hw => ?_⟩⟩, hf.2⟩
    have h := hs w
    simp only [seeOp, wantOp, See.sl.injEq] at h
    have h3 := h.2.2
    have hl := hf.1 w hw
    unfold execOp
    split at h3
    · rename_i ty' x' lo' hi' mx' hop
      obtain ⟨rfl, rfl, rfl, rfl, rfl⟩ := by simpa using h3
      simp only [hop, Sem.run_bind, hl, Result.andThen_ok]
      rfl
    · cases h3
def listedBy : List Tk → Array Bool → Array Bool
  | [], l => l
  | t :: L, l => listedBy L (l.setIfInBounds t.place true)
def orderOk (md : Region.Mode) (ops : Array Oper) : List Tk → Array Bool → Bool
  | [], _ => true
  | t :: L, l => (Region.free md ops l t.place && (Region.ready md ops l).contains t.place) && orderOk md ops L (l.setIfInBounds t.place true)
theorem wpAnyH_takes (L : List Tk) (hs : Region.noSelect ops = true) (hQ : ∀ d v c a w, Q (.panic c) (Act.put a d v) w → Q (.panic c) a w) :
    ∀ {m n : Nat} {listed : Array Bool} {a : Act} {w : World}, n = m + L.length → orderOk md ops L listed = true → (∀ w, sees P ops w L a = wants w L) → Facts P S L → S w →
      wpAnyH P md ops Q S m (listedBy L listed) (puts L a) w → wpAnyH P md ops Q S n listed a w := by
  induction L with
  | nil => intro m n listed a w hn _ _ _ _ h; subst hn; exact h
  | cons t L ih =>
    intro m n listed a w hn ho hsee hf hS h
    simp only [orderOk, Bool.and_eq_true] at ho
    obtain ⟨⟨ho1, ho2⟩, ho3⟩ := ho
    have hsee1 : ∀ w, (ops[t.place]?).map (fun o => seeOp P ops w a o t) = some (wantOp w t) := fun w => (List.cons.inj (hsee w)).1
    have hsee2 : ∀ w, sees P ops w L (t.put a) = wants w L := fun w => (List.cons.inj (hsee w)).2
    obtain ⟨o, hop⟩ : ∃ o, ops[t.place]? = some o := by
      cases hx : ops[t.place]? with
      | none => have := hsee1 default; rw [hx] at this; cases this
      | some o => exact ⟨o, rfl⟩
    obtain ⟨⟨v, hv, hy⟩, hf2⟩ := one_of hop hsee1 hf
    subst hn
    exact wpAnyH_take hop hs ho1 ho2 (fun c a w h => hQ _ _ c a w h) hy hS (by rw [← hv]; exact ih (m := m) rfl ho3 hsee2 hf2 hS h)
theorem wp_region_M {id : Nat} {a : Act} {w : World} (S S0 : World → Prop) (hm : P.follows .mixedOrders = true) (h0 : S0 w.drew)
    (h : ∀ Y, S0 Y → wpAnyH P .any ops Q S ops.size (Array.replicate ops.size false) a Y) : (Code.region id ops true).wp P Q a w := wp_region_held hm (h _ h0)
def wpFrom (P : Program) (ops : Array Oper) (Q : Exit → Act → World → Prop) (k : Nat) (a : Act) (w : World) : Prop := wpList P ops Q (ops.toList.drop k) a w
theorem wp_region_from {id : Nat} {a : Act} {w : World} (h : wpFrom P ops Q 0 a w) : (Code.region id ops false).wp P Q a w := wp_region_list h
theorem wp_region_fromM {id : Nat} {a : Act} {w : World} (S0 : World → Prop) (h0 : S0 w) (h : ∀ Y, S0 Y → wpFrom P ops Q 0 a Y) : (Code.region id ops false).wp P Q a w := wp_region_from (h _ h0)
theorem wpFrom_step {k : Nat} {a : Act} {w : World} {o : Oper} (ho : ops[k]? = some o)
    (h : ∀ K : Act → World → Prop, (∀ a w, wpFrom P ops Q (k + 1) a w → K a w) → if Region.wanted o (yielded ops a.tmps) = true then o.wp P a w K Q else K (a.put o.dst undef) w) : wpFrom P ops Q k a w := by
  have hk : k < ops.toList.length := by simpa using (Array.getElem?_eq_some_iff.1 ho).1
  have e : ops.toList.drop k = o :: ops.toList.drop (k + 1) := by
    rw [List.drop_eq_getElem_cons hk]
    congr 1
    simpa using (Array.getElem?_eq_some_iff.1 ho).2
  unfold wpFrom
  rw [e]
  exact wpList_step fun K hK => h K hK
theorem wpFrom_takes (L : List Tk) : ∀ {k m : Nat} {a : Act} {w : World}, m = k + L.length → L.map Tk.place = List.range' k L.length → (∀ w, sees P ops w L a = wants w L) → FactsAt P w L →
      wpFrom P ops Q m (puts L a) w → wpFrom P ops Q k a w := by
  induction L with
  | nil => intro k m a w hm _ _ _ h; subst hm; exact h
  | cons t L ih =>
    intro k m a w hm hp hsee hf h
    have hsee1 : ∀ w, (ops[t.place]?).map (fun o => seeOp P ops w a o t) = some (wantOp w t) := fun w => (List.cons.inj (hsee w)).1
    have hsee2 : ∀ w, sees P ops w L (t.put a) = wants w L := fun w => (List.cons.inj (hsee w)).2
    rw [List.map_cons, List.length_cons, List.range'_succ] at hp
    obtain ⟨hp1, hp2⟩ := List.cons.inj hp
    obtain ⟨o, hop⟩ : ∃ o, ops[t.place]? = some o := by
      cases hx : ops[t.place]? with
      | none => have := hsee1 default; rw [hx] at this; cases this
      | some o => exact ⟨o, rfl⟩
    have hf2 : FactsAt P w L := by cases t <;> first | exact hf.2 | exact hf
    obtain ⟨⟨v, hv, hy⟩, _⟩ := one_of hop hsee1 (factsAt hf)
    refine wpFrom_step (by rw [← hp1]; exact hop) fun K hK => ?_
    have hgo : wpFrom P ops Q (k + 1) (a.put o.dst v) w := by rw [← hv]; exact ih (m := m) (by simpa [Nat.add_assoc, Nat.add_comm 1] using hm) hp2 hsee2 hf2 h
    rcases hy with ⟨hw, hr⟩ | ⟨hw, rfl⟩
    · rw [if_pos hw]
      unfold Oper.wp
      rw [hr w rfl]
      exact hK _ _ hgo
    · rw [if_neg (by rw [hw]; decide)]
      exact hK _ _ hgo
theorem wpFrom_done {k : Nat} {a : Act} {w : World} (hk : ops.size ≤ k) (h : Q .normal a w) : wpFrom P ops Q k a w := by
  unfold wpFrom
  rw [List.drop_of_length_le (by simpa using hk)]
  exact wpList_nil h
def runAt (P : Program) (ops : Array Oper) (i : Nat) (a : Act) (w : World) : Option (Bool × Option Tmp × Result Next) := (ops[i]?).map fun o => (Region.wanted o (yielded ops a.tmps), o.dst, (execOp a.eval o).run P w)
def Goes (Q : Exit → Act → World → Prop) (K : Act → World → Prop) (a : Act) (d : Option Tmp) : Ending → World → Prop
  | .returned v, w => K (a.put d v) w
  | .panicked c, w => Q (.panic c) a w
  | .outgrown, _ => LetsOut Q
theorem op_call {i : Nat} {o : Oper} {a : Act} {w : World} {d : Option Tmp} {f : FuncId} {args : Array Value} {K : Act → World → Prop} (ho : ops[i]? = some o) (hr : runAt P ops i a w = some (true, d, .ok (.enter f args) w)) (hc : Calls P f args w (Goes Q K a d)) :
    if Region.wanted o (yielded ops a.tmps) = true then o.wp P a w K Q else K (a.put o.dst undef) w := by
  unfold runAt at hr
  rw [ho] at hr
  have h := Option.some.inj hr
  have h1 : Region.wanted o (yielded ops a.tmps) = true := congrArg Prod.fst h
  have h2 : o.dst = d := congrArg (fun x => x.2.1) h
  have h3 : (execOp a.eval o).run P w = .ok (.enter f args) w := congrArg (fun x => x.2.2) h
  rw [if_pos h1]
  unfold Oper.wp
  rw [h3]
  refine hc.mono fun e w' he => ?_
  rw [h2]
  cases e <;> exact he
theorem op_run {i : Nat} {o : Oper} {a : Act} {w w' : World} {d : Option Tmp} {v : Value} {K : Act → World → Prop} (ho : ops[i]? = some o) (hr : runAt P ops i a w = some (true, d, .ok (.value v) w')) (hc : K (a.put d v) w') :
    if Region.wanted o (yielded ops a.tmps) = true then o.wp P a w K Q else K (a.put o.dst undef) w := by
  unfold runAt at hr
  rw [ho] at hr
  have h := Option.some.inj hr
  have h1 : Region.wanted o (yielded ops a.tmps) = true := congrArg Prod.fst h
  have h2 : o.dst = d := congrArg (fun x => x.2.1) h
  have h3 : (execOp a.eval o).run P w = .ok (.value v) w' := congrArg (fun x => x.2.2) h
  rw [if_pos h1]
  unfold Oper.wp
  rw [h3]
  have : K (a.put o.dst v) w' := by rw [h2]; exact hc
  exact this
def storeAt (ops : Array Oper) (i : Nat) (a : Act) : Option (Bool × Option Tmp × Option (TypeId × Value × Value)) := (ops[i]?).map fun o => (Region.wanted o (yielded ops a.tmps), o.dst, match o.op with | .store ty x y => some (ty, a.eval x, a.eval y) | _ => none)
theorem op_store {i : Nat} {o : Oper} {a : Act} {w w' : World} {ty : TypeId} {p v : Value} {K : Act → World → Prop} (ho : ops[i]? = some o) (hr : storeAt ops i a = some (true, none, some (ty, p, v))) (hst : (Instr.storeAt ty p v).run P w = .ok () w') (hc : K a w') :
    if Region.wanted o (yielded ops a.tmps) = true then o.wp P a w K Q else K (a.put o.dst undef) w := by
  unfold storeAt at hr
  rw [ho] at hr
  have h := Option.some.inj hr
  have h1 : Region.wanted o (yielded ops a.tmps) = true := congrArg Prod.fst h
  have h2 : o.dst = none := congrArg (fun x => x.2.1) h
  have h3 := congrArg (fun x => x.2.2) h
  rw [if_pos h1]
  dsimp only at h3
  split at h3
  · rename_i ty' x y hop
    obtain ⟨rfl, rfl, rfl⟩ := by simpa using h3
    unfold Oper.wp execOp
    simp only [hop, Sem.run_bind, hst, Result.andThen_ok]
    have : K (a.put o.dst undef) w' := by rw [h2]; exact hc
    exact this
  · cases h3
theorem op_load {i : Nat} {o : Oper} {a : Act} {w : World} {d : Option Tmp} {ty : TypeId} {p v : Value} {K : Act → World → Prop} (ho : ops[i]? = some o) (hr : (ops[i]?).map (fun o => seeOp P ops w a o (.load i d ty p v)) = some (.got true d (some (ty, p)))) (hl : (Instr.loadAt ty p).run P w = .ok v w) (hc : K (a.put d v) w) :
    if Region.wanted o (yielded ops a.tmps) = true then o.wp P a w K Q else K (a.put o.dst undef) w := by
  rw [ho] at hr
  have h := Option.some.inj hr
  simp only [seeOp, See.got.injEq] at h
  obtain ⟨h1, h2, h3⟩ := h
  rw [if_pos h1]
  split at h3
  · rename_i ty' x hop
    obtain ⟨rfl, rfl⟩ := by simpa using h3
    unfold Oper.wp execOp
    simp only [hop, Sem.run_bind, hl, Result.andThen_ok]
    have : K (a.put o.dst v) w := by rw [h2]; exact hc
    exact this
  · cases h3
def appAt (ops : Array Oper) (i : Nat) (a : Act) : Option (Bool × Option Tmp × Option (TypeId × TypeId × TypeId × Value × Value)) := (ops[i]?).map fun o => (Region.wanted o (yielded ops a.tmps), o.dst, match o.op with | .call ⟨.builtin .append, ⟨[s, x]⟩, ⟨[t, t']⟩⟩ => some (t, t', o.type, a.eval s, a.eval x) | _ => none)
theorem op_append {i : Nat} {o : Oper} {a : Act} {w w' : World} {d : Option Tmp} {t t' ty : TypeId} {v x u : Value} {K : Act → World → Prop} (ho : ops[i]? = some o) (hr : appAt ops i a = some (true, d, some (t, t', ty, v, x))) (hst : (Builtin.append_ #[t, t'] ty #[v, x]).run P w = .ok u w') (hc : K (a.put d u) w') :
    if Region.wanted o (yielded ops a.tmps) = true then o.wp P a w K Q else K (a.put o.dst undef) w := by
  unfold appAt at hr
  rw [ho] at hr
  have h := Option.some.inj hr
  have h1 : Region.wanted o (yielded ops a.tmps) = true := congrArg Prod.fst h
  have h2 : o.dst = d := congrArg (fun x => x.2.1) h
  have h3 := congrArg (fun x => x.2.2) h
  rw [if_pos h1]
  dsimp only at h3
  split at h3
  · rename_i s y t1 t2 hop
    obtain ⟨rfl, rfl, rfl, rfl, rfl⟩ := by simpa using h3
    unfold Oper.wp execOp
    simp only [hop, resolve, invoke, builtin, Sem.run_bind, Sem.run_pure, Result.andThen_ok, List.map_toArray, List.map_cons, List.map_nil, hst]
    have : K (a.put o.dst u) w' := by rw [h2]; exact hc
    exact this
  · cases h3
def StepH (P : Program) (md : Region.Mode) (ops : Array Oper) (Q : Exit → Act → World → Prop) (S : World → Prop) (m : Nat) (listed : Array Bool) (a : Act) (w : World) (i : Nat) : Prop :=
  wpOp P ops Q i (fun a' w' => S w' ∧ wpAnyH P md ops Q S m (listed.setIfInBounds i true) a' w') a w
theorem wpAnyH_one {i m n : Nat} {listed : Array Bool} {a : Act} {w : World} (hr : Region.ready md ops listed = [i]) (hn : n = m + 1) (h : StepH P md ops Q S m listed a w i) : wpAnyH P md ops Q S n listed a w := by
  subst hn
  exact wpAnyH_all hr (by simp) fun j hj => by obtain rfl := List.mem_singleton.1 hj; exact h
theorem wpAnyH_two {i j m n : Nat} {listed : Array Bool} {a : Act} {w : World} (hr : Region.ready md ops listed = [i, j]) (hn : n = m + 1) (h1 : StepH P md ops Q S m listed a w i) (h2 : StepH P md ops Q S m listed a w j) : wpAnyH P md ops Q S n listed a w := by
  subst hn
  refine wpAnyH_all hr (by simp) fun k hk => ?_
  rcases List.mem_cons.1 hk with rfl | hk
  · exact h1
  · obtain rfl := List.mem_singleton.1 hk; exact h2
theorem stepH_of {m i : Nat} {listed : Array Bool} {a : Act} {w : World} {o : Oper} (ho : ops[i]? = some o)
    (h : if Region.wanted o (yielded ops a.tmps) = true then o.wp P a w (fun a' w' => S w' ∧ wpAnyH P md ops Q S m (listed.setIfInBounds i true) a' w') Q else (fun a' w' => S w' ∧ wpAnyH P md ops Q S m (listed.setIfInBounds i true) a' w') (a.put o.dst undef) w) : StepH P md ops Q S m listed a w i := by
  refine wpOp_step ho fun K' hK => ?_
  split at h
  · rename_i hw
    rw [if_pos hw]
    exact Oper.wp_mono (fun a w h => hK a w h) h
  · rename_i hw
    rw [if_neg hw]
    exact hK _ _ h
theorem some_of {α β : Type} {x : Option α} {f : α → β} {y : β} (h : x.map f = some y) : ∃ o, x = some o := by
  cases x with
  | none => cases h
  | some o => exact ⟨o, rfl⟩
theorem stepH_call {m i : Nat} {listed : Array Bool} {a : Act} {w : World} {d : Option Tmp} {f : FuncId} {args : Array Value} (hr : runAt P ops i a w = some (true, d, .ok (.enter f args) w))
    (hc : Calls P f args w (Goes Q (fun a' w' => S w' ∧ wpAnyH P md ops Q S m (listed.setIfInBounds i true) a' w') a d)) : StepH P md ops Q S m listed a w i := by
  obtain ⟨o, ho⟩ := some_of hr
  exact stepH_of ho (op_call ho hr hc)
theorem stepH_run {m i : Nat} {listed : Array Bool} {a : Act} {w w' : World} {d : Option Tmp} {v : Value} (hr : runAt P ops i a w = some (true, d, .ok (.value v) w')) (hS : S w') (h : wpAnyH P md ops Q S m (listed.setIfInBounds i true) (a.put d v) w') : StepH P md ops Q S m listed a w i := by
  obtain ⟨o, ho⟩ := some_of hr
  exact stepH_of ho (op_run ho hr ⟨hS, h⟩)
theorem stepH_store {m i : Nat} {listed : Array Bool} {a : Act} {w w' : World} {ty : TypeId} {p v : Value} (hr : storeAt ops i a = some (true, none, some (ty, p, v))) (hst : (Instr.storeAt ty p v).run P w = .ok () w') (hS : S w') (h : wpAnyH P md ops Q S m (listed.setIfInBounds i true) a w') : StepH P md ops Q S m listed a w i := by
  obtain ⟨o, ho⟩ := some_of hr
  exact stepH_of ho (op_store ho hr hst ⟨hS, h⟩)
theorem stepH_load {m i : Nat} {listed : Array Bool} {a : Act} {w : World} {d : Option Tmp} {ty : TypeId} {p v : Value} (hr : (ops[i]?).map (fun o => seeOp P ops w a o (.load i d ty p v)) = some (.got true d (some (ty, p)))) (hl : (Instr.loadAt ty p).run P w = .ok v w) (hS : S w) (h : wpAnyH P md ops Q S m (listed.setIfInBounds i true) (a.put d v) w) : StepH P md ops Q S m listed a w i := by
  obtain ⟨o, ho⟩ := some_of hr
  exact stepH_of ho (op_load ho hr hl ⟨hS, h⟩)
theorem stepH_append {m i : Nat} {listed : Array Bool} {a : Act} {w w' : World} {d : Option Tmp} {t t' ty : TypeId} {v x u : Value} (hr : appAt ops i a = some (true, d, some (t, t', ty, v, x))) (hst : (Builtin.append_ #[t, t'] ty #[v, x]).run P w = .ok u w') (hS : S w') (h : wpAnyH P md ops Q S m (listed.setIfInBounds i true) (a.put d u) w') : StepH P md ops Q S m listed a w i := by
  obtain ⟨o, ho⟩ := some_of hr
  exact stepH_of ho (op_append ho hr hst ⟨hS, h⟩)
theorem wpFrom_append {k : Nat} {a : Act} {w w' : World} {d : Option Tmp} {t t' ty : TypeId} {v x u : Value} (hr : appAt ops k a = some (true, d, some (t, t', ty, v, x))) (hst : (Builtin.append_ #[t, t'] ty #[v, x]).run P w = .ok u w') (h : wpFrom P ops Q (k + 1) (a.put d u) w') : wpFrom P ops Q k a w := by
  obtain ⟨o, ho⟩ := some_of hr
  exact wpFrom_step ho fun K hK => op_append ho hr hst (hK _ _ h)
theorem wpFrom_call {k : Nat} {a : Act} {w : World} {d : Option Tmp} {f : FuncId} {args : Array Value} (hr : runAt P ops k a w = some (true, d, .ok (.enter f args) w)) (hc : Calls P f args w (Goes Q (wpFrom P ops Q (k + 1)) a d)) : wpFrom P ops Q k a w := by
  obtain ⟨o, ho⟩ := some_of hr
  refine wpFrom_step ho fun K hK => op_call ho hr (hc.mono fun e w' he => ?_)
  cases e with
  | returned v => exact hK _ _ he
  | panicked c => exact he
  | outgrown => exact he
theorem wpFrom_run {k : Nat} {a : Act} {w w' : World} {d : Option Tmp} {v : Value} (hr : runAt P ops k a w = some (true, d, .ok (.value v) w')) (h : wpFrom P ops Q (k + 1) (a.put d v) w') : wpFrom P ops Q k a w := by
  obtain ⟨o, ho⟩ := some_of hr
  exact wpFrom_step ho fun K hK => op_run ho hr (hK _ _ h)
theorem wpFrom_store {k : Nat} {a : Act} {w w' : World} {ty : TypeId} {p v : Value} (hr : storeAt ops k a = some (true, none, some (ty, p, v))) (hst : (Instr.storeAt ty p v).run P w = .ok () w') (h : wpFrom P ops Q (k + 1) a w') : wpFrom P ops Q k a w := by
  obtain ⟨o, ho⟩ := some_of hr
  exact wpFrom_step ho fun K hK => op_store ho hr hst (hK _ _ h)
abbrev pt (b o : Nat) : Value := .pointer (some ⟨b, o, none⟩)
theorem tD (m : Nat) (L : List Tk) {n : Nat} {listed : Array Bool} {a : Act} {w : World} (hf : Facts P S L) (hS : S w) (h : wpAnyH P md ops Q S m (listedBy L listed) (puts L a) w) (hs : Region.noSelect ops = true := by kernel_rfl) (hQ : ∀ d v c a w, Q (.panic c) (Act.put a d v) w → Q (.panic c) a w := by rintro (_ | _) _ _ _ _ h <;> exact h)
    (hn : n = m + L.length := by kernel_rfl) (ho : orderOk md ops L listed = true := by kernel_rfl) (hsee : ∀ w, sees P ops w L a = wants w L := by intro _; kernel_rfl) : wpAnyH P md ops Q S n listed a w := wpAnyH_takes L hs hQ hn ho hsee hf hS h
theorem tF (m : Nat) (L : List Tk) {k : Nat} {a : Act} {w : World} (hf : FactsAt P w L) (h : wpFrom P ops Q m (puts L a) w) (hm : m = k + L.length := by kernel_rfl) (hp : L.map Tk.place = List.range' k L.length := by kernel_rfl) (hsee : ∀ w, sees P ops w L a = wants w L := by intro _; kernel_rfl) : wpFrom P ops Q k a w := wpFrom_takes L hm hp hsee hf h
theorem oD (i m : Nat) {n : Nat} {listed : Array Bool} {a : Act} {w : World} (h : StepH P md ops Q S m listed a w i) (hr : Region.ready md ops listed = [i] := by kernel_rfl) (hn : n = m + 1 := by kernel_rfl) : wpAnyH P md ops Q S n listed a w := wpAnyH_one hr hn h
theorem oT (i j m : Nat) {n : Nat} {listed : Array Bool} {a : Act} {w : World} (h1 : StepH P md ops Q S m listed a w i) (h2 : StepH P md ops Q S m listed a w j) (hr : Region.ready md ops listed = [i, j] := by kernel_rfl) (hn : n = m + 1 := by kernel_rfl) : wpAnyH P md ops Q S n listed a w := wpAnyH_two hr hn h1 h2
theorem cD (d : Option Tmp) (f : FuncId) (args : Array Value) {m i : Nat} {listed : Array Bool} {a : Act} {w : World} (hc : Calls P f args w (Goes Q (fun a' w' => S w' ∧ wpAnyH P md ops Q S m (listed.setIfInBounds i true) a' w') a d)) (hr : runAt P ops i a w = some (true, d, .ok (.enter f args) w) := by kernel_rfl) : StepH P md ops Q S m listed a w i := stepH_call hr hc
theorem cF (d : Option Tmp) (f : FuncId) (args : Array Value) {k : Nat} {a : Act} {w : World} (hc : Calls P f args w (Goes Q (wpFrom P ops Q (k + 1)) a d)) (hr : runAt P ops k a w = some (true, d, .ok (.enter f args) w) := by kernel_rfl) : wpFrom P ops Q k a w := wpFrom_call hr hc
theorem rD (d : Option Tmp) (v : Value) (w' : World) {m i : Nat} {listed : Array Bool} {a : Act} {w : World} (hS : S w') (h : wpAnyH P md ops Q S m (listed.setIfInBounds i true) (a.put d v) w') (hr : runAt P ops i a w = some (true, d, .ok (.value v) w') := by kernel_rfl) : StepH P md ops Q S m listed a w i := stepH_run hr hS h
theorem rF (d : Option Tmp) (v : Value) (w' : World) {k : Nat} {a : Act} {w : World} (h : wpFrom P ops Q (k + 1) (a.put d v) w') (hr : runAt P ops k a w = some (true, d, .ok (.value v) w') := by kernel_rfl) : wpFrom P ops Q k a w := wpFrom_run hr h
theorem sD (ty : TypeId) (p v : Value) {m i : Nat} {listed : Array Bool} {a : Act} {w w' : World} (hst : (Instr.storeAt ty p v).run P w = .ok () w') (hS : S w') (h : wpAnyH P md ops Q S m (listed.setIfInBounds i true) a w') (hr : storeAt ops i a = some (true, none, some (ty, p, v)) := by kernel_rfl) : StepH P md ops Q S m listed a w i := stepH_store hr hst hS h
theorem sF (ty : TypeId) (p v : Value) {k : Nat} {a : Act} {w w' : World} (hst : (Instr.storeAt ty p v).run P w = .ok () w') (h : wpFrom P ops Q (k + 1) a w') (hr : storeAt ops k a = some (true, none, some (ty, p, v)) := by kernel_rfl) : wpFrom P ops Q k a w := wpFrom_store hr hst h
theorem lD (d : Option Tmp) (ty : TypeId) (p v : Value) {m i : Nat} {listed : Array Bool} {a : Act} {w : World} (hl : (Instr.loadAt ty p).run P w = .ok v w) (hS : S w) (h : wpAnyH P md ops Q S m (listed.setIfInBounds i true) (a.put d v) w) (hr : (ops[i]?).map (fun o => seeOp P ops w a o (.load i d ty p v)) = some (.got true d (some (ty, p))) := by kernel_rfl) : StepH P md ops Q S m listed a w i := stepH_load hr hl hS h
theorem dF {k : Nat} {a : Act} {w : World} (h : Q .normal a w) (hk : Nat.ble ops.size k = true := by kernel_rfl) : wpFrom P ops Q k a w := wpFrom_done (Nat.le_of_ble_eq_true hk) h
theorem dD {n : Nat} {listed : Array Bool} {a : Act} {w : World} (h : Q .normal a w) (hr : Region.ready md ops listed = [] := by kernel_rfl) : wpAnyH P md ops Q S n listed a w := wpAnyH_done hr h n
end
end Go.Proofs.Ytbhfajnejibaoaa
