/-
  Words for memory: blocks known whole, what lies below, four words as one number; Slices of octets that are read; octets of a number; What octets come to, the highest first; the words of 32 octets; The block of a wide number; blob.octets hands back a sequence of a number's octets, the highest first; blob.Num: the lowest octets of a number; What is no row of a type's stays; rows of the call's own; s
-/
import Derived.RangeFuncNested
import Derived.RangeFuncBound
import Derived.RangeFuncCalls
import Derived.RangeFuncLeaves
import Derived.RangeFuncBox
import Derived.Shelf.Abstract
import Derived.Shelf.RegionOpen
import Derived.WalkKit
import Derived.OwnWalkIn
import Derived.TacticsInMore
import Derived.LoopNIn
import Derived.LoopIn
import Derived.Lib.Hide
import Derived.Test.YtfoemkmoambagaaGreatProg
import Derived.Laws.BytesArg
import Derived.Maps.AppendAt
import Derived.Deep.AppendLies
import Derived.Laws.BitsLemmas
import Derived.Laws.OwnMore
import Derived.RangeFuncIn
import Derived.OrdersIn
import Derived.StillTail
import Derived.StillTailTactics
import Derived.WalkSpells
import Derived.Laws.CopyOwn
import Derived.Laws.Rows
import Derived.Laws.CopyRow
import Derived.Laws.StructEq
import Derived.Outline
import Derived.Deep.WholeRow
namespace Go.Proofs.YtfoemkmoambagaaGreat
open Go.RowKit Go.Shelf
def M : Nat := 18446744073709551616
theorem M_pos : 0 < M := by unfold M; omega
abbrev wv (a0 a1 a2 a3 : Nat) : Value := .agg #[.int .u64 (a0 : Int), .int .u64 (a1 : Int), .int .u64 (a2 : Int), .int .u64 (a3 : Int)]
structure Ok4 (a0 a1 a2 a3 : Nat) : Prop where
  h0 : a0 < M
  h1 : a1 < M
  h2 : a2 < M
  h3 : a3 < M
def upto {α : Type} (f : Nat → α) (k : Nat) : List α := (List.range k).map f
theorem upto_succ {α : Type} (f : Nat → α) (k : Nat) : upto f (k + 1) = upto f k ++ [f k] := by simp [upto, List.range_succ]
theorem upto_length {α : Type} (f : Nat → α) (k : Nat) : (upto f k).length = k := by simp [upto]
def Blk (W : World) (B : Nat) (t : TypeId) (vs : List Value) : Prop := W.heap[B]? = some (.cells vs.toArray t (0, 0))
theorem Blk.lt {W : World} {B : Nat} {t : TypeId} {vs : List Value} (h : Blk W B t vs) : B < W.heap.size := (Array.getElem?_eq_some_iff.1 h).1
theorem Blk.cell {W : World} {B : Nat} {t : TypeId} {vs : List Value} (h : Blk W B t vs) (i : Nat) : W.cell? ⟨B, i, none⟩ = vs[i]? := by simp [World.cell?, show W.heap[B]? = _ from h]
theorem Blk.frozen {W : World} {B : Nat} {t : TypeId} {vs : List Value} (h : Blk W B t vs) (i : Nat) : W.frozen? ⟨B, i, none⟩ = false := by simp [World.frozen?, show W.heap[B]? = _ from h]
theorem Blk.new (W : World) (t : TypeId) (vs : List Value) : Blk (W.alloc (.cells vs.toArray t)) W.heap.size t vs := World.alloc_heap_new W _
theorem Blk.new' {W : World} {B : Nat} {t : TypeId} {vs : List Value} (h : W.heap.size = B) : Blk (W.alloc (.cells vs.toArray t)) B t vs := h ▸ Blk.new W t vs
theorem Blk.kept {W W' : World} {row : Option Nat} {B : Nat} {t : TypeId} {vs : List Value} (h : Blk W B t vs) (hg : W.grownBy W' row) (hne : some B ≠ row) : Blk W' B t vs := (hg.block B h.lt hne).trans h
theorem Blk.alloc {W : World} {B : Nat} {t : TypeId} {vs : List Value} (h : Blk W B t vs) (o : Obj) : Blk (W.alloc o) B t vs := h.kept (World.grownBy_alloc W o none) (by simp)
theorem Blk.drew {W : World} {B : Nat} {t : TypeId} {vs : List Value} (h : Blk W B t vs) : Blk W.drew B t vs := h
theorem Blk.below {W W' : World} {n B : Nat} {t : TypeId} {vs : List Value} (h : Blk W B t vs) (hb : Below n W W') (hlt : B < n) : Blk W' B t vs := (hb.block B hlt).trans h
theorem Blk.set {W : World} {B : Nat} {t : TypeId} {vs : List Value} (h : Blk W B t vs) (i : Nat) (v : Value) : Blk (W.setCell ⟨B, i, none⟩ v) B t (vs.set i v) := by
  obtain ⟨hlt, hk⟩ := Array.getElem?_eq_some_iff.1 h
  show (W.heap.modify B _)[B]? = _
  rw [Array.getElem?_eq_getElem (by rw [Array.size_modify]; exact hlt), Array.getElem_modify_self, hk]
  simp
theorem grownBy_setCell4 (W : World) (b i : Nat) (v : Value) : W.grownBy (W.setCell ⟨b, i, none⟩ v) (some b) :=
  ⟨rfl, rfl, rfl, (KeepsWalks.setCell W _ v).size, fun k _ hk => Below.heap_setCell _ _ _ k (fun e => hk (by rw [e]))⟩
theorem Blk.other {W : World} {B B' : Nat} {t : TypeId} {vs : List Value} (h : Blk W B t vs) (i : Nat) (v : Value) (hne : B ≠ B') : Blk (W.setCell ⟨B', i, none⟩ v) B t vs :=
  h.kept (grownBy_setCell4 W B' i v) (fun e => hne (by cases e; rfl))
theorem blk_own {β : Type} (B : Nat) (t : TypeId) (f : β → List Value) : Own (fun s W => Blk W B t (f s)) := fun s X Y row hs hg hrow =>
  hs.kept hg (fun e' => by obtain ⟨o, ho, hc⟩ := hrow B e'.symm; rw [show X.heap[B]? = _ from hs] at ho; cases ho; cases hc)
theorem Blk.c4 {W : World} {B : Nat} {t : TypeId} {v0 v1 v2 v3 : Value} (h : Blk W B t [v0, v1, v2, v3]) :
    W.cell? ⟨B, 0, none⟩ = some v0 ∧ W.cell? ⟨B, 1, none⟩ = some v1 ∧ W.cell? ⟨B, 2, none⟩ = some v2 ∧ W.cell? ⟨B, 3, none⟩ = some v3 := ⟨h.cell 0, h.cell 1, h.cell 2, h.cell 3⟩
theorem chain {w w1 w2 : World} (h : Below w.heap.size w w1) (k : Below w1.heap.size w1 w2) : Below w.heap.size w w2 := h.trans (k.mono h.size)
theorem chainA {w w1 : World} (h : Below w.heap.size w w1) (o : Obj) : Below w.heap.size w (w1.alloc o) := h.alloc h.size o
theorem chain0 (w : World) (o : Obj) : Below w.heap.size w (w.alloc o) := chainA (Below.refl _ w) o
def ws (s : Nat → Nat) : List Value := [.int .u64 (s 0 : Nat), .int .u64 (s 1 : Nat), .int .u64 (s 2 : Nat), .int .u64 (s 3 : Nat)]
theorem ws_at (s : Nat → Nat) {i : Nat} (hi : i < 4) : (ws s)[i]? = some (.int .u64 (s i : Nat)) := by
  have : i = 0 ∨ i = 1 ∨ i = 2 ∨ i = 3 := by omega
  rcases this with rfl | rfl | rfl | rfl <;> rfl
def upd (s : Nat → Nat) (i v : Nat) : Nat → Nat := fun j => if j = i then v else s j
theorem ws_set (s : Nat → Nat) {i : Nat} (hi : i < 4) (v : Nat) : (ws s).set i (.int .u64 (v : Nat)) = ws (upd s i v) := by
  have : i = 0 ∨ i = 1 ∨ i = 2 ∨ i = 3 := by omega
  rcases this with rfl | rfl | rfl | rfl <;> rfl
def word (a0 a1 a2 a3 : Nat) (k : Nat) : Nat := match k with | 0 => a0 | 1 => a1 | 2 => a2 | _ => a3
theorem word_lt {a0 a1 a2 a3 : Nat} (h0 : a0 < M) (h1 : a1 < M) (h2 : a2 < M) (h3 : a3 < M) (k : Nat) : word a0 a1 a2 a3 k < M := by
  unfold word; split <;> assumption
def val (a0 a1 a2 a3 : Nat) : Nat := a0 + M * (a1 + M * (a2 + M * a3))
def M4 : Nat := M * M * M * M
theorem val_lt {a0 a1 a2 a3 : Nat} (h : Ok4 a0 a1 a2 a3) : val a0 a1 a2 a3 < M4 := by
  obtain ⟨h0, h1, h2, h3⟩ := h
  unfold val M4 M at *; omega
theorem val_inj {a0 a1 a2 a3 b0 b1 b2 b3 : Nat} (h : Ok4 a0 a1 a2 a3) (k : Ok4 b0 b1 b2 b3) (e : val a0 a1 a2 a3 = val b0 b1 b2 b3) : a0 = b0 ∧ a1 = b1 ∧ a2 = b2 ∧ a3 = b3 := by
  obtain ⟨h0, h1, h2, h3⟩ := h
  obtain ⟨k0, k1, k2, k3⟩ := k
  unfold val M at *; omega
def KeepB (B : Nat) (W W' : World) : Prop := W'.heap[B]? = W.heap[B]?
theorem KeepB.t {B : Nat} {X Y Z : World} (h : KeepB B X Y) (k : KeepB B Y Z) : KeepB B X Z := k.trans h
theorem KeepB.b {B : Nat} {w : World} (hB : B < w.heap.size) (W : World) (l : Nat) (o o' : Obj) (hl : w.heap.size ≤ l) (_ : W.heap[l]? = some o) (_ : o.isCells = false) (_ : o.isWalk = false) : KeepB B W (W.putObj l o') :=
  World.putObj_heap_other (by omega)
theorem KeepB.refl (B : Nat) (W : World) : KeepB B W W := rfl
theorem KeepB.setCell {B : Nat} {W : World} {a : Addr} (v : Value) (h : B ≠ a.block) : KeepB B W (W.setCell a v) := Below.heap_setCell _ _ _ B h
def GotW (n : Nat) (w : World) (e : Ending) (W' : World) : Prop :=
  ∃ s0 s1 s2 s3, Ok4 s0 s1 s2 s3 ∧ val s0 s1 s2 s3 = n ∧ e = .returned (.tuple #[wv s0 s1 s2 s3, .bool true]) ∧ Below w.heap.size w W'
def NoW (w : World) (e : Ending) (W' : World) : Prop := e = .returned (.tuple #[wv 0 0 0 0, .bool false]) ∧ Below w.heap.size w W'
def AddW (n : Nat) (w : World) (e : Ending) (W' : World) : Prop := (n < M4 ∧ GotW n w e W') ∨ (M4 ≤ n ∧ NoW w e W')
abbrev PW := { p : Nat × Nat // p.1 < 4 ∧ p.2 < M }
abbrev pwEnc (x : PW) : Array Value := #[.int .i64 (x.1.1 : Int), .int .u64 (x.1.2 : Int)]
def pw (i x : Nat) (h : i < 4) (hx : x < M) : PW := ⟨(i, x), h, hx⟩
def downs {a0 a1 a2 a3 : Nat} (h : Ok4 a0 a1 a2 a3) : List PW := [pw 3 a3 (by omega) h.h3, pw 2 a2 (by omega) h.h2, pw 1 a1 (by omega) h.h1, pw 0 a0 (by omega) h.h0]
end Go.Proofs.YtfoemkmoambagaaGreat
namespace Go.Proofs.YtfoemkmoambagaaGreat
open Go.RowKit Go.Shelf
abbrev bv (x : UInt8) : Value := .int .u8 (x.toNat : Int)
def Octs (W : World) (b off : Nat) (l : List UInt8) : Prop := ∀ k x, l[k]? = some x → W.cell? ⟨b, off + k, none⟩ = some (bv x)
theorem Octs.below {W W' : World} {n b off : Nat} {l : List UInt8} (h : Octs W b off l) (hb : Below n W W') (hlt : b < n) : Octs W' b off l := fun k x hx => (hb.cell (p := ⟨b, _, none⟩) hlt).trans (h k x hx)
theorem Octs.kept {W W' : World} {row : Option Nat} {b off : Nat} {l : List UInt8} (h : Octs W b off l) (hb : b < W.heap.size) (hg : W.grownBy W' row) (hne : some b ≠ row) : Octs W' b off l := fun k x hx =>
  (World.cell?_of_block (a := ⟨b, _, none⟩) (hg.block b hb hne)).trans (h k x hx)
def BSl (lo hi : Nat) (W : World) (sv : Value) (l : List UInt8) : Prop :=
  ∃ a cap, sv = .slice a l.length cap ∧ l.length ≤ cap ∧ (l = [] ∨ ∃ b off, a = some ⟨b, off, none⟩ ∧ lo ≤ b ∧ b < hi ∧ Octs W b off l)
theorem BSl.mono {lo hi lo' hi' : Nat} {W : World} {sv : Value} {l : List UInt8} (h : BSl lo hi W sv l) (h1 : lo' ≤ lo) (h2 : hi ≤ hi') : BSl lo' hi' W sv l := by
  obtain ⟨a, cap, e, hc, h0 | ⟨b, off, ha, hl, hh, ho⟩⟩ := h
  · exact ⟨a, cap, e, hc, .inl h0⟩
  · exact ⟨a, cap, e, hc, .inr ⟨b, off, ha, by omega, by omega, ho⟩⟩
theorem BSl.below {lo hi m : Nat} {W W' : World} {sv : Value} {l : List UInt8} (h : BSl lo hi W sv l) (hb : Below m W W') (hm : hi ≤ m) : BSl lo hi W' sv l := by
  obtain ⟨a, cap, e, hc, h0 | ⟨b, off, ha, hl, hh, ho⟩⟩ := h
  · exact ⟨a, cap, e, hc, .inl h0⟩
  · exact ⟨a, cap, e, hc, .inr ⟨b, off, ha, hl, hh, ho.below hb (by omega)⟩⟩
theorem BSl.kept {lo hi : Nat} {W W' : World} {row : Option Nat} {sv : Value} {l : List UInt8} (h : BSl lo hi W sv l) (hh' : hi ≤ W.heap.size) (hg : W.grownBy W' row) (hne : ∀ r, row = some r → r < lo ∨ hi ≤ r) : BSl lo hi W' sv l := by
  obtain ⟨a, cap, e, hc, h0 | ⟨b, off, ha, hl, hh, ho⟩⟩ := h
  · exact ⟨a, cap, e, hc, .inl h0⟩
  · exact ⟨a, cap, e, hc, .inr ⟨b, off, ha, hl, hh, ho.kept (by omega) hg (fun e' => by have := hne b e'.symm; omega)⟩⟩
theorem BSl.nil (lo hi : Nat) (W : World) : BSl lo hi W (.slice none 0 0) [] := ⟨none, 0, rfl, Nat.le_refl _, .inl rfl⟩
theorem BSl.of_own {W : World} {lo : Nat} {e : TypeId} {v : Value} {l : List UInt8} (h : W.ownsRow lo e 1 v l.length (l.map bv)) : BSl lo W.heap.size W v l := by
  rcases Nat.eq_zero_or_pos l.length with h0 | h0
  · have hl : l = [] := List.eq_nil_of_length_eq_zero h0
    subst hl
    rcases h.2 with ⟨rfl, _⟩ | ⟨g, cap, cur, rfl, _, _, hnc, _⟩
    · exact BSl.nil _ _ _
    · exact ⟨_, cap, rfl, hnc, .inl rfl⟩
  · obtain ⟨hl, ⟨_, h1⟩ | ⟨g, cap, cur, rfl, hg, hb, hnc, hcm, hsz, htake⟩⟩ := h
    · omega
    · refine ⟨_, cap, rfl, hnc, .inr ⟨g, 0, rfl, hg, (Array.getElem?_eq_some_iff.1 hb).1, fun k x hk => ?_⟩⟩
      have hkl : k < l.length := (List.getElem?_eq_some_iff.1 hk).1
      have e' : cur[k]? = (cur.toList.take (l.length * 1))[k]? := by
        rw [List.getElem?_take_of_lt (by omega)]
        simp
      simp only [World.cell?, hb, Nat.zero_add]
      rw [show (if (none : Option Nat).isSome = true then (none : Option Value) else cur[k]?) = cur[k]? from rfl, e', htake]
      simp [hk]
theorem mapBv_byte (l : List UInt8) : (l.map fun x => (x.toNat : Int)).map (fun n => UInt8.ofNat n.toNat) = l := by
  rw [List.map_map]
  have : ((fun n : Int => UInt8.ofNat n.toNat) ∘ fun x : UInt8 => (x.toNat : Int)) = id := by funext x; simp
  rw [this, List.map_id]
theorem run_string {P : Program} (src e dst : TypeId) (hs : P.underlying src = some (.slice e)) (he : P.underlying e = some (.int .u8)) (hd : P.underlying dst = some .string) (W : World) {lo hi : Nat} {sv : Value} {l : List UInt8} (h : BSl lo hi W sv l) :
    (convert src dst sv).run P W = .ok (.string ⟨l.toArray⟩) W := by
  obtain ⟨a, cap, rfl, _, h0⟩ := h
  rcases a with _ | ⟨b, off, sp⟩
  · have : l = [] := by
      rcases h0 with h0 | ⟨_, _, h, _⟩
      · exact h0
      · cases h
    subst this
    rw [run_convert_bytes_nil (P := P) W src e hs he _ _ dst hd]
    rfl
  · rcases h0 with rfl | ⟨b', off', ha, _, _, ho⟩
    · have hl : (loadCells ⟨b, off, sp⟩ 0).run P W = .ok (([] : List Int).map (Value.int .u8)).toArray W := by
        have := run_loadCells_list (P := P) W ⟨b, off, sp⟩ [] (fun j v hj => by simp at hj)
        simpa using this
      rw [run_convert_bytes_string W src dst e _ _ cap hs he hd]
      rw [show ([] : List UInt8).length = 0 from rfl, run_bytesToString W _ 0 cap [] hl]
      rfl
    · cases ha
      rw [run_convert_bytes_arg (P := P) W src e hs he b off l.length cap (l.map fun x => (x.toNat : Int)) (by simp) (fun i hi => by
        obtain ⟨x, hx⟩ : ∃ x, l[i]? = some x := ⟨_, List.getElem?_eq_getElem hi⟩
        rw [ho i x hx]
        simp [List.getD, hx]) dst hd]
      unfold strOfNums
      rw [mapBv_byte]
def oct (n p : Nat) : UInt8 := UInt8.ofNat (n / 2 ^ (p * 8))
def octs (n : Nat) : Nat → List UInt8
  | 0 => []
  | s + 1 => oct n s :: octs n s
theorem octs_length (n s : Nat) : (octs n s).length = s := by induction s with | zero => rfl | succ s ih => simp [octs, ih]
theorem octs_at (n s k : Nat) (hk : k < s) : (octs n s)[k]? = some (oct n (s - 1 - k)) := by
  induction s generalizing k with
  | zero => omega
  | succ s ih =>
    cases k with
    | zero => simp [octs]
    | succ k => simp only [octs, List.getElem?_cons_succ]; rw [ih k (by omega)]; congr 2; omega
end Go.Proofs.YtfoemkmoambagaaGreat
namespace Go.Proofs.YtfoemkmoambagaaGreat
open Go.RowKit
theorem wr_i64 (n : Int) (h₀ : 0 ≤ n) (h₁ : n < 2 ^ 63) : IntKind.i64.wrap n = n := by rw [IntKind.wrap_i64]; omega
def be (l : List UInt8) : Nat := l.foldl (fun n x => n * 256 + x.toNat) 0
theorem be_snoc (l : List UInt8) (x : UInt8) : be (l ++ [x]) = be l * 256 + x.toNat := by simp [be]
theorem be_lt (l : List UInt8) : be l < 256 ^ l.length := by
  rw [← List.reverse_reverse l]
  generalize l.reverse = r
  induction r with
  | nil => decide
  | cons x r ih =>
    rw [List.reverse_cons, be_snoc, List.length_append, List.length_singleton, Nat.pow_succ]
    have := x.toNat_lt
    omega
theorem be_lt' {l : List UInt8} {k : Nat} (h : l.length ≤ k) : be l < 256 ^ k := Nat.lt_of_lt_of_le (be_lt l) (Nat.pow_le_pow_right (by omega) h)
theorem or_byte64 {a x : Nat} (ha : a ≤ 36028797018963967) (hx : x < 256) : bits .or .i64 ((a : Int) * 256) (x : Int) = ((a * 256 + x : Nat) : Int) := by
  have e := (Go.bits_nat .i64 63 (by decide) (fun n h0 h1 => wr_i64 n h0 h1) (a * 256) x (by simp; omega) (by simp; omega)).2
  have h : a * 256 ||| x = a * 256 + x := by
    have := Nat.shiftLeft_add_eq_or_of_lt (show x < 2 ^ 8 by simpa using hx) a
    rw [Nat.shiftLeft_eq] at this
    exact this.symm
  rw [h] at e
  rw [← e]
  simp
end Go.Proofs.YtfoemkmoambagaaGreat
namespace Go.Proofs.YtfoemkmoambagaaGreat
open Go.RowKit Go.Shelf
abbrev BlkW (W : World) (B a0 a1 a2 a3 : Nat) : Prop := Blk W B 28 [.int .u64 (a0 : Int), .int .u64 (a1 : Int), .int .u64 (a2 : Int), .int .u64 (a3 : Int)]
end Go.Proofs.YtfoemkmoambagaaGreat
namespace Go.Proofs.YtfoemkmoambagaaGreat
open Go.RowKit Go.Shelf
attribute [local go_sem] Oper.semAt_some
theorem oct_toNat (n p : Nat) : ((oct n p).toNat : Int) = (n : Int) / 2 ^ (p * 8) % 256 := by
  unfold oct
  rw [UInt8.toNat_ofNat']
  simp
theorem oct_bv (n p : Nat) : bv (oct n p) = .int .u8 ((n : Int) / 2 ^ (p * 8) % 256) := by rw [← oct_toNat]
set_option maxRecDepth 100000 in
set_option maxHeartbeats 2000000 in
theorem octets1_stops (F : Fence) (m : Nat) (h : F.fn 121) (hro : F.round = none) (hm : 1 ≤ m) (n s : Nat) (hs : s ≤ 8) (Bn Bs : Nat) (w : World) (hBn : Bn < w.heap.size) (hBs : Bs < w.heap.size)
    (hcn : w.cell? ⟨Bn, 0, none⟩ = some (.int .u64 (n : Nat))) (hcs : w.cell? ⟨Bs, 0, none⟩ = some (.int .i64 (s : Nat))) (Kp : World → World → Prop) (hKp : ∀ A B, Kp A B → B.cell? ⟨Bn, 0, none⟩ = A.cell? ⟨Bn, 0, none⟩) :
    SeqStopsK F m Tryz.prog 121 #[.pointer (some ⟨Bs, 0, none⟩), .pointer (some ⟨Bn, 0, none⟩)] (fun x => #[bv x]) Kp (fun ys => ys = octs n s) (fun _ => True) s w := fun l J Jx W hW _ _ hY h0 => by
  have hcn' := (hW.cell (p := ⟨Bn, 0, none⟩) hBn).trans hcn
  have hcs' := (hW.cell (p := ⟨Bs, 0, none⟩) hBs).trans hcs
  clear hcn hcs
  refine callsIn_of_wp Tryz.func121 rfl h ?_ hro
  simp only [Tryz.ntmps121, List.size_toArray, List.length_cons, List.length_nil, Nat.reduceAdd, Nat.reduceSub, Array.replicate_succ, Array.replicate_zero, List.push_toArray, List.append_toArray, List.nil_append, List.cons_append]
  have hs' : (s : Int) ≤ 8 := by omega
  gi_wp2
  clear hcs'
  gi_loopw [4] (fun i wr => ∃ k : Nat, k ≤ s ∧ i = .int .i64 ((s : Int) - 1 - k) ∧ wr.cell? ⟨Bn, 0, none⟩ = some (.int .u64 (n : Nat)) ∧ J ((octs n s).take k) wr) (fun i _ => ((intOf i) + 1).toNat)
  case atStart => exact ⟨0, by omega, by simp, hcn', h0⟩
  case round =>
    obtain ⟨k, hk, rfl, hcw, hJs⟩ := hrel
    clear hcn'
    by_cases hlt : k < s
    · obtain ⟨fn, tmps, assign, body, hy, hR⟩ := hY _ (oct n (s - 1 - k)) wr hJs (by simp [octs_length]; omega)
      have ht : (octs n s).take (k + 1) = (octs n s).take k ++ [oct n (s - 1 - k)] := by rw [List.take_add_one, octs_at n s k hlt]; rfl
      have HT := Lib.hid ht
      clear ht
      have hp : (s : Int) - 1 - k = ((s - 1 - k : Nat) : Int) := by omega
      have hpl : s - 1 - k ≤ 7 := by omega
      rw [hp]
      generalize s - 1 - k = p at *
      have HP := Lib.hid hp
      clear hp
      rw [oct_bv] at hy
      gi_wp2
      refine hR.mono ?_
      clear hy
      rintro e W3 (⟨rfl, hJ3, hk3⟩ | ⟨rfl, hJx3⟩)
      · have hcw3 := (hKp _ _ hk3).trans hcw
        clear hcw
        gi_wp2
        have hq : ((s : Int) - 1 - ((k + 1 : Nat) : Int)) = (p : Int) - 1 := by have := HP.out; omega
        go_roundw
        case rel => exact ⟨k + 1, by omega, by rw [hq], hcw3, by rw [HT.out]; exact hJ3⟩
        case measure => simp [intOf]
      · gi_wp2
        refine bodyPost_ret (results_none rfl _ _ _) rfl ?_
        exact ⟨⟨_, rfl⟩, .inr ⟨_, trivial, hJx3⟩⟩
    · obtain rfl : k = s := by omega
      have hp : (k : Int) - 1 - k = -1 := by omega
      rw [hp]
      clear hp
      gi_wp2
      go_end0
      rw [List.take_of_length_le (by rw [octs_length]; omega)] at hJs
      exact ⟨⟨_, rfl⟩, .inl ⟨_, rfl, hJs⟩⟩
set_option maxHeartbeats 1000000 in
theorem octets_in (F : Fence) (m : Nat) (h : F.fn 108) (hro : F.round = none) (n s : Int) (w : World) :
    CallsIn F m Tryz.prog 108 #[.int .u64 n, .int .i64 s] w fun e w' => e = .returned (.func (.func 121) #[] #[.pointer (some ⟨w.heap.size + 1, 0, none⟩), .pointer (some ⟨w.heap.size, 0, none⟩)]) ∧ w' = (w.alloc (.cells #[.int .u64 n] 26)).alloc (.cells #[.int .i64 s] 3) := by
  refine callsIn_of_wp Tryz.func108 rfl h ?_ hro
  simp only [Tryz.ntmps108, List.size_toArray, List.length_cons, List.length_nil, Nat.reduceAdd, Nat.reduceSub, Array.replicate_succ, Array.replicate_zero, List.push_toArray, List.append_toArray, List.nil_append, List.cons_append]
  gi_wp2
  go_ret
  exact ⟨rfl, rfl⟩
end Go.Proofs.YtfoemkmoambagaaGreat
namespace Go.Proofs.YtfoemkmoambagaaGreat
open Go.RowKit Go.Shelf
attribute [local go_sem] Oper.semAt_some
def ByW (l : List UInt8) (w : World) (e : Ending) (W' : World) : Prop := ∃ sv, e = .returned sv ∧ BSl w.heap.size W'.heap.size W' sv l ∧ Below w.heap.size w W'
def clamp (z : Int) : Nat := if z ≤ 0 then 0 else if 8 ≤ z then 8 else z.toNat
def two (z : Int) : Nat := (z % 18446744073709551616).toNat
theorem Tryz.infoByte : (Tryz.prog.info? 5).map (fun i => (i.zero, i.size, i.bytes)) = some (some (.int .u8 0), 1, 1) := by kernel_rfl
theorem wrap_two (z : Int) : IntKind.u64.wrap z = (two z : Nat) := by
  unfold two
  simp [IntKind.wrap, IntKind.bits, IntKind.signed]
  omega
theorem clamp_le (z : Int) : clamp z ≤ 8 := by unfold clamp; split; · omega
                                               split <;> omega
theorem clamp_cases (z : Int) : (z < 0 ∧ (clamp z : Int) = 0) ∨ (0 ≤ z ∧ z ≤ 8 ∧ (clamp z : Int) = z) ∨ (8 < z ∧ (clamp z : Int) = 8) := by
  unfold clamp
  by_cases h0 : z < 0
  · rw [if_pos (by omega)]; exact .inl ⟨h0, rfl⟩
  · by_cases h8 : 8 < z
    · rw [if_neg (by omega), if_pos (by omega)]; exact .inr (.inr ⟨h8, rfl⟩)
    · refine .inr (.inl ⟨by omega, by omega, ?_⟩)
      by_cases e0 : z = 0
      · rw [if_pos (by omega)]; omega
      · rw [if_neg (by omega)]
        by_cases e8 : z = 8
        · rw [if_pos (by omega)]; omega
        · rw [if_neg (by omega)]; omega
def NumI (N Bn x : Nat) (w : World) (pre : List UInt8) (W : World) : Prop :=
  ((∃ v, Boxed W N 98 v ∧ W.ownsRow N 5 1 v pre.length (pre.map bv) ∧ True) ∧ Boxed W Bn 26 (.int .u64 (x : Nat))) ∧ Below N w W
theorem numI_own {N Bn x : Nat} {w : World} {B : Nat} (h : N ≤ w.heap.size) (hB : N ≤ B) : OwnFrom B (NumI N Bn x w) :=
  OwnFrom.and (OwnFrom.and (Own.from (holdsRow_own N N 98 5 1 (fun pre : List UInt8 => pre.length) (fun pre => pre.map bv) (fun _ _ => True)) _)
    (Own.from (fun _ X Y row hs hg hr => blk_own Bn 26 (fun (_ : Unit) => [.int .u64 (x : Nat)]) () X Y row hs hg hr) _)) (ownFrom_below h hB)
set_option maxRecDepth 100000 in
set_option maxHeartbeats 4000000 in
theorem num_in (m : Nat) (hm : 3 ≤ m) (n size : Int) (hs : -9223372036854775808 ≤ size) (hs' : size ≤ 9223372036854775807) (w : World) :
    CallsIn Fence.wide m Tryz.prog 91 #[.int .i64 n, .int .i64 size] w (ByW (octs (two n) (clamp size)) w) := by
  have h1 : 1 ≤ m := by omega
  refine callsIn_of_wp_marks Tryz.func91 rfl trivial ?_ rfl
  simp only [Tryz.ntmps91, List.size_toArray, List.length_cons, List.length_nil, Nat.reduceAdd, Nat.reduceSub, Array.replicate_succ, Array.replicate_zero, List.push_toArray, List.append_toArray, List.nil_append, List.cons_append]
  obtain ⟨i0, hi, hz0, hz1, hz2⟩ := info_parts Tryz.infoByte
  have hU : IntKind.u64.wrap n = (two n : Nat) := wrap_two n
  have hx : two n < M := by unfold two M; omega
  generalize two n = x at *
  have H8 := clamp_le size
  have hCC := clamp_cases size
  generalize clamp size = s at *
  rcases hCC with ⟨hc0, hC⟩ | ⟨hc0, hc8, hC⟩ | ⟨hc8, hC⟩
  all_goals
    have HC := Lib.hid hC
    clear hC
    gi_wp2_with (refine ⟨trivial, ?_⟩; gi_at_call 108; refine (octets_in Fence.wide (m - 1) trivial rfl _ _ _).mono ?_; rintro e w' ⟨rfl, rfl⟩)
    generalize hW5 : World.alloc _ _ = W5
    have k0 : Boxed W5 w.heap.size 98 (.slice none 0 0) := by rw [← hW5]; exact ((Boxed.new _ _ _).alloc _).alloc _
    have k1 : Boxed W5 (w.heap.size + 1) 26 (.int .u64 (x : Nat)) := by rw [← hW5]; exact (Blk.new' (vs := [.int .u64 (x : Nat)]) (by simp)).alloc _
    have k2 : Boxed W5 (w.heap.size + 1 + 1) 3 (.int .i64 (s : Nat)) := by rw [HC.out, ← hW5]; exact Blk.new' (vs := [.int .i64 _]) (by simp)
    have hB0 : Below w.heap.size w W5 := by rw [← hW5]; exact chainA (chainA (chain0 _ _) _) _
    have hz : W5.heap.size = w.heap.size + 3 := by rw [← hW5]; simp
    clear hW5
    refine wpIn_rangeFunc_ownF (S := fun ys => ys = octs x s) rfl h1 (gf := 121) (lb := #[.pointer (some ⟨w.heap.size + 1 + 1, 0, none⟩), .pointer (some ⟨w.heap.size + 1, 0, none⟩)]) rfl trivial (enters_of Tryz.func121 (by kernel_rfl) rfl)
      (octets1_stops Fence.wide (m - 1) trivial rfl (by omega) x s H8 (w.heap.size + 1) (w.heap.size + 1 + 1) W5 k1.lt k2.lt (k1.cell) k2.cell (KeepB (w.heap.size + 1)) (fun A B h => World.cell?_of_block h)) KeepB.t (KeepB.b k1.lt) (Below.refl _ _) (fun _ => rfl)
      (NumI w.heap.size (w.heap.size + 1) x w) (fun _ _ _ => False) (numI_own (Nat.le_refl _) (by omega)) (fun _ _ _ _ _ hs _ _ => hs)
      ⟨⟨⟨_, k0, World.ownsRow_nil _ _ _ _, trivial⟩, k1⟩, hB0⟩ ?_ ?_ ?_ ?_ ?_
    rotate_left
    · intro l x W K hK
      gi_wp2
      exact hK
    · rintro l pre o W ⟨⟨⟨v, kv, hown, _⟩, kn⟩, hB⟩ hlt
      have ko := kv.cell
      have kf := kv.frozen
      have hNW : w.heap.size ≤ W.heap.size := hB.size
      gi_wp2_with (gi_at_builtin; refine wpListIn_append_own _ rfl _ _ 98 rfl w.heap.size 5 i0 (.int .u8 0) 1 1 Tryz.underlying98 hi hz0 hz1 hz2 rfl (by decide) v pre.length (pre.map bv) rfl (hown.alloc _) ⟨W.heap.size, 0, none⟩ 1 1 [bv o] rfl rfl (cell_one_new _ _ _) (by simp [Value.oneCell']) (by unfold maxLen; omega) (by omega) (by simp; omega) ?_; intro v' w1 hown' hgrow _; obtain ⟨g, cap, rfl⟩ := ownsRow_succ hown'; obtain ⟨hv1, kv', hrow', hk3, hbw⟩ := kv.appended (by decide) hown hNW (Nat.le_refl _) hown' hgrow; have ko1 := hv1.cell; have kf1 := hv1.frozen)
      have hn1 : W.heap.size ≤ w1.heap.size := Nat.le_trans (by simp) hgrow.size
      have kn1 : Boxed w1 (w.heap.size + 1) 26 (.int .u64 (x : Nat)) := (kn.alloc _).kept hgrow (Boxed.not_row kn (by decide) hown)
      have kn3 := kn1.kept (grownBy_setCell' w1 w.heap.size (.slice (some ⟨g, 0, none⟩) (pre.length + 1) cap)) (by simp)
      exact ⟨hk3, kn3.trans kn.symm, ⟨⟨_, kv', by simpa using hrow', trivial⟩, kn3⟩, hB.trans hbw⟩
    · rintro D ys W hD rfl ⟨⟨⟨v, kv, hown, _⟩, kn⟩, hB⟩ hK
      have ko := kv.cell
      have HZ := Lib.hid hz
      clear hz
      gi_wp2
      have hB' := hB.trans (belowK_b (w := w) (Nat.le_refl _) _ D _ (.deferred none) (by have := HZ.out; omega) hK rfl rfl)
      have hown3 := ownsRow_putObj hown (.deferred none) hK rfl
      refine ⟨by simp, .inl ⟨_, _, rfl, run_takeDeferred hK, ?_⟩⟩
      refine ⟨v, ?_, ?_⟩
      · simp [results, Tryz.f91, go_sem]
      · exact ⟨v, rfl, BSl.of_own hown3, hB'⟩
    · rintro D c pre W _ _ h _
      exact h.elim
theorem num_any (n size : Int) (hs : -9223372036854775808 ≤ size) (hs' : size ≤ 9223372036854775807) (w : World) :
    Calls Tryz.prog 91 #[.int .i64 n, .int .i64 size] w (ByW (octs (two n) (clamp size)) w) := callsIn_wide.1 (num_in 3 (by omega) n size hs hs' w)
end Go.Proofs.YtfoemkmoambagaaGreat
namespace Go.Proofs.YtfoemkmoambagaaGreat
open Go.RowKit Go.Shelf
def Spares (e : TypeId) (w W : World) : Prop := w.heap.size ≤ W.heap.size ∧ ∀ (j : Nat) (o : Obj), w.heap[j]? = some o → (∀ cur fr, o ≠ .cells cur e fr) → W.heap[j]? = some o
theorem Spares.of_below {e : TypeId} {w W : World} (h : Below w.heap.size w W) : Spares e w W := ⟨h.size, fun j _ hj _ => (h.block j (Array.getElem?_eq_some_iff.1 hj).1).trans hj⟩
theorem Spares.t {e : TypeId} {X Y Z : World} (h : Spares e X Y) (k : Spares e Y Z) : Spares e X Z := ⟨Nat.le_trans h.1 k.1, fun j o hj ho => k.2 j o (h.2 j o hj ho) ho⟩
theorem Spares.grown {e : TypeId} {w W W' : World} {row : Option Nat} (h : Spares e w W) (hg : W.grownBy W' row) (hr : ∀ r, row = some r → w.heap.size ≤ r ∨ ∃ cur fr, W.heap[r]? = some (.cells cur e fr)) : Spares e w W' :=
  ⟨Nat.le_trans h.1 hg.size, fun j o hj ho => by
    have hjl := (Array.getElem?_eq_some_iff.1 hj).1
    have hW := h.2 j o hj ho
    refine (hg.block j (Array.getElem?_eq_some_iff.1 hW).1 (fun e' => ?_)).trans hW
    rcases hr j e'.symm with h1 | ⟨cur, fr, h1⟩
    · omega
    · rw [hW] at h1; cases h1; exact ho cur fr rfl⟩
theorem Spares.boxed {e t : TypeId} {w W : World} {B : Nat} {v : Value} (h : Spares e w W) (hb : Boxed w B t v) (hne : t ≠ e) : Boxed W B t v := h.2 B _ hb (fun cur fr e' => by cases e'; exact hne rfl)
theorem Spares.blk {e t : TypeId} {w W : World} {B : Nat} {vs : List Value} (h : Spares e w W) (hb : Blk w B t vs) (hne : t ≠ e) : Blk W B t vs := h.2 B _ hb (fun cur fr e' => by cases e'; exact hne rfl)
theorem Spares.others {e : TypeId} {w W : World} (h : Spares e w W) : KeepsOthers w W := ⟨h.1, fun k o hk ho => h.2 k o hk (fun cur fr e' => by rw [e'] at ho; cases ho)⟩
theorem ownFrom_spares {β : Type} {B : Nat} {e : TypeId} {w : World} (hB : w.heap.size ≤ B) : OwnFrom B (fun (_ : β) W => Spares e w W) := fun _ _ _ _ hs hg hr =>
  hs.grown hg (fun r e' => .inl (Nat.le_trans hB (hr r e').1))
theorem ownsRow_block {W : World} {base : Nat} {e : TypeId} {size k : Nat} {v : Value} {xs : List Value} (h : W.ownsRow base e size v k xs) : ∀ r, v.ownBlock = some r → ∃ cur fr, W.heap[r]? = some (.cells cur e fr) := by
  intro r hr
  rcases h.2 with ⟨rfl, _⟩ | ⟨g, cap, cur, rfl, _, hgb, _⟩
  · simp [Value.ownBlock] at hr
  · obtain rfl : g = r := by simpa [Value.ownBlock] using hr
    exact ⟨_, _, hgb⟩
theorem ownsRow_slice {W : World} {base : Nat} {e : TypeId} {size k : Nat} {v : Value} {xs : List Value} (h : W.ownsRow base e size v k xs) : ∃ a c, v = .slice a k c := by
  rcases h.2 with ⟨rfl, rfl⟩ | ⟨g, cap, cur, rfl, _⟩
  · exact ⟨_, _, rfl⟩
  · exact ⟨_, _, rfl⟩
end Go.Proofs.YtfoemkmoambagaaGreat
namespace Go.Proofs.YtfoemkmoambagaaGreat
open Go.RowKit Go.Shelf
attribute [local go_sem] Oper.semAt_some
def SeqI (n₀ B Bn x k : Nat) (xs : List Value) (w : World) (pre : List UInt8) (W : World) : Prop :=
  (((∃ v, Boxed W B 98 v ∧ W.ownsRow n₀ 5 1 v (k + pre.length) (xs ++ pre.map bv) ∧ True) ∧ Boxed W Bn 26 (.int .u64 (x : Nat))) ∧ Below n₀ w W) ∧ Spares 5 w W
theorem seqI_own {n₀ Bb Bn x k : Nat} {xs : List Value} {w : World} {B : Nat} (h : n₀ ≤ w.heap.size) (hB : w.heap.size ≤ B) : OwnFrom B (SeqI n₀ Bb Bn x k xs w) :=
  OwnFrom.and (OwnFrom.and (OwnFrom.and (Own.from (holdsRow_own n₀ Bb 98 5 1 (fun pre : List UInt8 => k + pre.length) (fun pre => xs ++ pre.map bv) (fun _ _ => True)) _)
    (Own.from (fun _ X Y row hs hg hr => blk_own Bn 26 (fun (_ : Unit) => [.int .u64 (x : Nat)]) () X Y row hs hg hr) _)) (ownFrom_below h (Nat.le_trans h hB))) (ownFrom_spares hB)
def SeqW (n₀ k : Nat) (xs : List Value) (w : World) (e : Ending) (W' : World) : Prop :=
  ∃ v', e = .returned v' ∧ W'.ownsRow n₀ 5 1 v' k xs ∧ Below n₀ w W' ∧ Spares 5 w W'
set_option maxRecDepth 100000 in
set_option maxHeartbeats 4000000 in
theorem appendSeq_in (m : Nat) (hm : 3 ≤ m) (n₀ k x s : Nat) (hk : k ≤ 1000000) (hs : s ≤ 8) (sv : Value) (xs : List Value) (Bn Bs : Nat) (w : World) (hn₀ : n₀ ≤ w.heap.size) (hrow : w.ownsRow n₀ 5 1 sv k xs)
    (kn : Boxed w Bn 26 (.int .u64 (x : Nat))) (ks : Boxed w Bs 3 (.int .i64 (s : Nat))) :
    CallsIn Fence.wide m Tryz.prog 135 #[sv, .func (.func 121) #[] #[.pointer (some ⟨Bs, 0, none⟩), .pointer (some ⟨Bn, 0, none⟩)]] w (SeqW n₀ (k + s) (xs ++ (octs x s).map bv) w) := by
  have h1 : 1 ≤ m := by omega
  obtain ⟨a, c, rfl⟩ := ownsRow_slice hrow
  refine callsIn_of_wp_marks Tryz.func135 rfl trivial ?_ rfl
  simp only [Tryz.ntmps135, List.size_toArray, List.length_cons, List.length_nil, Nat.reduceAdd, Nat.reduceSub, Array.replicate_succ, Array.replicate_zero, List.push_toArray, List.append_toArray, List.nil_append, List.cons_append]
  obtain ⟨i0, hi, hz0, hz1, hz2⟩ := info_parts Tryz.infoByte
  gi_wp2
  generalize hW5 : World.alloc _ _ = W5
  have k0 : Boxed W5 w.heap.size 98 (.slice a k c) := by rw [← hW5]; exact Boxed.new _ _ _
  have k1 : Boxed W5 Bn 26 (.int .u64 (x : Nat)) := by rw [← hW5]; exact kn.alloc _
  have k2 : Boxed W5 Bs 3 (.int .i64 (s : Nat)) := by rw [← hW5]; exact ks.alloc _
  have hB0 : Below w.heap.size w W5 := by rw [← hW5]; exact chain0 _ _
  have hrow5 : W5.ownsRow n₀ 5 1 (.slice a k c) k xs := by rw [← hW5]; exact hrow.alloc _
  have hz : W5.heap.size = w.heap.size + 1 := by rw [← hW5]; simp
  have hBnw : Bn < w.heap.size := kn.lt
  clear hW5
  refine wpIn_rangeFunc_ownF (S := fun ys => ys = octs x s) rfl h1 (gf := 121) (lb := #[.pointer (some ⟨Bs, 0, none⟩), .pointer (some ⟨Bn, 0, none⟩)]) rfl trivial (enters_of Tryz.func121 (by kernel_rfl) rfl)
    (octets1_stops Fence.wide (m - 1) trivial rfl (by omega) x s hs Bn Bs W5 k1.lt k2.lt k1.cell k2.cell (KeepB Bn) (fun A B h => World.cell?_of_block h)) KeepB.t (KeepB.b k1.lt) (Below.refl _ _) (fun _ => rfl)
    (SeqI n₀ w.heap.size Bn x k xs w) (fun _ _ _ => False) (seqI_own hn₀ (by omega)) (fun _ _ _ _ _ hs _ _ => hs)
    ⟨⟨⟨⟨_, k0, by simpa using hrow5, trivial⟩, k1⟩, hB0.mono hn₀⟩, Spares.of_below hB0⟩ ?_ ?_ ?_ ?_ ?_
  rotate_left
  · intro l x W K hK
    gi_wp2
    exact hK
  · rintro l pre o W ⟨⟨⟨⟨v, kv, hown, _⟩, kn⟩, hB⟩, hsp⟩ hlt
    have ko := kv.cell
    have kf := kv.frozen
    have hNW : n₀ ≤ W.heap.size := Nat.le_trans hn₀ hB.size
    gi_wp2_with (gi_at_builtin; refine wpListIn_append_own _ rfl _ _ 98 rfl n₀ 5 i0 (.int .u8 0) 1 1 Tryz.underlying98 hi hz0 hz1 hz2 rfl (by decide) v (k + pre.length) (xs ++ pre.map bv) rfl (hown.alloc _) ⟨W.heap.size, 0, none⟩ 1 1 [bv o] rfl rfl (cell_one_new _ _ _) (by simp [Value.oneCell']) (by unfold maxLen; omega) (by omega) (by simp; omega) ?_; intro v' w1 hown' hgrow _; obtain ⟨g, cap, rfl⟩ := ownsRow_succ hown'; obtain ⟨hv1, kv', hrow', hk3, hbw⟩ := kv.appended (by decide) hown hNW hn₀ hown' hgrow; have ko1 := hv1.cell; have kf1 := hv1.frozen)
    have kn1 : Boxed w1 Bn 26 (.int .u64 (x : Nat)) := (kn.alloc _).kept hgrow (Boxed.not_row kn (by decide) hown)
    have kn3 := kn1.kept (grownBy_setCell' w1 w.heap.size (.slice (some ⟨g, 0, none⟩) (k + pre.length + 1) cap)) (fun e => by cases e; omega)
    have hsp1 := ((hsp.grown (World.grownBy_alloc W (.cells #[bv o] 5) none) (fun r e => by cases e)).grown hgrow (fun r e => .inr (ownsRow_block (hown.alloc _) r e))).grown (grownBy_setCell' w1 w.heap.size (.slice (some ⟨g, 0, none⟩) (k + pre.length + 1) cap)) (fun r e => by cases e; exact .inl (Nat.le_refl _))
    exact ⟨hk3, kn3.trans kn.symm, ⟨⟨⟨_, kv', by simpa [Nat.add_assoc] using hrow', trivial⟩, kn3⟩, hB.trans hbw⟩, hsp1⟩
  · rintro D ys W hD rfl ⟨⟨⟨⟨v, kv, hown, _⟩, kn⟩, hB⟩, hsp⟩ hK
    have ko := kv.cell
    have HZ := Lib.hid hz
    clear hz
    gi_wp2
    have hD' : w.heap.size ≤ D := by have := HZ.out; omega
    have hB' := hB.trans (belowK_b (w := w) hn₀ _ D _ (.deferred none) hD' hK rfl rfl)
    have hown3 := ownsRow_putObj hown (.deferred none) hK rfl
    have hsp3 := hsp.grown (grownBy_putObj' _ D (.deferred none)) (fun r e => by cases e; exact .inl hD')
    rw [octs_length] at hown3
    refine ⟨by simp, .inl ⟨_, _, rfl, run_takeDeferred hK, ?_⟩⟩
    refine ⟨v, ?_, ?_⟩
    · simp [results, Tryz.f135, go_sem]
    · exact ⟨v, rfl, hown3, hB', hsp3⟩
  · rintro D c pre W _ _ h _
    exact h.elim
end Go.Proofs.YtfoemkmoambagaaGreat
namespace Go.Proofs.YtfoemkmoambagaaGreat
open Go.RowKit Go.Shelf
def KeepB2 (B B' : Nat) (W W' : World) : Prop := KeepB B W W' ∧ KeepB B' W W'
theorem KeepB2.t {B B' : Nat} {X Y Z : World} (h : KeepB2 B B' X Y) (k : KeepB2 B B' Y Z) : KeepB2 B B' X Z := ⟨h.1.t k.1, h.2.t k.2⟩
theorem KeepB2.b {B B' : Nat} {w : World} (hB : B < w.heap.size) (hB' : B' < w.heap.size) (W : World) (l : Nat) (o o' : Obj) (hl : w.heap.size ≤ l) (h1 : W.heap[l]? = some o) (h2 : o.isCells = false) (h3 : o.isWalk = false) : KeepB2 B B' W (W.putObj l o') :=
  ⟨KeepB.b hB W l o o' hl h1 h2 h3, KeepB.b hB' W l o o' hl h1 h2 h3⟩
end Go.Proofs.YtfoemkmoambagaaGreat
namespace Go.Proofs.YtfoemkmoambagaaGreat
open Go.RowKit Go.Shelf
attribute [local go_sem] Oper.semAt_some
theorem downs_at {a0 a1 a2 a3 : Nat} (ha : Ok4 a0 a1 a2 a3) {k : Nat} (hk : k < 4) : (downs ha)[k]? = some (pw (3 - k) (word a0 a1 a2 a3 (3 - k)) (by omega) (word_lt ha.h0 ha.h1 ha.h2 ha.h3 _)) := by
  have : k = 0 ∨ k = 1 ∨ k = 2 ∨ k = 3 := by omega
  rcases this with rfl | rfl | rfl | rfl <;> rfl
set_option maxRecDepth 100000 in
set_option maxHeartbeats 4000000 in
theorem backward1_stops (F : Fence) (m : Nat) (h : F.fn 146) (hro : F.round = none) (hm : 1 ≤ m) {a0 a1 a2 a3 : Nat} (ha : Ok4 a0 a1 a2 a3) (Ba Bs : Nat) (w : World) (hb : BlkW w Ba a0 a1 a2 a3) (hs : Boxed w Bs 191 (.slice (some ⟨Ba, 0, none⟩) 4 4)) :
    SeqStopsK F m Tryz.prog 146 #[.pointer (some ⟨Bs, 0, none⟩)] pwEnc (KeepB2 Ba Bs) (fun ys => ys = downs ha) (fun _ => True) 4 w := fun l J Jx W hW _ _ hY h0 => by
  have hb' : Blk W Ba 28 (ws (word a0 a1 a2 a3)) := hb.below hW hb.lt
  have hs' : Boxed W Bs 191 (.slice (some ⟨Ba, 0, none⟩) 4 4) := (hW.block Bs hs.lt).trans hs
  clear hb hs
  have hsc := hs'.cell
  refine callsIn_of_wp Tryz.func146 rfl h ?_ hro
  simp only [Tryz.ntmps146, List.size_toArray, List.length_cons, List.length_nil, Nat.reduceAdd, Nat.reduceSub, Array.replicate_succ, Array.replicate_zero, List.push_toArray, List.append_toArray, List.nil_append, List.cons_append]
  gi_wp2
  clear hsc
  gi_loopw [3] (fun i wr => ∃ k : Nat, k ≤ 4 ∧ i = .int .i64 (3 - (k : Int)) ∧ Blk wr Ba 28 (ws (word a0 a1 a2 a3)) ∧ Boxed wr Bs 191 (.slice (some ⟨Ba, 0, none⟩) 4 4) ∧ J ((downs ha).take k) wr) (fun i _ => ((intOf i) + 1).toNat)
  case atStart => exact ⟨0, by omega, rfl, hb', hs', h0⟩
  case round =>
    obtain ⟨k, hk, rfl, hbr, hsr, hJs⟩ := hrel
    by_cases hlt : k < 4
    · have hdk := downs_at ha hlt
      obtain ⟨fn, tmps, assign, body, hy, hR⟩ := hY _ (pw (3 - k) (word a0 a1 a2 a3 (3 - k)) (by omega) (word_lt ha.h0 ha.h1 ha.h2 ha.h3 _)) wr hJs (by simp [downs]; omega)
      have ht : (downs ha).take (k + 1) = (downs ha).take k ++ [pw (3 - k) (word a0 a1 a2 a3 (3 - k)) (by omega) (word_lt ha.h0 ha.h1 ha.h2 ha.h3 _)] := by rw [List.take_add_one, hdk]; rfl
      rw [← ht] at hR
      clear ht hdk
      have hcx := hbr.cell (3 - k)
      rw [ws_at _ (by omega)] at hcx
      have hp : (3 : Int) - k = ((3 - k : Nat) : Int) := by omega
      have hpl : 3 - k ≤ 3 := by omega
      change (Instr.yield l #[.int .i64 ((3 - k : Nat) : Int), .int .u64 ((word a0 a1 a2 a3 (3 - k) : Nat) : Int)]).run _ _ = _ at hy
      rw [hp]
      have HP := Lib.hid hp
      clear hp
      generalize word a0 a1 a2 a3 (3 - k) = x at *
      generalize 3 - k = p at *
      have hsc := hsr.cell
      gi_wp2
      refine hR.mono ?_
      clear hy
      rintro e W3 (⟨rfl, hJ3, hk3⟩ | ⟨rfl, hJx3⟩)
      · have hb3 : Blk W3 Ba 28 (ws (word a0 a1 a2 a3)) := hk3.1.trans hbr
        have hs3 : Boxed W3 Bs 191 (.slice (some ⟨Ba, 0, none⟩) 4 4) := hk3.2.trans hsr
        clear hcx hsc
        gi_wp2
        have hq : (3 : Int) - ((k + 1 : Nat) : Int) = (p : Int) - 1 := by have := HP.out; omega
        go_roundw
        case rel => exact ⟨k + 1, by omega, by rw [hq], hb3, hs3, hJ3⟩
        case measure => simp [intOf]
      · gi_wp2
        refine bodyPost_ret (results_none rfl _ _ _) rfl ?_
        exact ⟨⟨_, rfl⟩, .inr ⟨_, trivial, hJx3⟩⟩
    · obtain rfl : k = 4 := by omega
      gi_wp2
      go_end0
      exact ⟨⟨_, rfl⟩, .inl ⟨_, rfl, hJs⟩⟩
set_option maxHeartbeats 1000000 in
theorem backward_in (F : Fence) (m : Nat) (h : F.fn 134) (hro : F.round = none) (sv : Value) (hsv : ∃ a l c, sv = .slice a l c) (w : World) :
    CallsIn F m Tryz.prog 134 #[sv] w fun e w' => e = .returned (.func (.func 146) #[] #[.pointer (some ⟨w.heap.size, 0, none⟩)]) ∧ w' = w.alloc (.cells #[sv] 191) := by
  obtain ⟨a, l, c, rfl⟩ := hsv
  refine callsIn_of_wp Tryz.func134 rfl h ?_ hro
  simp only [Tryz.ntmps134, List.size_toArray, List.length_cons, List.length_nil, Nat.reduceAdd, Nat.reduceSub, Array.replicate_succ, Array.replicate_zero, List.push_toArray, List.append_toArray, List.nil_append, List.cons_append]
  gi_wp2
  go_ret
  exact ⟨rfl, rfl⟩
end Go.Proofs.YtfoemkmoambagaaGreat
namespace Go.Proofs.YtfoemkmoambagaaGreat
open Go.RowKit
variable {P : Program} {ops : Array Oper} {md : Region.Mode}
def noDefer (l : List Oper) : Bool := l.all fun o => match o.op with | .defer _ => false | _ => true
theorem noDefer_at {l : List Oper} (h : noDefer l = true) {i : Nat} {o : Oper} (ho : l[i]? = some o) (c : Call) : o.op ≠ .defer c := by
  intro e
  have := List.all_eq_true.1 h o (List.mem_of_getElem? ho)
  rw [e] at this
  cases this
theorem rowsIn_wide {n : Nat} {row : String} {args : Array Value} {w : World} {R : Value → World → Prop} (h : Go.Rows P row args w R) : RowsIn Fence.wide n P row args w R :=
  fun c cs _ => let ⟨v, w', r, s⟩ := h c cs; ⟨v, w', r, stepsIn_wide.2 s⟩
theorem Oper.wpIn_round {r n : Nat} {o : Oper} {a : Act} {w : World} {K : Act → World → Prop} {Q : Exit → Act → World → Prop} (hd : ∀ c, o.op ≠ .defer c) (h : o.wp P a w K Q) : o.wpIn (Fence.wide.inRound r) n P a w K Q := by
  refine ⟨fun _ _ => trivial, ?_⟩
  rw [Oper.semAt_eq _ _ _ hd]
  unfold Oper.wp at h
  generalize (execOp a.eval o).run P w = res at *
  cases res with
  | ok x w' =>
    cases x <;> simp only [Oper.upon, Oper.uponIn] at h ⊢ <;> first | exact h | exact ⟨fun e => (by cases e), (callsIn_wide (n := n - 1)).2 h⟩ | exact ⟨fun e => (by cases e), rowsIn_wide h⟩ | exact h.elim
  | halt x w' => cases x <;> simp only [Oper.upon, Oper.uponIn] at h ⊢ <;> exact h
theorem wpOpIn_round {r n : Nat} {l : List Oper} {Q : Exit → Act → World → Prop} {i : Nat} {K : Act → World → Prop} {a : Act} {w : World} (hd : noDefer l = true) (hq : ¬ LetsOut Q) (h : wpOp P l.toArray Q i K a w) :
    wpOpIn (Fence.wide.inRound r) n P l.toArray Q i K a w := by
  unfold wpOp at h
  unfold wpOpIn
  split
  · rename_i ho; simp only [ho] at h; exact h
  · rename_i o ho
    simp only [ho] at h
    split
    · rename_i hw; simp only [hw, if_true] at h
      exact Oper.wpIn_round (noDefer_at hd (by simpa using ho)) (h.resolve_right fun hh => hq hh.2)
    · rename_i hw; simp only [hw] at h; exact ⟨fun _ _ => trivial, h⟩
theorem wpAnyIn_round {r n : Nat} {l : List Oper} {Q : Exit → Act → World → Prop} (hd : noDefer l = true) (hq : ¬ LetsOut Q) : ∀ (fuel : Nat) (listed : Array Bool) (a : Act) (w : World),
    wpAny P md l.toArray Q fuel listed a w → wpAnyIn (Fence.wide.inRound r) n P md l.toArray Q fuel listed a w
  | 0, _, _, _, h => h
  | fuel + 1, _, _, _, h => ⟨h.1, fun i hi => wpOpIn_mono (fun a w => wpAnyIn_round hd hq fuel _ a w) (wpOpIn_round hd hq (h.2 i hi))⟩
theorem wpIn_round_any {r n id : Nat} {Q : Exit → Act → World → Prop} {a : Act} {w : World} {l : List Oper} (hm : P.follows .mixedOrders = true) (hd : noDefer l = true)
    (h : wpAny P .any l.toArray (Exit.then (fun a w => Q .normal a w) (fun _ _ _ => False)) l.length (Array.replicate l.length false) a w.drew) : (Code.region id l.toArray true).wpIn (Fence.wide.inRound r) n P Q a w := by
  refine wpIn_mono (wpIn_region_any (Q := Exit.then (fun a w => Q .normal a w) (fun _ _ _ => False)) hm (wpAnyIn_round hd (fun ⟨_, _, h⟩ => h) _ _ _ _ (by simpa using h))) ?_
  intro e a w hq
  cases e <;> first | exact hq | exact hq.elim
end Go.Proofs.YtfoemkmoambagaaGreat
namespace Go.Proofs.YtfoemkmoambagaaGreat
open Go.RowKit Go.Shelf
attribute [local go_sem] Oper.semAt_some
theorem octets_any (n s : Int) (w : World) :
    Calls Tryz.prog 108 #[.int .u64 n, .int .i64 s] w fun e w' => e = .returned (.func (.func 121) #[] #[.pointer (some ⟨w.heap.size + 1, 0, none⟩), .pointer (some ⟨w.heap.size, 0, none⟩)]) ∧ w' = (w.alloc (.cells #[.int .u64 n] 26)).alloc (.cells #[.int .i64 s] 3) :=
  callsIn_wide.1 (octets_in Fence.wide 1 trivial rfl n s w)
theorem appendSeq_any (n₀ k x s : Nat) (hk : k ≤ 1000000) (hs : s ≤ 8) (sv : Value) (xs : List Value) (Bn Bs : Nat) (w : World) (hn₀ : n₀ ≤ w.heap.size) (hrow : w.ownsRow n₀ 5 1 sv k xs)
    (kn : Boxed w Bn 26 (.int .u64 (x : Nat))) (ks : Boxed w Bs 3 (.int .i64 (s : Nat))) :
    Calls Tryz.prog 135 #[sv, .func (.func 121) #[] #[.pointer (some ⟨Bs, 0, none⟩), .pointer (some ⟨Bn, 0, none⟩)]] w (SeqW n₀ (k + s) (xs ++ (octs x s).map bv) w) :=
  callsIn_wide.1 (appendSeq_in 3 (by omega) n₀ k x s hk hs sv xs Bn Bs w hn₀ hrow kn ks)
def wOcts (pre : List PW) : List UInt8 := (pre.map fun x => octs x.1.2 8).flatten
theorem wOcts_snoc (pre : List PW) (x : PW) : wOcts (pre ++ [x]) = wOcts pre ++ octs x.1.2 8 := by simp [wOcts]
theorem wOcts_length (pre : List PW) : (wOcts pre).length = 8 * pre.length := by
  induction pre with
  | nil => rfl
  | cons x l ih => simp only [wOcts, List.map_cons, List.flatten_cons, List.length_append, octs_length, List.length_cons] at ih ⊢; omega
def wide8 (a0 a1 a2 a3 : Nat) : List UInt8 := octs a3 8 ++ (octs a2 8 ++ (octs a1 8 ++ octs a0 8))
theorem wOcts_downs {a0 a1 a2 a3 : Nat} (ha : Ok4 a0 a1 a2 a3) : wOcts (downs ha) = wide8 a0 a1 a2 a3 := by
  simp [wOcts, downs, pw, wide8]
def BWI (N B3 Bs a0 a1 a2 a3 : Nat) (w : World) (pre : List PW) (W : World) : Prop :=
  ((∃ v, Boxed W B3 98 v ∧ W.ownsRow N 5 1 v (8 * pre.length) ((wOcts pre).map bv) ∧ True) ∧ BlkW W N a0 a1 a2 a3 ∧ Boxed W Bs 191 (.slice (some ⟨N, 0, none⟩) 4 4)) ∧ Below N w W
theorem bwI_own {N B3 Bs a0 a1 a2 a3 : Nat} {w : World} {B : Nat} (h : N ≤ w.heap.size) (hB : N ≤ B) : OwnFrom B (BWI N B3 Bs a0 a1 a2 a3 w) :=
  OwnFrom.and (OwnFrom.and (Own.from (holdsRow_own N B3 98 5 1 (fun pre : List PW => 8 * pre.length) (fun pre => (wOcts pre).map bv) (fun _ _ => True)) _)
    (OwnFrom.and (Own.from (fun _ X Y row hs hg hr => blk_own N 28 (fun (_ : Unit) => [.int .u64 (a0 : Int), .int .u64 (a1 : Int), .int .u64 (a2 : Int), .int .u64 (a3 : Int)]) () X Y row hs hg hr) _)
      (Own.from (fun _ X Y row hs hg hr => blk_own Bs 191 (fun (_ : Unit) => [.slice (some ⟨N, 0, none⟩) 4 4]) () X Y row hs hg hr) _))) (ownFrom_below h hB)
set_option maxRecDepth 100000 in
set_option maxHeartbeats 4000000 in
theorem blobWide_in (m : Nat) (hm : 4 ≤ m) {a0 a1 a2 a3 : Nat} (ha : Ok4 a0 a1 a2 a3) (w : World) :
    CallsIn Fence.wide m Tryz.prog 126 #[wv a0 a1 a2 a3] w (ByW (wide8 a0 a1 a2 a3) w) := by
  have h1 : 1 ≤ m := by omega
  refine callsIn_of_wp_marks Tryz.func126 rfl trivial ?_ rfl
  simp only [Tryz.ntmps126, List.size_toArray, List.length_cons, List.length_nil, Nat.reduceAdd, Nat.reduceSub, Array.replicate_succ, Array.replicate_zero, List.push_toArray, List.append_toArray, List.nil_append, List.cons_append]
  obtain ⟨i0, hi, hz0, hz1, hz2⟩ := info_parts Tryz.infoByte
  gi_wp2_with (first
    | (gi_at_make; refine wpListIn_make_own _ rfl _ _ 98 rfl w.heap.size 5 i0 (.int .u8 0) 1 Tryz.underlying98 hi hz0 hz1 .i64 .i64 32 32 rfl rfl rfl (by rw [hz2]; omega) (by unfold maxLen; omega) (by simp) ?_; intro w1 hown hgrow)
    | (refine ⟨trivial, ?_⟩; gi_at_call 134; refine (backward_in Fence.wide (m - 1) trivial rfl _ ⟨_, _, _, rfl⟩ _).mono ?_; rintro e w' ⟨rfl, rfl⟩))
  have e1 : w.heap.size + 1 ≤ w1.heap.size := by have := hgrow.size; simpa using this
  have kA1 : BlkW w1 w.heap.size a0 a1 a2 a3 := Blk.kept (Blk.new' rfl) hgrow (by simp)
  have hB1 : Below w.heap.size w w1 := (chain0 w _).grown hgrow (by simp) (fun k e => by cases e)
  generalize hW5 : World.alloc (World.alloc _ _) _ = W5
  have k0 : Boxed W5 w1.heap.size 98 (.slice (some ⟨w.heap.size + 1, 0, none⟩) 0 32) := by rw [← hW5]; exact (Boxed.new _ _ _).alloc _
  have k1 : Boxed W5 (w1.heap.size + 1) 191 (.slice (some ⟨w.heap.size, 0, none⟩) 4 4) := by rw [← hW5]; exact Blk.new' (vs := [_]) (by simp)
  have kA : BlkW W5 w.heap.size a0 a1 a2 a3 := by rw [← hW5]; exact (kA1.alloc _).alloc _
  have hB0 : Below w.heap.size w W5 := by rw [← hW5]; exact chainA (chainA hB1 _) _
  have hown5 : W5.ownsRow w.heap.size 5 1 (.slice (some ⟨w.heap.size + 1, 0, none⟩) 0 32) 0 [] := by rw [← hW5, show w.heap.size + 1 = (w.alloc (.cells #[.int .u64 (a0 : Int), .int .u64 (a1 : Int), .int .u64 (a2 : Int), .int .u64 (a3 : Int)] 28)).heap.size by simp]; exact (hown.alloc _).alloc _
  have hz : W5.heap.size = w1.heap.size + 2 := by rw [← hW5]; simp
  clear hW5 hgrow
  have hmx : Tryz.prog.follows .mixedOrders = true := by kernel_rfl
  refine wpIn_rangeFunc_ownF (S := fun ys => ys = downs ha) rfl h1 (gf := 146) (lb := #[.pointer (some ⟨w1.heap.size + 1, 0, none⟩)]) rfl trivial (enters_of Tryz.func146 (by kernel_rfl) rfl)
    (backward1_stops Fence.wide (m - 1) trivial rfl (by omega) ha w.heap.size (w1.heap.size + 1) W5 kA k1) KeepB2.t (KeepB2.b kA.lt k1.lt) (Below.refl _ _) (fun _ => rfl)
    (BWI w.heap.size w1.heap.size (w1.heap.size + 1) a0 a1 a2 a3 w) (fun _ _ _ => False) (bwI_own (Nat.le_refl _) (by omega)) (fun _ _ _ _ _ hs _ _ => hs)
    ⟨⟨⟨_, k0, hown5, trivial⟩, kA, k1⟩, hB0⟩ ?_ ?_ ?_ ?_ ?_
  rotate_left
  · intro l x W K hK
    gi_wp2
    exact hK
  · rintro l pre ⟨⟨i, x⟩, hix⟩ W ⟨⟨⟨v, kv, hown, _⟩, kA, kS⟩, hB⟩ hlt
    have ko := kv.cell
    have kf := kv.frozen
    have l3 := kv.lt
    have hNW : w.heap.size ≤ W.heap.size := hB.size
    gi_wp2_with fail
    refine wpIn_round_any hmx (by kernel_rfl) ?_
    refine wpAny_take (i := 1) (v := ?_) rfl (by kernel_rfl) (by kernel_rfl) (by kernel_rfl) (fun _ _ _ h => h) (Or.inl ⟨rfl, ?_⟩) ?_
    rotate_left
    · intro w'; go_simp; with_reducible rfl
    refine wpAny_ready (rs := [0, 2]) (by kernel_rfl) (by simp) ?_
    refine AllReady.cons rfl (fun K hK => ?_) (AllReady.cons rfl (fun K hK => ?_) AllReady.nil)
    go_simp
    refine hK _ _ ?_
    clear hK K
    refine wpAny_ready (rs := [2]) (by kernel_rfl) (by simp) ?_
    refine AllReady.cons rfl (fun K hK => ?_) AllReady.nil
    go_simp
    refine (octets_any _ _ _).mono ?_
    rintro e w2 ⟨rfl, rfl⟩
    refine hK _ _ ?_
    clear hK K
    rotate_left
    go_simp
    refine (octets_any _ _ _).mono ?_
    rintro e w2 ⟨rfl, rfl⟩
    refine hK _ _ ?_
    clear hK K
    refine wpAny_ready (rs := [0]) (by kernel_rfl) (by simp) ?_
    refine AllReady.cons rfl (fun K hK => ?_) AllReady.nil
    go_simp
    refine hK _ _ ?_
    clear hK K
    rotate_left
    all_goals
      refine wpAny_ready (rs := [3]) (by kernel_rfl) (by simp) ?_
      refine AllReady.cons rfl (fun K hK => ?_) AllReady.nil
      go_simp
      have kv2 : Boxed ((W.drew.alloc (.cells #[.int .u64 (x : Int)] 26)).alloc (.cells #[.int .i64 8] 3)) w1.heap.size 98 v := (Boxed.alloc (W := W.drew) kv _).alloc _
      have hsp2 : Spares 5 W ((W.drew.alloc (.cells #[.int .u64 (x : Int)] 26)).alloc (.cells #[.int .i64 8] 3)) := Spares.of_below ((((Below.refl _ W).drew).alloc (Nat.le_refl _) _).alloc (by simp) _)
      have hb2 : Below w.heap.size W ((W.drew.alloc (.cells #[.int .u64 (x : Int)] 26)).alloc (.cells #[.int .i64 8] 3)) := (((Below.refl _ W).drew).alloc (by simpa using hNW) _).alloc (by simp; omega) _
      refine (appendSeq_any w.heap.size (8 * pre.length) x 8 (by omega) (by omega) v ((wOcts pre).map bv) _ _ _ (by simp; omega) ((World.ownsRow.alloc (w := W.drew) hown _).alloc _) ((Boxed.new W.drew _ _).alloc _) (Blk.new' (vs := [_]) (by simp))).mono ?_
      rintro e w3 ⟨v', rfl, hown3, hb3, hsp3⟩
      refine hK _ _ ?_
      clear hK K
      have hsp := hsp2.t hsp3
      have hbb := hb2.trans hb3
      clear hsp2 hsp3 hb2 hb3
      have kv3 := hsp.boxed kv (by decide)
      have kA3 := hsp.blk kA (by decide)
      have kS3 := hsp.boxed kS (by decide)
      have ko3 := kv3.cell
      have kf3 := kv3.frozen
      obtain ⟨a, c, rfl⟩ := ownsRow_slice hown3
      have HW := Lib.hid (wOcts_snoc pre ⟨(i, x), hix⟩)
      refine wpAny_ready (rs := [4]) (by kernel_rfl) (by simp) ?_
      refine AllReady.cons rfl (fun K hK => ?_) AllReady.nil
      go_simp
      refine hK _ _ ?_
      clear hK K
      refine wpAny_done (by kernel_rfl) ?_ _
      have hge : w.heap.size < w1.heap.size := by omega
      have hgS := grownBy_setCell' w3 w1.heap.size (.slice a (8 * pre.length + 8) c)
      have qv := kv3.set (.slice a (8 * pre.length + 8) c)
      have qA := Blk.other kA3 (B' := w1.heap.size) 0 (.slice a (8 * pre.length + 8) c) (by omega)
      have qS := kS3.kept hgS (by simp)
      have qo := hown3.kept hgS (.inr (Boxed.not_row kv3 (by decide) hown3).symm)
      refine ⟨hsp.others.trans (KeepsOthers.setCell _ _ _), ⟨qA.trans kA.symm, qS.trans kS.symm⟩, ⟨⟨_, qv, ?_, trivial⟩, qA, qS⟩, hB.trans (hbb.setCell (p := ⟨w1.heap.size, 0, none⟩) (by simp; omega) _)⟩
      rw [HW.out, List.map_append, List.length_append, Nat.mul_add]
      exact qo
  · rintro D ys W hD rfl ⟨⟨⟨v, kv, hown, _⟩, kA, kS⟩, hB⟩ hK
    have ko := kv.cell
    have HZ := Lib.hid hz
    clear hz
    gi_wp2
    have hB' := hB.trans (belowK_b (w := w) (Nat.le_refl _) _ D _ (.deferred none) (by have := HZ.out; omega) hK rfl rfl)
    have hown3 := ownsRow_putObj hown (.deferred none) hK rfl
    rw [← wOcts_length, wOcts_downs] at hown3
    refine ⟨by simp, .inl ⟨_, _, rfl, run_takeDeferred hK, ?_⟩⟩
    refine ⟨v, ?_, ?_⟩
    · simp [results, Tryz.f126, go_sem]
    · exact ⟨v, rfl, BSl.of_own hown3, hB'⟩
  · rintro D c pre W _ _ h _
    exact h.elim
theorem blobWide_any {a0 a1 a2 a3 : Nat} (ha : Ok4 a0 a1 a2 a3) (w : World) : Calls Tryz.prog 126 #[wv a0 a1 a2 a3] w (ByW (wide8 a0 a1 a2 a3) w) := callsIn_wide.1 (blobWide_in 4 (by omega) ha w)
end Go.Proofs.YtfoemkmoambagaaGreat
namespace Go.Proofs.YtfoemkmoambagaaGreat
open Go.RowKit Go.Shelf
abbrev St := List UInt8 × Int
def errS (s : St) (x : Int) : St := if s.2 = 0 then ([], x) else s
def addS (s : St) (l : List UInt8) : St := if s.2 = 0 then (if s.1.length + l.length ≤ 8192 then (s.1 ++ l, 0) else ([], 5)) else s
def numS (s : St) (n : Int) : St := if 0 ≤ n ∧ n ≤ 1099511627776 then addS s (octs (two n) 6) else errS s 4
def txtS (s : St) (t : ByteArray) : St := if t.size ≤ 1024 then addS s (octs t.size 2 ++ t.data.toList) else errS s 5
def wideS (s : St) (a0 a1 a2 a3 : Nat) : St := addS s (wide8 a0 a1 a2 a3)
def takeS (s : St) (n : Nat) : List UInt8 × St := if s.2 = 0 then (if n ≤ s.1.length then (s.1.take n, (s.1.drop n, 0)) else ([], ([], 16))) else ([], s)
def mostS (s : St) (size : Nat) (most : Int) : Nat × St :=
  if (takeS s size).2.2 = 0 ∧ most < (be ((takeS s size).1.take 7) : Int) then (0, ([], 4)) else (be ((takeS s size).1.take 7), (takeS s size).2)
def gtxtS (s : St) (most : Int) : List UInt8 × St := takeS (mostS s 2 most).2 (mostS s 2 most).1
def OkS (s : St) : Prop := (s.2 ≠ 0 → s.1 = []) ∧ s.1.length ≤ 8192
theorem okS_err {s : St} (h : OkS s) (x : Int) : OkS (errS s x) := by
  unfold errS; split
  · exact ⟨fun _ => rfl, by simp⟩
  · exact h
theorem okS_add {s : St} (h : OkS s) (l : List UInt8) : OkS (addS s l) := by
  unfold addS; split
  · split
    · exact ⟨fun k => absurd rfl k, by simpa using ‹_›⟩
    · exact ⟨fun _ => rfl, by simp⟩
  · exact h
theorem okS_num {s : St} (h : OkS s) (n : Int) : OkS (numS s n) := by
  unfold numS; split
  · exact okS_add h _
  · exact okS_err h _
theorem okS_txt {s : St} (h : OkS s) (t : ByteArray) : OkS (txtS s t) := by
  unfold txtS; split
  · exact okS_add h _
  · exact okS_err h _
theorem okS_wide {s : St} (h : OkS s) (a0 a1 a2 a3 : Nat) : OkS (wideS s a0 a1 a2 a3) := okS_add h _
theorem addS_bad {s : St} (h : s.2 ≠ 0) (l : List UInt8) : addS s l = s := if_neg h
theorem errS_bad {s : St} (h : s.2 ≠ 0) (x : Int) : errS s x = s := if_neg h
theorem BSl.shape {lo hi : Nat} {W : World} {sv : Value} {l : List UInt8} (h : BSl lo hi W sv l) : ∃ a c, sv = .slice a l.length c ∧ l.length ≤ c := by
  obtain ⟨a, c, e, hc, _⟩ := h
  exact ⟨a, c, e, hc⟩
theorem BSl.shape3 {lo hi : Nat} {W : World} {sv : Value} {l : List UInt8} (h : BSl lo hi W sv l) : ∃ a m c, sv = .slice a m c := by
  obtain ⟨a, c, e, _⟩ := h
  exact ⟨a, _, c, e⟩
def NoOct (W : World) (r : Nat) : Prop := ∀ i x, W.cell? ⟨r, i, none⟩ ≠ some (bv x)
theorem BSl.to {lo hi : Nat} {W W' : World} {row : Option Nat} {sv : Value} {l : List UInt8} (h : BSl lo hi W sv l) (hhi : hi ≤ W.heap.size) (hg : W.grownBy W' row) (hne : ∀ r, row = some r → NoOct W r) : BSl lo hi W' sv l := by
  obtain ⟨a, cap, e, hc, h0 | ⟨b, off, ha, hl, hh, ho⟩⟩ := h
  · exact ⟨a, cap, e, hc, .inl h0⟩
  · refine ⟨a, cap, e, hc, ?_⟩
    by_cases hl0 : l = []
    · exact .inl hl0
    · refine .inr ⟨b, off, ha, hl, hh, ho.kept (by omega) hg (fun e' => ?_)⟩
      obtain ⟨x, l', rfl⟩ : ∃ x l', l = x :: l' := List.exists_cons_of_ne_nil hl0
      exact hne b e'.symm (off + 0) x (ho 0 x rfl)
theorem noOct_blk {W : World} {B : Nat} {t : TypeId} {vs : List Value} (h : Blk W B t vs) (hv : ∀ v ∈ vs, ∀ x, v ≠ bv x) : NoOct W B := fun i x e => by
  rw [h.cell i] at e
  exact hv _ (List.mem_of_getElem? e) x rfl
def ObjP (T : TypeId) (W : World) (p : Option Addr) (s : St) : Prop :=
  (p = none ∧ s = ([], 9)) ∨ ∃ B m a n c x, p = some ⟨B, 0, none⟩ ∧ Blk W B T [.bool m, .slice a n c, .int .i64 x] ∧
    ((m = false ∧ s = ([], 9)) ∨ (m = true ∧ s.2 = x ∧ OkS s ∧ BSl 0 W.heap.size W (.slice a n c) s.1))
theorem ObjP.ok {T : TypeId} {W : World} {p : Option Addr} {s : St} (h : ObjP T W p s) : OkS s := by
  rcases h with ⟨_, rfl⟩ | ⟨B, m, a, n, c, x, _, _, ⟨_, rfl⟩ | ⟨_, _, h, _⟩⟩
  · exact ⟨fun _ => rfl, by simp⟩
  · exact ⟨fun _ => rfl, by simp⟩
  · exact h
theorem noOct3 {W : World} {B : Nat} {T : TypeId} {m : Bool} {a : Option Addr} {n c : Nat} {x : Int} (h : Blk W B T [.bool m, .slice a n c, .int .i64 x]) : NoOct W B := noOct_blk h (by
  intro v hv y
  simp only [List.mem_cons, List.not_mem_nil, or_false] at hv
  rcases hv with rfl | rfl | rfl <;> simp [bv])
theorem grew {W W' : World} (h : Below W.heap.size W W') (row : Option Nat) : W.grownBy W' row := ⟨h.os, h.tape, h.output, h.size, fun k hk _ => h.block k hk⟩
theorem Blk.c3 {W : World} {B : Nat} {t : TypeId} {v0 v1 v2 : Value} (h : Blk W B t [v0, v1, v2]) :
    W.cell? ⟨B, 0, none⟩ = some v0 ∧ W.cell? ⟨B, 1, none⟩ = some v1 ∧ W.cell? ⟨B, 2, none⟩ = some v2 := ⟨h.cell 0, h.cell 1, h.cell 2⟩
theorem ObjP.to {T : TypeId} {W W' : World} {p : Option Addr} {s : St} {row : Option Nat} (h : ObjP T W p s) (hg : W.grownBy W' row) (hne : ∀ r, row = some r → NoOct W r ∧ p.map (·.block) ≠ some r) : ObjP T W' p s := by
  rcases h with h | ⟨B, m, a, n, c, x, rfl, hb, hs⟩
  · exact .inl h
  · refine .inr ⟨B, m, a, n, c, x, rfl, hb.kept hg (fun e => (hne B e.symm).2 rfl), ?_⟩
    rcases hs with h | ⟨hm, hx, hok, hsl⟩
    · exact .inl h
    · exact .inr ⟨hm, hx, hok, (hsl.to (Nat.le_refl _) hg (fun r e => (hne r e).1)).mono (Nat.le_refl _) hg.size⟩
theorem ObjP.below {T : TypeId} {W W' : World} {p : Option Addr} {s : St} (h : ObjP T W p s) (hb : Below W.heap.size W W') : ObjP T W' p s := h.to (grew hb none) (fun _ e => by cases e)
def DidS (T : TypeId) (p : Option Addr) (s : St) (w : World) (e : Ending) (W' : World) : Prop :=
  e = .returned (.tuple #[]) ∧ ObjP T W' p s ∧ w.grownBy W' (p.map (·.block))
theorem ptr_lt {T : TypeId} {W : World} {p : Option Addr} {s : St} (h : ObjP T W p s) {n : Nat} (hn : W.heap.size ≤ n) : some n ≠ p.map (·.block) := by
  rcases h with ⟨rfl, _⟩ | ⟨B, m, a, n', c, x, rfl, hb, _⟩
  · simp
  · intro e
    have := hb.lt
    have : n = B := by simpa using e
    omega
end Go.Proofs.YtfoemkmoambagaaGreat
namespace Go.Proofs.YtfoemkmoambagaaGreat
open Go.RowKit Go.Shelf
structure Trf where
  us : Int
  rt : ByteArray
  ro : Int
  se : Int
  re : Int
  to : Int
  id : ByteArray
abbrev ivv (i : Trf) : Value := .agg #[.int .i64 i.us, .string i.rt, .int .i64 i.ro, .int .i64 i.se, .int .i64 i.re, .int .i64 i.to, .string i.id]
abbrev ivc (i : Trf) : List Value := [.int .i64 i.us, .string i.rt, .int .i64 i.ro, .int .i64 i.se, .int .i64 i.re, .int .i64 i.to, .string i.id]
def emptyB : ByteArray := ⟨#[]⟩
def noI : Trf := ⟨0, ⟨#[]⟩, 0, 0, 0, 0, ⟨#[]⟩⟩
def maybeI (i : Trf) : Prop := (0 ≤ i.us ∧ i.us ≤ 1) ∧ i.rt.size = 8 ∧ (2 ≤ i.ro ∧ i.ro ≤ 3) ∧ (0 ≤ i.se ∧ i.se ≤ 1) ∧ (0 ≤ i.re ∧ i.re ≤ 1) ∧ (0 ≤ i.to ∧ i.to ≤ 7) ∧ 1 ≤ i.id.size ∧ i.id.size ≤ 16
instance (i : Trf) : Decidable (maybeI i) := by unfold maybeI; infer_instance
def errI (i : Trf) : Int := if maybeI i then 0 else 39
theorem errI_zero {i : Trf} (h : maybeI i) : errI i = 0 := if_pos h
theorem errI_bad {i : Trf} (h : ¬ maybeI i) : errI i = 39 := if_neg h
structure Sid where
  a0 : Nat
  a1 : Nat
  a2 : Nat
  a3 : Nat
  x : Int
abbrev svv (v : Sid) : Value := .agg #[.int .u64 (v.a0 : Nat), .int .u64 (v.a1 : Nat), .int .u64 (v.a2 : Nat), .int .u64 (v.a3 : Nat), .int .i64 v.x]
abbrev svc (v : Sid) : List Value := [.int .u64 (v.a0 : Nat), .int .u64 (v.a1 : Nat), .int .u64 (v.a2 : Nat), .int .u64 (v.a3 : Nat), .int .i64 v.x]
def noV : Sid := ⟨0, 0, 0, 0, 0⟩
def maybeV (v : Sid) : Prop := ¬ (v.a0 = 0 ∧ v.a1 = 0 ∧ v.a2 = 0 ∧ v.a3 = 0) ∧ 0 ≤ v.x ∧ v.x ≤ 1099511627776
instance (v : Sid) : Decidable (maybeV v) := by unfold maybeV; infer_instance
def errV (v : Sid) : Int := if maybeV v then 0 else 36
theorem errV_zero {v : Sid} (h : maybeV v) : errV v = 0 := if_pos h
theorem errV_bad {v : Sid} (h : ¬ maybeV v) : errV v = 36 := if_neg h
def invB : ByteArray := ⟨#[105, 110, 118]⟩
def actB : ByteArray := ⟨#[97, 99, 116]⟩
def putI1 (s : St) (i : Trf) : St := txtS (numS (txtS s invB) i.us) i.rt
def putI2 (s : St) (i : Trf) : St := numS (numS (numS (numS s i.ro) i.se) i.re) i.to
def putI (s : St) (i : Trf) : St := txtS (putI2 (putI1 s i) i) i.id
def putV (s : St) (v : Sid) : St := numS (wideS s v.a0 v.a1 v.a2 v.a3) v.x
def paySt (act : Int) (key : ByteArray) (a0 a1 a2 a3 : Nat) : St := wideS (txtS (numS (txtS ([], 0) actB) act) key) a0 a1 a2 a3
theorem okS_new : OkS ([], 0) := ⟨fun _ => rfl, by simp⟩
theorem okS_putI1 {s : St} (h : OkS s) (i : Trf) : OkS (putI1 s i) := okS_txt (okS_num (okS_txt h _) _) _
theorem okS_putI2 {s : St} (h : OkS s) (i : Trf) : OkS (putI2 s i) := okS_num (okS_num (okS_num (okS_num h _) _) _) _
theorem okS_putI {s : St} (h : OkS s) (i : Trf) : OkS (putI s i) := okS_txt (okS_putI2 (okS_putI1 h i) i) _
theorem okS_putV {s : St} (h : OkS s) (v : Sid) : OkS (putV s v) := okS_num (okS_wide h _ _ _ _) _
abbrev big : Int := 1099511627776
def str (l : List UInt8) : ByteArray := ⟨l.toArray⟩
def rd0 (s : St) : List UInt8 × St := gtxtS s 16
def rd1 (s : St) : Nat × St := mostS (rd0 s).2 6 big
def rd2 (s : St) : List UInt8 × St := gtxtS (rd1 s).2 8
def rd3 (s : St) : Nat × St := mostS (rd2 s).2 6 big
def rd4 (s : St) : Nat × St := mostS (rd3 s).2 6 big
def rd5 (s : St) : Nat × St := mostS (rd4 s).2 6 big
def rd6 (s : St) : Nat × St := mostS (rd5 s).2 6 big
def rd7 (s : St) : List UInt8 × St := gtxtS (rd6 s).2 16
def rawI (s : St) : Trf := ⟨(rd1 s).1, str (rd2 s).1, (rd3 s).1, (rd4 s).1, (rd5 s).1, (rd6 s).1, str (rd7 s).1⟩
def goodI (s : St) : Prop := str (rd0 s).1 = invB ∧ maybeI (rawI s)
instance (s : St) : Decidable (goodI s) := by unfold goodI; infer_instance
end Go.Proofs.YtfoemkmoambagaaGreat
namespace Go.Proofs.YtfoemkmoambagaaGreat
open Go.RowKit Go.Shelf
structure Tr where
  fr : Int
  no : Int
  kd : Int
  az : Int
  a0 : Nat
  a1 : Nat
  a2 : Nat
  a3 : Nat
  iv : Trf
  vr : Sid
  f0 : Nat
  f1 : Nat
  f2 : Nat
  f3 : Nat
  sg : ByteArray
abbrev txc (t : Tr) : List Value := [.int .i64 t.fr, .int .i64 t.no, .int .i64 t.kd, .int .i64 t.az, .int .u64 (t.a0 : Nat), .int .u64 (t.a1 : Nat), .int .u64 (t.a2 : Nat), .int .u64 (t.a3 : Nat), .int .i64 t.iv.us, .string t.iv.rt, .int .i64 t.iv.ro, .int .i64 t.iv.se, .int .i64 t.iv.re, .int .i64 t.iv.to, .string t.iv.id, .int .u64 (t.vr.a0 : Nat), .int .u64 (t.vr.a1 : Nat), .int .u64 (t.vr.a2 : Nat), .int .u64 (t.vr.a3 : Nat), .int .i64 t.vr.x, .int .u64 (t.f0 : Nat), .int .u64 (t.f1 : Nat), .int .u64 (t.f2 : Nat), .int .u64 (t.f3 : Nat), .string t.sg]
abbrev txv (t : Tr) : Value := .agg #[.int .i64 t.fr, .int .i64 t.no, .int .i64 t.kd, .int .i64 t.az, .int .u64 (t.a0 : Nat), .int .u64 (t.a1 : Nat), .int .u64 (t.a2 : Nat), .int .u64 (t.a3 : Nat), .int .i64 t.iv.us, .string t.iv.rt, .int .i64 t.iv.ro, .int .i64 t.iv.se, .int .i64 t.iv.re, .int .i64 t.iv.to, .string t.iv.id, .int .u64 (t.vr.a0 : Nat), .int .u64 (t.vr.a1 : Nat), .int .u64 (t.vr.a2 : Nat), .int .u64 (t.vr.a3 : Nat), .int .i64 t.vr.x, .int .u64 (t.f0 : Nat), .int .u64 (t.f1 : Nat), .int .u64 (t.f2 : Nat), .int .u64 (t.f3 : Nat), .string t.sg]
def noT : Tr := ⟨0, 0, 0, 0, 0, 0, 0, 0, noI, noV, 0, 0, 0, 0, emptyB⟩
structure OkT (t : Tr) : Prop where
  a : Ok4 t.a0 t.a1 t.a2 t.a3
  v : Ok4 t.vr.a0 t.vr.a1 t.vr.a2 t.vr.a3
  f : Ok4 t.f0 t.f1 t.f2 t.f3
def zeroA (t : Tr) : Prop := t.a0 = 0 ∧ t.a1 = 0 ∧ t.a2 = 0 ∧ t.a3 = 0
instance (t : Tr) : Decidable (zeroA t) := by unfold zeroA; infer_instance
def errM (t : Tr) : Int :=
  if zeroA t then 36 else if t.kd = 1 then (if 0 ≤ t.iv.to ∧ t.iv.to ≤ 7 then 0 else 39) else if t.kd = 2 then (if 2 ≤ t.iv.ro ∧ t.iv.ro ≤ 3 then 0 else 39) else 0
def errF (t : Tr) : Int := if maybeI t.iv then (if maybeV t.vr then (if t.sg.size ≤ 1024 then 0 else 5) else 36) else 39
def errT (t : Tr) : Int :=
  if 1 ≤ t.kd ∧ t.kd ≤ 6 then (if (0 ≤ t.fr ∧ t.fr ≤ 7) ∧ (0 ≤ t.no ∧ t.no ≤ 1099511627776) ∧ (0 ≤ t.az ∧ t.az ≤ 1) then (if t.kd ≤ 3 then errM t else errF t) else 4) else 12
end Go.Proofs.YtfoemkmoambagaaGreat
namespace Go.Proofs.YtfoemkmoambagaaGreat
open Go.RowKit Go.Shelf
theorem wpList_indexTo {P : Program} {ops : Array Oper} {rest : List Oper} {o : Oper} {a : Act} {w : World} {Q : Exit → Act → World → Prop} (hg : o.guard = none) (t : TypeId) (x y : Operand) (ho : o.op = .index t x y)
    (d : Option Tmp) (hd : o.dst = d) (v : Value) (hf : (Instr.index t (a.eval x) (a.eval y)).run P w = .ok v w)
    (h : wpList P ops Q rest (a.put d v) w) : wpList P ops Q (o :: rest) a w := by
  subst hd
  refine wpList_plain hg fun K hK => ?_
  unfold Oper.wp execOp
  simp only [ho, Sem.run_bind, hf, Result.andThen_ok]
  exact hK _ _ h
end Go.Proofs.YtfoemkmoambagaaGreat
namespace Go.Proofs.YtfoemkmoambagaaGreat
open Go.RowKit Go.Shelf
theorem wpList_loadIf {P : Program} {ops : Array Oper} {rest : List Oper} {o : Oper} {a : Act} {w : World} {Q : Exit → Act → World → Prop} (ty : TypeId) (x : Operand) (ho : o.op = .load ty x) (d : Option Tmp) (hd : o.dst = d)
    (hw : Region.wanted o (yielded ops a.tmps) = true) (v : Value) (hrun : (Instr.loadAt ty (a.eval x)).run P w = .ok v w) (h : wpList P ops Q rest (a.put d v) w) : wpList P ops Q (o :: rest) a w := by
  subst hd
  refine wpList_step fun K hK => ?_
  rw [if_pos hw]
  unfold Oper.wp execOp
  simp only [ho, Sem.run_bind, hrun, Result.andThen_ok]
  exact hK _ _ h
end Go.Proofs.YtfoemkmoambagaaGreat
namespace Go.Proofs.YtfoemkmoambagaaGreat
open Go.RowKit Go.Shelf
theorem Blk.row {w : World} {g : Nat} {t : TypeId} {old : List Value} (hg : Blk w g t old) (vs : List Value) : Blk (w.setRow g vs.toArray) g t vs := setRow_heap w g _ _ t _ hg
theorem Blk.rowO {w : World} {B g : Nat} {t : TypeId} {vs : List Value} (h : Blk w B t vs) (cs : Array Value) (hne : B ≠ g) : Blk (w.setRow g cs) B t vs := (setRow_other w g B cs hne).trans h
theorem exec_load {P : Program} {ρ : Operand → Value} {o : Oper} (ty : TypeId) (x : Operand) (ho : o.op = .load ty x) (v : Value) (w : World) (hrun : (Instr.loadAt ty (ρ x)).run P w = .ok v w) : (execOp ρ o).run P w = .ok (.value v) w := by
  unfold execOp
  simp only [ho, Sem.run_bind, hrun, Result.andThen_ok]
  rfl
end Go.Proofs.YtfoemkmoambagaaGreat
namespace Go.Proofs.YtfoemkmoambagaaGreat
open Go.RowKit Go.Shelf
theorem addr_add (B o j : Nat) : (⟨B, o, none⟩ : Addr).add j = ⟨B, o + j, none⟩ := by unfold Addr.add; split <;> simp_all
theorem load_part {W : World} {B : Nat} {T : TypeId} {vs : List Value} (h : Blk W B T vs) (o : Nat) (ns : List Value) (hn : (vs.drop o).take ns.length = ns) (ty : TypeId) (d : TypeDesc) (hu : Tryz.prog.underlying ty = some d)
    (hd : (match d with | .struct _ | .array _ _ => true | _ => false) = true) (hi : (Tryz.prog.info? ty).map (·.size) = some ns.length) :
    (Instr.loadAt ty (.pointer (some ⟨B, o, none⟩))).run Tryz.prog W = .ok (.agg ns.toArray) W := by
  have hl : (loadCells ⟨B, o, none⟩ ns.length).run Tryz.prog W = .ok ns.toArray W :=
    run_loadCells_list (P := Tryz.prog) W ⟨B, o, none⟩ ns (fun j v hv => by
      rw [addr_add, h.cell]
      rw [← hn, List.getElem?_take] at hv
      split at hv
      · simpa using hv
      · cases hv)
  cases hq : Tryz.prog.info? ty with
  | none => simp [hq] at hi
  | some i =>
    have hs : i.size = ns.length := by simpa [hq] using hi
    have hagg : (isAgg ty).run Tryz.prog W = .ok true W := by
      unfold isAgg
      rw [Sem.run_bind, run_underlying hu W]
      cases d <;> simp_all
    simp [Instr.loadAt, Instr.sureAddr, loadVar, Sem.run_bind, hagg, sizeOf, typeInfo, hq, hs, hl]
def laid (vs : List Value) (o : Nat) (ns : List Value) : List Value := vs.take o ++ ns ++ vs.drop (o + ns.length)
theorem run_store_part {W : World} {B : Nat} {T : TypeId} {vs : List Value} (h : Blk W B T vs) (o : Nat) (v : Value) (ty : TypeId) (hi : (Tryz.prog.info? ty).map (·.size) = some v.cells.size) (hle : o + v.cells.size ≤ vs.length) (h1 : v.cells.all (·.oneCell') = true) :
    (Instr.storeAt ty (.pointer (some ⟨B, o, none⟩)) v).run Tryz.prog W = .ok () (W.setRow B (laid vs o v.cells.toList).toArray) := by
  have hs := run_storeCells_at (P := Tryz.prog) B o T v.cells.toList 0 vs.toArray W h (by simpa using hle) (fun x hx => (Array.all_eq_true_iff_forall_mem.1 h1) x (by simpa using hx))
  cases hq : Tryz.prog.info? ty with
  | none => simp [hq] at hi
  | some i =>
    have hz : v.cells.size = i.size := by simp [hq] at hi; omega
    have hs2 : (storeCells ⟨B, o, none⟩ v.cells.toList).run Tryz.prog W = .ok () (W.setRow B (laid vs o v.cells.toList).toArray) := by simpa only [laid, Nat.add_zero] using hs
    simp only [Instr.storeAt, Instr.sureAddr, Sem.run_bind, Sem.run_pure, Result.andThen_ok]
    generalize hc : v.cells = c at *
    simp [storeVar, sizeOf, typeInfo, hq, hz, hc, hs2]
theorem wp_store_part {o : Oper} {a : Act} {w : World} {K : Act → World → Prop} {Q : Exit → Act → World → Prop} {T : TypeId} (ty : TypeId) (x y : Operand) {vs : List Value} (ws : List Value) {B : Nat} (hB : Blk w B T vs) (k : Nat) (v : Value) (ns : List Value) (ho : o.op = .store ty x y) (hd : o.dst = none)
    (hx : a.eval x = .pointer (some ⟨B, k, none⟩)) (hy : a.eval y = v) (hv : v.cells.toList = ns) (hi : (Tryz.prog.info? ty).map (·.size) = some ns.length) (hle : k + ns.length ≤ vs.length) (h1 : ns.all (·.oneCell') = true) (hws : laid vs k ns = ws)
    (h : K a (w.setRow B ws.toArray)) : o.wp Tryz.prog a w K Q := by
  subst hws
  subst hv
  unfold Oper.wp execOp
  simp only [ho, hx, hy, Sem.run_bind, run_store_part hB k v ty (by simpa using hi) (by simpa using hle) (by rw [← Array.all_toList]; exact h1), Result.andThen_ok]
  have h2 : K (a.put o.dst undef) (w.setRow B (laid vs k v.cells.toList).toArray) := by rw [hd]; exact h
  exact h2
theorem wpList_store_part {ops : Array Oper} {rest : List Oper} {o : Oper} {a : Act} {w : World} {Q : Exit → Act → World → Prop} {T : TypeId} (ty : TypeId) (x y : Operand) {vs : List Value} (ws : List Value) {B : Nat} (hB : Blk w B T vs) (k : Nat) (v : Value) (ns : List Value) (ho : o.op = .store ty x y) (hd : o.dst = none) (hgd : o.guard = none)
    (hx : a.eval x = .pointer (some ⟨B, k, none⟩)) (hy : a.eval y = v) (hv : v.cells.toList = ns) (hi : (Tryz.prog.info? ty).map (·.size) = some ns.length) (hle : k + ns.length ≤ vs.length) (h1 : ns.all (·.oneCell') = true) (hws : laid vs k ns = ws)
    (h : wpList Tryz.prog ops Q rest a (w.setRow B ws.toArray)) : wpList Tryz.prog ops Q (o :: rest) a w :=
  wpList_plain hgd fun _ hK => wp_store_part ty x y ws hB k v ns ho hd hx hy hv hi hle h1 hws (hK _ _ h)
theorem grownBy_row (W : World) (B : Nat) (cs : Array Value) : W.grownBy (W.setRow B cs) (some B) := ⟨rfl, rfl, rfl, by simp, fun k _ hr => setRow_other W B k cs (fun e => hr (by rw [e]))⟩
end Go.Proofs.YtfoemkmoambagaaGreat
namespace Go.Proofs.YtfoemkmoambagaaGreat
open Go.RowKit Go.Shelf
theorem load_tx {W : World} {B : Nat} {t : Tr} (h : Blk W B 44 (txc t)) : (Instr.loadAt 44 (.pointer (some ⟨B, 0, none⟩))).run Tryz.prog W = .ok (txv t) W :=
  load_part h 0 (txc t) rfl _ _ Tryz.underlying44 rfl (by kernel_rfl)
theorem load_am {W : World} {B : Nat} {t : Tr} (h : Blk W B 44 (txc t)) : (Instr.loadAt 28 (.pointer (some ⟨B, 4, none⟩))).run Tryz.prog W = .ok (wv t.a0 t.a1 t.a2 t.a3) W :=
  load_part h 4 [.int .u64 (t.a0 : Nat), .int .u64 (t.a1 : Nat), .int .u64 (t.a2 : Nat), .int .u64 (t.a3 : Nat)] rfl _ _ Tryz.underlying28 rfl (by kernel_rfl)
theorem load_iv {W : World} {B : Nat} {t : Tr} (h : Blk W B 44 (txc t)) : (Instr.loadAt 40 (.pointer (some ⟨B, 8, none⟩))).run Tryz.prog W = .ok (ivv t.iv) W :=
  load_part h 8 (ivc t.iv) rfl _ _ Tryz.underlying40 rfl (by kernel_rfl)
theorem load_vr {W : World} {B : Nat} {t : Tr} (h : Blk W B 44 (txc t)) : (Instr.loadAt 42 (.pointer (some ⟨B, 15, none⟩))).run Tryz.prog W = .ok (svv t.vr) W :=
  load_part h 15 (svc t.vr) rfl _ _ Tryz.underlying42 rfl (by kernel_rfl)
end Go.Proofs.YtfoemkmoambagaaGreat
namespace Go.Proofs.YtfoemkmoambagaaGreat
open Go.RowKit Go.Shelf
def wEq (a0 a1 a2 a3 b0 b1 b2 b3 : Int) : Bool := decide (a0 = b0 ∧ a1 = b1 ∧ a2 = b2 ∧ a3 = b3)
theorem wEq_refl (a0 a1 a2 a3 : Int) : wEq a0 a1 a2 a3 a0 a1 a2 a3 = true := by simp [wEq]
theorem wEq_not {a0 a1 a2 a3 b0 b1 b2 b3 : Int} (h : ¬ (a0 = b0 ∧ a1 = b1 ∧ a2 = b2 ∧ a3 = b3)) : wEq a0 a1 a2 a3 b0 b1 b2 b3 = false := decide_eq_false h
theorem run_equalIn_wide' (d : Nat) (a0 a1 a2 a3 b0 b1 b2 b3 : Int) (w : World) :
    (Op.equalIn (d + 2) 28 (.agg #[.int .u64 a0, .int .u64 a1, .int .u64 a2, .int .u64 a3]) (.agg #[.int .u64 b0, .int .u64 b1, .int .u64 b2, .int .u64 b3])).run Tryz.prog w = .ok (wEq a0 a1 a2 a3 b0 b1 b2 b3) w := by
  have e : ∀ a b : Int, (Op.equalIn (d + 1) 26 (.int .u64 a) (.int .u64 b)).run Tryz.prog w = .ok (a == b) w := fun a b => run_equalIn_int w d 26 .u64 .u64 a b Tryz.underlying26
  rw [show d + 2 = (d + 1) + 1 from rfl]
  unfold Op.equalIn
  by_cases h0 : a0 = b0
  · subst h0
    by_cases h1 : a1 = b1
    · subst h1
      by_cases h2 : a2 = b2
      · subst h2
        by_cases h3 : a3 = b3
        · subst h3
          simp [run_underlying Tryz.underlying28, List.range', part, e, Result.andThen, wEq]
        · simp [run_underlying Tryz.underlying28, List.range', part, e, Result.andThen, wEq, h3]
      · simp [run_underlying Tryz.underlying28, List.range', part, e, Result.andThen, wEq, h2]
    · simp [run_underlying Tryz.underlying28, List.range', part, e, Result.andThen, wEq, h1]
  · simp [run_underlying Tryz.underlying28, List.range', part, e, Result.andThen, wEq, h0]
theorem run_equalIn_wide (a0 a1 a2 a3 b0 b1 b2 b3 : Int) (w : World) :
    (Op.equalIn 10000 28 (.agg #[.int .u64 a0, .int .u64 a1, .int .u64 a2, .int .u64 a3]) (.agg #[.int .u64 b0, .int .u64 b1, .int .u64 b2, .int .u64 b3])).run Tryz.prog w = .ok (wEq a0 a1 a2 a3 b0 b1 b2 b3) w :=
  run_equalIn_wide' 9998 a0 a1 a2 a3 b0 b1 b2 b3 w
end Go.Proofs.YtfoemkmoambagaaGreat
namespace Go.Proofs.YtfoemkmoambagaaGreat
open Go.RowKit Go.Shelf
theorem eqF_cons {P : Program} {d : Nat} {xs ys : Array Value} {f : Field} {fs : List Field} {a b : Value} {r s : Bool} {w : World} (hn : f.name ≠ "_") (ha : (part f.type xs f.offset).run P w = .ok a w) (hb : (part f.type ys f.offset).run P w = .ok b w)
    (hr : (Op.equalIn d f.type a b).run P w = .ok r w) (h : (Op.eqFields d xs ys fs).run P w = .ok s w) : (Op.eqFields d xs ys (f :: fs)).run P w = .ok (r && s) w := by
  simp only [Op.eqFields, if_pos hn, Sem.run_bind, ha, hb, hr, Result.andThen_ok]
  cases r
  · simp
  · simpa using h
theorem eqF_nil {P : Program} {d : Nat} {xs ys : Array Value} {w : World} : (Op.eqFields d xs ys []).run P w = .ok true w := rfl
def eqI (a b : Trf) : Bool := (a.us == b.us) && ((a.rt.toList == b.rt.toList) && ((a.ro == b.ro) && ((a.se == b.se) && ((a.re == b.re) && ((a.to == b.to) && ((a.id.toList == b.id.toList) && true))))))
def eqV (a b : Sid) : Bool := wEq (a.a0 : Nat) (a.a1 : Nat) (a.a2 : Nat) (a.a3 : Nat) (b.a0 : Nat) (b.a1 : Nat) (b.a2 : Nat) (b.a3 : Nat) && ((a.x == b.x) && true)
theorem eqI_refl (a : Trf) : eqI a a = true := by simp [eqI]
theorem eqV_refl (a : Sid) : eqV a a = true := by simp [eqV, wEq_refl]
theorem part_int (cs : Array Value) (o : Nat) (v : Value) (h : cs[o]? = some v) (w : World) : (part 3 cs o).run Tryz.prog w = .ok v w := by
  simp [part, isAgg, run_underlying Tryz.underlying3, h, go_sem]
theorem part_str (cs : Array Value) (o : Nat) (v : Value) (h : cs[o]? = some v) (w : World) : (part 9 cs o).run Tryz.prog w = .ok v w := by
  simp [part, isAgg, run_underlying Tryz.underlying9, h, go_sem]
theorem run_eqI (d : Nat) (a b : Trf) (w : World) : (Op.equalIn (d + 2) 40 (ivv a) (ivv b)).run Tryz.prog w = .ok (eqI a b) w := by
  rw [run_equalIn_struct w (d + 1) 40 _ _ (by kernel_rfl) (by kernel_rfl)]
  simp only [Program.fieldsOf, Tryz.underlying40]
  have hi : ∀ x y : Int, (Op.equalIn (d + 1) 3 (.int .i64 x) (.int .i64 y)).run Tryz.prog w = .ok (x == y) w := fun x y => run_equalIn_int w d 3 .i64 .i64 x y Tryz.underlying3
  have hs : ∀ x y : ByteArray, (Op.equalIn (d + 1) 9 (.string x) (.string y)).run Tryz.prog w = .ok (x.toList == y.toList) w := fun x y => run_equalIn_string w d 9 x y Tryz.underlying9
  refine eqF_cons (by decide) (part_int _ _ _ rfl w) (part_int _ _ _ rfl w) (hi _ _) ?_
  refine eqF_cons (by decide) (part_str _ _ _ rfl w) (part_str _ _ _ rfl w) (hs _ _) ?_
  refine eqF_cons (by decide) (part_int _ _ _ rfl w) (part_int _ _ _ rfl w) (hi _ _) ?_
  refine eqF_cons (by decide) (part_int _ _ _ rfl w) (part_int _ _ _ rfl w) (hi _ _) ?_
  refine eqF_cons (by decide) (part_int _ _ _ rfl w) (part_int _ _ _ rfl w) (hi _ _) ?_
  refine eqF_cons (by decide) (part_int _ _ _ rfl w) (part_int _ _ _ rfl w) (hi _ _) ?_
  refine eqF_cons (by decide) (part_str _ _ _ rfl w) (part_str _ _ _ rfl w) (hs _ _) ?_
  exact eqF_nil
theorem part_agg (ty : TypeId) (d : TypeDesc) (hu : Tryz.prog.underlying ty = some d) (hd : (match d with | .struct _ | .array _ _ => true | _ => false) = true) (n : Nat) (hi : (Tryz.prog.info? ty).map (·.size) = some n) (cs ns : Array Value) (o : Nat) (h : cs.extract o (o + n) = ns) (w : World) :
    (part ty cs o).run Tryz.prog w = .ok (.agg ns) w := by
  cases hq : Tryz.prog.info? ty with
  | none => simp [hq] at hi
  | some i =>
    have hs : i.size = n := by simpa [hq] using hi
    have hagg : (isAgg ty).run Tryz.prog w = .ok true w := by
      unfold isAgg
      rw [Sem.run_bind, run_underlying hu w]
      cases d <;> simp_all
    simp [part, Sem.run_bind, hagg, sizeOf, typeInfo, hq, hs, h]
theorem run_eqV (d : Nat) (a b : Sid) (w : World) : (Op.equalIn (d + 3) 42 (svv a) (svv b)).run Tryz.prog w = .ok (eqV a b) w := by
  rw [run_equalIn_struct w (d + 2) 42 _ _ (by kernel_rfl) (by kernel_rfl)]
  simp only [Program.fieldsOf, Tryz.underlying42]
  have hi : ∀ x y : Int, (Op.equalIn (d + 2) 3 (.int .i64 x) (.int .i64 y)).run Tryz.prog w = .ok (x == y) w := fun x y => run_equalIn_int w (d + 1) 3 .i64 .i64 x y Tryz.underlying3
  refine eqF_cons (by decide) (part_agg _ _ Tryz.underlying28 rfl 4 (by kernel_rfl) _ _ _ rfl w) (part_agg _ _ Tryz.underlying28 rfl 4 (by kernel_rfl) _ _ _ rfl w) (run_equalIn_wide' d _ _ _ _ _ _ _ _ w) ?_
  refine eqF_cons (by decide) (part_int _ _ _ rfl w) (part_int _ _ _ rfl w) (hi _ _) ?_
  exact eqF_nil
end Go.Proofs.YtfoemkmoambagaaGreat
namespace Go.Proofs.YtfoemkmoambagaaGreat
open Go.RowKit Go.Shelf
def eqT (a b : Tr) : Bool :=
  (a.fr == b.fr) && ((a.no == b.no) && ((a.kd == b.kd) && ((a.az == b.az) && (wEq (a.a0 : Nat) (a.a1 : Nat) (a.a2 : Nat) (a.a3 : Nat) (b.a0 : Nat) (b.a1 : Nat) (b.a2 : Nat) (b.a3 : Nat) && (eqI a.iv b.iv && (eqV a.vr b.vr && (wEq (a.f0 : Nat) (a.f1 : Nat) (a.f2 : Nat) (a.f3 : Nat) (b.f0 : Nat) (b.f1 : Nat) (b.f2 : Nat) (b.f3 : Nat) && ((a.sg.toList == b.sg.toList) && true))))))))
theorem eqT_refl (a : Tr) : eqT a a = true := by simp [eqT, wEq_refl, eqI_refl, eqV_refl]
theorem run_eqT' (d : Nat) (a b : Tr) (w : World) : (Op.equalIn (d + 4) 44 (txv a) (txv b)).run Tryz.prog w = .ok (eqT a b) w := by
  rw [run_equalIn_struct w (d + 3) 44 _ _ (by kernel_rfl) (by kernel_rfl)]
  simp only [Program.fieldsOf, Tryz.underlying44]
  have hi : ∀ x y : Int, (Op.equalIn (d + 3) 3 (.int .i64 x) (.int .i64 y)).run Tryz.prog w = .ok (x == y) w := fun x y => run_equalIn_int w (d + 2) 3 .i64 .i64 x y Tryz.underlying3
  have hs : ∀ x y : ByteArray, (Op.equalIn (d + 3) 9 (.string x) (.string y)).run Tryz.prog w = .ok (x.toList == y.toList) w := fun x y => run_equalIn_string w (d + 2) 9 x y Tryz.underlying9
  refine eqF_cons (by decide) (part_int _ _ _ rfl w) (part_int _ _ _ rfl w) (hi _ _) ?_
  refine eqF_cons (by decide) (part_int _ _ _ rfl w) (part_int _ _ _ rfl w) (hi _ _) ?_
  refine eqF_cons (by decide) (part_int _ _ _ rfl w) (part_int _ _ _ rfl w) (hi _ _) ?_
  refine eqF_cons (by decide) (part_int _ _ _ rfl w) (part_int _ _ _ rfl w) (hi _ _) ?_
  refine eqF_cons (by decide) (part_agg _ _ Tryz.underlying28 rfl 4 (by kernel_rfl) _ _ _ rfl w) (part_agg _ _ Tryz.underlying28 rfl 4 (by kernel_rfl) _ _ _ rfl w) (run_equalIn_wide' (d + 1) _ _ _ _ _ _ _ _ w) ?_
  refine eqF_cons (by decide) (part_agg _ _ Tryz.underlying40 rfl 7 (by kernel_rfl) _ _ _ rfl w) (part_agg _ _ Tryz.underlying40 rfl 7 (by kernel_rfl) _ _ _ rfl w) (run_eqI (d + 1) a.iv b.iv w) ?_
  refine eqF_cons (by decide) (part_agg _ _ Tryz.underlying42 rfl 5 (by kernel_rfl) _ _ _ rfl w) (part_agg _ _ Tryz.underlying42 rfl 5 (by kernel_rfl) _ _ _ rfl w) (run_eqV d a.vr b.vr w) ?_
  refine eqF_cons (by decide) (part_agg _ _ Tryz.underlying28 rfl 4 (by kernel_rfl) _ _ _ rfl w) (part_agg _ _ Tryz.underlying28 rfl 4 (by kernel_rfl) _ _ _ rfl w) (run_equalIn_wide' (d + 1) _ _ _ _ _ _ _ _ w) ?_
  refine eqF_cons (by decide) (part_str _ _ _ rfl w) (part_str _ _ _ rfl w) (hs _ _) ?_
  exact eqF_nil
theorem run_eqT (a b : Tr) (w : World) : (Op.equalIn 10000 44 (txv a) (txv b)).run Tryz.prog w = .ok (eqT a b) w := run_eqT' 9996 a b w
set_option maxRecDepth 100000 in
theorem txsSame_any (a b : Tr) (w : World) :
    Calls Tryz.prog 34 #[txv a, txv b] w fun e W' => e = .returned (.bool (eqT a b)) ∧ Below w.heap.size w W' := by
  have kA := (Blk.new w 44 (txc a)).alloc (.cells (txc b).toArray 44)
  have kB : Blk ((w.alloc (.cells (txc a).toArray 44)).alloc (.cells (txc b).toArray 44)) (w.heap.size + 1) 44 (txc b) := Blk.new' (by simp)
  have hB := chainA (chain0 w (.cells (txc a).toArray 44)) (.cells (txc b).toArray 44)
  have hq := fun W => run_eqT a b W
  go_enter Tryz.func34, Tryz.ntmps34
  go_wp2_with (first
    | (refine wpList_loadIf 44 (.tmp 2) rfl _ rfl rfl (txv a) (load_tx kA) ?_)
    | (refine wpList_loadIf 44 (.tmp 3) rfl _ rfl rfl (txv b) (load_tx kB) ?_))
  go_ret
  exact ⟨rfl, hB⟩
end Go.Proofs.YtfoemkmoambagaaGreat
namespace Go.Proofs.YtfoemkmoambagaaGreat
open Go.RowKit Go.Shelf
abbrev MB := Nat × TypeId × List Value
def Mem (w : World) (row : Option Nat) (l : List MB) (W : World) : Prop :=
  (∀ x ∈ l, Blk W x.1 x.2.1 x.2.2 ∧ (w.heap.size ≤ x.1 ∨ some x.1 = row)) ∧ l.Pairwise (fun x y => y.1 < x.1) ∧ w.grownBy W row
section
variable {w W W' : World} {row : Option Nat} {l : List MB}
theorem grownBy_refl (w : World) (row : Option Nat) : w.grownBy w row := ⟨rfl, rfl, rfl, Nat.le_refl _, fun _ _ _ => rfl⟩
theorem Mem.start (w : World) : Mem w none [] w := ⟨fun _ hx => (List.not_mem_nil hx).elim, List.Pairwise.nil, grownBy_refl w none⟩
theorem Mem.startB {B : Nat} {T : TypeId} {cs : List Value} (h : Blk w B T cs) : Mem w (some B) [(B, T, cs)] w :=
  ⟨fun x hx => by obtain rfl := List.mem_singleton.1 hx; exact ⟨h, .inr rfl⟩, List.pairwise_singleton _ _, grownBy_refl w _⟩
theorem Mem.at (h : Mem w row l W) (i : Nat) {B : Nat} {T : TypeId} {cs : List Value} (hi : l[i]? = some (B, T, cs)) : Blk W B T cs := (h.1 _ (List.mem_of_getElem? hi)).1
theorem Mem.lt (h : Mem w row l W) {x : MB} (hx : x ∈ l) : x.1 < W.heap.size := (h.1 x hx).1.lt
theorem Mem.g (h : Mem w row l W) : w.grownBy W row := h.2.2
theorem Mem.size (h : Mem w row l W) : w.heap.size ≤ W.heap.size := h.2.2.size
theorem Mem.b (h : Mem w none l W) : Below w.heap.size w W := ⟨h.2.2.os, h.2.2.tape, h.2.2.output, h.2.2.size, fun k hk => h.2.2.block k hk (by simp)⟩
theorem Mem.ge (h : Mem w row l W) (i : Nat) {B : Nat} {T : TypeId} {cs : List Value} (hi : l[i]? = some (B, T, cs)) (hr : some B ≠ row) : w.heap.size ≤ B := by
  rcases (h.1 _ (List.mem_of_getElem? hi)).2 with h' | h'
  · exact h'
  · exact absurd h' hr
theorem Mem.drew (h : Mem w row l W) : Mem w row l W.drew := ⟨h.1, h.2.1, ⟨h.2.2.os, h.2.2.tape, h.2.2.output, h.2.2.size, h.2.2.block⟩⟩
theorem grownBy_trans_below {row : Option Nat} (h : w.grownBy W row) (hb : Below W.heap.size W W') : w.grownBy W' row :=
  ⟨hb.os.trans h.os, hb.tape.trans h.tape, hb.output.trans h.output, Nat.le_trans h.size hb.size, fun k hk hr => (hb.block k (Nat.lt_of_lt_of_le hk h.size)).trans (h.block k hk hr)⟩
theorem Mem.below (h : Mem w row l W) (hb : Below W.heap.size W W') : Mem w row l W' :=
  ⟨fun x hx => ⟨(h.1 x hx).1.below hb (h.lt hx), (h.1 x hx).2⟩, h.2.1, grownBy_trans_below h.2.2 hb⟩
theorem Mem.alloc (h : Mem w row l W) (T : TypeId) (cs : List Value) : Mem w row ((W.heap.size, T, cs) :: l) (W.alloc (.cells cs.toArray T)) := by
  refine ⟨fun x hx => ?_, List.pairwise_cons.2 ⟨fun y hy => h.lt hy, h.2.1⟩, grownBy_trans_below h.2.2 ((Below.refl _ W).alloc (Nat.le_refl _) _)⟩
  rcases List.mem_cons.1 hx with rfl | hx
  · exact ⟨Blk.new W T cs, .inl h.size⟩
  · exact ⟨(h.1 x hx).1.alloc _, (h.1 x hx).2⟩
theorem Mem.allocN (h : Mem w row l W) {n : Nat} (hn : W.heap.size = n) (T : TypeId) (cs : List Value) : Mem w row ((n, T, cs) :: l) (W.alloc (.cells cs.toArray T)) := hn ▸ h.alloc T cs
theorem Mem.other (h : Mem w row l W) (o : Obj) : Mem w row l (W.alloc o) := h.below ((Below.refl _ W).alloc (Nat.le_refl _) _)
theorem Mem.call (h : Mem w row l W) (i : Nat) {B : Nat} {T : TypeId} {cs cs' : List Value} {l' : List MB} (hi : l[i]? = some (B, T, cs)) (hl : l.set i (B, T, cs') = l') (hb : W.grownBy W' (some B)) (hB : Blk W' B T cs') : Mem w row l' W' := by
  subst hl
  have hlt : i < l.length := (List.getElem?_eq_some_iff.1 hi).1
  have hne : ∀ j y, l[j]? = some y → j ≠ i → y.1 ≠ B := fun j y hy hji => by
    obtain ⟨hj, hy'⟩ := List.getElem?_eq_some_iff.1 hy
    obtain ⟨_, hi'⟩ := List.getElem?_eq_some_iff.1 hi
    rcases Nat.lt_or_gt_of_ne hji with hl | hl
    · have := List.pairwise_iff_getElem.1 h.2.1 j i hj hlt hl
      rw [hy', hi'] at this
      exact Nat.ne_of_gt this
    · have := List.pairwise_iff_getElem.1 h.2.1 i j hlt hj hl
      rw [hy', hi'] at this
      exact Nat.ne_of_lt this
  have hi0 := h.1 _ (List.mem_of_getElem? hi)
  refine ⟨fun x hx => ?_, ?_, ?_⟩
  · obtain ⟨j, hj⟩ := List.mem_iff_getElem?.1 hx
    rw [List.getElem?_set] at hj
    by_cases e : i = j
    · subst e
      rw [if_pos rfl, if_pos hlt] at hj
      obtain rfl := Option.some.inj hj
      exact ⟨hB, hi0.2⟩
    · rw [if_neg e] at hj
      have hx' := h.1 x (List.mem_of_getElem? hj)
      have hn := hne j x hj (fun e' => e e'.symm)
      exact ⟨hx'.1.kept hb (fun e' => hn (Option.some.inj e')), hx'.2⟩
  · have key : (l.set i (B, T, cs')).map (·.1) = l.map (·.1) := by
      rw [List.map_set]
      obtain ⟨_, hi'⟩ := List.getElem?_eq_some_iff.1 hi
      apply List.ext_getElem?
      intro j
      rw [List.getElem?_set]
      by_cases e : i = j
      · subst e
        rw [if_pos rfl, if_pos (by simpa using hlt), List.getElem?_map, hi]; rfl
      · rw [if_neg e]
    have h1 := h.2.1
    rw [← List.pairwise_map (f := fun x : MB => x.1) (R := fun a b => b < a)] at h1 ⊢
    rw [key]; exact h1
  · refine ⟨hb.os.trans h.2.2.os, hb.tape.trans h.2.2.tape, hb.output.trans h.2.2.output, Nat.le_trans h.2.2.size hb.size, fun k hk hr => (hb.block k (Nat.lt_of_lt_of_le hk h.2.2.size) (fun e => ?_)).trans (h.2.2.block k hk hr)⟩
    obtain rfl := Option.some.inj e
    rcases hi0.2 with hg | hg
    · exact absurd hk (Nat.not_lt.2 hg)
    · exact hr hg
theorem Mem.set (h : Mem w row l W) (i : Nat) {B : Nat} {T : TypeId} {cs cs' : List Value} {l' : List MB} (hi : l[i]? = some (B, T, cs)) (hl : l.set i (B, T, cs') = l') : Mem w row l' (W.setRow B cs'.toArray) :=
  h.call i hi hl (grownBy_row W B _) ((h.at i hi).row cs')
end
theorem ld_any {W : World} {B : Nat} {T : TypeId} {vs : List Value} (ty : TypeId) (d : TypeDesc) (hu : Tryz.prog.underlying ty = some d) (hd : (match d with | .struct _ | .array _ _ => false | _ => true) = true) (h : Blk W B T vs) (i : Nat) {v : Value} (hv : vs[i]? = some v) :
    (Instr.loadAt ty (.pointer (some ⟨B, i, none⟩))).run Tryz.prog W = .ok v W := by
  have hc := (h.cell i).trans hv
  have hagg : (isAgg ty).run Tryz.prog W = .ok false W := by
    unfold isAgg
    rw [Sem.run_bind, run_underlying hu W]
    cases d <;> simp_all
  simp [Instr.loadAt, Instr.sureAddr, loadVar, Sem.run_bind, hagg, hc]
theorem ld_int {W : World} {B : Nat} {T : TypeId} {vs : List Value} (h : Blk W B T vs) (i : Nat) {v : Value} (hv : vs[i]? = some v) : (Instr.loadAt 3 (.pointer (some ⟨B, i, none⟩))).run Tryz.prog W = .ok v W := ld_any _ _ Tryz.underlying3 rfl h i hv
theorem ld_str {W : World} {B : Nat} {T : TypeId} {vs : List Value} (h : Blk W B T vs) (i : Nat) {v : Value} (hv : vs[i]? = some v) : (Instr.loadAt 9 (.pointer (some ⟨B, i, none⟩))).run Tryz.prog W = .ok v W := ld_any _ _ Tryz.underlying9 rfl h i hv
end Go.Proofs.YtfoemkmoambagaaGreat
