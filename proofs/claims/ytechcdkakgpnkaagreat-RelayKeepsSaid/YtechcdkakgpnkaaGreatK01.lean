/-
  Words for memory: blocks known whole, what lies below, four words as one number; Slices of octets that are read; octets of a number; What octets come to, the highest first; the words of 32 octets; The block of a wide number; blob.octets hands back a sequence of a number's octets, the highest first; blob.Num: the lowest octets of a number; What is no row of a type's stays; rows of the call's own; s
-/
import Derived.RangeFuncNested
import Derived.RangeFuncBound
import Derived.RangeFuncCalls
import Derived.RangeFuncLeaves
import Derived.RangeFuncBox
import Derived.Shelf.Abstract
import Derived.Shelf.RegionOpen
import Derived.WalkKit
import Derived.OwnWalkIn
import Derived.TacticsInMore
import Derived.LoopNIn
import Derived.LoopIn
import Derived.Lib.Hide
import Derived.Test.YtechcdkakgpnkaaGreatProg
import Derived.Laws.BytesArg
import Derived.Maps.AppendAt
import Derived.Deep.AppendLies
import Derived.Laws.BitsLemmas
import Derived.Laws.OwnMore
import Derived.RangeFuncIn
import Derived.OrdersIn
import Derived.StillTail
import Derived.StillTailTactics
namespace Go.Proofs.YtechcdkakgpnkaaGreat
open Go.RowKit Go.Shelf
def M : Nat := 18446744073709551616
theorem M_pos : 0 < M := by unfold M; omega
abbrev wv (a0 a1 a2 a3 : Nat) : Value := .agg #[.int .u64 (a0 : Int), .int .u64 (a1 : Int), .int .u64 (a2 : Int), .int .u64 (a3 : Int)]
structure Ok4 (a0 a1 a2 a3 : Nat) : Prop where
  h0 : a0 < M
  h1 : a1 < M
  h2 : a2 < M
  h3 : a3 < M
def upto {α : Type} (f : Nat → α) (k : Nat) : List α := (List.range k).map f
theorem upto_succ {α : Type} (f : Nat → α) (k : Nat) : upto f (k + 1) = upto f k ++ [f k] := by simp [upto, List.range_succ]
theorem upto_length {α : Type} (f : Nat → α) (k : Nat) : (upto f k).length = k := by simp [upto]
def Blk (W : World) (B : Nat) (t : TypeId) (vs : List Value) : Prop := W.heap[B]? = some (.cells vs.toArray t (0, 0))
theorem Blk.lt {W : World} {B : Nat} {t : TypeId} {vs : List Value} (h : Blk W B t vs) : B < W.heap.size := (Array.getElem?_eq_some_iff.1 h).1
theorem Blk.cell {W : World} {B : Nat} {t : TypeId} {vs : List Value} (h : Blk W B t vs) (i : Nat) : W.cell? ⟨B, i, none⟩ = vs[i]? := by simp [World.cell?, show W.heap[B]? = _ from h]
theorem Blk.frozen {W : World} {B : Nat} {t : TypeId} {vs : List Value} (h : Blk W B t vs) (i : Nat) : W.frozen? ⟨B, i, none⟩ = false := by simp [World.frozen?, show W.heap[B]? = _ from h]
theorem Blk.new (W : World) (t : TypeId) (vs : List Value) : Blk (W.alloc (.cells vs.toArray t)) W.heap.size t vs := World.alloc_heap_new W _
theorem Blk.new' {W : World} {B : Nat} {t : TypeId} {vs : List Value} (h : W.heap.size = B) : Blk (W.alloc (.cells vs.toArray t)) B t vs := h ▸ Blk.new W t vs
theorem Blk.kept {W W' : World} {row : Option Nat} {B : Nat} {t : TypeId} {vs : List Value} (h : Blk W B t vs) (hg : W.grownBy W' row) (hne : some B ≠ row) : Blk W' B t vs := (hg.block B h.lt hne).trans h
theorem Blk.alloc {W : World} {B : Nat} {t : TypeId} {vs : List Value} (h : Blk W B t vs) (o : Obj) : Blk (W.alloc o) B t vs := h.kept (World.grownBy_alloc W o none) (by simp)
theorem Blk.drew {W : World} {B : Nat} {t : TypeId} {vs : List Value} (h : Blk W B t vs) : Blk W.drew B t vs := h
theorem Blk.below {W W' : World} {n B : Nat} {t : TypeId} {vs : List Value} (h : Blk W B t vs) (hb : Below n W W') (hlt : B < n) : Blk W' B t vs := (hb.block B hlt).trans h
theorem Blk.set {W : World} {B : Nat} {t : TypeId} {vs : List Value} (h : Blk W B t vs) (i : Nat) (v : Value) : Blk (W.setCell ⟨B, i, none⟩ v) B t (vs.set i v) := by
  obtain ⟨hlt, hk⟩ := Array.getElem?_eq_some_iff.1 h
  show (W.heap.modify B _)[B]? = _
  rw [Array.getElem?_eq_getElem (by rw [Array.size_modify]; exact hlt), Array.getElem_modify_self, hk]
  simp
theorem grownBy_setCell4 (W : World) (b i : Nat) (v : Value) : W.grownBy (W.setCell ⟨b, i, none⟩ v) (some b) :=
  ⟨rfl, rfl, rfl, (KeepsWalks.setCell W _ v).size, fun k _ hk => Below.heap_setCell _ _ _ k (fun e => hk (by rw [e]))⟩
theorem Blk.other {W : World} {B B' : Nat} {t : TypeId} {vs : List Value} (h : Blk W B t vs) (i : Nat) (v : Value) (hne : B ≠ B') : Blk (W.setCell ⟨B', i, none⟩ v) B t vs :=
  h.kept (grownBy_setCell4 W B' i v) (fun e => hne (by cases e; rfl))
theorem blk_own {β : Type} (B : Nat) (t : TypeId) (f : β → List Value) : Own (fun s W => Blk W B t (f s)) := fun s X Y row hs hg hrow =>
  hs.kept hg (fun e' => by obtain ⟨o, ho, hc⟩ := hrow B e'.symm; rw [show X.heap[B]? = _ from hs] at ho; cases ho; cases hc)
theorem Blk.c4 {W : World} {B : Nat} {t : TypeId} {v0 v1 v2 v3 : Value} (h : Blk W B t [v0, v1, v2, v3]) :
    W.cell? ⟨B, 0, none⟩ = some v0 ∧ W.cell? ⟨B, 1, none⟩ = some v1 ∧ W.cell? ⟨B, 2, none⟩ = some v2 ∧ W.cell? ⟨B, 3, none⟩ = some v3 := ⟨h.cell 0, h.cell 1, h.cell 2, h.cell 3⟩
theorem chain {w w1 w2 : World} (h : Below w.heap.size w w1) (k : Below w1.heap.size w1 w2) : Below w.heap.size w w2 := h.trans (k.mono h.size)
theorem chainA {w w1 : World} (h : Below w.heap.size w w1) (o : Obj) : Below w.heap.size w (w1.alloc o) := h.alloc h.size o
theorem chain0 (w : World) (o : Obj) : Below w.heap.size w (w.alloc o) := chainA (Below.refl _ w) o
def ws (s : Nat → Nat) : List Value := [.int .u64 (s 0 : Nat), .int .u64 (s 1 : Nat), .int .u64 (s 2 : Nat), .int .u64 (s 3 : Nat)]
theorem ws_at (s : Nat → Nat) {i : Nat} (hi : i < 4) : (ws s)[i]? = some (.int .u64 (s i : Nat)) := by
  have : i = 0 ∨ i = 1 ∨ i = 2 ∨ i = 3 := by omega
  rcases this with rfl | rfl | rfl | rfl <;> rfl
def upd (s : Nat → Nat) (i v : Nat) : Nat → Nat := fun j => if j = i then v else s j
theorem ws_set (s : Nat → Nat) {i : Nat} (hi : i < 4) (v : Nat) : (ws s).set i (.int .u64 (v : Nat)) = ws (upd s i v) := by
  have : i = 0 ∨ i = 1 ∨ i = 2 ∨ i = 3 := by omega
  rcases this with rfl | rfl | rfl | rfl <;> rfl
def word (a0 a1 a2 a3 : Nat) (k : Nat) : Nat := match k with | 0 => a0 | 1 => a1 | 2 => a2 | _ => a3
theorem word_lt {a0 a1 a2 a3 : Nat} (h0 : a0 < M) (h1 : a1 < M) (h2 : a2 < M) (h3 : a3 < M) (k : Nat) : word a0 a1 a2 a3 k < M := by
  unfold word; split <;> assumption
def val (a0 a1 a2 a3 : Nat) : Nat := a0 + M * (a1 + M * (a2 + M * a3))
def KeepB (B : Nat) (W W' : World) : Prop := W'.heap[B]? = W.heap[B]?
theorem KeepB.t {B : Nat} {X Y Z : World} (h : KeepB B X Y) (k : KeepB B Y Z) : KeepB B X Z := k.trans h
theorem KeepB.b {B : Nat} {w : World} (hB : B < w.heap.size) (W : World) (l : Nat) (o o' : Obj) (hl : w.heap.size ≤ l) (_ : W.heap[l]? = some o) (_ : o.isCells = false) (_ : o.isWalk = false) : KeepB B W (W.putObj l o') :=
  World.putObj_heap_other (by omega)
theorem KeepB.refl (B : Nat) (W : World) : KeepB B W W := rfl
theorem KeepB.setCell {B : Nat} {W : World} {a : Addr} (v : Value) (h : B ≠ a.block) : KeepB B W (W.setCell a v) := Below.heap_setCell _ _ _ B h
def NoW (w : World) (e : Ending) (W' : World) : Prop := e = .returned (.tuple #[wv 0 0 0 0, .bool false]) ∧ Below w.heap.size w W'
abbrev PW := { p : Nat × Nat // p.1 < 4 ∧ p.2 < M }
abbrev pwEnc (x : PW) : Array Value := #[.int .i64 (x.1.1 : Int), .int .u64 (x.1.2 : Int)]
def pw (i x : Nat) (h : i < 4) (hx : x < M) : PW := ⟨(i, x), h, hx⟩
def downs {a0 a1 a2 a3 : Nat} (h : Ok4 a0 a1 a2 a3) : List PW := [pw 3 a3 (by omega) h.h3, pw 2 a2 (by omega) h.h2, pw 1 a1 (by omega) h.h1, pw 0 a0 (by omega) h.h0]
end Go.Proofs.YtechcdkakgpnkaaGreat
namespace Go.Proofs.YtechcdkakgpnkaaGreat
open Go.RowKit Go.Shelf
abbrev bv (x : UInt8) : Value := .int .u8 (x.toNat : Int)
def Octs (W : World) (b off : Nat) (l : List UInt8) : Prop := ∀ k x, l[k]? = some x → W.cell? ⟨b, off + k, none⟩ = some (bv x)
theorem Octs.below {W W' : World} {n b off : Nat} {l : List UInt8} (h : Octs W b off l) (hb : Below n W W') (hlt : b < n) : Octs W' b off l := fun k x hx => (hb.cell (p := ⟨b, _, none⟩) hlt).trans (h k x hx)
theorem Octs.kept {W W' : World} {row : Option Nat} {b off : Nat} {l : List UInt8} (h : Octs W b off l) (hb : b < W.heap.size) (hg : W.grownBy W' row) (hne : some b ≠ row) : Octs W' b off l := fun k x hx =>
  (World.cell?_of_block (a := ⟨b, _, none⟩) (hg.block b hb hne)).trans (h k x hx)
def BSl (lo hi : Nat) (W : World) (sv : Value) (l : List UInt8) : Prop :=
  ∃ a cap, sv = .slice a l.length cap ∧ l.length ≤ cap ∧ (l = [] ∨ ∃ b off, a = some ⟨b, off, none⟩ ∧ lo ≤ b ∧ b < hi ∧ Octs W b off l)
theorem BSl.mono {lo hi lo' hi' : Nat} {W : World} {sv : Value} {l : List UInt8} (h : BSl lo hi W sv l) (h1 : lo' ≤ lo) (h2 : hi ≤ hi') : BSl lo' hi' W sv l := by
  obtain ⟨a, cap, e, hc, h0 | ⟨b, off, ha, hl, hh, ho⟩⟩ := h
  · exact ⟨a, cap, e, hc, .inl h0⟩
  · exact ⟨a, cap, e, hc, .inr ⟨b, off, ha, by omega, by omega, ho⟩⟩
theorem BSl.below {lo hi m : Nat} {W W' : World} {sv : Value} {l : List UInt8} (h : BSl lo hi W sv l) (hb : Below m W W') (hm : hi ≤ m) : BSl lo hi W' sv l := by
  obtain ⟨a, cap, e, hc, h0 | ⟨b, off, ha, hl, hh, ho⟩⟩ := h
  · exact ⟨a, cap, e, hc, .inl h0⟩
  · exact ⟨a, cap, e, hc, .inr ⟨b, off, ha, hl, hh, ho.below hb (by omega)⟩⟩
theorem BSl.kept {lo hi : Nat} {W W' : World} {row : Option Nat} {sv : Value} {l : List UInt8} (h : BSl lo hi W sv l) (hh' : hi ≤ W.heap.size) (hg : W.grownBy W' row) (hne : ∀ r, row = some r → r < lo ∨ hi ≤ r) : BSl lo hi W' sv l := by
  obtain ⟨a, cap, e, hc, h0 | ⟨b, off, ha, hl, hh, ho⟩⟩ := h
  · exact ⟨a, cap, e, hc, .inl h0⟩
  · exact ⟨a, cap, e, hc, .inr ⟨b, off, ha, hl, hh, ho.kept (by omega) hg (fun e' => by have := hne b e'.symm; omega)⟩⟩
theorem BSl.nil (lo hi : Nat) (W : World) : BSl lo hi W (.slice none 0 0) [] := ⟨none, 0, rfl, Nat.le_refl _, .inl rfl⟩
theorem BSl.of_own {W : World} {lo : Nat} {e : TypeId} {v : Value} {l : List UInt8} (h : W.ownsRow lo e 1 v l.length (l.map bv)) : BSl lo W.heap.size W v l := by
  rcases Nat.eq_zero_or_pos l.length with h0 | h0
  · have hl : l = [] := List.eq_nil_of_length_eq_zero h0
    subst hl
    rcases h.2 with ⟨rfl, _⟩ | ⟨g, cap, cur, rfl, _, _, hnc, _⟩
    · exact BSl.nil _ _ _
    · exact ⟨_, cap, rfl, hnc, .inl rfl⟩
  · obtain ⟨hl, ⟨_, h1⟩ | ⟨g, cap, cur, rfl, hg, hb, hnc, hcm, hsz, htake⟩⟩ := h
    · omega
    · refine ⟨_, cap, rfl, hnc, .inr ⟨g, 0, rfl, hg, (Array.getElem?_eq_some_iff.1 hb).1, fun k x hk => ?_⟩⟩
      have hkl : k < l.length := (List.getElem?_eq_some_iff.1 hk).1
      have e' : cur[k]? = (cur.toList.take (l.length * 1))[k]? := by
        rw [List.getElem?_take_of_lt (by omega)]
        simp
      simp only [World.cell?, hb, Nat.zero_add]
      rw [show (if (none : Option Nat).isSome = true then (none : Option Value) else cur[k]?) = cur[k]? from rfl, e', htake]
      simp [hk]
theorem mapBv_byte (l : List UInt8) : (l.map fun x => (x.toNat : Int)).map (fun n => UInt8.ofNat n.toNat) = l := by
  rw [List.map_map]
  have : ((fun n : Int => UInt8.ofNat n.toNat) ∘ fun x : UInt8 => (x.toNat : Int)) = id := by funext x; simp
  rw [this, List.map_id]
theorem run_string {P : Program} (src e dst : TypeId) (hs : P.underlying src = some (.slice e)) (he : P.underlying e = some (.int .u8)) (hd : P.underlying dst = some .string) (W : World) {lo hi : Nat} {sv : Value} {l : List UInt8} (h : BSl lo hi W sv l) :
    (convert src dst sv).run P W = .ok (.string ⟨l.toArray⟩) W := by
  obtain ⟨a, cap, rfl, _, h0⟩ := h
  rcases a with _ | ⟨b, off, sp⟩
  · have : l = [] := by
      rcases h0 with h0 | ⟨_, _, h, _⟩
      · exact h0
      · cases h
    subst this
    rw [run_convert_bytes_nil (P := P) W src e hs he _ _ dst hd]
    rfl
  · rcases h0 with rfl | ⟨b', off', ha, _, _, ho⟩
    · have hl : (loadCells ⟨b, off, sp⟩ 0).run P W = .ok (([] : List Int).map (Value.int .u8)).toArray W := by
        have := run_loadCells_list (P := P) W ⟨b, off, sp⟩ [] (fun j v hj => by simp at hj)
        simpa using this
      rw [run_convert_bytes_string W src dst e _ _ cap hs he hd]
      rw [show ([] : List UInt8).length = 0 from rfl, run_bytesToString W _ 0 cap [] hl]
      rfl
    · cases ha
      rw [run_convert_bytes_arg (P := P) W src e hs he b off l.length cap (l.map fun x => (x.toNat : Int)) (by simp) (fun i hi => by
        obtain ⟨x, hx⟩ : ∃ x, l[i]? = some x := ⟨_, List.getElem?_eq_getElem hi⟩
        rw [ho i x hx]
        simp [List.getD, hx]) dst hd]
      unfold strOfNums
      rw [mapBv_byte]
def oct (n p : Nat) : UInt8 := UInt8.ofNat (n / 2 ^ (p * 8))
def octs (n : Nat) : Nat → List UInt8
  | 0 => []
  | s + 1 => oct n s :: octs n s
theorem octs_length (n s : Nat) : (octs n s).length = s := by induction s with | zero => rfl | succ s ih => simp [octs, ih]
theorem octs_at (n s k : Nat) (hk : k < s) : (octs n s)[k]? = some (oct n (s - 1 - k)) := by
  induction s generalizing k with
  | zero => omega
  | succ s ih =>
    cases k with
    | zero => simp [octs]
    | succ k => simp only [octs, List.getElem?_cons_succ]; rw [ih k (by omega)]; congr 2; omega
end Go.Proofs.YtechcdkakgpnkaaGreat
namespace Go.Proofs.YtechcdkakgpnkaaGreat
open Go.RowKit
theorem wr_u64 (n : Int) (h₀ : 0 ≤ n) (h₁ : n < 2 ^ 64) : IntKind.u64.wrap n = n := by rw [IntKind.wrap_u64]; omega
theorem wr_i64 (n : Int) (h₀ : 0 ≤ n) (h₁ : n < 2 ^ 63) : IntKind.i64.wrap n = n := by rw [IntKind.wrap_i64]; omega
def be (l : List UInt8) : Nat := l.foldl (fun n x => n * 256 + x.toNat) 0
theorem be_snoc (l : List UInt8) (x : UInt8) : be (l ++ [x]) = be l * 256 + x.toNat := by simp [be]
theorem be_lt (l : List UInt8) : be l < 256 ^ l.length := by
  rw [← List.reverse_reverse l]
  generalize l.reverse = r
  induction r with
  | nil => decide
  | cons x r ih =>
    rw [List.reverse_cons, be_snoc, List.length_append, List.length_singleton, Nat.pow_succ]
    have := x.toNat_lt
    omega
theorem be_lt' {l : List UInt8} {k : Nat} (h : l.length ≤ k) : be l < 256 ^ k := Nat.lt_of_lt_of_le (be_lt l) (Nat.pow_le_pow_right (by omega) h)
theorem octs_snoc (n s : Nat) : octs n (s + 1) = octs (n / 256) s ++ [oct n 0] := by
  induction s with
  | zero => rfl
  | succ s ih =>
    rw [octs, ih]
    show _ = oct (n / 256) s :: octs (n / 256) s ++ [oct n 0]
    have : oct n (s + 1) = oct (n / 256) s := by
      unfold oct
      rw [show (s + 1) * 8 = 8 + s * 8 by omega, Nat.pow_add, ← Nat.div_div_eq_div_mul]
    rw [this]
    rfl
theorem be_octs (n s : Nat) : be (octs n s) = n % 256 ^ s := by
  induction s generalizing n with
  | zero => simp [octs, be, Nat.mod_one]
  | succ s ih =>
    rw [octs_snoc, be_snoc, ih, Nat.pow_succ]
    unfold oct
    rw [UInt8.toNat_ofNat', show n / 2 ^ (0 * 8) = n by simp, Nat.mul_comm (256 ^ s) 256, Nat.mod_mul]
    omega
theorem or_byte64 {a x : Nat} (ha : a ≤ 36028797018963967) (hx : x < 256) : bits .or .i64 ((a : Int) * 256) (x : Int) = ((a * 256 + x : Nat) : Int) := by
  have e := (Go.bits_nat .i64 63 (by decide) (fun n h0 h1 => wr_i64 n h0 h1) (a * 256) x (by simp; omega) (by simp; omega)).2
  have h : a * 256 ||| x = a * 256 + x := by
    have := Nat.shiftLeft_add_eq_or_of_lt (show x < 2 ^ 8 by simpa using hx) a
    rw [Nat.shiftLeft_eq] at this
    exact this.symm
  rw [h] at e
  rw [← e]
  simp
def uwd (l : List UInt8) (k q : Nat) : Nat := be (((l.take k).drop (8 * (3 - q))).take 8)
theorem uwd_zero (l : List UInt8) : ws (uwd l 0) = ws fun _ => 0 := by simp [ws, uwd, be]
theorem uwd_step {l : List UInt8} {k : Nat} {x : UInt8} (hx : l[k]? = some x) (hk : k < 32) : ws (uwd l (k + 1)) = ws (upd (uwd l k) (3 - k / 8) (uwd l k (3 - k / 8) * 256 + x.toNat)) := by
  have hkl : k < l.length := (List.getElem?_eq_some_iff.1 hx).1
  have key : ∀ q, q < 4 → uwd l (k + 1) q = upd (uwd l k) (3 - k / 8) (uwd l k (3 - k / 8) * 256 + x.toNat) q := fun q hq => by
    have e1 : l.take (k + 1) = l.take k ++ [x] := by rw [List.take_add_one, hx]; rfl
    have hl : (l.take k).length = k := by simp; omega
    unfold upd
    by_cases h : q = 3 - k / 8
    · subst h
      rw [if_pos rfl]
      unfold uwd
      rw [e1, ← be_snoc]
      have e2 : (3 - (3 - k / 8)) = k / 8 := by omega
      rw [e2, List.drop_append_of_le_length (by rw [hl]; omega), List.take_of_length_le (l := (l.take k).drop (8 * (k / 8)) ++ [x]) (by simp; omega), List.take_of_length_le (l := (l.take k).drop (8 * (k / 8))) (by simp; omega)]
    · rw [if_neg h]
      unfold uwd
      rw [e1]
      by_cases h' : k < 8 * (3 - q)
      · rw [List.drop_of_length_le (by simp; omega), List.drop_of_length_le (by rw [hl]; omega)]
      · rw [List.drop_append_of_le_length (by rw [hl]; omega), List.take_append_of_le_length (by rw [List.length_drop, hl]; omega)]
  unfold ws
  rw [key 0 (by omega), key 1 (by omega), key 2 (by omega), key 3 (by omega)]
theorem uwd_lt {l : List UInt8} {k : Nat} (hk : k < 32) : uwd l k (3 - k / 8) ≤ 72057594037927935 := by
  have : (((l.take k).drop (8 * (3 - (3 - k / 8)))).take 8).length ≤ 7 := by
    simp
    omega
  have := be_lt' this
  unfold uwd
  omega
abbrev PX := { p : UInt8 × Nat // p.2 < 32 }
abbrev pxEnc (p : PX) : Array Value := #[.int .i64 (p.1.2 : Int), bv p.1.1]
def unS (s : Nat → Nat) (p : PX) : Nat → Nat := upd s (3 - p.1.2 / 8) (s (3 - p.1.2 / 8) * 256 % M ||| p.1.1.toNat)
def unF (pre : List PX) : Nat → Nat := pre.foldl unS fun _ => 0
theorem unF_snoc (pre : List PX) (p : PX) : unF (pre ++ [p]) = unS (unF pre) p := by simp [unF]
theorem unS_lt {s : Nat → Nat} (h : ∀ q, s q < M) (p : PX) (q : Nat) : unS s p q < M := by
  unfold unS upd
  split
  · have h1 : s (3 - p.1.2 / 8) * 256 % M < 2 ^ 64 := by unfold M; omega
    have h2 : p.1.1.toNat < 2 ^ 64 := by have := p.1.1.toNat_lt; omega
    have := Nat.or_lt_two_pow h1 h2
    rw [show (2 : Nat) ^ 64 = M from by unfold M; decide] at this
    exact this
  · exact h q
theorem unF_lt (pre : List PX) (q : Nat) : unF pre q < M := by
  rw [← List.reverse_reverse pre]
  generalize pre.reverse = r
  induction r generalizing q with
  | nil => exact M_pos
  | cons x r ih => rw [List.reverse_cons, unF_snoc]; exact unS_lt ih x q
theorem or_wrap {a x : Nat} (hx : x < 256) : bits .or .u64 (IntKind.u64.wrap ((a : Int) * 256)) (x : Int) = ((a * 256 % M ||| x : Nat) : Int) := by
  have e := (Go.bits_nat .u64 64 (by decide) (fun n h0 h1 => wr_u64 n h0 h1) (a * 256 % M) x (by unfold M; omega) (by omega)).2
  rw [← e, IntKind.wrap_u64]
  unfold M
  simp
theorem mod_or {a x : Nat} (ha : a ≤ 72057594037927935) (hx : x < 256) : a * 256 % M ||| x = a * 256 + x := by
  rw [Nat.mod_eq_of_lt (by unfold M; omega)]
  have := Nat.shiftLeft_add_eq_or_of_lt (show x < 2 ^ 8 by simpa using hx) a
  rw [Nat.shiftLeft_eq] at this
  exact this.symm
def pxs (l : List UInt8) (_ : l.length = 32) : List PX := (List.range 32).attach.map fun k => ⟨(l.getD k.1 0, k.1), by have := List.mem_range.1 k.2; exact this⟩
theorem pxs_length (l : List UInt8) (h : l.length = 32) : (pxs l h).length = 32 := by simp [pxs]
theorem pxs_at {l : List UInt8} (h : l.length = 32) {k : Nat} {p : PX} (hp : (pxs l h)[k]? = some p) : p.1.2 = k ∧ l[k]? = some p.1.1 := by
  have hk : k < 32 := by have := (List.getElem?_eq_some_iff.1 hp).1; rwa [pxs_length] at this
  simp only [pxs, List.getElem?_map] at hp
  have e : (List.range 32).attach[k]? = some ⟨k, List.mem_range.2 hk⟩ := by
    rw [List.getElem?_eq_getElem (by simpa using hk)]
    simp
  rw [e] at hp
  simp only [Option.map_some, Option.some.injEq] at hp
  subst hp
  exact ⟨rfl, by simp [List.getD, List.getElem?_eq_getElem (show k < l.length by omega)]⟩
theorem unF_take {l : List UInt8} (h : l.length = 32) (k : Nat) (hk : k ≤ 32) : ws (unF ((pxs l h).take k)) = ws (uwd l k) := by
  induction k with
  | zero => rw [uwd_zero]; rfl
  | succ k ih =>
    have ih' := ih (by omega)
    obtain ⟨p, hp⟩ : ∃ p, (pxs l h)[k]? = some p := ⟨_, List.getElem?_eq_getElem (by rw [pxs_length]; omega)⟩
    obtain ⟨h2, hx⟩ := pxs_at h hp
    rw [List.take_add_one, hp, uwd_step hx (by omega)]
    show ws (unF (_ ++ [p])) = _
    rw [unF_snoc]
    unfold unS
    rw [h2]
    have hq : 3 - k / 8 < 4 := by omega
    rw [← ws_set _ hq, ← ws_set _ hq, ih']
    have e : unF ((pxs l h).take k) (3 - k / 8) = uwd l k (3 - k / 8) := by
      have h1 := ws_at (unF ((pxs l h).take k)) hq
      rw [ih', ws_at _ hq] at h1
      have := Option.some.inj h1
      injection this with _ h3
      omega
    rw [e, mod_or (uwd_lt (by omega)) p.1.1.toNat_lt]
theorem unF_all {l : List UInt8} (h : l.length = 32) : ws (unF (pxs l h)) = ws (uwd l 32) := by
  rw [← unF_take h 32 (by omega), List.take_of_length_le (by rw [pxs_length]; omega)]
end Go.Proofs.YtechcdkakgpnkaaGreat
namespace Go.Proofs.YtechcdkakgpnkaaGreat
open Go.RowKit Go.Shelf
abbrev BlkW (W : World) (B a0 a1 a2 a3 : Nat) : Prop := Blk W B 24 [.int .u64 (a0 : Int), .int .u64 (a1 : Int), .int .u64 (a2 : Int), .int .u64 (a3 : Int)]
end Go.Proofs.YtechcdkakgpnkaaGreat
namespace Go.Proofs.YtechcdkakgpnkaaGreat
open Go.RowKit Go.Shelf
attribute [local go_sem] Oper.semAt_some
theorem oct_toNat (n p : Nat) : ((oct n p).toNat : Int) = (n : Int) / 2 ^ (p * 8) % 256 := by
  unfold oct
  rw [UInt8.toNat_ofNat']
  simp
theorem oct_bv (n p : Nat) : bv (oct n p) = .int .u8 ((n : Int) / 2 ^ (p * 8) % 256) := by rw [← oct_toNat]
set_option maxRecDepth 100000 in
set_option maxHeartbeats 2000000 in
theorem octets1_stops (F : Fence) (m : Nat) (h : F.fn 163) (hro : F.round = none) (hm : 1 ≤ m) (n s : Nat) (hs : s ≤ 8) (Bn Bs : Nat) (w : World) (hBn : Bn < w.heap.size) (hBs : Bs < w.heap.size)
    (hcn : w.cell? ⟨Bn, 0, none⟩ = some (.int .u64 (n : Nat))) (hcs : w.cell? ⟨Bs, 0, none⟩ = some (.int .i64 (s : Nat))) (Kp : World → World → Prop) (hKp : ∀ A B, Kp A B → B.cell? ⟨Bn, 0, none⟩ = A.cell? ⟨Bn, 0, none⟩) :
    SeqStopsK F m Tryz.prog 163 #[.pointer (some ⟨Bs, 0, none⟩), .pointer (some ⟨Bn, 0, none⟩)] (fun x => #[bv x]) Kp (fun ys => ys = octs n s) (fun _ => True) s w := fun l J Jx W hW _ _ hY h0 => by
  have hcn' := (hW.cell (p := ⟨Bn, 0, none⟩) hBn).trans hcn
  have hcs' := (hW.cell (p := ⟨Bs, 0, none⟩) hBs).trans hcs
  clear hcn hcs
  refine callsIn_of_wp Tryz.func163 rfl h ?_ hro
  simp only [Tryz.ntmps163, List.size_toArray, List.length_cons, List.length_nil, Nat.reduceAdd, Nat.reduceSub, Array.replicate_succ, Array.replicate_zero, List.push_toArray, List.append_toArray, List.nil_append, List.cons_append]
  have hs' : (s : Int) ≤ 8 := by omega
  gi_wp2
  clear hcs'
  gi_loopw [4] (fun i wr => ∃ k : Nat, k ≤ s ∧ i = .int .i64 ((s : Int) - 1 - k) ∧ wr.cell? ⟨Bn, 0, none⟩ = some (.int .u64 (n : Nat)) ∧ J ((octs n s).take k) wr) (fun i _ => ((intOf i) + 1).toNat)
  case atStart => exact ⟨0, by omega, by simp, hcn', h0⟩
  case round =>
    obtain ⟨k, hk, rfl, hcw, hJs⟩ := hrel
    clear hcn'
    by_cases hlt : k < s
    · obtain ⟨fn, tmps, assign, body, hy, hR⟩ := hY _ (oct n (s - 1 - k)) wr hJs (by simp [octs_length]; omega)
      have ht : (octs n s).take (k + 1) = (octs n s).take k ++ [oct n (s - 1 - k)] := by rw [List.take_add_one, octs_at n s k hlt]; rfl
      have HT := Lib.hid ht
      clear ht
      have hp : (s : Int) - 1 - k = ((s - 1 - k : Nat) : Int) := by omega
      have hpl : s - 1 - k ≤ 7 := by omega
      rw [hp]
      generalize s - 1 - k = p at *
      have HP := Lib.hid hp
      clear hp
      rw [oct_bv] at hy
      gi_wp2
      refine hR.mono ?_
      clear hy
      rintro e W3 (⟨rfl, hJ3, hk3⟩ | ⟨rfl, hJx3⟩)
      · have hcw3 := (hKp _ _ hk3).trans hcw
        clear hcw
        gi_wp2
        have hq : ((s : Int) - 1 - ((k + 1 : Nat) : Int)) = (p : Int) - 1 := by have := HP.out; omega
        go_roundw
        case rel => exact ⟨k + 1, by omega, by rw [hq], hcw3, by rw [HT.out]; exact hJ3⟩
        case measure => simp [intOf]
      · gi_wp2
        refine bodyPost_ret (results_none rfl _ _ _) rfl ?_
        exact ⟨⟨_, rfl⟩, .inr ⟨_, trivial, hJx3⟩⟩
    · obtain rfl : k = s := by omega
      have hp : (k : Int) - 1 - k = -1 := by omega
      rw [hp]
      clear hp
      gi_wp2
      go_end0
      rw [List.take_of_length_le (by rw [octs_length]; omega)] at hJs
      exact ⟨⟨_, rfl⟩, .inl ⟨_, rfl, hJs⟩⟩
set_option maxHeartbeats 1000000 in
theorem octets_in (F : Fence) (m : Nat) (h : F.fn 116) (hro : F.round = none) (n s : Int) (w : World) :
    CallsIn F m Tryz.prog 116 #[.int .u64 n, .int .i64 s] w fun e w' => e = .returned (.func (.func 163) #[] #[.pointer (some ⟨w.heap.size + 1, 0, none⟩), .pointer (some ⟨w.heap.size, 0, none⟩)]) ∧ w' = (w.alloc (.cells #[.int .u64 n] 22)).alloc (.cells #[.int .i64 s] 3) := by
  refine callsIn_of_wp Tryz.func116 rfl h ?_ hro
  simp only [Tryz.ntmps116, List.size_toArray, List.length_cons, List.length_nil, Nat.reduceAdd, Nat.reduceSub, Array.replicate_succ, Array.replicate_zero, List.push_toArray, List.append_toArray, List.nil_append, List.cons_append]
  gi_wp2
  go_ret
  exact ⟨rfl, rfl⟩
end Go.Proofs.YtechcdkakgpnkaaGreat
namespace Go.Proofs.YtechcdkakgpnkaaGreat
open Go.RowKit Go.Shelf
attribute [local go_sem] Oper.semAt_some
def ByW (l : List UInt8) (w : World) (e : Ending) (W' : World) : Prop := ∃ sv, e = .returned sv ∧ BSl w.heap.size W'.heap.size W' sv l ∧ Below w.heap.size w W'
def clamp (z : Int) : Nat := if z ≤ 0 then 0 else if 8 ≤ z then 8 else z.toNat
def two (z : Int) : Nat := (z % 18446744073709551616).toNat
theorem Tryz.infoByte : (Tryz.prog.info? 5).map (fun i => (i.zero, i.size, i.bytes)) = some (some (.int .u8 0), 1, 1) := by kernel_rfl
theorem wrap_two (z : Int) : IntKind.u64.wrap z = (two z : Nat) := by
  unfold two
  simp [IntKind.wrap, IntKind.bits, IntKind.signed]
  omega
theorem clamp_le (z : Int) : clamp z ≤ 8 := by unfold clamp; split; · omega
                                               split <;> omega
theorem clamp_cases (z : Int) : (z < 0 ∧ (clamp z : Int) = 0) ∨ (0 ≤ z ∧ z ≤ 8 ∧ (clamp z : Int) = z) ∨ (8 < z ∧ (clamp z : Int) = 8) := by
  unfold clamp
  by_cases h0 : z < 0
  · rw [if_pos (by omega)]; exact .inl ⟨h0, rfl⟩
  · by_cases h8 : 8 < z
    · rw [if_neg (by omega), if_pos (by omega)]; exact .inr (.inr ⟨h8, rfl⟩)
    · refine .inr (.inl ⟨by omega, by omega, ?_⟩)
      by_cases e0 : z = 0
      · rw [if_pos (by omega)]; omega
      · rw [if_neg (by omega)]
        by_cases e8 : z = 8
        · rw [if_pos (by omega)]; omega
        · rw [if_neg (by omega)]; omega
def NumI (N Bn x : Nat) (w : World) (pre : List UInt8) (W : World) : Prop :=
  ((∃ v, Boxed W N 35 v ∧ W.ownsRow N 5 1 v pre.length (pre.map bv) ∧ True) ∧ Boxed W Bn 22 (.int .u64 (x : Nat))) ∧ Below N w W
theorem numI_own {N Bn x : Nat} {w : World} {B : Nat} (h : N ≤ w.heap.size) (hB : N ≤ B) : OwnFrom B (NumI N Bn x w) :=
  OwnFrom.and (OwnFrom.and (Own.from (holdsRow_own N N 35 5 1 (fun pre : List UInt8 => pre.length) (fun pre => pre.map bv) (fun _ _ => True)) _)
    (Own.from (fun _ X Y row hs hg hr => blk_own Bn 22 (fun (_ : Unit) => [.int .u64 (x : Nat)]) () X Y row hs hg hr) _)) (ownFrom_below h hB)
set_option maxRecDepth 100000 in
set_option maxHeartbeats 4000000 in
theorem num_in (m : Nat) (hm : 3 ≤ m) (n size : Int) (hs : -9223372036854775808 ≤ size) (hs' : size ≤ 9223372036854775807) (w : World) :
    CallsIn Fence.wide m Tryz.prog 68 #[.int .i64 n, .int .i64 size] w (ByW (octs (two n) (clamp size)) w) := by
  have h1 : 1 ≤ m := by omega
  refine callsIn_of_wp_marks Tryz.func68 rfl trivial ?_ rfl
  simp only [Tryz.ntmps68, List.size_toArray, List.length_cons, List.length_nil, Nat.reduceAdd, Nat.reduceSub, Array.replicate_succ, Array.replicate_zero, List.push_toArray, List.append_toArray, List.nil_append, List.cons_append]
  obtain ⟨i0, hi, hz0, hz1, hz2⟩ := info_parts Tryz.infoByte
  have hU : IntKind.u64.wrap n = (two n : Nat) := wrap_two n
  have hx : two n < M := by unfold two M; omega
  generalize two n = x at *
  have H8 := clamp_le size
  have hCC := clamp_cases size
  generalize clamp size = s at *
  rcases hCC with ⟨hc0, hC⟩ | ⟨hc0, hc8, hC⟩ | ⟨hc8, hC⟩
  all_goals
    have HC := Lib.hid hC
    clear hC
    gi_wp2_with (refine ⟨trivial, ?_⟩; gi_at_call 116; refine (octets_in Fence.wide (m - 1) trivial rfl _ _ _).mono ?_; rintro e w' ⟨rfl, rfl⟩)
    generalize hW5 : World.alloc _ _ = W5
    have k0 : Boxed W5 w.heap.size 35 (.slice none 0 0) := by rw [← hW5]; exact ((Boxed.new _ _ _).alloc _).alloc _
    have k1 : Boxed W5 (w.heap.size + 1) 22 (.int .u64 (x : Nat)) := by rw [← hW5]; exact (Blk.new' (vs := [.int .u64 (x : Nat)]) (by simp)).alloc _
    have k2 : Boxed W5 (w.heap.size + 1 + 1) 3 (.int .i64 (s : Nat)) := by rw [HC.out, ← hW5]; exact Blk.new' (vs := [.int .i64 _]) (by simp)
    have hB0 : Below w.heap.size w W5 := by rw [← hW5]; exact chainA (chainA (chain0 _ _) _) _
    have hz : W5.heap.size = w.heap.size + 3 := by rw [← hW5]; simp
    clear hW5
    refine wpIn_rangeFunc_ownF (S := fun ys => ys = octs x s) rfl h1 (gf := 163) (lb := #[.pointer (some ⟨w.heap.size + 1 + 1, 0, none⟩), .pointer (some ⟨w.heap.size + 1, 0, none⟩)]) rfl trivial (enters_of Tryz.func163 (by kernel_rfl) rfl)
      (octets1_stops Fence.wide (m - 1) trivial rfl (by omega) x s H8 (w.heap.size + 1) (w.heap.size + 1 + 1) W5 k1.lt k2.lt (k1.cell) k2.cell (KeepB (w.heap.size + 1)) (fun A B h => World.cell?_of_block h)) KeepB.t (KeepB.b k1.lt) (Below.refl _ _) (fun _ => rfl)
      (NumI w.heap.size (w.heap.size + 1) x w) (fun _ _ _ => False) (numI_own (Nat.le_refl _) (by omega)) (fun _ _ _ _ _ hs _ _ => hs)
      ⟨⟨⟨_, k0, World.ownsRow_nil _ _ _ _, trivial⟩, k1⟩, hB0⟩ ?_ ?_ ?_ ?_ ?_
    rotate_left
    · intro l x W K hK
      gi_wp2
      exact hK
    · rintro l pre o W ⟨⟨⟨v, kv, hown, _⟩, kn⟩, hB⟩ hlt
      have ko := kv.cell
      have kf := kv.frozen
      have hNW : w.heap.size ≤ W.heap.size := hB.size
      gi_wp2_with (gi_at_builtin; refine wpListIn_append_own _ rfl _ _ 35 rfl w.heap.size 5 i0 (.int .u8 0) 1 1 Tryz.underlying35 hi hz0 hz1 hz2 rfl (by decide) v pre.length (pre.map bv) rfl (hown.alloc _) ⟨W.heap.size, 0, none⟩ 1 1 [bv o] rfl rfl (cell_one_new _ _ _) (by simp [Value.oneCell']) (by unfold maxLen; omega) (by omega) (by simp; omega) ?_; intro v' w1 hown' hgrow _; obtain ⟨g, cap, rfl⟩ := ownsRow_succ hown'; obtain ⟨hv1, kv', hrow', hk3, hbw⟩ := kv.appended (by decide) hown hNW (Nat.le_refl _) hown' hgrow; have ko1 := hv1.cell; have kf1 := hv1.frozen)
      have hn1 : W.heap.size ≤ w1.heap.size := Nat.le_trans (by simp) hgrow.size
      have kn1 : Boxed w1 (w.heap.size + 1) 22 (.int .u64 (x : Nat)) := (kn.alloc _).kept hgrow (Boxed.not_row kn (by decide) hown)
      have kn3 := kn1.kept (grownBy_setCell' w1 w.heap.size (.slice (some ⟨g, 0, none⟩) (pre.length + 1) cap)) (by simp)
      exact ⟨hk3, kn3.trans kn.symm, ⟨⟨_, kv', by simpa using hrow', trivial⟩, kn3⟩, hB.trans hbw⟩
    · rintro D ys W hD rfl ⟨⟨⟨v, kv, hown, _⟩, kn⟩, hB⟩ hK
      have ko := kv.cell
      have HZ := Lib.hid hz
      clear hz
      gi_wp2
      have hB' := hB.trans (belowK_b (w := w) (Nat.le_refl _) _ D _ (.deferred none) (by have := HZ.out; omega) hK rfl rfl)
      have hown3 := ownsRow_putObj hown (.deferred none) hK rfl
      refine ⟨by simp, .inl ⟨_, _, rfl, run_takeDeferred hK, ?_⟩⟩
      refine ⟨v, ?_, ?_⟩
      · simp [results, Tryz.f68, go_sem]
      · exact ⟨v, rfl, BSl.of_own hown3, hB'⟩
    · rintro D c pre W _ _ h _
      exact h.elim
theorem num_any (n size : Int) (hs : -9223372036854775808 ≤ size) (hs' : size ≤ 9223372036854775807) (w : World) :
    Calls Tryz.prog 68 #[.int .i64 n, .int .i64 size] w (ByW (octs (two n) (clamp size)) w) := callsIn_wide.1 (num_in 3 (by omega) n size hs hs' w)
end Go.Proofs.YtechcdkakgpnkaaGreat
namespace Go.Proofs.YtechcdkakgpnkaaGreat
open Go.RowKit Go.Shelf
def Spares (e : TypeId) (w W : World) : Prop := w.heap.size ≤ W.heap.size ∧ ∀ (j : Nat) (o : Obj), w.heap[j]? = some o → (∀ cur fr, o ≠ .cells cur e fr) → W.heap[j]? = some o
theorem Spares.of_below {e : TypeId} {w W : World} (h : Below w.heap.size w W) : Spares e w W := ⟨h.size, fun j _ hj _ => (h.block j (Array.getElem?_eq_some_iff.1 hj).1).trans hj⟩
theorem Spares.t {e : TypeId} {X Y Z : World} (h : Spares e X Y) (k : Spares e Y Z) : Spares e X Z := ⟨Nat.le_trans h.1 k.1, fun j o hj ho => k.2 j o (h.2 j o hj ho) ho⟩
theorem Spares.grown {e : TypeId} {w W W' : World} {row : Option Nat} (h : Spares e w W) (hg : W.grownBy W' row) (hr : ∀ r, row = some r → w.heap.size ≤ r ∨ ∃ cur fr, W.heap[r]? = some (.cells cur e fr)) : Spares e w W' :=
  ⟨Nat.le_trans h.1 hg.size, fun j o hj ho => by
    have hjl := (Array.getElem?_eq_some_iff.1 hj).1
    have hW := h.2 j o hj ho
    refine (hg.block j (Array.getElem?_eq_some_iff.1 hW).1 (fun e' => ?_)).trans hW
    rcases hr j e'.symm with h1 | ⟨cur, fr, h1⟩
    · omega
    · rw [hW] at h1; cases h1; exact ho cur fr rfl⟩
theorem Spares.boxed {e t : TypeId} {w W : World} {B : Nat} {v : Value} (h : Spares e w W) (hb : Boxed w B t v) (hne : t ≠ e) : Boxed W B t v := h.2 B _ hb (fun cur fr e' => by cases e'; exact hne rfl)
theorem Spares.blk {e t : TypeId} {w W : World} {B : Nat} {vs : List Value} (h : Spares e w W) (hb : Blk w B t vs) (hne : t ≠ e) : Blk W B t vs := h.2 B _ hb (fun cur fr e' => by cases e'; exact hne rfl)
theorem Spares.others {e : TypeId} {w W : World} (h : Spares e w W) : KeepsOthers w W := ⟨h.1, fun k o hk ho => h.2 k o hk (fun cur fr e' => by rw [e'] at ho; cases ho)⟩
theorem ownFrom_spares {β : Type} {B : Nat} {e : TypeId} {w : World} (hB : w.heap.size ≤ B) : OwnFrom B (fun (_ : β) W => Spares e w W) := fun _ _ _ _ hs hg hr =>
  hs.grown hg (fun r e' => .inl (Nat.le_trans hB (hr r e').1))
theorem ownsRow_block {W : World} {base : Nat} {e : TypeId} {size k : Nat} {v : Value} {xs : List Value} (h : W.ownsRow base e size v k xs) : ∀ r, v.ownBlock = some r → ∃ cur fr, W.heap[r]? = some (.cells cur e fr) := by
  intro r hr
  rcases h.2 with ⟨rfl, _⟩ | ⟨g, cap, cur, rfl, _, hgb, _⟩
  · simp [Value.ownBlock] at hr
  · obtain rfl : g = r := by simpa [Value.ownBlock] using hr
    exact ⟨_, _, hgb⟩
theorem ownsRow_slice {W : World} {base : Nat} {e : TypeId} {size k : Nat} {v : Value} {xs : List Value} (h : W.ownsRow base e size v k xs) : ∃ a c, v = .slice a k c := by
  rcases h.2 with ⟨rfl, rfl⟩ | ⟨g, cap, cur, rfl, _⟩
  · exact ⟨_, _, rfl⟩
  · exact ⟨_, _, rfl⟩
end Go.Proofs.YtechcdkakgpnkaaGreat
namespace Go.Proofs.YtechcdkakgpnkaaGreat
open Go.RowKit Go.Shelf
attribute [local go_sem] Oper.semAt_some
def SeqI (n₀ B Bn x k : Nat) (xs : List Value) (w : World) (pre : List UInt8) (W : World) : Prop :=
  (((∃ v, Boxed W B 35 v ∧ W.ownsRow n₀ 5 1 v (k + pre.length) (xs ++ pre.map bv) ∧ True) ∧ Boxed W Bn 22 (.int .u64 (x : Nat))) ∧ Below n₀ w W) ∧ Spares 5 w W
theorem seqI_own {n₀ Bb Bn x k : Nat} {xs : List Value} {w : World} {B : Nat} (h : n₀ ≤ w.heap.size) (hB : w.heap.size ≤ B) : OwnFrom B (SeqI n₀ Bb Bn x k xs w) :=
  OwnFrom.and (OwnFrom.and (OwnFrom.and (Own.from (holdsRow_own n₀ Bb 35 5 1 (fun pre : List UInt8 => k + pre.length) (fun pre => xs ++ pre.map bv) (fun _ _ => True)) _)
    (Own.from (fun _ X Y row hs hg hr => blk_own Bn 22 (fun (_ : Unit) => [.int .u64 (x : Nat)]) () X Y row hs hg hr) _)) (ownFrom_below h (Nat.le_trans h hB))) (ownFrom_spares hB)
def SeqW (n₀ k : Nat) (xs : List Value) (w : World) (e : Ending) (W' : World) : Prop :=
  ∃ v', e = .returned v' ∧ W'.ownsRow n₀ 5 1 v' k xs ∧ Below n₀ w W' ∧ Spares 5 w W'
set_option maxRecDepth 100000 in
set_option maxHeartbeats 4000000 in
theorem appendSeq_in (m : Nat) (hm : 3 ≤ m) (n₀ k x s : Nat) (hk : k ≤ 1000000) (hs : s ≤ 8) (sv : Value) (xs : List Value) (Bn Bs : Nat) (w : World) (hn₀ : n₀ ≤ w.heap.size) (hrow : w.ownsRow n₀ 5 1 sv k xs)
    (kn : Boxed w Bn 22 (.int .u64 (x : Nat))) (ks : Boxed w Bs 3 (.int .i64 (s : Nat))) :
    CallsIn Fence.wide m Tryz.prog 118 #[sv, .func (.func 163) #[] #[.pointer (some ⟨Bs, 0, none⟩), .pointer (some ⟨Bn, 0, none⟩)]] w (SeqW n₀ (k + s) (xs ++ (octs x s).map bv) w) := by
  have h1 : 1 ≤ m := by omega
  obtain ⟨a, c, rfl⟩ := ownsRow_slice hrow
  refine callsIn_of_wp_marks Tryz.func118 rfl trivial ?_ rfl
  simp only [Tryz.ntmps118, List.size_toArray, List.length_cons, List.length_nil, Nat.reduceAdd, Nat.reduceSub, Array.replicate_succ, Array.replicate_zero, List.push_toArray, List.append_toArray, List.nil_append, List.cons_append]
  obtain ⟨i0, hi, hz0, hz1, hz2⟩ := info_parts Tryz.infoByte
  gi_wp2
  generalize hW5 : World.alloc _ _ = W5
  have k0 : Boxed W5 w.heap.size 35 (.slice a k c) := by rw [← hW5]; exact Boxed.new _ _ _
  have k1 : Boxed W5 Bn 22 (.int .u64 (x : Nat)) := by rw [← hW5]; exact kn.alloc _
  have k2 : Boxed W5 Bs 3 (.int .i64 (s : Nat)) := by rw [← hW5]; exact ks.alloc _
  have hB0 : Below w.heap.size w W5 := by rw [← hW5]; exact chain0 _ _
  have hrow5 : W5.ownsRow n₀ 5 1 (.slice a k c) k xs := by rw [← hW5]; exact hrow.alloc _
  have hz : W5.heap.size = w.heap.size + 1 := by rw [← hW5]; simp
  have hBnw : Bn < w.heap.size := kn.lt
  clear hW5
  refine wpIn_rangeFunc_ownF (S := fun ys => ys = octs x s) rfl h1 (gf := 163) (lb := #[.pointer (some ⟨Bs, 0, none⟩), .pointer (some ⟨Bn, 0, none⟩)]) rfl trivial (enters_of Tryz.func163 (by kernel_rfl) rfl)
    (octets1_stops Fence.wide (m - 1) trivial rfl (by omega) x s hs Bn Bs W5 k1.lt k2.lt k1.cell k2.cell (KeepB Bn) (fun A B h => World.cell?_of_block h)) KeepB.t (KeepB.b k1.lt) (Below.refl _ _) (fun _ => rfl)
    (SeqI n₀ w.heap.size Bn x k xs w) (fun _ _ _ => False) (seqI_own hn₀ (by omega)) (fun _ _ _ _ _ hs _ _ => hs)
    ⟨⟨⟨⟨_, k0, by simpa using hrow5, trivial⟩, k1⟩, hB0.mono hn₀⟩, Spares.of_below hB0⟩ ?_ ?_ ?_ ?_ ?_
  rotate_left
  · intro l x W K hK
    gi_wp2
    exact hK
  · rintro l pre o W ⟨⟨⟨⟨v, kv, hown, _⟩, kn⟩, hB⟩, hsp⟩ hlt
    have ko := kv.cell
    have kf := kv.frozen
    have hNW : n₀ ≤ W.heap.size := Nat.le_trans hn₀ hB.size
    gi_wp2_with (gi_at_builtin; refine wpListIn_append_own _ rfl _ _ 35 rfl n₀ 5 i0 (.int .u8 0) 1 1 Tryz.underlying35 hi hz0 hz1 hz2 rfl (by decide) v (k + pre.length) (xs ++ pre.map bv) rfl (hown.alloc _) ⟨W.heap.size, 0, none⟩ 1 1 [bv o] rfl rfl (cell_one_new _ _ _) (by simp [Value.oneCell']) (by unfold maxLen; omega) (by omega) (by simp; omega) ?_; intro v' w1 hown' hgrow _; obtain ⟨g, cap, rfl⟩ := ownsRow_succ hown'; obtain ⟨hv1, kv', hrow', hk3, hbw⟩ := kv.appended (by decide) hown hNW hn₀ hown' hgrow; have ko1 := hv1.cell; have kf1 := hv1.frozen)
    have kn1 : Boxed w1 Bn 22 (.int .u64 (x : Nat)) := (kn.alloc _).kept hgrow (Boxed.not_row kn (by decide) hown)
    have kn3 := kn1.kept (grownBy_setCell' w1 w.heap.size (.slice (some ⟨g, 0, none⟩) (k + pre.length + 1) cap)) (fun e => by cases e; omega)
    have hsp1 := ((hsp.grown (World.grownBy_alloc W (.cells #[bv o] 5) none) (fun r e => by cases e)).grown hgrow (fun r e => .inr (ownsRow_block (hown.alloc _) r e))).grown (grownBy_setCell' w1 w.heap.size (.slice (some ⟨g, 0, none⟩) (k + pre.length + 1) cap)) (fun r e => by cases e; exact .inl (Nat.le_refl _))
    exact ⟨hk3, kn3.trans kn.symm, ⟨⟨⟨_, kv', by simpa [Nat.add_assoc] using hrow', trivial⟩, kn3⟩, hB.trans hbw⟩, hsp1⟩
  · rintro D ys W hD rfl ⟨⟨⟨⟨v, kv, hown, _⟩, kn⟩, hB⟩, hsp⟩ hK
    have ko := kv.cell
    have HZ := Lib.hid hz
    clear hz
    gi_wp2
    have hD' : w.heap.size ≤ D := by have := HZ.out; omega
    have hB' := hB.trans (belowK_b (w := w) hn₀ _ D _ (.deferred none) hD' hK rfl rfl)
    have hown3 := ownsRow_putObj hown (.deferred none) hK rfl
    have hsp3 := hsp.grown (grownBy_putObj' _ D (.deferred none)) (fun r e => by cases e; exact .inl hD')
    rw [octs_length] at hown3
    refine ⟨by simp, .inl ⟨_, _, rfl, run_takeDeferred hK, ?_⟩⟩
    refine ⟨v, ?_, ?_⟩
    · simp [results, Tryz.f118, go_sem]
    · exact ⟨v, rfl, hown3, hB', hsp3⟩
  · rintro D c pre W _ _ h _
    exact h.elim
end Go.Proofs.YtechcdkakgpnkaaGreat
namespace Go.Proofs.YtechcdkakgpnkaaGreat
open Go.RowKit Go.Shelf
def KeepB2 (B B' : Nat) (W W' : World) : Prop := KeepB B W W' ∧ KeepB B' W W'
theorem KeepB2.t {B B' : Nat} {X Y Z : World} (h : KeepB2 B B' X Y) (k : KeepB2 B B' Y Z) : KeepB2 B B' X Z := ⟨h.1.t k.1, h.2.t k.2⟩
theorem KeepB2.b {B B' : Nat} {w : World} (hB : B < w.heap.size) (hB' : B' < w.heap.size) (W : World) (l : Nat) (o o' : Obj) (hl : w.heap.size ≤ l) (h1 : W.heap[l]? = some o) (h2 : o.isCells = false) (h3 : o.isWalk = false) : KeepB2 B B' W (W.putObj l o') :=
  ⟨KeepB.b hB W l o o' hl h1 h2 h3, KeepB.b hB' W l o o' hl h1 h2 h3⟩
end Go.Proofs.YtechcdkakgpnkaaGreat
namespace Go.Proofs.YtechcdkakgpnkaaGreat
open Go.RowKit Go.Shelf
attribute [local go_sem] Oper.semAt_some
theorem downs_at {a0 a1 a2 a3 : Nat} (ha : Ok4 a0 a1 a2 a3) {k : Nat} (hk : k < 4) : (downs ha)[k]? = some (pw (3 - k) (word a0 a1 a2 a3 (3 - k)) (by omega) (word_lt ha.h0 ha.h1 ha.h2 ha.h3 _)) := by
  have : k = 0 ∨ k = 1 ∨ k = 2 ∨ k = 3 := by omega
  rcases this with rfl | rfl | rfl | rfl <;> rfl
set_option maxRecDepth 100000 in
set_option maxHeartbeats 4000000 in
theorem backward1_stops (F : Fence) (m : Nat) (h : F.fn 164) (hro : F.round = none) (hm : 1 ≤ m) {a0 a1 a2 a3 : Nat} (ha : Ok4 a0 a1 a2 a3) (Ba Bs : Nat) (w : World) (hb : BlkW w Ba a0 a1 a2 a3) (hs : Boxed w Bs 191 (.slice (some ⟨Ba, 0, none⟩) 4 4)) :
    SeqStopsK F m Tryz.prog 164 #[.pointer (some ⟨Bs, 0, none⟩)] pwEnc (KeepB2 Ba Bs) (fun ys => ys = downs ha) (fun _ => True) 4 w := fun l J Jx W hW _ _ hY h0 => by
  have hb' : Blk W Ba 24 (ws (word a0 a1 a2 a3)) := hb.below hW hb.lt
  have hs' : Boxed W Bs 191 (.slice (some ⟨Ba, 0, none⟩) 4 4) := (hW.block Bs hs.lt).trans hs
  clear hb hs
  have hsc := hs'.cell
  refine callsIn_of_wp Tryz.func164 rfl h ?_ hro
  simp only [Tryz.ntmps164, List.size_toArray, List.length_cons, List.length_nil, Nat.reduceAdd, Nat.reduceSub, Array.replicate_succ, Array.replicate_zero, List.push_toArray, List.append_toArray, List.nil_append, List.cons_append]
  gi_wp2
  clear hsc
  gi_loopw [3] (fun i wr => ∃ k : Nat, k ≤ 4 ∧ i = .int .i64 (3 - (k : Int)) ∧ Blk wr Ba 24 (ws (word a0 a1 a2 a3)) ∧ Boxed wr Bs 191 (.slice (some ⟨Ba, 0, none⟩) 4 4) ∧ J ((downs ha).take k) wr) (fun i _ => ((intOf i) + 1).toNat)
  case atStart => exact ⟨0, by omega, rfl, hb', hs', h0⟩
  case round =>
    obtain ⟨k, hk, rfl, hbr, hsr, hJs⟩ := hrel
    by_cases hlt : k < 4
    · have hdk := downs_at ha hlt
      obtain ⟨fn, tmps, assign, body, hy, hR⟩ := hY _ (pw (3 - k) (word a0 a1 a2 a3 (3 - k)) (by omega) (word_lt ha.h0 ha.h1 ha.h2 ha.h3 _)) wr hJs (by simp [downs]; omega)
      have ht : (downs ha).take (k + 1) = (downs ha).take k ++ [pw (3 - k) (word a0 a1 a2 a3 (3 - k)) (by omega) (word_lt ha.h0 ha.h1 ha.h2 ha.h3 _)] := by rw [List.take_add_one, hdk]; rfl
      rw [← ht] at hR
      clear ht hdk
      have hcx := hbr.cell (3 - k)
      rw [ws_at _ (by omega)] at hcx
      have hp : (3 : Int) - k = ((3 - k : Nat) : Int) := by omega
      have hpl : 3 - k ≤ 3 := by omega
      change (Instr.yield l #[.int .i64 ((3 - k : Nat) : Int), .int .u64 ((word a0 a1 a2 a3 (3 - k) : Nat) : Int)]).run _ _ = _ at hy
      rw [hp]
      have HP := Lib.hid hp
      clear hp
      generalize word a0 a1 a2 a3 (3 - k) = x at *
      generalize 3 - k = p at *
      have hsc := hsr.cell
      gi_wp2
      refine hR.mono ?_
      clear hy
      rintro e W3 (⟨rfl, hJ3, hk3⟩ | ⟨rfl, hJx3⟩)
      · have hb3 : Blk W3 Ba 24 (ws (word a0 a1 a2 a3)) := hk3.1.trans hbr
        have hs3 : Boxed W3 Bs 191 (.slice (some ⟨Ba, 0, none⟩) 4 4) := hk3.2.trans hsr
        clear hcx hsc
        gi_wp2
        have hq : (3 : Int) - ((k + 1 : Nat) : Int) = (p : Int) - 1 := by have := HP.out; omega
        go_roundw
        case rel => exact ⟨k + 1, by omega, by rw [hq], hb3, hs3, hJ3⟩
        case measure => simp [intOf]
      · gi_wp2
        refine bodyPost_ret (results_none rfl _ _ _) rfl ?_
        exact ⟨⟨_, rfl⟩, .inr ⟨_, trivial, hJx3⟩⟩
    · obtain rfl : k = 4 := by omega
      gi_wp2
      go_end0
      exact ⟨⟨_, rfl⟩, .inl ⟨_, rfl, hJs⟩⟩
set_option maxHeartbeats 1000000 in
theorem backward_in (F : Fence) (m : Nat) (h : F.fn 117) (hro : F.round = none) (sv : Value) (hsv : ∃ a l c, sv = .slice a l c) (w : World) :
    CallsIn F m Tryz.prog 117 #[sv] w fun e w' => e = .returned (.func (.func 164) #[] #[.pointer (some ⟨w.heap.size, 0, none⟩)]) ∧ w' = w.alloc (.cells #[sv] 191) := by
  obtain ⟨a, l, c, rfl⟩ := hsv
  refine callsIn_of_wp Tryz.func117 rfl h ?_ hro
  simp only [Tryz.ntmps117, List.size_toArray, List.length_cons, List.length_nil, Nat.reduceAdd, Nat.reduceSub, Array.replicate_succ, Array.replicate_zero, List.push_toArray, List.append_toArray, List.nil_append, List.cons_append]
  gi_wp2
  go_ret
  exact ⟨rfl, rfl⟩
end Go.Proofs.YtechcdkakgpnkaaGreat
namespace Go.Proofs.YtechcdkakgpnkaaGreat
open Go.RowKit
variable {P : Program} {ops : Array Oper} {md : Region.Mode}
def noDefer (l : List Oper) : Bool := l.all fun o => match o.op with | .defer _ => false | _ => true
theorem noDefer_at {l : List Oper} (h : noDefer l = true) {i : Nat} {o : Oper} (ho : l[i]? = some o) (c : Call) : o.op ≠ .defer c := by
  intro e
  have := List.all_eq_true.1 h o (List.mem_of_getElem? ho)
  rw [e] at this
  cases this
theorem rowsIn_wide {n : Nat} {row : String} {args : Array Value} {w : World} {R : Value → World → Prop} (h : Go.Rows P row args w R) : RowsIn Fence.wide n P row args w R :=
  fun c cs _ => let ⟨v, w', r, s⟩ := h c cs; ⟨v, w', r, stepsIn_wide.2 s⟩
theorem Oper.wpIn_round {r n : Nat} {o : Oper} {a : Act} {w : World} {K : Act → World → Prop} {Q : Exit → Act → World → Prop} (hd : ∀ c, o.op ≠ .defer c) (h : o.wp P a w K Q) : o.wpIn (Fence.wide.inRound r) n P a w K Q := by
  refine ⟨fun _ _ => trivial, ?_⟩
  rw [Oper.semAt_eq _ _ _ hd]
  unfold Oper.wp at h
  generalize (execOp a.eval o).run P w = res at *
  cases res with
  | ok x w' =>
    cases x <;> simp only [Oper.upon, Oper.uponIn] at h ⊢ <;> first | exact h | exact ⟨fun e => (by cases e), (callsIn_wide (n := n - 1)).2 h⟩ | exact ⟨fun e => (by cases e), rowsIn_wide h⟩ | exact h.elim
  | halt x w' => cases x <;> simp only [Oper.upon, Oper.uponIn] at h ⊢ <;> exact h
theorem wpOpIn_round {r n : Nat} {l : List Oper} {Q : Exit → Act → World → Prop} {i : Nat} {K : Act → World → Prop} {a : Act} {w : World} (hd : noDefer l = true) (hq : ¬ LetsOut Q) (h : wpOp P l.toArray Q i K a w) :
    wpOpIn (Fence.wide.inRound r) n P l.toArray Q i K a w := by
  unfold wpOp at h
  unfold wpOpIn
  split
  · rename_i ho; simp only [ho] at h; exact h
  · rename_i o ho
    simp only [ho] at h
    split
    · rename_i hw; simp only [hw, if_true] at h
      exact Oper.wpIn_round (noDefer_at hd (by simpa using ho)) (h.resolve_right fun hh => hq hh.2)
    · rename_i hw; simp only [hw] at h; exact ⟨fun _ _ => trivial, h⟩
theorem wpAnyIn_round {r n : Nat} {l : List Oper} {Q : Exit → Act → World → Prop} (hd : noDefer l = true) (hq : ¬ LetsOut Q) : ∀ (fuel : Nat) (listed : Array Bool) (a : Act) (w : World),
    wpAny P md l.toArray Q fuel listed a w → wpAnyIn (Fence.wide.inRound r) n P md l.toArray Q fuel listed a w
  | 0, _, _, _, h => h
  | fuel + 1, _, _, _, h => ⟨h.1, fun i hi => wpOpIn_mono (fun a w => wpAnyIn_round hd hq fuel _ a w) (wpOpIn_round hd hq (h.2 i hi))⟩
theorem wpIn_round_any {r n id : Nat} {Q : Exit → Act → World → Prop} {a : Act} {w : World} {l : List Oper} (hm : P.follows .mixedOrders = true) (hd : noDefer l = true)
    (h : wpAny P .any l.toArray (Exit.then (fun a w => Q .normal a w) (fun _ _ _ => False)) l.length (Array.replicate l.length false) a w.drew) : (Code.region id l.toArray true).wpIn (Fence.wide.inRound r) n P Q a w := by
  refine wpIn_mono (wpIn_region_any (Q := Exit.then (fun a w => Q .normal a w) (fun _ _ _ => False)) hm (wpAnyIn_round hd (fun ⟨_, _, h⟩ => h) _ _ _ _ (by simpa using h))) ?_
  intro e a w hq
  cases e <;> first | exact hq | exact hq.elim
end Go.Proofs.YtechcdkakgpnkaaGreat
namespace Go.Proofs.YtechcdkakgpnkaaGreat
open Go.RowKit Go.Shelf
attribute [local go_sem] Oper.semAt_some
theorem octets_any (n s : Int) (w : World) :
    Calls Tryz.prog 116 #[.int .u64 n, .int .i64 s] w fun e w' => e = .returned (.func (.func 163) #[] #[.pointer (some ⟨w.heap.size + 1, 0, none⟩), .pointer (some ⟨w.heap.size, 0, none⟩)]) ∧ w' = (w.alloc (.cells #[.int .u64 n] 22)).alloc (.cells #[.int .i64 s] 3) :=
  callsIn_wide.1 (octets_in Fence.wide 1 trivial rfl n s w)
theorem appendSeq_any (n₀ k x s : Nat) (hk : k ≤ 1000000) (hs : s ≤ 8) (sv : Value) (xs : List Value) (Bn Bs : Nat) (w : World) (hn₀ : n₀ ≤ w.heap.size) (hrow : w.ownsRow n₀ 5 1 sv k xs)
    (kn : Boxed w Bn 22 (.int .u64 (x : Nat))) (ks : Boxed w Bs 3 (.int .i64 (s : Nat))) :
    Calls Tryz.prog 118 #[sv, .func (.func 163) #[] #[.pointer (some ⟨Bs, 0, none⟩), .pointer (some ⟨Bn, 0, none⟩)]] w (SeqW n₀ (k + s) (xs ++ (octs x s).map bv) w) :=
  callsIn_wide.1 (appendSeq_in 3 (by omega) n₀ k x s hk hs sv xs Bn Bs w hn₀ hrow kn ks)
def wOcts (pre : List PW) : List UInt8 := (pre.map fun x => octs x.1.2 8).flatten
theorem wOcts_snoc (pre : List PW) (x : PW) : wOcts (pre ++ [x]) = wOcts pre ++ octs x.1.2 8 := by simp [wOcts]
theorem wOcts_length (pre : List PW) : (wOcts pre).length = 8 * pre.length := by
  induction pre with
  | nil => rfl
  | cons x l ih => simp only [wOcts, List.map_cons, List.flatten_cons, List.length_append, octs_length, List.length_cons] at ih ⊢; omega
def wide8 (a0 a1 a2 a3 : Nat) : List UInt8 := octs a3 8 ++ (octs a2 8 ++ (octs a1 8 ++ octs a0 8))
theorem wOcts_downs {a0 a1 a2 a3 : Nat} (ha : Ok4 a0 a1 a2 a3) : wOcts (downs ha) = wide8 a0 a1 a2 a3 := by
  simp [wOcts, downs, pw, wide8]
def BWI (N B3 Bs a0 a1 a2 a3 : Nat) (w : World) (pre : List PW) (W : World) : Prop :=
  ((∃ v, Boxed W B3 35 v ∧ W.ownsRow N 5 1 v (8 * pre.length) ((wOcts pre).map bv) ∧ True) ∧ BlkW W N a0 a1 a2 a3 ∧ Boxed W Bs 191 (.slice (some ⟨N, 0, none⟩) 4 4)) ∧ Below N w W
theorem bwI_own {N B3 Bs a0 a1 a2 a3 : Nat} {w : World} {B : Nat} (h : N ≤ w.heap.size) (hB : N ≤ B) : OwnFrom B (BWI N B3 Bs a0 a1 a2 a3 w) :=
  OwnFrom.and (OwnFrom.and (Own.from (holdsRow_own N B3 35 5 1 (fun pre : List PW => 8 * pre.length) (fun pre => (wOcts pre).map bv) (fun _ _ => True)) _)
    (OwnFrom.and (Own.from (fun _ X Y row hs hg hr => blk_own N 24 (fun (_ : Unit) => [.int .u64 (a0 : Int), .int .u64 (a1 : Int), .int .u64 (a2 : Int), .int .u64 (a3 : Int)]) () X Y row hs hg hr) _)
      (Own.from (fun _ X Y row hs hg hr => blk_own Bs 191 (fun (_ : Unit) => [.slice (some ⟨N, 0, none⟩) 4 4]) () X Y row hs hg hr) _))) (ownFrom_below h hB)
set_option maxRecDepth 100000 in
set_option maxHeartbeats 4000000 in
theorem blobWide_in (m : Nat) (hm : 4 ≤ m) {a0 a1 a2 a3 : Nat} (ha : Ok4 a0 a1 a2 a3) (w : World) :
    CallsIn Fence.wide m Tryz.prog 69 #[wv a0 a1 a2 a3] w (ByW (wide8 a0 a1 a2 a3) w) := by
  have h1 : 1 ≤ m := by omega
  refine callsIn_of_wp_marks Tryz.func69 rfl trivial ?_ rfl
  simp only [Tryz.ntmps69, List.size_toArray, List.length_cons, List.length_nil, Nat.reduceAdd, Nat.reduceSub, Array.replicate_succ, Array.replicate_zero, List.push_toArray, List.append_toArray, List.nil_append, List.cons_append]
  obtain ⟨i0, hi, hz0, hz1, hz2⟩ := info_parts Tryz.infoByte
  gi_wp2_with (first
    | (gi_at_make; refine wpListIn_make_own _ rfl _ _ 35 rfl w.heap.size 5 i0 (.int .u8 0) 1 Tryz.underlying35 hi hz0 hz1 .i64 .i64 32 32 rfl rfl rfl (by rw [hz2]; omega) (by unfold maxLen; omega) (by simp) ?_; intro w1 hown hgrow)
    | (refine ⟨trivial, ?_⟩; gi_at_call 117; refine (backward_in Fence.wide (m - 1) trivial rfl _ ⟨_, _, _, rfl⟩ _).mono ?_; rintro e w' ⟨rfl, rfl⟩))
  have e1 : w.heap.size + 1 ≤ w1.heap.size := by have := hgrow.size; simpa using this
  have kA1 : BlkW w1 w.heap.size a0 a1 a2 a3 := Blk.kept (Blk.new' rfl) hgrow (by simp)
  have hB1 : Below w.heap.size w w1 := (chain0 w _).grown hgrow (by simp) (fun k e => by cases e)
  generalize hW5 : World.alloc (World.alloc _ _) _ = W5
  have k0 : Boxed W5 w1.heap.size 35 (.slice (some ⟨w.heap.size + 1, 0, none⟩) 0 32) := by rw [← hW5]; exact (Boxed.new _ _ _).alloc _
  have k1 : Boxed W5 (w1.heap.size + 1) 191 (.slice (some ⟨w.heap.size, 0, none⟩) 4 4) := by rw [← hW5]; exact Blk.new' (vs := [_]) (by simp)
  have kA : BlkW W5 w.heap.size a0 a1 a2 a3 := by rw [← hW5]; exact (kA1.alloc _).alloc _
  have hB0 : Below w.heap.size w W5 := by rw [← hW5]; exact chainA (chainA hB1 _) _
  have hown5 : W5.ownsRow w.heap.size 5 1 (.slice (some ⟨w.heap.size + 1, 0, none⟩) 0 32) 0 [] := by rw [← hW5, show w.heap.size + 1 = (w.alloc (.cells #[.int .u64 (a0 : Int), .int .u64 (a1 : Int), .int .u64 (a2 : Int), .int .u64 (a3 : Int)] 24)).heap.size by simp]; exact (hown.alloc _).alloc _
  have hz : W5.heap.size = w1.heap.size + 2 := by rw [← hW5]; simp
  clear hW5 hgrow
  have hmx : Tryz.prog.follows .mixedOrders = true := by kernel_rfl
  refine wpIn_rangeFunc_ownF (S := fun ys => ys = downs ha) rfl h1 (gf := 164) (lb := #[.pointer (some ⟨w1.heap.size + 1, 0, none⟩)]) rfl trivial (enters_of Tryz.func164 (by kernel_rfl) rfl)
    (backward1_stops Fence.wide (m - 1) trivial rfl (by omega) ha w.heap.size (w1.heap.size + 1) W5 kA k1) KeepB2.t (KeepB2.b kA.lt k1.lt) (Below.refl _ _) (fun _ => rfl)
    (BWI w.heap.size w1.heap.size (w1.heap.size + 1) a0 a1 a2 a3 w) (fun _ _ _ => False) (bwI_own (Nat.le_refl _) (by omega)) (fun _ _ _ _ _ hs _ _ => hs)
    ⟨⟨⟨_, k0, hown5, trivial⟩, kA, k1⟩, hB0⟩ ?_ ?_ ?_ ?_ ?_
  rotate_left
  · intro l x W K hK
    gi_wp2
    exact hK
  · rintro l pre ⟨⟨i, x⟩, hix⟩ W ⟨⟨⟨v, kv, hown, _⟩, kA, kS⟩, hB⟩ hlt
    have ko := kv.cell
    have kf := kv.frozen
    have l3 := kv.lt
    have hNW : w.heap.size ≤ W.heap.size := hB.size
    gi_wp2_with fail
    refine wpIn_round_any hmx (by kernel_rfl) ?_
    refine wpAny_take (i := 1) (v := ?_) rfl (by kernel_rfl) (by kernel_rfl) (by kernel_rfl) (fun _ _ _ h => h) (Or.inl ⟨rfl, ?_⟩) ?_
    rotate_left
    · intro w'; go_simp; with_reducible rfl
    refine wpAny_ready (rs := [0, 2]) (by kernel_rfl) (by simp) ?_
    refine AllReady.cons rfl (fun K hK => ?_) (AllReady.cons rfl (fun K hK => ?_) AllReady.nil)
    go_simp
    refine hK _ _ ?_
    clear hK K
    refine wpAny_ready (rs := [2]) (by kernel_rfl) (by simp) ?_
    refine AllReady.cons rfl (fun K hK => ?_) AllReady.nil
    go_simp
    refine (octets_any _ _ _).mono ?_
    rintro e w2 ⟨rfl, rfl⟩
    refine hK _ _ ?_
    clear hK K
    rotate_left
    go_simp
    refine (octets_any _ _ _).mono ?_
    rintro e w2 ⟨rfl, rfl⟩
    refine hK _ _ ?_
    clear hK K
    refine wpAny_ready (rs := [0]) (by kernel_rfl) (by simp) ?_
    refine AllReady.cons rfl (fun K hK => ?_) AllReady.nil
    go_simp
    refine hK _ _ ?_
    clear hK K
    rotate_left
    all_goals
      refine wpAny_ready (rs := [3]) (by kernel_rfl) (by simp) ?_
      refine AllReady.cons rfl (fun K hK => ?_) AllReady.nil
      go_simp
      have kv2 : Boxed ((W.drew.alloc (.cells #[.int .u64 (x : Int)] 22)).alloc (.cells #[.int .i64 8] 3)) w1.heap.size 35 v := (Boxed.alloc (W := W.drew) kv _).alloc _
      have hsp2 : Spares 5 W ((W.drew.alloc (.cells #[.int .u64 (x : Int)] 22)).alloc (.cells #[.int .i64 8] 3)) := Spares.of_below ((((Below.refl _ W).drew).alloc (Nat.le_refl _) _).alloc (by simp) _)
      have hb2 : Below w.heap.size W ((W.drew.alloc (.cells #[.int .u64 (x : Int)] 22)).alloc (.cells #[.int .i64 8] 3)) := (((Below.refl _ W).drew).alloc (by simpa using hNW) _).alloc (by simp; omega) _
      refine (appendSeq_any w.heap.size (8 * pre.length) x 8 (by omega) (by omega) v ((wOcts pre).map bv) _ _ _ (by simp; omega) ((World.ownsRow.alloc (w := W.drew) hown _).alloc _) ((Boxed.new W.drew _ _).alloc _) (Blk.new' (vs := [_]) (by simp))).mono ?_
      rintro e w3 ⟨v', rfl, hown3, hb3, hsp3⟩
      refine hK _ _ ?_
      clear hK K
      have hsp := hsp2.t hsp3
      have hbb := hb2.trans hb3
      clear hsp2 hsp3 hb2 hb3
      have kv3 := hsp.boxed kv (by decide)
      have kA3 := hsp.blk kA (by decide)
      have kS3 := hsp.boxed kS (by decide)
      have ko3 := kv3.cell
      have kf3 := kv3.frozen
      obtain ⟨a, c, rfl⟩ := ownsRow_slice hown3
      have HW := Lib.hid (wOcts_snoc pre ⟨(i, x), hix⟩)
      refine wpAny_ready (rs := [4]) (by kernel_rfl) (by simp) ?_
      refine AllReady.cons rfl (fun K hK => ?_) AllReady.nil
      go_simp
      refine hK _ _ ?_
      clear hK K
      refine wpAny_done (by kernel_rfl) ?_ _
      have hge : w.heap.size < w1.heap.size := by omega
      have hgS := grownBy_setCell' w3 w1.heap.size (.slice a (8 * pre.length + 8) c)
      have qv := kv3.set (.slice a (8 * pre.length + 8) c)
      have qA := Blk.other kA3 (B' := w1.heap.size) 0 (.slice a (8 * pre.length + 8) c) (by omega)
      have qS := kS3.kept hgS (by simp)
      have qo := hown3.kept hgS (.inr (Boxed.not_row kv3 (by decide) hown3).symm)
      refine ⟨hsp.others.trans (KeepsOthers.setCell _ _ _), ⟨qA.trans kA.symm, qS.trans kS.symm⟩, ⟨⟨_, qv, ?_, trivial⟩, qA, qS⟩, hB.trans (hbb.setCell (p := ⟨w1.heap.size, 0, none⟩) (by simp; omega) _)⟩
      rw [HW.out, List.map_append, List.length_append, Nat.mul_add]
      exact qo
  · rintro D ys W hD rfl ⟨⟨⟨v, kv, hown, _⟩, kA, kS⟩, hB⟩ hK
    have ko := kv.cell
    have HZ := Lib.hid hz
    clear hz
    gi_wp2
    have hB' := hB.trans (belowK_b (w := w) (Nat.le_refl _) _ D _ (.deferred none) (by have := HZ.out; omega) hK rfl rfl)
    have hown3 := ownsRow_putObj hown (.deferred none) hK rfl
    rw [← wOcts_length, wOcts_downs] at hown3
    refine ⟨by simp, .inl ⟨_, _, rfl, run_takeDeferred hK, ?_⟩⟩
    refine ⟨v, ?_, ?_⟩
    · simp [results, Tryz.f69, go_sem]
    · exact ⟨v, rfl, BSl.of_own hown3, hB'⟩
  · rintro D c pre W _ _ h _
    exact h.elim
theorem blobWide_any {a0 a1 a2 a3 : Nat} (ha : Ok4 a0 a1 a2 a3) (w : World) : Calls Tryz.prog 69 #[wv a0 a1 a2 a3] w (ByW (wide8 a0 a1 a2 a3) w) := callsIn_wide.1 (blobWide_in 4 (by omega) ha w)
end Go.Proofs.YtechcdkakgpnkaaGreat
namespace Go.Proofs.YtechcdkakgpnkaaGreat
open Go.RowKit Go.Shelf
abbrev St := List UInt8 × Int
def errS (s : St) (x : Int) : St := if s.2 = 0 then ([], x) else s
def addS (s : St) (l : List UInt8) : St := if s.2 = 0 then (if s.1.length + l.length ≤ 8192 then (s.1 ++ l, 0) else ([], 5)) else s
def numS (s : St) (n : Int) : St := if 0 ≤ n ∧ n ≤ 1099511627776 then addS s (octs (two n) 6) else errS s 4
def txtS (s : St) (t : ByteArray) : St := if t.size ≤ 1024 then addS s (octs t.size 2 ++ t.data.toList) else errS s 5
def wideS (s : St) (a0 a1 a2 a3 : Nat) : St := addS s (wide8 a0 a1 a2 a3)
def takeS (s : St) (n : Nat) : List UInt8 × St := if s.2 = 0 then (if n ≤ s.1.length then (s.1.take n, (s.1.drop n, 0)) else ([], ([], 16))) else ([], s)
def mostS (s : St) (size : Nat) (most : Int) : Nat × St :=
  if (takeS s size).2.2 = 0 ∧ most < (be ((takeS s size).1.take 7) : Int) then (0, ([], 4)) else (be ((takeS s size).1.take 7), (takeS s size).2)
def gtxtS (s : St) (most : Int) : List UInt8 × St := takeS (mostS s 2 most).2 (mostS s 2 most).1
def OkS (s : St) : Prop := (s.2 ≠ 0 → s.1 = []) ∧ s.1.length ≤ 8192
theorem okS_err {s : St} (h : OkS s) (x : Int) : OkS (errS s x) := by
  unfold errS; split
  · exact ⟨fun _ => rfl, by simp⟩
  · exact h
theorem okS_add {s : St} (h : OkS s) (l : List UInt8) : OkS (addS s l) := by
  unfold addS; split
  · split
    · exact ⟨fun k => absurd rfl k, by simpa using ‹_›⟩
    · exact ⟨fun _ => rfl, by simp⟩
  · exact h
theorem okS_num {s : St} (h : OkS s) (n : Int) : OkS (numS s n) := by
  unfold numS; split
  · exact okS_add h _
  · exact okS_err h _
theorem okS_txt {s : St} (h : OkS s) (t : ByteArray) : OkS (txtS s t) := by
  unfold txtS; split
  · exact okS_add h _
  · exact okS_err h _
theorem okS_wide {s : St} (h : OkS s) (a0 a1 a2 a3 : Nat) : OkS (wideS s a0 a1 a2 a3) := okS_add h _
theorem okS_take {s : St} (h : OkS s) (n : Nat) : OkS (takeS s n).2 := by
  unfold takeS; split
  · split
    · refine ⟨fun k => absurd rfl k, ?_⟩
      have := h.2
      simp only [List.length_drop]; omega
    · exact ⟨fun _ => rfl, by simp⟩
  · exact h
theorem okS_most {s : St} (h : OkS s) (n : Nat) (m : Int) : OkS (mostS s n m).2 := by
  unfold mostS; split
  · exact ⟨fun _ => rfl, by simp⟩
  · exact okS_take h n
theorem okS_gtxt {s : St} (h : OkS s) (m : Int) : OkS (gtxtS s m).2 := okS_take (okS_most h _ _) _
theorem addS_bad {s : St} (h : s.2 ≠ 0) (l : List UInt8) : addS s l = s := if_neg h
theorem errS_bad {s : St} (h : s.2 ≠ 0) (x : Int) : errS s x = s := if_neg h
theorem takeS_bad {s : St} (h : s.2 ≠ 0) (n : Nat) : takeS s n = ([], s) := if_neg h
theorem takeS_short {s : St} (h : s.2 = 0) {n : Nat} (k : s.1.length < n) : takeS s n = ([], ([], 16)) := by
  unfold takeS; rw [if_pos h, if_neg (by omega)]
theorem takeS_ok {s : St} (h : s.2 = 0) {n : Nat} (k : n ≤ s.1.length) : takeS s n = (s.1.take n, (s.1.drop n, 0)) := by
  unfold takeS; rw [if_pos h, if_pos k]
theorem takeS_len (s : St) (n : Nat) : (takeS s n).1.length ≤ n := by
  unfold takeS; split
  · split
    · simp only [List.length_take]; omega
    · simp
  · simp
theorem BSl.shape {lo hi : Nat} {W : World} {sv : Value} {l : List UInt8} (h : BSl lo hi W sv l) : ∃ a c, sv = .slice a l.length c ∧ l.length ≤ c := by
  obtain ⟨a, c, e, hc, _⟩ := h
  exact ⟨a, c, e, hc⟩
theorem BSl.shape3 {lo hi : Nat} {W : World} {sv : Value} {l : List UInt8} (h : BSl lo hi W sv l) : ∃ a m c, sv = .slice a m c := by
  obtain ⟨a, c, e, _⟩ := h
  exact ⟨a, _, c, e⟩
theorem takeS_err {s : St} {n : Nat} (h : (takeS s n).2.2 ≠ 0) : (takeS s n).1 = [] := by
  unfold takeS at *; split
  · rename_i h0
    rw [if_pos h0] at h
    split
    · rename_i h1
      rw [if_pos h1] at h
      exact absurd rfl h
    · rfl
  · rfl
def NoOct (W : World) (r : Nat) : Prop := ∀ i x, W.cell? ⟨r, i, none⟩ ≠ some (bv x)
theorem BSl.to {lo hi : Nat} {W W' : World} {row : Option Nat} {sv : Value} {l : List UInt8} (h : BSl lo hi W sv l) (hhi : hi ≤ W.heap.size) (hg : W.grownBy W' row) (hne : ∀ r, row = some r → NoOct W r) : BSl lo hi W' sv l := by
  obtain ⟨a, cap, e, hc, h0 | ⟨b, off, ha, hl, hh, ho⟩⟩ := h
  · exact ⟨a, cap, e, hc, .inl h0⟩
  · refine ⟨a, cap, e, hc, ?_⟩
    by_cases hl0 : l = []
    · exact .inl hl0
    · refine .inr ⟨b, off, ha, hl, hh, ho.kept (by omega) hg (fun e' => ?_)⟩
      obtain ⟨x, l', rfl⟩ : ∃ x l', l = x :: l' := List.exists_cons_of_ne_nil hl0
      exact hne b e'.symm (off + 0) x (ho 0 x rfl)
theorem noOct_blk {W : World} {B : Nat} {t : TypeId} {vs : List Value} (h : Blk W B t vs) (hv : ∀ v ∈ vs, ∀ x, v ≠ bv x) : NoOct W B := fun i x e => by
  rw [h.cell i] at e
  exact hv _ (List.mem_of_getElem? e) x rfl
def ObjP (T : TypeId) (W : World) (p : Option Addr) (s : St) : Prop :=
  (p = none ∧ s = ([], 9)) ∨ ∃ B m a n c x, p = some ⟨B, 0, none⟩ ∧ Blk W B T [.bool m, .slice a n c, .int .i64 x] ∧
    ((m = false ∧ s = ([], 9)) ∨ (m = true ∧ s.2 = x ∧ OkS s ∧ BSl 0 W.heap.size W (.slice a n c) s.1))
theorem ObjP.ok {T : TypeId} {W : World} {p : Option Addr} {s : St} (h : ObjP T W p s) : OkS s := by
  rcases h with ⟨_, rfl⟩ | ⟨B, m, a, n, c, x, _, _, ⟨_, rfl⟩ | ⟨_, _, h, _⟩⟩
  · exact ⟨fun _ => rfl, by simp⟩
  · exact ⟨fun _ => rfl, by simp⟩
  · exact h
theorem noOct3 {W : World} {B : Nat} {T : TypeId} {m : Bool} {a : Option Addr} {n c : Nat} {x : Int} (h : Blk W B T [.bool m, .slice a n c, .int .i64 x]) : NoOct W B := noOct_blk h (by
  intro v hv y
  simp only [List.mem_cons, List.not_mem_nil, or_false] at hv
  rcases hv with rfl | rfl | rfl <;> simp [bv])
theorem grew {W W' : World} (h : Below W.heap.size W W') (row : Option Nat) : W.grownBy W' row := ⟨h.os, h.tape, h.output, h.size, fun k hk _ => h.block k hk⟩
theorem Blk.c3 {W : World} {B : Nat} {t : TypeId} {v0 v1 v2 : Value} (h : Blk W B t [v0, v1, v2]) :
    W.cell? ⟨B, 0, none⟩ = some v0 ∧ W.cell? ⟨B, 1, none⟩ = some v1 ∧ W.cell? ⟨B, 2, none⟩ = some v2 := ⟨h.cell 0, h.cell 1, h.cell 2⟩
theorem ObjP.to {T : TypeId} {W W' : World} {p : Option Addr} {s : St} {row : Option Nat} (h : ObjP T W p s) (hg : W.grownBy W' row) (hne : ∀ r, row = some r → NoOct W r ∧ p.map (·.block) ≠ some r) : ObjP T W' p s := by
  rcases h with h | ⟨B, m, a, n, c, x, rfl, hb, hs⟩
  · exact .inl h
  · refine .inr ⟨B, m, a, n, c, x, rfl, hb.kept hg (fun e => (hne B e.symm).2 rfl), ?_⟩
    rcases hs with h | ⟨hm, hx, hok, hsl⟩
    · exact .inl h
    · exact .inr ⟨hm, hx, hok, (hsl.to (Nat.le_refl _) hg (fun r e => (hne r e).1)).mono (Nat.le_refl _) hg.size⟩
theorem ObjP.below {T : TypeId} {W W' : World} {p : Option Addr} {s : St} (h : ObjP T W p s) (hb : Below W.heap.size W W') : ObjP T W' p s := h.to (grew hb none) (fun _ e => by cases e)
def DidS (T : TypeId) (p : Option Addr) (s : St) (w : World) (e : Ending) (W' : World) : Prop :=
  e = .returned (.tuple #[]) ∧ ObjP T W' p s ∧ w.grownBy W' (p.map (·.block))
def wdS (l : List UInt8) (i : Nat) : Nat := if l.length = 32 then uwd l 32 i else 0
theorem ptr_lt {T : TypeId} {W : World} {p : Option Addr} {s : St} (h : ObjP T W p s) {n : Nat} (hn : W.heap.size ≤ n) : some n ≠ p.map (·.block) := by
  rcases h with ⟨rfl, _⟩ | ⟨B, m, a, n', c, x, rfl, hb, _⟩
  · simp
  · intro e
    have := hb.lt
    have : n = B := by simpa using e
    omega
theorem noOct4 {W : World} {B : Nat} {T : TypeId} {b0 b1 b2 b3 : Int} (h : Blk W B T [.int .u64 b0, .int .u64 b1, .int .u64 b2, .int .u64 b3]) : NoOct W B := noOct_blk h (by
  intro v hv y
  simp only [List.mem_cons, List.not_mem_nil, or_false] at hv
  rcases hv with rfl | rfl | rfl | rfl <;> simp [bv])
end Go.Proofs.YtechcdkakgpnkaaGreat
namespace Go.Proofs.YtechcdkakgpnkaaGreat
open Go.RowKit Go.Shelf
structure Trf where
  us : Int
  rt : ByteArray
  ro : Int
  se : Int
  re : Int
  to : Int
  id : ByteArray
abbrev ivv (i : Trf) : Value := .agg #[.int .i64 i.us, .string i.rt, .int .i64 i.ro, .int .i64 i.se, .int .i64 i.re, .int .i64 i.to, .string i.id]
abbrev ivc (i : Trf) : List Value := [.int .i64 i.us, .string i.rt, .int .i64 i.ro, .int .i64 i.se, .int .i64 i.re, .int .i64 i.to, .string i.id]
def emptyB : ByteArray := ⟨#[]⟩
def noI : Trf := ⟨0, ⟨#[]⟩, 0, 0, 0, 0, ⟨#[]⟩⟩
def maybeI (i : Trf) : Prop := (0 ≤ i.us ∧ i.us ≤ 1) ∧ i.rt.size = 8 ∧ (2 ≤ i.ro ∧ i.ro ≤ 3) ∧ (0 ≤ i.se ∧ i.se ≤ 1) ∧ (0 ≤ i.re ∧ i.re ≤ 1) ∧ (0 ≤ i.to ∧ i.to ≤ 7) ∧ 1 ≤ i.id.size ∧ i.id.size ≤ 16
instance (i : Trf) : Decidable (maybeI i) := by unfold maybeI; infer_instance
def errI (i : Trf) : Int := if maybeI i then 0 else 39
theorem errI_zero {i : Trf} (h : maybeI i) : errI i = 0 := if_pos h
theorem errI_bad {i : Trf} (h : ¬ maybeI i) : errI i = 39 := if_neg h
structure Sid where
  a0 : Nat
  a1 : Nat
  a2 : Nat
  a3 : Nat
  x : Int
abbrev svv (v : Sid) : Value := .agg #[.int .u64 (v.a0 : Nat), .int .u64 (v.a1 : Nat), .int .u64 (v.a2 : Nat), .int .u64 (v.a3 : Nat), .int .i64 v.x]
abbrev svc (v : Sid) : List Value := [.int .u64 (v.a0 : Nat), .int .u64 (v.a1 : Nat), .int .u64 (v.a2 : Nat), .int .u64 (v.a3 : Nat), .int .i64 v.x]
def noV : Sid := ⟨0, 0, 0, 0, 0⟩
def maybeV (v : Sid) : Prop := ¬ (v.a0 = 0 ∧ v.a1 = 0 ∧ v.a2 = 0 ∧ v.a3 = 0) ∧ 0 ≤ v.x ∧ v.x ≤ 1099511627776
instance (v : Sid) : Decidable (maybeV v) := by unfold maybeV; infer_instance
def errV (v : Sid) : Int := if maybeV v then 0 else 36
theorem errV_zero {v : Sid} (h : maybeV v) : errV v = 0 := if_pos h
theorem errV_bad {v : Sid} (h : ¬ maybeV v) : errV v = 36 := if_neg h
def invB : ByteArray := ⟨#[105, 110, 118]⟩
def actB : ByteArray := ⟨#[97, 99, 116]⟩
def putI1 (s : St) (i : Trf) : St := txtS (numS (txtS s invB) i.us) i.rt
def putI2 (s : St) (i : Trf) : St := numS (numS (numS (numS s i.ro) i.se) i.re) i.to
def putI (s : St) (i : Trf) : St := txtS (putI2 (putI1 s i) i) i.id
def putV (s : St) (v : Sid) : St := numS (wideS s v.a0 v.a1 v.a2 v.a3) v.x
def paySt (act : Int) (key : ByteArray) (a0 a1 a2 a3 : Nat) : St := wideS (txtS (numS (txtS ([], 0) actB) act) key) a0 a1 a2 a3
theorem okS_new : OkS ([], 0) := ⟨fun _ => rfl, by simp⟩
theorem okS_putI1 {s : St} (h : OkS s) (i : Trf) : OkS (putI1 s i) := okS_txt (okS_num (okS_txt h _) _) _
theorem okS_putI2 {s : St} (h : OkS s) (i : Trf) : OkS (putI2 s i) := okS_num (okS_num (okS_num (okS_num h _) _) _) _
theorem okS_putI {s : St} (h : OkS s) (i : Trf) : OkS (putI s i) := okS_txt (okS_putI2 (okS_putI1 h i) i) _
abbrev big : Int := 1099511627776
def str (l : List UInt8) : ByteArray := ⟨l.toArray⟩
def rd0 (s : St) : List UInt8 × St := gtxtS s 16
def rd1 (s : St) : Nat × St := mostS (rd0 s).2 6 big
def rd2 (s : St) : List UInt8 × St := gtxtS (rd1 s).2 8
def rd3 (s : St) : Nat × St := mostS (rd2 s).2 6 big
def rd4 (s : St) : Nat × St := mostS (rd3 s).2 6 big
def rd5 (s : St) : Nat × St := mostS (rd4 s).2 6 big
def rd6 (s : St) : Nat × St := mostS (rd5 s).2 6 big
def rd7 (s : St) : List UInt8 × St := gtxtS (rd6 s).2 16
def rawI (s : St) : Trf := ⟨(rd1 s).1, str (rd2 s).1, (rd3 s).1, (rd4 s).1, (rd5 s).1, (rd6 s).1, str (rd7 s).1⟩
def goodI (s : St) : Prop := str (rd0 s).1 = invB ∧ maybeI (rawI s)
instance (s : St) : Decidable (goodI s) := by unfold goodI; infer_instance
def getI (s : St) : Trf × St := if (rd7 s).2.2 = 0 ∧ goodI s then (rawI s, (rd7 s).2) else (noI, errS (rd7 s).2 16)
def vd0 (s : St) : List UInt8 × St := takeS s 32
def vd1 (s : St) : Nat × St := mostS (vd0 s).2 6 big
def rawV (s : St) : Sid := ⟨wdS (vd0 s).1 0, wdS (vd0 s).1 1, wdS (vd0 s).1 2, wdS (vd0 s).1 3, (vd1 s).1⟩
def getV (s : St) : Sid × St := if (vd1 s).2.2 = 0 ∧ maybeV (rawV s) then (rawV s, (vd1 s).2) else (noV, errS (vd1 s).2 16)
theorem okS_rd7 {s : St} (h : OkS s) : OkS (rd7 s).2 := okS_gtxt (okS_most (okS_most (okS_most (okS_most (okS_gtxt (okS_most (okS_gtxt h _) _ _) _) _ _) _ _) _ _) _ _) _
theorem okS_vd1 {s : St} (h : OkS s) : OkS (vd1 s).2 := okS_most (okS_take h _) _ _
theorem okS_getI {s : St} (h : OkS s) : OkS (getI s).2 := by
  unfold getI; split
  · exact okS_rd7 h
  · exact okS_err (okS_rd7 h) _
theorem okS_getV {s : St} (h : OkS s) : OkS (getV s).2 := by
  unfold getV; split
  · exact okS_vd1 h
  · exact okS_err (okS_vd1 h) _
end Go.Proofs.YtechcdkakgpnkaaGreat
