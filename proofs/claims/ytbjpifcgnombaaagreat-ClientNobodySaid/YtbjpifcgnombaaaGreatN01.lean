/-
  Words for memory: blocks known whole, what lies below, four words as one number; Slices of octets that are read; octets of a number; What octets come to, the highest first; the words of 32 octets; blob.octets hands back a sequence of a number's octets, the highest first; blob.Num: the lowest octets of a number; What is no row of a type's stays; rows of the call's own; Two blocks that lie as they l
-/
import Derived.RangeFuncNested
import Derived.RangeFuncBound
import Derived.RangeFuncCalls
import Derived.RangeFuncLeaves
import Derived.RangeFuncBox
import Derived.Shelf.Abstract
import Derived.Shelf.RegionOpen
import Derived.WalkKit
import Derived.OwnWalkIn
import Derived.TacticsInMore
import Derived.LoopNIn
import Derived.LoopIn
import Derived.Lib.Hide
import Derived.Test.YtbjpifcgnombaaaGreatProg
import Derived.Laws.BytesArg
import Derived.Maps.AppendAt
import Derived.Deep.AppendLies
import Derived.Laws.BitsLemmas
import Derived.Laws.OwnMore
import Derived.RangeFuncIn
import Derived.OrdersIn
import Derived.StillTail
import Derived.StillTailTactics
import Derived.Laws.StructEq
import Derived.Deep.RegionHeld3
import Derived.Tactics
import Derived.KernelRfl
namespace Go.Proofs.YtbjpifcgnombaaaGreat
open Go.RowKit Go.Shelf
def M : Nat := 18446744073709551616
structure Ok4 (a0 a1 a2 a3 : Nat) : Prop where
  h0 : a0 < M
  h1 : a1 < M
  h2 : a2 < M
  h3 : a3 < M
def upto {α : Type} (f : Nat → α) (k : Nat) : List α := (List.range k).map f
theorem upto_succ {α : Type} (f : Nat → α) (k : Nat) : upto f (k + 1) = upto f k ++ [f k] := by simp [upto, List.range_succ]
theorem upto_length {α : Type} (f : Nat → α) (k : Nat) : (upto f k).length = k := by simp [upto]
def Blk (W : World) (B : Nat) (t : TypeId) (vs : List Value) : Prop := W.heap[B]? = some (.cells vs.toArray t (0, 0))
theorem Blk.lt {W : World} {B : Nat} {t : TypeId} {vs : List Value} (h : Blk W B t vs) : B < W.heap.size := (Array.getElem?_eq_some_iff.1 h).1
theorem Blk.cell {W : World} {B : Nat} {t : TypeId} {vs : List Value} (h : Blk W B t vs) (i : Nat) : W.cell? ⟨B, i, none⟩ = vs[i]? := by simp [World.cell?, show W.heap[B]? = _ from h]
theorem Blk.frozen {W : World} {B : Nat} {t : TypeId} {vs : List Value} (h : Blk W B t vs) (i : Nat) : W.frozen? ⟨B, i, none⟩ = false := by simp [World.frozen?, show W.heap[B]? = _ from h]
theorem Blk.new (W : World) (t : TypeId) (vs : List Value) : Blk (W.alloc (.cells vs.toArray t)) W.heap.size t vs := World.alloc_heap_new W _
theorem Blk.new' {W : World} {B : Nat} {t : TypeId} {vs : List Value} (h : W.heap.size = B) : Blk (W.alloc (.cells vs.toArray t)) B t vs := h ▸ Blk.new W t vs
theorem Blk.kept {W W' : World} {row : Option Nat} {B : Nat} {t : TypeId} {vs : List Value} (h : Blk W B t vs) (hg : W.grownBy W' row) (hne : some B ≠ row) : Blk W' B t vs := (hg.block B h.lt hne).trans h
theorem Blk.alloc {W : World} {B : Nat} {t : TypeId} {vs : List Value} (h : Blk W B t vs) (o : Obj) : Blk (W.alloc o) B t vs := h.kept (World.grownBy_alloc W o none) (by simp)
theorem Blk.drew {W : World} {B : Nat} {t : TypeId} {vs : List Value} (h : Blk W B t vs) : Blk W.drew B t vs := h
theorem Blk.below {W W' : World} {n B : Nat} {t : TypeId} {vs : List Value} (h : Blk W B t vs) (hb : Below n W W') (hlt : B < n) : Blk W' B t vs := (hb.block B hlt).trans h
theorem Blk.set {W : World} {B : Nat} {t : TypeId} {vs : List Value} (h : Blk W B t vs) (i : Nat) (v : Value) : Blk (W.setCell ⟨B, i, none⟩ v) B t (vs.set i v) := by
  obtain ⟨hlt, hk⟩ := Array.getElem?_eq_some_iff.1 h
  show (W.heap.modify B _)[B]? = _
  rw [Array.getElem?_eq_getElem (by rw [Array.size_modify]; exact hlt), Array.getElem_modify_self, hk]
  simp
theorem grownBy_setCell4 (W : World) (b i : Nat) (v : Value) : W.grownBy (W.setCell ⟨b, i, none⟩ v) (some b) :=
  ⟨rfl, rfl, rfl, (KeepsWalks.setCell W _ v).size, fun k _ hk => Below.heap_setCell _ _ _ k (fun e => hk (by rw [e]))⟩
theorem Blk.other {W : World} {B B' : Nat} {t : TypeId} {vs : List Value} (h : Blk W B t vs) (i : Nat) (v : Value) (hne : B ≠ B') : Blk (W.setCell ⟨B', i, none⟩ v) B t vs :=
  h.kept (grownBy_setCell4 W B' i v) (fun e => hne (by cases e; rfl))
theorem blk_own {β : Type} (B : Nat) (t : TypeId) (f : β → List Value) : Own (fun s W => Blk W B t (f s)) := fun s X Y row hs hg hrow =>
  hs.kept hg (fun e' => by obtain ⟨o, ho, hc⟩ := hrow B e'.symm; rw [show X.heap[B]? = _ from hs] at ho; cases ho; cases hc)
theorem chain {w w1 w2 : World} (h : Below w.heap.size w w1) (k : Below w1.heap.size w1 w2) : Below w.heap.size w w2 := h.trans (k.mono h.size)
theorem chainA {w w1 : World} (h : Below w.heap.size w w1) (o : Obj) : Below w.heap.size w (w1.alloc o) := h.alloc h.size o
theorem chain0 (w : World) (o : Obj) : Below w.heap.size w (w.alloc o) := chainA (Below.refl _ w) o
def val (a0 a1 a2 a3 : Nat) : Nat := a0 + M * (a1 + M * (a2 + M * a3))
def KeepB (B : Nat) (W W' : World) : Prop := W'.heap[B]? = W.heap[B]?
theorem KeepB.t {B : Nat} {X Y Z : World} (h : KeepB B X Y) (k : KeepB B Y Z) : KeepB B X Z := k.trans h
theorem KeepB.b {B : Nat} {w : World} (hB : B < w.heap.size) (W : World) (l : Nat) (o o' : Obj) (hl : w.heap.size ≤ l) (_ : W.heap[l]? = some o) (_ : o.isCells = false) (_ : o.isWalk = false) : KeepB B W (W.putObj l o') :=
  World.putObj_heap_other (by omega)
theorem KeepB.refl (B : Nat) (W : World) : KeepB B W W := rfl
theorem KeepB.setCell {B : Nat} {W : World} {a : Addr} (v : Value) (h : B ≠ a.block) : KeepB B W (W.setCell a v) := Below.heap_setCell _ _ _ B h
end Go.Proofs.YtbjpifcgnombaaaGreat
namespace Go.Proofs.YtbjpifcgnombaaaGreat
open Go.RowKit Go.Shelf
abbrev bv (x : UInt8) : Value := .int .u8 (x.toNat : Int)
def Octs (W : World) (b off : Nat) (l : List UInt8) : Prop := ∀ k x, l[k]? = some x → W.cell? ⟨b, off + k, none⟩ = some (bv x)
theorem Octs.below {W W' : World} {n b off : Nat} {l : List UInt8} (h : Octs W b off l) (hb : Below n W W') (hlt : b < n) : Octs W' b off l := fun k x hx => (hb.cell (p := ⟨b, _, none⟩) hlt).trans (h k x hx)
theorem Octs.kept {W W' : World} {row : Option Nat} {b off : Nat} {l : List UInt8} (h : Octs W b off l) (hb : b < W.heap.size) (hg : W.grownBy W' row) (hne : some b ≠ row) : Octs W' b off l := fun k x hx =>
  (World.cell?_of_block (a := ⟨b, _, none⟩) (hg.block b hb hne)).trans (h k x hx)
def BSl (lo hi : Nat) (W : World) (sv : Value) (l : List UInt8) : Prop :=
  ∃ a cap, sv = .slice a l.length cap ∧ l.length ≤ cap ∧ (l = [] ∨ ∃ b off, a = some ⟨b, off, none⟩ ∧ lo ≤ b ∧ b < hi ∧ Octs W b off l)
theorem BSl.mono {lo hi lo' hi' : Nat} {W : World} {sv : Value} {l : List UInt8} (h : BSl lo hi W sv l) (h1 : lo' ≤ lo) (h2 : hi ≤ hi') : BSl lo' hi' W sv l := by
  obtain ⟨a, cap, e, hc, h0 | ⟨b, off, ha, hl, hh, ho⟩⟩ := h
  · exact ⟨a, cap, e, hc, .inl h0⟩
  · exact ⟨a, cap, e, hc, .inr ⟨b, off, ha, by omega, by omega, ho⟩⟩
theorem BSl.below {lo hi m : Nat} {W W' : World} {sv : Value} {l : List UInt8} (h : BSl lo hi W sv l) (hb : Below m W W') (hm : hi ≤ m) : BSl lo hi W' sv l := by
  obtain ⟨a, cap, e, hc, h0 | ⟨b, off, ha, hl, hh, ho⟩⟩ := h
  · exact ⟨a, cap, e, hc, .inl h0⟩
  · exact ⟨a, cap, e, hc, .inr ⟨b, off, ha, hl, hh, ho.below hb (by omega)⟩⟩
theorem BSl.kept {lo hi : Nat} {W W' : World} {row : Option Nat} {sv : Value} {l : List UInt8} (h : BSl lo hi W sv l) (hh' : hi ≤ W.heap.size) (hg : W.grownBy W' row) (hne : ∀ r, row = some r → r < lo ∨ hi ≤ r) : BSl lo hi W' sv l := by
  obtain ⟨a, cap, e, hc, h0 | ⟨b, off, ha, hl, hh, ho⟩⟩ := h
  · exact ⟨a, cap, e, hc, .inl h0⟩
  · exact ⟨a, cap, e, hc, .inr ⟨b, off, ha, hl, hh, ho.kept (by omega) hg (fun e' => by have := hne b e'.symm; omega)⟩⟩
theorem BSl.nil (lo hi : Nat) (W : World) : BSl lo hi W (.slice none 0 0) [] := ⟨none, 0, rfl, Nat.le_refl _, .inl rfl⟩
theorem BSl.of_own {W : World} {lo : Nat} {e : TypeId} {v : Value} {l : List UInt8} (h : W.ownsRow lo e 1 v l.length (l.map bv)) : BSl lo W.heap.size W v l := by
  rcases Nat.eq_zero_or_pos l.length with h0 | h0
  · have hl : l = [] := List.eq_nil_of_length_eq_zero h0
    subst hl
    rcases h.2 with ⟨rfl, _⟩ | ⟨g, cap, cur, rfl, _, _, hnc, _⟩
    · exact BSl.nil _ _ _
    · exact ⟨_, cap, rfl, hnc, .inl rfl⟩
  · obtain ⟨hl, ⟨_, h1⟩ | ⟨g, cap, cur, rfl, hg, hb, hnc, hcm, hsz, htake⟩⟩ := h
    · omega
    · refine ⟨_, cap, rfl, hnc, .inr ⟨g, 0, rfl, hg, (Array.getElem?_eq_some_iff.1 hb).1, fun k x hk => ?_⟩⟩
      have hkl : k < l.length := (List.getElem?_eq_some_iff.1 hk).1
      have e' : cur[k]? = (cur.toList.take (l.length * 1))[k]? := by
        rw [List.getElem?_take_of_lt (by omega)]
        simp
      simp only [World.cell?, hb, Nat.zero_add]
      rw [show (if (none : Option Nat).isSome = true then (none : Option Value) else cur[k]?) = cur[k]? from rfl, e', htake]
      simp [hk]
theorem mapBv_byte (l : List UInt8) : (l.map fun x => (x.toNat : Int)).map (fun n => UInt8.ofNat n.toNat) = l := by
  rw [List.map_map]
  have : ((fun n : Int => UInt8.ofNat n.toNat) ∘ fun x : UInt8 => (x.toNat : Int)) = id := by funext x; simp
  rw [this, List.map_id]
theorem run_string {P : Program} (src e dst : TypeId) (hs : P.underlying src = some (.slice e)) (he : P.underlying e = some (.int .u8)) (hd : P.underlying dst = some .string) (W : World) {lo hi : Nat} {sv : Value} {l : List UInt8} (h : BSl lo hi W sv l) :
    (convert src dst sv).run P W = .ok (.string ⟨l.toArray⟩) W := by
  obtain ⟨a, cap, rfl, _, h0⟩ := h
  rcases a with _ | ⟨b, off, sp⟩
  · have : l = [] := by
      rcases h0 with h0 | ⟨_, _, h, _⟩
      · exact h0
      · cases h
    subst this
    rw [run_convert_bytes_nil (P := P) W src e hs he _ _ dst hd]
    rfl
  · rcases h0 with rfl | ⟨b', off', ha, _, _, ho⟩
    · have hl : (loadCells ⟨b, off, sp⟩ 0).run P W = .ok (([] : List Int).map (Value.int .u8)).toArray W := by
        have := run_loadCells_list (P := P) W ⟨b, off, sp⟩ [] (fun j v hj => by simp at hj)
        simpa using this
      rw [run_convert_bytes_string W src dst e _ _ cap hs he hd]
      rw [show ([] : List UInt8).length = 0 from rfl, run_bytesToString W _ 0 cap [] hl]
      rfl
    · cases ha
      rw [run_convert_bytes_arg (P := P) W src e hs he b off l.length cap (l.map fun x => (x.toNat : Int)) (by simp) (fun i hi => by
        obtain ⟨x, hx⟩ : ∃ x, l[i]? = some x := ⟨_, List.getElem?_eq_getElem hi⟩
        rw [ho i x hx]
        simp [List.getD, hx]) dst hd]
      unfold strOfNums
      rw [mapBv_byte]
def oct (n p : Nat) : UInt8 := UInt8.ofNat (n / 2 ^ (p * 8))
def octs (n : Nat) : Nat → List UInt8
  | 0 => []
  | s + 1 => oct n s :: octs n s
theorem octs_length (n s : Nat) : (octs n s).length = s := by induction s with | zero => rfl | succ s ih => simp [octs, ih]
theorem octs_at (n s k : Nat) (hk : k < s) : (octs n s)[k]? = some (oct n (s - 1 - k)) := by
  induction s generalizing k with
  | zero => omega
  | succ s ih =>
    cases k with
    | zero => simp [octs]
    | succ k => simp only [octs, List.getElem?_cons_succ]; rw [ih k (by omega)]; congr 2; omega
end Go.Proofs.YtbjpifcgnombaaaGreat
namespace Go.Proofs.YtbjpifcgnombaaaGreat
open Go.RowKit
theorem wr_i64 (n : Int) (h₀ : 0 ≤ n) (h₁ : n < 2 ^ 63) : IntKind.i64.wrap n = n := by rw [IntKind.wrap_i64]; omega
def be (l : List UInt8) : Nat := l.foldl (fun n x => n * 256 + x.toNat) 0
theorem be_snoc (l : List UInt8) (x : UInt8) : be (l ++ [x]) = be l * 256 + x.toNat := by simp [be]
theorem be_lt (l : List UInt8) : be l < 256 ^ l.length := by
  rw [← List.reverse_reverse l]
  generalize l.reverse = r
  induction r with
  | nil => decide
  | cons x r ih =>
    rw [List.reverse_cons, be_snoc, List.length_append, List.length_singleton, Nat.pow_succ]
    have := x.toNat_lt
    omega
theorem be_lt' {l : List UInt8} {k : Nat} (h : l.length ≤ k) : be l < 256 ^ k := Nat.lt_of_lt_of_le (be_lt l) (Nat.pow_le_pow_right (by omega) h)
theorem or_byte64 {a x : Nat} (ha : a ≤ 36028797018963967) (hx : x < 256) : bits .or .i64 ((a : Int) * 256) (x : Int) = ((a * 256 + x : Nat) : Int) := by
  have e := (Go.bits_nat .i64 63 (by decide) (fun n h0 h1 => wr_i64 n h0 h1) (a * 256) x (by simp; omega) (by simp; omega)).2
  have h : a * 256 ||| x = a * 256 + x := by
    have := Nat.shiftLeft_add_eq_or_of_lt (show x < 2 ^ 8 by simpa using hx) a
    rw [Nat.shiftLeft_eq] at this
    exact this.symm
  rw [h] at e
  rw [← e]
  simp
end Go.Proofs.YtbjpifcgnombaaaGreat
namespace Go.Proofs.YtbjpifcgnombaaaGreat
open Go.RowKit Go.Shelf
attribute [local go_sem] Oper.semAt_some
theorem oct_toNat (n p : Nat) : ((oct n p).toNat : Int) = (n : Int) / 2 ^ (p * 8) % 256 := by
  unfold oct
  rw [UInt8.toNat_ofNat']
  simp
theorem oct_bv (n p : Nat) : bv (oct n p) = .int .u8 ((n : Int) / 2 ^ (p * 8) % 256) := by rw [← oct_toNat]
set_option maxRecDepth 100000 in
set_option maxHeartbeats 2000000 in
theorem octets1_stops (F : Fence) (m : Nat) (h : F.fn 223) (hro : F.round = none) (hm : 1 ≤ m) (n s : Nat) (hs : s ≤ 8) (Bn Bs : Nat) (w : World) (hBn : Bn < w.heap.size) (hBs : Bs < w.heap.size)
    (hcn : w.cell? ⟨Bn, 0, none⟩ = some (.int .u64 (n : Nat))) (hcs : w.cell? ⟨Bs, 0, none⟩ = some (.int .i64 (s : Nat))) (Kp : World → World → Prop) (hKp : ∀ A B, Kp A B → B.cell? ⟨Bn, 0, none⟩ = A.cell? ⟨Bn, 0, none⟩) :
    SeqStopsK F m Tryz.prog 223 #[.pointer (some ⟨Bs, 0, none⟩), .pointer (some ⟨Bn, 0, none⟩)] (fun x => #[bv x]) Kp (fun ys => ys = octs n s) (fun _ => True) s w := fun l J Jx W hW _ _ hY h0 => by
  have hcn' := (hW.cell (p := ⟨Bn, 0, none⟩) hBn).trans hcn
  have hcs' := (hW.cell (p := ⟨Bs, 0, none⟩) hBs).trans hcs
  clear hcn hcs
  refine callsIn_of_wp Tryz.func223 rfl h ?_ hro
  simp only [Tryz.ntmps223, List.size_toArray, List.length_cons, List.length_nil, Nat.reduceAdd, Nat.reduceSub, Array.replicate_succ, Array.replicate_zero, List.push_toArray, List.append_toArray, List.nil_append, List.cons_append]
  have hs' : (s : Int) ≤ 8 := by omega
  gi_wp2
  clear hcs'
  gi_loopw [4] (fun i wr => ∃ k : Nat, k ≤ s ∧ i = .int .i64 ((s : Int) - 1 - k) ∧ wr.cell? ⟨Bn, 0, none⟩ = some (.int .u64 (n : Nat)) ∧ J ((octs n s).take k) wr) (fun i _ => ((intOf i) + 1).toNat)
  case atStart => exact ⟨0, by omega, by simp, hcn', h0⟩
  case round =>
    obtain ⟨k, hk, rfl, hcw, hJs⟩ := hrel
    clear hcn'
    by_cases hlt : k < s
    · obtain ⟨fn, tmps, assign, body, hy, hR⟩ := hY _ (oct n (s - 1 - k)) wr hJs (by simp [octs_length]; omega)
      have ht : (octs n s).take (k + 1) = (octs n s).take k ++ [oct n (s - 1 - k)] := by rw [List.take_add_one, octs_at n s k hlt]; rfl
      have HT := Lib.hid ht
      clear ht
      have hp : (s : Int) - 1 - k = ((s - 1 - k : Nat) : Int) := by omega
      have hpl : s - 1 - k ≤ 7 := by omega
      rw [hp]
      generalize s - 1 - k = p at *
      have HP := Lib.hid hp
      clear hp
      rw [oct_bv] at hy
      gi_wp2
      refine hR.mono ?_
      clear hy
      rintro e W3 (⟨rfl, hJ3, hk3⟩ | ⟨rfl, hJx3⟩)
      · have hcw3 := (hKp _ _ hk3).trans hcw
        clear hcw
        gi_wp2
        have hq : ((s : Int) - 1 - ((k + 1 : Nat) : Int)) = (p : Int) - 1 := by have := HP.out; omega
        go_roundw
        case rel => exact ⟨k + 1, by omega, by rw [hq], hcw3, by rw [HT.out]; exact hJ3⟩
        case measure => simp [intOf]
      · gi_wp2
        refine bodyPost_ret (results_none rfl _ _ _) rfl ?_
        exact ⟨⟨_, rfl⟩, .inr ⟨_, trivial, hJx3⟩⟩
    · obtain rfl : k = s := by omega
      have hp : (k : Int) - 1 - k = -1 := by omega
      rw [hp]
      clear hp
      gi_wp2
      go_end0
      rw [List.take_of_length_le (by rw [octs_length]; omega)] at hJs
      exact ⟨⟨_, rfl⟩, .inl ⟨_, rfl, hJs⟩⟩
set_option maxHeartbeats 1000000 in
theorem octets_in (F : Fence) (m : Nat) (h : F.fn 144) (hro : F.round = none) (n s : Int) (w : World) :
    CallsIn F m Tryz.prog 144 #[.int .u64 n, .int .i64 s] w fun e w' => e = .returned (.func (.func 223) #[] #[.pointer (some ⟨w.heap.size + 1, 0, none⟩), .pointer (some ⟨w.heap.size, 0, none⟩)]) ∧ w' = (w.alloc (.cells #[.int .u64 n] 24)).alloc (.cells #[.int .i64 s] 3) := by
  refine callsIn_of_wp Tryz.func144 rfl h ?_ hro
  simp only [Tryz.ntmps144, List.size_toArray, List.length_cons, List.length_nil, Nat.reduceAdd, Nat.reduceSub, Array.replicate_succ, Array.replicate_zero, List.push_toArray, List.append_toArray, List.nil_append, List.cons_append]
  gi_wp2
  go_ret
  exact ⟨rfl, rfl⟩
end Go.Proofs.YtbjpifcgnombaaaGreat
namespace Go.Proofs.YtbjpifcgnombaaaGreat
open Go.RowKit Go.Shelf
attribute [local go_sem] Oper.semAt_some
def ByW (l : List UInt8) (w : World) (e : Ending) (W' : World) : Prop := ∃ sv, e = .returned sv ∧ BSl w.heap.size W'.heap.size W' sv l ∧ Below w.heap.size w W'
def clamp (z : Int) : Nat := if z ≤ 0 then 0 else if 8 ≤ z then 8 else z.toNat
def two (z : Int) : Nat := (z % 18446744073709551616).toNat
theorem Tryz.infoByte : (Tryz.prog.info? 5).map (fun i => (i.zero, i.size, i.bytes)) = some (some (.int .u8 0), 1, 1) := by kernel_rfl
theorem wrap_two (z : Int) : IntKind.u64.wrap z = (two z : Nat) := by
  unfold two
  simp [IntKind.wrap, IntKind.bits, IntKind.signed]
  omega
theorem clamp_le (z : Int) : clamp z ≤ 8 := by unfold clamp; split; · omega
                                               split <;> omega
theorem clamp_cases (z : Int) : (z < 0 ∧ (clamp z : Int) = 0) ∨ (0 ≤ z ∧ z ≤ 8 ∧ (clamp z : Int) = z) ∨ (8 < z ∧ (clamp z : Int) = 8) := by
  unfold clamp
  by_cases h0 : z < 0
  · rw [if_pos (by omega)]; exact .inl ⟨h0, rfl⟩
  · by_cases h8 : 8 < z
    · rw [if_neg (by omega), if_pos (by omega)]; exact .inr (.inr ⟨h8, rfl⟩)
    · refine .inr (.inl ⟨by omega, by omega, ?_⟩)
      by_cases e0 : z = 0
      · rw [if_pos (by omega)]; omega
      · rw [if_neg (by omega)]
        by_cases e8 : z = 8
        · rw [if_pos (by omega)]; omega
        · rw [if_neg (by omega)]; omega
def NumI (N Bn x : Nat) (w : World) (pre : List UInt8) (W : World) : Prop :=
  ((∃ v, Boxed W N 80 v ∧ W.ownsRow N 5 1 v pre.length (pre.map bv) ∧ True) ∧ Boxed W Bn 24 (.int .u64 (x : Nat))) ∧ Below N w W
theorem numI_own {N Bn x : Nat} {w : World} {B : Nat} (h : N ≤ w.heap.size) (hB : N ≤ B) : OwnFrom B (NumI N Bn x w) :=
  OwnFrom.and (OwnFrom.and (Own.from (holdsRow_own N N 80 5 1 (fun pre : List UInt8 => pre.length) (fun pre => pre.map bv) (fun _ _ => True)) _)
    (Own.from (fun _ X Y row hs hg hr => blk_own Bn 24 (fun (_ : Unit) => [.int .u64 (x : Nat)]) () X Y row hs hg hr) _)) (ownFrom_below h hB)
set_option maxRecDepth 100000 in
set_option maxHeartbeats 4000000 in
theorem num_in (m : Nat) (hm : 3 ≤ m) (n size : Int) (hs : -9223372036854775808 ≤ size) (hs' : size ≤ 9223372036854775807) (w : World) :
    CallsIn Fence.wide m Tryz.prog 72 #[.int .i64 n, .int .i64 size] w (ByW (octs (two n) (clamp size)) w) := by
  have h1 : 1 ≤ m := by omega
  refine callsIn_of_wp_marks Tryz.func72 rfl trivial ?_ rfl
  simp only [Tryz.ntmps72, List.size_toArray, List.length_cons, List.length_nil, Nat.reduceAdd, Nat.reduceSub, Array.replicate_succ, Array.replicate_zero, List.push_toArray, List.append_toArray, List.nil_append, List.cons_append]
  obtain ⟨i0, hi, hz0, hz1, hz2⟩ := info_parts Tryz.infoByte
  have hU : IntKind.u64.wrap n = (two n : Nat) := wrap_two n
  have hx : two n < M := by unfold two M; omega
  generalize two n = x at *
  have H8 := clamp_le size
  have hCC := clamp_cases size
  generalize clamp size = s at *
  rcases hCC with ⟨hc0, hC⟩ | ⟨hc0, hc8, hC⟩ | ⟨hc8, hC⟩
  all_goals
    have HC := Lib.hid hC
    clear hC
    gi_wp2_with (refine ⟨trivial, ?_⟩; gi_at_call 144; refine (octets_in Fence.wide (m - 1) trivial rfl _ _ _).mono ?_; rintro e w' ⟨rfl, rfl⟩)
    generalize hW5 : World.alloc _ _ = W5
    have k0 : Boxed W5 w.heap.size 80 (.slice none 0 0) := by rw [← hW5]; exact ((Boxed.new _ _ _).alloc _).alloc _
    have k1 : Boxed W5 (w.heap.size + 1) 24 (.int .u64 (x : Nat)) := by rw [← hW5]; exact (Blk.new' (vs := [.int .u64 (x : Nat)]) (by simp)).alloc _
    have k2 : Boxed W5 (w.heap.size + 1 + 1) 3 (.int .i64 (s : Nat)) := by rw [HC.out, ← hW5]; exact Blk.new' (vs := [.int .i64 _]) (by simp)
    have hB0 : Below w.heap.size w W5 := by rw [← hW5]; exact chainA (chainA (chain0 _ _) _) _
    have hz : W5.heap.size = w.heap.size + 3 := by rw [← hW5]; simp
    clear hW5
    refine wpIn_rangeFunc_ownF (S := fun ys => ys = octs x s) rfl h1 (gf := 223) (lb := #[.pointer (some ⟨w.heap.size + 1 + 1, 0, none⟩), .pointer (some ⟨w.heap.size + 1, 0, none⟩)]) rfl trivial (enters_of Tryz.func223 (by kernel_rfl) rfl)
      (octets1_stops Fence.wide (m - 1) trivial rfl (by omega) x s H8 (w.heap.size + 1) (w.heap.size + 1 + 1) W5 k1.lt k2.lt (k1.cell) k2.cell (KeepB (w.heap.size + 1)) (fun A B h => World.cell?_of_block h)) KeepB.t (KeepB.b k1.lt) (Below.refl _ _) (fun _ => rfl)
      (NumI w.heap.size (w.heap.size + 1) x w) (fun _ _ _ => False) (numI_own (Nat.le_refl _) (by omega)) (fun _ _ _ _ _ hs _ _ => hs)
      ⟨⟨⟨_, k0, World.ownsRow_nil _ _ _ _, trivial⟩, k1⟩, hB0⟩ ?_ ?_ ?_ ?_ ?_
    rotate_left
    · intro l x W K hK
      gi_wp2
      exact hK
    · rintro l pre o W ⟨⟨⟨v, kv, hown, _⟩, kn⟩, hB⟩ hlt
      have ko := kv.cell
      have kf := kv.frozen
      have hNW : w.heap.size ≤ W.heap.size := hB.size
      gi_wp2_with (gi_at_builtin; refine wpListIn_append_own _ rfl _ _ 80 rfl w.heap.size 5 i0 (.int .u8 0) 1 1 Tryz.underlying80 hi hz0 hz1 hz2 rfl (by decide) v pre.length (pre.map bv) rfl (hown.alloc _) ⟨W.heap.size, 0, none⟩ 1 1 [bv o] rfl rfl (cell_one_new _ _ _) (by simp [Value.oneCell']) (by unfold maxLen; omega) (by omega) (by simp; omega) ?_; intro v' w1 hown' hgrow _; obtain ⟨g, cap, rfl⟩ := ownsRow_succ hown'; obtain ⟨hv1, kv', hrow', hk3, hbw⟩ := kv.appended (by decide) hown hNW (Nat.le_refl _) hown' hgrow; have ko1 := hv1.cell; have kf1 := hv1.frozen)
      have hn1 : W.heap.size ≤ w1.heap.size := Nat.le_trans (by simp) hgrow.size
      have kn1 : Boxed w1 (w.heap.size + 1) 24 (.int .u64 (x : Nat)) := (kn.alloc _).kept hgrow (Boxed.not_row kn (by decide) hown)
      have kn3 := kn1.kept (grownBy_setCell' w1 w.heap.size (.slice (some ⟨g, 0, none⟩) (pre.length + 1) cap)) (by simp)
      exact ⟨hk3, kn3.trans kn.symm, ⟨⟨_, kv', by simpa using hrow', trivial⟩, kn3⟩, hB.trans hbw⟩
    · rintro D ys W hD rfl ⟨⟨⟨v, kv, hown, _⟩, kn⟩, hB⟩ hK
      have ko := kv.cell
      have HZ := Lib.hid hz
      clear hz
      gi_wp2
      have hB' := hB.trans (belowK_b (w := w) (Nat.le_refl _) _ D _ (.deferred none) (by have := HZ.out; omega) hK rfl rfl)
      have hown3 := ownsRow_putObj hown (.deferred none) hK rfl
      refine ⟨by simp, .inl ⟨_, _, rfl, run_takeDeferred hK, ?_⟩⟩
      refine ⟨v, ?_, ?_⟩
      · simp [results, Tryz.f72, go_sem]
      · exact ⟨v, rfl, BSl.of_own hown3, hB'⟩
    · rintro D c pre W _ _ h _
      exact h.elim
theorem num_any (n size : Int) (hs : -9223372036854775808 ≤ size) (hs' : size ≤ 9223372036854775807) (w : World) :
    Calls Tryz.prog 72 #[.int .i64 n, .int .i64 size] w (ByW (octs (two n) (clamp size)) w) := callsIn_wide.1 (num_in 3 (by omega) n size hs hs' w)
end Go.Proofs.YtbjpifcgnombaaaGreat
namespace Go.Proofs.YtbjpifcgnombaaaGreat
open Go.RowKit Go.Shelf
def Spares (e : TypeId) (w W : World) : Prop := w.heap.size ≤ W.heap.size ∧ ∀ (j : Nat) (o : Obj), w.heap[j]? = some o → (∀ cur fr, o ≠ .cells cur e fr) → W.heap[j]? = some o
theorem Spares.of_below {e : TypeId} {w W : World} (h : Below w.heap.size w W) : Spares e w W := ⟨h.size, fun j _ hj _ => (h.block j (Array.getElem?_eq_some_iff.1 hj).1).trans hj⟩
theorem Spares.t {e : TypeId} {X Y Z : World} (h : Spares e X Y) (k : Spares e Y Z) : Spares e X Z := ⟨Nat.le_trans h.1 k.1, fun j o hj ho => k.2 j o (h.2 j o hj ho) ho⟩
theorem Spares.grown {e : TypeId} {w W W' : World} {row : Option Nat} (h : Spares e w W) (hg : W.grownBy W' row) (hr : ∀ r, row = some r → w.heap.size ≤ r ∨ ∃ cur fr, W.heap[r]? = some (.cells cur e fr)) : Spares e w W' :=
  ⟨Nat.le_trans h.1 hg.size, fun j o hj ho => by
    have hjl := (Array.getElem?_eq_some_iff.1 hj).1
    have hW := h.2 j o hj ho
    refine (hg.block j (Array.getElem?_eq_some_iff.1 hW).1 (fun e' => ?_)).trans hW
    rcases hr j e'.symm with h1 | ⟨cur, fr, h1⟩
    · omega
    · rw [hW] at h1; cases h1; exact ho cur fr rfl⟩
theorem Spares.blk {e t : TypeId} {w W : World} {B : Nat} {vs : List Value} (h : Spares e w W) (hb : Blk w B t vs) (hne : t ≠ e) : Blk W B t vs := h.2 B _ hb (fun cur fr e' => by cases e'; exact hne rfl)
theorem Spares.others {e : TypeId} {w W : World} (h : Spares e w W) : KeepsOthers w W := ⟨h.1, fun k o hk ho => h.2 k o hk (fun cur fr e' => by rw [e'] at ho; cases ho)⟩
theorem ownFrom_spares {β : Type} {B : Nat} {e : TypeId} {w : World} (hB : w.heap.size ≤ B) : OwnFrom B (fun (_ : β) W => Spares e w W) := fun _ _ _ _ hs hg hr =>
  hs.grown hg (fun r e' => .inl (Nat.le_trans hB (hr r e').1))
theorem ownsRow_block {W : World} {base : Nat} {e : TypeId} {size k : Nat} {v : Value} {xs : List Value} (h : W.ownsRow base e size v k xs) : ∀ r, v.ownBlock = some r → ∃ cur fr, W.heap[r]? = some (.cells cur e fr) := by
  intro r hr
  rcases h.2 with ⟨rfl, _⟩ | ⟨g, cap, cur, rfl, _, hgb, _⟩
  · simp [Value.ownBlock] at hr
  · obtain rfl : g = r := by simpa [Value.ownBlock] using hr
    exact ⟨_, _, hgb⟩
theorem ownsRow_slice {W : World} {base : Nat} {e : TypeId} {size k : Nat} {v : Value} {xs : List Value} (h : W.ownsRow base e size v k xs) : ∃ a c, v = .slice a k c := by
  rcases h.2 with ⟨rfl, rfl⟩ | ⟨g, cap, cur, rfl, _⟩
  · exact ⟨_, _, rfl⟩
  · exact ⟨_, _, rfl⟩
end Go.Proofs.YtbjpifcgnombaaaGreat
namespace Go.Proofs.YtbjpifcgnombaaaGreat
open Go.RowKit Go.Shelf
def KeepB2 (B B' : Nat) (W W' : World) : Prop := KeepB B W W' ∧ KeepB B' W W'
theorem KeepB2.t {B B' : Nat} {X Y Z : World} (h : KeepB2 B B' X Y) (k : KeepB2 B B' Y Z) : KeepB2 B B' X Z := ⟨h.1.t k.1, h.2.t k.2⟩
theorem KeepB2.b {B B' : Nat} {w : World} (hB : B < w.heap.size) (hB' : B' < w.heap.size) (W : World) (l : Nat) (o o' : Obj) (hl : w.heap.size ≤ l) (h1 : W.heap[l]? = some o) (h2 : o.isCells = false) (h3 : o.isWalk = false) : KeepB2 B B' W (W.putObj l o') :=
  ⟨KeepB.b hB W l o o' hl h1 h2 h3, KeepB.b hB' W l o o' hl h1 h2 h3⟩
end Go.Proofs.YtbjpifcgnombaaaGreat
namespace Go.Proofs.YtbjpifcgnombaaaGreat
open Go.RowKit
variable {P : Program} {ops : Array Oper} {md : Region.Mode}
def noDefer (l : List Oper) : Bool := l.all fun o => match o.op with | .defer _ => false | _ => true
theorem noDefer_at {l : List Oper} (h : noDefer l = true) {i : Nat} {o : Oper} (ho : l[i]? = some o) (c : Call) : o.op ≠ .defer c := by
  intro e
  have := List.all_eq_true.1 h o (List.mem_of_getElem? ho)
  rw [e] at this
  cases this
theorem rowsIn_wide {n : Nat} {row : String} {args : Array Value} {w : World} {R : Value → World → Prop} (h : Go.Rows P row args w R) : RowsIn Fence.wide n P row args w R :=
  fun c cs _ => let ⟨v, w', r, s⟩ := h c cs; ⟨v, w', r, stepsIn_wide.2 s⟩
theorem Oper.wpIn_round {r n : Nat} {o : Oper} {a : Act} {w : World} {K : Act → World → Prop} {Q : Exit → Act → World → Prop} (hd : ∀ c, o.op ≠ .defer c) (h : o.wp P a w K Q) : o.wpIn (Fence.wide.inRound r) n P a w K Q := by
  refine ⟨fun _ _ => trivial, ?_⟩
  rw [Oper.semAt_eq _ _ _ hd]
  unfold Oper.wp at h
  generalize (execOp a.eval o).run P w = res at *
  cases res with
  | ok x w' =>
    cases x <;> simp only [Oper.upon, Oper.uponIn] at h ⊢ <;> first | exact h | exact ⟨fun e => (by cases e), (callsIn_wide (n := n - 1)).2 h⟩ | exact ⟨fun e => (by cases e), rowsIn_wide h⟩ | exact h.elim
  | halt x w' => cases x <;> simp only [Oper.upon, Oper.uponIn] at h ⊢ <;> exact h
theorem wpOpIn_round {r n : Nat} {l : List Oper} {Q : Exit → Act → World → Prop} {i : Nat} {K : Act → World → Prop} {a : Act} {w : World} (hd : noDefer l = true) (hq : ¬ LetsOut Q) (h : wpOp P l.toArray Q i K a w) :
    wpOpIn (Fence.wide.inRound r) n P l.toArray Q i K a w := by
  unfold wpOp at h
  unfold wpOpIn
  split
  · rename_i ho; simp only [ho] at h; exact h
  · rename_i o ho
    simp only [ho] at h
    split
    · rename_i hw; simp only [hw, if_true] at h
      exact Oper.wpIn_round (noDefer_at hd (by simpa using ho)) (h.resolve_right fun hh => hq hh.2)
    · rename_i hw; simp only [hw] at h; exact ⟨fun _ _ => trivial, h⟩
theorem wpAnyIn_round {r n : Nat} {l : List Oper} {Q : Exit → Act → World → Prop} (hd : noDefer l = true) (hq : ¬ LetsOut Q) : ∀ (fuel : Nat) (listed : Array Bool) (a : Act) (w : World),
    wpAny P md l.toArray Q fuel listed a w → wpAnyIn (Fence.wide.inRound r) n P md l.toArray Q fuel listed a w
  | 0, _, _, _, h => h
  | fuel + 1, _, _, _, h => ⟨h.1, fun i hi => wpOpIn_mono (fun a w => wpAnyIn_round hd hq fuel _ a w) (wpOpIn_round hd hq (h.2 i hi))⟩
theorem wpIn_round_any {r n id : Nat} {Q : Exit → Act → World → Prop} {a : Act} {w : World} {l : List Oper} (hm : P.follows .mixedOrders = true) (hd : noDefer l = true)
    (h : wpAny P .any l.toArray (Exit.then (fun a w => Q .normal a w) (fun _ _ _ => False)) l.length (Array.replicate l.length false) a w.drew) : (Code.region id l.toArray true).wpIn (Fence.wide.inRound r) n P Q a w := by
  refine wpIn_mono (wpIn_region_any (Q := Exit.then (fun a w => Q .normal a w) (fun _ _ _ => False)) hm (wpAnyIn_round hd (fun ⟨_, _, h⟩ => h) _ _ _ _ (by simpa using h))) ?_
  intro e a w hq
  cases e <;> first | exact hq | exact hq.elim
end Go.Proofs.YtbjpifcgnombaaaGreat
namespace Go.Proofs.YtbjpifcgnombaaaGreat
open Go.RowKit Go.Shelf
abbrev St := List UInt8 × Int
def takeS (s : St) (n : Nat) : List UInt8 × St := if s.2 = 0 then (if n ≤ s.1.length then (s.1.take n, (s.1.drop n, 0)) else ([], ([], 16))) else ([], s)
def mostS (s : St) (size : Nat) (most : Int) : Nat × St :=
  if (takeS s size).2.2 = 0 ∧ most < (be ((takeS s size).1.take 7) : Int) then (0, ([], 4)) else (be ((takeS s size).1.take 7), (takeS s size).2)
def gtxtS (s : St) (most : Int) : List UInt8 × St := takeS (mostS s 2 most).2 (mostS s 2 most).1
def OkS (s : St) : Prop := (s.2 ≠ 0 → s.1 = []) ∧ s.1.length ≤ 8192
def NoOct (W : World) (r : Nat) : Prop := ∀ i x, W.cell? ⟨r, i, none⟩ ≠ some (bv x)
theorem BSl.to {lo hi : Nat} {W W' : World} {row : Option Nat} {sv : Value} {l : List UInt8} (h : BSl lo hi W sv l) (hhi : hi ≤ W.heap.size) (hg : W.grownBy W' row) (hne : ∀ r, row = some r → NoOct W r) : BSl lo hi W' sv l := by
  obtain ⟨a, cap, e, hc, h0 | ⟨b, off, ha, hl, hh, ho⟩⟩ := h
  · exact ⟨a, cap, e, hc, .inl h0⟩
  · refine ⟨a, cap, e, hc, ?_⟩
    by_cases hl0 : l = []
    · exact .inl hl0
    · refine .inr ⟨b, off, ha, hl, hh, ho.kept (by omega) hg (fun e' => ?_)⟩
      obtain ⟨x, l', rfl⟩ : ∃ x l', l = x :: l' := List.exists_cons_of_ne_nil hl0
      exact hne b e'.symm (off + 0) x (ho 0 x rfl)
def ObjP (T : TypeId) (W : World) (p : Option Addr) (s : St) : Prop :=
  (p = none ∧ s = ([], 9)) ∨ ∃ B m a n c x, p = some ⟨B, 0, none⟩ ∧ Blk W B T [.bool m, .slice a n c, .int .i64 x] ∧
    ((m = false ∧ s = ([], 9)) ∨ (m = true ∧ s.2 = x ∧ OkS s ∧ BSl 0 W.heap.size W (.slice a n c) s.1))
theorem ObjP.ok {T : TypeId} {W : World} {p : Option Addr} {s : St} (h : ObjP T W p s) : OkS s := by
  rcases h with ⟨_, rfl⟩ | ⟨B, m, a, n, c, x, _, _, ⟨_, rfl⟩ | ⟨_, _, h, _⟩⟩
  · exact ⟨fun _ => rfl, by simp⟩
  · exact ⟨fun _ => rfl, by simp⟩
  · exact h
theorem grew {W W' : World} (h : Below W.heap.size W W') (row : Option Nat) : W.grownBy W' row := ⟨h.os, h.tape, h.output, h.size, fun k hk _ => h.block k hk⟩
theorem ObjP.to {T : TypeId} {W W' : World} {p : Option Addr} {s : St} {row : Option Nat} (h : ObjP T W p s) (hg : W.grownBy W' row) (hne : ∀ r, row = some r → NoOct W r ∧ p.map (·.block) ≠ some r) : ObjP T W' p s := by
  rcases h with h | ⟨B, m, a, n, c, x, rfl, hb, hs⟩
  · exact .inl h
  · refine .inr ⟨B, m, a, n, c, x, rfl, hb.kept hg (fun e => (hne B e.symm).2 rfl), ?_⟩
    rcases hs with h | ⟨hm, hx, hok, hsl⟩
    · exact .inl h
    · exact .inr ⟨hm, hx, hok, (hsl.to (Nat.le_refl _) hg (fun r e => (hne r e).1)).mono (Nat.le_refl _) hg.size⟩
theorem ObjP.below {T : TypeId} {W W' : World} {p : Option Addr} {s : St} (h : ObjP T W p s) (hb : Below W.heap.size W W') : ObjP T W' p s := h.to (grew hb none) (fun _ e => by cases e)
end Go.Proofs.YtbjpifcgnombaaaGreat
namespace Go.Proofs.YtbjpifcgnombaaaGreat
open Go.RowKit Go.Shelf
structure Trf where
  us : Int
  rt : ByteArray
  ro : Int
  se : Int
  re : Int
  to : Int
  id : ByteArray
def emptyB : ByteArray := ⟨#[]⟩
def noI : Trf := ⟨0, ⟨#[]⟩, 0, 0, 0, 0, ⟨#[]⟩⟩
def maybeI (i : Trf) : Prop := (0 ≤ i.us ∧ i.us ≤ 1) ∧ i.rt.size = 8 ∧ (2 ≤ i.ro ∧ i.ro ≤ 3) ∧ (0 ≤ i.se ∧ i.se ≤ 1) ∧ (0 ≤ i.re ∧ i.re ≤ 1) ∧ (0 ≤ i.to ∧ i.to ≤ 7) ∧ 1 ≤ i.id.size ∧ i.id.size ≤ 16
instance (i : Trf) : Decidable (maybeI i) := by unfold maybeI; infer_instance
structure Sid where
  a0 : Nat
  a1 : Nat
  a2 : Nat
  a3 : Nat
  x : Int
def noV : Sid := ⟨0, 0, 0, 0, 0⟩
def maybeV (v : Sid) : Prop := ¬ (v.a0 = 0 ∧ v.a1 = 0 ∧ v.a2 = 0 ∧ v.a3 = 0) ∧ 0 ≤ v.x ∧ v.x ≤ 1099511627776
instance (v : Sid) : Decidable (maybeV v) := by unfold maybeV; infer_instance
def invB : ByteArray := ⟨#[105, 110, 118]⟩
abbrev big : Int := 1099511627776
def str (l : List UInt8) : ByteArray := ⟨l.toArray⟩
def rd0 (s : St) : List UInt8 × St := gtxtS s 16
def rd1 (s : St) : Nat × St := mostS (rd0 s).2 6 big
def rd2 (s : St) : List UInt8 × St := gtxtS (rd1 s).2 8
def rd3 (s : St) : Nat × St := mostS (rd2 s).2 6 big
def rd4 (s : St) : Nat × St := mostS (rd3 s).2 6 big
def rd5 (s : St) : Nat × St := mostS (rd4 s).2 6 big
def rd6 (s : St) : Nat × St := mostS (rd5 s).2 6 big
def rd7 (s : St) : List UInt8 × St := gtxtS (rd6 s).2 16
def rawI (s : St) : Trf := ⟨(rd1 s).1, str (rd2 s).1, (rd3 s).1, (rd4 s).1, (rd5 s).1, (rd6 s).1, str (rd7 s).1⟩
def goodI (s : St) : Prop := str (rd0 s).1 = invB ∧ maybeI (rawI s)
instance (s : St) : Decidable (goodI s) := by unfold goodI; infer_instance
end Go.Proofs.YtbjpifcgnombaaaGreat
namespace Go.Proofs.YtbjpifcgnombaaaGreat
open Go.RowKit
def OR (W : World) (base : Nat) (v : Value) (n : Nat) (f : Nat → Nat) : Prop := W.ownsRow base 3 1 v n ((List.range n).map fun k => Value.int .i64 (f k : Nat))
theorem OR.nil (W : World) (base : Nat) (f : Nat → Nat) : OR W base (.slice none 0 0) 0 f := ⟨rfl, .inl ⟨rfl, rfl⟩⟩
theorem OR.out {W : World} {base : Nat} {v : Value} {n : Nat} {f : Nat → Nat} (h : OR W base v n f) : W.ownsRow base 3 1 v n ((List.range n).map fun k => Value.int .i64 (f k : Nat)) := h
theorem OR.step {W : World} {base : Nat} {v : Value} {n : Nat} {f : Nat → Nat} {x : Int} (h : W.ownsRow base 3 1 v (n + 1) (((List.range n).map fun k => Value.int .i64 (f k : Nat)) ++ [.int .i64 x])) (hx : x = (f n : Nat)) : OR W base v (n + 1) f := by
  unfold OR
  rw [List.range_succ, List.map_append]
  rw [hx] at h
  exact h
theorem OR.alloc {W : World} {base : Nat} {v : Value} {n : Nat} {f : Nat → Nat} (h : OR W base v n f) (o : Obj) : OR (W.alloc o) base v n f := World.ownsRow.alloc h o
theorem OR.grown {W w1 : World} {base n : Nat} {u v' : Value} {f : Nat → Nat} {o : Obj} {x : Int} (hown : OR W base u n f) (hsz : base ≤ W.heap.size)
    (hown' : w1.ownsRow base 3 1 v' (n + 1) (((List.range n).map fun k => Value.int .i64 (f k : Nat)) ++ [.int .i64 x])) (hg : (W.alloc o).grownBy w1 u.ownBlock) (hx : x = (f n : Nat)) :
    OR w1 base v' (n + 1) f ∧ base ≤ w1.heap.size ∧ Below base W w1 := by
  have hb : Below base W w1 := ((Below.refl base W).alloc hsz o).grown hg (by simp; omega) (fun j hj => (World.ownsRow.lt hown.out j hj).1)
  exact ⟨OR.step hown' hx, Nat.le_trans hsz hb.size, hb⟩
def Nums (W : World) (g n : Nat) (f : Nat → Nat) : Prop := ∀ k, k < n → W.cell? ⟨g, k, none⟩ = some (.int .i64 (f k : Nat))
theorem Nums.below {W W' : World} {m g n : Nat} {f : Nat → Nat} (h : Nums W g n f) (hb : Below m W W') (hg : g < m) : Nums W' g n f := fun k hk => (hb.cell (p := ⟨g, k, none⟩) hg).trans (h k hk)
def ds (f : Nat → Nat) (n : Nat) : List Value := (List.range n).map fun k => .int .i64 (f k : Nat)
end Go.Proofs.YtbjpifcgnombaaaGreat
namespace Go.Proofs.YtbjpifcgnombaaaGreat
open Go.RowKit Go.Shelf
structure Ak where
  us : Int
  se : Int
  re : Int
  to : Int
  a0 : Nat
  a1 : Nat
  a2 : Nat
  a3 : Nat
  id : ByteArray
abbrev akv (a : Ak) : Value := .agg #[.int .i64 a.us, .int .i64 a.se, .int .i64 a.re, .int .i64 a.to, .int .u64 (a.a0 : Nat), .int .u64 (a.a1 : Nat), .int .u64 (a.a2 : Nat), .int .u64 (a.a3 : Nat), .string a.id]
abbrev akc (a : Ak) : List Value := [.int .i64 a.us, .int .i64 a.se, .int .i64 a.re, .int .i64 a.to, .int .u64 (a.a0 : Nat), .int .u64 (a.a1 : Nat), .int .u64 (a.a2 : Nat), .int .u64 (a.a3 : Nat), .string a.id]
def noA : Ak := ⟨0, 0, 0, 0, 0, 0, 0, 0, ⟨#[]⟩⟩
def zw (a0 a1 a2 a3 : Nat) : Prop := a0 = 0 ∧ a1 = 0 ∧ a2 = 0 ∧ a3 = 0
instance (a0 a1 a2 a3 : Nat) : Decidable (zw a0 a1 a2 a3) := by unfold zw; infer_instance
def maybeA (a : Ak) : Prop := (0 ≤ a.us ∧ a.us ≤ 1) ∧ (0 ≤ a.se ∧ a.se ≤ 1) ∧ (0 ≤ a.re ∧ a.re ≤ 1) ∧ (0 ≤ a.to ∧ a.to ≤ 7) ∧ ¬ zw a.a0 a.a1 a.a2 a.a3 ∧ 1 ≤ a.id.size ∧ a.id.size ≤ 16
instance (a : Ak) : Decidable (maybeA a) := by unfold maybeA; infer_instance
structure Bd where
  ro : Int
  k : Ak
  b0 : Nat
  b1 : Nat
  b2 : Nat
  b3 : Nat
  un : Int
  sg : ByteArray
abbrev bdc (b : Bd) : List Value := [.int .i64 b.ro, .int .i64 b.k.us, .int .i64 b.k.se, .int .i64 b.k.re, .int .i64 b.k.to, .int .u64 (b.k.a0 : Nat), .int .u64 (b.k.a1 : Nat), .int .u64 (b.k.a2 : Nat), .int .u64 (b.k.a3 : Nat), .string b.k.id, .int .u64 (b.b0 : Nat), .int .u64 (b.b1 : Nat), .int .u64 (b.b2 : Nat), .int .u64 (b.b3 : Nat), .int .i64 b.un, .string b.sg]
def noB : Bd := ⟨0, noA, 0, 0, 0, 0, 0, ⟨#[]⟩⟩
structure OkA (a : Ak) : Prop where
  k : Ok4 a.a0 a.a1 a.a2 a.a3
def maybeB (b : Bd) : Prop := (2 ≤ b.ro ∧ b.ro ≤ 3) ∧ maybeA b.k ∧ ¬ zw b.b0 b.b1 b.b2 b.b3 ∧ val b.b0 b.b1 b.b2 b.b3 ≤ val b.k.a0 b.k.a1 b.k.a2 b.k.a3 ∧ (0 ≤ b.un ∧ b.un ≤ 1099511627776) ∧ b.sg.size ≤ 1024
instance (b : Bd) : Decidable (maybeB b) := by unfold maybeB; infer_instance
end Go.Proofs.YtbjpifcgnombaaaGreat
namespace Go.Proofs.YtbjpifcgnombaaaGreat
inductive Tk where
  | val (i : Nat) (d : Option Tmp) (v : Value)
  | load (i : Nat) (d : Option Tmp) (ty : TypeId) (p v : Value)
  | alt (i : Nat) (d : Option Tmp) (v u : Value)
  | skip (i : Nat) (d : Option Tmp)
  | idx (i : Nat) (d : Option Tmp) (ty : TypeId) (p x v : Value)
  | slc (i : Nat) (d : Option Tmp) (ty : TypeId) (x : Value) (lo hi mx : Option Value) (v : Value)
def Tk.place : Tk → Nat
  | .val i _ _ => i
  | .load i _ _ _ _ => i
  | .alt i _ _ _ => i
  | .skip i _ => i
  | .idx i _ _ _ _ _ => i
  | .slc i _ _ _ _ _ _ _ => i
def Tk.put (a : Act) : Tk → Act
  | .val _ d v => a.put d v
  | .load _ d _ _ v => a.put d v
  | .alt _ d _ u => a.put d u
  | .skip _ d => a.put d undef
  | .idx _ d _ _ _ v => a.put d v
  | .slc _ d _ _ _ _ _ v => a.put d v
def puts : List Tk → Act → Act
  | [], a => a
  | t :: L, a => puts L (t.put a)
inductive See where
  | run (b : Bool) (d : Option Tmp) (r : Result Next)
  | got (b : Bool) (d : Option Tmp) (t : Option (TypeId × Value))
  | no (b : Bool) (d : Option Tmp)
  | at (b : Bool) (d : Option Tmp) (t : Option (TypeId × Value × Value))
  | sl (b : Bool) (d : Option Tmp) (t : Option (TypeId × Value × Option Value × Option Value × Option Value))
def seeOp (P : Program) (ops : Array Oper) (w : World) (a : Act) (o : Oper) : Tk → See
  | .val _ _ _ => .run (Region.wanted o (yielded ops a.tmps)) o.dst ((execOp a.eval o).run P w)
  | .load _ _ _ _ _ => .got (Region.wanted o (yielded ops a.tmps)) o.dst (match o.op with | .load ty x => some (ty, a.eval x) | _ => none)
  | .alt _ _ _ _ => .run (Region.wanted o (yielded ops a.tmps)) o.dst ((execOp a.eval o).run P w)
  | .skip _ _ => .no (Region.wanted o (yielded ops a.tmps)) o.dst
  | .idx _ _ _ _ _ _ => .at (Region.wanted o (yielded ops a.tmps)) o.dst (match o.op with | .indexAddr ty x y => some (ty, a.eval x, a.eval y) | _ => none)
  | .slc _ _ _ _ _ _ _ _ => .sl (Region.wanted o (yielded ops a.tmps)) o.dst (match o.op with | .slice ty x lo hi mx => some (ty, a.eval x, lo.map a.eval, hi.map a.eval, mx.map a.eval) | _ => none)
def wantOp (w : World) : Tk → See
  | .val _ d v => .run true d (.ok (.value v) w)
  | .load _ d ty p _ => .got true d (some (ty, p))
  | .alt _ d v _ => .run true d (.ok (.value v) w)
  | .skip _ d => .no false d
  | .idx _ d ty p x _ => .at true d (some (ty, p, x))
  | .slc _ d ty x lo hi mx _ => .sl true d (some (ty, x, lo, hi, mx))
def sees (P : Program) (ops : Array Oper) (w : World) : List Tk → Act → List (Option See)
  | [], _ => []
  | t :: L, a => (ops[t.place]?).map (fun o => seeOp P ops w a o t) :: sees P ops w L (t.put a)
def wants (w : World) (L : List Tk) : List (Option See) := L.map fun t => some (wantOp w t)
def Facts (P : Program) (S : World → Prop) : List Tk → Prop
  | [] => True
  | .load _ _ ty p v :: L => (∀ w, S w → (Instr.loadAt ty p).run P w = .ok v w) ∧ Facts P S L
  | .alt _ _ v u :: L => v = u ∧ Facts P S L
  | .idx _ _ ty p x v :: L => (∀ w, S w → (Instr.indexAt ty p x).run P w = .ok v w) ∧ Facts P S L
  | .slc _ _ ty x lo hi mx v :: L => (∀ w, S w → (Instr.sliceAt ty x lo hi mx).run P w = .ok v w) ∧ Facts P S L
  | .val _ _ _ :: L => Facts P S L
  | .skip _ _ :: L => Facts P S L
def FactsAt (P : Program) (w : World) : List Tk → Prop
  | [] => True
  | .load _ _ ty p v :: L => (Instr.loadAt ty p).run P w = .ok v w ∧ FactsAt P w L
  | .alt _ _ v u :: L => v = u ∧ FactsAt P w L
  | .idx _ _ ty p x v :: L => (Instr.indexAt ty p x).run P w = .ok v w ∧ FactsAt P w L
  | .slc _ _ ty x lo hi mx v :: L => (Instr.sliceAt ty x lo hi mx).run P w = .ok v w ∧ FactsAt P w L
  | .val _ _ _ :: L => FactsAt P w L
  | .skip _ _ :: L => FactsAt P w L
theorem factsAt {P : Program} {w : World} : ∀ {L : List Tk}, FactsAt P w L → Facts P (fun W => W = w) L
  | [], _ => trivial
  | .load _ _ _ _ _ :: _, h => ⟨fun W e => by cases e; exact h.1, factsAt h.2⟩
  | .alt _ _ _ _ :: _, h => ⟨h.1, factsAt h.2⟩
  | .idx _ _ _ _ _ _ :: _, h => ⟨fun W e => by cases e; exact h.1, factsAt h.2⟩
  | .slc _ _ _ _ _ _ _ _ :: _, h => ⟨fun W e => by cases e; exact h.1, factsAt h.2⟩
  | .val _ _ _ :: L, h => factsAt (L := L) h
  | .skip _ _ :: L, h => factsAt (L := L) h
section
variable {P : Program} {md : Region.Mode} {ops : Array Oper} {Q : Exit → Act → World → Prop} {S : World → Prop}
theorem one_of {t : Tk} {o : Oper} {a : Act} (ho : ops[t.place]? = some o) (hsee : ∀ w, (ops[t.place]?).map (fun o => seeOp P ops w a o t) = some (wantOp w t)) {L : List Tk} (hf : Facts P S (t :: L)) :
    (∃ v, t.put a = a.put o.dst v ∧ YieldsIf P ops S o v a) ∧ Facts P S L := by
  rw [ho] at hsee
  have hs : ∀ w, seeOp P ops w a o t = wantOp w t := fun w => Option.some.inj (hsee w)
  cases t with
  | val i d v =>
    have hd : o.dst = d := by have := hs default; simp only [seeOp, wantOp, See.run.injEq] at this; exact this.2.1
    exact ⟨⟨v, by rw [hd]; rfl, .inl ⟨by have := hs default; simp only [seeOp, wantOp, See.run.injEq] at this; exact this.1, fun w _ => by have := hs w; simp only [seeOp, wantOp, See.run.injEq] at this; exact this.2.2⟩⟩, hf⟩
  | load i d ty p v =>
    have hd : o.dst = d := by have := hs default; simp only [seeOp, wantOp, See.got.injEq] at this; exact this.2.1
    refine ⟨⟨v, by rw [hd]; rfl, .inl ⟨by have := hs default; simp only [seeOp, wantOp, See.got.injEq] at this; exact this.1, fun w hw => ?_⟩⟩, hf.2⟩
    have h := hs w
    simp only [seeOp, wantOp, See.got.injEq] at h
    have h3 := h.2.2
    have hl := hf.1 w hw
    unfold execOp
    split at h3
    · rename_i ty' x hop
      obtain ⟨rfl, rfl⟩ := by simpa using h3
      simp only [hop, Sem.run_bind, hl, Result.andThen_ok]
      rfl
    · cases h3
  | alt i d v u =>
    have hd : o.dst = d := by have := hs default; simp only [seeOp, wantOp, See.run.injEq] at this; exact this.2.1
    obtain ⟨rfl, hf2⟩ := hf
    exact ⟨⟨v, by rw [hd]; rfl, .inl ⟨by have := hs default; simp only [seeOp, wantOp, See.run.injEq] at this; exact this.1, fun w _ => by have := hs w; simp only [seeOp, wantOp, See.run.injEq] at this; exact this.2.2⟩⟩, hf2⟩
  | skip i d =>
    have hd : o.dst = d := by have := hs default; simp only [seeOp, wantOp, See.no.injEq] at this; exact this.2
    exact ⟨⟨undef, by rw [hd]; rfl, .inr ⟨by have := hs default; simp only [seeOp, wantOp, See.no.injEq] at this; exact this.1, rfl⟩⟩, hf⟩
  | idx i d ty p x v =>
    have hd : o.dst = d := by have := hs default; simp only [seeOp, wantOp, See.at.injEq] at this; exact this.2.1
    refine ⟨⟨v, by rw [hd]; rfl, .inl ⟨by have := hs default; simp only [seeOp, wantOp, See.at.injEq] at this; exact this.1, fun w hw => ?_⟩⟩, hf.2⟩
    have h := hs w
    simp only [seeOp, wantOp, See.at.injEq] at h
    have h3 := h.2.2
    have hl := hf.1 w hw
    unfold execOp
    split at h3
    · rename_i ty' x y hop
      obtain ⟨rfl, rfl, rfl⟩ := by simpa using h3
      simp only [hop, Sem.run_bind, hl, Result.andThen_ok]
      rfl
    · cases h3
  | slc i d ty x lo hi mx v =>
    have hd : o.dst = d := by have := hs default; simp only [seeOp, wantOp, See.sl.injEq] at this; exact this.2.1
    refine ⟨⟨v, by rw [hd]; rfl, .inl ⟨by have := hs default; simp only [seeOp, wantOp, See.sl.injEq] at this; exact this.1, fun w hw => ?_⟩⟩, hf.2⟩
    have h := hs w
    simp only [seeOp, wantOp, See.sl.injEq] at h
    have h3 := h.2.2
    have hl := hf.1 w hw
    unfold execOp
    split at h3
    · rename_i ty' x' lo' hi' mx' hop
      obtain ⟨rfl, rfl, rfl, rfl, rfl⟩ := by simpa using h3
      simp only [hop, Sem.run_bind, hl, Result.andThen_ok]
      rfl
    · cases h3
def listedBy : List Tk → Array Bool → Array Bool
  | [], l => l
  | t :: L, l => listedBy L (l.setIfInBounds t.place true)
def orderOk (md : Region.Mode) (ops : Array Oper) : List Tk → Array Bool → Bool
  | [], _ => true
  | t :: L, l => (Region.free md ops l t.place && (Region.ready md ops l).contains t.place) && orderOk md ops L (l.setIfInBounds t.place true)
theorem wpAnyH_takes (L : List Tk) (hs : Region.noSelect ops = true) (hQ : ∀ d v c a w, Q (.panic c) (Act.put a d v) w → Q (.panic c) a w) :
    ∀ {m n : Nat} {listed : Array Bool} {a : Act} {w : World}, n = m + L.length → orderOk md ops L listed = true → (∀ w, sees P ops w L a = wants w L) → Facts P S L → S w →
      wpAnyH P md ops Q S m (listedBy L listed) (puts L a) w → wpAnyH P md ops Q S n listed a w := by
  induction L with
  | nil => intro m n listed a w hn _ _ _ _ h; subst hn; exact h
  | cons t L ih =>
    intro m n listed a w hn ho hsee hf hS h
    simp only [orderOk, Bool.and_eq_true] at ho
    obtain ⟨⟨ho1, ho2⟩, ho3⟩ := ho
    have hsee1 : ∀ w, (ops[t.place]?).map (fun o => seeOp P ops w a o t) = some (wantOp w t) := fun w => (List.cons.inj (hsee w)).1
    have hsee2 : ∀ w, sees P ops w L (t.put a) = wants w L := fun w => (List.cons.inj (hsee w)).2
    obtain ⟨o, hop⟩ : ∃ o, ops[t.place]? = some o := by
      cases hx : ops[t.place]? with
      | none => have := hsee1 default; rw [hx] at this; cases this
      | some o => exact ⟨o, rfl⟩
    obtain ⟨⟨v, hv, hy⟩, hf2⟩ := one_of hop hsee1 hf
    subst hn
    exact wpAnyH_take hop hs ho1 ho2 (fun c a w h => hQ _ _ c a w h) hy hS (by rw [← hv]; exact ih (m := m) rfl ho3 hsee2 hf2 hS h)
theorem wp_region_M {id : Nat} {a : Act} {w : World} (S S0 : World → Prop) (hm : P.follows .mixedOrders = true) (h0 : S0 w.drew)
    (h : ∀ Y, S0 Y → wpAnyH P .any ops Q S ops.size (Array.replicate ops.size false) a Y) : (Code.region id ops true).wp P Q a w := wp_region_held hm (h _ h0)
def wpFrom (P : Program) (ops : Array Oper) (Q : Exit → Act → World → Prop) (k : Nat) (a : Act) (w : World) : Prop := wpList P ops Q (ops.toList.drop k) a w
theorem wp_region_from {id : Nat} {a : Act} {w : World} (h : wpFrom P ops Q 0 a w) : (Code.region id ops false).wp P Q a w := wp_region_list h
theorem wp_region_fromM {id : Nat} {a : Act} {w : World} (S0 : World → Prop) (h0 : S0 w) (h : ∀ Y, S0 Y → wpFrom P ops Q 0 a Y) : (Code.region id ops false).wp P Q a w := wp_region_from (h _ h0)
theorem wpFrom_step {k : Nat} {a : Act} {w : World} {o : Oper} (ho : ops[k]? = some o)
    (h : ∀ K : Act → World → Prop, (∀ a w, wpFrom P ops Q (k + 1) a w → K a w) → if Region.wanted o (yielded ops a.tmps) = true then o.wp P a w K Q else K (a.put o.dst undef) w) : wpFrom P ops Q k a w := by
  have hk : k < ops.toList.length := by simpa using (Array.getElem?_eq_some_iff.1 ho).1
  have e : ops.toList.drop k = o :: ops.toList.drop (k + 1) := by
    rw [List.drop_eq_getElem_cons hk]
    congr 1
    simpa using (Array.getElem?_eq_some_iff.1 ho).2
  unfold wpFrom
  rw [e]
  exact wpList_step fun K hK => h K hK
theorem wpFrom_takes (L : List Tk) : ∀ {k m : Nat} {a : Act} {w : World}, m = k + L.length → L.map Tk.place = List.range' k L.length → (∀ w, sees P ops w L a = wants w L) → FactsAt P w L →
      wpFrom P ops Q m (puts L a) w → wpFrom P ops Q k a w := by
  induction L with
  | nil => intro k m a w hm _ _ _ h; subst hm; exact h
  | cons t L ih =>
    intro k m a w hm hp hsee hf h
    have hsee1 : ∀ w, (ops[t.place]?).map (fun o => seeOp P ops w a o t) = some (wantOp w t) := fun w => (List.cons.inj (hsee w)).1
    have hsee2 : ∀ w, sees P ops w L (t.put a) = wants w L := fun w => (List.cons.inj (hsee w)).2
    rw [List.map_cons, List.length_cons, List.range'_succ] at hp
    obtain ⟨hp1, hp2⟩ := List.cons.inj hp
    obtain ⟨o, hop⟩ : ∃ o, ops[t.place]? = some o := by
      cases hx : ops[t.place]? with
      | none => have := hsee1 default; rw [hx] at this; cases this
      | some o => exact ⟨o, rfl⟩
    have hf2 : FactsAt P w L := by cases t <;> first | exact hf.2 | exact hf
    obtain ⟨⟨v, hv, hy⟩, _⟩ := one_of hop hsee1 (factsAt hf)
    refine wpFrom_step (by rw [← hp1]; exact hop) fun K hK => ?_
    have hgo : wpFrom P ops Q (k + 1) (a.put o.dst v) w := by rw [← hv]; exact ih (m := m) (by simpa [Nat.add_assoc, Nat.add_comm 1] using hm) hp2 hsee2 hf2 h
    rcases hy with ⟨hw, hr⟩ | ⟨hw, rfl⟩
    · rw [if_pos hw]
      unfold Oper.wp
      rw [hr w rfl]
      exact hK _ _ hgo
    · rw [if_neg (by rw [hw]; decide)]
      exact hK _ _ hgo
theorem wpFrom_done {k : Nat} {a : Act} {w : World} (hk : ops.size ≤ k) (h : Q .normal a w) : wpFrom P ops Q k a w := by
  unfold wpFrom
  rw [List.drop_of_length_le (by simpa using hk)]
  exact wpList_nil h
def runAt (P : Program) (ops : Array Oper) (i : Nat) (a : Act) (w : World) : Option (Bool × Option Tmp × Result Next) := (ops[i]?).map fun o => (Region.wanted o (yielded ops a.tmps), o.dst, (execOp a.eval o).run P w)
def Goes (Q : Exit → Act → World → Prop) (K : Act → World → Prop) (a : Act) (d : Option Tmp) : Ending → World → Prop
  | .returned v, w => K (a.put d v) w
  | .panicked c, w => Q (.panic c) a w
  | .outgrown, _ => LetsOut Q
theorem op_call {i : Nat} {o : Oper} {a : Act} {w : World} {d : Option Tmp} {f : FuncId} {args : Array Value} {K : Act → World → Prop} (ho : ops[i]? = some o) (hr : runAt P ops i a w = some (true, d, .ok (.enter f args) w)) (hc : Calls P f args w (Goes Q K a d)) :
    if Region.wanted o (yielded ops a.tmps) = true then o.wp P a w K Q else K (a.put o.dst undef) w := by
  unfold runAt at hr
  rw [ho] at hr
  have h := Option.some.inj hr
  have h1 : Region.wanted o (yielded ops a.tmps) = true := congrArg Prod.fst h
  have h2 : o.dst = d := congrArg (fun x => x.2.1) h
  have h3 : (execOp a.eval o).run P w = .ok (.enter f args) w := congrArg (fun x => x.2.2) h
  rw [if_pos h1]
  unfold Oper.wp
  rw [h3]
  refine hc.mono fun e w' he => ?_
  rw [h2]
  cases e <;> exact he
theorem op_run {i : Nat} {o : Oper} {a : Act} {w w' : World} {d : Option Tmp} {v : Value} {K : Act → World → Prop} (ho : ops[i]? = some o) (hr : runAt P ops i a w = some (true, d, .ok (.value v) w')) (hc : K (a.put d v) w') :
    if Region.wanted o (yielded ops a.tmps) = true then o.wp P a w K Q else K (a.put o.dst undef) w := by
  unfold runAt at hr
  rw [ho] at hr
  have h := Option.some.inj hr
  have h1 : Region.wanted o (yielded ops a.tmps) = true := congrArg Prod.fst h
  have h2 : o.dst = d := congrArg (fun x => x.2.1) h
  have h3 : (execOp a.eval o).run P w = .ok (.value v) w' := congrArg (fun x => x.2.2) h
  rw [if_pos h1]
  unfold Oper.wp
  rw [h3]
  have : K (a.put o.dst v) w' := by rw [h2]; exact hc
  exact this
def storeAt (ops : Array Oper) (i : Nat) (a : Act) : Option (Bool × Option Tmp × Option (TypeId × Value × Value)) := (ops[i]?).map fun o => (Region.wanted o (yielded ops a.tmps), o.dst, match o.op with | .store ty x y => some (ty, a.eval x, a.eval y) | _ => none)
theorem op_store {i : Nat} {o : Oper} {a : Act} {w w' : World} {ty : TypeId} {p v : Value} {K : Act → World → Prop} (ho : ops[i]? = some o) (hr : storeAt ops i a = some (true, none, some (ty, p, v))) (hst : (Instr.storeAt ty p v).run P w = .ok () w') (hc : K a w') :
    if Region.wanted o (yielded ops a.tmps) = true then o.wp P a w K Q else K (a.put o.dst undef) w := by
  unfold storeAt at hr
  rw [ho] at hr
  have h := Option.some.inj hr
  have h1 : Region.wanted o (yielded ops a.tmps) = true := congrArg Prod.fst h
  have h2 : o.dst = none := congrArg (fun x => x.2.1) h
  have h3 := congrArg (fun x => x.2.2) h
  rw [if_pos h1]
  dsimp only at h3
  split at h3
  · rename_i ty' x y hop
    obtain ⟨rfl, rfl, rfl⟩ := by simpa using h3
    unfold Oper.wp execOp
    simp only [hop, Sem.run_bind, hst, Result.andThen_ok]
    have : K (a.put o.dst undef) w' := by rw [h2]; exact hc
    exact this
  · cases h3
def StepH (P : Program) (md : Region.Mode) (ops : Array Oper) (Q : Exit → Act → World → Prop) (S : World → Prop) (m : Nat) (listed : Array Bool) (a : Act) (w : World) (i : Nat) : Prop :=
  wpOp P ops Q i (fun a' w' => S w' ∧ wpAnyH P md ops Q S m (listed.setIfInBounds i true) a' w') a w
theorem wpAnyH_one {i m n : Nat} {listed : Array Bool} {a : Act} {w : World} (hr : Region.ready md ops listed = [i]) (hn : n = m + 1) (h : StepH P md ops Q S m listed a w i) : wpAnyH P md ops Q S n listed a w := by
  subst hn
  exact wpAnyH_all hr (by simp) fun j hj => by obtain rfl := List.mem_singleton.1 hj; exact h
theorem wpAnyH_two {i j m n : Nat} {listed : Array Bool} {a : Act} {w : World} (hr : Region.ready md ops listed = [i, j]) (hn : n = m + 1) (h1 : StepH P md ops Q S m listed a w i) (h2 : StepH P md ops Q S m listed a w j) : wpAnyH P md ops Q S n listed a w := by
  subst hn
  refine wpAnyH_all hr (by simp) fun k hk => ?_
  rcases List.mem_cons.1 hk with rfl | hk
  · exact h1
  · obtain rfl := List.mem_singleton.1 hk; exact h2
theorem stepH_of {m i : Nat} {listed : Array Bool} {a : Act} {w : World} {o : Oper} (ho : ops[i]? = some o)
    (h : if Region.wanted o (yielded ops a.tmps) = true then o.wp P a w (fun a' w' => S w' ∧ wpAnyH P md ops Q S m (listed.setIfInBounds i true) a' w') Q else (fun a' w' => S w' ∧ wpAnyH P md ops Q S m (listed.setIfInBounds i true) a' w') (a.put o.dst undef) w) : StepH P md ops Q S m listed a w i := by
  refine wpOp_step ho fun K' hK => ?_
  split at h
  · rename_i hw
    rw [if_pos hw]
    exact Oper.wp_mono (fun a w h => hK a w h) h
  · rename_i hw
    rw [if_neg hw]
    exact hK _ _ h
theorem some_of {α β : Type} {x : Option α} {f : α → β} {y : β} (h : x.map f = some y) : ∃ o, x = some o := by
  cases x with
  | none => cases h
  | some o => exact ⟨o, rfl⟩
theorem stepH_call {m i : Nat} {listed : Array Bool} {a : Act} {w : World} {d : Option Tmp} {f : FuncId} {args : Array Value} (hr : runAt P ops i a w = some (true, d, .ok (.enter f args) w))
    (hc : Calls P f args w (Goes Q (fun a' w' => S w' ∧ wpAnyH P md ops Q S m (listed.setIfInBounds i true) a' w') a d)) : StepH P md ops Q S m listed a w i := by
  obtain ⟨o, ho⟩ := some_of hr
  exact stepH_of ho (op_call ho hr hc)
theorem stepH_run {m i : Nat} {listed : Array Bool} {a : Act} {w w' : World} {d : Option Tmp} {v : Value} (hr : runAt P ops i a w = some (true, d, .ok (.value v) w')) (hS : S w') (h : wpAnyH P md ops Q S m (listed.setIfInBounds i true) (a.put d v) w') : StepH P md ops Q S m listed a w i := by
  obtain ⟨o, ho⟩ := some_of hr
  exact stepH_of ho (op_run ho hr ⟨hS, h⟩)
theorem stepH_store {m i : Nat} {listed : Array Bool} {a : Act} {w w' : World} {ty : TypeId} {p v : Value} (hr : storeAt ops i a = some (true, none, some (ty, p, v))) (hst : (Instr.storeAt ty p v).run P w = .ok () w') (hS : S w') (h : wpAnyH P md ops Q S m (listed.setIfInBounds i true) a w') : StepH P md ops Q S m listed a w i := by
  obtain ⟨o, ho⟩ := some_of hr
  exact stepH_of ho (op_store ho hr hst ⟨hS, h⟩)
theorem wpFrom_call {k : Nat} {a : Act} {w : World} {d : Option Tmp} {f : FuncId} {args : Array Value} (hr : runAt P ops k a w = some (true, d, .ok (.enter f args) w)) (hc : Calls P f args w (Goes Q (wpFrom P ops Q (k + 1)) a d)) : wpFrom P ops Q k a w := by
  obtain ⟨o, ho⟩ := some_of hr
  refine wpFrom_step ho fun K hK => op_call ho hr (hc.mono fun e w' he => ?_)
  cases e with
  | returned v => exact hK _ _ he
  | panicked c => exact he
  | outgrown => exact he
theorem wpFrom_run {k : Nat} {a : Act} {w w' : World} {d : Option Tmp} {v : Value} (hr : runAt P ops k a w = some (true, d, .ok (.value v) w')) (h : wpFrom P ops Q (k + 1) (a.put d v) w') : wpFrom P ops Q k a w := by
  obtain ⟨o, ho⟩ := some_of hr
  exact wpFrom_step ho fun K hK => op_run ho hr (hK _ _ h)
theorem wpFrom_store {k : Nat} {a : Act} {w w' : World} {ty : TypeId} {p v : Value} (hr : storeAt ops k a = some (true, none, some (ty, p, v))) (hst : (Instr.storeAt ty p v).run P w = .ok () w') (h : wpFrom P ops Q (k + 1) a w') : wpFrom P ops Q k a w := by
  obtain ⟨o, ho⟩ := some_of hr
  exact wpFrom_step ho fun K hK => op_store ho hr hst (hK _ _ h)
abbrev pt (b o : Nat) : Value := .pointer (some ⟨b, o, none⟩)
theorem tD (m : Nat) (L : List Tk) {n : Nat} {listed : Array Bool} {a : Act} {w : World} (hf : Facts P S L) (hS : S w) (h : wpAnyH P md ops Q S m (listedBy L listed) (puts L a) w) (hs : Region.noSelect ops = true := by kernel_rfl) (hQ : ∀ d v c a w, Q (.panic c) (Act.put a d v) w → Q (.panic c) a w := by rintro (_ | _) _ _ _ _ h <;> exact h)
    (hn : n = m + L.length := by kernel_rfl) (ho : orderOk md ops L listed = true := by kernel_rfl) (hsee : ∀ w, sees P ops w L a = wants w L := by intro _; kernel_rfl) : wpAnyH P md ops Q S n listed a w := wpAnyH_takes L hs hQ hn ho hsee hf hS h
theorem tF (m : Nat) (L : List Tk) {k : Nat} {a : Act} {w : World} (hf : FactsAt P w L) (h : wpFrom P ops Q m (puts L a) w) (hm : m = k + L.length := by kernel_rfl) (hp : L.map Tk.place = List.range' k L.length := by kernel_rfl) (hsee : ∀ w, sees P ops w L a = wants w L := by intro _; kernel_rfl) : wpFrom P ops Q k a w := wpFrom_takes L hm hp hsee hf h
theorem oD (i m : Nat) {n : Nat} {listed : Array Bool} {a : Act} {w : World} (h : StepH P md ops Q S m listed a w i) (hr : Region.ready md ops listed = [i] := by kernel_rfl) (hn : n = m + 1 := by kernel_rfl) : wpAnyH P md ops Q S n listed a w := wpAnyH_one hr hn h
theorem oT (i j m : Nat) {n : Nat} {listed : Array Bool} {a : Act} {w : World} (h1 : StepH P md ops Q S m listed a w i) (h2 : StepH P md ops Q S m listed a w j) (hr : Region.ready md ops listed = [i, j] := by kernel_rfl) (hn : n = m + 1 := by kernel_rfl) : wpAnyH P md ops Q S n listed a w := wpAnyH_two hr hn h1 h2
theorem cD (d : Option Tmp) (f : FuncId) (args : Array Value) {m i : Nat} {listed : Array Bool} {a : Act} {w : World} (hc : Calls P f args w (Goes Q (fun a' w' => S w' ∧ wpAnyH P md ops Q S m (listed.setIfInBounds i true) a' w') a d)) (hr : runAt P ops i a w = some (true, d, .ok (.enter f args) w) := by kernel_rfl) : StepH P md ops Q S m listed a w i := stepH_call hr hc
theorem cF (d : Option Tmp) (f : FuncId) (args : Array Value) {k : Nat} {a : Act} {w : World} (hc : Calls P f args w (Goes Q (wpFrom P ops Q (k + 1)) a d)) (hr : runAt P ops k a w = some (true, d, .ok (.enter f args) w) := by kernel_rfl) : wpFrom P ops Q k a w := wpFrom_call hr hc
theorem rD (d : Option Tmp) (v : Value) (w' : World) {m i : Nat} {listed : Array Bool} {a : Act} {w : World} (hS : S w') (h : wpAnyH P md ops Q S m (listed.setIfInBounds i true) (a.put d v) w') (hr : runAt P ops i a w = some (true, d, .ok (.value v) w') := by kernel_rfl) : StepH P md ops Q S m listed a w i := stepH_run hr hS h
theorem rF (d : Option Tmp) (v : Value) (w' : World) {k : Nat} {a : Act} {w : World} (h : wpFrom P ops Q (k + 1) (a.put d v) w') (hr : runAt P ops k a w = some (true, d, .ok (.value v) w') := by kernel_rfl) : wpFrom P ops Q k a w := wpFrom_run hr h
theorem sD (ty : TypeId) (p v : Value) {m i : Nat} {listed : Array Bool} {a : Act} {w w' : World} (hst : (Instr.storeAt ty p v).run P w = .ok () w') (hS : S w') (h : wpAnyH P md ops Q S m (listed.setIfInBounds i true) a w') (hr : storeAt ops i a = some (true, none, some (ty, p, v)) := by kernel_rfl) : StepH P md ops Q S m listed a w i := stepH_store hr hst hS h
theorem sF (ty : TypeId) (p v : Value) {k : Nat} {a : Act} {w w' : World} (hst : (Instr.storeAt ty p v).run P w = .ok () w') (h : wpFrom P ops Q (k + 1) a w') (hr : storeAt ops k a = some (true, none, some (ty, p, v)) := by kernel_rfl) : wpFrom P ops Q k a w := wpFrom_store hr hst h
theorem dF {k : Nat} {a : Act} {w : World} (h : Q .normal a w) (hk : Nat.ble ops.size k = true := by kernel_rfl) : wpFrom P ops Q k a w := wpFrom_done (Nat.le_of_ble_eq_true hk) h
theorem dD {n : Nat} {listed : Array Bool} {a : Act} {w : World} (h : Q .normal a w) (hr : Region.ready md ops listed = [] := by kernel_rfl) : wpAnyH P md ops Q S n listed a w := wpAnyH_done hr h n
end
end Go.Proofs.YtbjpifcgnombaaaGreat
