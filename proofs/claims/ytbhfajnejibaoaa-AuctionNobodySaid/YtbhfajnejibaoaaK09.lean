/-
  A range over a function whose body never leaves, where the iterator has a loop over an iterator of its own; slices.Values over slices of octets: each; slices.AppendSeq of strings onto a row of the call's own; Arrays of words: as cells, as values; read and stored whole; blob.Int: the number of the first seven octets at most; Words of 32 bits: rotations to the right; hash.squareRoots, hash.cubeRoots
-/
import Derived.Laws.OwnMore
import Derived.WalkSpells
import Derived.RangeFuncNested
import Derived.RangeFuncCalls
import Derived.RangeFuncIn
import Derived.WalkKit
import Derived.Test.YtbhfajnejibaoaaProg
import Derived.Lib.ConvBytes
import Derived.Laws.AppendOwn
import Derived.Outline
import Derived.Maps.AppendAt
import Derived.IntWalk
import Derived.Deep.QuietTactic
import Derived.Deep.RegionHeld3
import Derived.BigQuiet
import Derived.Deep.Cut
import Derived.Laws.BitsLemmas
import Derived.Laws.CopyOwn
import Derived.Laws.Rows
import Derived.Laws.Tables
import Derived.StillTail
import Derived.StillTactics
import Derived.Lib.Hide
import Derived.Great.BuildSlice
import Derived.StillTailTactics
import Derived.RegionTactic
import Derived.Lib.AppendZeros
import Derived.OwnWalkIn
import Derived.OrdersIn
import Derived.CallsIn
import Derived.TacticsInMore
import Derived.Deep.AppendLies
import Derived.OneCell
import Derived.Test.YtbhfajnejibaoaaK08
namespace Go.Proofs.Ytbhfajnejibaoaa
open Go.RowKit
variable {F : Fence} {n : Nat} {P : Program}
def AllBut (B l : Nat) (W W' : World) : Prop := W.heap.size ≤ W'.heap.size ∧ ∀ k, k < W.heap.size → k ≠ B → k ≠ l → W'.heap[k]? = W.heap[k]?
theorem AllBut.refl (B l : Nat) (W : World) : AllBut B l W W := ⟨Nat.le_refl _, fun _ _ _ _ => rfl⟩
theorem AllBut.b (B l : Nat) (W : World) (o' : Obj) : AllBut B l W (W.putObj l o') := ⟨by simp, fun j _ _ h2 => World.putObj_heap_other h2⟩
theorem AllBut.of_below {B l : Nat} {W W' : World} (h : Below W.heap.size W W') : AllBut B l W W' := ⟨h.size, fun j hj _ _ => h.block j hj⟩
theorem AllBut.of_grown {B l : Nat} {W W' : World} (h : W.grownBy W' (some B)) : AllBut B l W W' := ⟨h.size, fun j hj h1 _ => h.block j hj (fun e => h1 (Option.some.inj e))⟩
end Go.Proofs.Ytbhfajnejibaoaa
namespace Go.Proofs.Ytbhfajnejibaoaa
open Go.RowKit Go.Shelf
attribute [local go_sem] Oper.semAt_some
abbrev SX (m n : Nat) (w : World) := { x : Value × List UInt8 // BSl 0 n w x.1 x.2 ∧ x.2.length ≤ m }
def SRow {o n : Nat} {w : World} (W : World) (b off : Nat) (l : List (SX o n w)) : Prop := ∀ k x, l[k]? = some x → W.cell? ⟨b, off + k, none⟩ = some x.1.1
theorem SRow.below {o n : Nat} {w : World} {W W' : World} {m b off : Nat} {l : List (SX o n w)} (h : SRow W b off l) (hb : Below m W W') (hlt : b < m) : SRow W' b off l := fun k x hx => (hb.cell (p := ⟨b, _, none⟩) hlt).trans (h k x hx)
def SSl {o n : Nat} {w : World} (m : Nat) (W : World) (sv : Value) (zs : List (SX o n w)) : Prop :=
  ∃ a cap, sv = .slice a zs.length cap ∧ (zs = [] ∨ ∃ b off, a = some ⟨b, off, none⟩ ∧ b < m ∧ SRow W b off zs)
theorem SSl.below {o n : Nat} {w : World} {m k : Nat} {W W' : World} {sv : Value} {zs : List (SX o n w)} (h : SSl m W sv zs) (hb : Below k W W') (hm : m ≤ k) : SSl m W' sv zs := by
  obtain ⟨a, cap, e, h0 | ⟨b, off, ha, hl, ho⟩⟩ := h
  · exact ⟨a, cap, e, .inl h0⟩
  · exact ⟨a, cap, e, .inr ⟨b, off, ha, hl, ho.below hb (by omega)⟩⟩
end Go.Proofs.Ytbhfajnejibaoaa
namespace Go.Proofs.Ytbhfajnejibaoaa
open Go.RowKit Go.Shelf
attribute [local go_sem] Oper.semAt_some
def ButRows (e : TypeId) (B l : Nat) (W W' : World) : Prop := W.heap.size ≤ W'.heap.size ∧ ∀ (j : Nat) (o : Obj), W.heap[j]? = some o → j ≠ B → j ≠ l → (∀ cur fr, o ≠ .cells cur e fr) → W'.heap[j]? = some o
theorem ButRows.refl (e : TypeId) (B l : Nat) (W : World) : ButRows e B l W W := ⟨Nat.le_refl _, fun _ _ h _ _ _ => h⟩
theorem ButRows.b (e : TypeId) (B l : Nat) (W : World) (o' : Obj) : ButRows e B l W (W.putObj l o') := ⟨by simp, fun j o hj _ h2 _ => (World.putObj_heap_other h2).trans hj⟩
end Go.Proofs.Ytbhfajnejibaoaa
namespace Go.Proofs.Ytbhfajnejibaoaa
open Go.RowKit
def us (f : Nat → Int) (n : Nat) : List Value := upto (fun k => Value.int .u32 (f k)) n
end Go.Proofs.Ytbhfajnejibaoaa
namespace Go.Proofs.Ytbhfajnejibaoaa
open Go.RowKit Go.Shelf
attribute [local go_sem] Oper.semAt_some
theorem BSl.take {lo hi : Nat} {W : World} {a : Option Addr} {cap : Nat} {l : List UInt8} (h : BSl lo hi W (.slice a l.length cap) l) (k : Nat) (hk : k ≤ l.length) : BSl lo hi W (.slice a k cap) (l.take k) := by
  obtain ⟨a', cap', e, hc, h0⟩ := h
  cases e
  refine ⟨a, cap, by rw [List.length_take, Nat.min_eq_left hk], by simp; omega, ?_⟩
  rcases h0 with rfl | ⟨b, off, ha, h1, h2, ho⟩
  · exact .inl (by simp)
  · exact .inr ⟨b, off, ha, h1, h2, fun j x hj => ho j x (by
      have hjk : j < k := by have := (List.getElem?_eq_some_iff.1 hj).1; simp at this; omega
      rwa [List.getElem?_take_of_lt hjk] at hj)⟩
end Go.Proofs.Ytbhfajnejibaoaa
namespace Go.Proofs.Ytbhfajnejibaoaa
open Go.RowKit
def turns (n : Nat) : Prop := n ∈ [2, 3, 6, 7, 10, 11, 13, 17, 18, 19, 22, 25]
theorem t2 : turns 2 := by unfold turns; simp
end Go.Proofs.Ytbhfajnejibaoaa
namespace Go.Proofs.Ytbhfajnejibaoaa
open Go.RowKit
def cbList : List Int := [0x428a2f98, 0x71374491, 0xb5c0fbcf, 0xe9b5dba5, 0x3956c25b, 0x59f111f1, 0x923f82a4, 0xab1c5ed5,
  0xd807aa98, 0x12835b01, 0x243185be, 0x550c7dc3, 0x72be5d74, 0x80deb1fe, 0x9bdc06a7, 0xc19bf174,
  0xe49b69c1, 0xefbe4786, 0x0fc19dc6, 0x240ca1cc, 0x2de92c6f, 0x4a7484aa, 0x5cb0a9dc, 0x76f988da,
  0x983e5152, 0xa831c66d, 0xb00327c8, 0xbf597fc7, 0xc6e00bf3, 0xd5a79147, 0x06ca6351, 0x14292967,
  0x27b70a85, 0x2e1b2138, 0x4d2c6dfc, 0x53380d13, 0x650a7354, 0x766a0abb, 0x81c2c92e, 0x92722c85,
  0xa2bfe8a1, 0xa81a664b, 0xc24b8b70, 0xc76c51a3, 0xd192e819, 0xd6990624, 0xf40e3585, 0x106aa070,
  0x19a4c116, 0x1e376c08, 0x2748774c, 0x34b0bcb5, 0x391c0cb3, 0x4ed8aa4a, 0x5b9cca4f, 0x682e6ff3,
  0x748f82ee, 0x78a5636f, 0x84c87814, 0x8cc70208, 0x90befffa, 0xa4506ceb, 0xbef9a3f7, 0xc67178f2]
def cb (k : Nat) : Int := cbList.getD k 0
end Go.Proofs.Ytbhfajnejibaoaa
namespace Go.Proofs.Ytbhfajnejibaoaa
open Go.RowKit
structure S8 where
  a : Int
  b : Int
  c : Int
  d : Int
  e : Int
  f : Int
  g : Int
  h : Int
def S8.at (s : S8) : Nat → Int
  | 0 => s.a
  | 1 => s.b
  | 2 => s.c
  | 3 => s.d
  | 4 => s.e
  | 5 => s.f
  | 6 => s.g
  | _ => s.h
end Go.Proofs.Ytbhfajnejibaoaa
namespace Go.Proofs.Ytbhfajnejibaoaa
open Go.RowKit Go.Shelf
def blk (p : List UInt8) (n : Nat) : List UInt8 := (p.drop (64 * n)).take 64
end Go.Proofs.Ytbhfajnejibaoaa
namespace Go.Proofs.Ytbhfajnejibaoaa
open Go.RowKit Go.Shelf
def Pieces (N : Nat) (W : World) (vs : List Value) (bs : List (List UInt8)) : Prop := vs.length = bs.length ∧ ∀ (k : Nat) (v : Value) (b : List UInt8), vs[k]? = some v → bs[k]? = some b → W.ownsRow N 5 1 v b.length (b.map bv)
theorem Pieces.to {N : Nat} {W W' : World} {vs : List Value} {bs : List (List UInt8)} (h : Pieces N W vs bs) (hk : ∀ v b, W.ownsRow N 5 1 v b.length (b.map bv) → W'.ownsRow N 5 1 v (b : List UInt8).length (b.map bv)) : Pieces N W' vs bs :=
  ⟨h.1, fun k v b hv hb => hk v b (h.2 k v b hv hb)⟩
end Go.Proofs.Ytbhfajnejibaoaa
namespace Go.Proofs.Ytbhfajnejibaoaa
open Go.RowKit Go.Shelf
attribute [local go_sem] Oper.semAt_some
def TxtAt (lo : Nat) (W : World) (v : Value) (l : List UInt8) : Prop :=
  ∃ (b c : Nat) (cur : Array Value) (fr : Nat × Nat), v = .slice (some ⟨b, 0, none⟩) l.length c ∧ l.length ≤ c ∧ lo ≤ b ∧ W.heap[b]? = some (.cells cur 5 fr) ∧ ∀ (k : Nat) (x : UInt8), l[k]? = some x → cur[k]? = some (bv x)
theorem TxtAt.to {lo : Nat} {W W' : World} {v : Value} {l : List UInt8} (h : TxtAt lo W v l) (hk : ∀ (b : Nat) (cur : Array Value) (fr : Nat × Nat), W.heap[b]? = some (.cells cur 5 fr) → W'.heap[b]? = W.heap[b]?) : TxtAt lo W' v l := by
  obtain ⟨b, c, cur, fr, e, hc, hb, hh, hl⟩ := h
  exact ⟨b, c, cur, fr, e, hc, hb, (hk b cur fr hh).trans hh, hl⟩
theorem TxtAt.mono {lo lo' : Nat} {W : World} {v : Value} {l : List UInt8} (h : TxtAt lo W v l) (hl : lo' ≤ lo) : TxtAt lo' W v l := by
  obtain ⟨b, c, cur, fr, e, hc, hb, r⟩ := h
  exact ⟨b, c, cur, fr, e, hc, Nat.le_trans hl hb, r⟩
theorem TxtAt.below {lo : Nat} {W W' : World} {v : Value} {l : List UInt8} (h : TxtAt lo W v l) (hb : Below W.heap.size W W') : TxtAt lo W' v l := h.to fun b _ _ hh => hb.block b (Array.getElem?_eq_some_iff.1 hh).1
theorem TxtAt.set {lo : Nat} {W : World} {v : Value} {l : List UInt8} (h : TxtAt lo W v l) {B : Nat} {t : TypeId} {x : Value} (hb : Boxed W B t x) (hne : 5 ≠ t) (y : Value) : TxtAt lo (W.setCell ⟨B, 0, none⟩ y) v l :=
  h.to fun b cur fr hh => Below.heap_setCell _ _ _ b (fun e => by subst e; rw [show W.heap[b]? = _ from hb] at hh; cases hh; exact hne rfl)
theorem TxtAt.own {lo : Nat} {W W' : World} {v : Value} {l : List UInt8} {row : Option Nat} (h : TxtAt lo W v l) (hg : W.grownBy W' row) (hr : ∀ r, row = some r → ∃ o : Obj, W.heap[r]? = some o ∧ o.isCells = false) : TxtAt lo W' v l :=
  h.to fun b cur fr hh => hg.block b (Array.getElem?_eq_some_iff.1 hh).1 (fun e => by obtain ⟨o, ho, hc⟩ := hr b e.symm; rw [hh] at ho; cases ho; cases hc)
def Txts (lo : Nat) (W : World) (vs : List Value) (zs : List ByteArray) : Prop := vs.length = zs.length ∧ ∀ (k : Nat) (v : Value) (s : ByteArray), vs[k]? = some v → zs[k]? = some s → TxtAt lo W v s.data.toList
theorem Txts.to {lo : Nat} {W W' : World} {vs : List Value} {zs : List ByteArray} (h : Txts lo W vs zs) (hk : ∀ v (l : List UInt8), TxtAt lo W v l → TxtAt lo W' v l) : Txts lo W' vs zs := ⟨h.1, fun k v s hv hs => hk v _ (h.2 k v s hv hs)⟩
end Go.Proofs.Ytbhfajnejibaoaa
namespace Go.Proofs.Ytbhfajnejibaoaa
open Go.RowKit Go.Shelf
def wf (zs : List ByteArray) : Bool := decide (zs.length = 15) && zs.all (fun x => x.size == 8)
end Go.Proofs.Ytbhfajnejibaoaa
namespace Go.Proofs.Ytbhfajnejibaoaa
open Go.RowKit Go.Shelf
attribute [local irreducible] wpFrom wpAnyH StepH
def NewRm (R : Rm) (w : World) (e : Ending) (W' : World) : Prop := ∃ B va vb, e = .returned (.pointer (some ⟨B, 0, none⟩)) ∧ Sep w [] (RMR B R va vb) W'
set_option maxRecDepth 100000 in
set_option maxHeartbeats 4000000 in
theorem rmNew_nil (w : World) : Calls Try.prog 23 #[.slice none 0 0] w (NewRm ⟨⟨#[]⟩, ⟨#[]⟩, [], []⟩ w) := by
  have hmx : Try.prog.follows .mixedOrders = true := by kernel_rfl
  have hM := Sep.start w
  go_enter Try.func23, Try.ntmps23
  go_upto_region 0 with fail
  refine wp_region_fromM (fun W => Sep w [] [] W) hM ?_
  clear hM
  rintro Y1 hM
  refine tF 1 [.val 0 (some 2) (.pointer none)] trivial ?_
  refine dF ?_
  try simp only [puts, Tk.put, Act.put, List.setIfInBounds_toArray, List.set_cons_zero, List.set_cons_succ]
  go_upto_region 1 with fail
  refine wp_region_fromM (fun W => Sep w [] [] W) hM ?_
  clear hM
  rintro Y2 hM
  refine tF 1 [.val 0 (some 4) (.agg (rmc true ⟨#[]⟩ ⟨#[]⟩ (.slice none 0 0) (.slice none 0 0)).toArray)] trivial ?_
  refine rF (some 5) (pt Y2.heap.size 0) (Y2.alloc (.cells (rmc true ⟨#[]⟩ ⟨#[]⟩ (.slice none 0 0) (.slice none 0 0)).toArray 34)) ?_
  replace hM := hM.alloc 34 (rmc true ⟨#[]⟩ ⟨#[]⟩ (.slice none 0 0) (.slice none 0 0))
  generalize World.alloc _ _ = Y3 at *
  generalize hNe : Y2.heap.size = N3 at *
  clear hNe
  refine tF 3 [.val 2 (some 3) (pt N3 0)] trivial ?_
  refine dF ?_
  try simp only [puts, Tk.put, Act.put, List.setIfInBounds_toArray, List.set_cons_zero, List.set_cons_succ]
  go_upto_region 2 with fail
  refine wp_region_fromM (fun W => Sep w [] [.blk N3 34 (rmc true ⟨#[]⟩ ⟨#[]⟩ (.slice none 0 0) (.slice none 0 0))] W) hM ?_
  clear hM
  rintro Y4 hM
  refine tF 5 [.val 0 (some 6) (pt N3 0), .val 1 (some 7) (pt N3 0), .val 2 (some 8) (pt N3 1), .slc 3 (some 9) 30 (pt N3 1) none none none (.slice (some ⟨N3, 1, none⟩) 2 2), .val 4 (some 10) (.slice none 0 0)] ⟨slice_arr2 (c := 1) Try.underlying30 (fun W => by kernel_rfl) _ _ _, trivial⟩ ?_
  refine cpF 71 71 3 (some 11) (.slice (some ⟨N3, 1, none⟩) 2 2) (.slice none 0 0) (.int .i64 0) (run_copy_nil (P := Try.prog) Y4 71 71 3 9 _ 2 2 Try.underlying71 (by kernel_rfl)) ?_
  refine dF ?_
  try simp only [puts, Tk.put, Act.put, List.setIfInBounds_toArray, List.set_cons_zero, List.set_cons_succ]
  go_upto_region 3 with fail
  refine wp_region_fromM (fun W => Sep w [] [.blk N3 34 (rmc true ⟨#[]⟩ ⟨#[]⟩ (.slice none 0 0) (.slice none 0 0))] W) hM ?_
  clear hM
  rintro Y5 hM
  refine tF 2 [.val 0 (some 12) (pt N3 0), .val 1 (some 2) (pt N3 0)] trivial ?_
  refine dF ?_
  try simp only [puts, Tk.put, Act.put, List.setIfInBounds_toArray, List.set_cons_zero, List.set_cons_succ]
  replace hM := (hM.nil ltc 46 10).nil bdc 28 16
  go_wp2_with fail
  go_ret
  exact ⟨_, _, _, rfl, hM.pick [2, 1, 0] (by decide) rfl⟩
theorem clipLt_any {lo hi : Nat} {a : Option Addr} {cap : Nat} {l : List Lt} (w : World) (hl : RSl ltc lo hi w (.slice a l.length cap) l) : Calls Try.prog 17 #[.slice a l.length cap] w fun e W' => e = .returned (.slice a l.length l.length) ∧ W' = w := by
  have hcap : l.length ≤ cap := by obtain ⟨_, _, e, h, _⟩ := hl; cases e; exact h
  have hmax := hl.len
  unfold maxLen at hmax
  clear hl
  generalize l.length = n at *
  go_enter Try.func17, Try.ntmps17
  go_wp2
  go_ret
  exact ⟨rfl, rfl⟩
theorem open_err {R : Rm} {a : Ak} {now : Int} (h : (errA a != 0) = true) : openR R a now = (R, errA a) := if_pos (bne_iff_ne.1 h)
theorem open_is {R : Rm} {a : Ak} {now : Int} (h : (errA a != 0) = false) (h' : (openL R.ls a).isSome = true) : openR R a now = (R, 32) := by
  unfold openR
  rw [if_neg (fun e => e (bne_eq_false_iff_eq.1 h)), if_pos h']
theorem open_full {R : Rm} {a : Ak} {now : Int} (h : (errA a != 0) = false) (h' : (openL R.ls a).isSome = false) (h3 : decide (8 ≤ (R.ls.length : Int)) = true) : openR R a now = (R, 10) := by
  unfold openR
  rw [if_neg (fun e => e (bne_eq_false_iff_eq.1 h)), if_neg (by rw [h']; decide), if_pos (by have h := of_decide_eq_true h3; omega)]
theorem open_yes {R : Rm} {a : Ak} {now z : Int} (h : (errA a != 0) = false) (h' : (openL R.ls a).isSome = false) (h3 : decide (8 ≤ (R.ls.length : Int)) = false) (hz : sinceI now = z) : openR R a now = ({ R with ls := R.ls ++ [⟨a, z⟩] }, 0) := by
  unfold openR
  rw [if_neg (fun e => e (bne_eq_false_iff_eq.1 h)), if_neg (by rw [h']; decide), if_neg (by have h := of_decide_eq_false h3; omega), hz]
theorem since_neg {t : Int} (h : decide (t < 0) = true) : sinceI t = 0 := if_pos (.inl (of_decide_eq_true h))
theorem since_big {t : Int} (h : decide (1099511627776 < t) = true) : sinceI t = 0 := if_pos (.inr (of_decide_eq_true h))
theorem since_in {t : Int} (h : decide (t < 0) = false) (h' : decide (1099511627776 < t) = false) : sinceI t = t := if_neg fun e => e.elim (of_decide_eq_false h) (of_decide_eq_false h')
set_option maxRecDepth 100000 in
set_option maxHeartbeats 4000000 in
theorem rmOpen_any {B : Nat} {R : Rm} {va vb : Value} (a : Ak) (now : Int) (w : World) (h : ROk (.join (RMR B R va vb)) w) : Calls Try.prog 5 #[.pointer (some ⟨B, 0, none⟩), akv a, .int .i64 now] w (RmR B (.join (RMR B R va vb)) (openR R a now).1 (.int .i64 (openR R a now).2) w) := by
  have hmx : Try.prog.follows .mixedOrders = true := by kernel_rfl
  have hM := Sep.begin h
  obtain ⟨pa, ca, rfl⟩ := (hM.oka 1 rfl).slice ltc_len
  obtain ⟨pb, cb, rfl⟩ := (hM.oka 2 rfl).slice bdc_len
  clear h
  replace hM : Sep w (Res.join (RMR B R (.slice pa R.ls.length ca) (.slice pb R.bs.length cb))).foot [.blk B 34 (rmc true R.r0 R.r1 (.slice pa R.ls.length ca) (.slice pb R.bs.length cb)), .own ltc 46 10 (.slice pa R.ls.length ca) (R.ls), .own bdc 28 16 (.slice pb R.bs.length cb) (R.bs)] w := hM
  go_enter Try.func5, Try.ntmps5
  go_upto_region 0 with fail
  refine wp_region_fromM (fun W => Sep w (Res.join (RMR B R (.slice pa R.ls.length ca) (.slice pb R.bs.length cb))).foot [.blk B 34 (rmc true R.r0 R.r1 (.slice pa R.ls.length ca) (.slice pb R.bs.length cb)), .own ltc 46 10 (.slice pa R.ls.length ca) (R.ls), .own bdc 28 16 (.slice pb R.bs.length cb) (R.bs)] W) hM ?_
  clear hM
  rintro Y1 hM
  refine rF (some 4) (pt Y1.heap.size 0) (Y1.alloc (.cells (akc a).toArray 26)) ?_
  replace hM := hM.alloc 26 (akc a)
  generalize World.alloc _ _ = Y2 at *
  generalize hNe : Y1.heap.size = N2 at *
  clear hNe
  refine tF 2 [.val 1 (some 6) (.int .i64 0)] trivial ?_
  refine dF ?_
  try simp only [puts, Tk.put, Act.put, List.setIfInBounds_toArray, List.set_cons_zero, List.set_cons_succ]
  go_upto_region 1 with fail
  refine wp_region_fromM (fun W => Sep w (Res.join (RMR B R (.slice pa R.ls.length ca) (.slice pb R.bs.length cb))).foot [.blk N2 26 (akc a), .blk B 34 (rmc true R.r0 R.r1 (.slice pa R.ls.length ca) (.slice pb R.bs.length cb)), .own ltc 46 10 (.slice pa R.ls.length ca) (R.ls), .own bdc 28 16 (.slice pb R.bs.length cb) (R.bs)] W) hM ?_
  clear hM
  rintro Y3 hM
  refine tF 1 [.val 0 (some 10) (pt B 0)] trivial ?_
  refine cF (some 11) 15 #[pt B 0] ((rmThere_yes _ (hM.at 1 rfl)).mono ?_)
  rintro e Y4 ⟨rfl, hb⟩
  replace hM := hM.below hb
  clear hb
  refine tF 3 [.val 2 (some 12) (.bool false)] trivial ?_
  refine dF ?_
  try simp only [puts, Tk.put, Act.put, List.setIfInBounds_toArray, List.set_cons_zero, List.set_cons_succ]
  go_upto_region 3 with fail
  refine wp_region_fromM (fun W => Sep w (Res.join (RMR B R (.slice pa R.ls.length ca) (.slice pb R.bs.length cb))).foot [.blk N2 26 (akc a), .blk B 34 (rmc true R.r0 R.r1 (.slice pa R.ls.length ca) (.slice pb R.bs.length cb)), .own ltc 46 10 (.slice pa R.ls.length ca) (R.ls), .own bdc 28 16 (.slice pb R.bs.length cb) (R.bs)] W) hM ?_
  clear hM
  rintro Y5 hM
  refine tF 1 [.load 0 (some 13) 26 (pt N2 0) (akv a)] ⟨load_part (hM.at 0 rfl) 0 (akc a) rfl _ _ Try.underlying26 rfl (by kernel_rfl), trivial⟩ ?_
  refine cF (some 14) 16 #[akv a] ((checkAsk_any a _).mono ?_)
  rintro e Y6 ⟨rfl, hb⟩
  replace hM := hM.below hb
  clear hb
  refine tF 3 [.val 2 (some 7) (.int .i64 (errA a))] trivial ?_
  refine dF ?_
  try simp only [puts, Tk.put, Act.put, List.setIfInBounds_toArray, List.set_cons_zero, List.set_cons_succ]
  go_upto_region 4 with fail
  refine wp_region_fromM (fun W => Sep w (Res.join (RMR B R (.slice pa R.ls.length ca) (.slice pb R.bs.length cb))).foot [.blk N2 26 (akc a), .blk B 34 (rmc true R.r0 R.r1 (.slice pa R.ls.length ca) (.slice pb R.bs.length cb)), .own ltc 46 10 (.slice pa R.ls.length ca) (R.ls), .own bdc 28 16 (.slice pb R.bs.length cb) (R.bs)] W) hM ?_
  clear hM
  rintro Y7 hM
  refine tF 2 [.val 0 (some 15) (.int .i64 (errA a)), .val 1 (some 16) (.bool ((errA a) != 0))] trivial ?_
  refine dF ?_
  try simp only [puts, Tk.put, Act.put, List.setIfInBounds_toArray, List.set_cons_zero, List.set_cons_succ]
  cases hb1 : (errA a) != 0 with
  | false =>
    have Hhb1 := Lib.hid hb1
    clear hb1
    go_upto_region 6 with fail
    refine wp_region_fromM (fun W => Sep w (Res.join (RMR B R (.slice pa R.ls.length ca) (.slice pb R.bs.length cb))).foot [.blk N2 26 (akc a), .blk B 34 (rmc true R.r0 R.r1 (.slice pa R.ls.length ca) (.slice pb R.bs.length cb)), .own ltc 46 10 (.slice pa R.ls.length ca) (R.ls), .own bdc 28 16 (.slice pb R.bs.length cb) (R.bs)] W) hM ?_
    clear hM
    rintro Y8 hM
    refine tF 2 [.val 0 (some 19) (pt B 0), .load 1 (some 20) 26 (pt N2 0) (akv a)] ⟨load_part (hM.at 0 rfl) 0 (akc a) rfl _ _ Try.underlying26 rfl (by kernel_rfl), trivial⟩ ?_
    refine cF (some 21) 10 #[pt B 0, akv a] ((rmOpened_any a _ (⟨hM.at 1 rfl, (hM.oka 2 rfl).rsl ltc_len, (hM.oka 3 rfl).rsl bdc_len⟩)).mono ?_)
    rintro e Y9 ⟨rfl, hb⟩
    replace hM := hM.below hb
    clear hb
    refine tF 6 [.val 3 (some 18) (.tuple #[ltv ((openL R.ls a).getD noL), .bool (openL R.ls a).isSome]), .val 4 (some 22) (ltv ((openL R.ls a).getD noL)), .val 5 (some 23) (.bool (openL R.ls a).isSome)] trivial ?_
    refine rF (some 8) (pt Y9.heap.size 0) (Y9.alloc (.cells (ltc noL).toArray 46)) ?_
    replace hM := hM.alloc 46 (ltc noL)
    generalize World.alloc _ _ = Y10 at *
    generalize hNe : Y9.heap.size = N10 at *
    clear hNe
    have hst := sto_part (ltc ((openL R.ls a).getD noL)) (hM.at 0 rfl) 0 46 (ltv ((openL R.ls a).getD noL)) (ltc ((openL R.ls a).getD noL)) rfl (by kernel_rfl) (Nat.le_of_ble_eq_true rfl) rfl rfl
    refine sF 46 (pt N10 0) (ltv ((openL R.ls a).getD noL)) (hst) ?_
    clear hst
    replace hM := hM.set 0 (cs' := ltc ((openL R.ls a).getD noL)) rfl rfl
    generalize World.setRow _ _ _ = Y11 at *
    refine tF 9 [.val 8 (some 9) (.bool (openL R.ls a).isSome)] trivial ?_
    refine dF ?_
    try simp only [puts, Tk.put, Act.put, List.setIfInBounds_toArray, List.set_cons_zero, List.set_cons_succ]
    go_upto_region 7 with fail
    refine wp_region_fromM (fun W => Sep w (Res.join (RMR B R (.slice pa R.ls.length ca) (.slice pb R.bs.length cb))).foot [.blk N10 46 (ltc ((openL R.ls a).getD noL)), .blk N2 26 (akc a), .blk B 34 (rmc true R.r0 R.r1 (.slice pa R.ls.length ca) (.slice pb R.bs.length cb)), .own ltc 46 10 (.slice pa R.ls.length ca) (R.ls), .own bdc 28 16 (.slice pb R.bs.length cb) (R.bs)] W) hM ?_
    clear hM
    rintro Y12 hM
    refine tF 1 [.val 0 (some 24) (.bool (openL R.ls a).isSome)] trivial ?_
    refine dF ?_
    try simp only [puts, Tk.put, Act.put, List.setIfInBounds_toArray, List.set_cons_zero, List.set_cons_succ]
    cases hb2 : (openL R.ls a).isSome with
    | false =>
      have Hhb2 := Lib.hid hb2
      clear hb2
      go_upto_region 9 with fail
      refine wp_region_fromM (fun W => Sep w (Res.join (RMR B R (.slice pa R.ls.length ca) (.slice pb R.bs.length cb))).foot [.blk N10 46 (ltc ((openL R.ls a).getD noL)), .blk N2 26 (akc a), .blk B 34 (rmc true R.r0 R.r1 (.slice pa R.ls.length ca) (.slice pb R.bs.length cb)), .own ltc 46 10 (.slice pa R.ls.length ca) (R.ls), .own bdc 28 16 (.slice pb R.bs.length cb) (R.bs)] W) hM ?_
      clear hM
      rintro Y13 hM
      refine tF 6 [.val 0 (some 25) (pt B 0), .val 1 (some 26) (pt B 0), .val 2 (some 27) (pt B 3), .load 3 (some 28) 31 (pt B 3) (.slice pa R.ls.length ca), .val 4 (some 29) (.int .i64 (R.ls.length : Int)), .val 5 (some 30) (.bool (decide (8 ≤ (R.ls.length : Int))))] ⟨ld_any _ _ Try.underlying31 rfl (hM.at 2 rfl) 3 rfl, trivial⟩ ?_
      refine dF ?_
      try simp only [puts, Tk.put, Act.put, List.setIfInBounds_toArray, List.set_cons_zero, List.set_cons_succ]
      cases hb3 : decide (8 ≤ (R.ls.length : Int)) with
      | false =>
        have Hhb3 := Lib.hid hb3
        clear hb3
        go_upto_region 11 with fail
        refine wp_region_fromM (fun W => Sep w (Res.join (RMR B R (.slice pa R.ls.length ca) (.slice pb R.bs.length cb))).foot [.blk N10 46 (ltc ((openL R.ls a).getD noL)), .blk N2 26 (akc a), .blk B 34 (rmc true R.r0 R.r1 (.slice pa R.ls.length ca) (.slice pb R.bs.length cb)), .own ltc 46 10 (.slice pa R.ls.length ca) (R.ls), .own bdc 28 16 (.slice pb R.bs.length cb) (R.bs)] W) hM ?_
        clear hM
        rintro Y14 hM
        refine tF 3 [.val 0 (some 31) (.int .i64 now), .val 1 (some 32) (.bool (decide (now < 0))), .val 2 (some 33) (.bool (decide (now < 0)))] trivial ?_
        cases hb4 : decide (now < 0) with
        | false =>
          have Hhb4 := Lib.hid hb4
          clear hb4
          refine tF 6 [.val 3 (some 34) (.int .i64 now), .val 4 (some 35) (.bool (decide (1099511627776 < now))), .val 5 (some 36) (.bool (decide (1099511627776 < now)))] trivial ?_
          refine dF ?_
          try simp only [puts, Tk.put, Act.put, List.setIfInBounds_toArray, List.set_cons_zero, List.set_cons_succ]
          cases hb5 : decide (1099511627776 < now) with
          | false =>
            have Hhb5 := Lib.hid hb5
            clear hb5
            go_upto_region 13 with fail
            refine wp_region_M (fun W => Sep w (Res.join (RMR B R (.slice pa R.ls.length ca) (.slice pb R.bs.length cb))).foot [.blk N10 46 (ltc ((openL R.ls a).getD noL)), .blk N2 26 (akc a), .own bdc 28 16 (.slice pb R.bs.length cb) (R.bs)] W) (fun W => Sep w (Res.join (RMR B R (.slice pa R.ls.length ca) (.slice pb R.bs.length cb))).foot [.blk N10 46 (ltc ((openL R.ls a).getD noL)), .blk N2 26 (akc a), .blk B 34 (rmc true R.r0 R.r1 (.slice pa R.ls.length ca) (.slice pb R.bs.length cb)), .own ltc 46 10 (.slice pa R.ls.length ca) (R.ls), .own bdc 28 16 (.slice pb R.bs.length cb) (R.bs)] W) hmx hM.drew ?_
            clear hM
            rintro Y15 hM
            have hS := hM.sub (.cons_cons _ (.cons_cons _ (.cons _ (.cons _ (.cons_cons _ .slnil)))))
            refine tD 7 [.val 0 (some 37) (pt B 0), .val 1 (some 38) (pt B 0), .val 2 (some 39) (pt B 0), .val 3 (some 40) (pt B 3), .load 6 (some 43) 26 (pt N2 0) (akv a), .val 7 (some 44) (.int .i64 now), .val 8 (some 45) (ltv (Lt.mk a now))] ⟨fun W h => load_part (h.at 1 rfl) 0 (akc a) rfl _ _ Try.underlying26 rfl (by kernel_rfl), trivial⟩ hS ?_
            refine oT 4 9 6 ?_ ?_
            · refine lD (some 41) 31 (pt B 3) (.slice pa R.ls.length ca) (ld_any _ _ Try.underlying31 rfl (hM.at 2 rfl) 3 rfl) (hS) ?_
              refine oT 5 9 5 ?_ ?_
              · refine cD (some 42) 17 #[.slice pa R.ls.length ca] ((clipLt_any _ ((hM.oka 3 rfl).rsl ltc_len)).mono ?_)
                rintro e Y16 ⟨rfl, rfl⟩
                refine And.intro (hS) ?_
                refine oD 9 4 (rD (some 46) (.slice (some ⟨Y16.heap.size, 0, none⟩) 1 1) (Y16.alloc (.cells (ltc (Lt.mk a now)).toArray 46)) (hS.other _) ?_)
                replace hS := hS.other (.cells (ltc (Lt.mk a now)).toArray 46)
                replace hM := hM.alloc 46 (ltc (Lt.mk a now))
                generalize World.alloc _ _ = Y17 at *
                generalize hNe : Y16.heap.size = N17 at *
                clear hNe
                obtain ⟨v18, Y18, hrun, ht⟩ := own_clip1 infoLt rfl (by decide) Try.underlying31 ltc_len ltc_one (hM.oka 4 rfl) (Lt.mk a now) (hM.at 0 rfl) (by decide) (by have h := of_decide_eq_false Hhb3.out; omega) 31
                obtain ⟨pv18, cv18, rfl⟩ := ht.ok.slice ltc_len
                have hM1 := hM.turn 4 rfl ht rfl
                clear ht
                refine oD 10 3 (stepH_append (d := some 47) (t := 31) (t' := 31) (ty := 31) (v := .slice pa R.ls.length R.ls.length) (x := .slice (some ⟨N17, 0, none⟩) 1 1) (by kernel_rfl) hrun (hM1.sub (.cons _ (.cons_cons _ (.cons_cons _ (.cons _ (.cons _ (.cons_cons _ .slnil))))))) ?_)
                replace hS := hM1.sub (.cons _ (.cons_cons _ (.cons_cons _ (.cons _ (.cons _ (.cons_cons _ .slnil))))))
                replace hM := hM1
                clear hM1 hrun
                refine tD 1 [.val 11 (some 48) (pt B 0), .val 12 (some 49) (pt B 3)] trivial hS ?_
                have hst := (sto_part (rmc true R.r0 R.r1 (.slice pv18 (R.ls ++ [Lt.mk a now]).length cv18) (.slice pb R.bs.length cb)) (hM.at 3 rfl) 3 31 (.slice pv18 (R.ls ++ [Lt.mk a now]).length cv18) ([.slice pv18 (R.ls ++ [Lt.mk a now]).length cv18]) rfl (by kernel_rfl) (Nat.le_of_ble_eq_true rfl) rfl rfl)
                have hM1 := hM.set 3 (cs' := rmc true R.r0 R.r1 (.slice pv18 (R.ls ++ [Lt.mk a now]).length cv18) (.slice pb R.bs.length cb)) rfl rfl
                refine oD 13 0 (sD 31 (pt B 3) (.slice pv18 (R.ls ++ [Lt.mk a now]).length cv18) (hst) (hM1.sub (.cons _ (.cons_cons _ (.cons_cons _ (.cons _ (.cons _ (.cons_cons _ .slnil))))))) ?_)
                clear hst
                replace hS := hM1.sub (.cons _ (.cons_cons _ (.cons_cons _ (.cons _ (.cons _ (.cons_cons _ .slnil))))))
                replace hM := hM1
                clear hM1
                generalize World.setRow _ _ _ = Y19 at *
                refine dD ?_
                try simp only [puts, Tk.put, Act.put, List.setIfInBounds_toArray, List.set_cons_zero, List.set_cons_succ]
                clear hS
                go_upto_region 14 with fail
                refine wp_region_fromM (fun W => Sep w (Res.join (RMR B R (.slice pa R.ls.length ca) (.slice pb R.bs.length cb))).foot [.blk N17 46 (ltc (Lt.mk a now)), .blk N10 46 (ltc ((openL R.ls a).getD noL)), .blk N2 26 (akc a), .blk B 34 (rmc true R.r0 R.r1 (.slice pv18 (R.ls ++ [Lt.mk a now]).length cv18) (.slice pb R.bs.length cb)), .own ltc 46 10 (.slice pv18 (R.ls ++ [Lt.mk a now]).length cv18) (R.ls ++ [Lt.mk a now]), .own bdc 28 16 (.slice pb R.bs.length cb) (R.bs)] W) hM ?_
                clear hM
                rintro Y20 hM
                refine tF 1 [.val 0 (some 6) (.int .i64 0)] trivial ?_
                refine dF ?_
                try simp only [puts, Tk.put, Act.put, List.setIfInBounds_toArray, List.set_cons_zero, List.set_cons_succ]
                go_wp2_with fail
                go_ret
                rw [open_yes Hhb1.out Hhb2.out Hhb3.out (since_in Hhb4.out Hhb5.out)]
                exact ⟨rfl, _, _, Sep.fin (hM.pick [3, 4, 5] (by decide) rfl) (List.Sublist.refl _)⟩
              · refine rD (some 46) (.slice (some ⟨Y15.heap.size, 0, none⟩) 1 1) (Y15.alloc (.cells (ltc (Lt.mk a now)).toArray 46)) (hS.other _) ?_
                replace hS := hS.other (.cells (ltc (Lt.mk a now)).toArray 46)
                replace hM := hM.alloc 46 (ltc (Lt.mk a now))
                generalize World.alloc _ _ = Y21 at *
                generalize hNe : Y15.heap.size = N21 at *
                clear hNe
                refine oD 5 4 (cD (some 42) 17 #[.slice pa R.ls.length ca] ((clipLt_any _ ((hM.oka 4 rfl).rsl ltc_len)).mono ?_))
                rintro e Y22 ⟨rfl, rfl⟩
                refine And.intro (hS) ?_
                obtain ⟨v23, Y23, hrun, ht⟩ := own_clip1 infoLt rfl (by decide) Try.underlying31 ltc_len ltc_one (hM.oka 4 rfl) (Lt.mk a now) (hM.at 0 rfl) (by decide) (by have h := of_decide_eq_false Hhb3.out; omega) 31
                obtain ⟨pv23, cv23, rfl⟩ := ht.ok.slice ltc_len
                have hM1 := hM.turn 4 rfl ht rfl
                clear ht
                refine oD 10 3 (stepH_append (d := some 47) (t := 31) (t' := 31) (ty := 31) (v := .slice pa R.ls.length R.ls.length) (x := .slice (some ⟨N21, 0, none⟩) 1 1) (by kernel_rfl) hrun (hM1.sub (.cons _ (.cons_cons _ (.cons_cons _ (.cons _ (.cons _ (.cons_cons _ .slnil))))))) ?_)
                replace hS := hM1.sub (.cons _ (.cons_cons _ (.cons_cons _ (.cons _ (.cons _ (.cons_cons _ .slnil))))))
                replace hM := hM1
                clear hM1 hrun
                refine tD 1 [.val 11 (some 48) (pt B 0), .val 12 (some 49) (pt B 3)] trivial hS ?_
                have hst := (sto_part (rmc true R.r0 R.r1 (.slice pv23 (R.ls ++ [Lt.mk a now]).length cv23) (.slice pb R.bs.length cb)) (hM.at 3 rfl) 3 31 (.slice pv23 (R.ls ++ [Lt.mk a now]).length cv23) ([.slice pv23 (R.ls ++ [Lt.mk a now]).length cv23]) rfl (by kernel_rfl) (Nat.le_of_ble_eq_true rfl) rfl rfl)
                have hM1 := hM.set 3 (cs' := rmc true R.r0 R.r1 (.slice pv23 (R.ls ++ [Lt.mk a now]).length cv23) (.slice pb R.bs.length cb)) rfl rfl
                refine oD 13 0 (sD 31 (pt B 3) (.slice pv23 (R.ls ++ [Lt.mk a now]).length cv23) (hst) (hM1.sub (.cons _ (.cons_cons _ (.cons_cons _ (.cons _ (.cons _ (.cons_cons _ .slnil))))))) ?_)
                clear hst
                replace hS := hM1.sub (.cons _ (.cons_cons _ (.cons_cons _ (.cons _ (.cons _ (.cons_cons _ .slnil))))))
                replace hM := hM1
                clear hM1
                generalize World.setRow _ _ _ = Y24 at *
                refine dD ?_
                try simp only [puts, Tk.put, Act.put, List.setIfInBounds_toArray, List.set_cons_zero, List.set_cons_succ]
                clear hS
                go_upto_region 14 with fail
                refine wp_region_fromM (fun W => Sep w (Res.join (RMR B R (.slice pa R.ls.length ca) (.slice pb R.bs.length cb))).foot [.blk N21 46 (ltc (Lt.mk a now)), .blk N10 46 (ltc ((openL R.ls a).getD noL)), .blk N2 26 (akc a), .blk B 34 (rmc true R.r0 R.r1 (.slice pv23 (R.ls ++ [Lt.mk a now]).length cv23) (.slice pb R.bs.length cb)), .own ltc 46 10 (.slice pv23 (R.ls ++ [Lt.mk a now]).length cv23) (R.ls ++ [Lt.mk a now]), .own bdc 28 16 (.slice pb R.bs.length cb) (R.bs)] W) hM ?_
                clear hM
                rintro Y25 hM
                refine tF 1 [.val 0 (some 6) (.int .i64 0)] trivial ?_
                refine dF ?_
                try simp only [puts, Tk.put, Act.put, List.setIfInBounds_toArray, List.set_cons_zero, List.set_cons_succ]
                go_wp2_with fail
                go_ret
                rw [open_yes Hhb1.out Hhb2.out Hhb3.out (since_in Hhb4.out Hhb5.out)]
                exact ⟨rfl, _, _, Sep.fin (hM.pick [3, 4, 5] (by decide) rfl) (List.Sublist.refl _)⟩
            · refine rD (some 46) (.slice (some ⟨Y15.heap.size, 0, none⟩) 1 1) (Y15.alloc (.cells (ltc (Lt.mk a now)).toArray 46)) (hS.other _) ?_
              replace hS := hS.other (.cells (ltc (Lt.mk a now)).toArray 46)
              replace hM := hM.alloc 46 (ltc (Lt.mk a now))
              generalize World.alloc _ _ = Y26 at *
              generalize hNe : Y15.heap.size = N26 at *
              clear hNe
              refine oD 4 5 (lD (some 41) 31 (pt B 3) (.slice pa R.ls.length ca) (ld_any _ _ Try.underlying31 rfl (hM.at 3 rfl) 3 rfl) (hS) ?_)
              refine oD 5 4 (cD (some 42) 17 #[.slice pa R.ls.length ca] ((clipLt_any _ ((hM.oka 4 rfl).rsl ltc_len)).mono ?_))
              rintro e Y27 ⟨rfl, rfl⟩
              refine And.intro (hS) ?_
              obtain ⟨v28, Y28, hrun, ht⟩ := own_clip1 infoLt rfl (by decide) Try.underlying31 ltc_len ltc_one (hM.oka 4 rfl) (Lt.mk a now) (hM.at 0 rfl) (by decide) (by have h := of_decide_eq_false Hhb3.out; omega) 31
              obtain ⟨pv28, cv28, rfl⟩ := ht.ok.slice ltc_len
              have hM1 := hM.turn 4 rfl ht rfl
              clear ht
              refine oD 10 3 (stepH_append (d := some 47) (t := 31) (t' := 31) (ty := 31) (v := .slice pa R.ls.length R.ls.length) (x := .slice (some ⟨N26, 0, none⟩) 1 1) (by kernel_rfl) hrun (hM1.sub (.cons _ (.cons_cons _ (.cons_cons _ (.cons _ (.cons _ (.cons_cons _ .slnil))))))) ?_)
              replace hS := hM1.sub (.cons _ (.cons_cons _ (.cons_cons _ (.cons _ (.cons _ (.cons_cons _ .slnil))))))
              replace hM := hM1
              clear hM1 hrun
              refine tD 1 [.val 11 (some 48) (pt B 0), .val 12 (some 49) (pt B 3)] trivial hS ?_
              have hst := (sto_part (rmc true R.r0 R.r1 (.slice pv28 (R.ls ++ [Lt.mk a now]).length cv28) (.slice pb R.bs.length cb)) (hM.at 3 rfl) 3 31 (.slice pv28 (R.ls ++ [Lt.mk a now]).length cv28) ([.slice pv28 (R.ls ++ [Lt.mk a now]).length cv28]) rfl (by kernel_rfl) (Nat.le_of_ble_eq_true rfl) rfl rfl)
              have hM1 := hM.set 3 (cs' := rmc true R.r0 R.r1 (.slice pv28 (R.ls ++ [Lt.mk a now]).length cv28) (.slice pb R.bs.length cb)) rfl rfl
              refine oD 13 0 (sD 31 (pt B 3) (.slice pv28 (R.ls ++ [Lt.mk a now]).length cv28) (hst) (hM1.sub (.cons _ (.cons_cons _ (.cons_cons _ (.cons _ (.cons _ (.cons_cons _ .slnil))))))) ?_)
              clear hst
              replace hS := hM1.sub (.cons _ (.cons_cons _ (.cons_cons _ (.cons _ (.cons _ (.cons_cons _ .slnil))))))
              replace hM := hM1
              clear hM1
              generalize World.setRow _ _ _ = Y29 at *
              refine dD ?_
              try simp only [puts, Tk.put, Act.put, List.setIfInBounds_toArray, List.set_cons_zero, List.set_cons_succ]
              clear hS
              go_upto_region 14 with fail
              refine wp_region_fromM (fun W => Sep w (Res.join (RMR B R (.slice pa R.ls.length ca) (.slice pb R.bs.length cb))).foot [.blk N26 46 (ltc (Lt.mk a now)), .blk N10 46 (ltc ((openL R.ls a).getD noL)), .blk N2 26 (akc a), .blk B 34 (rmc true R.r0 R.r1 (.slice pv28 (R.ls ++ [Lt.mk a now]).length cv28) (.slice pb R.bs.length cb)), .own ltc 46 10 (.slice pv28 (R.ls ++ [Lt.mk a now]).length cv28) (R.ls ++ [Lt.mk a now]), .own bdc 28 16 (.slice pb R.bs.length cb) (R.bs)] W) hM ?_
              clear hM
              rintro Y30 hM
              refine tF 1 [.val 0 (some 6) (.int .i64 0)] trivial ?_
              refine dF ?_
              try simp only [puts, Tk.put, Act.put, List.setIfInBounds_toArray, List.set_cons_zero, List.set_cons_succ]
              go_wp2_with fail
              go_ret
              rw [open_yes Hhb1.out Hhb2.out Hhb3.out (since_in Hhb4.out Hhb5.out)]
              exact ⟨rfl, _, _, Sep.fin (hM.pick [3, 4, 5] (by decide) rfl) (List.Sublist.refl _)⟩
          | true =>
            have Hhb5 := Lib.hid hb5
            clear hb5
            go_upto_region 12 with fail
            refine wp_region_fromM (fun W => Sep w (Res.join (RMR B R (.slice pa R.ls.length ca) (.slice pb R.bs.length cb))).foot [.blk N10 46 (ltc ((openL R.ls a).getD noL)), .blk N2 26 (akc a), .blk B 34 (rmc true R.r0 R.r1 (.slice pa R.ls.length ca) (.slice pb R.bs.length cb)), .own ltc 46 10 (.slice pa R.ls.length ca) (R.ls), .own bdc 28 16 (.slice pb R.bs.length cb) (R.bs)] W) hM ?_
            clear hM
            rintro Y31 hM
            refine tF 1 [.val 0 (some 2) (.int .i64 0)] trivial ?_
            refine dF ?_
            try simp only [puts, Tk.put, Act.put, List.setIfInBounds_toArray, List.set_cons_zero, List.set_cons_succ]
            go_upto_region 13 with fail
            refine wp_region_M (fun W => Sep w (Res.join (RMR B R (.slice pa R.ls.length ca) (.slice pb R.bs.length cb))).foot [.blk N10 46 (ltc ((openL R.ls a).getD noL)), .blk N2 26 (akc a), .own bdc 28 16 (.slice pb R.bs.length cb) (R.bs)] W) (fun W => Sep w (Res.join (RMR B R (.slice pa R.ls.length ca) (.slice pb R.bs.length cb))).foot [.blk N10 46 (ltc ((openL R.ls a).getD noL)), .blk N2 26 (akc a), .blk B 34 (rmc true R.r0 R.r1 (.slice pa R.ls.length ca) (.slice pb R.bs.length cb)), .own ltc 46 10 (.slice pa R.ls.length ca) (R.ls), .own bdc 28 16 (.slice pb R.bs.length cb) (R.bs)] W) hmx hM.drew ?_
            clear hM
            rintro Y32 hM
            have hS := hM.sub (.cons_cons _ (.cons_cons _ (.cons _ (.cons _ (.cons_cons _ .slnil)))))
            refine tD 7 [.val 0 (some 37) (pt B 0), .val 1 (some 38) (pt B 0), .val 2 (some 39) (pt B 0), .val 3 (some 40) (pt B 3), .load 6 (some 43) 26 (pt N2 0) (akv a), .val 7 (some 44) (.int .i64 0), .val 8 (some 45) (ltv (Lt.mk a 0))] ⟨fun W h => load_part (h.at 1 rfl) 0 (akc a) rfl _ _ Try.underlying26 rfl (by kernel_rfl), trivial⟩ hS ?_
            refine oT 4 9 6 ?_ ?_
            · refine lD (some 41) 31 (pt B 3) (.slice pa R.ls.length ca) (ld_any _ _ Try.underlying31 rfl (hM.at 2 rfl) 3 rfl) (hS) ?_
              refine oT 5 9 5 ?_ ?_
              · refine cD (some 42) 17 #[.slice pa R.ls.length ca] ((clipLt_any _ ((hM.oka 3 rfl).rsl ltc_len)).mono ?_)
                rintro e Y33 ⟨rfl, rfl⟩
                refine And.intro (hS) ?_
                refine oD 9 4 (rD (some 46) (.slice (some ⟨Y33.heap.size, 0, none⟩) 1 1) (Y33.alloc (.cells (ltc (Lt.mk a 0)).toArray 46)) (hS.other _) ?_)
                replace hS := hS.other (.cells (ltc (Lt.mk a 0)).toArray 46)
                replace hM := hM.alloc 46 (ltc (Lt.mk a 0))
                generalize World.alloc _ _ = Y34 at *
                generalize hNe : Y33.heap.size = N34 at *
                clear hNe
                obtain ⟨v35, Y35, hrun, ht⟩ := own_clip1 infoLt rfl (by decide) Try.underlying31 ltc_len ltc_one (hM.oka 4 rfl) (Lt.mk a 0) (hM.at 0 rfl) (by decide) (by have h := of_decide_eq_false Hhb3.out; omega) 31
                obtain ⟨pv35, cv35, rfl⟩ := ht.ok.slice ltc_len
                have hM1 := hM.turn 4 rfl ht rfl
                clear ht
                refine oD 10 3 (stepH_append (d := some 47) (t := 31) (t' := 31) (ty := 31) (v := .slice pa R.ls.length R.ls.length) (x := .slice (some ⟨N34, 0, none⟩) 1 1) (by kernel_rfl) hrun (hM1.sub (.cons _ (.cons_cons _ (.cons_cons _ (.cons _ (.cons _ (.cons_cons _ .slnil))))))) ?_)
                replace hS := hM1.sub (.cons _ (.cons_cons _ (.cons_cons _ (.cons _ (.cons _ (.cons_cons _ .slnil))))))
                replace hM := hM1
                clear hM1 hrun
                refine tD 1 [.val 11 (some 48) (pt B 0), .val 12 (some 49) (pt B 3)] trivial hS ?_
                have hst := (sto_part (rmc true R.r0 R.r1 (.slice pv35 (R.ls ++ [Lt.mk a 0]).length cv35) (.slice pb R.bs.length cb)) (hM.at 3 rfl) 3 31 (.slice pv35 (R.ls ++ [Lt.mk a 0]).length cv35) ([.slice pv35 (R.ls ++ [Lt.mk a 0]).length cv35]) rfl (by kernel_rfl) (Nat.le_of_ble_eq_true rfl) rfl rfl)
                have hM1 := hM.set 3 (cs' := rmc true R.r0 R.r1 (.slice pv35 (R.ls ++ [Lt.mk a 0]).length cv35) (.slice pb R.bs.length cb)) rfl rfl
                refine oD 13 0 (sD 31 (pt B 3) (.slice pv35 (R.ls ++ [Lt.mk a 0]).length cv35) (hst) (hM1.sub (.cons _ (.cons_cons _ (.cons_cons _ (.cons _ (.cons _ (.cons_cons _ .slnil))))))) ?_)
                clear hst
                replace hS := hM1.sub (.cons _ (.cons_cons _ (.cons_cons _ (.cons _ (.cons _ (.cons_cons _ .slnil))))))
                replace hM := hM1
                clear hM1
                generalize World.setRow _ _ _ = Y36 at *
                refine dD ?_
                try simp only [puts, Tk.put, Act.put, List.setIfInBounds_toArray, List.set_cons_zero, List.set_cons_succ]
                clear hS
                go_upto_region 14 with fail
                refine wp_region_fromM (fun W => Sep w (Res.join (RMR B R (.slice pa R.ls.length ca) (.slice pb R.bs.length cb))).foot [.blk N34 46 (ltc (Lt.mk a 0)), .blk N10 46 (ltc ((openL R.ls a).getD noL)), .blk N2 26 (akc a), .blk B 34 (rmc true R.r0 R.r1 (.slice pv35 (R.ls ++ [Lt.mk a 0]).length cv35) (.slice pb R.bs.length cb)), .own ltc 46 10 (.slice pv35 (R.ls ++ [Lt.mk a 0]).length cv35) (R.ls ++ [Lt.mk a 0]), .own bdc 28 16 (.slice pb R.bs.length cb) (R.bs)] W) hM ?_
                clear hM
                rintro Y37 hM
                refine tF 1 [.val 0 (some 6) (.int .i64 0)] trivial ?_
                refine dF ?_
                try simp only [puts, Tk.put, Act.put, List.setIfInBounds_toArray, List.set_cons_zero, List.set_cons_succ]
                go_wp2_with fail
                go_ret
                rw [open_yes Hhb1.out Hhb2.out Hhb3.out (since_big Hhb5.out)]
                exact ⟨rfl, _, _, Sep.fin (hM.pick [3, 4, 5] (by decide) rfl) (List.Sublist.refl _)⟩
              · refine rD (some 46) (.slice (some ⟨Y32.heap.size, 0, none⟩) 1 1) (Y32.alloc (.cells (ltc (Lt.mk a 0)).toArray 46)) (hS.other _) ?_
                replace hS := hS.other (.cells (ltc (Lt.mk a 0)).toArray 46)
                replace hM := hM.alloc 46 (ltc (Lt.mk a 0))
                generalize World.alloc _ _ = Y38 at *
                generalize hNe : Y32.heap.size = N38 at *
                clear hNe
                refine oD 5 4 (cD (some 42) 17 #[.slice pa R.ls.length ca] ((clipLt_any _ ((hM.oka 4 rfl).rsl ltc_len)).mono ?_))
                rintro e Y39 ⟨rfl, rfl⟩
                refine And.intro (hS) ?_
                obtain ⟨v40, Y40, hrun, ht⟩ := own_clip1 infoLt rfl (by decide) Try.underlying31 ltc_len ltc_one (hM.oka 4 rfl) (Lt.mk a 0) (hM.at 0 rfl) (by decide) (by have h := of_decide_eq_false Hhb3.out; omega) 31
                obtain ⟨pv40, cv40, rfl⟩ := ht.ok.slice ltc_len
                have hM1 := hM.turn 4 rfl ht rfl
                clear ht
                refine oD 10 3 (stepH_append (d := some 47) (t := 31) (t' := 31) (ty := 31) (v := .slice pa R.ls.length R.ls.length) (x := .slice (some ⟨N38, 0, none⟩) 1 1) (by kernel_rfl) hrun (hM1.sub (.cons _ (.cons_cons _ (.cons_cons _ (.cons _ (.cons _ (.cons_cons _ .slnil))))))) ?_)
                replace hS := hM1.sub (.cons _ (.cons_cons _ (.cons_cons _ (.cons _ (.cons _ (.cons_cons _ .slnil))))))
                replace hM := hM1
                clear hM1 hrun
                refine tD 1 [.val 11 (some 48) (pt B 0), .val 12 (some 49) (pt B 3)] trivial hS ?_
                have hst := (sto_part (rmc true R.r0 R.r1 (.slice pv40 (R.ls ++ [Lt.mk a 0]).length cv40) (.slice pb R.bs.length cb)) (hM.at 3 rfl) 3 31 (.slice pv40 (R.ls ++ [Lt.mk a 0]).length cv40) ([.slice pv40 (R.ls ++ [Lt.mk a 0]).length cv40]) rfl (by kernel_rfl) (Nat.le_of_ble_eq_true rfl) rfl rfl)
                have hM1 := hM.set 3 (cs' := rmc true R.r0 R.r1 (.slice pv40 (R.ls ++ [Lt.mk a 0]).length cv40) (.slice pb R.bs.length cb)) rfl rfl
                refine oD 13 0 (sD 31 (pt B 3) (.slice pv40 (R.ls ++ [Lt.mk a 0]).length cv40) (hst) (hM1.sub (.cons _ (.cons_cons _ (.cons_cons _ (.cons _ (.cons _ (.cons_cons _ .slnil))))))) ?_)
                clear hst
                replace hS := hM1.sub (.cons _ (.cons_cons _ (.cons_cons _ (.cons _ (.cons _ (.cons_cons _ .slnil))))))
                replace hM := hM1
                clear hM1
                generalize World.setRow _ _ _ = Y41 at *
                refine dD ?_
                try simp only [puts, Tk.put, Act.put, List.setIfInBounds_toArray, List.set_cons_zero, List.set_cons_succ]
                clear hS
                go_upto_region 14 with fail
                refine wp_region_fromM (fun W => Sep w (Res.join (RMR B R (.slice pa R.ls.length ca) (.slice pb R.bs.length cb))).foot [.blk N38 46 (ltc (Lt.mk a 0)), .blk N10 46 (ltc ((openL R.ls a).getD noL)), .blk N2 26 (akc a), .blk B 34 (rmc true R.r0 R.r1 (.slice pv40 (R.ls ++ [Lt.mk a 0]).length cv40) (.slice pb R.bs.length cb)), .own ltc 46 10 (.slice pv40 (R.ls ++ [Lt.mk a 0]).length cv40) (R.ls ++ [Lt.mk a 0]), .own bdc 28 16 (.slice pb R.bs.length cb) (R.bs)] W) hM ?_
                clear hM
                rintro Y42 hM
                refine tF 1 [.val 0 (some 6) (.int .i64 0)] trivial ?_
                refine dF ?_
                try simp only [puts, Tk.put, Act.put, List.setIfInBounds_toArray, List.set_cons_zero, List.set_cons_succ]
                go_wp2_with fail
                go_ret
                rw [open_yes Hhb1.out Hhb2.out Hhb3.out (since_big Hhb5.out)]
                exact ⟨rfl, _, _, Sep.fin (hM.pick [3, 4, 5] (by decide) rfl) (List.Sublist.refl _)⟩
            · refine rD (some 46) (.slice (some ⟨Y32.heap.size, 0, none⟩) 1 1) (Y32.alloc (.cells (ltc (Lt.mk a 0)).toArray 46)) (hS.other _) ?_
              replace hS := hS.other (.cells (ltc (Lt.mk a 0)).toArray 46)
              replace hM := hM.alloc 46 (ltc (Lt.mk a 0))
              generalize World.alloc _ _ = Y43 at *
              generalize hNe : Y32.heap.size = N43 at *
              clear hNe
              refine oD 4 5 (lD (some 41) 31 (pt B 3) (.slice pa R.ls.length ca) (ld_any _ _ Try.underlying31 rfl (hM.at 3 rfl) 3 rfl) (hS) ?_)
              refine oD 5 4 (cD (some 42) 17 #[.slice pa R.ls.length ca] ((clipLt_any _ ((hM.oka 4 rfl).rsl ltc_len)).mono ?_))
              rintro e Y44 ⟨rfl, rfl⟩
              refine And.intro (hS) ?_
              obtain ⟨v45, Y45, hrun, ht⟩ := own_clip1 infoLt rfl (by decide) Try.underlying31 ltc_len ltc_one (hM.oka 4 rfl) (Lt.mk a 0) (hM.at 0 rfl) (by decide) (by have h := of_decide_eq_false Hhb3.out; omega) 31
              obtain ⟨pv45, cv45, rfl⟩ := ht.ok.slice ltc_len
              have hM1 := hM.turn 4 rfl ht rfl
              clear ht
              refine oD 10 3 (stepH_append (d := some 47) (t := 31) (t' := 31) (ty := 31) (v := .slice pa R.ls.length R.ls.length) (x := .slice (some ⟨N43, 0, none⟩) 1 1) (by kernel_rfl) hrun (hM1.sub (.cons _ (.cons_cons _ (.cons_cons _ (.cons _ (.cons _ (.cons_cons _ .slnil))))))) ?_)
              replace hS := hM1.sub (.cons _ (.cons_cons _ (.cons_cons _ (.cons _ (.cons _ (.cons_cons _ .slnil))))))
              replace hM := hM1
              clear hM1 hrun
              refine tD 1 [.val 11 (some 48) (pt B 0), .val 12 (some 49) (pt B 3)] trivial hS ?_
              have hst := (sto_part (rmc true R.r0 R.r1 (.slice pv45 (R.ls ++ [Lt.mk a 0]).length cv45) (.slice pb R.bs.length cb)) (hM.at 3 rfl) 3 31 (.slice pv45 (R.ls ++ [Lt.mk a 0]).length cv45) ([.slice pv45 (R.ls ++ [Lt.mk a 0]).length cv45]) rfl (by kernel_rfl) (Nat.le_of_ble_eq_true rfl) rfl rfl)
              have hM1 := hM.set 3 (cs' := rmc true R.r0 R.r1 (.slice pv45 (R.ls ++ [Lt.mk a 0]).length cv45) (.slice pb R.bs.length cb)) rfl rfl
              refine oD 13 0 (sD 31 (pt B 3) (.slice pv45 (R.ls ++ [Lt.mk a 0]).length cv45) (hst) (hM1.sub (.cons _ (.cons_cons _ (.cons_cons _ (.cons _ (.cons _ (.cons_cons _ .slnil))))))) ?_)
              clear hst
              replace hS := hM1.sub (.cons _ (.cons_cons _ (.cons_cons _ (.cons _ (.cons _ (.cons_cons _ .slnil))))))
              replace hM := hM1
              clear hM1
              generalize World.setRow _ _ _ = Y46 at *
              refine dD ?_
              try simp only [puts, Tk.put, Act.put, List.setIfInBounds_toArray, List.set_cons_zero, List.set_cons_succ]
              clear hS
              go_upto_region 14 with fail
              refine wp_region_fromM (fun W => Sep w (Res.join (RMR B R (.slice pa R.ls.length ca) (.slice pb R.bs.length cb))).foot [.blk N43 46 (ltc (Lt.mk a 0)), .blk N10 46 (ltc ((openL R.ls a).getD noL)), .blk N2 26 (akc a), .blk B 34 (rmc true R.r0 R.r1 (.slice pv45 (R.ls ++ [Lt.mk a 0]).length cv45) (.slice pb R.bs.length cb)), .own ltc 46 10 (.slice pv45 (R.ls ++ [Lt.mk a 0]).length cv45) (R.ls ++ [Lt.mk a 0]), .own bdc 28 16 (.slice pb R.bs.length cb) (R.bs)] W) hM ?_
              clear hM
              rintro Y47 hM
              refine tF 1 [.val 0 (some 6) (.int .i64 0)] trivial ?_
              refine dF ?_
              try simp only [puts, Tk.put, Act.put, List.setIfInBounds_toArray, List.set_cons_zero, List.set_cons_succ]
              go_wp2_with fail
              go_ret
              rw [open_yes Hhb1.out Hhb2.out Hhb3.out (since_big Hhb5.out)]
              exact ⟨rfl, _, _, Sep.fin (hM.pick [3, 4, 5] (by decide) rfl) (List.Sublist.refl _)⟩
        | true =>
          have Hhb4 := Lib.hid hb4
          clear hb4
          refine tF 6 [.skip 3 (some 34), .skip 4 (some 35), .val 5 (some 36) (.bool true)] trivial ?_
          refine dF ?_
          try simp only [puts, Tk.put, Act.put, List.setIfInBounds_toArray, List.set_cons_zero, List.set_cons_succ]
          go_upto_region 12 with fail
          refine wp_region_fromM (fun W => Sep w (Res.join (RMR B R (.slice pa R.ls.length ca) (.slice pb R.bs.length cb))).foot [.blk N10 46 (ltc ((openL R.ls a).getD noL)), .blk N2 26 (akc a), .blk B 34 (rmc true R.r0 R.r1 (.slice pa R.ls.length ca) (.slice pb R.bs.length cb)), .own ltc 46 10 (.slice pa R.ls.length ca) (R.ls), .own bdc 28 16 (.slice pb R.bs.length cb) (R.bs)] W) hM ?_
          clear hM
          rintro Y48 hM
          refine tF 1 [.val 0 (some 2) (.int .i64 0)] trivial ?_
          refine dF ?_
          try simp only [puts, Tk.put, Act.put, List.setIfInBounds_toArray, List.set_cons_zero, List.set_cons_succ]
          go_upto_region 13 with fail
          refine wp_region_M (fun W => Sep w (Res.join (RMR B R (.slice pa R.ls.length ca) (.slice pb R.bs.length cb))).foot [.blk N10 46 (ltc ((openL R.ls a).getD noL)), .blk N2 26 (akc a), .own bdc 28 16 (.slice pb R.bs.length cb) (R.bs)] W) (fun W => Sep w (Res.join (RMR B R (.slice pa R.ls.length ca) (.slice pb R.bs.length cb))).foot [.blk N10 46 (ltc ((openL R.ls a).getD noL)), .blk N2 26 (akc a), .blk B 34 (rmc true R.r0 R.r1 (.slice pa R.ls.length ca) (.slice pb R.bs.length cb)), .own ltc 46 10 (.slice pa R.ls.length ca) (R.ls), .own bdc 28 16 (.slice pb R.bs.length cb) (R.bs)] W) hmx hM.drew ?_
          clear hM
          rintro Y49 hM
          have hS := hM.sub (.cons_cons _ (.cons_cons _ (.cons _ (.cons _ (.cons_cons _ .slnil)))))
          refine tD 7 [.val 0 (some 37) (pt B 0), .val 1 (some 38) (pt B 0), .val 2 (some 39) (pt B 0), .val 3 (some 40) (pt B 3), .load 6 (some 43) 26 (pt N2 0) (akv a), .val 7 (some 44) (.int .i64 0), .val 8 (some 45) (ltv (Lt.mk a 0))] ⟨fun W h => load_part (h.at 1 rfl) 0 (akc a) rfl _ _ Try.underlying26 rfl (by kernel_rfl), trivial⟩ hS ?_
          refine oT 4 9 6 ?_ ?_
          · refine lD (some 41) 31 (pt B 3) (.slice pa R.ls.length ca) (ld_any _ _ Try.underlying31 rfl (hM.at 2 rfl) 3 rfl) (hS) ?_
            refine oT 5 9 5 ?_ ?_
            · refine cD (some 42) 17 #[.slice pa R.ls.length ca] ((clipLt_any _ ((hM.oka 3 rfl).rsl ltc_len)).mono ?_)
              rintro e Y50 ⟨rfl, rfl⟩
              refine And.intro (hS) ?_
              refine oD 9 4 (rD (some 46) (.slice (some ⟨Y50.heap.size, 0, none⟩) 1 1) (Y50.alloc (.cells (ltc (Lt.mk a 0)).toArray 46)) (hS.other _) ?_)
              replace hS := hS.other (.cells (ltc (Lt.mk a 0)).toArray 46)
              replace hM := hM.alloc 46 (ltc (Lt.mk a 0))
              generalize World.alloc _ _ = Y51 at *
              generalize hNe : Y50.heap.size = N51 at *
              clear hNe
              obtain ⟨v52, Y52, hrun, ht⟩ := own_clip1 infoLt rfl (by decide) Try.underlying31 ltc_len ltc_one (hM.oka 4 rfl) (Lt.mk a 0) (hM.at 0 rfl) (by decide) (by have h := of_decide_eq_false Hhb3.out; omega) 31
              obtain ⟨pv52, cv52, rfl⟩ := ht.ok.slice ltc_len
              have hM1 := hM.turn 4 rfl ht rfl
              clear ht
              refine oD 10 3 (stepH_append (d := some 47) (t := 31) (t' := 31) (ty := 31) (v := .slice pa R.ls.length R.ls.length) (x := .slice (some ⟨N51, 0, none⟩) 1 1) (by kernel_rfl) hrun (hM1.sub (.cons _ (.cons_cons _ (.cons_cons _ (.cons _ (.cons _ (.cons_cons _ .slnil))))))) ?_)
              replace hS := hM1.sub (.cons _ (.cons_cons _ (.cons_cons _ (.cons _ (.cons _ (.cons_cons _ .slnil))))))
              replace hM := hM1
              clear hM1 hrun
              refine tD 1 [.val 11 (some 48) (pt B 0), .val 12 (some 49) (pt B 3)] trivial hS ?_
              have hst := (sto_part (rmc true R.r0 R.r1 (.slice pv52 (R.ls ++ [Lt.mk a 0]).length cv52) (.slice pb R.bs.length cb)) (hM.at 3 rfl) 3 31 (.slice pv52 (R.ls ++ [Lt.mk a 0]).length cv52) ([.slice pv52 (R.ls ++ [Lt.mk a 0]).length cv52]) rfl (by kernel_rfl) (Nat.le_of_ble_eq_true rfl) rfl rfl)
              have hM1 := hM.set 3 (cs' := rmc true R.r0 R.r1 (.slice pv52 (R.ls ++ [Lt.mk a 0]).length cv52) (.slice pb R.bs.length cb)) rfl rfl
              refine oD 13 0 (sD 31 (pt B 3) (.slice pv52 (R.ls ++ [Lt.mk a 0]).length cv52) (hst) (hM1.sub (.cons _ (.cons_cons _ (.cons_cons _ (.cons _ (.cons _ (.cons_cons _ .slnil))))))) ?_)
              clear hst
              replace hS := hM1.sub (.cons _ (.cons_cons _ (.cons_cons _ (.cons _ (.cons _ (.cons_cons _ .slnil))))))
              replace hM := hM1
              clear hM1
              generalize World.setRow _ _ _ = Y53 at *
              refine dD ?_
              try simp only [puts, Tk.put, Act.put, List.setIfInBounds_toArray, List.set_cons_zero, List.set_cons_succ]
              clear hS
              go_upto_region 14 with fail
              refine wp_region_fromM (fun W => Sep w (Res.join (RMR B R (.slice pa R.ls.length ca) (.slice pb R.bs.length cb))).foot [.blk N51 46 (ltc (Lt.mk a 0)), .blk N10 46 (ltc ((openL R.ls a).getD noL)), .blk N2 26 (akc a), .blk B 34 (rmc true R.r0 R.r1 (.slice pv52 (R.ls ++ [Lt.mk a 0]).length cv52) (.slice pb R.bs.length cb)), .own ltc 46 10 (.slice pv52 (R.ls ++ [Lt.mk a 0]).length cv52) (R.ls ++ [Lt.mk a 0]), .own bdc 28 16 (.slice pb R.bs.length cb) (R.bs)] W) hM ?_
              clear hM
              rintro Y54 hM
              refine tF 1 [.val 0 (some 6) (.int .i64 0)] trivial ?_
              refine dF ?_
              try simp only [puts, Tk.put, Act.put, List.setIfInBounds_toArray, List.set_cons_zero, List.set_cons_succ]
              go_wp2_with fail
              go_ret
              rw [open_yes Hhb1.out Hhb2.out Hhb3.out (since_neg Hhb4.out)]
              exact ⟨rfl, _, _, Sep.fin (hM.pick [3, 4, 5] (by decide) rfl) (List.Sublist.refl _)⟩
            · refine rD (some 46) (.slice (some ⟨Y49.heap.size, 0, none⟩) 1 1) (Y49.alloc (.cells (ltc (Lt.mk a 0)).toArray 46)) (hS.other _) ?_
              replace hS := hS.other (.cells (ltc (Lt.mk a 0)).toArray 46)
              replace hM := hM.alloc 46 (ltc (Lt.mk a 0))
              generalize World.alloc _ _ = Y55 at *
              generalize hNe : Y49.heap.size = N55 at *
              clear hNe
              refine oD 5 4 (cD (some 42) 17 #[.slice pa R.ls.length ca] ((clipLt_any _ ((hM.oka 4 rfl).rsl ltc_len)).mono ?_))
              rintro e Y56 ⟨rfl, rfl⟩
              refine And.intro (hS) ?_
              obtain ⟨v57, Y57, hrun, ht⟩ := own_clip1 infoLt rfl (by decide) Try.underlying31 ltc_len ltc_one (hM.oka 4 rfl) (Lt.mk a 0) (hM.at 0 rfl) (by decide) (by have h := of_decide_eq_false Hhb3.out; omega) 31
              obtain ⟨pv57, cv57, rfl⟩ := ht.ok.slice ltc_len
              have hM1 := hM.turn 4 rfl ht rfl
              clear ht
              refine oD 10 3 (stepH_append (d := some 47) (t := 31) (t' := 31) (ty := 31) (v := .slice pa R.ls.length R.ls.length) (x := .slice (some ⟨N55, 0, none⟩) 1 1) (by kernel_rfl) hrun (hM1.sub (.cons _ (.cons_cons _ (.cons_cons _ (.cons _ (.cons _ (.cons_cons _ .slnil))))))) ?_)
              replace hS := hM1.sub (.cons _ (.cons_cons _ (.cons_cons _ (.cons _ (.cons _ (.cons_cons _ .slnil))))))
              replace hM := hM1
              clear hM1 hrun
              refine tD 1 [.val 11 (some 48) (pt B 0), .val 12 (some 49) (pt B 3)] trivial hS ?_
              have hst := (sto_part (rmc true R.r0 R.r1 (.slice pv57 (R.ls ++ [Lt.mk a 0]).length cv57) (.slice pb R.bs.length cb)) (hM.at 3 rfl) 3 31 (.slice pv57 (R.ls ++ [Lt.mk a 0]).length cv57) ([.slice pv57 (R.ls ++ [Lt.mk a 0]).length cv57]) rfl (by kernel_rfl) (Nat.le_of_ble_eq_true rfl) rfl rfl)
              have hM1 := hM.set 3 (cs' := rmc true R.r0 R.r1 (.slice pv57 (R.ls ++ [Lt.mk a 0]).length cv57) (.slice pb R.bs.length cb)) rfl rfl
              refine oD 13 0 (sD 31 (pt B 3) (.slice pv57 (R.ls ++ [Lt.mk a 0]).length cv57) (hst) (hM1.sub (.cons _ (.cons_cons _ (.cons_cons _ (.cons _ (.cons _ (.cons_cons _ .slnil))))))) ?_)
              clear hst
              replace hS := hM1.sub (.cons _ (.cons_cons _ (.cons_cons _ (.cons _ (.cons _ (.cons_cons _ .slnil))))))
              replace hM := hM1
              clear hM1
              generalize World.setRow _ _ _ = Y58 at *
              refine dD ?_
              try simp only [puts, Tk.put, Act.put, List.setIfInBounds_toArray, List.set_cons_zero, List.set_cons_succ]
              clear hS
              go_upto_region 14 with fail
              refine wp_region_fromM (fun W => Sep w (Res.join (RMR B R (.slice pa R.ls.length ca) (.slice pb R.bs.length cb))).foot [.blk N55 46 (ltc (Lt.mk a 0)), .blk N10 46 (ltc ((openL R.ls a).getD noL)), .blk N2 26 (akc a), .blk B 34 (rmc true R.r0 R.r1 (.slice pv57 (R.ls ++ [Lt.mk a 0]).length cv57) (.slice pb R.bs.length cb)), .own ltc 46 10 (.slice pv57 (R.ls ++ [Lt.mk a 0]).length cv57) (R.ls ++ [Lt.mk a 0]), .own bdc 28 16 (.slice pb R.bs.length cb) (R.bs)] W) hM ?_
              clear hM
              rintro Y59 hM
              refine tF 1 [.val 0 (some 6) (.int .i64 0)] trivial ?_
              refine dF ?_
              try simp only [puts, Tk.put, Act.put, List.setIfInBounds_toArray, List.set_cons_zero, List.set_cons_succ]
              go_wp2_with fail
              go_ret
              rw [open_yes Hhb1.out Hhb2.out Hhb3.out (since_neg Hhb4.out)]
              exact ⟨rfl, _, _, Sep.fin (hM.pick [3, 4, 5] (by decide) rfl) (List.Sublist.refl _)⟩
          · refine rD (some 46) (.slice (some ⟨Y49.heap.size, 0, none⟩) 1 1) (Y49.alloc (.cells (ltc (Lt.mk a 0)).toArray 46)) (hS.other _) ?_
            replace hS := hS.other (.cells (ltc (Lt.mk a 0)).toArray 46)
            replace hM := hM.alloc 46 (ltc (Lt.mk a 0))
            generalize World.alloc _ _ = Y60 at *
            generalize hNe : Y49.heap.size = N60 at *
            clear hNe
            refine oD 4 5 (lD (some 41) 31 (pt B 3) (.slice pa R.ls.length ca) (ld_any _ _ Try.underlying31 rfl (hM.at 3 rfl) 3 rfl) (hS) ?_)
            refine oD 5 4 (cD (some 42) 17 #[.slice pa R.ls.length ca] ((clipLt_any _ ((hM.oka 4 rfl).rsl ltc_len)).mono ?_))
            rintro e Y61 ⟨rfl, rfl⟩
            refine And.intro (hS) ?_
            obtain ⟨v62, Y62, hrun, ht⟩ := own_clip1 infoLt rfl (by decide) Try.underlying31 ltc_len ltc_one (hM.oka 4 rfl) (Lt.mk a 0) (hM.at 0 rfl) (by decide) (by have h := of_decide_eq_false Hhb3.out; omega) 31
            obtain ⟨pv62, cv62, rfl⟩ := ht.ok.slice ltc_len
            have hM1 := hM.turn 4 rfl ht rfl
            clear ht
            refine oD 10 3 (stepH_append (d := some 47) (t := 31) (t' := 31) (ty := 31) (v := .slice pa R.ls.length R.ls.length) (x := .slice (some ⟨N60, 0, none⟩) 1 1) (by kernel_rfl) hrun (hM1.sub (.cons _ (.cons_cons _ (.cons_cons _ (.cons _ (.cons _ (.cons_cons _ .slnil))))))) ?_)
            replace hS := hM1.sub (.cons _ (.cons_cons _ (.cons_cons _ (.cons _ (.cons _ (.cons_cons _ .slnil))))))
            replace hM := hM1
            clear hM1 hrun
            refine tD 1 [.val 11 (some 48) (pt B 0), .val 12 (some 49) (pt B 3)] trivial hS ?_
            have hst := (sto_part (rmc true R.r0 R.r1 (.slice pv62 (R.ls ++ [Lt.mk a 0]).length cv62) (.slice pb R.bs.length cb)) (hM.at 3 rfl) 3 31 (.slice pv62 (R.ls ++ [Lt.mk a 0]).length cv62) ([.slice pv62 (R.ls ++ [Lt.mk a 0]).length cv62]) rfl (by kernel_rfl) (Nat.le_of_ble_eq_true rfl) rfl rfl)
            have hM1 := hM.set 3 (cs' := rmc true R.r0 R.r1 (.slice pv62 (R.ls ++ [Lt.mk a 0]).length cv62) (.slice pb R.bs.length cb)) rfl rfl
            refine oD 13 0 (sD 31 (pt B 3) (.slice pv62 (R.ls ++ [Lt.mk a 0]).length cv62) (hst) (hM1.sub (.cons _ (.cons_cons _ (.cons_cons _ (.cons _ (.cons _ (.cons_cons _ .slnil))))))) ?_)
            clear hst
            replace hS := hM1.sub (.cons _ (.cons_cons _ (.cons_cons _ (.cons _ (.cons _ (.cons_cons _ .slnil))))))
            replace hM := hM1
            clear hM1
            generalize World.setRow _ _ _ = Y63 at *
            refine dD ?_
            try simp only [puts, Tk.put, Act.put, List.setIfInBounds_toArray, List.set_cons_zero, List.set_cons_succ]
            clear hS
            go_upto_region 14 with fail
            refine wp_region_fromM (fun W => Sep w (Res.join (RMR B R (.slice pa R.ls.length ca) (.slice pb R.bs.length cb))).foot [.blk N60 46 (ltc (Lt.mk a 0)), .blk N10 46 (ltc ((openL R.ls a).getD noL)), .blk N2 26 (akc a), .blk B 34 (rmc true R.r0 R.r1 (.slice pv62 (R.ls ++ [Lt.mk a 0]).length cv62) (.slice pb R.bs.length cb)), .own ltc 46 10 (.slice pv62 (R.ls ++ [Lt.mk a 0]).length cv62) (R.ls ++ [Lt.mk a 0]), .own bdc 28 16 (.slice pb R.bs.length cb) (R.bs)] W) hM ?_
            clear hM
            rintro Y64 hM
            refine tF 1 [.val 0 (some 6) (.int .i64 0)] trivial ?_
            refine dF ?_
            try simp only [puts, Tk.put, Act.put, List.setIfInBounds_toArray, List.set_cons_zero, List.set_cons_succ]
            go_wp2_with fail
            go_ret
            rw [open_yes Hhb1.out Hhb2.out Hhb3.out (since_neg Hhb4.out)]
            exact ⟨rfl, _, _, Sep.fin (hM.pick [3, 4, 5] (by decide) rfl) (List.Sublist.refl _)⟩
      | true =>
        have Hhb3 := Lib.hid hb3
        clear hb3
        go_upto_region 10 with fail
        refine wp_region_fromM (fun W => Sep w (Res.join (RMR B R (.slice pa R.ls.length ca) (.slice pb R.bs.length cb))).foot [.blk N10 46 (ltc ((openL R.ls a).getD noL)), .blk N2 26 (akc a), .blk B 34 (rmc true R.r0 R.r1 (.slice pa R.ls.length ca) (.slice pb R.bs.length cb)), .own ltc 46 10 (.slice pa R.ls.length ca) (R.ls), .own bdc 28 16 (.slice pb R.bs.length cb) (R.bs)] W) hM ?_
        clear hM
        rintro Y65 hM
        refine tF 1 [.val 0 (some 6) (.int .i64 10)] trivial ?_
        refine dF ?_
        try simp only [puts, Tk.put, Act.put, List.setIfInBounds_toArray, List.set_cons_zero, List.set_cons_succ]
        go_wp2_with fail
        go_ret
        rw [open_full Hhb1.out Hhb2.out Hhb3.out]
        exact ⟨rfl, _, _, Sep.fin (hM.pick [2, 3, 4] (by decide) rfl) (List.Sublist.refl _)⟩
    | true =>
      have Hhb2 := Lib.hid hb2
      clear hb2
      go_upto_region 8 with fail
      refine wp_region_fromM (fun W => Sep w (Res.join (RMR B R (.slice pa R.ls.length ca) (.slice pb R.bs.length cb))).foot [.blk N10 46 (ltc ((openL R.ls a).getD noL)), .blk N2 26 (akc a), .blk B 34 (rmc true R.r0 R.r1 (.slice pa R.ls.length ca) (.slice pb R.bs.length cb)), .own ltc 46 10 (.slice pa R.ls.length ca) (R.ls), .own bdc 28 16 (.slice pb R.bs.length cb) (R.bs)] W) hM ?_
      clear hM
      rintro Y66 hM
      refine tF 1 [.val 0 (some 6) (.int .i64 32)] trivial ?_
      refine dF ?_
      try simp only [puts, Tk.put, Act.put, List.setIfInBounds_toArray, List.set_cons_zero, List.set_cons_succ]
      go_wp2_with fail
      go_ret
      rw [open_is Hhb1.out Hhb2.out]
      exact ⟨rfl, _, _, Sep.fin (hM.pick [2, 3, 4] (by decide) rfl) (List.Sublist.refl _)⟩
  | true =>
    have Hhb1 := Lib.hid hb1
    clear hb1
    go_upto_region 5 with fail
    refine wp_region_fromM (fun W => Sep w (Res.join (RMR B R (.slice pa R.ls.length ca) (.slice pb R.bs.length cb))).foot [.blk N2 26 (akc a), .blk B 34 (rmc true R.r0 R.r1 (.slice pa R.ls.length ca) (.slice pb R.bs.length cb)), .own ltc 46 10 (.slice pa R.ls.length ca) (R.ls), .own bdc 28 16 (.slice pb R.bs.length cb) (R.bs)] W) hM ?_
    clear hM
    rintro Y67 hM
    refine tF 2 [.val 0 (some 17) (.int .i64 (errA a)), .val 1 (some 6) (.int .i64 (errA a))] trivial ?_
    refine dF ?_
    try simp only [puts, Tk.put, Act.put, List.setIfInBounds_toArray, List.set_cons_zero, List.set_cons_succ]
    go_wp2_with fail
    go_ret
    rw [open_err Hhb1.out]
    exact ⟨rfl, _, _, Sep.fin (hM.pick [1, 2, 3] (by decide) rfl) (List.Sublist.refl _)⟩
end Go.Proofs.Ytbhfajnejibaoaa
