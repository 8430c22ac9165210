/-
  escrow: a deed is tried: what was demanded and did not hold is told; the state is as it was; escrow: a transaction is applied; The program's order of things and the page's come to the same; The page: what is held; a lock's place; is an act signed?; a lock that is open; a lock that is ended; The law: an error's number; a state whose side is one of both; The law: a state as the page's; The laws: wha
-/
import Derived.Defers
import Derived.Recover
import Derived.Deep.RegionHeld3
import Derived.Outline
import Derived.Deep.Cut
import Derived.Deep.CutBlock
import Derived.Deep.DeepCutAuto
import Derived.LoopTactic
import Derived.Laws.StructEq
import Derived.Lib.AppendZeros
import Derived.Laws.OwnMore
import Derived.Deep.Upon
import Derived.Lib.SlBytesConst
import Derived.Laws.Concat
import Derived.Test.YtemknjnljciioaaGreatK05
namespace Go.Proofs.YtemknjnljciioaaGreat
open Go.RowKit Go.Shelf
section
variable {P : Program} {ops : Array Oper} {Q : Exit → Act → World → Prop}
end
def AttR (s : Es) (p : Es × Int) (w : World) (e : Ending) (W' : World) : Prop := ∃ v', e = .returned (.tuple #[stv (if p.2 = 0 then p.1 else s) v', .int .i64 p.2]) ∧ OwnL w.heap.size W' v' (if p.2 = 0 then p.1 else s).lk ∧ Below w.heap.size w W'
end Go.Proofs.YtemknjnljciioaaGreat
namespace Go.Proofs.YtemknjnljciioaaGreat
open Go.RowKit Go.Shelf
theorem AttR.ok {s : Es} {p : Es × Int} {w W' : World} {e : Ending} (h : AttR s p w e W') (hp : p.2 = 0) : ∃ v', e = .returned (.tuple #[stv p.1 v', .int .i64 0]) ∧ OwnL w.heap.size W' v' p.1.lk ∧ Below w.heap.size w W' := by
  obtain ⟨v', h1, h2, h3⟩ := h
  rw [if_pos hp, hp] at h1
  rw [if_pos hp] at h2
  exact ⟨v', h1, h2, h3⟩
theorem AttR.no {s : Es} {p : Es × Int} {w W' : World} {e : Ending} (h : AttR s p w e W') (hp : p.2 ≠ 0) : ∃ v', e = .returned (.tuple #[stv s v', .int .i64 p.2]) ∧ OwnL w.heap.size W' v' s.lk ∧ Below w.heap.size w W' := by
  obtain ⟨v', h1, h2, h3⟩ := h
  rw [if_neg hp] at h1 h2
  exact ⟨v', h1, h2, h3⟩
theorem OwnL.row {b B : Nat} {W : World} {v : Value} {l : List Lk} (h : OwnL b W v l) (hne : ∀ k, v.ownBlock = some k → k ≠ B) (cs : Array Value) : OwnL b (W.setRow B cs) v l := by
  refine h.kept (grownBy_row W B cs) ?_
  cases hv : v.ownBlock with
  | none => exact .inl rfl
  | some k => exact .inr fun e => hne k hv (Option.some.inj e)
end Go.Proofs.YtemknjnljciioaaGreat
namespace Go.Proofs.YtemknjnljciioaaGreat
open Go.RowKit Go.Shelf
def Eq0 (p q : Es × Int) : Prop := p.2 = q.2 ∧ (q.2 = 0 → p.1 = q.1)
theorem Eq0.of {p q : Es × Int} (h : p = q) : Eq0 p q := by subst h; exact ⟨rfl, fun _ => rfl⟩
end Go.Proofs.YtemknjnljciioaaGreat
namespace Go.Proofs.YtemknjnljciioaaGreat
open Go.RowKit Go.Shelf
theorem RSl.one {α : Type} {f : α → List Value} {lo hi : Nat} {W : World} {v : Value} {l : List α} (h : RSl f lo hi W v l) : v.oneCell' = true := by obtain ⟨a, c, rfl⟩ := h.slice; rfl
theorem RSl.all {α : Type} {f : α → List Value} {lo hi : Nat} {w W : World} {v : Value} {l : List α} (h : RSl f lo hi w v l) (hhi : hi ≤ w.heap.size) (hb : Below w.heap.size w W) : RSl f 0 W.heap.size W v l := (h.below hb hhi).mono (Nat.zero_le _) (Nat.le_trans hhi hb.size)
theorem Mem.own {w W W' : World} {l : List MB} {row : Option Nat} (h : Mem w none l W) (hg : W.grownBy W' row) (hr : ∀ k, row = some k → w.heap.size ≤ k ∧ ∀ x ∈ l, x.1 ≠ k) : Mem w none l W' :=
  ⟨fun x hx => ⟨(h.1 x hx).1.kept hg (fun e => (hr _ e.symm).2 x hx rfl), (h.1 x hx).2⟩, h.2.1, ⟨hg.os.trans h.2.2.os, hg.tape.trans h.2.2.tape, hg.output.trans h.2.2.output, Nat.le_trans h.2.2.size hg.size, fun k hk _ => (hg.block k (Nat.lt_of_lt_of_le hk h.2.2.size) (fun e => by have := (hr k e.symm).1; omega)).trans (h.2.2.block k hk (by simp))⟩⟩
end Go.Proofs.YtemknjnljciioaaGreat
namespace Go.Proofs.YtemknjnljciioaaGreat
open Go.RowKit Go.Shelf
attribute [local irreducible] wpFrom
def sideE (s : Es) : Es := { s with sd := if s.sd = 1 then 1 else 0, tm := if s.tm < 0 ∨ 1099511627776 < s.tm then 0 else s.tm }
def SideR (s : Es) (v : Value) (w : World) (e : Ending) (W' : World) : Prop := e = .returned (stv (sideE s) v) ∧ Below w.heap.size w W'
theorem SideR.of {s s' : Es} {v : Value} {w W' : World} (h : sideE s = s') (hb : Below w.heap.size w W') : SideR s v w (.returned (stv s' v)) W' := by
  subst h
  exact ⟨rfl, hb⟩
end Go.Proofs.YtemknjnljciioaaGreat
namespace Go.Proofs.YtemknjnljciioaaGreat
open Go.RowKit Go.Shelf
attribute [local irreducible] wpFrom
section
variable {W : World} {B : Nat} {T : TypeId} {s : Es} {v : Value}
end
def SzGe (n : Nat) (W : World) : Prop := n ≤ W.heap.size
theorem SzGe.drew {n : Nat} {W : World} (h : SzGe n W) : SzGe n W.drew := h
theorem SzGe.alloc {n : Nat} {W : World} (h : SzGe n W) (c : Obj) : SzGe n (W.alloc c) := Nat.le_trans h (chainA (Below.refl _ W) c).size
theorem SzGe.grown {n : Nat} {W W' : World} {r : Option Nat} (h : SzGe n W) (hg : W.grownBy W' r) : SzGe n W' := Nat.le_trans h hg.size
end Go.Proofs.YtemknjnljciioaaGreat
namespace Go.Proofs.YtemknjnljciioaaGreat
open Go.RowKit Go.Shelf
def RLk (lo hi : Nat) (W : World) (v : Value) (l : List Lk) : Prop := RSl lkc lo hi W v l ∧ hi ≤ W.heap.size
section
variable {lo hi : Nat} {W W' : World} {v : Value} {l : List Lk}
theorem RLk.drew (h : RLk lo hi W v l) : RLk lo hi W.drew v l := h
theorem RLk.below (h : RLk lo hi W v l) (hb : Below W.heap.size W W') : RLk lo hi W' v l := ⟨h.1.below hb h.2, Nat.le_trans h.2 hb.size⟩
theorem RLk.alloc (h : RLk lo hi W v l) (c : Obj) : RLk lo hi (W.alloc c) v l := h.below ((Below.refl _ W).alloc (Nat.le_refl _) _)
theorem RLk.row (h : RLk lo hi W v l) {B : Nat} (hB : B < lo ∨ hi ≤ B) (cs : Array Value) : RLk lo hi (W.setRow B cs) v l :=
  ⟨h.1.kept h.2 (grownBy_row W B cs) (fun r hr => by obtain rfl := Option.some.inj hr; exact hB), Nat.le_trans h.2 (grownBy_row W B cs).size⟩
theorem RLk.one (h : RLk lo hi W v l) : v.oneCell' = true := h.1.one
end
end Go.Proofs.YtemknjnljciioaaGreat
namespace Go.Proofs.YtemknjnljciioaaGreat
open Go.RowKit Go.Shelf
structure Ch where
  st : Es
  po : List Tr
  ev : List Ev
def newC (a z : Int) : Ch := ⟨genP a z, [], []⟩
end Go.Proofs.YtemknjnljciioaaGreat
namespace Go.Proofs.YtemknjnljciioaaGreat
open Go.RowKit Go.Shelf
def lgc (b : Bool) (s : Es) (v pv : Value) (n : Int) (q : Value) : List Value := [.bool b] ++ (stc s v ++ [pv, .int .i64 n, q])
theorem lgc_hi (b : Bool) (s : Es) (v pv : Value) (n : Int) (q : Value) : lgc b s v pv n q = ([.bool b] ++ stc s v) ++ ([pv, .int .i64 n, q] ++ []) := by unfold lgc; simp only [List.append_assoc, List.append_nil]
theorem lgc_152 (b : Bool) (s : Es) (v : Value) : ([.bool b] ++ stc s v : List Value).length = 152 := by rw [List.length_append, stc_len]; rfl
theorem lgc_top (b : Bool) (s : Es) (v pv : Value) (n : Int) (q : Value) {k : Nat} (hk : k < 3) : (lgc b s v pv n q)[152 + k]? = ([pv, .int .i64 n, q] : List Value)[k]? := by
  rw [lgc_hi]
  exact cell_in (lgc_152 b s v) k hk
section
variable {W : World} {B : Nat} {T : TypeId} {b : Bool} {s : Es} {v pv q : Value} {n : Int}
theorem ld_made (h : Blk W B T (lgc b s v pv n q)) : (Instr.loadAt 4 (.pointer (some ⟨B, 0, none⟩))).run Tryz.prog W = .ok (.bool b) W := ld_any _ _ Tryz.underlying4 rfl h 0 rfl
theorem ld_chn (h : Blk W B T (lgc b s v pv n q)) : (Instr.loadAt 3 (.pointer (some ⟨B, 153, none⟩))).run Tryz.prog W = .ok (.int .i64 n) W := ld_int h 153 (lgc_top b s v pv n q (k := 1) (by decide))
theorem ld_chq (h : Blk W B T (lgc b s v pv n q)) : (Instr.loadAt 110 (.pointer (some ⟨B, 154, none⟩))).run Tryz.prog W = .ok q W := ld_any _ _ Tryz.underlying110 rfl h 154 (lgc_top b s v pv n q (k := 2) (by decide))
end
def EvL (W : World) : Value → List Nat → List Ev → Prop
  | q, [], [] => q = .pointer none
  | q, b :: bs, x :: xs => ∃ q', q = .pointer (some ⟨b, 0, none⟩) ∧ Blk W b 162 (evc x ++ [q']) ∧ EvL W q' bs xs
  | _, [], _ :: _ => False
  | _, _ :: _, [] => False
theorem EvL.stab {W W' : World} : ∀ {q : Value} {bs : List Nat} {xs : List Ev}, (∀ k ∈ bs, W'.heap[k]? = W.heap[k]?) → EvL W q bs xs → EvL W' q bs xs
  | _, [], [], _, h => h
  | _, b :: _, _ :: _, hk, ⟨q', h1, h2, h3⟩ => ⟨q', h1, (hk b (List.mem_cons_self ..)).trans h2, EvL.stab (fun k h => hk k (List.mem_cons_of_mem _ h)) h3⟩
  | _, [], _ :: _, _, h => h.elim
  | _, _ :: _, [], _, h => h.elim
theorem EvL.below {W W' : World} : ∀ {q : Value} {bs : List Nat} {xs : List Ev}, EvL W q bs xs → Below W.heap.size W W' → EvL W' q bs xs
  | _, [], [], h, _ => h
  | _, _ :: _, _ :: _, ⟨q', h1, h2, h3⟩, hb => ⟨q', h1, h2.below hb h2.lt, h3.below hb⟩
  | _, [], _ :: _, h, _ => h.elim
  | _, _ :: _, [], h, _ => h.elim
theorem EvL.one {W : World} : ∀ {q : Value} {bs : List Nat} {xs : List Ev}, EvL W q bs xs → q.oneCell' = true ∧ q.cells.toList = [q]
  | _, [], [], h => by obtain rfl : _ = Value.pointer none := h; exact ⟨rfl, rfl⟩
  | _, _ :: _, _ :: _, ⟨_, h1, _, _⟩ => by subst h1; exact ⟨rfl, rfl⟩
  | _, [], _ :: _, h => h.elim
  | _, _ :: _, [], h => h.elim
theorem EvL.step {W : World} {q : Value} {bs : List Nat} {x : Ev} {xs : List Ev} (h : EvL W q bs (x :: xs)) : ∃ b bs' q', q = .pointer (some ⟨b, 0, none⟩) ∧ Blk W b 162 (evc x ++ [q']) ∧ EvL W q' bs' xs := by
  cases bs with
  | nil => exact h.elim
  | cons b bs => obtain ⟨q', h1, h2, h3⟩ := h; exact ⟨b, bs, q', h1, h2, h3⟩
def Res.evs (q : Value) (bs : List Nat) (l : List Ev) : Res where
  foot := bs
  holds := fun W => EvL W q bs l.reverse
  stab := EvL.stab
def CHR (B : Nat) (c : Ch) (v pv q : Value) (bs : List Nat) : List Res :=
  [.blk B 112 (lgc true c.st v pv (c.ev.length : Int) q), .own lkc 322 3 v c.st.lk, .own (fun t => txc t) 136 25 pv c.po, .evs q bs c.ev]
structure ChV (W : World) (B : Nat) (c : Ch) (v pv q : Value) (bs : List Nat) : Prop where
  b : Blk W B 112 (lgc true c.st v pv (c.ev.length : Int) q)
  lk : RSl lkc 0 W.heap.size W v c.st.lk
  po : RSl (fun t => txc t) 0 W.heap.size W pv c.po
  ev : EvL W q bs c.ev.reverse
section
variable {W W' : World} {B : Nat} {c : Ch} {v pv q : Value} {bs : List Nat}
theorem ChV.below (h : ChV W B c v pv q bs) (hb : Below W.heap.size W W') : ChV W' B c v pv q bs := ⟨h.b.below hb h.b.lt, h.lk.up hb, h.po.up hb, h.ev.below hb⟩
theorem ChV.of (h : ROk (.join (CHR B c v pv q bs)) W) : ChV W B c v pv q bs := by
  have hs := Sep.begin h
  exact ⟨hs.at 0 rfl, (hs.oka 1 rfl).rsl lkc_len, (hs.oka 2 rfl).rsl txc_25, (hs.oka 3 rfl).h⟩
end
section
variable {w W : World} {F : List Nat} {l : List Res}
end
def NoC (W : World) (p : Value) : Prop := p = .pointer none ∨ ∃ B, p = .pointer (some ⟨B, 0, none⟩) ∧ Blk W B 112 (lgc false zS (.slice none 0 0) (.slice none 0 0) 0 (.pointer none))
theorem NoC.below {W W' : World} {p : Value} (h : NoC W p) (hb : Below W.heap.size W W') : NoC W' p := by
  rcases h with h | ⟨B, h1, h2⟩
  · exact .inl h
  · exact .inr ⟨B, h1, h2.below hb h2.lt⟩
end Go.Proofs.YtemknjnljciioaaGreat
namespace Go.Proofs.YtemknjnljciioaaGreat
open Go.RowKit Go.Shelf
attribute [local irreducible] wpFrom wpAnyH StepH
theorem there_yes {B : Nat} {T : TypeId} {s : Es} {v pv q : Value} {n : Int} (w : World) (hB : Blk w B T (lgc true s v pv n q)) : Calls Tryz.prog 69 #[.pointer (some ⟨B, 0, none⟩)] w fun e W' => e = .returned (.bool true) ∧ W' = w := by
  go_enter Tryz.func69, Tryz.ntmps69
  go_upto_region 1 with fail
  refine wp_region_from ?_
  refine tF 9 [.val 0 (some 3) (pt B 0), .val 1 (some 4) (.bool true), .val 2 (some 5) (.bool true), .val 3 (some 6) (pt B 0), .val 4 (some 7) (pt B 0), .val 5 (some 8) (pt B 0), .load 6 (some 9) 4 (pt B 0) (.bool true), .val 7 (some 10) (.bool true), .val 8 (some 2) (.bool true)] ⟨ld_made hB, trivial⟩ ?_
  refine dF ?_
  try simp only [puts, Tk.put, Act.put, List.setIfInBounds_toArray, List.set_cons_zero, List.set_cons_succ]
  go_wp2_with fail
  go_ret
  exact ⟨rfl, rfl⟩
end Go.Proofs.YtemknjnljciioaaGreat
namespace Go.Proofs.YtemknjnljciioaaGreat
open Go.RowKit Go.Shelf
attribute [local irreducible] wpFrom wpAnyH StepH
theorem Sep.addE {w W : World} {F : List Nat} {l : List Res} (h : Sep w F l W) : Sep w F (.evs (.pointer none) [] [] :: l) W :=
  h.add (Below.refl _ W) ⟨rfl, fun _ hk => (List.not_mem_nil hk).elim⟩ (fun _ hk => (List.not_mem_nil hk).elim)
def NewR (c : Ch) (w : World) (e : Ending) (W' : World) : Prop := ∃ B v pv q bs, e = .returned (.pointer (some ⟨B, 0, none⟩)) ∧ Sep w [] (CHR B c v pv q bs) W'
set_option maxRecDepth 100000 in
set_option maxHeartbeats 4000000 in
theorem chnNew_any (a z : Int) (w : World) : Calls Tryz.prog 22 #[.int .i64 a, .int .i64 z] w (NewR (newC a z) w) := by
  have hM := Sep.start w
  go_enter Tryz.func22, Tryz.ntmps22
  go_upto_region 1 with fail
  refine wp_region_fromM (fun W => Sep w [] [] W) hM ?_
  clear hM
  rintro Y1 hM
  refine tF 2 [.val 0 (some 5) (.int .i64 a), .val 1 (some 6) (.int .i64 z)] trivial ?_
  refine cF (some 7) 48 #[.int .i64 a, .int .i64 z] ((genesis_any a z _).mono ?_)
  rintro e W1 ⟨rfl, hb⟩
  replace hM := hM.below hb
  clear hb
  refine tF 4 [.val 3 (some 8) (.agg (lgc true (genP a z) nilV nilV 0 (.pointer none)).toArray)] trivial ?_
  refine rF (some 9) (pt W1.heap.size 0) (W1.alloc (.cells (lgc true (genP a z) nilV nilV 0 (.pointer none)).toArray 112)) ?_
  replace hM := hM.alloc 112 (lgc true (genP a z) nilV nilV 0 (.pointer none))
  generalize World.alloc _ _ = Y2 at *
  generalize hNe : W1.heap.size = B at *
  clear hNe
  refine tF 6 [.val 5 (some 4) (pt B 0)] trivial ?_
  refine dF ?_
  try simp only [puts, Tk.put, Act.put, List.setIfInBounds_toArray, List.set_cons_zero, List.set_cons_succ]
  replace hM := ((hM.nil (fun t => txc t) 136 25).nil lkc 322 3)
  have hM2 : Sep w [] (CHR B (newC a z) nilV nilV (.pointer none) []) _ := ((hM.addE).pick [3, 1, 2, 0] (by decide) rfl)
  go_wp2_with fail
  go_ret
  exact ⟨B, nilV, nilV, .pointer none, [], rfl, hM2⟩
end Go.Proofs.YtemknjnljciioaaGreat
namespace Go.Proofs.YtemknjnljciioaaGreat
open Go.RowKit Go.Shelf
attribute [local irreducible] wpFrom wpAnyH StepH
def mnE (m a : Int) : Int := if m < a then m else a
def mxE (a : Int) : Int := if a > 0 then a else 0
def fromE (n : Int) (m : Nat) : Nat := (mxE (mnE (m : Int) n)).toNat
theorem fromE_le (n : Int) (m : Nat) : fromE n m ≤ m := by unfold fromE mxE mnE; split <;> (try split) <;> omega
theorem fromE_is (n : Int) (m : Nat) : mxE (mnE (m : Int) n) = (fromE n m : Nat) := by unfold fromE mxE mnE; split <;> (try split) <;> omega
theorem make_rep {z : Ev} : ∀ n : Nat, (madeCells (Value.agg (evc z).toArray).cells (n * 27)).toList = flatR evc (List.replicate n z) := by
  intro n
  apply List.ext_getElem?
  intro j
  have hl : (flatR evc (List.replicate n z)).length = n * 27 := by rw [flat_len evc_len, List.length_replicate]
  by_cases hj : j < n * 27
  · have hk : j / 27 < n := by omega
    have hx : (List.replicate n z)[j / 27]? = some z := List.getElem?_replicate_of_lt hk
    have h1 := flat_cell (f := evc) evc_len hx (j := j % 27) (Nat.mod_lt _ (by decide))
    rw [show j / 27 * 27 + j % 27 = j by omega] at h1
    rw [h1]
    have hsz : (Value.agg (evc z).toArray).cells.size = 27 := rfl
    have hlt : j % 27 < 27 := Nat.mod_lt _ (by decide)
    simp only [madeCells, hsz, Array.getElem?_toList]
    rw [Array.getElem?_map]
    rw [Array.getElem?_range]
    rw [if_pos hj]
    obtain ⟨u, hu⟩ : ∃ u, (evc z)[j % 27]? = some u := ⟨_, List.getElem?_eq_getElem (by rw [evc_len]; exact hlt)⟩
    have e : (evc z).toArray[j % 27]? = some u := by rw [List.getElem?_toArray]; exact hu
    rw [hu]
    show some ((evc z).toArray[j % 27]!) = some u
    simp only [getElem!_def, e]
  · have hm : (madeCells (Value.agg (evc z).toArray).cells (n * 27)).toList.length = n * 27 := (Array.length_toList).trans (size_madeCells _ _)
    rw [List.getElem?_eq_none (by omega), List.getElem?_eq_none (by omega)]
theorem ld_evE {W : World} {b : Nat} {T : TypeId} {x : Ev} {q : Value} (h : Blk W b T (evc x ++ [q])) : (Instr.loadAt 160 (.pointer (some ⟨b, 0, none⟩))).run Tryz.prog W = .ok (.agg (evc x).toArray) W :=
  load_part h 0 (evc x) rfl _ _ Tryz.underlying160 rfl (by kernel_rfl)
theorem ld_evQ {W : World} {b : Nat} {T : TypeId} {x : Ev} {q : Value} (h : Blk W b T (evc x ++ [q])) : (Instr.loadAt 110 (.pointer (some ⟨b, 27, none⟩))).run Tryz.prog W = .ok q W :=
  ld_any _ _ Tryz.underlying110 rfl h 27 rfl
theorem EvL.here {W : World} {q : Value} {bs : List Nat} {l : List Ev} {k : Nat} {x : Ev} (h : EvL W q bs (l.take (k + 1)).reverse) (hx : l[k]? = some x) : ∃ b bs' q', q = .pointer (some ⟨b, 0, none⟩) ∧ Blk W b 162 (evc x ++ [q']) ∧ EvL W q' bs' (l.take k).reverse := by
  obtain ⟨hk, rfl⟩ := List.getElem?_eq_some_iff.1 hx
  rw [List.take_succ_eq_append_getElem hk, List.reverse_append] at h
  exact h.step
theorem ev_all {l L : List Ev} {f : Nat} (h2 : ∀ i, 0 ≤ i → L[i]? = l[f + i]?) : L = l.drop f := by
  apply List.ext_getElem?
  intro i
  rw [h2 i (Nat.zero_le _), List.getElem?_drop]
theorem runAt_make {P : Program} {ops : Array Oper} {i : Nat} {a : Act} {w w' : World} {d : Option Tmp} {t : TypeId} {x y v : Value} (hr : (ops[i]?).map (fun o => (Region.wanted o (yielded ops a.tmps), o.dst, match o.op with | .makeSlice t' l c => some (t', a.eval l, a.eval c) | _ => none)) = some (true, d, some (t, x, y))) (h : (Instr.makeSlice t x y).run P w = .ok v w') : runAt P ops i a w = some (true, d, .ok (.value v) w') := by
  obtain ⟨o, ho⟩ := some_of hr
  rw [ho] at hr
  have h0 := Option.some.inj hr
  have h1 : Region.wanted o (yielded ops a.tmps) = true := congrArg Prod.fst h0
  have h2 : o.dst = d := congrArg (fun x => x.2.1) h0
  have h3 := congrArg (fun x => x.2.2) h0
  dsimp only at h3
  split at h3
  · rename_i t' l c hop
    obtain ⟨rfl, rfl, rfl⟩ := by simpa using h3
    unfold runAt
    rw [ho]
    simp only [Option.map_some]
    rw [h1, h2]
    unfold execOp
    simp only [hop, Sem.run_bind, h, Result.andThen_ok]
    rfl
  · cases h3
set_option maxRecDepth 100000 in
set_option maxHeartbeats 4000000 in
theorem chnEvents_any {B : Nat} {c : Ch} {v pv q : Value} {bs : List Nat} (n : Int) (w : World) (hv : ChV w B c v pv q bs) (hr : c.ev.length ≤ 100000000) : Calls Tryz.prog 134 #[.pointer (some ⟨B, 0, none⟩), .int .i64 n] w (RowE (c.ev.drop (fromE n c.ev.length)) w) := by
  have hmx : Tryz.prog.follows .mixedOrders = true := by kernel_rfl
  have HV := Lib.hid hv
  have HLEN := Lib.hid hr
  have hev := hv.ev
  clear hv hr
  obtain ⟨i0, hi, hz0, hz1, hz2⟩ := info_parts infoEv
  have hM := Sep.start w
  go_enter Tryz.func134, Tryz.ntmps134
  go_upto_region 1 with fail
  refine wp_region_fromM (fun W => Sep w [] [] W) hM ?_
  clear hM
  rintro Y1 hM
  refine tF 1 [.val 0 (some 8) (pt B 0)] trivial ?_
  refine cF (some 9) 69 #[pt B 0] ((there_yes _ (HV.out.below hM.b).b).mono ?_)
  rintro e W1 ⟨rfl, rfl⟩
  refine tF 3 [.val 2 (some 10) (.bool false)] trivial ?_
  refine dF ?_
  try simp only [puts, Tk.put, Act.put, List.setIfInBounds_toArray, List.set_cons_zero, List.set_cons_succ]
  go_upto_region 3 with fail
  refine wp_region_M (fun W => Sep w [] [] W) (fun W => Sep w [] [] W) hmx hM.drew ?_
  clear hM
  rintro Y2 hM
  have hS := hM.sub .slnil
  refine tD 5 [.val 0 (some 11) (pt B 0), .val 1 (some 12) (pt B 0), .val 2 (some 13) (pt B 153), .load 3 (some 14) 3 (pt B 153) (.int .i64 (c.ev.length : Int)), .val 4 (some 15) (.int .i64 n), .val 5 (some 16) (pt B 0), .val 6 (some 17) (pt B 0), .val 7 (some 18) (pt B 153), .load 8 (some 19) 3 (pt B 153) (.int .i64 (c.ev.length : Int))] ⟨fun W h => ld_chn (HV.out.below h.b).b, fun W h => ld_chn (HV.out.below h.b).b, trivial⟩ hS ?_
  refine oD 9 4 (rD (some 20) (.int .i64 (mnE (c.ev.length : Int) n)) (Y2) (hS) ?_)
  refine oD 10 3 (rD (some 21) (.int .i64 (mxE (mnE (c.ev.length : Int) n))) (Y2) (hS) ?_)
  refine tD 2 [.alt 11 (some 22) (.int .i64 (IntKind.i64.wrap ((c.ev.length : Int) - mxE (mnE (c.ev.length : Int) n)))) (.int .i64 ((c.ev.length - fromE n c.ev.length) : Nat))] ⟨congrArg (Value.int .i64) (by have h1 := HLEN.out; have h2 := fromE_le n c.ev.length; rw [fromE_is]; exact (IntWalk.i64_in _ (by omega)).trans (by omega)), trivial⟩ hS ?_
  obtain ⟨Wm, hrun, hO, hg⟩ := run_make_full Y2 Y2.heap.size 182 160 i0 _ 27 Tryz.underlying182 hi hz0 hz1 .i64 .i64 (c.ev.length - fromE n c.ev.length) (by have h1 := HLEN.out; rw [hz2]; omega) (by have h1 := HLEN.out; unfold maxLen; omega) (Nat.le_refl _)
  have hb : Below Y2.heap.size Y2 Wm := ⟨hg.os, hg.tape, hg.output, hg.size, fun k hk => hg.block k hk (by simp)⟩
  rw [make_rep] at hO
  have hO2 : Wm.ownsRow Y2.heap.size 160 27 (.slice (some ⟨Y2.heap.size, 0, none⟩) (c.ev.length - fromE n c.ev.length) (c.ev.length - fromE n c.ev.length)) (List.replicate (c.ev.length - fromE n c.ev.length) (⟨0, 0, noT⟩ : Ev)).length (flatR evc (List.replicate (c.ev.length - fromE n c.ev.length) ⟨0, 0, noT⟩)) := by rw [List.length_replicate]; exact hO
  clear hO hg
  refine oD 12 1 (rD (some 23) (.slice (some ⟨Y2.heap.size, 0, none⟩) (c.ev.length - fromE n c.ev.length) (c.ev.length - fromE n c.ev.length)) Wm (hS.below hb) ?_ (runAt_make (by kernel_rfl) hrun))
  replace hS := hS.below hb
  replace hM := hM.row hO2 hb
  generalize hNe : Y2.heap.size = G at *
  clear hNe hb hO2
  refine tD 0 [.val 13 (some 5) (.slice (some ⟨G, 0, none⟩) (c.ev.length - fromE n c.ev.length) (c.ev.length - fromE n c.ev.length))] trivial hS ?_
  refine dD ?_
  try simp only [puts, Tk.put, Act.put, List.setIfInBounds_toArray, List.set_cons_zero, List.set_cons_succ]
  clear hS
  go_upto_region 4 with fail
  refine wp_region_fromM (fun W => Sep w [] [.own evc 160 27 (.slice (some ⟨G, 0, none⟩) (c.ev.length - fromE n c.ev.length) (c.ev.length - fromE n c.ev.length)) (List.replicate (c.ev.length - fromE n c.ev.length) ⟨0, 0, noT⟩)] W) hM ?_
  clear hM
  rintro Y3 hM
  refine tF 5 [.val 0 (some 24) (pt B 0), .val 1 (some 25) (pt B 0), .val 2 (some 26) (pt B 154), .load 3 (some 27) 110 (pt B 154) (q), .val 4 (some 6) (q)] ⟨ld_chq (HV.out.below hM.b).b, trivial⟩ ?_
  refine dF ?_
  try simp only [puts, Tk.put, Act.put, List.setIfInBounds_toArray, List.set_cons_zero, List.set_cons_succ]
  go_upto_region 5 with fail
  refine wp_region_fromM (fun W => Sep w [] [.own evc 160 27 (.slice (some ⟨G, 0, none⟩) (c.ev.length - fromE n c.ev.length) (c.ev.length - fromE n c.ev.length)) (List.replicate (c.ev.length - fromE n c.ev.length) ⟨0, 0, noT⟩)] W) hM ?_
  clear hM
  rintro Y4 hM
  refine tF 1 [.val 0 (some 28) (.slice (some ⟨G, 0, none⟩) (c.ev.length - fromE n c.ev.length) (c.ev.length - fromE n c.ev.length))] trivial ?_
  refine rF (some 29) (.int .i64 ((c.ev.length - fromE n c.ev.length) : Nat)) (Y4) ?_
  refine tF 4 [.alt 2 (some 30) (.int .i64 (IntKind.i64.wrap ((((c.ev.length - fromE n c.ev.length) : Nat) : Int) - 1))) (.int .i64 ((((c.ev.length - fromE n c.ev.length) : Nat) : Int) - 1)), .val 3 (some 7) (.int .i64 ((((c.ev.length - fromE n c.ev.length) : Nat) : Int) - 1))] ⟨congrArg (Value.int .i64) (IntWalk.i64_in _ (by have h1 := HLEN.out; omega)), trivial⟩ ?_
  refine dF ?_
  try simp only [puts, Tk.put, Act.put, List.setIfInBounds_toArray, List.set_cons_zero, List.set_cons_succ]
  go_wp2_with fail
  go_loopw [6, 7] (fun p i wr => ∃ (k : Nat) (L : List Ev) (bs' : List Nat), k ≤ (c.ev.length - fromE n c.ev.length) ∧ i = .int .i64 ((k : Int) - 1) ∧ EvL w p bs' (c.ev.take ((fromE n c.ev.length) + k)).reverse ∧ (L.length = (c.ev.length - fromE n c.ev.length) ∧ ∀ j, k ≤ j → L[j]? = c.ev[(fromE n c.ev.length) + j]?) ∧ Sep w [] [.own evc 160 27 (.slice (some ⟨G, 0, none⟩) (c.ev.length - fromE n c.ev.length) (c.ev.length - fromE n c.ev.length)) (L)] wr) (fun _ i _ => (intOf i + 1).toNat)
  case atStart =>
    refine ⟨(c.ev.length - fromE n c.ev.length), _, bs, Nat.le_refl _, rfl, ?_, ⟨List.length_replicate, fun j hj => ?_⟩, hM⟩
    · rw [List.take_of_length_le (by have := fromE_le n c.ev.length; omega)]
      exact hev
    · rw [List.getElem?_eq_none (by rw [List.length_replicate]; exact hj), List.getElem?_eq_none (by have := fromE_le n c.ev.length; omega)]
  clear hM hev
  case round =>
    obtain ⟨k, L, bs', hk, rfl, hq, hL, hM⟩ := hrel
    have HLL := Lib.hid hL
    have HK := Lib.hid hk
    have HQ := Lib.hid hq
    clear hL hk hq
    cases k with
    | zero =>
      go_upto_region 6 with fail
      refine wp_region_fromM (fun W => Sep w [] [.own evc 160 27 (.slice (some ⟨G, 0, none⟩) (c.ev.length - fromE n c.ev.length) (c.ev.length - fromE n c.ev.length)) (L)] W) hM ?_
      clear hM
      rintro Y5 hM
      refine tF 2 [.val 0 (some 31) (.int .i64 (((0 : Nat) : Int) - 1)), .alt 1 (some 32) (.bool (decide (0 ≤ ((0 : Nat) : Int) - 1))) (.bool false)] ⟨rfl, trivial⟩ ?_
      refine dF ?_
      try simp only [puts, Tk.put, Act.put, List.setIfInBounds_toArray, List.set_cons_zero, List.set_cons_succ]
      go_upto_region 9 with fail
      refine wp_region_fromM (fun W => Sep w [] [.own evc 160 27 (.slice (some ⟨G, 0, none⟩) (c.ev.length - fromE n c.ev.length) (c.ev.length - fromE n c.ev.length)) (L)] W) hM ?_
      clear hM
      rintro Y6 hM
      refine tF 2 [.val 0 (some 46) (.slice (some ⟨G, 0, none⟩) (c.ev.length - fromE n c.ev.length) (c.ev.length - fromE n c.ev.length)), .val 1 (some 4) (.slice (some ⟨G, 0, none⟩) (c.ev.length - fromE n c.ev.length) (c.ev.length - fromE n c.ev.length))] trivial ?_
      refine dF ?_
      try simp only [puts, Tk.put, Act.put, List.setIfInBounds_toArray, List.set_cons_zero, List.set_cons_succ]
      have hl := ev_all HLL.out.2
      subst hl
      go_wp2_with fail
      go_ret
      exact ⟨_, rfl, hM⟩
    | succ k =>
      have hkm := HK.out
      have hFl := fromE_le n c.ev.length
      have hlen1 := HLEN.out
      have HP : Hid ((((k + 1 : Nat) : Int) - 1) = (k : Int)) := Lib.hid (by omega)
      obtain ⟨x, hx⟩ : ∃ x, c.ev[(fromE n c.ev.length) + k]? = some x := ⟨_, List.getElem?_eq_getElem (by omega)⟩
      obtain ⟨b, bs2, q', hqe, hbx, hq'⟩ := HQ.out.here hx
      obtain ⟨y, hy⟩ : ∃ y, L[k]? = some y := ⟨_, List.getElem?_eq_getElem (by have := HLL.out.1; omega)⟩
      obtain ⟨bo, oo, hio, _⟩ := (hM.oka 0 rfl).elem evc_len hy Tryz.underlying182 (fun W => by kernel_rfl)
      have HX := Lib.hid hx
      have HY := Lib.hid hy
      have HBX := Lib.hid hbx
      have HQ2 := Lib.hid hq'
      have HIO := Lib.hid hio
      subst hqe
      rw [HP.out]
      have HB := Lib.hid (And.intro hkm (And.intro hFl hlen1))
      clear hx hy hbx hq' hio hkm hFl hlen1
      go_upto_region 6 with fail
      refine wp_region_fromM (fun W => Sep w [] [.own evc 160 27 (.slice (some ⟨G, 0, none⟩) (c.ev.length - fromE n c.ev.length) (c.ev.length - fromE n c.ev.length)) (L)] W) hM ?_
      clear hM
      rintro Y7 hM
      refine tF 2 [.val 0 (some 31) (.int .i64 (k : Int)), .alt 1 (some 32) (.bool (decide (0 ≤ (k : Int)))) (.bool true)] ⟨congrArg Value.bool (decide_eq_true (by omega)), trivial⟩ ?_
      refine dF ?_
      try simp only [puts, Tk.put, Act.put, List.setIfInBounds_toArray, List.set_cons_zero, List.set_cons_succ]
      go_upto_region 8 with fail
      refine wp_region_M (fun W => Sep w [] [] W) (fun W => Sep w [] [.own evc 160 27 (.slice (some ⟨G, 0, none⟩) (c.ev.length - fromE n c.ev.length) (c.ev.length - fromE n c.ev.length)) (L)] W) hmx hM.drew ?_
      clear hM
      rintro Y8 hM
      have hS := hM.sub (.cons _ .slnil)
      refine tD 2 [.val 0 (some 35) (.slice (some ⟨G, 0, none⟩) (c.ev.length - fromE n c.ev.length) (c.ev.length - fromE n c.ev.length)), .val 1 (some 36) (.int .i64 (k : Int)), .val 2 (some 37) (pt b 0), .val 3 (some 38) (pt b 0), .val 4 (some 39) (pt b 0), .load 5 (some 40) 160 (pt b 0) (.agg (evc x).toArray), .val 6 (some 41) (pt b 0), .val 7 (some 42) (pt b 0), .val 8 (some 43) (pt b 27), .load 9 (some 44) 110 (pt b 27) (q'), .idx 10 (some 45) 182 (.slice (some ⟨G, 0, none⟩) (c.ev.length - fromE n c.ev.length) (c.ev.length - fromE n c.ev.length)) (.int .i64 (k : Int)) (pt bo oo)] ⟨fun W h => ld_evE (HBX.out.below h.b HBX.out.lt), fun W h => ld_evQ (HBX.out.below h.b HBX.out.lt), fun W h => HIO.out _, trivial⟩ hS ?_
      obtain ⟨Z, hst, ht⟩ := own_store (hM.oka 0 rfl) evc_len HY.out Tryz.underlying182 (fun W => by kernel_rfl) (HIO.out Y8) x 0 160 (.agg (evc x).toArray) (by kernel_rfl) (by exact Nat.le_refl 27) (evc_all x) (ev_laid y x)
      have hM1 := hM.turn 0 rfl ht rfl
      refine oD 11 1 (sD 160 (pt bo oo) (.agg (evc x).toArray) hst (hM1.sub (.cons _ .slnil)) ?_)
      replace hS := hM1.sub (.cons _ .slnil)
      replace hM := hM1
      clear hM1 hst ht
      refine tD 0 [.val 12 (some 6) (q')] trivial hS ?_
      refine dD ?_
      try simp only [puts, Tk.put, Act.put, List.setIfInBounds_toArray, List.set_cons_zero, List.set_cons_succ]
      clear hS
      have hwr : IntKind.i64.wrap ((k : Int) - 1) = (k : Int) - 1 := IntWalk.i64_in _ (by have := HB.out; omega)
      have HM := Lib.hid hM
      clear hM
      go_wp2_with fail
      go_roundw
      case rel =>
        refine ⟨k, L.set k x, bs2, by have := HB.out; omega, rfl, HQ2.out, ⟨by rw [List.length_set]; exact HLL.out.1, fun j hj => ?_⟩, HM.out⟩
        by_cases e : k = j
        · subst e
          rw [List.getElem?_set, if_pos rfl, if_pos (List.getElem?_eq_some_iff.1 HY.out).1, HX.out]
        · rw [List.getElem?_set, if_neg e]
          exact HLL.out.2 j (by omega)
      case measure => simp [intOf] <;> omega
end Go.Proofs.YtemknjnljciioaaGreat
namespace Go.Proofs.YtemknjnljciioaaGreat
open Go.RowKit Go.Shelf
def Res.oct (v : Value) (l : List UInt8) : Res where
  foot := if l.isEmpty then [] else v.ownBlock.toList
  holds := fun W => ∃ hi, BSl 0 hi W v l
  stab := fun {W W'} h ⟨hi, a, cap, e, hc, h0⟩ => by
    refine ⟨hi, a, cap, e, hc, ?_⟩
    rcases h0 with h0 | ⟨b, off, ha, hl, hh, ho⟩
    · exact .inl h0
    · subst e ha
      cases l with
      | nil => exact .inl rfl
      | cons x l => exact .inr ⟨b, off, rfl, hl, hh, fun k x hx => (World.cell?_of_block (a := ⟨b, _, none⟩) (h b (by simp [Value.ownBlock]))).trans (ho k x hx)⟩
theorem ROk.octs {W : World} {v : Value} {l : List UInt8} (h : ROk (.oct v l) W) : BSl 0 W.heap.size W v l := by
  obtain ⟨hi, a, cap, e, hc, h0 | ⟨b, off, ha, hl, hh, ho⟩⟩ := h.h
  · exact ⟨a, cap, e, hc, .inl h0⟩
  · subst e ha
    cases l with
    | nil => exact ⟨_, cap, rfl, hc, .inl rfl⟩
    | cons x l => exact ⟨_, cap, rfl, hc, .inr ⟨b, off, rfl, hl, h.lt b (by simp [Res.oct, Value.ownBlock]), ho⟩⟩
theorem BSl.wide {W : World} {lo hi lo' : Nat} {v : Value} {l : List UInt8} (h : BSl lo hi W v l) (h1 : lo' ≤ lo) : BSl lo' hi W v l := h.mono h1 (Nat.le_refl _)
theorem oct_foot {W : World} {lo hi : Nat} {v : Value} {l : List UInt8} (h : BSl lo hi W v l) : ∀ k ∈ (Res.oct v l).foot, lo ≤ k ∧ k < hi := by
  obtain ⟨a, cap, e, hc, h0 | ⟨b, off, ha, hl, hh, ho⟩⟩ := h
  · subst h0
    exact fun k hk => (List.not_mem_nil hk).elim
  · subst e ha
    intro k hk
    cases l with
    | nil => exact (List.not_mem_nil hk).elim
    | cons x l =>
      obtain rfl : k = b := by simpa [Res.oct, Value.ownBlock] using hk
      exact ⟨hl, hh⟩
theorem ROk.of_bsl {W : World} {lo hi : Nat} {v : Value} {l : List UInt8} (h : BSl lo hi W v l) (hh : hi ≤ W.heap.size) : ROk (.oct v l) W :=
  ⟨⟨hi, h.wide (Nat.zero_le _)⟩, fun k hk => Nat.lt_of_lt_of_le (oct_foot h k hk).2 hh⟩
theorem Sep.octN {w W W' : World} {F : List Nat} {l : List Res} (h : Sep w F l W) {v : Value} {x : List UInt8} (hs : BSl W.heap.size W'.heap.size W' v x) (hb : Below W.heap.size W W') : Sep w F (.oct v x :: l) W' :=
  h.add hb (.of_bsl hs (Nat.le_refl _)) (fun k hk => (oct_foot hs k hk).1)
def BF (F : List Nat) (W : World) (v : Value) (l : List UInt8) : Prop := ∃ lo hi, BSl lo hi W v l ∧ hi ≤ W.heap.size ∧ ∀ k ∈ F, k < lo ∨ hi ≤ k
theorem BF.bsl {F : List Nat} {W : World} {v : Value} {l : List UInt8} (h : BF F W v l) : BSl 0 W.heap.size W v l := by
  obtain ⟨lo, hi, h1, h2, _⟩ := h
  exact h1.mono (Nat.zero_le _) h2
theorem BF.out {F : List Nat} {w W : World} {v : Value} {l : List UInt8} (h : BF F w v l) (ho : Out F w W) : BF F W v l := by
  obtain ⟨lo, hi, ⟨a, cap, e, hc, h0⟩, h2, h3⟩ := h
  refine ⟨lo, hi, ⟨a, cap, e, hc, h0.imp id fun ⟨b, off, ha, hl, hh, hx⟩ => ⟨b, off, ha, hl, hh, fun k x hk => ?_⟩⟩, Nat.le_trans h2 ho.size, h3⟩
  refine (World.cell?_of_block (a := ⟨b, _, none⟩) (ho.block b (by omega) fun hF => ?_)).trans (hx k x hk)
  have := h3 b hF
  omega
theorem BF.new {W W' : World} {r : Res} {v : Value} {l : List UInt8} (h : ROk r W) (hs : BSl W.heap.size W'.heap.size W' v l) : BF r.foot W' v l := ⟨_, _, hs, Nat.le_refl _, fun k hk => .inl (h.lt k hk)⟩
theorem BF.arg {w W : World} {r : Res} {L : List Res} {lo hi : Nat} {v : Value} {l : List UInt8} (h : Sep w [] L W) (hr : r ∈ L) (hs : BSl lo hi w v l) (hh : hi ≤ w.heap.size) : BF r.foot W v l :=
  ⟨lo, hi, hs.below h.b hh, Nat.le_trans hh h.size, fun k hk => .inr (Nat.le_trans hh ((h.new r hr k hk).elim (fun e => (List.not_mem_nil e).elim) id))⟩
theorem BSl.slice {W : World} {lo hi : Nat} {v : Value} {l : List UInt8} (h : BSl lo hi W v l) : ∃ a c, v = .slice a l.length c ∧ l.length ≤ c := by
  obtain ⟨a, cap, e, hc, _⟩ := h
  exact ⟨a, cap, e, hc⟩
theorem addr_add' (b o j : Nat) : (⟨b, o, none⟩ : Addr).add j = ⟨b, o + j, none⟩ := by cases j <;> simp [Addr.add]
theorem infoOct1 : (Tryz.prog.info? 5).map (fun i => (i.zero, i.size, i.bytes)) = some (some (.int .u8 0), 1, 1) := by kernel_rfl
section
variable {ops : Array Oper} {Q : Exit → Act → World → Prop}
end
-- HERE
end Go.Proofs.YtemknjnljciioaaGreat
namespace Go.Proofs.YtemknjnljciioaaGreat
open Go.RowKit Go.Shelf
structure Zs where
  a : Option Addr
  c : Nat
  l : List UInt8
abbrev Zs.v (z : Zs) : Value := .slice z.a z.l.length z.c
def zsc (z : Zs) : List Value := [.slice z.a z.l.length z.c]
def Holds (n : Nat) (W : World) (zs : List Zs) : Prop := ∀ z ∈ zs, BSl 0 n W z.v z.l
theorem Holds.below {n m : Nat} {W W' : World} {zs : List Zs} (h : Holds n W zs) (hb : Below m W W') (hn : n ≤ m) : Holds n W' zs := fun z hz => (h z hz).below hb hn
theorem Holds.mono {n m : Nat} {W : World} {zs : List Zs} (h : Holds n W zs) (hn : n ≤ m) : Holds m W zs := fun z hz => (h z hz).mono (Nat.le_refl _) hn
theorem Holds.up {W W' : World} {zs : List Zs} (h : Holds W.heap.size W zs) (hb : Below W.heap.size W W') : Holds W'.heap.size W' zs := (h.below hb (Nat.le_refl _)).mono hb.size
theorem Holds.take {n : Nat} {W : World} {a : List Zs} (h : Holds n W a) (k : Nat) : Holds n W (a.take k) := fun z hz => h z (List.mem_of_mem_take hz)
theorem Holds.get {n k : Nat} {W : World} {zs : List Zs} {z : Zs} (h : Holds n W zs) (hz : zs[k]? = some z) : BSl 0 n W z.v z.l := h z (List.mem_of_getElem? hz)
theorem Holds.one {n : Nat} {W : World} {z : Zs} (h : BSl 0 n W z.v z.l) : Holds n W [z] := fun y hy => by obtain rfl := List.mem_singleton.1 hy; exact h
theorem Holds.nil (n : Nat) (W : World) : Holds n W [] := fun _ h => (List.not_mem_nil h).elim
def HF (F : List Nat) (W : World) (zs : List Zs) : Prop := ∀ z ∈ zs, BF F W z.v z.l
theorem HF.out {F : List Nat} {w W : World} {zs : List Zs} (h : HF F w zs) (ho : Out F w W) : HF F W zs := fun z hz => (h z hz).out ho
theorem HF.arg {w W : World} {r : Res} {L : List Res} {zs : List Zs} {n : Nat} (h : Sep w [] L W) (hr : r ∈ L) (hs : Holds n w zs) (hn : n ≤ w.heap.size) : HF r.foot W zs := fun z hz => BF.arg h hr (hs z hz) hn
theorem HF.nil (F : List Nat) (W : World) : HF F W [] := fun _ h => (List.not_mem_nil h).elim
theorem HF.get {F : List Nat} {k : Nat} {W : World} {zs : List Zs} {z : Zs} (h : HF F W zs) (hz : zs[k]? = some z) : BF F W z.v z.l := h z (List.mem_of_getElem? hz)
theorem HF.one {F : List Nat} {W : World} {z : Zs} (h : BF F W z.v z.l) : HF F W [z] := fun y hy => by obtain rfl := List.mem_singleton.1 hy; exact h
def RF (F : List Nat) (W : World) (v : Value) (zs : List Zs) : Prop := ∃ lo hi, RSl zsc lo hi W v zs ∧ hi ≤ W.heap.size ∧ ∀ k ∈ F, k < lo ∨ hi ≤ k
theorem RF.rsl {F : List Nat} {W : World} {v : Value} {zs : List Zs} (h : RF F W v zs) : RSl zsc 0 W.heap.size W v zs := by
  obtain ⟨lo, hi, h1, h2, _⟩ := h
  exact h1.mono (Nat.zero_le _) h2
theorem RF.out {F : List Nat} {w W : World} {v : Value} {zs : List Zs} (h : RF F w v zs) (ho : Out F w W) : RF F W v zs := by
  obtain ⟨lo, hi, ⟨a, cap, e, hc, hm, h0⟩, h2, h3⟩ := h
  refine ⟨lo, hi, ⟨a, cap, e, hc, hm, h0.imp id fun ⟨b, off, ha, hl, hh, hx⟩ => ⟨b, off, ha, hl, hh, fun k x hk => ?_⟩⟩, Nat.le_trans h2 ho.size, h3⟩
  refine (World.cell?_of_block (a := ⟨b, _, none⟩) (ho.block b (by omega) fun hF => ?_)).trans (hx k x hk)
  have := h3 b hF
  omega
theorem RF.arg {w W : World} {r : Res} {L : List Res} {lo hi : Nat} {v : Value} {zs : List Zs} (h : Sep w [] L W) (hr : r ∈ L) (hs : RSl zsc lo hi w v zs) (hh : hi ≤ w.heap.size) : RF r.foot W v zs :=
  ⟨lo, hi, hs.below h.b hh, Nat.le_trans hh h.size, fun k hk => .inr (Nat.le_trans hh ((h.new r hr k hk).elim (fun e => (List.not_mem_nil e).elim) id))⟩
theorem RF.blk {F : List Nat} {W : World} {N : Nat} {T : TypeId} {z : Zs} (h : Blk W N T (zsc z)) (hF : ∀ k ∈ F, k ≠ N) : RF F W (.slice (some ⟨N, 0, none⟩) 1 1) [z] := by
  refine ⟨N, N + 1, ⟨_, 1, rfl, Nat.le_refl _, by decide, .inr ⟨N, 0, rfl, Nat.le_refl _, Nat.lt_succ_self _, fun j u hj => ?_⟩⟩, h.lt, fun k hk => by have := hF k hk; omega⟩
  rw [flat_one] at hj
  rw [Nat.zero_add]
  exact (h.cell j).trans hj
def Res.octs (zs : List Zs) : Res where
  foot := zs.flatMap fun z => (Res.oct z.v z.l).foot
  holds := fun W => ∀ z ∈ zs, (Res.oct z.v z.l).holds W
  stab := fun h hl z hz => (Res.oct z.v z.l).stab (fun k hk => h k (List.mem_flatMap.2 ⟨z, hz, hk⟩)) (hl z hz)
theorem Sep.octs0 {w W : World} {F : List Nat} {l : List Res} (h : Sep w F l W) : Sep w F (.octs [] :: l) W :=
  h.add (Below.refl _ W) ⟨fun _ hz => (List.not_mem_nil hz).elim, fun _ hk => (List.not_mem_nil hk).elim⟩ (fun _ hk => (List.not_mem_nil hk).elim)
theorem Sep.octs1 {w W : World} {F : List Nat} {l : List Res} {zs : List Zs} {v : Value} {x : List UInt8} (z : Zs) (hv : v = z.v) (hx : x = z.l) (h : Sep w F (.oct v x :: .octs zs :: l) W) : Sep w F (.octs (zs ++ [z]) :: l) W := by
  subst hv hx
  have h1 : Sep w F (.join [.oct z.v z.l, .octs zs] :: l) W := h.close (ps := [.oct z.v z.l, .octs zs])
  refine h1.conv (fun hh y hy => ?_) (fun k hk => ?_)
  · rcases List.mem_append.1 hy with hy | hy
    · exact hh.1 (.octs zs) (by simp) y hy
    · obtain rfl := List.mem_singleton.1 hy
      exact hh.1 _ (List.mem_cons_self ..)
  · obtain ⟨y, hy, hq⟩ := List.mem_flatMap.1 hk
    clear hk
    rcases List.mem_append.1 hy with hy | hy
    · exact join_mem (r := .octs zs) (by simp) (List.mem_flatMap.2 ⟨y, hy, hq⟩)
    · obtain rfl := List.mem_singleton.1 hy
      exact join_mem (List.mem_cons_self ..) hq
-- ---- slices of octets
theorem elemB : Tryz.prog.elem 22 = 5 := by kernel_rfl
theorem undB : Tryz.prog.underlying 22 = some (.slice (Tryz.prog.elem 22)) := by rw [elemB]; exact Tryz.underlying22
theorem sizeB (W : World) : (sizeOf (Tryz.prog.elem 22)).run Tryz.prog W = .ok 1 W := by rw [elemB]; kernel_rfl
theorem sliced_bsl {W : World} {lo hi : Nat} {a : Option Addr} {c : Nat} {l : List UInt8} (h : BSl lo hi W (.slice a l.length c) l) {i j : Nat} (hij : i ≤ j) (hj : j ≤ l.length) :
    ∃ a' c', sliced a i j c 1 = .slice a' ((l.drop i).take (j - i)).length c' ∧ (∀ lo hi W, BSl lo hi W (.slice a l.length c) l → BSl lo hi W (.slice a' ((l.drop i).take (j - i)).length c') ((l.drop i).take (j - i))) ∧
      ∀ k ∈ (Res.oct (.slice a' ((l.drop i).take (j - i)).length c') ((l.drop i).take (j - i))).foot, k ∈ (Res.oct (.slice a l.length c) l).foot := by
  obtain ⟨_, _, e', hc0, _⟩ := h
  cases e'
  have hl : ((l.drop i).take (j - i)).length = j - i := by rw [List.length_take, List.length_drop]; omega
  refine ⟨if c = i then a else a.map (·.add (i * 1)), c - i, by unfold sliced; rw [hl], fun lo hi W h => ?bs, fun k hk => ?ft⟩
  case ft =>
    unfold Res.oct at hk ⊢
    dsimp only at hk ⊢
    cases hq : (l.drop i).take (j - i) with
    | nil => rw [hq] at hk; exact (List.not_mem_nil hk).elim
    | cons x q =>
      cases l with
      | nil => rw [List.drop_nil, List.take_nil] at hq; cases hq
      | cons y l =>
        rw [hq] at hk
        simp only [List.isEmpty_cons, Bool.false_eq_true, if_false] at hk ⊢
        cases a with
        | none => split at hk <;> exact (List.not_mem_nil hk).elim
        | some ad =>
          have e : (Value.slice (if c = i then some ad else (some ad).map (·.add (i * 1))) (x :: q).length (c - i)).ownBlock = (Value.slice (some ad) (y :: l).length c).ownBlock := by
            split
            · rfl
            · cases ad; simp only [Option.map_some, Value.ownBlock, Addr.add]; try (split <;> rfl)
          rw [← e]
          exact hk
  case bs =>
    obtain ⟨_, _, e', hc, h0⟩ := h
    cases e'
    refine ⟨_, _, rfl, by rw [hl]; omega, ?_⟩
    by_cases hd : (l.drop i).take (j - i) = []
    · exact .inl hd
    · rcases h0 with h0 | ⟨b, off, ha, h1, h2, h3⟩
      · exact .inl (by rw [h0, List.drop_nil, List.take_nil])
      · subst ha
        have hne : c ≠ i := fun e => hd (by rw [List.drop_eq_nil_of_le (by omega), List.take_nil])
        refine .inr ⟨b, off + i * 1, by rw [if_neg hne]; simp [Addr.add], h1, h2, fun k x hk => ?_⟩
        have hlt := (List.getElem?_eq_some_iff.1 hk).1
        rw [List.getElem?_take_of_lt (by rw [hl] at hlt; exact hlt), List.getElem?_drop] at hk
        rw [Nat.mul_one, Nat.add_assoc]
        exact h3 _ x hk
theorem cutLH {W : World} {lo hi : Nat} {a : Option Addr} {c : Nat} {l : List UInt8} (h : BSl lo hi W (.slice a l.length c) l) {zi zj : Int} {i j : Nat} (hi' : zi = (i : Int)) (hj' : zj = (j : Int)) (hij : i ≤ j) (hj : j ≤ l.length) :
    ∃ a' c', (∀ W', (Instr.sliceAt 22 (.slice a l.length c) (some (.int .i64 zi)) (some (.int .i64 zj)) none).run Tryz.prog W' = .ok (.slice a' ((l.drop i).take (j - i)).length c') W') ∧ (∀ lo hi W, BSl lo hi W (.slice a l.length c) l → BSl lo hi W (.slice a' ((l.drop i).take (j - i)).length c') ((l.drop i).take (j - i))) ∧ (∀ k ∈ (Res.oct (.slice a' ((l.drop i).take (j - i)).length c') ((l.drop i).take (j - i))).foot, k ∈ (Res.oct (.slice a l.length c) l).foot) := by
  subst hi' hj'
  have hcap : l.length ≤ c := by obtain ⟨_, _, e, hc, _⟩ := h; cases e; exact hc
  obtain ⟨a', c', h1, h2, h3⟩ := sliced_bsl h hij hj
  refine ⟨a', c', fun W' => ?_, h2, h3⟩
  rw [run_sliceAt_slice W' 22 _ _ _ _ undB, run_slice_lh W' 22 a l.length c undB .i64 .i64 (i : Int) (j : Int) (by omega) (by omega) (by omega), sizeB, ← h1]
  rfl
theorem cutH {W : World} {lo hi : Nat} {a : Option Addr} {c : Nat} {l : List UInt8} (h : BSl lo hi W (.slice a l.length c) l) {zj : Int} {j : Nat} (hj' : zj = (j : Int)) (hj : j ≤ l.length) :
    ∃ a' c', (∀ W', (Instr.sliceAt 22 (.slice a l.length c) none (some (.int .i64 zj)) none).run Tryz.prog W' = .ok (.slice a' (l.take j).length c') W') ∧ (∀ lo hi W, BSl lo hi W (.slice a l.length c) l → BSl lo hi W (.slice a' (l.take j).length c') (l.take j)) ∧ (∀ k ∈ (Res.oct (.slice a' (l.take j).length c') (l.take j)).foot, k ∈ (Res.oct (.slice a l.length c) l).foot) := by
  subst hj'
  have hcap : l.length ≤ c := by obtain ⟨_, _, e, hc, _⟩ := h; cases e; exact hc
  obtain ⟨a', c', h1, h2, h3⟩ := sliced_bsl h (Nat.zero_le j) hj
  rw [List.drop_zero, Nat.sub_zero] at h1 h2 h3
  refine ⟨a', c', fun W' => ?_, h2, h3⟩
  rw [run_sliceAt_slice W' 22 _ _ _ _ undB, run_slice_h W' 22 a l.length c undB .i64 (j : Int) (by omega) (by omega), sizeB, ← h1]
  rfl
theorem cutL {W : World} {lo hi : Nat} {a : Option Addr} {c : Nat} {l : List UInt8} (h : BSl lo hi W (.slice a l.length c) l) {zi : Int} {i : Nat} (hi' : zi = (i : Int)) (hi1 : i ≤ l.length) :
    ∃ a' c', (∀ W', (Instr.sliceAt 22 (.slice a l.length c) (some (.int .i64 zi)) none none).run Tryz.prog W' = .ok (.slice a' (l.drop i).length c') W') ∧ (∀ lo hi W, BSl lo hi W (.slice a l.length c) l → BSl lo hi W (.slice a' (l.drop i).length c') (l.drop i)) ∧ (∀ k ∈ (Res.oct (.slice a' (l.drop i).length c') (l.drop i)).foot, k ∈ (Res.oct (.slice a l.length c) l).foot) := by
  subst hi'
  obtain ⟨a', c', h1, h2, h3⟩ := sliced_bsl h hi1 (Nat.le_refl _)
  rw [List.take_of_length_le (by rw [List.length_drop]; exact Nat.le_refl _)] at h1 h2 h3
  refine ⟨a', c', fun W' => ?_, h2, h3⟩
  rw [run_sliceAt_slice W' 22 _ _ _ _ undB, run_slice_l W' 22 a l.length c undB .i64 (i : Int) (by omega) (by omega), sizeB, ← h1]
  rfl
theorem Sep.begin1 {r : Res} {w : World} (h : ROk r w) : Sep w r.foot [r] w :=
  ⟨fun s hs => by obtain rfl := List.mem_singleton.1 hs; exact h, fun s hs k hk => by obtain rfl := List.mem_singleton.1 hs; exact .inl hk, List.pairwise_singleton .., Out.refl _ _⟩
theorem Sep.fin1 {r r' : Res} {w W : World} {l : List Res} (h : Sep w r.foot (r' :: l) W) : RTurn r r' w W :=
  ⟨h.ok _ (List.mem_cons_self ..), h.out, fun k hk => h.new _ (List.mem_cons_self ..) k hk⟩
theorem Sep.far {w W : World} {F : List Nat} {L : List Res} (h : Sep w F L W) {i j : Nat} {r s : Res} (hi : L[i]? = some r) (hj : L[j]? = some s) (hij : i ≠ j) : ∀ k ∈ r.foot, k ∉ s.foot := by
  obtain ⟨hil, rfl⟩ := List.getElem?_eq_some_iff.1 hi
  obtain ⟨hjl, rfl⟩ := List.getElem?_eq_some_iff.1 hj
  rcases Nat.lt_or_gt_of_ne hij with hl | hl
  · exact List.pairwise_iff_getElem.1 h.apart i j hil hjl hl
  · have := List.pairwise_iff_getElem.1 h.apart j i hjl hil hl
    exact fun k hk hks => this k hks hk
theorem RF.nil (F : List Nat) (W : World) : RF F W (.slice none 0 0) [] := ⟨0, 0, RSl.nil _ _ _, Nat.zero_le _, fun _ _ => .inr (Nat.zero_le _)⟩
theorem BF.nil (F : List Nat) (W : World) : BF F W (.slice none 0 0) [] := ⟨0, 0, BSl.nil _ _ _, Nat.zero_le _, fun _ _ => .inr (Nat.zero_le _)⟩
-- HERE
end Go.Proofs.YtemknjnljciioaaGreat
