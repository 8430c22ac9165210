/-
  A row of the call's own grows: by one element, by all of another row; An element of a row of the call's own; Words for parts of memory: what came back is one's own, parts in any order; builtins of two numbers, remainders, the first place that is looked for; A room as a plain thing: asks that are open, and what was bid for them; '==' of asks and of bids; The cells of a block that is known whole; A 
-/
import Derived.Maps.AppendAt
import Derived.OwnWalk
import Derived.IntWalk
import Derived.Lib.Hide
import Derived.ArgAppend
import Derived.Deep.Slices
import Derived.Outline
import Derived.Test.YtbhfajnejibaoaaK04
namespace Go.Proofs.Ytbhfajnejibaoaa
open Go.RowKit Go.Shelf
section
variable {α : Type} {f : α → List Value} {e S : TypeId} {n bytes : Nat} {z : Value} {v : Value} {l : List α} {W : World}
theorem own_apps (hi0 : (Try.prog.info? e).map (fun i => (i.zero, i.size, i.bytes)) = some (some z, n, bytes)) (hzs : z.cells.size = n) (h0 : 0 < n) (hu : Try.prog.underlying S = some (.slice e)) (hn : ∀ x, (f x).length = n) (h1 : ∀ x, ∀ u ∈ f x, u.oneCell' = true)
    (h : ROk (.own f e n v l) W) (ys : List α) (a : Addr) (c : Nat) (hnews : ∀ j u, (flatR f ys)[j]? = some u → W.cell? (a.add j) = some u) (hb0 : 0 < bytes) (hr : (l.length + ys.length) * bytes ≤ 140737488355328) (ty : TypeId) :
    ∃ v' W', (Builtin.append_ #[S, S] ty #[v, .slice (some a) ys.length c]).run Try.prog W = .ok v' W' ∧ RTurn (.own f e n v l) (.own f e n v' (l ++ ys)) W W' := by
  obtain ⟨i0, hi, hz0, hz1, hz2⟩ := info_parts hi0
  have hlen : l.length + ys.length ≤ 140737488355328 := Nat.le_trans (Nat.le_mul_of_pos_right _ hb0) hr
  obtain ⟨v', W', hrun, h2, h3, _, h4⟩ := run_append_own_at (P := Try.prog) W 0 S ty e i0 z n bytes hu hi hz0 hz1 hz2 hzs h0 v l.length (flatR f l) h.h a ys.length c (flatR f ys) (flat_len hn ys) hnews
    (fun u hu' => by obtain ⟨x, _, hx⟩ := List.mem_flatMap.1 hu'; exact h1 x u hx) (by unfold maxLen; omega) hr (Nat.zero_le _)
  refine ⟨v', W', hrun, turn_own (by rw [List.length_append, flat_app]; exact h2) h3 (fun k hk => ?_)⟩
  rcases h4 with h4 | h4
  · exact .inl (h4 ▸ hk)
  · rw [h4] at hk
    exact .inr (Nat.le_of_eq (Option.some.inj hk))
theorem own_app1 (hi0 : (Try.prog.info? e).map (fun i => (i.zero, i.size, i.bytes)) = some (some z, n, bytes)) (hzs : z.cells.size = n) (h0 : 0 < n) (hu : Try.prog.underlying S = some (.slice e)) (hn : ∀ x, (f x).length = n) (h1 : ∀ x, ∀ u ∈ f x, u.oneCell' = true)
    (h : ROk (.own f e n v l) W) (x : α) {N : Nat} {T : TypeId} (hN : Blk W N T (f x)) (hb0 : 0 < bytes) (hr : (l.length + 1) * bytes ≤ 140737488355328) (ty : TypeId) :
    ∃ v' W', (Builtin.append_ #[S, S] ty #[v, .slice (some ⟨N, 0, none⟩) 1 1]).run Try.prog W = .ok v' W' ∧ RTurn (.own f e n v l) (.own f e n v' (l ++ [x])) W W' :=
  own_apps hi0 hzs h0 hu hn h1 h [x] ⟨N, 0, none⟩ 1 (fun j u hj => by rw [flat_one] at hj; rw [addr_add, Nat.zero_add]; exact (hN.cell j).trans hj) hb0 hr ty
end
end Go.Proofs.Ytbhfajnejibaoaa
namespace Go.Proofs.Ytbhfajnejibaoaa
open Go.RowKit Go.Shelf
theorem ROk.elem {α : Type} {f : α → List Value} {n : Nat} {W : World} {v : Value} {l : List α} {e : TypeId} (h : ROk (.own f e n v l) W) (hn : ∀ x, (f x).length = n) {k : Nat} {x : α} (hx : l[k]? = some x) {ty e' : TypeId} (hu : Try.prog.underlying ty = some (.slice e')) (hs : ∀ W, (sizeOf e').run Try.prog W = .ok n W) :
    ∃ b o, (∀ W', (Instr.indexAt ty v (.int .i64 (k : Int))).run Try.prog W' = .ok (.pointer (some ⟨b, o, none⟩)) W') ∧ ∀ W', ROk (.own f e n v l) W' → ∀ j u, (f x)[j]? = some u → W'.cell? ⟨b, o + j, none⟩ = some u := by
  obtain ⟨b, o, _, _, hi, _⟩ := RSl.elem (h.rsl hn) hn hx hu hs
  refine ⟨b, o, hi, fun W' h' => ?_⟩
  obtain ⟨b', o', _, _, hi', hc'⟩ := RSl.elem (h'.rsl hn) hn hx hu hs
  have hq := (hi' W).symm.trans (hi W)
  obtain ⟨rfl, rfl⟩ : b' = b ∧ o' = o := by simpa using hq
  exact hc' W' (h'.rsl hn)
theorem ROk.slice {α : Type} {f : α → List Value} {n : Nat} {W : World} {v : Value} {l : List α} {e : TypeId} (h : ROk (.own f e n v l) W) (hn : ∀ x, (f x).length = n) : ∃ a c, v = .slice a l.length c := (h.rsl hn).slice
end Go.Proofs.Ytbhfajnejibaoaa
namespace Go.Proofs.Ytbhfajnejibaoaa
open Go.RowKit Go.Shelf
theorem Sep.gain {w W W' : World} {F : List Nat} {l : List Res} {r : Res} (h : Sep w F l W) (h' : Sep W [] [r] W') : Sep w F (r :: l) W' :=
  h.add h'.b (h'.ok r (List.mem_singleton.2 rfl)) (fun k hk => (h'.new r (List.mem_singleton.2 rfl) k hk).elim (fun e => (List.not_mem_nil e).elim) id)
def idxG {α : Type} (p : α → Bool) (l : List α) : Int := match l.findIdx? p with | none => -1 | some i => i
theorem idxG_at {α : Type} {p : α → Bool} {l : List α} {j : Nat} {x : α} (hx : l[j]? = some x) (hp : p x = true) (hno : (l.take j).any p = false) : idxG p l = j := by
  obtain ⟨hj, rfl⟩ := List.getElem?_eq_some_iff.1 hx
  have : l.findIdx? p = some j := List.findIdx?_eq_some_iff_getElem.2 ⟨hj, hp, fun n hn => by
    have h := List.any_eq_false.1 hno l[n] (List.mem_take_iff_getElem.2 ⟨n, by omega, rfl⟩)
    exact h⟩
  unfold idxG
  rw [this]
theorem idxG_not {α : Type} {p : α → Bool} {l : List α} (hno : (l.take l.length).any p = false) : idxG p l = -1 := by
  rw [List.take_length] at hno
  have : l.findIdx? p = none := List.findIdx?_eq_none_iff.2 fun x hx => by
    have h := List.any_eq_false.1 hno x hx
    simpa using h
  unfold idxG
  rw [this]
theorem take_oneG {α : Type} {l : List α} {k : Nat} {x : α} (hx : l[k]? = some x) : l.take (k + 1) = l.take k ++ [x] := by
  obtain ⟨hk, rfl⟩ := List.getElem?_eq_some_iff.1 hx
  exact List.take_succ_eq_append_getElem hk
theorem take_anyG {α : Type} {l : List α} {k : Nat} {x : α} {p : α → Bool} (hx : l[k]? = some x) : (l.take (k + 1)).any p = ((l.take k).any p || p x) := by
  rw [take_oneG hx, List.any_append]
  simp
section
variable {w W : World} {F : List Nat} {l : List Res}
theorem apart_symm {r s : Res} (h : Apart r s) : Apart s r := fun k hk e => h k e hk
theorem Sep.pick (h : Sep w F l W) (is : List Nat) {l' : List Res} (hn : is.Nodup) (hl : is.map (fun i => l[i]?) = l'.map some) : Sep w F l' W := by
  have hlen : is.length = l'.length := by have := congrArg List.length hl; rwa [List.length_map, List.length_map] at this
  have get : ∀ j (hj : j < l'.length), l[is[j]'(by omega)]? = some l'[j] := fun j hj => by
    have := congrArg (fun x => x[j]?) hl
    simp only [List.getElem?_map, List.getElem?_eq_getElem hj, List.getElem?_eq_getElem (show j < is.length by omega), Option.map_some, Option.some.injEq] at this
    exact this
  have mem : ∀ r ∈ l', r ∈ l := fun r hr => by
    obtain ⟨j, hj, rfl⟩ := List.mem_iff_getElem.1 hr
    exact List.mem_of_getElem? (get j hj)
  refine ⟨fun r hr => h.ok r (mem r hr), fun r hr => h.new r (mem r hr), List.pairwise_iff_getElem.2 fun i j hi hj hij => ?_, h.out⟩
  obtain ⟨hi1, hi2⟩ := List.getElem?_eq_some_iff.1 (get i hi)
  obtain ⟨hj1, hj2⟩ := List.getElem?_eq_some_iff.1 (get j hj)
  have hne : is[i]'(by omega) ≠ is[j]'(by omega) := fun e => by
    have := (List.nodup_iff_pairwise_ne.1 hn)
    exact List.pairwise_iff_getElem.1 this i j (by omega) (by omega) hij e
  rw [← hi2, ← hj2]
  rcases Nat.lt_or_gt_of_ne hne with k | k
  · exact List.pairwise_iff_getElem.1 h.apart _ _ hi1 hj1 k
  · exact apart_symm (List.pairwise_iff_getElem.1 h.apart _ _ hj1 hi1 k)
end
-- HERE
end Go.Proofs.Ytbhfajnejibaoaa
namespace Go.Proofs.Ytbhfajnejibaoaa
open Go.RowKit Go.Shelf
deriving instance DecidableEq for Ak
deriving instance DecidableEq for Bd
structure Lt where
  k : Ak
  si : Int
abbrev ltv (x : Lt) : Value := .agg #[.int .i64 x.k.us, .int .i64 x.k.se, .int .i64 x.k.re, .int .i64 x.k.to, .int .u64 (x.k.a0 : Nat), .int .u64 (x.k.a1 : Nat), .int .u64 (x.k.a2 : Nat), .int .u64 (x.k.a3 : Nat), .string x.k.id, .int .i64 x.si]
abbrev ltc (x : Lt) : List Value := [.int .i64 x.k.us, .int .i64 x.k.se, .int .i64 x.k.re, .int .i64 x.k.to, .int .u64 (x.k.a0 : Nat), .int .u64 (x.k.a1 : Nat), .int .u64 (x.k.a2 : Nat), .int .u64 (x.k.a3 : Nat), .string x.k.id, .int .i64 x.si]
def noL : Lt := ⟨noA, 0⟩
theorem akc_len (x : Ak) : (akc x).length = 9 := rfl
theorem bdc_len (x : Bd) : (bdc x).length = 16 := rfl
theorem ltc_len (x : Lt) : (ltc x).length = 10 := rfl
theorem akc_one (x : Ak) : ∀ u ∈ akc x, u.oneCell' = true := by simp [akc, Value.oneCell']
theorem ltc_one (x : Lt) : ∀ u ∈ ltc x, u.oneCell' = true := by simp [ltc, Value.oneCell']
theorem infoAk : (Try.prog.info? 26).map (fun i => (i.zero, i.size, i.bytes)) = some (some (.agg (akc noA).toArray), 9, 80) := by kernel_rfl
theorem infoLt : (Try.prog.info? 46).map (fun i => (i.zero, i.size, i.bytes)) = some (some (.agg (ltc noL).toArray), 10, 88) := by kernel_rfl
def eqAk (a b : Ak) : Bool := (a.us == b.us) && ((a.se == b.se) && ((a.re == b.re) && ((a.to == b.to) && (wEq (a.a0 : Nat) (a.a1 : Nat) (a.a2 : Nat) (a.a3 : Nat) (b.a0 : Nat) (b.a1 : Nat) (b.a2 : Nat) (b.a3 : Nat) && ((a.id.toList == b.id.toList) && true)))))
theorem eqAk_dec (a b : Ak) : eqAk a b = decide (a = b) := by
  unfold eqAk wEq
  rw [beqB, Bool.and_true]
  simp only [beqI, ← Bool.decide_and]
  refine decide_eq_decide.2 ?_
  obtain ⟨u, s, r, t, c0, c1, c2, c3, i⟩ := a
  obtain ⟨u', s', r', t', d0, d1, d2, d3, i'⟩ := b
  simp only [Ak.mk.injEq, Int.natCast_inj]
  exact ⟨fun ⟨h1, h2, h3, h4, ⟨g0, g1, g2, g3⟩, h5⟩ => ⟨h1, h2, h3, h4, g0, g1, g2, g3, h5⟩, fun ⟨h1, h2, h3, h4, g0, g1, g2, g3, h5⟩ => ⟨h1, h2, h3, h4, ⟨g0, g1, g2, g3⟩, h5⟩⟩
theorem run_eqAk' (d : Nat) (a b : Ak) (w : World) : (Op.equalIn (d + 3) 26 (akv a) (akv b)).run Try.prog w = .ok (eqAk a b) w := by
  rw [run_equalIn_struct w (d + 2) 26 _ _ (by kernel_rfl) (by kernel_rfl)]
  simp only [Program.fieldsOf, Try.underlying26]
  have hi : ∀ x y : Int, (Op.equalIn (d + 2) 3 (.int .i64 x) (.int .i64 y)).run Try.prog w = .ok (x == y) w := fun x y => run_equalIn_int w (d + 1) 3 .i64 .i64 x y Try.underlying3
  have hs : ∀ x y : ByteArray, (Op.equalIn (d + 2) 9 (.string x) (.string y)).run Try.prog w = .ok (x.toList == y.toList) w := fun x y => run_equalIn_string w (d + 1) 9 x y Try.underlying9
  refine eqF_cons (by decide) (part_int _ _ _ rfl w) (part_int _ _ _ rfl w) (hi _ _) ?_
  refine eqF_cons (by decide) (part_int _ _ _ rfl w) (part_int _ _ _ rfl w) (hi _ _) ?_
  refine eqF_cons (by decide) (part_int _ _ _ rfl w) (part_int _ _ _ rfl w) (hi _ _) ?_
  refine eqF_cons (by decide) (part_int _ _ _ rfl w) (part_int _ _ _ rfl w) (hi _ _) ?_
  refine eqF_cons (by decide) (part_agg 24 _ Try.underlying24 rfl 4 (by kernel_rfl) _ _ _ rfl w) (part_agg 24 _ Try.underlying24 rfl 4 (by kernel_rfl) _ _ _ rfl w) (run_equalIn_wide' d _ _ _ _ _ _ _ _ w) ?_
  refine eqF_cons (by decide) (part_str _ _ _ rfl w) (part_str _ _ _ rfl w) (hs _ _) ?_
  exact eqF_nil
theorem run_eqAk (a b : Ak) (w : World) : (Op.equalIn 10000 26 (akv a) (akv b)).run Try.prog w = .ok (decide (a = b)) w := by
  rw [← eqAk_dec]
  exact run_eqAk' 9997 a b w
theorem lv_bd {W : World} {B : Nat} {T : TypeId} {x : Bd} (h : Blk W B T (bdc x)) : (loadVar 28 ⟨B, 0, none⟩).run Try.prog W = .ok (bdv x) W := run_loadVar_row W B T _ (bdc x).toArray (0, 0) _ h Try.underlying28 rfl (by kernel_rfl)
theorem lv_lt {W : World} {B : Nat} {T : TypeId} {x : Lt} (h : Blk W B T (ltc x)) : (loadVar 46 ⟨B, 0, none⟩).run Try.prog W = .ok (ltv x) W := run_loadVar_row W B T _ (ltc x).toArray (0, 0) _ h Try.underlying46 rfl (by kernel_rfl)
structure Rm where
  r0 : ByteArray
  r1 : ByteArray
  ls : List Lt
  bs : List Bd
abbrev rmc (m : Bool) (r0 r1 : ByteArray) (va vb : Value) : List Value := [.bool m, .string r0, .string r1, va, vb]
def RMR (B : Nat) (R : Rm) (va vb : Value) : List Res := [.blk B 34 (rmc true R.r0 R.r1 va vb), .own ltc 46 10 va R.ls, .own bdc 28 16 vb R.bs]
structure RmV (W : World) (B : Nat) (R : Rm) (va vb : Value) : Prop where
  b : Blk W B 34 (rmc true R.r0 R.r1 va vb)
  l : RSl ltc 0 W.heap.size W va R.ls
  o : RSl bdc 0 W.heap.size W vb R.bs
section
variable {W W' : World} {B : Nat} {R : Rm} {va vb : Value}
theorem RmV.below (h : RmV W B R va vb) (hb : Below W.heap.size W W') : RmV W' B R va vb := ⟨h.b.below hb h.b.lt, h.l.up hb, h.o.up hb⟩
theorem RmV.of (h : ROk (.join (RMR B R va vb)) W) : RmV W B R va vb := by
  have hs := Sep.begin h
  exact ⟨hs.at 0 rfl, (hs.oka 1 rfl).rsl ltc_len, (hs.oka 2 rfl).rsl bdc_len⟩
end
def RmR (B : Nat) (r : Res) (R : Rm) (a : Value) (W : World) (e : Ending) (W' : World) : Prop := e = .returned a ∧ ∃ va vb, RTurn r (.join (RMR B R va vb)) W W'
def NoR (W : World) (p : Value) : Prop := p = .pointer none ∨ ∃ B, p = .pointer (some ⟨B, 0, none⟩) ∧ Blk W B 34 (rmc false ⟨#[]⟩ ⟨#[]⟩ (.slice none 0 0) (.slice none 0 0))
theorem NoR.below {W W' : World} {p : Value} (h : NoR W p) (hb : Below W.heap.size W W') : NoR W' p := by
  rcases h with h | ⟨B, h1, h2⟩
  · exact .inl h
  · exact .inr ⟨B, h1, h2.below hb h2.lt⟩
def RowB (l : List Bd) (w : World) (e : Ending) (W' : World) : Prop := ∃ v, e = .returned v ∧ Sep w [] [.own bdc 28 16 v l] W'
def RowK (l : List Ak) (w : World) (e : Ending) (W' : World) : Prop := ∃ v, e = .returned v ∧ Sep w [] [.own akc 26 9 v l] W'
theorem RowB.b {l : List Bd} {w W' : World} {e : Ending} (h : RowB l w e W') : Below w.heap.size w W' := by obtain ⟨_, _, h⟩ := h; exact h.b
-- what its methods do
def isA (a : Ak) (x : Lt) : Bool := decide (x.k = a)
def openL (ls : List Lt) (a : Ak) : Option Lt := ls.find? (isA a)
def sinceI (now : Int) : Int := if now < 0 ∨ 1099511627776 < now then 0 else now
def openR (R : Rm) (a : Ak) (now : Int) : Rm × Int :=
  if errA a ≠ 0 then (R, errA a) else if (openL R.ls a).isSome then (R, 32) else if 8 ≤ R.ls.length then (R, 10) else ({ R with ls := R.ls ++ [⟨a, sinceI now⟩] }, 0)
theorem find_idx {α : Type} (p : α → Bool) (l : List α) : l.find? p = if idxG p l < 0 then none else l[(idxG p l).toNat]? := by
  unfold idxG
  cases h : l.findIdx? p with
  | none =>
    rw [if_pos (by decide)]
    exact List.find?_eq_none.2 fun x hx => by rw [List.findIdx?_eq_none_iff.1 h x hx]; decide
  | some j =>
    obtain ⟨hj, hp, hno⟩ := List.findIdx?_eq_some_iff_getElem.1 h
    rw [if_neg (by show ¬ ((j : Int) < 0); omega)]
    show _ = l[(j : Int).toNat]?
    rw [Int.toNat_natCast, List.getElem?_eq_getElem hj]
    exact List.find?_eq_some_iff_getElem.2 ⟨hp, j, hj, rfl, fun i hi => by
      have h1 := hno i hi
      simpa using h1⟩
theorem idxG_lt' {α : Type} {p : α → Bool} {l : List α} {j : Nat} (h : idxG p l = (j : Int)) : ∃ x, l[j]? = some x := by
  unfold idxG at h
  cases hf : l.findIdx? p with
  | none => rw [hf] at h; exact absurd h (by show ¬ ((-1 : Int) = _); omega)
  | some i =>
    rw [hf] at h
    obtain rfl : i = j := by have h : (i : Int) = (j : Int) := h; omega
    obtain ⟨hi, _⟩ := List.findIdx?_eq_some_iff_getElem.1 hf
    exact ⟨_, List.getElem?_eq_getElem hi⟩
theorem open_idx (ls : List Lt) (a : Ak) : openL ls a = if idxG (isA a) ls < 0 then none else ls[(idxG (isA a) ls).toNat]? := find_idx _ _
def askL (x : Lt) : Ak := x.k
theorem map_len (l : List Lt) (k : Nat) : ((l.take k).map askL).length ≤ k := by rw [List.length_map]; exact List.length_take_le _ _
end Go.Proofs.Ytbhfajnejibaoaa
namespace Go.Proofs.Ytbhfajnejibaoaa
open Go.RowKit Go.Shelf
theorem Blk.c6 {W : World} {B : Nat} {t : TypeId} {v0 v1 v2 v3 v4 v5 : Value} (h : Blk W B t [v0, v1, v2, v3, v4, v5]) :
    W.cell? ⟨B, 0, none⟩ = some v0 ∧ W.cell? ⟨B, 1, none⟩ = some v1 ∧ W.cell? ⟨B, 2, none⟩ = some v2 ∧ W.cell? ⟨B, 3, none⟩ = some v3 ∧ W.cell? ⟨B, 4, none⟩ = some v4 ∧ W.cell? ⟨B, 5, none⟩ = some v5 :=
  ⟨h.cell 0, h.cell 1, h.cell 2, h.cell 3, h.cell 4, h.cell 5⟩
theorem Blk.c9 {W : World} {B : Nat} {t : TypeId} {v0 v1 v2 v3 v4 v5 v6 v7 v8 : Value} (h : Blk W B t [v0, v1, v2, v3, v4, v5, v6, v7, v8]) :
    W.cell? ⟨B, 0, none⟩ = some v0 ∧ W.cell? ⟨B, 1, none⟩ = some v1 ∧ W.cell? ⟨B, 2, none⟩ = some v2 ∧ W.cell? ⟨B, 3, none⟩ = some v3 ∧ W.cell? ⟨B, 4, none⟩ = some v4 ∧ W.cell? ⟨B, 5, none⟩ = some v5 ∧ W.cell? ⟨B, 6, none⟩ = some v6 ∧ W.cell? ⟨B, 7, none⟩ = some v7 ∧ W.cell? ⟨B, 8, none⟩ = some v8 :=
  ⟨h.cell 0, h.cell 1, h.cell 2, h.cell 3, h.cell 4, h.cell 5, h.cell 6, h.cell 7, h.cell 8⟩
end Go.Proofs.Ytbhfajnejibaoaa
namespace Go.Proofs.Ytbhfajnejibaoaa
open Go.RowKit Go.Shelf
attribute [local irreducible] wpFrom wpAnyH StepH
set_option maxRecDepth 100000 in
set_option maxHeartbeats 4000000 in
theorem rmThere_yes {B : Nat} {r0 r1 : ByteArray} {va vb : Value} (w : World) (hB : Blk w B 34 (rmc true r0 r1 va vb)) : Calls Try.prog 15 #[.pointer (some ⟨B, 0, none⟩)] w fun e W' => e = .returned (.bool true) ∧ Below w.heap.size w W' := by
  have hmx : Try.prog.follows .mixedOrders = true := by kernel_rfl
  have HB := Lib.hid hB
  clear hB
  have hM := Sep.start w
  go_enter Try.func15, Try.ntmps15
  go_upto_region 0 with fail
  refine wp_region_fromM (fun W => Sep w [] [] W) hM ?_
  clear hM
  rintro Y1 hM
  refine tF 1 [.val 0 (some 2) (.bool false)] trivial ?_
  refine dF ?_
  try simp only [puts, Tk.put, Act.put, List.setIfInBounds_toArray, List.set_cons_zero, List.set_cons_succ]
  go_upto_region 1 with fail
  refine wp_region_fromM (fun W => Sep w [] [] W) hM ?_
  clear hM
  rintro Y2 hM
  refine tF 9 [.val 0 (some 3) (pt B 0), .val 1 (some 4) (.bool true), .val 2 (some 5) (.bool true), .val 3 (some 6) (pt B 0), .val 4 (some 7) (pt B 0), .val 5 (some 8) (pt B 0), .load 6 (some 9) 4 (pt B 0) (.bool true), .val 7 (some 10) (.bool true), .val 8 (some 2) (.bool true)] ⟨ld_any _ _ Try.underlying4 rfl (HB.out.below hM.b HB.out.lt) 0 rfl, trivial⟩ ?_
  refine dF ?_
  try simp only [puts, Tk.put, Act.put, List.setIfInBounds_toArray, List.set_cons_zero, List.set_cons_succ]
  go_wp2_with fail
  go_ret
  exact ⟨rfl, hM.b⟩
theorem rmThere_no {p : Value} (w : World) (h : NoR w p) : Calls Try.prog 15 #[p] w fun e W' => e = .returned (.bool false) ∧ W' = w := by
  rcases h with rfl | ⟨B, rfl, hB⟩
  · go_enter Try.func15, Try.ntmps15
    go_wp2
    go_ret
    exact ⟨rfl, rfl⟩
  · go_enter Try.func15, Try.ntmps15
    go_upto_region 1 with fail
    refine wp_region_from ?_
    refine tF 9 [.val 0 (some 3) (pt B 0), .val 1 (some 4) (.bool true), .val 2 (some 5) (.bool true), .val 3 (some 6) (pt B 0), .val 4 (some 7) (pt B 0), .val 5 (some 8) (pt B 0), .load 6 (some 9) 4 (pt B 0) (.bool false), .val 7 (some 10) (.bool false), .val 8 (some 2) (.bool false)] ⟨ld_any _ _ Try.underlying4 rfl hB 0 rfl, trivial⟩ ?_
    refine dF ?_
    try simp only [puts, Tk.put, Act.put, List.setIfInBounds_toArray, List.set_cons_zero, List.set_cons_succ]
    go_wp2_with fail
    go_ret
    exact ⟨rfl, rfl⟩
set_option maxRecDepth 100000 in
set_option maxHeartbeats 4000000 in
theorem opened1_any {K : Nat} (a : Ak) (x : Lt) (w : World) (hk : Blk w K 26 (akc a)) : Calls Try.prog 25 #[ltv x, .pointer (some ⟨K, 0, none⟩)] w fun e W' => e = .returned (.bool (isA a x)) ∧ Below w.heap.size w W' := by
  have hmx : Try.prog.follows .mixedOrders = true := by kernel_rfl
  have HK := Lib.hid hk
  clear hk
  have hM := Sep.start w
  go_enter Try.func25, Try.ntmps25
  go_upto_region 0 with fail
  refine wp_region_fromM (fun W => Sep w [] [] W) hM ?_
  clear hM
  rintro Y1 hM
  refine rF (some 2) (pt Y1.heap.size 0) (Y1.alloc (.cells (ltc x).toArray 46)) ?_
  replace hM := hM.alloc 46 (ltc x)
  generalize World.alloc _ _ = Y2 at *
  generalize hNe : Y1.heap.size = N2 at *
  clear hNe
  refine tF 2 [.val 1 (some 3) (.bool false)] trivial ?_
  refine dF ?_
  try simp only [puts, Tk.put, Act.put, List.setIfInBounds_toArray, List.set_cons_zero, List.set_cons_succ]
  go_upto_region 1 with fail
  refine wp_region_fromM (fun W => Sep w [] [.blk N2 46 (ltc x)] W) hM ?_
  clear hM
  rintro Y3 hM
  refine tF 3 [.val 0 (some 4) (pt N2 0), .load 1 (some 5) 26 (pt N2 0) (akv x.k), .load 2 (some 6) 26 (pt K 0) (akv a)] ⟨load_part (hM.at 0 rfl) 0 (akc x.k) rfl _ _ Try.underlying26 rfl (by kernel_rfl), load_part (HK.out.below hM.b HK.out.lt) 0 (akc a) rfl _ _ Try.underlying26 rfl (by kernel_rfl), trivial⟩ ?_
  refine eqA (.tmp 5) (.tmp 6) 26 (some 7) (akc x.k).toArray (akc a).toArray (decide (x.k = a)) (run_eqAk x.k a _) ?_
  refine tF 5 [.val 4 (some 3) (.bool (decide (x.k = a)))] trivial ?_
  refine dF ?_
  try simp only [puts, Tk.put, Act.put, List.setIfInBounds_toArray, List.set_cons_zero, List.set_cons_succ]
  go_wp2_with fail
  go_ret
  exact ⟨rfl, hM.b⟩
set_option maxRecDepth 100000 in
set_option maxHeartbeats 4000000 in
theorem opened1_idx {K : Nat} (a : Ak) (l : List Lt) (v : Value) (w : World) {lo hi : Nat} (hl : RSl ltc lo hi w v l) (hhi : hi ≤ w.heap.size) (hk : Blk w K 26 (akc a)) : Calls Try.prog 24 #[v, .func (.func 25) #[] #[.pointer (some ⟨K, 0, none⟩)]] w fun e W' => e = .returned (.int .i64 (idxG (isA a) l)) ∧ Below w.heap.size w W' := by
  have hmx : Try.prog.follows .mixedOrders = true := by kernel_rfl
  have HEl := Lib.hid (fun k x (hx : l[k]? = some x) => hl.elem ltc_len hx Try.underlying31 (fun W => by kernel_rfl))
  obtain ⟨pl, cl, rfl⟩ := hl.slice
  have HLl := Lib.hid hl
  have HHl := Lib.hid hhi
  have HLENl := Lib.hid (show l.length ≤ 9223372036854775807 from by have h := hl.len; unfold maxLen at h; omega)
  clear hl hhi
  have HK := Lib.hid hk
  clear hk
  have hM := Sep.start w
  go_enter Try.func24, Try.ntmps24
  go_upto_region 0 with fail
  refine wp_region_fromM (fun W => Sep w [] [] W) hM ?_
  clear hM
  rintro Y1 hM
  refine tF 1 [.val 0 (some 4) (.int .i64 0)] trivial ?_
  refine dF ?_
  try simp only [puts, Tk.put, Act.put, List.setIfInBounds_toArray, List.set_cons_zero, List.set_cons_succ]
  go_upto_region 1 with fail
  refine wp_region_fromM (fun W => Sep w [] [] W) hM ?_
  clear hM
  rintro Y2 hM
  refine tF 3 [.val 0 (some 6) (.slice pl l.length cl), .val 1 (some 7) (.int .i64 (l.length : Int)), .val 2 (some 8) (.int .i64 0)] trivial ?_
  refine dF ?_
  try simp only [puts, Tk.put, Act.put, List.setIfInBounds_toArray, List.set_cons_zero, List.set_cons_succ]
  go_wp2_with fail
  go_loopw [5, 8] (fun _ i wr => ∃ j : Nat, j ≤ l.length ∧ i = .int .i64 (j : Int) ∧ (l.take j).any (isA a) = false ∧ Sep w [] [] wr) (fun _ i _ => l.length - (intOf i).toNat)
  case atStart => exact ⟨0, Nat.zero_le _, rfl, rfl, hM⟩
  clear hM
  case round =>
    obtain ⟨j, hj, rfl, hno, hM⟩ := hrel
    have HN := Lib.hid hno
    clear hno
    by_cases hlt : j < l.length
    case pos =>
      obtain ⟨x, hx⟩ : ∃ x, l[j]? = some x := ⟨_, List.getElem?_eq_getElem hlt⟩
      obtain ⟨bl, ol, _, _, hit, hct⟩ := HEl.out j x hx
      have HXl := Lib.hid hx
      have HIl := Lib.hid hit
      have HCl := Lib.hid hct
      clear hx hit hct
      have HJ := Lib.hid hlt
      have hlt' : (j : Int) < (l.length : Int) := by omega
      clear hlt
      go_upto_region 2 with fail
      refine wp_region_fromM (fun W => Sep w [] [] W) hM ?_
      clear hM
      rintro Y3 hM
      refine tF 1 [.alt 0 (some 9) (.bool (decide ((j : Int) < (l.length : Int)))) (.bool true)] ⟨congrArg Value.bool (decide_eq_true hlt'), trivial⟩ ?_
      refine dF ?_
      try simp only [puts, Tk.put, Act.put, List.setIfInBounds_toArray, List.set_cons_zero, List.set_cons_succ]
      go_upto_region 3 with fail
      refine wp_region_fromM (fun W => Sep w [] [] W) hM ?_
      clear hM
      rintro Y4 hM
      refine tF 2 [.val 0 (some 10) (.int .i64 (j : Int)), .val 1 (some 5) (.int .i64 (j : Int))] trivial ?_
      refine dF ?_
      try simp only [puts, Tk.put, Act.put, List.setIfInBounds_toArray, List.set_cons_zero, List.set_cons_succ]
      go_upto_region 4 with fail
      refine wp_region_fromM (fun W => Sep w [] [] W) hM ?_
      clear hM
      rintro Y5 hM
      refine tF 5 [.val 0 (some 11) (.func (.func 25) #[] #[.pointer (some ⟨K, 0, none⟩)]), .val 1 (some 12) (.slice pl l.length cl), .val 2 (some 13) (.int .i64 (j : Int)), .idx 3 (some 14) 31 (.slice pl l.length cl) (.int .i64 (j : Int)) (pt bl ol), .load 4 (some 15) 46 (pt bl ol) (ltv x)] ⟨HIl.out _, ld_cells (ltc x) _ _ Try.underlying46 rfl (by kernel_rfl) (HCl.out _ (HLl.out.below hM.b HHl.out)), trivial⟩ ?_
      refine cF (some 16) 25 #[ltv x, .pointer (some ⟨K, 0, none⟩)] ((opened1_any a x _ (HK.out.below hM.b HK.out.lt)).mono ?_)
      rintro e Y6 ⟨rfl, hb⟩
      replace hM := hM.below hb
      clear hb
      refine dF ?_
      try simp only [puts, Tk.put, Act.put, List.setIfInBounds_toArray, List.set_cons_zero, List.set_cons_succ]
      cases hb1 : isA a x with
      | false =>
        have Hhb1 := Lib.hid hb1
        clear hb1
        go_upto_region 6 with fail
        refine wp_region_fromM (fun W => Sep w [] [] W) hM ?_
        clear hM
        rintro Y7 hM
        refine tF 2 [.alt 0 (some 18) (.int .i64 (IntKind.i64.wrap ((j : Int) + 1))) (.int .i64 ((j + 1 : Nat) : Int)), .val 1 (some 8) (.int .i64 ((j + 1 : Nat) : Int))] ⟨congrArg (Value.int .i64) ((IntWalk.i64_in _ (by have := HLENl.out; have := HJ.out; omega)).trans (by omega)), trivial⟩ ?_
        refine dF ?_
        try simp only [puts, Tk.put, Act.put, List.setIfInBounds_toArray, List.set_cons_zero, List.set_cons_succ]
        go_wp2_with fail
        go_roundw
        case rel => exact ⟨j + 1, HJ.out, rfl, by rw [take_anyG HXl.out, HN.out, Hhb1.out]; rfl, hM⟩
        case measure => have := HJ.out; simp [intOf]; omega
      | true =>
        have Hhb1 := Lib.hid hb1
        clear hb1
        go_upto_region 5 with fail
        refine wp_region_fromM (fun W => Sep w [] [] W) hM ?_
        clear hM
        rintro Y8 hM
        refine tF 2 [.val 0 (some 17) (.int .i64 (j : Int)), .val 1 (some 4) (.int .i64 (j : Int))] trivial ?_
        refine dF ?_
        try simp only [puts, Tk.put, Act.put, List.setIfInBounds_toArray, List.set_cons_zero, List.set_cons_succ]
        go_wp2_with fail
        go_ret
        exact ⟨by rw [idxG_at HXl.out Hhb1.out HN.out]; rfl, hM.b⟩
    case neg =>
      obtain rfl : j = l.length := by omega
      go_upto_region 2 with fail
      refine wp_region_fromM (fun W => Sep w [] [] W) hM ?_
      clear hM
      rintro Y9 hM
      refine tF 1 [.alt 0 (some 9) (.bool (decide ((l.length : Int) < (l.length : Int)))) (.bool false)] ⟨congrArg Value.bool (decide_eq_false (by omega)), trivial⟩ ?_
      refine dF ?_
      try simp only [puts, Tk.put, Act.put, List.setIfInBounds_toArray, List.set_cons_zero, List.set_cons_succ]
      go_upto_region 7 with fail
      refine wp_region_fromM (fun W => Sep w [] [] W) hM ?_
      clear hM
      rintro Y10 hM
      refine tF 1 [.val 0 (some 4) (.int .i64 (-1))] trivial ?_
      refine dF ?_
      try simp only [puts, Tk.put, Act.put, List.setIfInBounds_toArray, List.set_cons_zero, List.set_cons_succ]
      go_wp2_with fail
      go_ret
      exact ⟨by rw [idxG_not HN.out]; rfl, hM.b⟩
set_option maxRecDepth 100000 in
set_option maxHeartbeats 4000000 in
theorem rmOpened_any {B : Nat} {R : Rm} {va vb : Value} (a : Ak) (w : World) (hv : RmV w B R va vb) : Calls Try.prog 10 #[.pointer (some ⟨B, 0, none⟩), akv a] w fun e W' => e = .returned (.tuple #[ltv ((openL R.ls a).getD noL), .bool (openL R.ls a).isSome]) ∧ Below w.heap.size w W' := by
  have hmx : Try.prog.follows .mixedOrders = true := by kernel_rfl
  have hl := hv.l
  have ho := hv.o
  have hhl := Nat.le_refl w.heap.size
  have hho := Nat.le_refl w.heap.size
  have HEl := Lib.hid (fun k x (hx : R.ls[k]? = some x) => hl.elem ltc_len hx Try.underlying31 (fun W => by kernel_rfl))
  obtain ⟨pl, cl, rfl⟩ := hl.slice
  have HLl := Lib.hid hl
  have HHl := Lib.hid hhl
  have HLENl := Lib.hid (show R.ls.length ≤ 9223372036854775807 from by have h := hl.len; unfold maxLen at h; omega)
  clear hl hhl
  have HEo := Lib.hid (fun k x (hx : R.bs[k]? = some x) => ho.elem bdc_len hx Try.underlying32 (fun W => by kernel_rfl))
  obtain ⟨po, co, rfl⟩ := ho.slice
  have HLo := Lib.hid ho
  have HHo := Lib.hid hho
  have HLENo := Lib.hid (show R.bs.length ≤ 9223372036854775807 from by have h := ho.len; unfold maxLen at h; omega)
  clear ho hho
  have HV := Lib.hid hv
  clear hv
  have hM := Sep.start w
  go_enter Try.func10, Try.ntmps10
  go_upto_region 0 with fail
  refine wp_region_fromM (fun W => Sep w [] [] W) hM ?_
  clear hM
  rintro Y1 hM
  refine rF (some 3) (pt Y1.heap.size 0) (Y1.alloc (.cells (akc a).toArray 26)) ?_
  replace hM := hM.alloc 26 (akc a)
  generalize World.alloc _ _ = Y2 at *
  generalize hNe : Y1.heap.size = N2 at *
  clear hNe
  refine rF (some 4) (pt Y2.heap.size 0) (Y2.alloc (.cells (ltc noL).toArray 46)) ?_
  replace hM := hM.alloc 46 (ltc noL)
  generalize World.alloc _ _ = Y3 at *
  generalize hNe : Y2.heap.size = N3 at *
  clear hNe
  refine tF 3 [.val 2 (some 5) (.bool false)] trivial ?_
  refine dF ?_
  try simp only [puts, Tk.put, Act.put, List.setIfInBounds_toArray, List.set_cons_zero, List.set_cons_succ]
  go_upto_region 1 with fail
  refine wp_region_fromM (fun W => Sep w [] [.blk N3 46 (ltc noL), .blk N2 26 (akc a)] W) hM ?_
  clear hM
  rintro Y4 hM
  refine tF 1 [.val 0 (some 7) (pt B 0)] trivial ?_
  refine cF (some 8) 15 #[pt B 0] ((rmThere_yes _ ((HV.out.below hM.b).b)).mono ?_)
  rintro e Y5 ⟨rfl, hb⟩
  replace hM := hM.below hb
  clear hb
  refine tF 3 [.val 2 (some 9) (.bool false)] trivial ?_
  refine dF ?_
  try simp only [puts, Tk.put, Act.put, List.setIfInBounds_toArray, List.set_cons_zero, List.set_cons_succ]
  go_upto_region 3 with fail
  refine wp_region_fromM (fun W => Sep w [] [.blk N3 46 (ltc noL), .blk N2 26 (akc a)] W) hM ?_
  clear hM
  rintro Y6 hM
  refine tF 5 [.val 0 (some 11) (pt B 0), .val 1 (some 12) (pt B 0), .val 2 (some 13) (pt B 3), .load 3 (some 14) 31 (pt B 3) (.slice pl R.ls.length cl), .val 4 (some 15) (.func (.func 25) #[] #[pt N2 0])] ⟨ld_any _ _ Try.underlying31 rfl (HV.out.below hM.b).b 3 rfl, trivial⟩ ?_
  refine cF (some 16) 24 #[.slice pl R.ls.length cl, .func (.func 25) #[] #[pt N2 0]] ((opened1_idx a R.ls _ _ (HLl.out.below hM.b HHl.out) (Nat.le_trans HHl.out hM.size) (hM.at 1 rfl)).mono ?_)
  rintro e Y7 ⟨rfl, hb⟩
  replace hM := hM.below hb
  clear hb
  refine tF 7 [.val 6 (some 6) (.int .i64 (idxG (isA a) R.ls))] trivial ?_
  refine dF ?_
  try simp only [puts, Tk.put, Act.put, List.setIfInBounds_toArray, List.set_cons_zero, List.set_cons_succ]
  go_upto_region 4 with fail
  refine wp_region_fromM (fun W => Sep w [] [.blk N3 46 (ltc noL), .blk N2 26 (akc a)] W) hM ?_
  clear hM
  rintro Y8 hM
  refine tF 2 [.val 0 (some 17) (.int .i64 (idxG (isA a) R.ls)), .val 1 (some 18) (.bool (decide ((idxG (isA a) R.ls) < 0)))] trivial ?_
  refine dF ?_
  try simp only [puts, Tk.put, Act.put, List.setIfInBounds_toArray, List.set_cons_zero, List.set_cons_succ]
  cases hb1 : decide ((idxG (isA a) R.ls) < 0) with
  | false =>
    have Hhb1 := Lib.hid hb1
    clear hb1
    obtain ⟨j, hj⟩ : ∃ j : Nat, idxG (isA a) R.ls = (j : Int) := ⟨_, (Int.toNat_of_nonneg (by have h := of_decide_eq_false Hhb1.out; omega)).symm⟩
    have hf := open_idx R.ls a
    rw [if_neg (of_decide_eq_false Hhb1.out), hj, Int.toNat_natCast] at hf
    obtain ⟨x, hx⟩ : ∃ x, R.ls[j]? = some x := idxG_lt' hj
    rw [hx] at hf
    have HF := Lib.hid hf
    clear hf
    rw [hj]
    obtain ⟨bl, ol, _, _, hit, hct⟩ := HEl.out j x hx
    have HIl := Lib.hid hit
    have HCl := Lib.hid hct
    clear hit hct hx hj
    go_upto_region 6 with fail
    refine wp_region_fromM (fun W => Sep w [] [.blk N3 46 (ltc noL), .blk N2 26 (akc a)] W) hM ?_
    clear hM
    rintro Y9 hM
    refine tF 7 [.val 0 (some 20) (pt B 0), .val 1 (some 21) (pt B 0), .val 2 (some 22) (pt B 3), .load 3 (some 23) 31 (pt B 3) (.slice pl R.ls.length cl), .val 4 (some 24) (.int .i64 (j : Int)), .idx 5 (some 25) 31 (.slice pl R.ls.length cl) (.int .i64 (j : Int)) (pt bl ol), .load 6 (some 26) 46 (pt bl ol) (ltv x)] ⟨ld_any _ _ Try.underlying31 rfl (HV.out.below hM.b).b 3 rfl, HIl.out _, ld_cells (ltc x) _ _ Try.underlying46 rfl (by kernel_rfl) (HCl.out _ (HLl.out.below hM.b HHl.out)), trivial⟩ ?_
    have hst := sto_part (ltc x) (hM.at 0 rfl) 0 46 (ltv x) (ltc x) rfl (by kernel_rfl) (Nat.le_of_ble_eq_true rfl) rfl rfl
    refine sF 46 (pt N3 0) (ltv x) (hst) ?_
    clear hst
    replace hM := hM.set 0 (cs' := ltc x) rfl rfl
    generalize World.setRow _ _ _ = Y10 at *
    refine tF 9 [.val 8 (some 5) (.bool true)] trivial ?_
    refine dF ?_
    try simp only [puts, Tk.put, Act.put, List.setIfInBounds_toArray, List.set_cons_zero, List.set_cons_succ]
    go_wp2_with fail
    exact bodyPost_ret (v := .tuple #[ltv x, .bool true]) (res_two rfl _ rfl rfl (lv_lt (hM.at 0 rfl))) rfl ⟨by rw [HF.out]; rfl, hM.b⟩
  | true =>
    have Hhb1 := Lib.hid hb1
    clear hb1
    have hf := open_idx R.ls a
    rw [if_pos (of_decide_eq_true Hhb1.out)] at hf
    have HF := Lib.hid hf
    clear hf
    go_upto_region 5 with fail
    refine wp_region_fromM (fun W => Sep w [] [.blk N3 46 (ltc noL), .blk N2 26 (akc a)] W) hM ?_
    clear hM
    rintro Y11 hM
    refine tF 1 [.val 0 (some 19) (ltv noL)] trivial ?_
    have hst := sto_part (ltc noL) (hM.at 0 rfl) 0 46 (ltv noL) (ltc noL) rfl (by kernel_rfl) (Nat.le_of_ble_eq_true rfl) rfl rfl
    refine sF 46 (pt N3 0) (ltv noL) (hst) ?_
    clear hst
    replace hM := hM.set 0 (cs' := ltc noL) rfl rfl
    generalize World.setRow _ _ _ = Y12 at *
    refine tF 3 [.val 2 (some 5) (.bool false)] trivial ?_
    refine dF ?_
    try simp only [puts, Tk.put, Act.put, List.setIfInBounds_toArray, List.set_cons_zero, List.set_cons_succ]
    go_wp2_with fail
    exact bodyPost_ret (v := .tuple #[ltv noL, .bool false]) (res_two rfl _ rfl rfl (lv_lt (hM.at 0 rfl))) rfl ⟨by rw [HF.out]; rfl, hM.b⟩
set_option maxRecDepth 100000 in
set_option maxHeartbeats 4000000 in
theorem rmAsks_any {B : Nat} {R : Rm} {va vb : Value} (w : World) (hv : RmV w B R va vb) (hr : R.ls.length ≤ 1000) : Calls Try.prog 7 #[.pointer (some ⟨B, 0, none⟩)] w (RowK (R.ls.map askL) w) := by
  have hmx : Try.prog.follows .mixedOrders = true := by kernel_rfl
  have hl := hv.l
  have ho := hv.o
  have hhl := Nat.le_refl w.heap.size
  have hho := Nat.le_refl w.heap.size
  have HEl := Lib.hid (fun k x (hx : R.ls[k]? = some x) => hl.elem ltc_len hx Try.underlying31 (fun W => by kernel_rfl))
  obtain ⟨pl, cl, rfl⟩ := hl.slice
  have HLl := Lib.hid hl
  have HHl := Lib.hid hhl
  have HLENl := Lib.hid (show R.ls.length ≤ 9223372036854775807 from by have h := hl.len; unfold maxLen at h; omega)
  clear hl hhl
  have HEo := Lib.hid (fun k x (hx : R.bs[k]? = some x) => ho.elem bdc_len hx Try.underlying32 (fun W => by kernel_rfl))
  obtain ⟨po, co, rfl⟩ := ho.slice
  have HLo := Lib.hid ho
  have HHo := Lib.hid hho
  have HLENo := Lib.hid (show R.bs.length ≤ 9223372036854775807 from by have h := ho.len; unfold maxLen at h; omega)
  clear ho hho
  have HV := Lib.hid hv
  have HR := Lib.hid hr
  clear hr
  clear hv
  have hM := Sep.start w
  go_enter Try.func7, Try.ntmps7
  go_upto_region 0 with fail
  refine wp_region_fromM (fun W => Sep w [] [] W) hM ?_
  clear hM
  rintro Y1 hM
  refine tF 1 [.val 0 (some 2) (.slice none 0 0)] trivial ?_
  refine dF ?_
  try simp only [puts, Tk.put, Act.put, List.setIfInBounds_toArray, List.set_cons_zero, List.set_cons_succ]
  go_upto_region 1 with fail
  refine wp_region_fromM (fun W => Sep w [] [] W) hM ?_
  clear hM
  rintro Y2 hM
  refine tF 1 [.val 0 (some 6) (pt B 0)] trivial ?_
  refine cF (some 7) 15 #[pt B 0] ((rmThere_yes _ ((HV.out.below hM.b).b)).mono ?_)
  rintro e Y3 ⟨rfl, hb⟩
  replace hM := hM.below hb
  clear hb
  refine tF 3 [.val 2 (some 8) (.bool false)] trivial ?_
  refine dF ?_
  try simp only [puts, Tk.put, Act.put, List.setIfInBounds_toArray, List.set_cons_zero, List.set_cons_succ]
  go_upto_region 3 with fail
  refine wp_region_fromM (fun W => Sep w [] [] W) hM ?_
  clear hM
  rintro Y4 hM
  refine tF 1 [.val 0 (some 3) (.slice none 0 0)] trivial ?_
  refine dF ?_
  try simp only [puts, Tk.put, Act.put, List.setIfInBounds_toArray, List.set_cons_zero, List.set_cons_succ]
  go_upto_region 4 with fail
  refine wp_region_fromM (fun W => Sep w [] [] W) hM ?_
  clear hM
  rintro Y5 hM
  refine tF 6 [.val 0 (some 9) (pt B 0), .val 1 (some 10) (pt B 0), .val 2 (some 11) (pt B 3), .load 3 (some 12) 31 (pt B 3) (.slice pl R.ls.length cl), .val 4 (some 13) (.int .i64 (R.ls.length : Int)), .val 5 (some 14) (.int .i64 0)] ⟨ld_any _ _ Try.underlying31 rfl (HV.out.below hM.b).b 3 rfl, trivial⟩ ?_
  refine dF ?_
  try simp only [puts, Tk.put, Act.put, List.setIfInBounds_toArray, List.set_cons_zero, List.set_cons_succ]
  replace hM := hM.nil akc 26 9
  go_wp2_with fail
  go_loopw [3, 14] (fun u3 i wr => ∃ j : Nat, j ≤ R.ls.length ∧ i = .int .i64 (j : Int) ∧ Sep w [] [.own akc 26 9 (u3) ((R.ls.take j).map askL)] wr) (fun u3 i _ => R.ls.length - (intOf i).toNat)
  case atStart => exact ⟨0, Nat.zero_le _, rfl, hM⟩
  clear hM
  case round =>
    obtain ⟨j, hj, rfl, hM⟩ := hrel
    by_cases hlt : j < R.ls.length
    case pos =>
      obtain ⟨x, hx⟩ : ∃ x, R.ls[j]? = some x := ⟨_, List.getElem?_eq_getElem hlt⟩
      obtain ⟨bl, ol, _, _, hit, hct⟩ := HEl.out j x hx
      have HXl := Lib.hid hx
      have HIl := Lib.hid hit
      have HCl := Lib.hid hct
      clear hx hit hct
      have HJ := Lib.hid hlt
      have hlt' : (j : Int) < (R.ls.length : Int) := by omega
      clear hlt
      go_upto_region 5 with fail
      refine wp_region_fromM (fun W => Sep w [] [.own akc 26 9 (u3) ((R.ls.take j).map askL)] W) hM ?_
      clear hM
      rintro Y6 hM
      refine tF 1 [.alt 0 (some 15) (.bool (decide ((j : Int) < (R.ls.length : Int)))) (.bool true)] ⟨congrArg Value.bool (decide_eq_true hlt'), trivial⟩ ?_
      refine dF ?_
      try simp only [puts, Tk.put, Act.put, List.setIfInBounds_toArray, List.set_cons_zero, List.set_cons_succ]
      go_upto_region 6 with fail
      refine wp_region_fromM (fun W => Sep w [] [.own akc 26 9 (u3) ((R.ls.take j).map askL)] W) hM ?_
      clear hM
      rintro Y7 hM
      refine tF 2 [.idx 0 (some 16) 31 (.slice pl R.ls.length cl) (.int .i64 (j : Int)) (pt bl ol), .load 1 (some 17) 46 (pt bl ol) (ltv x)] ⟨HIl.out _, ld_cells (ltc x) _ _ Try.underlying46 rfl (by kernel_rfl) (HCl.out _ (HLl.out.below hM.b HHl.out)), trivial⟩ ?_
      refine rF (some 5) (pt Y7.heap.size 0) (Y7.alloc (.cells (ltc noL).toArray 46)) ?_
      replace hM := hM.alloc 46 (ltc noL)
      generalize World.alloc _ _ = Y8 at *
      generalize hNe : Y7.heap.size = N8 at *
      clear hNe
      have hst := sto_part (ltc x) (hM.at 0 rfl) 0 46 (ltv x) (ltc x) rfl (by kernel_rfl) (Nat.le_of_ble_eq_true rfl) rfl rfl
      refine sF 46 (pt N8 0) (ltv x) (hst) ?_
      clear hst
      replace hM := hM.set 0 (cs' := ltc x) rfl rfl
      generalize World.setRow _ _ _ = Y9 at *
      refine dF ?_
      try simp only [puts, Tk.put, Act.put, List.setIfInBounds_toArray, List.set_cons_zero, List.set_cons_succ]
      go_upto_region 7 with fail
      refine wp_region_fromM (fun W => Sep w [] [.blk N8 46 (ltc x), .own akc 26 9 (u3) ((R.ls.take j).map askL)] W) hM ?_
      clear hM
      rintro Y10 hM
      refine tF 3 [.val 0 (some 18) (u3), .val 1 (some 19) (pt N8 0), .load 2 (some 20) 26 (pt N8 0) (akv x.k)] ⟨load_part (hM.at 0 rfl) 0 (akc x.k) rfl _ _ Try.underlying26 rfl (by kernel_rfl), trivial⟩ ?_
      refine rF (some 21) (.slice (some ⟨Y10.heap.size, 0, none⟩) 1 1) (Y10.alloc (.cells (akc x.k).toArray 26)) ?_
      replace hM := hM.alloc 26 (akc x.k)
      generalize World.alloc _ _ = Y11 at *
      generalize hNe : Y10.heap.size = N11 at *
      clear hNe
      obtain ⟨v12, Y12, hrun, ht⟩ := own_app1 infoAk rfl (by decide) Try.underlying41 akc_len akc_one (hM.oka 2 rfl) x.k (hM.at 0 rfl) (by decide) ((by have h1 := HR.out; have h2 := map_len R.ls j; have h3 := HJ.out; omega)) 41
      replace hM := hM.turn 2 rfl ht rfl
      clear ht
      refine wpFrom_append (d := some 22) (t := 41) (t' := 41) (ty := 41) (v := u3) (x := .slice (some ⟨N11, 0, none⟩) 1 1) (by kernel_rfl) hrun ?_
      clear hrun
      refine tF 6 [.val 5 (some 3) (v12)] trivial ?_
      refine dF ?_
      try simp only [puts, Tk.put, Act.put, List.setIfInBounds_toArray, List.set_cons_zero, List.set_cons_succ]
      go_upto_region 8 with fail
      refine wp_region_fromM (fun W => Sep w [] [.blk N11 26 (akc x.k), .blk N8 46 (ltc x), .own akc 26 9 (v12) (((R.ls.take j).map askL) ++ [x.k])] W) hM ?_
      clear hM
      rintro Y13 hM
      refine tF 2 [.alt 0 (some 23) (.int .i64 (IntKind.i64.wrap ((j : Int) + 1))) (.int .i64 ((j + 1 : Nat) : Int)), .val 1 (some 14) (.int .i64 ((j + 1 : Nat) : Int))] ⟨congrArg (Value.int .i64) ((IntWalk.i64_in _ (by have := HLENl.out; have := HJ.out; omega)).trans (by omega)), trivial⟩ ?_
      refine dF ?_
      try simp only [puts, Tk.put, Act.put, List.setIfInBounds_toArray, List.set_cons_zero, List.set_cons_succ]
      have hM1 := hM.sub (l' := [.own akc 26 9 (v12) (((R.ls.take j).map askL) ++ [x.k])]) (.cons _ (.cons _ (.cons_cons _ .slnil)))
      have HM1 := Lib.hid hM1
      clear hM hM1
      go_wp2_with fail
      go_roundw
      case rel => exact ⟨j + 1, HJ.out, rfl, by rw [take_oneG HXl.out, List.map_append]; exact HM1.out⟩
      case measure => have := HJ.out; simp [intOf]; omega
    case neg =>
      obtain rfl : j = R.ls.length := by omega
      go_upto_region 5 with fail
      refine wp_region_fromM (fun W => Sep w [] [.own akc 26 9 (u3) ((R.ls.take R.ls.length).map askL)] W) hM ?_
      clear hM
      rintro Y14 hM
      refine tF 1 [.alt 0 (some 15) (.bool (decide ((R.ls.length : Int) < (R.ls.length : Int)))) (.bool false)] ⟨congrArg Value.bool (decide_eq_false (by omega)), trivial⟩ ?_
      refine dF ?_
      try simp only [puts, Tk.put, Act.put, List.setIfInBounds_toArray, List.set_cons_zero, List.set_cons_succ]
      go_upto_region 9 with fail
      refine wp_region_fromM (fun W => Sep w [] [.own akc 26 9 (u3) ((R.ls.take R.ls.length).map askL)] W) hM ?_
      clear hM
      rintro Y15 hM
      refine tF 2 [.val 0 (some 24) (u3), .val 1 (some 2) (u3)] trivial ?_
      refine dF ?_
      try simp only [puts, Tk.put, Act.put, List.setIfInBounds_toArray, List.set_cons_zero, List.set_cons_succ]
      go_wp2_with fail
      go_ret
      rw [List.take_length] at hM
      exact ⟨_, rfl, hM⟩
end Go.Proofs.Ytbhfajnejibaoaa
