/-
  Words for parts of memory: what came back is one's own, parts in any order; builtins of two numbers, remainders, the first place that is looked for.
-/
import Derived.Test.YtakeickgjplahaaSepSet
import Derived.IntWalk
import Derived.Lib.Hide
namespace Go.Proofs.Ytakeickgjplahaa
open Go.RowKit Go.Shelf

/-- What came back is one's own. -/
theorem Sep.gain {w W W' : World} {F : List Nat} {l : List Res} {r : Res} (h : Sep w F l W) (h' : Sep W [] [r] W') : Sep w F (r :: l) W' :=
  h.add h'.b (h'.ok r (List.mem_singleton.2 rfl)) (fun k hk => (h'.new r (List.mem_singleton.2 rfl) k hk).elim (fun e => (List.not_mem_nil e).elim) id)
/-- What is left of a number, in so many parts. -/
theorem remF {ops : Array Oper} {Q : Exit → Act → World → Prop} (x y : Operand) (T z : TypeId) (d : Option Tmp) (a b c : Int) {k : Nat} {A : Act} {w : World} (hb : b ≠ 0) (hc : Int.tmod a b = c) (h : wpFrom Try.prog ops Q (k + 1) (A.put d (.int .i64 c)) w)
    (hk : (ops[k]?).map (fun o => (Region.wanted o (yielded ops A.tmps), o.dst, o.op)) = some (true, d, .binOp .rem T x y z) := by kernel_rfl) (hx : A.eval x = .int .i64 a := by kernel_rfl) (hy : A.eval y = .int .i64 b := by kernel_rfl) : wpFrom Try.prog ops Q k A w := by
  subst hc
  obtain ⟨o, _, _, _, hop, hr⟩ := op_at (P := Try.prog) hk
  refine wpFrom_run ((hr w).trans ?_) h
  unfold execOp
  simp only [hop, hx, hy, Sem.run_bind, eqGuard_rem, binOp_rem, Op.intDiv, if_neg hb, Sem.run_pure, Result.andThen_ok]
/-- An aggregate that lies within an element. -/
theorem ld_cellsAt {W : World} {b o : Nat} {cs : List Value} (hc : ∀ j u, cs[j]? = some u → W.cell? ⟨b, o + j, none⟩ = some u) (q : Nat) (ns : List Value) (hn : (cs.drop q).take ns.length = ns) (ty : TypeId) (d : TypeDesc) (hu : Try.prog.underlying ty = some d) (hd : (match d with | .struct _ | .array _ _ => true | _ => false) = true) (hi : (Try.prog.info? ty).map (·.size) = some ns.length) :
    (Instr.loadAt ty (.pointer (some ⟨b, o + q, none⟩))).run Try.prog W = .ok (.agg ns.toArray) W :=
  ld_cells ns ty d hu hd hi fun j u hj => by
    rw [Nat.add_assoc]
    refine hc (q + j) u ?_
    rw [← hn] at hj
    have hl := (List.getElem?_eq_some_iff.1 hj).1
    rw [List.getElem?_take_of_lt (by rw [List.length_take] at hl; omega), List.getElem?_drop] at hj
    exact hj
/-- The builtins of two numbers. -/
def max2I (x y : Int) : Int := if y > x then y else x
def min2I (x y : Int) : Int := if y < x then y else x
theorem max2I_eq (x y : Int) : max2I x y = max x y := by unfold max2I; split <;> omega
theorem min2I_eq (x y : Int) : min2I x y = min x y := by unfold min2I; split <;> omega
/-- The first place that is looked for. -/
def idxG {α : Type} (p : α → Bool) (l : List α) : Int := match l.findIdx? p with | none => -1 | some i => i
theorem idxG_at {α : Type} {p : α → Bool} {l : List α} {j : Nat} {x : α} (hx : l[j]? = some x) (hp : p x = true) (hno : (l.take j).any p = false) : idxG p l = j := by
  obtain ⟨hj, rfl⟩ := List.getElem?_eq_some_iff.1 hx
  have : l.findIdx? p = some j := List.findIdx?_eq_some_iff_getElem.2 ⟨hj, hp, fun n hn => by
    have h := List.any_eq_false.1 hno l[n] (List.mem_take_iff_getElem.2 ⟨n, by omega, rfl⟩)
    exact h⟩
  unfold idxG
  rw [this]
theorem idxG_not {α : Type} {p : α → Bool} {l : List α} (hno : (l.take l.length).any p = false) : idxG p l = -1 := by
  rw [List.take_length] at hno
  have : l.findIdx? p = none := List.findIdx?_eq_none_iff.2 fun x hx => by
    have h := List.any_eq_false.1 hno x hx
    simpa using h
  unfold idxG
  rw [this]
theorem take_oneG {α : Type} {l : List α} {k : Nat} {x : α} (hx : l[k]? = some x) : l.take (k + 1) = l.take k ++ [x] := by
  obtain ⟨hk, rfl⟩ := List.getElem?_eq_some_iff.1 hx
  exact List.take_succ_eq_append_getElem hk
theorem take_anyG {α : Type} {l : List α} {k : Nat} {x : α} {p : α → Bool} (hx : l[k]? = some x) : (l.take (k + 1)).any p = ((l.take k).any p || p x) := by
  rw [take_oneG hx, List.any_append]
  simp
theorem take_filG {α : Type} {l : List α} {k : Nat} {x : α} {p : α → Bool} (hx : l[k]? = some x) : (l.take (k + 1)).filter p = (l.take k).filter p ++ (if p x = true then [x] else []) := by
  rw [take_oneG hx, List.filter_append, List.filter_cons, List.filter_nil]
theorem fil_len {α : Type} (l : List α) (k : Nat) (p : α → Bool) : ((l.take k).filter p).length ≤ k := Nat.le_trans (List.length_filter_le _ _) (List.length_take_le _ _)
theorem rsl_blk {α : Type} {f : α → List Value} {W : World} {N : Nat} {T : TypeId} {x : α} (h : Blk W N T (f x)) : RSl f 0 W.heap.size W (.slice (some ⟨N, 0, none⟩) 1 1) [x] :=
  ⟨_, 1, rfl, Nat.le_refl _, by unfold maxLen; omega, .inr ⟨N, 0, rfl, Nat.zero_le _, h.lt, fun j u hj => by rw [flat_one] at hj; rw [Nat.zero_add]; exact (h.cell j).trans hj⟩⟩
/-- Which one of n. -/
def atC (i : Int) (n : Nat) : Nat := (Int.tmod (Int.tmod i n + n) n).toNat
theorem atC_lt (i : Int) {n : Nat} (h : 0 < n) : atC i n < n := by
  unfold atC
  have h0 : (0 : Int) < n := by omega
  have h1 := Int.lt_tmod_of_pos i h0
  have h2 := Int.tmod_nonneg (a := Int.tmod i n + n) n (by omega)
  have h3 := Int.tmod_lt_of_pos (Int.tmod i n + n) h0
  omega
theorem bne_self_b (b : Bool) : (b != b) = false := by cases b <;> rfl
theorem tmod_up (i : Int) {n : Nat} (h : 0 < n) : 0 ≤ Int.tmod i n + n := by
  have h0 : (0 : Int) < n := by omega
  have h1 := Int.lt_tmod_of_pos i h0
  omega
theorem atC_eq (i : Int) {n : Nat} (h : 0 < n) : Int.tmod (Int.tmod i n + n) n = ((atC i n) : Int) := (Int.toNat_of_nonneg (Int.tmod_nonneg (a := Int.tmod i n + n) n (tmod_up i h))).symm
theorem atC_sum (i : Int) {n : Nat} (h : 0 < n) (hn : n ≤ 4611686018427387903) : IntKind.i64.wrap (Int.tmod i n + n) = Int.tmod i n + n := by
  have h0 : (0 : Int) < n := by omega
  have h1 := Int.lt_tmod_of_pos i h0
  have h2 := Int.tmod_lt_of_pos i h0
  exact IntWalk.i64_in _ (by omega)
section
variable {w W : World} {F : List Nat} {l : List Res}
theorem apart_symm {r s : Res} (h : Apart r s) : Apart s r := fun k hk e => h k e hk
/-- Some of them, in any order. -/
theorem Sep.pick (h : Sep w F l W) (is : List Nat) {l' : List Res} (hn : is.Nodup) (hl : is.map (fun i => l[i]?) = l'.map some) : Sep w F l' W := by
  have hlen : is.length = l'.length := by have := congrArg List.length hl; rwa [List.length_map, List.length_map] at this
  have get : ∀ j (hj : j < l'.length), l[is[j]'(by omega)]? = some l'[j] := fun j hj => by
    have := congrArg (fun x => x[j]?) hl
    simp only [List.getElem?_map, List.getElem?_eq_getElem hj, List.getElem?_eq_getElem (show j < is.length by omega), Option.map_some, Option.some.injEq] at this
    exact this
  have mem : ∀ r ∈ l', r ∈ l := fun r hr => by
    obtain ⟨j, hj, rfl⟩ := List.mem_iff_getElem.1 hr
    exact List.mem_of_getElem? (get j hj)
  refine ⟨fun r hr => h.ok r (mem r hr), fun r hr => h.new r (mem r hr), List.pairwise_iff_getElem.2 fun i j hi hj hij => ?_, h.out⟩
  obtain ⟨hi1, hi2⟩ := List.getElem?_eq_some_iff.1 (get i hi)
  obtain ⟨hj1, hj2⟩ := List.getElem?_eq_some_iff.1 (get j hj)
  have hne : is[i]'(by omega) ≠ is[j]'(by omega) := fun e => by
    have := (List.nodup_iff_pairwise_ne.1 hn)
    exact List.pairwise_iff_getElem.1 this i j (by omega) (by omega) hij e
  rw [← hi2, ← hj2]
  rcases Nat.lt_or_gt_of_ne hne with k | k
  · exact List.pairwise_iff_getElem.1 h.apart _ _ hi1 hj1 k
  · exact apart_symm (List.pairwise_iff_getElem.1 h.apart _ _ hj1 hi1 k)
/-- What is known is said in another way. -/
theorem Sep.conv {r r' : Res} (h : Sep w F (r :: l) W) (hh : r.holds W → r'.holds W) (hf : ∀ k ∈ r'.foot, k ∈ r.foot) : Sep w F (r' :: l) W := by
  have hr := h.ok r (List.mem_cons_self ..)
  refine ⟨fun s hs => ?_, fun s hs k hk => ?_, List.pairwise_cons.2 ⟨fun s hs k hk e => ?_, (List.pairwise_cons.1 h.apart).2⟩, h.out⟩
  · rcases List.mem_cons.1 hs with rfl | hs
    · exact ⟨hh hr.h, fun k hk => hr.lt k (hf k hk)⟩
    · exact h.ok s (List.mem_cons_of_mem _ hs)
  · rcases List.mem_cons.1 hs with rfl | hs
    · exact h.new r (List.mem_cons_self ..) k (hf k hk)
    · exact h.new s (List.mem_cons_of_mem _ hs) k hk
  · exact (List.pairwise_cons.1 h.apart).1 s hs k (hf k hk) e
end
/-- A block without cells is an empty row. -/
theorem Sep.mtrow {α : Type} {w W : World} {F : List Nat} {l : List Res} {f : α → List Value} {T : TypeId} {n N : Nat} (h : Sep w F (.blk N T [] :: l) W) : Sep w F (.own f T n (.slice (some ⟨N, 0, none⟩) 0 0) [] :: l) W :=
  h.conv (fun hB => ⟨by simp [flatR], .inr ⟨N, 0, #[], rfl, Nat.zero_le _, hB, Nat.le_refl _, Nat.zero_le _, by simp, by simp [flatR]⟩⟩) (fun k hk => hk)
-- HERE
end Go.Proofs.Ytakeickgjplahaa
