/-
  Words for parts of memory: what came back is one's own, parts in any order; builtins of two numbers, remainders, the first place that is looked for; A room as a plain thing: asks that are open, and what was bid for them; '==' of asks and of bids; wide.down hands back a sequence of a number's four words with their places, the highest first; wide.Cmp tells which of two wide numbers is greater; The c
-/
import Derived.IntWalk
import Derived.Lib.Hide
import Derived.ArgAppend
import Derived.Deep.Slices
import Derived.Outline
import Derived.Test.YtbhfajnejibaoaaGreatK02
namespace Go.Proofs.YtbhfajnejibaoaaGreat
open Go.RowKit Go.Shelf
theorem Sep.gain {w W W' : World} {F : List Nat} {l : List Res} {r : Res} (h : Sep w F l W) (h' : Sep W [] [r] W') : Sep w F (r :: l) W' :=
  h.add h'.b (h'.ok r (List.mem_singleton.2 rfl)) (fun k hk => (h'.new r (List.mem_singleton.2 rfl) k hk).elim (fun e => (List.not_mem_nil e).elim) id)
theorem remF {ops : Array Oper} {Q : Exit → Act → World → Prop} (x y : Operand) (T z : TypeId) (d : Option Tmp) (a b c : Int) {k : Nat} {A : Act} {w : World} (hb : b ≠ 0) (hc : Int.tmod a b = c) (h : wpFrom Tryz.prog ops Q (k + 1) (A.put d (.int .i64 c)) w)
    (hk : (ops[k]?).map (fun o => (Region.wanted o (yielded ops A.tmps), o.dst, o.op)) = some (true, d, .binOp .rem T x y z) := by kernel_rfl) (hx : A.eval x = .int .i64 a := by kernel_rfl) (hy : A.eval y = .int .i64 b := by kernel_rfl) : wpFrom Tryz.prog ops Q k A w := by
  subst hc
  obtain ⟨o, _, _, _, hop, hr⟩ := op_at (P := Tryz.prog) hk
  refine wpFrom_run ((hr w).trans ?_) h
  unfold execOp
  simp only [hop, hx, hy, Sem.run_bind, eqGuard_rem, binOp_rem, Op.intDiv, if_neg hb, Sem.run_pure, Result.andThen_ok]
theorem ld_cellsAt {W : World} {b o : Nat} {cs : List Value} (hc : ∀ j u, cs[j]? = some u → W.cell? ⟨b, o + j, none⟩ = some u) (q : Nat) (ns : List Value) (hn : (cs.drop q).take ns.length = ns) (ty : TypeId) (d : TypeDesc) (hu : Tryz.prog.underlying ty = some d) (hd : (match d with | .struct _ | .array _ _ => true | _ => false) = true) (hi : (Tryz.prog.info? ty).map (·.size) = some ns.length) :
    (Instr.loadAt ty (.pointer (some ⟨b, o + q, none⟩))).run Tryz.prog W = .ok (.agg ns.toArray) W :=
  ld_cells ns ty d hu hd hi fun j u hj => by
    rw [Nat.add_assoc]
    refine hc (q + j) u ?_
    rw [← hn] at hj
    have hl := (List.getElem?_eq_some_iff.1 hj).1
    rw [List.getElem?_take_of_lt (by rw [List.length_take] at hl; omega), List.getElem?_drop] at hj
    exact hj
def idxG {α : Type} (p : α → Bool) (l : List α) : Int := match l.findIdx? p with | none => -1 | some i => i
theorem idxG_at {α : Type} {p : α → Bool} {l : List α} {j : Nat} {x : α} (hx : l[j]? = some x) (hp : p x = true) (hno : (l.take j).any p = false) : idxG p l = j := by
  obtain ⟨hj, rfl⟩ := List.getElem?_eq_some_iff.1 hx
  have : l.findIdx? p = some j := List.findIdx?_eq_some_iff_getElem.2 ⟨hj, hp, fun n hn => by
    have h := List.any_eq_false.1 hno l[n] (List.mem_take_iff_getElem.2 ⟨n, by omega, rfl⟩)
    exact h⟩
  unfold idxG
  rw [this]
theorem idxG_not {α : Type} {p : α → Bool} {l : List α} (hno : (l.take l.length).any p = false) : idxG p l = -1 := by
  rw [List.take_length] at hno
  have : l.findIdx? p = none := List.findIdx?_eq_none_iff.2 fun x hx => by
    have h := List.any_eq_false.1 hno x hx
    simpa using h
  unfold idxG
  rw [this]
theorem take_oneG {α : Type} {l : List α} {k : Nat} {x : α} (hx : l[k]? = some x) : l.take (k + 1) = l.take k ++ [x] := by
  obtain ⟨hk, rfl⟩ := List.getElem?_eq_some_iff.1 hx
  exact List.take_succ_eq_append_getElem hk
theorem take_anyG {α : Type} {l : List α} {k : Nat} {x : α} {p : α → Bool} (hx : l[k]? = some x) : (l.take (k + 1)).any p = ((l.take k).any p || p x) := by
  rw [take_oneG hx, List.any_append]
  simp
theorem take_filG {α : Type} {l : List α} {k : Nat} {x : α} {p : α → Bool} (hx : l[k]? = some x) : (l.take (k + 1)).filter p = (l.take k).filter p ++ (if p x = true then [x] else []) := by
  rw [take_oneG hx, List.filter_append, List.filter_cons, List.filter_nil]
theorem fil_len {α : Type} (l : List α) (k : Nat) (p : α → Bool) : ((l.take k).filter p).length ≤ k := Nat.le_trans (List.length_filter_le _ _) (List.length_take_le _ _)
def atC (i : Int) (n : Nat) : Nat := (Int.tmod (Int.tmod i n + n) n).toNat
theorem bne_self_b (b : Bool) : (b != b) = false := by cases b <;> rfl
theorem tmod_up (i : Int) {n : Nat} (h : 0 < n) : 0 ≤ Int.tmod i n + n := by
  have h0 : (0 : Int) < n := by omega
  have h1 := Int.lt_tmod_of_pos i h0
  omega
theorem atC_eq (i : Int) {n : Nat} (h : 0 < n) : Int.tmod (Int.tmod i n + n) n = ((atC i n) : Int) := (Int.toNat_of_nonneg (Int.tmod_nonneg (a := Int.tmod i n + n) n (tmod_up i h))).symm
theorem atC_sum (i : Int) {n : Nat} (h : 0 < n) (hn : n ≤ 4611686018427387903) : IntKind.i64.wrap (Int.tmod i n + n) = Int.tmod i n + n := by
  have h0 : (0 : Int) < n := by omega
  have h1 := Int.lt_tmod_of_pos i h0
  have h2 := Int.tmod_lt_of_pos i h0
  exact IntWalk.i64_in _ (by omega)
section
variable {w W : World} {F : List Nat} {l : List Res}
theorem apart_symm {r s : Res} (h : Apart r s) : Apart s r := fun k hk e => h k e hk
theorem Sep.pick (h : Sep w F l W) (is : List Nat) {l' : List Res} (hn : is.Nodup) (hl : is.map (fun i => l[i]?) = l'.map some) : Sep w F l' W := by
  have hlen : is.length = l'.length := by have := congrArg List.length hl; rwa [List.length_map, List.length_map] at this
  have get : ∀ j (hj : j < l'.length), l[is[j]'(by omega)]? = some l'[j] := fun j hj => by
    have := congrArg (fun x => x[j]?) hl
    simp only [List.getElem?_map, List.getElem?_eq_getElem hj, List.getElem?_eq_getElem (show j < is.length by omega), Option.map_some, Option.some.injEq] at this
    exact this
  have mem : ∀ r ∈ l', r ∈ l := fun r hr => by
    obtain ⟨j, hj, rfl⟩ := List.mem_iff_getElem.1 hr
    exact List.mem_of_getElem? (get j hj)
  refine ⟨fun r hr => h.ok r (mem r hr), fun r hr => h.new r (mem r hr), List.pairwise_iff_getElem.2 fun i j hi hj hij => ?_, h.out⟩
  obtain ⟨hi1, hi2⟩ := List.getElem?_eq_some_iff.1 (get i hi)
  obtain ⟨hj1, hj2⟩ := List.getElem?_eq_some_iff.1 (get j hj)
  have hne : is[i]'(by omega) ≠ is[j]'(by omega) := fun e => by
    have := (List.nodup_iff_pairwise_ne.1 hn)
    exact List.pairwise_iff_getElem.1 this i j (by omega) (by omega) hij e
  rw [← hi2, ← hj2]
  rcases Nat.lt_or_gt_of_ne hne with k | k
  · exact List.pairwise_iff_getElem.1 h.apart _ _ hi1 hj1 k
  · exact apart_symm (List.pairwise_iff_getElem.1 h.apart _ _ hj1 hi1 k)
end
-- HERE
end Go.Proofs.YtbhfajnejibaoaaGreat
namespace Go.Proofs.YtbhfajnejibaoaaGreat
open Go.RowKit Go.Shelf
deriving instance DecidableEq for Ak
deriving instance DecidableEq for Bd
structure Lt where
  k : Ak
  si : Int
abbrev ltv (x : Lt) : Value := .agg #[.int .i64 x.k.us, .int .i64 x.k.se, .int .i64 x.k.re, .int .i64 x.k.to, .int .u64 (x.k.a0 : Nat), .int .u64 (x.k.a1 : Nat), .int .u64 (x.k.a2 : Nat), .int .u64 (x.k.a3 : Nat), .string x.k.id, .int .i64 x.si]
abbrev ltc (x : Lt) : List Value := [.int .i64 x.k.us, .int .i64 x.k.se, .int .i64 x.k.re, .int .i64 x.k.to, .int .u64 (x.k.a0 : Nat), .int .u64 (x.k.a1 : Nat), .int .u64 (x.k.a2 : Nat), .int .u64 (x.k.a3 : Nat), .string x.k.id, .int .i64 x.si]
def noL : Lt := ⟨noA, 0⟩
theorem akc_len (x : Ak) : (akc x).length = 9 := rfl
theorem bdc_len (x : Bd) : (bdc x).length = 16 := rfl
theorem ltc_len (x : Lt) : (ltc x).length = 10 := rfl
theorem akc_one (x : Ak) : ∀ u ∈ akc x, u.oneCell' = true := by simp [akc, Value.oneCell']
theorem bdc_one (x : Bd) : ∀ u ∈ bdc x, u.oneCell' = true := by simp [bdc, Value.oneCell']
theorem ltc_one (x : Lt) : ∀ u ∈ ltc x, u.oneCell' = true := by simp [ltc, Value.oneCell']
theorem infoAk : (Tryz.prog.info? 34).map (fun i => (i.zero, i.size, i.bytes)) = some (some (.agg (akc noA).toArray), 9, 80) := by kernel_rfl
theorem infoBd : (Tryz.prog.info? 36).map (fun i => (i.zero, i.size, i.bytes)) = some (some (.agg (bdc noB).toArray), 16, 144) := by kernel_rfl
theorem infoLt : (Tryz.prog.info? 66).map (fun i => (i.zero, i.size, i.bytes)) = some (some (.agg (ltc noL).toArray), 10, 88) := by kernel_rfl
def eqAk (a b : Ak) : Bool := (a.us == b.us) && ((a.se == b.se) && ((a.re == b.re) && ((a.to == b.to) && (wEq (a.a0 : Nat) (a.a1 : Nat) (a.a2 : Nat) (a.a3 : Nat) (b.a0 : Nat) (b.a1 : Nat) (b.a2 : Nat) (b.a3 : Nat) && ((a.id.toList == b.id.toList) && true)))))
theorem eqAk_dec (a b : Ak) : eqAk a b = decide (a = b) := by
  unfold eqAk wEq
  rw [beqB, Bool.and_true]
  simp only [beqI, ← Bool.decide_and]
  refine decide_eq_decide.2 ?_
  obtain ⟨u, s, r, t, c0, c1, c2, c3, i⟩ := a
  obtain ⟨u', s', r', t', d0, d1, d2, d3, i'⟩ := b
  simp only [Ak.mk.injEq, Int.natCast_inj]
  exact ⟨fun ⟨h1, h2, h3, h4, ⟨g0, g1, g2, g3⟩, h5⟩ => ⟨h1, h2, h3, h4, g0, g1, g2, g3, h5⟩, fun ⟨h1, h2, h3, h4, g0, g1, g2, g3, h5⟩ => ⟨h1, h2, h3, h4, ⟨g0, g1, g2, g3⟩, h5⟩⟩
theorem run_eqAk' (d : Nat) (a b : Ak) (w : World) : (Op.equalIn (d + 3) 34 (akv a) (akv b)).run Tryz.prog w = .ok (eqAk a b) w := by
  rw [run_equalIn_struct w (d + 2) 34 _ _ (by kernel_rfl) (by kernel_rfl)]
  simp only [Program.fieldsOf, Tryz.underlying34]
  have hi : ∀ x y : Int, (Op.equalIn (d + 2) 3 (.int .i64 x) (.int .i64 y)).run Tryz.prog w = .ok (x == y) w := fun x y => run_equalIn_int w (d + 1) 3 .i64 .i64 x y Tryz.underlying3
  have hs : ∀ x y : ByteArray, (Op.equalIn (d + 2) 9 (.string x) (.string y)).run Tryz.prog w = .ok (x.toList == y.toList) w := fun x y => run_equalIn_string w (d + 1) 9 x y Tryz.underlying9
  refine eqF_cons (by decide) (part_int _ _ _ rfl w) (part_int _ _ _ rfl w) (hi _ _) ?_
  refine eqF_cons (by decide) (part_int _ _ _ rfl w) (part_int _ _ _ rfl w) (hi _ _) ?_
  refine eqF_cons (by decide) (part_int _ _ _ rfl w) (part_int _ _ _ rfl w) (hi _ _) ?_
  refine eqF_cons (by decide) (part_int _ _ _ rfl w) (part_int _ _ _ rfl w) (hi _ _) ?_
  refine eqF_cons (by decide) (part_agg 32 _ Tryz.underlying32 rfl 4 (by kernel_rfl) _ _ _ rfl w) (part_agg 32 _ Tryz.underlying32 rfl 4 (by kernel_rfl) _ _ _ rfl w) (run_equalIn_wide' d _ _ _ _ _ _ _ _ w) ?_
  refine eqF_cons (by decide) (part_str _ _ _ rfl w) (part_str _ _ _ rfl w) (hs _ _) ?_
  exact eqF_nil
theorem run_eqAk (a b : Ak) (w : World) : (Op.equalIn 10000 34 (akv a) (akv b)).run Tryz.prog w = .ok (decide (a = b)) w := by
  rw [← eqAk_dec]
  exact run_eqAk' 9997 a b w
def eqBd (a b : Bd) : Bool := (a.ro == b.ro) && (eqAk a.k b.k && (wEq (a.b0 : Nat) (a.b1 : Nat) (a.b2 : Nat) (a.b3 : Nat) (b.b0 : Nat) (b.b1 : Nat) (b.b2 : Nat) (b.b3 : Nat) && ((a.un == b.un) && ((a.sg.toList == b.sg.toList) && true))))
theorem eqBd_dec (a b : Bd) : eqBd a b = decide (a = b) := by
  unfold eqBd wEq
  rw [beqB, Bool.and_true, eqAk_dec]
  simp only [beqI, ← Bool.decide_and]
  refine decide_eq_decide.2 ?_
  obtain ⟨u, s, c0, c1, c2, c3, t, i⟩ := a
  obtain ⟨u', s', d0, d1, d2, d3, t', i'⟩ := b
  simp only [Bd.mk.injEq, Int.natCast_inj]
  exact ⟨fun ⟨h1, h2, ⟨g0, g1, g2, g3⟩, h4, h5⟩ => ⟨h1, h2, g0, g1, g2, g3, h4, h5⟩, fun ⟨h1, h2, g0, g1, g2, g3, h4, h5⟩ => ⟨h1, h2, ⟨g0, g1, g2, g3⟩, h4, h5⟩⟩
theorem run_eqBd' (d : Nat) (a b : Bd) (w : World) : (Op.equalIn (d + 4) 36 (bdv a) (bdv b)).run Tryz.prog w = .ok (eqBd a b) w := by
  rw [run_equalIn_struct w (d + 3) 36 _ _ (by kernel_rfl) (by kernel_rfl)]
  simp only [Program.fieldsOf, Tryz.underlying36]
  have hi : ∀ x y : Int, (Op.equalIn (d + 3) 3 (.int .i64 x) (.int .i64 y)).run Tryz.prog w = .ok (x == y) w := fun x y => run_equalIn_int w (d + 2) 3 .i64 .i64 x y Tryz.underlying3
  have hs : ∀ x y : ByteArray, (Op.equalIn (d + 3) 9 (.string x) (.string y)).run Tryz.prog w = .ok (x.toList == y.toList) w := fun x y => run_equalIn_string w (d + 2) 9 x y Tryz.underlying9
  refine eqF_cons (by decide) (part_int _ _ _ rfl w) (part_int _ _ _ rfl w) (hi _ _) ?_
  refine eqF_cons (by decide) (part_agg 34 _ Tryz.underlying34 rfl 9 (by kernel_rfl) _ (akc a.k).toArray _ rfl w) (part_agg 34 _ Tryz.underlying34 rfl 9 (by kernel_rfl) _ (akc b.k).toArray _ rfl w) (run_eqAk' d a.k b.k w) ?_
  refine eqF_cons (by decide) (part_agg 32 _ Tryz.underlying32 rfl 4 (by kernel_rfl) _ _ _ rfl w) (part_agg 32 _ Tryz.underlying32 rfl 4 (by kernel_rfl) _ _ _ rfl w) (run_equalIn_wide' (d + 1) _ _ _ _ _ _ _ _ w) ?_
  refine eqF_cons (by decide) (part_int _ _ _ rfl w) (part_int _ _ _ rfl w) (hi _ _) ?_
  refine eqF_cons (by decide) (part_str _ _ _ rfl w) (part_str _ _ _ rfl w) (hs _ _) ?_
  exact eqF_nil
theorem run_eqBd (a b : Bd) (w : World) : (Op.equalIn 10000 36 (bdv a) (bdv b)).run Tryz.prog w = .ok (decide (a = b)) w := by
  rw [← eqBd_dec]
  exact run_eqBd' 9996 a b w
theorem lv_bd {W : World} {B : Nat} {T : TypeId} {x : Bd} (h : Blk W B T (bdc x)) : (loadVar 36 ⟨B, 0, none⟩).run Tryz.prog W = .ok (bdv x) W := run_loadVar_row W B T _ (bdc x).toArray (0, 0) _ h Tryz.underlying36 rfl (by kernel_rfl)
theorem lv_lt {W : World} {B : Nat} {T : TypeId} {x : Lt} (h : Blk W B T (ltc x)) : (loadVar 66 ⟨B, 0, none⟩).run Tryz.prog W = .ok (ltv x) W := run_loadVar_row W B T _ (ltc x).toArray (0, 0) _ h Tryz.underlying66 rfl (by kernel_rfl)
structure Rm where
  r0 : ByteArray
  r1 : ByteArray
  ls : List Lt
  bs : List Bd
abbrev rmc (m : Bool) (r0 r1 : ByteArray) (va vb : Value) : List Value := [.bool m, .string r0, .string r1, va, vb]
def RMR (B : Nat) (R : Rm) (va vb : Value) : List Res := [.blk B 63 (rmc true R.r0 R.r1 va vb), .own ltc 66 10 va R.ls, .own bdc 36 16 vb R.bs]
structure RmV (W : World) (B : Nat) (R : Rm) (va vb : Value) : Prop where
  b : Blk W B 63 (rmc true R.r0 R.r1 va vb)
  l : RSl ltc 0 W.heap.size W va R.ls
  o : RSl bdc 0 W.heap.size W vb R.bs
section
variable {W W' : World} {B : Nat} {R : Rm} {va vb : Value}
theorem RmV.below (h : RmV W B R va vb) (hb : Below W.heap.size W W') : RmV W' B R va vb := ⟨h.b.below hb h.b.lt, h.l.up hb, h.o.up hb⟩
theorem RmV.of (h : ROk (.join (RMR B R va vb)) W) : RmV W B R va vb := by
  have hs := Sep.begin h
  exact ⟨hs.at 0 rfl, (hs.oka 1 rfl).rsl ltc_len, (hs.oka 2 rfl).rsl bdc_len⟩
end
def RmR (B : Nat) (r : Res) (R : Rm) (a : Value) (W : World) (e : Ending) (W' : World) : Prop := e = .returned a ∧ ∃ va vb, RTurn r (.join (RMR B R va vb)) W W'
def NoR (W : World) (p : Value) : Prop := p = .pointer none ∨ ∃ B, p = .pointer (some ⟨B, 0, none⟩) ∧ Blk W B 63 (rmc false ⟨#[]⟩ ⟨#[]⟩ (.slice none 0 0) (.slice none 0 0))
theorem NoR.below {W W' : World} {p : Value} (h : NoR W p) (hb : Below W.heap.size W W') : NoR W' p := by
  rcases h with h | ⟨B, h1, h2⟩
  · exact .inl h
  · exact .inr ⟨B, h1, h2.below hb h2.lt⟩
def RowB (l : List Bd) (w : World) (e : Ending) (W' : World) : Prop := ∃ v, e = .returned v ∧ Sep w [] [.own bdc 36 16 v l] W'
def RowK (l : List Ak) (w : World) (e : Ending) (W' : World) : Prop := ∃ v, e = .returned v ∧ Sep w [] [.own akc 34 9 v l] W'
theorem RowB.b {l : List Bd} {w W' : World} {e : Ending} (h : RowB l w e W') : Below w.heap.size w W' := by obtain ⟨_, _, h⟩ := h; exact h.b
-- what its methods do
def rootR (R : Rm) (n : Int) : ByteArray := if n = 2 then R.r0 else if n = 3 then R.r1 else ⟨#[]⟩
def isA (a : Ak) (x : Lt) : Bool := decide (x.k = a)
def openL (ls : List Lt) (a : Ak) : Option Lt := ls.find? (isA a)
def fitBd (a : Ak) (p : Bd → Bool) (b : Bd) : Bool := decide (b.k = a) && p b
def forB (bs : List Bd) (a : Ak) (p : Bd → Bool) : List Bd := bs.filter (fitBd a p)
def anyB (_ : Bd) : Bool := true
def byB (n : Int) (b : Bd) : Bool := decide (b.ro = n)
def liveBd (now : Int) (b : Bd) : Bool := decide (now ≤ b.un)
def sinceI (now : Int) : Int := if now < 0 ∨ 1099511627776 < now then 0 else now
def openR (R : Rm) (a : Ak) (now : Int) : Rm × Int :=
  if errA a ≠ 0 then (R, errA a) else if (openL R.ls a).isSome then (R, 32) else if 8 ≤ R.ls.length then (R, 10) else ({ R with ls := R.ls ++ [⟨a, sinceI now⟩] }, 0)
def takesB (V : Bool) (R : Rm) (b : Bd) (now : Int) : Bool := (openL R.ls b.k).isSome && (decide (now ≤ b.un) && (V && (forB R.bs b.k (byB b.ro)).isEmpty))
def bidR (V : Bool) (R : Rm) (b : Bd) (now : Int) : Rm × Bool := if takesB V R b now = true then ({ R with bs := R.bs ++ [b] }, true) else (R, false)
def pickB (x y : Bd) : Bd := if betB y x = true then y else x
def topBd : List Bd → Option Bd
  | [] => none
  | b :: l => some (l.foldl pickB b)
def bestL (bs : List Bd) (a : Ak) (now si : Int) : Option Bd := if now < si + 1 then none else topBd (forB bs a (liveBd now))
def bestR (R : Rm) (a : Ak) (now : Int) : Option Bd := match openL R.ls a with
  | none => none
  | some l => bestL R.bs a now l.si
theorem fit_yes {a : Ak} {p : Bd → Bool} {x : Bd} (h : decide (x.k = a) = true) (h' : p x = true) : fitBd a p x = true := by unfold fitBd; rw [h, h']; rfl
theorem fit_noA {a : Ak} {p : Bd → Bool} {x : Bd} (h : decide (x.k = a) = false) : fitBd a p x = false := by unfold fitBd; rw [h]; rfl
theorem fit_noP {a : Ak} {p : Bd → Bool} {x : Bd} (h' : p x = false) : fitBd a p x = false := by unfold fitBd; rw [h', Bool.and_false]
theorem find_idx {α : Type} (p : α → Bool) (l : List α) : l.find? p = if idxG p l < 0 then none else l[(idxG p l).toNat]? := by
  unfold idxG
  cases h : l.findIdx? p with
  | none =>
    rw [if_pos (by decide)]
    exact List.find?_eq_none.2 fun x hx => by rw [List.findIdx?_eq_none_iff.1 h x hx]; decide
  | some j =>
    obtain ⟨hj, hp, hno⟩ := List.findIdx?_eq_some_iff_getElem.1 h
    rw [if_neg (by show ¬ ((j : Int) < 0); omega)]
    show _ = l[(j : Int).toNat]?
    rw [Int.toNat_natCast, List.getElem?_eq_getElem hj]
    exact List.find?_eq_some_iff_getElem.2 ⟨hp, j, hj, rfl, fun i hi => by
      have h1 := hno i hi
      simpa using h1⟩
theorem idxG_lt' {α : Type} {p : α → Bool} {l : List α} {j : Nat} (h : idxG p l = (j : Int)) : ∃ x, l[j]? = some x := by
  unfold idxG at h
  cases hf : l.findIdx? p with
  | none => rw [hf] at h; exact absurd h (by show ¬ ((-1 : Int) = _); omega)
  | some i =>
    rw [hf] at h
    obtain rfl : i = j := by have h : (i : Int) = (j : Int) := h; omega
    obtain ⟨hi, _⟩ := List.findIdx?_eq_some_iff_getElem.1 hf
    exact ⟨_, List.getElem?_eq_getElem hi⟩
theorem open_idx (ls : List Lt) (a : Ak) : openL ls a = if idxG (isA a) ls < 0 then none else ls[(idxG (isA a) ls).toNat]? := find_idx _ _
def askL (x : Lt) : Ak := x.k
theorem map_len (l : List Lt) (k : Nat) : ((l.take k).map askL).length ≤ k := by rw [List.length_map]; exact List.length_take_le _ _
def OkL (ls : List Lt) : Prop := ∀ x ∈ ls, 0 ≤ x.si ∧ x.si ≤ 1099511627776
theorem open_si {ls : List Lt} (h : OkL ls) (a : Ak) : 0 ≤ ((openL ls a).getD noL).si ∧ ((openL ls a).getD noL).si ≤ 1099511627776 := by
  cases e : openL ls a with
  | none => exact ⟨Int.le_refl _, by decide⟩
  | some x => exact h x (List.mem_of_find?_eq_some e)
theorem best_no {R : Rm} {a : Ak} {now : Int} (h : (openL R.ls a).isSome = false) : bestR R a now = none := by
  unfold bestR
  cases e : openL R.ls a with
  | none => rfl
  | some x => rw [e] at h; cases h
theorem best_L {R : Rm} {a : Ak} {now : Int} (h : (openL R.ls a).isSome = true) : bestR R a now = bestL R.bs a now ((openL R.ls a).getD noL).si := by
  unfold bestR
  cases e : openL R.ls a with
  | none => rw [e] at h; cases h
  | some x => rfl
theorem best_early {R : Rm} {a : Ak} {now : Int} (h : (openL R.ls a).isSome = true) (h' : decide (now < ((openL R.ls a).getD noL).si + 1) = true) : bestR R a now = none := by
  rw [best_L h]
  exact if_pos (of_decide_eq_true h')
theorem best_top {R : Rm} {a : Ak} {now : Int} (h : (openL R.ls a).isSome = true) (h' : decide (now < ((openL R.ls a).getD noL).si + 1) = false) : bestR R a now = topBd (forB R.bs a (liveBd now)) := by
  rw [best_L h]
  exact if_neg (of_decide_eq_false h')
theorem pick_yes {x y : Bd} (h : betB y x = true) : pickB x y = y := if_pos h
theorem pick_no {x y : Bd} (h : betB y x = false) : pickB x y = x := if_neg (by rw [h]; decide)
theorem take_fold {l : List Bd} {k : Nat} {b y : Bd} (hy : l[k]? = some y) : (l.take (k + 1)).foldl pickB b = pickB ((l.take k).foldl pickB b) y := by
  rw [take_oneG hy, List.foldl_append]
  rfl
theorem own_tail {α : Type} {f : α → List Value} {e e' ty : TypeId} {n : Nat} {W : World} {v : Value} {x : α} {l : List α} (h : ROk (.own f e n v (x :: l)) W) (hu : Tryz.prog.underlying ty = some (.slice e')) (he : Tryz.prog.elem ty = e') (hs : ∀ W, (sizeOf e').run Tryz.prog W = .ok n W) :
    ∃ a c, (∀ W', (Instr.sliceAt ty v (some (.int .i64 1)) none none).run Tryz.prog W' = .ok (.slice a l.length c) W') ∧ ∀ k, k < l.length → ∀ W0 b o, (Instr.indexAt ty v (.int .i64 ((k + 1 : Nat) : Int))).run Tryz.prog W0 = .ok (.pointer (some ⟨b, o, none⟩)) W0 → ∀ W', (Instr.indexAt ty (.slice a l.length c) (.int .i64 (k : Int))).run Tryz.prog W' = .ok (.pointer (some ⟨b, o, none⟩)) W' := by
  subst he
  rcases h.h.2 with ⟨_, h0⟩ | ⟨g, cap, cur, rfl, hg, hc, hnc, hm, hsz, ht⟩
  · cases h0
  · have hln : (x :: l).length = l.length + 1 := rfl
    have hrun : ∀ W', (Instr.sliceAt ty (.slice (some ⟨g, 0, none⟩) (x :: l).length cap) (some (.int .i64 1)) none none).run Tryz.prog W' = .ok (sliced (some ⟨g, 0, none⟩) 1 (x :: l).length cap n) W' := fun W' => by
      rw [run_sliceAt_slice W' ty _ _ _ _ hu, run_slice_l W' ty _ (x :: l).length cap hu .i64 1 (by omega) (by omega), hs W']
      rfl
    refine ⟨_, cap - 1, fun W' => (hrun W').trans (by unfold sliced; rfl), fun k hk W0 b o hi W' => ?_⟩
    have hi2 := idx_sl (W := W0) (b := g) (off := 0) (len := (x :: l).length) (cap := cap) (c := n) (k := k + 1) hu (hs W0) (by omega)
    rw [Nat.zero_add] at hi2
    obtain ⟨rfl, rfl⟩ : g = b ∧ (k + 1) * n = o := by simpa using hi2.symm.trans hi
    rw [if_neg (show ¬ cap = 1 by omega)]
    have hi3 := idx_sl (W := W') (b := g) (off := 1 * n) (len := l.length) (cap := cap - 1) (c := n) (k := k) hu (hs W') hk
    rw [show 1 * n + k * n = (k + 1) * n from (Nat.add_comm _ _).trans (Nat.add_mul k 1 n).symm] at hi3
    rw [Option.map_some, addr_add, Nat.zero_add]
    exact hi3
end Go.Proofs.YtbhfajnejibaoaaGreat
namespace Go.Proofs.YtbhfajnejibaoaaGreat
open Go.RowKit Go.Shelf
attribute [local go_sem] Oper.semAt_some
set_option maxRecDepth 100000 in
set_option maxHeartbeats 4000000 in
theorem down1_stops (F : Fence) (n : Nat) (h : F.fn 101) (hro : F.round = none) (hn : 1 ≤ n) {a0 a1 a2 a3 : Nat} (ha : Ok4 a0 a1 a2 a3) (B : Nat) (w : World) (hb : BlkW w B a0 a1 a2 a3) :
    SeqStopsK F n Tryz.prog 101 #[.pointer (some ⟨B, 0, none⟩)] pwEnc (KeepB B) (fun ys => ys = downs ha) (fun pre => pre <+: downs ha) 4 w := fun l J Jx W hW _ _ hY h0 => by
  have hb' : BlkW W B a0 a1 a2 a3 := hb.below hW hb.lt
  clear hb
  refine callsIn_of_wp Tryz.func101 rfl h ?_ hro
  simp only [Tryz.ntmps101, List.size_toArray, List.length_cons, List.length_nil, Nat.reduceAdd, Nat.reduceSub, Array.replicate_succ, Array.replicate_zero, List.push_toArray, List.append_toArray, List.nil_append, List.cons_append]
  gi_wp2
  gi_loopw [3] (fun i wr => ∃ k : Nat, k ≤ 4 ∧ i = .int .i64 (3 - (k : Int)) ∧ BlkW wr B a0 a1 a2 a3 ∧ J ((downs ha).take k) wr) (fun i _ => ((intOf i) + 1).toNat)
  case atStart => exact ⟨0, by omega, rfl, hb', h0⟩
  case round =>
    obtain ⟨k, hk, rfl, hbr, hJs⟩ := hrel
    obtain ⟨x0, x1, x2, x3⟩ := hbr.c4
    have hk' : k = 0 ∨ k = 1 ∨ k = 2 ∨ k = 3 ∨ k = 4 := by omega
    rcases hk' with rfl | rfl | rfl | rfl | rfl
    · obtain ⟨fn, tmps, assign, body, hy, hR⟩ := hY _ (pw 3 a3 (by omega) ha.h3) wr hJs (by simp [downs])
      change (Instr.yield l #[.int .i64 3, .int .u64 (a3 : Int)]).run _ _ = _ at hy
      gi_wp2
      refine hR.mono ?_
      rintro e W3 (⟨rfl, hJ3, hk3⟩ | ⟨rfl, hJx3⟩)
      · replace hbr : BlkW W3 B a0 a1 a2 a3 := hk3.trans hbr
        clear x0 x1 x2 x3
        gi_wp2
        go_roundw
        case rel => exact ⟨1, by omega, by simp, hbr, hJ3⟩
        case measure => simp [intOf]
      · gi_wp2
        refine bodyPost_ret (results_none rfl _ _ _) rfl ?_
        exact ⟨⟨_, rfl⟩, .inr ⟨(downs ha).take 1, List.take_prefix _ _, hJx3⟩⟩
    · obtain ⟨fn, tmps, assign, body, hy, hR⟩ := hY _ (pw 2 a2 (by omega) ha.h2) wr hJs (by simp [downs])
      change (Instr.yield l #[.int .i64 2, .int .u64 (a2 : Int)]).run _ _ = _ at hy
      gi_wp2
      refine hR.mono ?_
      rintro e W3 (⟨rfl, hJ3, hk3⟩ | ⟨rfl, hJx3⟩)
      · replace hbr : BlkW W3 B a0 a1 a2 a3 := hk3.trans hbr
        clear x0 x1 x2 x3
        gi_wp2
        go_roundw
        case rel => exact ⟨2, by omega, by simp, hbr, hJ3⟩
        case measure => simp [intOf]
      · gi_wp2
        refine bodyPost_ret (results_none rfl _ _ _) rfl ?_
        exact ⟨⟨_, rfl⟩, .inr ⟨(downs ha).take 2, List.take_prefix _ _, hJx3⟩⟩
    · obtain ⟨fn, tmps, assign, body, hy, hR⟩ := hY _ (pw 1 a1 (by omega) ha.h1) wr hJs (by simp [downs])
      change (Instr.yield l #[.int .i64 1, .int .u64 (a1 : Int)]).run _ _ = _ at hy
      gi_wp2
      refine hR.mono ?_
      rintro e W3 (⟨rfl, hJ3, hk3⟩ | ⟨rfl, hJx3⟩)
      · replace hbr : BlkW W3 B a0 a1 a2 a3 := hk3.trans hbr
        clear x0 x1 x2 x3
        gi_wp2
        go_roundw
        case rel => exact ⟨3, by omega, by simp, hbr, hJ3⟩
        case measure => simp [intOf]
      · gi_wp2
        refine bodyPost_ret (results_none rfl _ _ _) rfl ?_
        exact ⟨⟨_, rfl⟩, .inr ⟨(downs ha).take 3, List.take_prefix _ _, hJx3⟩⟩
    · obtain ⟨fn, tmps, assign, body, hy, hR⟩ := hY _ (pw 0 a0 (by omega) ha.h0) wr hJs (by simp [downs])
      change (Instr.yield l #[.int .i64 0, .int .u64 (a0 : Int)]).run _ _ = _ at hy
      gi_wp2
      refine hR.mono ?_
      rintro e W3 (⟨rfl, hJ3, hk3⟩ | ⟨rfl, hJx3⟩)
      · replace hbr : BlkW W3 B a0 a1 a2 a3 := hk3.trans hbr
        clear x0 x1 x2 x3
        gi_wp2
        go_roundw
        case rel => exact ⟨4, by omega, by simp, hbr, hJ3⟩
        case measure => simp [intOf]
      · gi_wp2
        refine bodyPost_ret (results_none rfl _ _ _) rfl ?_
        exact ⟨⟨_, rfl⟩, .inr ⟨(downs ha).take 4, List.take_prefix _ _, hJx3⟩⟩
    · gi_wp2
      go_end0
      exact ⟨⟨_, rfl⟩, .inl ⟨_, rfl, hJs⟩⟩
set_option maxHeartbeats 1000000 in
theorem down_in (F : Fence) (n : Nat) (h : F.fn 82) (hro : F.round = none) (a0 a1 a2 a3 : Nat) (w : World) :
    CallsIn F n Tryz.prog 82 #[wv a0 a1 a2 a3] w fun e w' => e = .returned (.func (.func 101) #[] #[.pointer (some ⟨w.heap.size, 0, none⟩)]) ∧ w' = w.alloc (.cells #[.int .u64 a0, .int .u64 a1, .int .u64 a2, .int .u64 a3] 32) := by
  refine callsIn_of_wp Tryz.func82 rfl h ?_ hro
  simp only [Tryz.ntmps82, List.size_toArray, List.length_cons, List.length_nil, Nat.reduceAdd, Nat.reduceSub, Array.replicate_succ, Array.replicate_zero, List.push_toArray, List.append_toArray, List.nil_append, List.cons_append]
  gi_wp2
  go_ret
  exact ⟨rfl, rfl⟩
end Go.Proofs.YtbhfajnejibaoaaGreat
namespace Go.Proofs.YtbhfajnejibaoaaGreat
open Go.RowKit Go.Shelf
attribute [local go_sem] Oper.semAt_some
set_option maxHeartbeats 1000000 in
theorem compare_any (x y : Nat) (w : World) : Calls Tryz.prog 83 #[.int .u64 (x : Int), .int .u64 (y : Int)] w fun e w' => e = .returned (.int .i64 (cmpN x y)) ∧ w' = w := by
  have hxx : ((x : Int) == (x : Int)) = true := by simp
  have hyy : ((y : Int) == (y : Int)) = true := by simp
  rcases Nat.lt_trichotomy x y with h | h | h
  · have h1 : (x : Int) < (y : Int) := by omega
    have HC : Hid (cmpN x y = -1) := Lib.hid (by unfold cmpN; rw [if_pos h])
    go_enter Tryz.func83, Tryz.ntmps83
    go_wp2
    go_ret
    exact ⟨by rw [HC.out]; rfl, rfl⟩
  · have h1 : ¬ (x : Int) < (y : Int) := by omega
    have h2 : ¬ (y : Int) < (x : Int) := by omega
    have HC : Hid (cmpN x y = 0) := Lib.hid (by unfold cmpN; rw [if_neg (by omega), if_neg (by omega)])
    clear h
    go_enter Tryz.func83, Tryz.ntmps83
    go_wp2
    go_ret
    exact ⟨by rw [HC.out]; rfl, rfl⟩
  · have h1 : ¬ (x : Int) < (y : Int) := by omega
    have h2 : (y : Int) < (x : Int) := by omega
    have HC : Hid (cmpN x y = 1) := Lib.hid (by unfold cmpN; rw [if_neg (by omega), if_pos h])
    go_enter Tryz.func83, Tryz.ntmps83
    go_wp2
    go_ret
    exact ⟨by rw [HC.out]; rfl, rfl⟩
def fd (b : Nat → Nat) (pre : List PW) : Option PW := pre.find? fun p => decide (p.1.2 ≠ b p.1.1)
theorem fd_hit {b : Nat → Nat} {pre : List PW} {x : PW} (h : fd b pre = none) (hx : x.1.2 ≠ b x.1.1) : fd b (pre ++ [x]) = some x := by
  unfold fd at *; rw [List.find?_append, h]; simp [hx]
theorem fd_miss {b : Nat → Nat} {pre : List PW} {x : PW} (h : fd b pre = none) (hx : x.1.2 = b x.1.1) : fd b (pre ++ [x]) = none := by
  unfold fd at *; rw [List.find?_append, h]; simp [hx]
theorem fd_prefix {b : Nat → Nat} {pre ys : List PW} {p : PW} (h : fd b pre = some p) (hp : pre <+: ys) : fd b ys = some p := by
  obtain ⟨t, rfl⟩ := hp
  unfold fd at *; rw [List.find?_append, h]; rfl
theorem cmp_words {a0 a1 a2 a3 b0 b1 b2 b3 : Nat} (ha : Ok4 a0 a1 a2 a3) (hb : Ok4 b0 b1 b2 b3) :
    cmpN (val a0 a1 a2 a3) (val b0 b1 b2 b3) = if a3 ≠ b3 then cmpN a3 b3 else if a2 ≠ b2 then cmpN a2 b2 else if a1 ≠ b1 then cmpN a1 b1 else if a0 ≠ b0 then cmpN a0 b0 else 0 := by
  obtain ⟨h0, h1, h2, h3⟩ := ha
  obtain ⟨k0, k1, k2, k3⟩ := hb
  have less : ∀ {x y X Y : Nat}, x < M → y < M → X < Y → x + M * X < y + M * Y := fun {x y X Y} hx hy h => by
    have : M * (X + 1) ≤ M * Y := Nat.mul_le_mul_left _ h
    rw [Nat.mul_add] at this
    omega
  have step : ∀ {x y X Y : Nat}, x < M → y < M → cmpN (x + M * X) (y + M * Y) = if X ≠ Y then cmpN X Y else cmpN x y := fun {x y X Y} hx hy => by
    unfold cmpN
    rcases Nat.lt_trichotomy X Y with h | h | h
    · rw [if_pos (less hx hy h), if_pos (by omega), if_pos h]
    · subst h
      rw [if_neg (by omega : ¬ X ≠ X)]
      simp only [Nat.add_lt_add_iff_right]
    · have := less hy hx h
      rw [if_neg (by omega), if_pos this, if_pos (by omega), if_neg (by omega), if_pos h]
  unfold val
  rw [step h0 k0, step h1 k1, step h2 k2]
  by_cases e3 : a3 = b3
  · subst e3
    by_cases e2 : a2 = b2
    · subst e2
      by_cases e1 : a1 = b1
      · subst e1
        by_cases e0 : a0 = b0
        · subst e0; simp [cmpN]
        · simp [e0]
      · have : a1 + M * (a2 + M * a3) ≠ b1 + M * (a2 + M * a3) := by omega
        simp [e1]
    · have l1 : a2 + M * a3 ≠ b2 + M * a3 := by omega
      have l2 : a1 + M * (a2 + M * a3) ≠ b1 + M * (b2 + M * a3) := by
        rcases Nat.lt_trichotomy (a2 + M * a3) (b2 + M * a3) with h | h | h
        · have := less h1 k1 h; omega
        · exact absurd h l1
        · have := less k1 h1 h; omega
      simp [e2, l2]
  · have l1 : a2 + M * a3 ≠ b2 + M * b3 := by
      rcases Nat.lt_trichotomy a3 b3 with h | h | h
      · have := less h2 k2 h; omega
      · exact absurd h e3
      · have := less k2 h2 h; omega
    have l2 : a1 + M * (a2 + M * a3) ≠ b1 + M * (b2 + M * b3) := by
      rcases Nat.lt_trichotomy (a2 + M * a3) (b2 + M * b3) with h | h | h
      · have := less h1 k1 h; omega
      · exact absurd h l1
      · have := less k1 h1 h; omega
    simp [e3, l1, l2]
theorem fd_downs {a0 a1 a2 a3 b0 b1 b2 b3 : Nat} (ha : Ok4 a0 a1 a2 a3) (hb : Ok4 b0 b1 b2 b3) : ((fd (word b0 b1 b2 b3) (downs ha)).map fun p => cmpN p.1.2 (word b0 b1 b2 b3 p.1.1)).getD 0 = cmpN (val a0 a1 a2 a3) (val b0 b1 b2 b3) := by
  rw [cmp_words ha hb]
  by_cases h3 : a3 = b3
  · by_cases h2 : a2 = b2
    · by_cases h1 : a1 = b1
      · by_cases h0 : a0 = b0
        · simp [fd, downs, pw, word, List.find?, h0, h1, h2, h3]
        · simp [fd, downs, pw, word, List.find?, h0, h1, h2, h3]
      · simp [fd, downs, pw, word, List.find?, h1, h2, h3]
    · simp [fd, downs, pw, word, List.find?, h2, h3]
  · simp [fd, downs, pw, word, h3]
set_option maxRecDepth 100000 in
set_option maxHeartbeats 4000000 in
theorem cmp_in (n : Nat) (hn : 3 ≤ n) {a0 a1 a2 a3 b0 b1 b2 b3 : Nat} (ha : Ok4 a0 a1 a2 a3) (hb : Ok4 b0 b1 b2 b3) (w : World) :
    CallsIn Fence.wide n Tryz.prog 57 #[wv a0 a1 a2 a3, wv b0 b1 b2 b3] w fun e W' => e = .returned (.int .i64 (cmpN (val a0 a1 a2 a3) (val b0 b1 b2 b3))) ∧ Below w.heap.size w W' := by
  have h1 : 1 ≤ n := by omega
  refine callsIn_of_wp_marks Tryz.func57 rfl trivial ?_ rfl
  simp only [Tryz.ntmps57, List.size_toArray, List.length_cons, List.length_nil, Nat.reduceAdd, Nat.reduceSub, Array.replicate_succ, Array.replicate_zero, List.push_toArray, List.append_toArray, List.nil_append, List.cons_append]
  gi_wp2_with (refine ⟨trivial, ?_⟩; gi_at_call 82; refine (down_in Fence.wide (n - 1) trivial rfl _ _ _ _ _).mono ?_; rintro e w' ⟨rfl, rfl⟩)
  generalize hW5 : World.alloc _ _ = W5
  have k1 : Blk W5 (w.heap.size + 1) 32 (ws (word b0 b1 b2 b3)) := by rw [← hW5]; exact ((Blk.new' (by simp)).alloc _).alloc _
  have k2 : Blk W5 (w.heap.size + 1 + 1) 3 [.int .i64 0] := by rw [← hW5]; exact (Blk.new' (by simp)).alloc _
  have k5 : BlkW W5 (w.heap.size + 1 + 1 + 1) a0 a1 a2 a3 := by rw [← hW5]; exact Blk.new' (by simp)
  have hB0 : Below w.heap.size w W5 := by rw [← hW5]; exact chainA (chainA (chainA (chain0 _ _) _) _) _
  have hz : W5.heap.size = w.heap.size + 4 := by rw [← hW5]; simp
  clear hW5
  refine wpIn_rangeFunc_ownF (S := fun ys => ys = downs ha) rfl h1 (gf := 101) (lb := #[.pointer (some ⟨w.heap.size + 1 + 1 + 1, 0, none⟩)]) rfl trivial (enters_of Tryz.func101 (by kernel_rfl) rfl)
    (down1_stops Fence.wide (n - 1) trivial rfl (by omega) ha (w.heap.size + 1 + 1 + 1) W5 k5) KeepB.t (KeepB.b k5.lt) (Below.refl _ _) (fun _ => rfl)
    (fun pre W => (Blk W (w.heap.size + 1) 32 (ws (word b0 b1 b2 b3)) ∧ Blk W (w.heap.size + 1 + 1) 3 [.int .i64 0] ∧ fd (word b0 b1 b2 b3) pre = none) ∧ Below w.heap.size w W)
    (fun c pre W => (Blk W (w.heap.size + 1 + 1) 3 [.int .i64 (((fd (word b0 b1 b2 b3) pre).map fun p => cmpN p.1.2 (word b0 b1 b2 b3 p.1.1)).getD 0)] ∧ c = .ret ∧ ∃ p, fd (word b0 b1 b2 b3) pre = some p) ∧ Below w.heap.size w W)
    (OwnFrom.and (Own.from (fun s A B row hs hg hr => ⟨blk_own _ _ (fun _ => _) s A B row hs.1 hg hr, blk_own _ _ (fun _ => _) s A B row hs.2.1 hg hr, hs.2.2⟩) _) (ownFrom_below (Nat.le_refl _) (by omega)))
    (fun c => OwnFrom.and (Own.from (fun s A B row hs hg hr => ⟨blk_own _ _ (fun pre => [.int .i64 (((fd (word b0 b1 b2 b3) pre).map fun p => cmpN p.1.2 (word b0 b1 b2 b3 p.1.1)).getD 0)]) s A B row hs.1 hg hr, hs.2⟩) _) (ownFrom_below (Nat.le_refl _) (by omega)))
    ⟨⟨k1, k2, rfl⟩, hB0⟩
    (fun x => { tmps := #[wv a0 a1 a2 a3, wv b0 b1 b2 b3, .pointer (some ⟨w.heap.size, 0, none⟩), .pointer (some ⟨w.heap.size + 1, 0, none⟩), .pointer (some ⟨w.heap.size + 1 + 1, 0, none⟩), .int .i64 (x.1.1 : Int), .int .u64 (x.1.2 : Int), undef, wv a0 a1 a2 a3, .func (.func 101) #[] #[.pointer (some ⟨w.heap.size + 1 + 1 + 1, 0, none⟩)], .int .i64 (x.1.1 : Int), .int .u64 (x.1.2 : Int), undef, undef, undef, undef, undef, undef, undef, undef], defers := [] }) ?assign ?body ?done ?stop
  case assign =>
    intro l x W K hK
    gi_wp2
    exact hK
  case body =>
    rintro l pre ⟨⟨i, x⟩, hi, hx⟩ W ⟨⟨k1, k2, hf⟩, hB⟩ _
    dsimp only at hi hx
    have hf' := fun (e : x ≠ word b0 b1 b2 b3 i) => fd_hit (b := word b0 b1 b2 b3) (x := ⟨(i, x), hi, hx⟩) hf e
    have hg' := fun (e : x = word b0 b1 b2 b3 i) => fd_miss (b := word b0 b1 b2 b3) (x := ⟨(i, x), hi, hx⟩) hf e
    have HF := Lib.hid hf'
    have HG := Lib.hid hg'
    clear hf hf' hg'
    have hi' : (i : Int) < 4 := by omega
    have c1 := k1.cell i
    rw [ws_at _ hi] at c1
    have c2 : W.cell? ⟨w.heap.size + 1 + 1, 0, none⟩ = some (.int .i64 0) := k2.cell 0
    have f2 := k2.frozen 0
    have hne : cmpN x (word b0 b1 b2 b3 i) = 0 ↔ x = word b0 b1 b2 b3 i := by
      unfold cmpN
      split
      · omega
      · split <;> omega
    have HN := Lib.hid hne
    clear hne
    gi_wp2_with fail
    refine ⟨trivial, (fun _ => by omega), ?_⟩
    refine (CallsIn.inRound l (callsIn_wide.2 (compare_any _ _ _))).mono ?_
    rintro e w' ⟨rfl, rfl⟩
    generalize hcg : cmpN x (word b0 b1 b2 b3 i) = c at *
    have HC := Lib.hid hcg
    clear hcg
    by_cases hc0 : c = 0
    · have hcb : (c == 0) = true := by simp [hc0]
      have hxe := HN.out.1 hc0
      have HX := Lib.hid hxe
      clear hxe hc0
      gi_wp2
      exact ⟨KeepsOthers.refl _, KeepB.refl _ _, ⟨k1, k2, HG.out HX.out⟩, hB⟩
    · have hcb : (c == 0) = false := by simp [hc0]
      have hxe : x ≠ word b0 b1 b2 b3 i := fun e => hc0 (HN.out.2 e)
      have HX := Lib.hid hxe
      clear hxe hc0
      gi_wp2
      refine ⟨KeepsOthers.setCell _ _ _, ⟨?_, rfl, _, HF.out HX.out⟩, hB.setCell (p := ⟨w.heap.size + 1 + 1, 0, none⟩) (by simp; omega) _⟩
      rw [HF.out HX.out]
      have kk := k2.set 0 (.int .i64 c)
      rw [← HC.out] at kk ⊢
      exact kk
  case done =>
    rintro D ys W hD rfl ⟨⟨k1, k2, hf⟩, hB⟩ hK
    have c2 : W.cell? ⟨w.heap.size + 1 + 1, 0, none⟩ = some (.int .i64 0) := k2.cell 0
    have f2 := k2.frozen 0
    have hbits := fd_downs ha hb
    rw [hf] at hbits
    have HB := Lib.hid hbits
    have HF := Lib.hid hf
    clear hbits hf
    gi_wp2
    have hK' := (KeepsOthers.setCell W ⟨w.heap.size + 1 + 1, 0, none⟩ (.int .i64 0)).same D _ hK rfl
    have k2' := (k2.set 0 (.int .i64 0)).kept (grownBy_putObj' _ D (.deferred none)) (by intro e; cases e; omega)
    have r0 := k2'.cell 0
    simp only [List.set_cons_zero, List.getElem?_cons_zero] at r0
    have hB' := (hB.setCell (p := ⟨w.heap.size + 1 + 1, 0, none⟩) (by simp; omega) (.int .i64 0)).trans (belowK_b (w := w) (Nat.le_refl _) _ D _ (.deferred none) (by omega) hK' rfl rfl)
    refine ⟨by simp, .inl ⟨_, _, rfl, run_takeDeferred hK', ?_⟩⟩
    refine ⟨.int .i64 0, ?_, ?_⟩
    · simp [results, Tryz.f57, go_sem, r0]
    · exact ⟨by rw [← HB.out]; rfl, hB'⟩
  case stop =>
    rintro D c pre W hD hpre ⟨⟨k2, rfl, hp⟩, hB⟩ hK
    obtain ⟨p, hp⟩ := hp
    have hbits : ((fd (word b0 b1 b2 b3) pre).map fun p => cmpN p.1.2 (word b0 b1 b2 b3 p.1.1)).getD 0 = cmpN (val a0 a1 a2 a3) (val b0 b1 b2 b3) := by rw [hp, ← fd_prefix hp hpre]; exact fd_downs ha hb
    rw [hbits] at k2
    clear hbits hp
    gi_wp2
    have k2' := k2.kept (grownBy_putObj' _ D (.deferred none)) (by intro e; cases e; omega)
    have r0 := k2'.cell 0
    simp only [List.getElem?_cons_zero] at r0
    have hB' := hB.trans (belowK_b (w := w) (Nat.le_refl _) _ D _ (.deferred none) (by omega) hK rfl rfl)
    refine ⟨by simp, .inl ⟨_, _, rfl, run_takeDeferred hK, ?_⟩⟩
    refine ⟨.int .i64 (cmpN (val a0 a1 a2 a3) (val b0 b1 b2 b3)), ?_, ?_⟩
    · simp [results, Tryz.f57, go_sem, r0]
    · exact ⟨rfl, hB'⟩
theorem cmp_any {a0 a1 a2 a3 b0 b1 b2 b3 : Nat} (ha : Ok4 a0 a1 a2 a3) (hb : Ok4 b0 b1 b2 b3) (w : World) :
    Calls Tryz.prog 57 #[wv a0 a1 a2 a3, wv b0 b1 b2 b3] w fun e W' => e = .returned (.int .i64 (cmpN (val a0 a1 a2 a3) (val b0 b1 b2 b3))) ∧ Below w.heap.size w W' := callsIn_wide.1 (cmp_in 3 (by omega) ha hb w)
end Go.Proofs.YtbhfajnejibaoaaGreat
namespace Go.Proofs.YtbhfajnejibaoaaGreat
open Go.RowKit Go.Shelf
theorem Blk.c6 {W : World} {B : Nat} {t : TypeId} {v0 v1 v2 v3 v4 v5 : Value} (h : Blk W B t [v0, v1, v2, v3, v4, v5]) :
    W.cell? ⟨B, 0, none⟩ = some v0 ∧ W.cell? ⟨B, 1, none⟩ = some v1 ∧ W.cell? ⟨B, 2, none⟩ = some v2 ∧ W.cell? ⟨B, 3, none⟩ = some v3 ∧ W.cell? ⟨B, 4, none⟩ = some v4 ∧ W.cell? ⟨B, 5, none⟩ = some v5 :=
  ⟨h.cell 0, h.cell 1, h.cell 2, h.cell 3, h.cell 4, h.cell 5⟩
theorem Blk.c9 {W : World} {B : Nat} {t : TypeId} {v0 v1 v2 v3 v4 v5 v6 v7 v8 : Value} (h : Blk W B t [v0, v1, v2, v3, v4, v5, v6, v7, v8]) :
    W.cell? ⟨B, 0, none⟩ = some v0 ∧ W.cell? ⟨B, 1, none⟩ = some v1 ∧ W.cell? ⟨B, 2, none⟩ = some v2 ∧ W.cell? ⟨B, 3, none⟩ = some v3 ∧ W.cell? ⟨B, 4, none⟩ = some v4 ∧ W.cell? ⟨B, 5, none⟩ = some v5 ∧ W.cell? ⟨B, 6, none⟩ = some v6 ∧ W.cell? ⟨B, 7, none⟩ = some v7 ∧ W.cell? ⟨B, 8, none⟩ = some v8 :=
  ⟨h.cell 0, h.cell 1, h.cell 2, h.cell 3, h.cell 4, h.cell 5, h.cell 6, h.cell 7, h.cell 8⟩
theorem Blk.c16 {W : World} {B : Nat} {t : TypeId} {v0 v1 v2 v3 v4 v5 v6 v7 v8 v9 v10 v11 v12 v13 v14 v15 : Value} (h : Blk W B t [v0, v1, v2, v3, v4, v5, v6, v7, v8, v9, v10, v11, v12, v13, v14, v15]) :
    W.cell? ⟨B, 0, none⟩ = some v0 ∧ W.cell? ⟨B, 1, none⟩ = some v1 ∧ W.cell? ⟨B, 2, none⟩ = some v2 ∧ W.cell? ⟨B, 3, none⟩ = some v3 ∧ W.cell? ⟨B, 4, none⟩ = some v4 ∧ W.cell? ⟨B, 5, none⟩ = some v5 ∧ W.cell? ⟨B, 6, none⟩ = some v6 ∧ W.cell? ⟨B, 7, none⟩ = some v7 ∧ W.cell? ⟨B, 8, none⟩ = some v8 ∧ W.cell? ⟨B, 9, none⟩ = some v9 ∧ W.cell? ⟨B, 10, none⟩ = some v10 ∧ W.cell? ⟨B, 11, none⟩ = some v11 ∧ W.cell? ⟨B, 12, none⟩ = some v12 ∧ W.cell? ⟨B, 13, none⟩ = some v13 ∧ W.cell? ⟨B, 14, none⟩ = some v14 ∧ W.cell? ⟨B, 15, none⟩ = some v15 :=
  ⟨h.cell 0, h.cell 1, h.cell 2, h.cell 3, h.cell 4, h.cell 5, h.cell 6, h.cell 7, h.cell 8, h.cell 9, h.cell 10, h.cell 11, h.cell 12, h.cell 13, h.cell 14, h.cell 15⟩
end Go.Proofs.YtbhfajnejibaoaaGreat
namespace Go.Proofs.YtbhfajnejibaoaaGreat
open Go.RowKit Go.Shelf
set_option maxRecDepth 100000 in
set_option maxHeartbeats 2000000 in
theorem better_any (a b : Bd) (ha : OkB a) (hb : OkB b) (w : World) :
    Calls Tryz.prog 37 #[bdv a, bdv b] w fun e W' => e = .returned (.bool (betB a b)) ∧ Below w.heap.size w W' := by
  have HV := Lib.hid (fun W => cmp_any ha.b hb.b W)
  have kA := (Blk.new w 36 (bdc a)).alloc (.cells (bdc b).toArray 36)
  have kB : Blk ((w.alloc (.cells (bdc a).toArray 36)).alloc (.cells (bdc b).toArray 36)) (w.heap.size + 1) 36 (bdc b) := Blk.new' (by simp)
  have hB := chainA (chain0 w (.cells (bdc a).toArray 36)) (.cells (bdc b).toArray 36)
  rcases Nat.lt_trichotomy (val a.b0 a.b1 a.b2 a.b3) (val b.b0 b.b1 b.b2 b.b3) with h | h | h
  · have hc : cmpN (val a.b0 a.b1 a.b2 a.b3) (val b.b0 b.b1 b.b2 b.b3) = -1 := if_pos h
    have HX : Hid (betB a b = false) := Lib.hid (decide_eq_false (by omega))
    rw [hc] at HV
    clear h hc
    go_enter Tryz.func37, Tryz.ntmps37
    go_wp2_with (go_at_call 57; refine (HV.out _).mono ?_; rintro e W1 ⟨rfl, hb1⟩; replace hB := chain hB hb1)
    go_ret
    exact ⟨by rw [HX.out]; rfl, hB⟩
  · have hc : cmpN (val a.b0 a.b1 a.b2 a.b3) (val b.b0 b.b1 b.b2 b.b3) = 0 := by unfold cmpN; rw [if_neg (by omega), if_neg (by omega)]
    rw [hc] at HV
    by_cases hr : a.ro < b.ro
    · have HX : Hid (betB a b = true) := Lib.hid (decide_eq_true (Or.inr ⟨h, hr⟩))
      clear h hc
      go_enter Tryz.func37, Tryz.ntmps37
      go_wp2_with (go_at_call 57; refine (HV.out _).mono ?_; rintro e W1 ⟨rfl, hb1⟩; replace hB := chain hB hb1; replace kA := kA.below hb1 kA.lt; replace kB := kB.below hb1 kB.lt; have ca := (kA.cell 0).trans rfl; have cb := (kB.cell 0).trans rfl)
      go_ret
      exact ⟨by rw [HX.out]; rfl, hB⟩
    · have HX : Hid (betB a b = false) := Lib.hid (decide_eq_false (by omega))
      have hd : decide (a.ro < b.ro) = false := by simpa using hr
      clear h hc
      go_enter Tryz.func37, Tryz.ntmps37
      go_wp2_with (go_at_call 57; refine (HV.out _).mono ?_; rintro e W1 ⟨rfl, hb1⟩; replace hB := chain hB hb1; replace kA := kA.below hb1 kA.lt; replace kB := kB.below hb1 kB.lt; have ca := (kA.cell 0).trans rfl; have cb := (kB.cell 0).trans rfl)
      go_ret
      exact ⟨by rw [HX.out]; rfl, hB⟩
  · have hc : cmpN (val a.b0 a.b1 a.b2 a.b3) (val b.b0 b.b1 b.b2 b.b3) = 1 := by unfold cmpN; rw [if_neg (by omega), if_pos h]
    have HX : Hid (betB a b = true) := Lib.hid (decide_eq_true (Or.inl h))
    rw [hc] at HV
    clear h hc
    go_enter Tryz.func37, Tryz.ntmps37
    go_wp2_with (go_at_call 57; refine (HV.out _).mono ?_; rintro e W1 ⟨rfl, hb1⟩; replace hB := chain hB hb1)
    go_ret
    exact ⟨by rw [HX.out]; rfl, hB⟩
end Go.Proofs.YtbhfajnejibaoaaGreat
namespace Go.Proofs.YtbhfajnejibaoaaGreat
open Go.RowKit Go.Shelf
attribute [local irreducible] wpFrom wpAnyH StepH
set_option maxRecDepth 100000 in
set_option maxHeartbeats 4000000 in
theorem window_any (d : Int) (w : World) : Calls Tryz.prog 35 #[.int .i64 d] w fun e W' => e = .returned (.int .i64 1) ∧ Below w.heap.size w W' := by
  have hmx : Tryz.prog.follows .mixedOrders = true := by kernel_rfl
  have hM := Sep.start w
  go_enter Tryz.func35, Tryz.ntmps35
  go_upto_region 0 with fail
  refine wp_region_fromM (fun W => Sep w [] [] W) hM ?_
  clear hM
  rintro Y1 hM
  refine tF 1 [.val 0 (some 2) (.int .i64 0)] trivial ?_
  refine dF ?_
  try simp only [puts, Tk.put, Act.put, List.setIfInBounds_toArray, List.set_cons_zero, List.set_cons_succ]
  go_upto_region 1 with fail
  refine wp_region_fromM (fun W => Sep w [] [] W) hM ?_
  clear hM
  rintro Y2 hM
  refine tF 1 [.val 0 (some 2) (.int .i64 1)] trivial ?_
  refine dF ?_
  try simp only [puts, Tk.put, Act.put, List.setIfInBounds_toArray, List.set_cons_zero, List.set_cons_succ]
  go_wp2_with fail
  go_ret
  exact ⟨rfl, hM.b⟩
end Go.Proofs.YtbhfajnejibaoaaGreat
namespace Go.Proofs.YtbhfajnejibaoaaGreat
open Go.RowKit Go.Shelf
attribute [local irreducible] wpFrom wpAnyH StepH
set_option maxRecDepth 100000 in
set_option maxHeartbeats 4000000 in
theorem rmThere_yes {B : Nat} {r0 r1 : ByteArray} {va vb : Value} (w : World) (hB : Blk w B 63 (rmc true r0 r1 va vb)) : Calls Tryz.prog 21 #[.pointer (some ⟨B, 0, none⟩)] w fun e W' => e = .returned (.bool true) ∧ Below w.heap.size w W' := by
  have hmx : Tryz.prog.follows .mixedOrders = true := by kernel_rfl
  have HB := Lib.hid hB
  clear hB
  have hM := Sep.start w
  go_enter Tryz.func21, Tryz.ntmps21
  go_upto_region 0 with fail
  refine wp_region_fromM (fun W => Sep w [] [] W) hM ?_
  clear hM
  rintro Y1 hM
  refine tF 1 [.val 0 (some 2) (.bool false)] trivial ?_
  refine dF ?_
  try simp only [puts, Tk.put, Act.put, List.setIfInBounds_toArray, List.set_cons_zero, List.set_cons_succ]
  go_upto_region 1 with fail
  refine wp_region_fromM (fun W => Sep w [] [] W) hM ?_
  clear hM
  rintro Y2 hM
  refine tF 9 [.val 0 (some 3) (pt B 0), .val 1 (some 4) (.bool true), .val 2 (some 5) (.bool true), .val 3 (some 6) (pt B 0), .val 4 (some 7) (pt B 0), .val 5 (some 8) (pt B 0), .load 6 (some 9) 4 (pt B 0) (.bool true), .val 7 (some 10) (.bool true), .val 8 (some 2) (.bool true)] ⟨ld_any _ _ Tryz.underlying4 rfl (HB.out.below hM.b HB.out.lt) 0 rfl, trivial⟩ ?_
  refine dF ?_
  try simp only [puts, Tk.put, Act.put, List.setIfInBounds_toArray, List.set_cons_zero, List.set_cons_succ]
  go_wp2_with fail
  go_ret
  exact ⟨rfl, hM.b⟩
theorem root_0 {R : Rm} {n : Int} (h : n = 2) : rootR R n = R.r0 := if_pos h
theorem root_1 {R : Rm} {n : Int} (h : n = 3) : rootR R n = R.r1 := by subst h; rfl
theorem root_2 {R : Rm} {n : Int} (h : ¬ n = 2) (h' : ¬ n = 3) : rootR R n = ⟨#[]⟩ := by unfold rootR; rw [if_neg h, if_neg h']
set_option maxRecDepth 100000 in
set_option maxHeartbeats 4000000 in
theorem rmRoot_any {B : Nat} {R : Rm} {va vb : Value} (n : Int) (w : World) (hv : RmV w B R va vb) : Calls Tryz.prog 31 #[.pointer (some ⟨B, 0, none⟩), .int .i64 n] w fun e W' => e = .returned (.string (rootR R n)) ∧ Below w.heap.size w W' := by
  have hmx : Tryz.prog.follows .mixedOrders = true := by kernel_rfl
  have hl := hv.l
  have ho := hv.o
  have hhl := Nat.le_refl w.heap.size
  have hho := Nat.le_refl w.heap.size
  have HEl := Lib.hid (fun k x (hx : R.ls[k]? = some x) => hl.elem ltc_len hx Tryz.underlying61 (fun W => by kernel_rfl))
  obtain ⟨pl, cl, rfl⟩ := hl.slice
  have HLl := Lib.hid hl
  have HHl := Lib.hid hhl
  have HLENl := Lib.hid (show R.ls.length ≤ 9223372036854775807 from by have h := hl.len; unfold maxLen at h; omega)
  clear hl hhl
  have HEo := Lib.hid (fun k x (hx : R.bs[k]? = some x) => ho.elem bdc_len hx Tryz.underlying43 (fun W => by kernel_rfl))
  obtain ⟨po, co, rfl⟩ := ho.slice
  have HLo := Lib.hid ho
  have HHo := Lib.hid hho
  have HLENo := Lib.hid (show R.bs.length ≤ 9223372036854775807 from by have h := ho.len; unfold maxLen at h; omega)
  clear ho hho
  have HV := Lib.hid hv
  clear hv
  have hM := Sep.start w
  go_enter Tryz.func31, Tryz.ntmps31
  go_upto_region 0 with fail
  refine wp_region_fromM (fun W => Sep w [] [] W) hM ?_
  clear hM
  rintro Y1 hM
  refine tF 1 [.val 0 (some 4) (.string ⟨#[]⟩)] trivial ?_
  refine dF ?_
  try simp only [puts, Tk.put, Act.put, List.setIfInBounds_toArray, List.set_cons_zero, List.set_cons_succ]
  go_upto_region 1 with fail
  refine wp_region_fromM (fun W => Sep w [] [] W) hM ?_
  clear hM
  rintro Y2 hM
  refine tF 5 [.val 0 (some 7) (pt B 0), .val 1 (some 8) (pt B 0), .val 2 (some 9) (pt B 1), .load 3 (some 10) 60 (pt B 1) (.agg #[.string R.r0, .string R.r1]), .val 4 (some 11) (.int .i64 0)] ⟨load_part (HV.out.below hM.b).b 1 ([.string R.r0, .string R.r1]) rfl _ _ Tryz.underlying60 rfl (by kernel_rfl), trivial⟩ ?_
  refine dF ?_
  try simp only [puts, Tk.put, Act.put, List.setIfInBounds_toArray, List.set_cons_zero, List.set_cons_succ]
  go_wp2_with fail
  go_loopw [11] (fun i wr => (i = .int .i64 0 ∨ (i = .int .i64 1 ∧ ¬ n = 2) ∨ (i = .int .i64 2 ∧ ¬ n = 2 ∧ ¬ n = 3)) ∧ Sep w [] [] wr) (fun i _ => 2 - (intOf i).toNat)
  case atStart => exact ⟨.inl rfl, hM⟩
  clear hM
  case round =>
    obtain ⟨hi, hM⟩ := hrel
    rcases hi with rfl | ⟨rfl, ha⟩ | ⟨rfl, ha, hb⟩
    case inl =>
      go_upto_region 2 with fail
      refine wp_region_fromM (fun W => Sep w [] [] W) hM ?_
      clear hM
      rintro Y3 hM
      refine tF 1 [.val 0 (some 12) (.bool true)] trivial ?_
      refine dF ?_
      try simp only [puts, Tk.put, Act.put, List.setIfInBounds_toArray, List.set_cons_zero, List.set_cons_succ]
      go_upto_region 3 with fail
      refine wp_region_fromM (fun W => Sep w [] [] W) hM ?_
      clear hM
      rintro Y4 hM
      refine tF 4 [.val 0 (some 13) (.int .i64 0), .val 1 (some 14) (.string R.r0), .val 2 (some 5) (.int .i64 0), .val 3 (some 6) (.string R.r0)] trivial ?_
      refine dF ?_
      try simp only [puts, Tk.put, Act.put, List.setIfInBounds_toArray, List.set_cons_zero, List.set_cons_succ]
      go_upto_region 4 with fail
      refine wp_region_fromM (fun W => Sep w [] [] W) hM ?_
      clear hM
      rintro Y5 hM
      refine tF 4 [.val 0 (some 15) (.int .i64 n), .val 1 (some 16) (.int .i64 0), .alt 2 (some 17) (.int .i64 (IntKind.i64.wrap (2 + 0))) (.int .i64 2), .val 3 (some 18) (.bool (n == 2))] ⟨congrArg (Value.int .i64) (by decide), trivial⟩ ?_
      refine dF ?_
      try simp only [puts, Tk.put, Act.put, List.setIfInBounds_toArray, List.set_cons_zero, List.set_cons_succ]
      cases hb1 : n == 2 with
      | false =>
        have Hhb1 := Lib.hid hb1
        clear hb1
        go_upto_region 6 with fail
        refine wp_region_fromM (fun W => Sep w [] [] W) hM ?_
        clear hM
        rintro Y6 hM
        refine tF 2 [.alt 0 (some 20) (.int .i64 (IntKind.i64.wrap (0 + 1))) (.int .i64 1), .val 1 (some 11) (.int .i64 1)] ⟨congrArg (Value.int .i64) (by decide), trivial⟩ ?_
        refine dF ?_
        try simp only [puts, Tk.put, Act.put, List.setIfInBounds_toArray, List.set_cons_zero, List.set_cons_succ]
        go_wp2_with fail
        go_roundw
        case rel => exact ⟨.inr (.inl ⟨rfl, (of_decide_eq_false Hhb1.out)⟩), hM⟩
        case measure => simp [intOf]
      | true =>
        have Hhb1 := Lib.hid hb1
        clear hb1
        go_upto_region 5 with fail
        refine wp_region_fromM (fun W => Sep w [] [] W) hM ?_
        clear hM
        rintro Y7 hM
        refine tF 2 [.val 0 (some 19) (.string R.r0), .val 1 (some 4) (.string R.r0)] trivial ?_
        refine dF ?_
        try simp only [puts, Tk.put, Act.put, List.setIfInBounds_toArray, List.set_cons_zero, List.set_cons_succ]
        go_wp2_with fail
        go_ret
        exact ⟨by rw [root_0 (of_decide_eq_true Hhb1.out)]; rfl, hM.b⟩
    case inr.inl =>
      have HA := Lib.hid ha
      clear ha
      go_upto_region 2 with fail
      refine wp_region_fromM (fun W => Sep w [] [] W) hM ?_
      clear hM
      rintro Y8 hM
      refine tF 1 [.val 0 (some 12) (.bool true)] trivial ?_
      refine dF ?_
      try simp only [puts, Tk.put, Act.put, List.setIfInBounds_toArray, List.set_cons_zero, List.set_cons_succ]
      go_upto_region 3 with fail
      refine wp_region_fromM (fun W => Sep w [] [] W) hM ?_
      clear hM
      rintro Y9 hM
      refine tF 4 [.val 0 (some 13) (.int .i64 1), .val 1 (some 14) (.string R.r1), .val 2 (some 5) (.int .i64 1), .val 3 (some 6) (.string R.r1)] trivial ?_
      refine dF ?_
      try simp only [puts, Tk.put, Act.put, List.setIfInBounds_toArray, List.set_cons_zero, List.set_cons_succ]
      go_upto_region 4 with fail
      refine wp_region_fromM (fun W => Sep w [] [] W) hM ?_
      clear hM
      rintro Y10 hM
      refine tF 4 [.val 0 (some 15) (.int .i64 n), .val 1 (some 16) (.int .i64 1), .alt 2 (some 17) (.int .i64 (IntKind.i64.wrap (2 + 1))) (.int .i64 3), .val 3 (some 18) (.bool (n == 3))] ⟨congrArg (Value.int .i64) (by decide), trivial⟩ ?_
      refine dF ?_
      try simp only [puts, Tk.put, Act.put, List.setIfInBounds_toArray, List.set_cons_zero, List.set_cons_succ]
      cases hb2 : n == 3 with
      | false =>
        have Hhb2 := Lib.hid hb2
        clear hb2
        go_upto_region 6 with fail
        refine wp_region_fromM (fun W => Sep w [] [] W) hM ?_
        clear hM
        rintro Y11 hM
        refine tF 2 [.alt 0 (some 20) (.int .i64 (IntKind.i64.wrap (1 + 1))) (.int .i64 2), .val 1 (some 11) (.int .i64 2)] ⟨congrArg (Value.int .i64) (by decide), trivial⟩ ?_
        refine dF ?_
        try simp only [puts, Tk.put, Act.put, List.setIfInBounds_toArray, List.set_cons_zero, List.set_cons_succ]
        go_wp2_with fail
        go_roundw
        case rel => exact ⟨.inr (.inr ⟨rfl, HA.out, (of_decide_eq_false Hhb2.out)⟩), hM⟩
        case measure => simp [intOf]
      | true =>
        have Hhb2 := Lib.hid hb2
        clear hb2
        go_upto_region 5 with fail
        refine wp_region_fromM (fun W => Sep w [] [] W) hM ?_
        clear hM
        rintro Y12 hM
        refine tF 2 [.val 0 (some 19) (.string R.r1), .val 1 (some 4) (.string R.r1)] trivial ?_
        refine dF ?_
        try simp only [puts, Tk.put, Act.put, List.setIfInBounds_toArray, List.set_cons_zero, List.set_cons_succ]
        go_wp2_with fail
        go_ret
        exact ⟨by rw [root_1 (of_decide_eq_true Hhb2.out)]; rfl, hM.b⟩
    case inr.inr =>
      have HA := Lib.hid ha
      clear ha
      have HBB := Lib.hid hb
      clear hb
      go_upto_region 2 with fail
      refine wp_region_fromM (fun W => Sep w [] [] W) hM ?_
      clear hM
      rintro Y13 hM
      refine tF 1 [.val 0 (some 12) (.bool false)] trivial ?_
      refine dF ?_
      try simp only [puts, Tk.put, Act.put, List.setIfInBounds_toArray, List.set_cons_zero, List.set_cons_succ]
      go_upto_region 7 with fail
      refine wp_region_fromM (fun W => Sep w [] [] W) hM ?_
      clear hM
      rintro Y14 hM
      refine tF 1 [.val 0 (some 4) (.string ⟨#[]⟩)] trivial ?_
      refine dF ?_
      try simp only [puts, Tk.put, Act.put, List.setIfInBounds_toArray, List.set_cons_zero, List.set_cons_succ]
      go_wp2_with fail
      go_ret
      exact ⟨by rw [root_2 HA.out HBB.out]; rfl, hM.b⟩
set_option maxRecDepth 100000 in
set_option maxHeartbeats 4000000 in
theorem opened1_any {K : Nat} (a : Ak) (x : Lt) (w : World) (hk : Blk w K 34 (akc a)) : Calls Tryz.prog 46 #[ltv x, .pointer (some ⟨K, 0, none⟩)] w fun e W' => e = .returned (.bool (isA a x)) ∧ Below w.heap.size w W' := by
  have hmx : Tryz.prog.follows .mixedOrders = true := by kernel_rfl
  have HK := Lib.hid hk
  clear hk
  have hM := Sep.start w
  go_enter Tryz.func46, Tryz.ntmps46
  go_upto_region 0 with fail
  refine wp_region_fromM (fun W => Sep w [] [] W) hM ?_
  clear hM
  rintro Y1 hM
  refine rF (some 2) (pt Y1.heap.size 0) (Y1.alloc (.cells (ltc x).toArray 66)) ?_
  replace hM := hM.alloc 66 (ltc x)
  generalize World.alloc _ _ = Y2 at *
  generalize hNe : Y1.heap.size = N2 at *
  clear hNe
  refine tF 2 [.val 1 (some 3) (.bool false)] trivial ?_
  refine dF ?_
  try simp only [puts, Tk.put, Act.put, List.setIfInBounds_toArray, List.set_cons_zero, List.set_cons_succ]
  go_upto_region 1 with fail
  refine wp_region_fromM (fun W => Sep w [] [.blk N2 66 (ltc x)] W) hM ?_
  clear hM
  rintro Y3 hM
  refine tF 3 [.val 0 (some 4) (pt N2 0), .load 1 (some 5) 34 (pt N2 0) (akv x.k), .load 2 (some 6) 34 (pt K 0) (akv a)] ⟨load_part (hM.at 0 rfl) 0 (akc x.k) rfl _ _ Tryz.underlying34 rfl (by kernel_rfl), load_part (HK.out.below hM.b HK.out.lt) 0 (akc a) rfl _ _ Tryz.underlying34 rfl (by kernel_rfl), trivial⟩ ?_
  refine eqA (.tmp 5) (.tmp 6) 34 (some 7) (akc x.k).toArray (akc a).toArray (decide (x.k = a)) (run_eqAk x.k a _) ?_
  refine tF 5 [.val 4 (some 3) (.bool (decide (x.k = a)))] trivial ?_
  refine dF ?_
  try simp only [puts, Tk.put, Act.put, List.setIfInBounds_toArray, List.set_cons_zero, List.set_cons_succ]
  go_wp2_with fail
  go_ret
  exact ⟨rfl, hM.b⟩
set_option maxRecDepth 100000 in
set_option maxHeartbeats 4000000 in
theorem opened1_idx {K : Nat} (a : Ak) (l : List Lt) (v : Value) (w : World) {lo hi : Nat} (hl : RSl ltc lo hi w v l) (hhi : hi ≤ w.heap.size) (hk : Blk w K 34 (akc a)) : Calls Tryz.prog 45 #[v, .func (.func 46) #[] #[.pointer (some ⟨K, 0, none⟩)]] w fun e W' => e = .returned (.int .i64 (idxG (isA a) l)) ∧ Below w.heap.size w W' := by
  have hmx : Tryz.prog.follows .mixedOrders = true := by kernel_rfl
  have HEl := Lib.hid (fun k x (hx : l[k]? = some x) => hl.elem ltc_len hx Tryz.underlying61 (fun W => by kernel_rfl))
  obtain ⟨pl, cl, rfl⟩ := hl.slice
  have HLl := Lib.hid hl
  have HHl := Lib.hid hhi
  have HLENl := Lib.hid (show l.length ≤ 9223372036854775807 from by have h := hl.len; unfold maxLen at h; omega)
  clear hl hhi
  have HK := Lib.hid hk
  clear hk
  have hM := Sep.start w
  go_enter Tryz.func45, Tryz.ntmps45
  go_upto_region 0 with fail
  refine wp_region_fromM (fun W => Sep w [] [] W) hM ?_
  clear hM
  rintro Y1 hM
  refine tF 1 [.val 0 (some 4) (.int .i64 0)] trivial ?_
  refine dF ?_
  try simp only [puts, Tk.put, Act.put, List.setIfInBounds_toArray, List.set_cons_zero, List.set_cons_succ]
  go_upto_region 1 with fail
  refine wp_region_fromM (fun W => Sep w [] [] W) hM ?_
  clear hM
  rintro Y2 hM
  refine tF 3 [.val 0 (some 6) (.slice pl l.length cl), .val 1 (some 7) (.int .i64 (l.length : Int)), .val 2 (some 8) (.int .i64 0)] trivial ?_
  refine dF ?_
  try simp only [puts, Tk.put, Act.put, List.setIfInBounds_toArray, List.set_cons_zero, List.set_cons_succ]
  go_wp2_with fail
  go_loopw [5, 8] (fun _ i wr => ∃ j : Nat, j ≤ l.length ∧ i = .int .i64 (j : Int) ∧ (l.take j).any (isA a) = false ∧ Sep w [] [] wr) (fun _ i _ => l.length - (intOf i).toNat)
  case atStart => exact ⟨0, Nat.zero_le _, rfl, rfl, hM⟩
  clear hM
  case round =>
    obtain ⟨j, hj, rfl, hno, hM⟩ := hrel
    have HN := Lib.hid hno
    clear hno
    by_cases hlt : j < l.length
    case pos =>
      obtain ⟨x, hx⟩ : ∃ x, l[j]? = some x := ⟨_, List.getElem?_eq_getElem hlt⟩
      obtain ⟨bl, ol, _, _, hit, hct⟩ := HEl.out j x hx
      have HXl := Lib.hid hx
      have HIl := Lib.hid hit
      have HCl := Lib.hid hct
      clear hx hit hct
      have HJ := Lib.hid hlt
      have hlt' : (j : Int) < (l.length : Int) := by omega
      clear hlt
      go_upto_region 2 with fail
      refine wp_region_fromM (fun W => Sep w [] [] W) hM ?_
      clear hM
      rintro Y3 hM
      refine tF 1 [.alt 0 (some 9) (.bool (decide ((j : Int) < (l.length : Int)))) (.bool true)] ⟨congrArg Value.bool (decide_eq_true hlt'), trivial⟩ ?_
      refine dF ?_
      try simp only [puts, Tk.put, Act.put, List.setIfInBounds_toArray, List.set_cons_zero, List.set_cons_succ]
      go_upto_region 3 with fail
      refine wp_region_fromM (fun W => Sep w [] [] W) hM ?_
      clear hM
      rintro Y4 hM
      refine tF 2 [.val 0 (some 10) (.int .i64 (j : Int)), .val 1 (some 5) (.int .i64 (j : Int))] trivial ?_
      refine dF ?_
      try simp only [puts, Tk.put, Act.put, List.setIfInBounds_toArray, List.set_cons_zero, List.set_cons_succ]
      go_upto_region 4 with fail
      refine wp_region_fromM (fun W => Sep w [] [] W) hM ?_
      clear hM
      rintro Y5 hM
      refine tF 5 [.val 0 (some 11) (.func (.func 46) #[] #[.pointer (some ⟨K, 0, none⟩)]), .val 1 (some 12) (.slice pl l.length cl), .val 2 (some 13) (.int .i64 (j : Int)), .idx 3 (some 14) 61 (.slice pl l.length cl) (.int .i64 (j : Int)) (pt bl ol), .load 4 (some 15) 66 (pt bl ol) (ltv x)] ⟨HIl.out _, ld_cells (ltc x) _ _ Tryz.underlying66 rfl (by kernel_rfl) (HCl.out _ (HLl.out.below hM.b HHl.out)), trivial⟩ ?_
      refine cF (some 16) 46 #[ltv x, .pointer (some ⟨K, 0, none⟩)] ((opened1_any a x _ (HK.out.below hM.b HK.out.lt)).mono ?_)
      rintro e Y6 ⟨rfl, hb⟩
      replace hM := hM.below hb
      clear hb
      refine dF ?_
      try simp only [puts, Tk.put, Act.put, List.setIfInBounds_toArray, List.set_cons_zero, List.set_cons_succ]
      cases hb1 : isA a x with
      | false =>
        have Hhb1 := Lib.hid hb1
        clear hb1
        go_upto_region 6 with fail
        refine wp_region_fromM (fun W => Sep w [] [] W) hM ?_
        clear hM
        rintro Y7 hM
        refine tF 2 [.alt 0 (some 18) (.int .i64 (IntKind.i64.wrap ((j : Int) + 1))) (.int .i64 ((j + 1 : Nat) : Int)), .val 1 (some 8) (.int .i64 ((j + 1 : Nat) : Int))] ⟨congrArg (Value.int .i64) ((IntWalk.i64_in _ (by have := HLENl.out; have := HJ.out; omega)).trans (by omega)), trivial⟩ ?_
        refine dF ?_
        try simp only [puts, Tk.put, Act.put, List.setIfInBounds_toArray, List.set_cons_zero, List.set_cons_succ]
        go_wp2_with fail
        go_roundw
        case rel => exact ⟨j + 1, HJ.out, rfl, by rw [take_anyG HXl.out, HN.out, Hhb1.out]; rfl, hM⟩
        case measure => have := HJ.out; simp [intOf]; omega
      | true =>
        have Hhb1 := Lib.hid hb1
        clear hb1
        go_upto_region 5 with fail
        refine wp_region_fromM (fun W => Sep w [] [] W) hM ?_
        clear hM
        rintro Y8 hM
        refine tF 2 [.val 0 (some 17) (.int .i64 (j : Int)), .val 1 (some 4) (.int .i64 (j : Int))] trivial ?_
        refine dF ?_
        try simp only [puts, Tk.put, Act.put, List.setIfInBounds_toArray, List.set_cons_zero, List.set_cons_succ]
        go_wp2_with fail
        go_ret
        exact ⟨by rw [idxG_at HXl.out Hhb1.out HN.out]; rfl, hM.b⟩
    case neg =>
      obtain rfl : j = l.length := by omega
      go_upto_region 2 with fail
      refine wp_region_fromM (fun W => Sep w [] [] W) hM ?_
      clear hM
      rintro Y9 hM
      refine tF 1 [.alt 0 (some 9) (.bool (decide ((l.length : Int) < (l.length : Int)))) (.bool false)] ⟨congrArg Value.bool (decide_eq_false (by omega)), trivial⟩ ?_
      refine dF ?_
      try simp only [puts, Tk.put, Act.put, List.setIfInBounds_toArray, List.set_cons_zero, List.set_cons_succ]
      go_upto_region 7 with fail
      refine wp_region_fromM (fun W => Sep w [] [] W) hM ?_
      clear hM
      rintro Y10 hM
      refine tF 1 [.val 0 (some 4) (.int .i64 (-1))] trivial ?_
      refine dF ?_
      try simp only [puts, Tk.put, Act.put, List.setIfInBounds_toArray, List.set_cons_zero, List.set_cons_succ]
      go_wp2_with fail
      go_ret
      exact ⟨by rw [idxG_not HN.out]; rfl, hM.b⟩
set_option maxRecDepth 100000 in
set_option maxHeartbeats 4000000 in
theorem rmOpened_any {B : Nat} {R : Rm} {va vb : Value} (a : Ak) (w : World) (hv : RmV w B R va vb) : Calls Tryz.prog 23 #[.pointer (some ⟨B, 0, none⟩), akv a] w fun e W' => e = .returned (.tuple #[ltv ((openL R.ls a).getD noL), .bool (openL R.ls a).isSome]) ∧ Below w.heap.size w W' := by
  have hmx : Tryz.prog.follows .mixedOrders = true := by kernel_rfl
  have hl := hv.l
  have ho := hv.o
  have hhl := Nat.le_refl w.heap.size
  have hho := Nat.le_refl w.heap.size
  have HEl := Lib.hid (fun k x (hx : R.ls[k]? = some x) => hl.elem ltc_len hx Tryz.underlying61 (fun W => by kernel_rfl))
  obtain ⟨pl, cl, rfl⟩ := hl.slice
  have HLl := Lib.hid hl
  have HHl := Lib.hid hhl
  have HLENl := Lib.hid (show R.ls.length ≤ 9223372036854775807 from by have h := hl.len; unfold maxLen at h; omega)
  clear hl hhl
  have HEo := Lib.hid (fun k x (hx : R.bs[k]? = some x) => ho.elem bdc_len hx Tryz.underlying43 (fun W => by kernel_rfl))
  obtain ⟨po, co, rfl⟩ := ho.slice
  have HLo := Lib.hid ho
  have HHo := Lib.hid hho
  have HLENo := Lib.hid (show R.bs.length ≤ 9223372036854775807 from by have h := ho.len; unfold maxLen at h; omega)
  clear ho hho
  have HV := Lib.hid hv
  clear hv
  have hM := Sep.start w
  go_enter Tryz.func23, Tryz.ntmps23
  go_upto_region 0 with fail
  refine wp_region_fromM (fun W => Sep w [] [] W) hM ?_
  clear hM
  rintro Y1 hM
  refine rF (some 3) (pt Y1.heap.size 0) (Y1.alloc (.cells (akc a).toArray 34)) ?_
  replace hM := hM.alloc 34 (akc a)
  generalize World.alloc _ _ = Y2 at *
  generalize hNe : Y1.heap.size = N2 at *
  clear hNe
  refine rF (some 4) (pt Y2.heap.size 0) (Y2.alloc (.cells (ltc noL).toArray 66)) ?_
  replace hM := hM.alloc 66 (ltc noL)
  generalize World.alloc _ _ = Y3 at *
  generalize hNe : Y2.heap.size = N3 at *
  clear hNe
  refine tF 3 [.val 2 (some 5) (.bool false)] trivial ?_
  refine dF ?_
  try simp only [puts, Tk.put, Act.put, List.setIfInBounds_toArray, List.set_cons_zero, List.set_cons_succ]
  go_upto_region 1 with fail
  refine wp_region_fromM (fun W => Sep w [] [.blk N3 66 (ltc noL), .blk N2 34 (akc a)] W) hM ?_
  clear hM
  rintro Y4 hM
  refine tF 1 [.val 0 (some 7) (pt B 0)] trivial ?_
  refine cF (some 8) 21 #[pt B 0] ((rmThere_yes _ ((HV.out.below hM.b).b)).mono ?_)
  rintro e Y5 ⟨rfl, hb⟩
  replace hM := hM.below hb
  clear hb
  refine tF 3 [.val 2 (some 9) (.bool false)] trivial ?_
  refine dF ?_
  try simp only [puts, Tk.put, Act.put, List.setIfInBounds_toArray, List.set_cons_zero, List.set_cons_succ]
  go_upto_region 3 with fail
  refine wp_region_fromM (fun W => Sep w [] [.blk N3 66 (ltc noL), .blk N2 34 (akc a)] W) hM ?_
  clear hM
  rintro Y6 hM
  refine tF 5 [.val 0 (some 11) (pt B 0), .val 1 (some 12) (pt B 0), .val 2 (some 13) (pt B 3), .load 3 (some 14) 61 (pt B 3) (.slice pl R.ls.length cl), .val 4 (some 15) (.func (.func 46) #[] #[pt N2 0])] ⟨ld_any _ _ Tryz.underlying61 rfl (HV.out.below hM.b).b 3 rfl, trivial⟩ ?_
  refine cF (some 16) 45 #[.slice pl R.ls.length cl, .func (.func 46) #[] #[pt N2 0]] ((opened1_idx a R.ls _ _ (HLl.out.below hM.b HHl.out) (Nat.le_trans HHl.out hM.size) (hM.at 1 rfl)).mono ?_)
  rintro e Y7 ⟨rfl, hb⟩
  replace hM := hM.below hb
  clear hb
  refine tF 7 [.val 6 (some 6) (.int .i64 (idxG (isA a) R.ls))] trivial ?_
  refine dF ?_
  try simp only [puts, Tk.put, Act.put, List.setIfInBounds_toArray, List.set_cons_zero, List.set_cons_succ]
  go_upto_region 4 with fail
  refine wp_region_fromM (fun W => Sep w [] [.blk N3 66 (ltc noL), .blk N2 34 (akc a)] W) hM ?_
  clear hM
  rintro Y8 hM
  refine tF 2 [.val 0 (some 17) (.int .i64 (idxG (isA a) R.ls)), .val 1 (some 18) (.bool (decide ((idxG (isA a) R.ls) < 0)))] trivial ?_
  refine dF ?_
  try simp only [puts, Tk.put, Act.put, List.setIfInBounds_toArray, List.set_cons_zero, List.set_cons_succ]
  cases hb1 : decide ((idxG (isA a) R.ls) < 0) with
  | false =>
    have Hhb1 := Lib.hid hb1
    clear hb1
    obtain ⟨j, hj⟩ : ∃ j : Nat, idxG (isA a) R.ls = (j : Int) := ⟨_, (Int.toNat_of_nonneg (by have h := of_decide_eq_false Hhb1.out; omega)).symm⟩
    have hf := open_idx R.ls a
    rw [if_neg (of_decide_eq_false Hhb1.out), hj, Int.toNat_natCast] at hf
    obtain ⟨x, hx⟩ : ∃ x, R.ls[j]? = some x := idxG_lt' hj
    rw [hx] at hf
    have HF := Lib.hid hf
    clear hf
    rw [hj]
    obtain ⟨bl, ol, _, _, hit, hct⟩ := HEl.out j x hx
    have HIl := Lib.hid hit
    have HCl := Lib.hid hct
    clear hit hct hx hj
    go_upto_region 6 with fail
    refine wp_region_fromM (fun W => Sep w [] [.blk N3 66 (ltc noL), .blk N2 34 (akc a)] W) hM ?_
    clear hM
    rintro Y9 hM
    refine tF 7 [.val 0 (some 20) (pt B 0), .val 1 (some 21) (pt B 0), .val 2 (some 22) (pt B 3), .load 3 (some 23) 61 (pt B 3) (.slice pl R.ls.length cl), .val 4 (some 24) (.int .i64 (j : Int)), .idx 5 (some 25) 61 (.slice pl R.ls.length cl) (.int .i64 (j : Int)) (pt bl ol), .load 6 (some 26) 66 (pt bl ol) (ltv x)] ⟨ld_any _ _ Tryz.underlying61 rfl (HV.out.below hM.b).b 3 rfl, HIl.out _, ld_cells (ltc x) _ _ Tryz.underlying66 rfl (by kernel_rfl) (HCl.out _ (HLl.out.below hM.b HHl.out)), trivial⟩ ?_
    have hst := sto_part (ltc x) (hM.at 0 rfl) 0 66 (ltv x) (ltc x) rfl (by kernel_rfl) (Nat.le_of_ble_eq_true rfl) rfl rfl
    refine sF 66 (pt N3 0) (ltv x) (hst) ?_
    clear hst
    replace hM := hM.set 0 (cs' := ltc x) rfl rfl
    generalize World.setRow _ _ _ = Y10 at *
    refine tF 9 [.val 8 (some 5) (.bool true)] trivial ?_
    refine dF ?_
    try simp only [puts, Tk.put, Act.put, List.setIfInBounds_toArray, List.set_cons_zero, List.set_cons_succ]
    go_wp2_with fail
    exact bodyPost_ret (v := .tuple #[ltv x, .bool true]) (res_two rfl _ rfl rfl (lv_lt (hM.at 0 rfl))) rfl ⟨by rw [HF.out]; rfl, hM.b⟩
  | true =>
    have Hhb1 := Lib.hid hb1
    clear hb1
    have hf := open_idx R.ls a
    rw [if_pos (of_decide_eq_true Hhb1.out)] at hf
    have HF := Lib.hid hf
    clear hf
    go_upto_region 5 with fail
    refine wp_region_fromM (fun W => Sep w [] [.blk N3 66 (ltc noL), .blk N2 34 (akc a)] W) hM ?_
    clear hM
    rintro Y11 hM
    refine tF 1 [.val 0 (some 19) (ltv noL)] trivial ?_
    have hst := sto_part (ltc noL) (hM.at 0 rfl) 0 66 (ltv noL) (ltc noL) rfl (by kernel_rfl) (Nat.le_of_ble_eq_true rfl) rfl rfl
    refine sF 66 (pt N3 0) (ltv noL) (hst) ?_
    clear hst
    replace hM := hM.set 0 (cs' := ltc noL) rfl rfl
    generalize World.setRow _ _ _ = Y12 at *
    refine tF 3 [.val 2 (some 5) (.bool false)] trivial ?_
    refine dF ?_
    try simp only [puts, Tk.put, Act.put, List.setIfInBounds_toArray, List.set_cons_zero, List.set_cons_succ]
    go_wp2_with fail
    exact bodyPost_ret (v := .tuple #[ltv noL, .bool false]) (res_two rfl _ rfl rfl (lv_lt (hM.at 0 rfl))) rfl ⟨by rw [HF.out]; rfl, hM.b⟩
set_option maxRecDepth 100000 in
set_option maxHeartbeats 4000000 in
theorem by1_any {K : Nat} (c : Bd) (x : Bd) (w : World) (hk : Blk w K 36 (bdc c)) : Calls Tryz.prog 33 #[bdv x, pt K 0] w fun e W' => e = .returned (.bool (byB c.ro x)) ∧ Below w.heap.size w W' := by
  have hmx : Tryz.prog.follows .mixedOrders = true := by kernel_rfl
  have HK := Lib.hid hk
  clear hk
  have hM := Sep.start w
  go_enter Tryz.func33, Tryz.ntmps33
  go_upto_region 0 with fail
  refine wp_region_fromM (fun W => Sep w [] [] W) hM ?_
  clear hM
  rintro Y1 hM
  refine rF (some 2) (pt Y1.heap.size 0) (Y1.alloc (.cells (bdc x).toArray 36)) ?_
  replace hM := hM.alloc 36 (bdc x)
  generalize World.alloc _ _ = Y2 at *
  generalize hNe : Y1.heap.size = N2 at *
  clear hNe
  refine tF 2 [.val 1 (some 3) (.bool false)] trivial ?_
  refine dF ?_
  try simp only [puts, Tk.put, Act.put, List.setIfInBounds_toArray, List.set_cons_zero, List.set_cons_succ]
  go_upto_region 1 with fail
  refine wp_region_fromM (fun W => Sep w [] [.blk N2 36 (bdc x)] W) hM ?_
  clear hM
  rintro Y3 hM
  refine tF 6 [.val 0 (some 4) (pt N2 0), .load 1 (some 5) 3 (pt N2 0) (.int .i64 x.ro), .val 2 (some 6) (pt K 0), .load 3 (some 7) 3 (pt K 0) (.int .i64 c.ro), .val 4 (some 8) (.bool (x.ro == c.ro)), .val 5 (some 3) (.bool (x.ro == c.ro))] ⟨ld_any _ _ Tryz.underlying3 rfl (hM.at 0 rfl) 0 rfl, ld_any _ _ Tryz.underlying3 rfl (HK.out.below hM.b HK.out.lt) 0 rfl, trivial⟩ ?_
  refine dF ?_
  try simp only [puts, Tk.put, Act.put, List.setIfInBounds_toArray, List.set_cons_zero, List.set_cons_succ]
  go_wp2_with fail
  go_ret
  exact ⟨rfl, hM.b⟩
set_option maxRecDepth 100000 in
set_option maxHeartbeats 4000000 in
theorem live1_any {K : Nat} (now : Int) (x : Bd) (w : World) (hk : Blk w K 3 [.int .i64 now]) : Calls Tryz.prog 36 #[bdv x, pt K 0] w fun e W' => e = .returned (.bool (liveBd now x)) ∧ Below w.heap.size w W' := by
  have hmx : Tryz.prog.follows .mixedOrders = true := by kernel_rfl
  have HK := Lib.hid hk
  clear hk
  have hM := Sep.start w
  go_enter Tryz.func36, Tryz.ntmps36
  go_upto_region 0 with fail
  refine wp_region_fromM (fun W => Sep w [] [] W) hM ?_
  clear hM
  rintro Y1 hM
  refine rF (some 2) (pt Y1.heap.size 0) (Y1.alloc (.cells (bdc x).toArray 36)) ?_
  replace hM := hM.alloc 36 (bdc x)
  generalize World.alloc _ _ = Y2 at *
  generalize hNe : Y1.heap.size = N2 at *
  clear hNe
  refine tF 2 [.val 1 (some 3) (.bool false)] trivial ?_
  refine dF ?_
  try simp only [puts, Tk.put, Act.put, List.setIfInBounds_toArray, List.set_cons_zero, List.set_cons_succ]
  go_upto_region 1 with fail
  refine wp_region_fromM (fun W => Sep w [] [.blk N2 36 (bdc x)] W) hM ?_
  clear hM
  rintro Y3 hM
  refine tF 5 [.load 0 (some 4) 3 (pt K 0) (.int .i64 now), .val 1 (some 5) (pt N2 14), .load 2 (some 6) 3 (pt N2 14) (.int .i64 x.un), .val 3 (some 7) (.bool (decide (now ≤ x.un))), .val 4 (some 3) (.bool (decide (now ≤ x.un)))] ⟨ld_any _ _ Tryz.underlying3 rfl (HK.out.below hM.b HK.out.lt) 0 rfl, ld_any _ _ Tryz.underlying3 rfl (hM.at 0 rfl) 14 rfl, trivial⟩ ?_
  refine dF ?_
  try simp only [puts, Tk.put, Act.put, List.setIfInBounds_toArray, List.set_cons_zero, List.set_cons_succ]
  go_wp2_with fail
  go_ret
  exact ⟨rfl, hM.b⟩
set_option maxRecDepth 100000 in
set_option maxHeartbeats 4000000 in
theorem any1_any  (x : Bd) (w : World)  : Calls Tryz.prog 39 #[bdv x] w fun e W' => e = .returned (.bool (anyB x)) ∧ Below w.heap.size w W' := by
  have hmx : Tryz.prog.follows .mixedOrders = true := by kernel_rfl
  have hM := Sep.start w
  go_enter Tryz.func39, Tryz.ntmps39
  go_upto_region 0 with fail
  refine wp_region_fromM (fun W => Sep w [] [] W) hM ?_
  clear hM
  rintro Y1 hM
  refine rF (some 1) (pt Y1.heap.size 0) (Y1.alloc (.cells (bdc x).toArray 36)) ?_
  replace hM := hM.alloc 36 (bdc x)
  generalize World.alloc _ _ = Y2 at *
  generalize hNe : Y1.heap.size = N2 at *
  clear hNe
  refine tF 2 [.val 1 (some 2) (.bool false)] trivial ?_
  refine dF ?_
  try simp only [puts, Tk.put, Act.put, List.setIfInBounds_toArray, List.set_cons_zero, List.set_cons_succ]
  go_upto_region 1 with fail
  refine wp_region_fromM (fun W => Sep w [] [.blk N2 36 (bdc x)] W) hM ?_
  clear hM
  rintro Y3 hM
  refine tF 1 [.val 0 (some 2) (.bool true)] trivial ?_
  refine dF ?_
  try simp only [puts, Tk.put, Act.put, List.setIfInBounds_toArray, List.set_cons_zero, List.set_cons_succ]
  go_wp2_with fail
  go_ret
  exact ⟨rfl, hM.b⟩
set_option maxRecDepth 100000 in
set_option maxHeartbeats 4000000 in
theorem whichB1_any {K : Nat} (c : Bd) {B : Nat} {R : Rm} {va vb : Value} (a : Ak) (w : World) (hv : RmV w B R va vb) (hr : R.bs.length ≤ 1000) (hk : Blk w K 36 (bdc c)) : Calls Tryz.prog 32 #[.pointer (some ⟨B, 0, none⟩), akv a, .func (.func 33) #[] #[.pointer (some ⟨K, 0, none⟩)]] w (RowB (forB R.bs a (byB c.ro)) w) := by
  have hmx : Tryz.prog.follows .mixedOrders = true := by kernel_rfl
  have hl := hv.l
  have ho := hv.o
  have hhl := Nat.le_refl w.heap.size
  have hho := Nat.le_refl w.heap.size
  have HEl := Lib.hid (fun k x (hx : R.ls[k]? = some x) => hl.elem ltc_len hx Tryz.underlying61 (fun W => by kernel_rfl))
  obtain ⟨pl, cl, rfl⟩ := hl.slice
  have HLl := Lib.hid hl
  have HHl := Lib.hid hhl
  have HLENl := Lib.hid (show R.ls.length ≤ 9223372036854775807 from by have h := hl.len; unfold maxLen at h; omega)
  clear hl hhl
  have HEo := Lib.hid (fun k x (hx : R.bs[k]? = some x) => ho.elem bdc_len hx Tryz.underlying43 (fun W => by kernel_rfl))
  obtain ⟨po, co, rfl⟩ := ho.slice
  have HLo := Lib.hid ho
  have HHo := Lib.hid hho
  have HLENo := Lib.hid (show R.bs.length ≤ 9223372036854775807 from by have h := ho.len; unfold maxLen at h; omega)
  clear ho hho
  have HV := Lib.hid hv
  have HK := Lib.hid hk
  clear hk
  have HR := Lib.hid hr
  clear hr
  clear hv
  have hM := Sep.start w
  go_enter Tryz.func32, Tryz.ntmps32
  go_upto_region 0 with fail
  refine wp_region_fromM (fun W => Sep w [] [] W) hM ?_
  clear hM
  rintro Y1 hM
  refine rF (some 4) (pt Y1.heap.size 0) (Y1.alloc (.cells (akc a).toArray 34)) ?_
  replace hM := hM.alloc 34 (akc a)
  generalize World.alloc _ _ = Y2 at *
  generalize hNe : Y1.heap.size = N2 at *
  clear hNe
  refine tF 2 [.val 1 (some 6) (.slice none 0 0)] trivial ?_
  refine dF ?_
  try simp only [puts, Tk.put, Act.put, List.setIfInBounds_toArray, List.set_cons_zero, List.set_cons_succ]
  go_upto_region 1 with fail
  refine wp_region_fromM (fun W => Sep w [] [.blk N2 34 (akc a)] W) hM ?_
  clear hM
  rintro Y3 hM
  refine tF 1 [.val 0 (some 10) (pt B 0)] trivial ?_
  refine cF (some 11) 21 #[pt B 0] ((rmThere_yes _ ((HV.out.below hM.b).b)).mono ?_)
  rintro e Y4 ⟨rfl, hb⟩
  replace hM := hM.below hb
  clear hb
  refine tF 3 [.val 2 (some 12) (.bool false)] trivial ?_
  refine dF ?_
  try simp only [puts, Tk.put, Act.put, List.setIfInBounds_toArray, List.set_cons_zero, List.set_cons_succ]
  go_upto_region 3 with fail
  refine wp_region_fromM (fun W => Sep w [] [.blk N2 34 (akc a)] W) hM ?_
  clear hM
  rintro Y5 hM
  refine tF 1 [.val 0 (some 7) (.slice none 0 0)] trivial ?_
  refine dF ?_
  try simp only [puts, Tk.put, Act.put, List.setIfInBounds_toArray, List.set_cons_zero, List.set_cons_succ]
  go_upto_region 4 with fail
  refine wp_region_fromM (fun W => Sep w [] [.blk N2 34 (akc a)] W) hM ?_
  clear hM
  rintro Y6 hM
  refine tF 6 [.val 0 (some 13) (pt B 0), .val 1 (some 14) (pt B 0), .val 2 (some 15) (pt B 4), .load 3 (some 16) 43 (pt B 4) (.slice po R.bs.length co), .val 4 (some 17) (.int .i64 (R.bs.length : Int)), .val 5 (some 18) (.int .i64 0)] ⟨ld_any _ _ Tryz.underlying43 rfl (HV.out.below hM.b).b 4 rfl, trivial⟩ ?_
  refine dF ?_
  try simp only [puts, Tk.put, Act.put, List.setIfInBounds_toArray, List.set_cons_zero, List.set_cons_succ]
  replace hM := hM.nil bdc 36 16
  go_wp2_with fail
  go_loopw [7, 18] (fun u7 i wr => ∃ j : Nat, j ≤ R.bs.length ∧ i = .int .i64 (j : Int) ∧ Sep w [] [.own bdc 36 16 (u7) ((R.bs.take j).filter (fitBd a (byB c.ro))), .blk N2 34 (akc a)] wr) (fun u7 i _ => R.bs.length - (intOf i).toNat)
  case atStart => exact ⟨0, Nat.zero_le _, rfl, hM⟩
  clear hM
  case round =>
    obtain ⟨j, hj, rfl, hM⟩ := hrel
    by_cases hlt : j < R.bs.length
    case pos =>
      obtain ⟨x, hx⟩ : ∃ x, R.bs[j]? = some x := ⟨_, List.getElem?_eq_getElem hlt⟩
      obtain ⟨bo, oo, _, _, hit, hct⟩ := HEo.out j x hx
      have HXo := Lib.hid hx
      have HIo := Lib.hid hit
      have HCo := Lib.hid hct
      clear hx hit hct
      have HJ := Lib.hid hlt
      have hlt' : (j : Int) < (R.bs.length : Int) := by omega
      clear hlt
      have HTF := Lib.hid (take_filG (p := (fitBd a (byB c.ro))) HXo.out)
      go_upto_region 5 with fail
      refine wp_region_fromM (fun W => Sep w [] [.own bdc 36 16 (u7) ((R.bs.take j).filter (fitBd a (byB c.ro))), .blk N2 34 (akc a)] W) hM ?_
      clear hM
      rintro Y7 hM
      refine tF 1 [.alt 0 (some 19) (.bool (decide ((j : Int) < (R.bs.length : Int)))) (.bool true)] ⟨congrArg Value.bool (decide_eq_true hlt'), trivial⟩ ?_
      refine dF ?_
      try simp only [puts, Tk.put, Act.put, List.setIfInBounds_toArray, List.set_cons_zero, List.set_cons_succ]
      go_upto_region 6 with fail
      refine wp_region_fromM (fun W => Sep w [] [.own bdc 36 16 (u7) ((R.bs.take j).filter (fitBd a (byB c.ro))), .blk N2 34 (akc a)] W) hM ?_
      clear hM
      rintro Y8 hM
      refine tF 2 [.idx 0 (some 20) 43 (.slice po R.bs.length co) (.int .i64 (j : Int)) (pt bo oo), .load 1 (some 21) 36 (pt bo oo) (bdv x)] ⟨HIo.out _, ld_cells (bdc x) _ _ Tryz.underlying36 rfl (by kernel_rfl) (HCo.out _ (HLo.out.below hM.b HHo.out)), trivial⟩ ?_
      refine rF (some 9) (pt Y8.heap.size 0) (Y8.alloc (.cells (bdc noB).toArray 36)) ?_
      replace hM := hM.alloc 36 (bdc noB)
      generalize World.alloc _ _ = Y9 at *
      generalize hNe : Y8.heap.size = N9 at *
      clear hNe
      have hst := sto_part (bdc x) (hM.at 0 rfl) 0 36 (bdv x) (bdc x) rfl (by kernel_rfl) (Nat.le_of_ble_eq_true rfl) rfl rfl
      refine sF 36 (pt N9 0) (bdv x) (hst) ?_
      clear hst
      replace hM := hM.set 0 (cs' := bdc x) rfl rfl
      generalize World.setRow _ _ _ = Y10 at *
      refine dF ?_
      try simp only [puts, Tk.put, Act.put, List.setIfInBounds_toArray, List.set_cons_zero, List.set_cons_succ]
      go_upto_region 7 with fail
      refine wp_region_fromM (fun W => Sep w [] [.blk N9 36 (bdc x), .own bdc 36 16 (u7) ((R.bs.take j).filter (fitBd a (byB c.ro))), .blk N2 34 (akc a)] W) hM ?_
      clear hM
      rintro Y11 hM
      refine tF 3 [.val 0 (some 22) (pt N9 1), .load 1 (some 23) 34 (pt N9 1) (akv x.k), .load 2 (some 24) 34 (pt N2 0) (akv a)] ⟨load_part (hM.at 0 rfl) 1 (akc x.k) rfl _ _ Tryz.underlying34 rfl (by kernel_rfl), load_part (hM.at 2 rfl) 0 (akc a) rfl _ _ Tryz.underlying34 rfl (by kernel_rfl), trivial⟩ ?_
      refine eqA (.tmp 23) (.tmp 24) 34 (some 25) (akc x.k).toArray (akc a).toArray (decide (x.k = a)) (run_eqAk x.k a _) ?_
      refine tF 5 [.val 4 (some 26) (.bool (decide (x.k = a)))] trivial ?_
      cases hb1 : decide (x.k = a) with
      | false =>
        have Hhb1 := Lib.hid hb1
        clear hb1
        refine tF 7 [.skip 5 (some 27), .skip 6 (some 28)] trivial ?_
        refine wpFrom_not (d := some 29) (by kernel_rfl) ?_
        refine tF 9 [.val 8 (some 30) (.bool false)] trivial ?_
        refine dF ?_
        try simp only [puts, Tk.put, Act.put, List.setIfInBounds_toArray, List.set_cons_zero, List.set_cons_succ]
        go_upto_region 9 with fail
        refine wp_region_fromM (fun W => Sep w [] [.blk N9 36 (bdc x), .own bdc 36 16 (u7) ((R.bs.take j).filter (fitBd a (byB c.ro))), .blk N2 34 (akc a)] W) hM ?_
        clear hM
        rintro Y12 hM
        refine tF 2 [.alt 0 (some 35) (.int .i64 (IntKind.i64.wrap ((j : Int) + 1))) (.int .i64 ((j + 1 : Nat) : Int)), .val 1 (some 18) (.int .i64 ((j + 1 : Nat) : Int))] ⟨congrArg (Value.int .i64) ((IntWalk.i64_in _ (by have := HLENo.out; have := HJ.out; omega)).trans (by omega)), trivial⟩ ?_
        refine dF ?_
        try simp only [puts, Tk.put, Act.put, List.setIfInBounds_toArray, List.set_cons_zero, List.set_cons_succ]
        have hM1 := hM.sub (l' := [.own bdc 36 16 (u7) ((R.bs.take j).filter (fitBd a (byB c.ro))), .blk N2 34 (akc a)]) (.cons _ (.cons_cons _ (.cons_cons _ .slnil)))
        have HM1 := Lib.hid hM1
        clear hM hM1
        go_wp2_with fail
        go_roundw
        case rel => exact ⟨j + 1, HJ.out, rfl, by rw [HTF.out, if_neg (by rw [fit_noA Hhb1.out]; decide), List.append_nil]; exact HM1.out⟩
        case measure => have := HJ.out; simp [intOf]; omega
      | true =>
        have Hhb1 := Lib.hid hb1
        clear hb1
        refine tF 7 [.val 5 (some 27) (.func (.func 33) #[] #[.pointer (some ⟨K, 0, none⟩)]), .load 6 (some 28) 36 (pt N9 0) (bdv x)] ⟨load_part (hM.at 0 rfl) 0 (bdc x) rfl _ _ Tryz.underlying36 rfl (by kernel_rfl), trivial⟩ ?_
        refine cF (some 29) 33 #[bdv x, .pointer (some ⟨K, 0, none⟩)] ((by1_any c x _ (HK.out.below hM.b HK.out.lt)).mono ?_)
        rintro e Y13 ⟨rfl, hb⟩
        replace hM := hM.below hb
        clear hb
        refine tF 9 [.val 8 (some 30) (.bool (byB c.ro x))] trivial ?_
        refine dF ?_
        try simp only [puts, Tk.put, Act.put, List.setIfInBounds_toArray, List.set_cons_zero, List.set_cons_succ]
        cases hb2 : byB c.ro x with
        | false =>
          have Hhb2 := Lib.hid hb2
          clear hb2
          go_upto_region 9 with fail
          refine wp_region_fromM (fun W => Sep w [] [.blk N9 36 (bdc x), .own bdc 36 16 (u7) ((R.bs.take j).filter (fitBd a (byB c.ro))), .blk N2 34 (akc a)] W) hM ?_
          clear hM
          rintro Y14 hM
          refine tF 2 [.alt 0 (some 35) (.int .i64 (IntKind.i64.wrap ((j : Int) + 1))) (.int .i64 ((j + 1 : Nat) : Int)), .val 1 (some 18) (.int .i64 ((j + 1 : Nat) : Int))] ⟨congrArg (Value.int .i64) ((IntWalk.i64_in _ (by have := HLENo.out; have := HJ.out; omega)).trans (by omega)), trivial⟩ ?_
          refine dF ?_
          try simp only [puts, Tk.put, Act.put, List.setIfInBounds_toArray, List.set_cons_zero, List.set_cons_succ]
          have hM1 := hM.sub (l' := [.own bdc 36 16 (u7) ((R.bs.take j).filter (fitBd a (byB c.ro))), .blk N2 34 (akc a)]) (.cons _ (.cons_cons _ (.cons_cons _ .slnil)))
          have HM1 := Lib.hid hM1
          clear hM hM1
          go_wp2_with fail
          go_roundw
          case rel => exact ⟨j + 1, HJ.out, rfl, by rw [HTF.out, if_neg (by rw [fit_noP (p := byB c.ro) Hhb2.out]; decide), List.append_nil]; exact HM1.out⟩
          case measure => have := HJ.out; simp [intOf]; omega
        | true =>
          have Hhb2 := Lib.hid hb2
          clear hb2
          go_upto_region 8 with fail
          refine wp_region_fromM (fun W => Sep w [] [.blk N9 36 (bdc x), .own bdc 36 16 (u7) ((R.bs.take j).filter (fitBd a (byB c.ro))), .blk N2 34 (akc a)] W) hM ?_
          clear hM
          rintro Y15 hM
          refine tF 2 [.val 0 (some 31) (u7), .load 1 (some 32) 36 (pt N9 0) (bdv x)] ⟨load_part (hM.at 0 rfl) 0 (bdc x) rfl _ _ Tryz.underlying36 rfl (by kernel_rfl), trivial⟩ ?_
          refine rF (some 33) (.slice (some ⟨Y15.heap.size, 0, none⟩) 1 1) (Y15.alloc (.cells (bdc x).toArray 36)) ?_
          replace hM := hM.alloc 36 (bdc x)
          generalize World.alloc _ _ = Y16 at *
          generalize hNe : Y15.heap.size = N16 at *
          clear hNe
          obtain ⟨v17, Y17, hrun, ht⟩ := own_app1 infoBd rfl (by decide) Tryz.underlying43 bdc_len bdc_one (hM.oka 2 rfl) x (hM.at 0 rfl) (by decide) ((by have h1 := HR.out; have h2 := fil_len R.bs j (fitBd a (byB c.ro)); have h3 := HJ.out; omega)) 43
          replace hM := hM.turn 2 rfl ht rfl
          clear ht
          refine wpFrom_append (d := some 34) (t := 43) (t' := 43) (ty := 43) (v := u7) (x := .slice (some ⟨N16, 0, none⟩) 1 1) (by kernel_rfl) hrun ?_
          clear hrun
          refine tF 5 [.val 4 (some 7) (v17)] trivial ?_
          refine dF ?_
          try simp only [puts, Tk.put, Act.put, List.setIfInBounds_toArray, List.set_cons_zero, List.set_cons_succ]
          go_upto_region 9 with fail
          refine wp_region_fromM (fun W => Sep w [] [.blk N16 36 (bdc x), .blk N9 36 (bdc x), .own bdc 36 16 (v17) (((R.bs.take j).filter (fitBd a (byB c.ro))) ++ [x]), .blk N2 34 (akc a)] W) hM ?_
          clear hM
          rintro Y18 hM
          refine tF 2 [.alt 0 (some 35) (.int .i64 (IntKind.i64.wrap ((j : Int) + 1))) (.int .i64 ((j + 1 : Nat) : Int)), .val 1 (some 18) (.int .i64 ((j + 1 : Nat) : Int))] ⟨congrArg (Value.int .i64) ((IntWalk.i64_in _ (by have := HLENo.out; have := HJ.out; omega)).trans (by omega)), trivial⟩ ?_
          refine dF ?_
          try simp only [puts, Tk.put, Act.put, List.setIfInBounds_toArray, List.set_cons_zero, List.set_cons_succ]
          have hM1 := hM.sub (l' := [.own bdc 36 16 (v17) (((R.bs.take j).filter (fitBd a (byB c.ro))) ++ [x]), .blk N2 34 (akc a)]) (.cons _ (.cons _ (.cons_cons _ (.cons_cons _ .slnil))))
          have HM1 := Lib.hid hM1
          clear hM hM1
          go_wp2_with fail
          go_roundw
          case rel => exact ⟨j + 1, HJ.out, rfl, by rw [HTF.out, if_pos (fit_yes (p := byB c.ro) Hhb1.out Hhb2.out)]; exact HM1.out⟩
          case measure => have := HJ.out; simp [intOf]; omega
    case neg =>
      obtain rfl : j = R.bs.length := by omega
      go_upto_region 5 with fail
      refine wp_region_fromM (fun W => Sep w [] [.own bdc 36 16 (u7) ((R.bs.take R.bs.length).filter (fitBd a (byB c.ro))), .blk N2 34 (akc a)] W) hM ?_
      clear hM
      rintro Y19 hM
      refine tF 1 [.alt 0 (some 19) (.bool (decide ((R.bs.length : Int) < (R.bs.length : Int)))) (.bool false)] ⟨congrArg Value.bool (decide_eq_false (by omega)), trivial⟩ ?_
      refine dF ?_
      try simp only [puts, Tk.put, Act.put, List.setIfInBounds_toArray, List.set_cons_zero, List.set_cons_succ]
      go_upto_region 10 with fail
      refine wp_region_fromM (fun W => Sep w [] [.own bdc 36 16 (u7) ((R.bs.take R.bs.length).filter (fitBd a (byB c.ro))), .blk N2 34 (akc a)] W) hM ?_
      clear hM
      rintro Y20 hM
      refine tF 2 [.val 0 (some 36) (u7), .val 1 (some 6) (u7)] trivial ?_
      refine dF ?_
      try simp only [puts, Tk.put, Act.put, List.setIfInBounds_toArray, List.set_cons_zero, List.set_cons_succ]
      replace hM := hM.sub (l' := [.own bdc 36 16 (u7) ((R.bs.take R.bs.length).filter (fitBd a (byB c.ro)))]) (.cons_cons _ (.cons _ .slnil))
      go_wp2_with fail
      go_ret
      rw [List.take_length] at hM
      exact ⟨_, rfl, hM⟩
set_option maxRecDepth 100000 in
set_option maxHeartbeats 4000000 in
theorem whichB2_any {K : Nat} (now : Int) {B : Nat} {R : Rm} {va vb : Value} (a : Ak) (w : World) (hv : RmV w B R va vb) (hr : R.bs.length ≤ 1000) (hk : Blk w K 3 [.int .i64 now]) : Calls Tryz.prog 32 #[.pointer (some ⟨B, 0, none⟩), akv a, .func (.func 36) #[] #[.pointer (some ⟨K, 0, none⟩)]] w (RowB (forB R.bs a (liveBd now)) w) := by
  have hmx : Tryz.prog.follows .mixedOrders = true := by kernel_rfl
  have hl := hv.l
  have ho := hv.o
  have hhl := Nat.le_refl w.heap.size
  have hho := Nat.le_refl w.heap.size
  have HEl := Lib.hid (fun k x (hx : R.ls[k]? = some x) => hl.elem ltc_len hx Tryz.underlying61 (fun W => by kernel_rfl))
  obtain ⟨pl, cl, rfl⟩ := hl.slice
  have HLl := Lib.hid hl
  have HHl := Lib.hid hhl
  have HLENl := Lib.hid (show R.ls.length ≤ 9223372036854775807 from by have h := hl.len; unfold maxLen at h; omega)
  clear hl hhl
  have HEo := Lib.hid (fun k x (hx : R.bs[k]? = some x) => ho.elem bdc_len hx Tryz.underlying43 (fun W => by kernel_rfl))
  obtain ⟨po, co, rfl⟩ := ho.slice
  have HLo := Lib.hid ho
  have HHo := Lib.hid hho
  have HLENo := Lib.hid (show R.bs.length ≤ 9223372036854775807 from by have h := ho.len; unfold maxLen at h; omega)
  clear ho hho
  have HV := Lib.hid hv
  have HK := Lib.hid hk
  clear hk
  have HR := Lib.hid hr
  clear hr
  clear hv
  have hM := Sep.start w
  go_enter Tryz.func32, Tryz.ntmps32
  go_upto_region 0 with fail
  refine wp_region_fromM (fun W => Sep w [] [] W) hM ?_
  clear hM
  rintro Y1 hM
  refine rF (some 4) (pt Y1.heap.size 0) (Y1.alloc (.cells (akc a).toArray 34)) ?_
  replace hM := hM.alloc 34 (akc a)
  generalize World.alloc _ _ = Y2 at *
  generalize hNe : Y1.heap.size = N2 at *
  clear hNe
  refine tF 2 [.val 1 (some 6) (.slice none 0 0)] trivial ?_
  refine dF ?_
  try simp only [puts, Tk.put, Act.put, List.setIfInBounds_toArray, List.set_cons_zero, List.set_cons_succ]
  go_upto_region 1 with fail
  refine wp_region_fromM (fun W => Sep w [] [.blk N2 34 (akc a)] W) hM ?_
  clear hM
  rintro Y3 hM
  refine tF 1 [.val 0 (some 10) (pt B 0)] trivial ?_
  refine cF (some 11) 21 #[pt B 0] ((rmThere_yes _ ((HV.out.below hM.b).b)).mono ?_)
  rintro e Y4 ⟨rfl, hb⟩
  replace hM := hM.below hb
  clear hb
  refine tF 3 [.val 2 (some 12) (.bool false)] trivial ?_
  refine dF ?_
  try simp only [puts, Tk.put, Act.put, List.setIfInBounds_toArray, List.set_cons_zero, List.set_cons_succ]
  go_upto_region 3 with fail
  refine wp_region_fromM (fun W => Sep w [] [.blk N2 34 (akc a)] W) hM ?_
  clear hM
  rintro Y5 hM
  refine tF 1 [.val 0 (some 7) (.slice none 0 0)] trivial ?_
  refine dF ?_
  try simp only [puts, Tk.put, Act.put, List.setIfInBounds_toArray, List.set_cons_zero, List.set_cons_succ]
  go_upto_region 4 with fail
  refine wp_region_fromM (fun W => Sep w [] [.blk N2 34 (akc a)] W) hM ?_
  clear hM
  rintro Y6 hM
  refine tF 6 [.val 0 (some 13) (pt B 0), .val 1 (some 14) (pt B 0), .val 2 (some 15) (pt B 4), .load 3 (some 16) 43 (pt B 4) (.slice po R.bs.length co), .val 4 (some 17) (.int .i64 (R.bs.length : Int)), .val 5 (some 18) (.int .i64 0)] ⟨ld_any _ _ Tryz.underlying43 rfl (HV.out.below hM.b).b 4 rfl, trivial⟩ ?_
  refine dF ?_
  try simp only [puts, Tk.put, Act.put, List.setIfInBounds_toArray, List.set_cons_zero, List.set_cons_succ]
  replace hM := hM.nil bdc 36 16
  go_wp2_with fail
  go_loopw [7, 18] (fun u7 i wr => ∃ j : Nat, j ≤ R.bs.length ∧ i = .int .i64 (j : Int) ∧ Sep w [] [.own bdc 36 16 (u7) ((R.bs.take j).filter (fitBd a (liveBd now))), .blk N2 34 (akc a)] wr) (fun u7 i _ => R.bs.length - (intOf i).toNat)
  case atStart => exact ⟨0, Nat.zero_le _, rfl, hM⟩
  clear hM
  case round =>
    obtain ⟨j, hj, rfl, hM⟩ := hrel
    by_cases hlt : j < R.bs.length
    case pos =>
      obtain ⟨x, hx⟩ : ∃ x, R.bs[j]? = some x := ⟨_, List.getElem?_eq_getElem hlt⟩
      obtain ⟨bo, oo, _, _, hit, hct⟩ := HEo.out j x hx
      have HXo := Lib.hid hx
      have HIo := Lib.hid hit
      have HCo := Lib.hid hct
      clear hx hit hct
      have HJ := Lib.hid hlt
      have hlt' : (j : Int) < (R.bs.length : Int) := by omega
      clear hlt
      have HTF := Lib.hid (take_filG (p := (fitBd a (liveBd now))) HXo.out)
      go_upto_region 5 with fail
      refine wp_region_fromM (fun W => Sep w [] [.own bdc 36 16 (u7) ((R.bs.take j).filter (fitBd a (liveBd now))), .blk N2 34 (akc a)] W) hM ?_
      clear hM
      rintro Y7 hM
      refine tF 1 [.alt 0 (some 19) (.bool (decide ((j : Int) < (R.bs.length : Int)))) (.bool true)] ⟨congrArg Value.bool (decide_eq_true hlt'), trivial⟩ ?_
      refine dF ?_
      try simp only [puts, Tk.put, Act.put, List.setIfInBounds_toArray, List.set_cons_zero, List.set_cons_succ]
      go_upto_region 6 with fail
      refine wp_region_fromM (fun W => Sep w [] [.own bdc 36 16 (u7) ((R.bs.take j).filter (fitBd a (liveBd now))), .blk N2 34 (akc a)] W) hM ?_
      clear hM
      rintro Y8 hM
      refine tF 2 [.idx 0 (some 20) 43 (.slice po R.bs.length co) (.int .i64 (j : Int)) (pt bo oo), .load 1 (some 21) 36 (pt bo oo) (bdv x)] ⟨HIo.out _, ld_cells (bdc x) _ _ Tryz.underlying36 rfl (by kernel_rfl) (HCo.out _ (HLo.out.below hM.b HHo.out)), trivial⟩ ?_
      refine rF (some 9) (pt Y8.heap.size 0) (Y8.alloc (.cells (bdc noB).toArray 36)) ?_
      replace hM := hM.alloc 36 (bdc noB)
      generalize World.alloc _ _ = Y9 at *
      generalize hNe : Y8.heap.size = N9 at *
      clear hNe
      have hst := sto_part (bdc x) (hM.at 0 rfl) 0 36 (bdv x) (bdc x) rfl (by kernel_rfl) (Nat.le_of_ble_eq_true rfl) rfl rfl
      refine sF 36 (pt N9 0) (bdv x) (hst) ?_
      clear hst
      replace hM := hM.set 0 (cs' := bdc x) rfl rfl
      generalize World.setRow _ _ _ = Y10 at *
      refine dF ?_
      try simp only [puts, Tk.put, Act.put, List.setIfInBounds_toArray, List.set_cons_zero, List.set_cons_succ]
      go_upto_region 7 with fail
      refine wp_region_fromM (fun W => Sep w [] [.blk N9 36 (bdc x), .own bdc 36 16 (u7) ((R.bs.take j).filter (fitBd a (liveBd now))), .blk N2 34 (akc a)] W) hM ?_
      clear hM
      rintro Y11 hM
      refine tF 3 [.val 0 (some 22) (pt N9 1), .load 1 (some 23) 34 (pt N9 1) (akv x.k), .load 2 (some 24) 34 (pt N2 0) (akv a)] ⟨load_part (hM.at 0 rfl) 1 (akc x.k) rfl _ _ Tryz.underlying34 rfl (by kernel_rfl), load_part (hM.at 2 rfl) 0 (akc a) rfl _ _ Tryz.underlying34 rfl (by kernel_rfl), trivial⟩ ?_
      refine eqA (.tmp 23) (.tmp 24) 34 (some 25) (akc x.k).toArray (akc a).toArray (decide (x.k = a)) (run_eqAk x.k a _) ?_
      refine tF 5 [.val 4 (some 26) (.bool (decide (x.k = a)))] trivial ?_
      cases hb1 : decide (x.k = a) with
      | false =>
        have Hhb1 := Lib.hid hb1
        clear hb1
        refine tF 7 [.skip 5 (some 27), .skip 6 (some 28)] trivial ?_
        refine wpFrom_not (d := some 29) (by kernel_rfl) ?_
        refine tF 9 [.val 8 (some 30) (.bool false)] trivial ?_
        refine dF ?_
        try simp only [puts, Tk.put, Act.put, List.setIfInBounds_toArray, List.set_cons_zero, List.set_cons_succ]
        go_upto_region 9 with fail
        refine wp_region_fromM (fun W => Sep w [] [.blk N9 36 (bdc x), .own bdc 36 16 (u7) ((R.bs.take j).filter (fitBd a (liveBd now))), .blk N2 34 (akc a)] W) hM ?_
        clear hM
        rintro Y12 hM
        refine tF 2 [.alt 0 (some 35) (.int .i64 (IntKind.i64.wrap ((j : Int) + 1))) (.int .i64 ((j + 1 : Nat) : Int)), .val 1 (some 18) (.int .i64 ((j + 1 : Nat) : Int))] ⟨congrArg (Value.int .i64) ((IntWalk.i64_in _ (by have := HLENo.out; have := HJ.out; omega)).trans (by omega)), trivial⟩ ?_
        refine dF ?_
        try simp only [puts, Tk.put, Act.put, List.setIfInBounds_toArray, List.set_cons_zero, List.set_cons_succ]
        have hM1 := hM.sub (l' := [.own bdc 36 16 (u7) ((R.bs.take j).filter (fitBd a (liveBd now))), .blk N2 34 (akc a)]) (.cons _ (.cons_cons _ (.cons_cons _ .slnil)))
        have HM1 := Lib.hid hM1
        clear hM hM1
        go_wp2_with fail
        go_roundw
        case rel => exact ⟨j + 1, HJ.out, rfl, by rw [HTF.out, if_neg (by rw [fit_noA Hhb1.out]; decide), List.append_nil]; exact HM1.out⟩
        case measure => have := HJ.out; simp [intOf]; omega
      | true =>
        have Hhb1 := Lib.hid hb1
        clear hb1
        refine tF 7 [.val 5 (some 27) (.func (.func 36) #[] #[.pointer (some ⟨K, 0, none⟩)]), .load 6 (some 28) 36 (pt N9 0) (bdv x)] ⟨load_part (hM.at 0 rfl) 0 (bdc x) rfl _ _ Tryz.underlying36 rfl (by kernel_rfl), trivial⟩ ?_
        refine cF (some 29) 36 #[bdv x, .pointer (some ⟨K, 0, none⟩)] ((live1_any now x _ (HK.out.below hM.b HK.out.lt)).mono ?_)
        rintro e Y13 ⟨rfl, hb⟩
        replace hM := hM.below hb
        clear hb
        refine tF 9 [.val 8 (some 30) (.bool (liveBd now x))] trivial ?_
        refine dF ?_
        try simp only [puts, Tk.put, Act.put, List.setIfInBounds_toArray, List.set_cons_zero, List.set_cons_succ]
        cases hb2 : liveBd now x with
        | false =>
          have Hhb2 := Lib.hid hb2
          clear hb2
          go_upto_region 9 with fail
          refine wp_region_fromM (fun W => Sep w [] [.blk N9 36 (bdc x), .own bdc 36 16 (u7) ((R.bs.take j).filter (fitBd a (liveBd now))), .blk N2 34 (akc a)] W) hM ?_
          clear hM
          rintro Y14 hM
          refine tF 2 [.alt 0 (some 35) (.int .i64 (IntKind.i64.wrap ((j : Int) + 1))) (.int .i64 ((j + 1 : Nat) : Int)), .val 1 (some 18) (.int .i64 ((j + 1 : Nat) : Int))] ⟨congrArg (Value.int .i64) ((IntWalk.i64_in _ (by have := HLENo.out; have := HJ.out; omega)).trans (by omega)), trivial⟩ ?_
          refine dF ?_
          try simp only [puts, Tk.put, Act.put, List.setIfInBounds_toArray, List.set_cons_zero, List.set_cons_succ]
          have hM1 := hM.sub (l' := [.own bdc 36 16 (u7) ((R.bs.take j).filter (fitBd a (liveBd now))), .blk N2 34 (akc a)]) (.cons _ (.cons_cons _ (.cons_cons _ .slnil)))
          have HM1 := Lib.hid hM1
          clear hM hM1
          go_wp2_with fail
          go_roundw
          case rel => exact ⟨j + 1, HJ.out, rfl, by rw [HTF.out, if_neg (by rw [fit_noP (p := liveBd now) Hhb2.out]; decide), List.append_nil]; exact HM1.out⟩
          case measure => have := HJ.out; simp [intOf]; omega
        | true =>
          have Hhb2 := Lib.hid hb2
          clear hb2
          go_upto_region 8 with fail
          refine wp_region_fromM (fun W => Sep w [] [.blk N9 36 (bdc x), .own bdc 36 16 (u7) ((R.bs.take j).filter (fitBd a (liveBd now))), .blk N2 34 (akc a)] W) hM ?_
          clear hM
          rintro Y15 hM
          refine tF 2 [.val 0 (some 31) (u7), .load 1 (some 32) 36 (pt N9 0) (bdv x)] ⟨load_part (hM.at 0 rfl) 0 (bdc x) rfl _ _ Tryz.underlying36 rfl (by kernel_rfl), trivial⟩ ?_
          refine rF (some 33) (.slice (some ⟨Y15.heap.size, 0, none⟩) 1 1) (Y15.alloc (.cells (bdc x).toArray 36)) ?_
          replace hM := hM.alloc 36 (bdc x)
          generalize World.alloc _ _ = Y16 at *
          generalize hNe : Y15.heap.size = N16 at *
          clear hNe
          obtain ⟨v17, Y17, hrun, ht⟩ := own_app1 infoBd rfl (by decide) Tryz.underlying43 bdc_len bdc_one (hM.oka 2 rfl) x (hM.at 0 rfl) (by decide) ((by have h1 := HR.out; have h2 := fil_len R.bs j (fitBd a (liveBd now)); have h3 := HJ.out; omega)) 43
          replace hM := hM.turn 2 rfl ht rfl
          clear ht
          refine wpFrom_append (d := some 34) (t := 43) (t' := 43) (ty := 43) (v := u7) (x := .slice (some ⟨N16, 0, none⟩) 1 1) (by kernel_rfl) hrun ?_
          clear hrun
          refine tF 5 [.val 4 (some 7) (v17)] trivial ?_
          refine dF ?_
          try simp only [puts, Tk.put, Act.put, List.setIfInBounds_toArray, List.set_cons_zero, List.set_cons_succ]
          go_upto_region 9 with fail
          refine wp_region_fromM (fun W => Sep w [] [.blk N16 36 (bdc x), .blk N9 36 (bdc x), .own bdc 36 16 (v17) (((R.bs.take j).filter (fitBd a (liveBd now))) ++ [x]), .blk N2 34 (akc a)] W) hM ?_
          clear hM
          rintro Y18 hM
          refine tF 2 [.alt 0 (some 35) (.int .i64 (IntKind.i64.wrap ((j : Int) + 1))) (.int .i64 ((j + 1 : Nat) : Int)), .val 1 (some 18) (.int .i64 ((j + 1 : Nat) : Int))] ⟨congrArg (Value.int .i64) ((IntWalk.i64_in _ (by have := HLENo.out; have := HJ.out; omega)).trans (by omega)), trivial⟩ ?_
          refine dF ?_
          try simp only [puts, Tk.put, Act.put, List.setIfInBounds_toArray, List.set_cons_zero, List.set_cons_succ]
          have hM1 := hM.sub (l' := [.own bdc 36 16 (v17) (((R.bs.take j).filter (fitBd a (liveBd now))) ++ [x]), .blk N2 34 (akc a)]) (.cons _ (.cons _ (.cons_cons _ (.cons_cons _ .slnil))))
          have HM1 := Lib.hid hM1
          clear hM hM1
          go_wp2_with fail
          go_roundw
          case rel => exact ⟨j + 1, HJ.out, rfl, by rw [HTF.out, if_pos (fit_yes (p := liveBd now) Hhb1.out Hhb2.out)]; exact HM1.out⟩
          case measure => have := HJ.out; simp [intOf]; omega
    case neg =>
      obtain rfl : j = R.bs.length := by omega
      go_upto_region 5 with fail
      refine wp_region_fromM (fun W => Sep w [] [.own bdc 36 16 (u7) ((R.bs.take R.bs.length).filter (fitBd a (liveBd now))), .blk N2 34 (akc a)] W) hM ?_
      clear hM
      rintro Y19 hM
      refine tF 1 [.alt 0 (some 19) (.bool (decide ((R.bs.length : Int) < (R.bs.length : Int)))) (.bool false)] ⟨congrArg Value.bool (decide_eq_false (by omega)), trivial⟩ ?_
      refine dF ?_
      try simp only [puts, Tk.put, Act.put, List.setIfInBounds_toArray, List.set_cons_zero, List.set_cons_succ]
      go_upto_region 10 with fail
      refine wp_region_fromM (fun W => Sep w [] [.own bdc 36 16 (u7) ((R.bs.take R.bs.length).filter (fitBd a (liveBd now))), .blk N2 34 (akc a)] W) hM ?_
      clear hM
      rintro Y20 hM
      refine tF 2 [.val 0 (some 36) (u7), .val 1 (some 6) (u7)] trivial ?_
      refine dF ?_
      try simp only [puts, Tk.put, Act.put, List.setIfInBounds_toArray, List.set_cons_zero, List.set_cons_succ]
      replace hM := hM.sub (l' := [.own bdc 36 16 (u7) ((R.bs.take R.bs.length).filter (fitBd a (liveBd now)))]) (.cons_cons _ (.cons _ .slnil))
      go_wp2_with fail
      go_ret
      rw [List.take_length] at hM
      exact ⟨_, rfl, hM⟩
set_option maxRecDepth 100000 in
set_option maxHeartbeats 4000000 in
theorem whichB3_any  {B : Nat} {R : Rm} {va vb : Value} (a : Ak) (w : World) (hv : RmV w B R va vb) (hr : R.bs.length ≤ 1000)  : Calls Tryz.prog 32 #[.pointer (some ⟨B, 0, none⟩), akv a, .func (.func 39) #[] #[]] w (RowB (forB R.bs a (anyB)) w) := by
  have hmx : Tryz.prog.follows .mixedOrders = true := by kernel_rfl
  have hl := hv.l
  have ho := hv.o
  have hhl := Nat.le_refl w.heap.size
  have hho := Nat.le_refl w.heap.size
  have HEl := Lib.hid (fun k x (hx : R.ls[k]? = some x) => hl.elem ltc_len hx Tryz.underlying61 (fun W => by kernel_rfl))
  obtain ⟨pl, cl, rfl⟩ := hl.slice
  have HLl := Lib.hid hl
  have HHl := Lib.hid hhl
  have HLENl := Lib.hid (show R.ls.length ≤ 9223372036854775807 from by have h := hl.len; unfold maxLen at h; omega)
  clear hl hhl
  have HEo := Lib.hid (fun k x (hx : R.bs[k]? = some x) => ho.elem bdc_len hx Tryz.underlying43 (fun W => by kernel_rfl))
  obtain ⟨po, co, rfl⟩ := ho.slice
  have HLo := Lib.hid ho
  have HHo := Lib.hid hho
  have HLENo := Lib.hid (show R.bs.length ≤ 9223372036854775807 from by have h := ho.len; unfold maxLen at h; omega)
  clear ho hho
  have HV := Lib.hid hv
  have HR := Lib.hid hr
  clear hr
  clear hv
  have hM := Sep.start w
  go_enter Tryz.func32, Tryz.ntmps32
  go_upto_region 0 with fail
  refine wp_region_fromM (fun W => Sep w [] [] W) hM ?_
  clear hM
  rintro Y1 hM
  refine rF (some 4) (pt Y1.heap.size 0) (Y1.alloc (.cells (akc a).toArray 34)) ?_
  replace hM := hM.alloc 34 (akc a)
  generalize World.alloc _ _ = Y2 at *
  generalize hNe : Y1.heap.size = N2 at *
  clear hNe
  refine tF 2 [.val 1 (some 6) (.slice none 0 0)] trivial ?_
  refine dF ?_
  try simp only [puts, Tk.put, Act.put, List.setIfInBounds_toArray, List.set_cons_zero, List.set_cons_succ]
  go_upto_region 1 with fail
  refine wp_region_fromM (fun W => Sep w [] [.blk N2 34 (akc a)] W) hM ?_
  clear hM
  rintro Y3 hM
  refine tF 1 [.val 0 (some 10) (pt B 0)] trivial ?_
  refine cF (some 11) 21 #[pt B 0] ((rmThere_yes _ ((HV.out.below hM.b).b)).mono ?_)
  rintro e Y4 ⟨rfl, hb⟩
  replace hM := hM.below hb
  clear hb
  refine tF 3 [.val 2 (some 12) (.bool false)] trivial ?_
  refine dF ?_
  try simp only [puts, Tk.put, Act.put, List.setIfInBounds_toArray, List.set_cons_zero, List.set_cons_succ]
  go_upto_region 3 with fail
  refine wp_region_fromM (fun W => Sep w [] [.blk N2 34 (akc a)] W) hM ?_
  clear hM
  rintro Y5 hM
  refine tF 1 [.val 0 (some 7) (.slice none 0 0)] trivial ?_
  refine dF ?_
  try simp only [puts, Tk.put, Act.put, List.setIfInBounds_toArray, List.set_cons_zero, List.set_cons_succ]
  go_upto_region 4 with fail
  refine wp_region_fromM (fun W => Sep w [] [.blk N2 34 (akc a)] W) hM ?_
  clear hM
  rintro Y6 hM
  refine tF 6 [.val 0 (some 13) (pt B 0), .val 1 (some 14) (pt B 0), .val 2 (some 15) (pt B 4), .load 3 (some 16) 43 (pt B 4) (.slice po R.bs.length co), .val 4 (some 17) (.int .i64 (R.bs.length : Int)), .val 5 (some 18) (.int .i64 0)] ⟨ld_any _ _ Tryz.underlying43 rfl (HV.out.below hM.b).b 4 rfl, trivial⟩ ?_
  refine dF ?_
  try simp only [puts, Tk.put, Act.put, List.setIfInBounds_toArray, List.set_cons_zero, List.set_cons_succ]
  replace hM := hM.nil bdc 36 16
  go_wp2_with fail
  go_loopw [7, 18] (fun u7 i wr => ∃ j : Nat, j ≤ R.bs.length ∧ i = .int .i64 (j : Int) ∧ Sep w [] [.own bdc 36 16 (u7) ((R.bs.take j).filter (fitBd a (anyB))), .blk N2 34 (akc a)] wr) (fun u7 i _ => R.bs.length - (intOf i).toNat)
  case atStart => exact ⟨0, Nat.zero_le _, rfl, hM⟩
  clear hM
  case round =>
    obtain ⟨j, hj, rfl, hM⟩ := hrel
    by_cases hlt : j < R.bs.length
    case pos =>
      obtain ⟨x, hx⟩ : ∃ x, R.bs[j]? = some x := ⟨_, List.getElem?_eq_getElem hlt⟩
      obtain ⟨bo, oo, _, _, hit, hct⟩ := HEo.out j x hx
      have HXo := Lib.hid hx
      have HIo := Lib.hid hit
      have HCo := Lib.hid hct
      clear hx hit hct
      have HJ := Lib.hid hlt
      have hlt' : (j : Int) < (R.bs.length : Int) := by omega
      clear hlt
      have HTF := Lib.hid (take_filG (p := (fitBd a (anyB))) HXo.out)
      go_upto_region 5 with fail
      refine wp_region_fromM (fun W => Sep w [] [.own bdc 36 16 (u7) ((R.bs.take j).filter (fitBd a (anyB))), .blk N2 34 (akc a)] W) hM ?_
      clear hM
      rintro Y7 hM
      refine tF 1 [.alt 0 (some 19) (.bool (decide ((j : Int) < (R.bs.length : Int)))) (.bool true)] ⟨congrArg Value.bool (decide_eq_true hlt'), trivial⟩ ?_
      refine dF ?_
      try simp only [puts, Tk.put, Act.put, List.setIfInBounds_toArray, List.set_cons_zero, List.set_cons_succ]
      go_upto_region 6 with fail
      refine wp_region_fromM (fun W => Sep w [] [.own bdc 36 16 (u7) ((R.bs.take j).filter (fitBd a (anyB))), .blk N2 34 (akc a)] W) hM ?_
      clear hM
      rintro Y8 hM
      refine tF 2 [.idx 0 (some 20) 43 (.slice po R.bs.length co) (.int .i64 (j : Int)) (pt bo oo), .load 1 (some 21) 36 (pt bo oo) (bdv x)] ⟨HIo.out _, ld_cells (bdc x) _ _ Tryz.underlying36 rfl (by kernel_rfl) (HCo.out _ (HLo.out.below hM.b HHo.out)), trivial⟩ ?_
      refine rF (some 9) (pt Y8.heap.size 0) (Y8.alloc (.cells (bdc noB).toArray 36)) ?_
      replace hM := hM.alloc 36 (bdc noB)
      generalize World.alloc _ _ = Y9 at *
      generalize hNe : Y8.heap.size = N9 at *
      clear hNe
      have hst := sto_part (bdc x) (hM.at 0 rfl) 0 36 (bdv x) (bdc x) rfl (by kernel_rfl) (Nat.le_of_ble_eq_true rfl) rfl rfl
      refine sF 36 (pt N9 0) (bdv x) (hst) ?_
      clear hst
      replace hM := hM.set 0 (cs' := bdc x) rfl rfl
      generalize World.setRow _ _ _ = Y10 at *
      refine dF ?_
      try simp only [puts, Tk.put, Act.put, List.setIfInBounds_toArray, List.set_cons_zero, List.set_cons_succ]
      go_upto_region 7 with fail
      refine wp_region_fromM (fun W => Sep w [] [.blk N9 36 (bdc x), .own bdc 36 16 (u7) ((R.bs.take j).filter (fitBd a (anyB))), .blk N2 34 (akc a)] W) hM ?_
      clear hM
      rintro Y11 hM
      refine tF 3 [.val 0 (some 22) (pt N9 1), .load 1 (some 23) 34 (pt N9 1) (akv x.k), .load 2 (some 24) 34 (pt N2 0) (akv a)] ⟨load_part (hM.at 0 rfl) 1 (akc x.k) rfl _ _ Tryz.underlying34 rfl (by kernel_rfl), load_part (hM.at 2 rfl) 0 (akc a) rfl _ _ Tryz.underlying34 rfl (by kernel_rfl), trivial⟩ ?_
      refine eqA (.tmp 23) (.tmp 24) 34 (some 25) (akc x.k).toArray (akc a).toArray (decide (x.k = a)) (run_eqAk x.k a _) ?_
      refine tF 5 [.val 4 (some 26) (.bool (decide (x.k = a)))] trivial ?_
      cases hb1 : decide (x.k = a) with
      | false =>
        have Hhb1 := Lib.hid hb1
        clear hb1
        refine tF 7 [.skip 5 (some 27), .skip 6 (some 28)] trivial ?_
        refine wpFrom_not (d := some 29) (by kernel_rfl) ?_
        refine tF 9 [.val 8 (some 30) (.bool false)] trivial ?_
        refine dF ?_
        try simp only [puts, Tk.put, Act.put, List.setIfInBounds_toArray, List.set_cons_zero, List.set_cons_succ]
        go_upto_region 9 with fail
        refine wp_region_fromM (fun W => Sep w [] [.blk N9 36 (bdc x), .own bdc 36 16 (u7) ((R.bs.take j).filter (fitBd a (anyB))), .blk N2 34 (akc a)] W) hM ?_
        clear hM
        rintro Y12 hM
        refine tF 2 [.alt 0 (some 35) (.int .i64 (IntKind.i64.wrap ((j : Int) + 1))) (.int .i64 ((j + 1 : Nat) : Int)), .val 1 (some 18) (.int .i64 ((j + 1 : Nat) : Int))] ⟨congrArg (Value.int .i64) ((IntWalk.i64_in _ (by have := HLENo.out; have := HJ.out; omega)).trans (by omega)), trivial⟩ ?_
        refine dF ?_
        try simp only [puts, Tk.put, Act.put, List.setIfInBounds_toArray, List.set_cons_zero, List.set_cons_succ]
        have hM1 := hM.sub (l' := [.own bdc 36 16 (u7) ((R.bs.take j).filter (fitBd a (anyB))), .blk N2 34 (akc a)]) (.cons _ (.cons_cons _ (.cons_cons _ .slnil)))
        have HM1 := Lib.hid hM1
        clear hM hM1
        go_wp2_with fail
        go_roundw
        case rel => exact ⟨j + 1, HJ.out, rfl, by rw [HTF.out, if_neg (by rw [fit_noA Hhb1.out]; decide), List.append_nil]; exact HM1.out⟩
        case measure => have := HJ.out; simp [intOf]; omega
      | true =>
        have Hhb1 := Lib.hid hb1
        clear hb1
        refine tF 7 [.val 5 (some 27) (.func (.func 39) #[] #[]), .load 6 (some 28) 36 (pt N9 0) (bdv x)] ⟨load_part (hM.at 0 rfl) 0 (bdc x) rfl _ _ Tryz.underlying36 rfl (by kernel_rfl), trivial⟩ ?_
        refine cF (some 29) 39 #[bdv x] ((any1_any  x _).mono ?_)
        rintro e Y13 ⟨rfl, hb⟩
        replace hM := hM.below hb
        clear hb
        refine tF 9 [.val 8 (some 30) (.bool (anyB x))] trivial ?_
        refine dF ?_
        try simp only [puts, Tk.put, Act.put, List.setIfInBounds_toArray, List.set_cons_zero, List.set_cons_succ]
        cases hb2 : anyB x with
        | false =>
          have Hhb2 := Lib.hid hb2
          clear hb2
          go_upto_region 9 with fail
          refine wp_region_fromM (fun W => Sep w [] [.blk N9 36 (bdc x), .own bdc 36 16 (u7) ((R.bs.take j).filter (fitBd a (anyB))), .blk N2 34 (akc a)] W) hM ?_
          clear hM
          rintro Y14 hM
          refine tF 2 [.alt 0 (some 35) (.int .i64 (IntKind.i64.wrap ((j : Int) + 1))) (.int .i64 ((j + 1 : Nat) : Int)), .val 1 (some 18) (.int .i64 ((j + 1 : Nat) : Int))] ⟨congrArg (Value.int .i64) ((IntWalk.i64_in _ (by have := HLENo.out; have := HJ.out; omega)).trans (by omega)), trivial⟩ ?_
          refine dF ?_
          try simp only [puts, Tk.put, Act.put, List.setIfInBounds_toArray, List.set_cons_zero, List.set_cons_succ]
          have hM1 := hM.sub (l' := [.own bdc 36 16 (u7) ((R.bs.take j).filter (fitBd a (anyB))), .blk N2 34 (akc a)]) (.cons _ (.cons_cons _ (.cons_cons _ .slnil)))
          have HM1 := Lib.hid hM1
          clear hM hM1
          go_wp2_with fail
          go_roundw
          case rel => exact ⟨j + 1, HJ.out, rfl, by rw [HTF.out, if_neg (by rw [fit_noP (p := anyB) Hhb2.out]; decide), List.append_nil]; exact HM1.out⟩
          case measure => have := HJ.out; simp [intOf]; omega
        | true =>
          have Hhb2 := Lib.hid hb2
          clear hb2
          go_upto_region 8 with fail
          refine wp_region_fromM (fun W => Sep w [] [.blk N9 36 (bdc x), .own bdc 36 16 (u7) ((R.bs.take j).filter (fitBd a (anyB))), .blk N2 34 (akc a)] W) hM ?_
          clear hM
          rintro Y15 hM
          refine tF 2 [.val 0 (some 31) (u7), .load 1 (some 32) 36 (pt N9 0) (bdv x)] ⟨load_part (hM.at 0 rfl) 0 (bdc x) rfl _ _ Tryz.underlying36 rfl (by kernel_rfl), trivial⟩ ?_
          refine rF (some 33) (.slice (some ⟨Y15.heap.size, 0, none⟩) 1 1) (Y15.alloc (.cells (bdc x).toArray 36)) ?_
          replace hM := hM.alloc 36 (bdc x)
          generalize World.alloc _ _ = Y16 at *
          generalize hNe : Y15.heap.size = N16 at *
          clear hNe
          obtain ⟨v17, Y17, hrun, ht⟩ := own_app1 infoBd rfl (by decide) Tryz.underlying43 bdc_len bdc_one (hM.oka 2 rfl) x (hM.at 0 rfl) (by decide) ((by have h1 := HR.out; have h2 := fil_len R.bs j (fitBd a (anyB)); have h3 := HJ.out; omega)) 43
          replace hM := hM.turn 2 rfl ht rfl
          clear ht
          refine wpFrom_append (d := some 34) (t := 43) (t' := 43) (ty := 43) (v := u7) (x := .slice (some ⟨N16, 0, none⟩) 1 1) (by kernel_rfl) hrun ?_
          clear hrun
          refine tF 5 [.val 4 (some 7) (v17)] trivial ?_
          refine dF ?_
          try simp only [puts, Tk.put, Act.put, List.setIfInBounds_toArray, List.set_cons_zero, List.set_cons_succ]
          go_upto_region 9 with fail
          refine wp_region_fromM (fun W => Sep w [] [.blk N16 36 (bdc x), .blk N9 36 (bdc x), .own bdc 36 16 (v17) (((R.bs.take j).filter (fitBd a (anyB))) ++ [x]), .blk N2 34 (akc a)] W) hM ?_
          clear hM
          rintro Y18 hM
          refine tF 2 [.alt 0 (some 35) (.int .i64 (IntKind.i64.wrap ((j : Int) + 1))) (.int .i64 ((j + 1 : Nat) : Int)), .val 1 (some 18) (.int .i64 ((j + 1 : Nat) : Int))] ⟨congrArg (Value.int .i64) ((IntWalk.i64_in _ (by have := HLENo.out; have := HJ.out; omega)).trans (by omega)), trivial⟩ ?_
          refine dF ?_
          try simp only [puts, Tk.put, Act.put, List.setIfInBounds_toArray, List.set_cons_zero, List.set_cons_succ]
          have hM1 := hM.sub (l' := [.own bdc 36 16 (v17) (((R.bs.take j).filter (fitBd a (anyB))) ++ [x]), .blk N2 34 (akc a)]) (.cons _ (.cons _ (.cons_cons _ (.cons_cons _ .slnil))))
          have HM1 := Lib.hid hM1
          clear hM hM1
          go_wp2_with fail
          go_roundw
          case rel => exact ⟨j + 1, HJ.out, rfl, by rw [HTF.out, if_pos (fit_yes (p := anyB) Hhb1.out Hhb2.out)]; exact HM1.out⟩
          case measure => have := HJ.out; simp [intOf]; omega
    case neg =>
      obtain rfl : j = R.bs.length := by omega
      go_upto_region 5 with fail
      refine wp_region_fromM (fun W => Sep w [] [.own bdc 36 16 (u7) ((R.bs.take R.bs.length).filter (fitBd a (anyB))), .blk N2 34 (akc a)] W) hM ?_
      clear hM
      rintro Y19 hM
      refine tF 1 [.alt 0 (some 19) (.bool (decide ((R.bs.length : Int) < (R.bs.length : Int)))) (.bool false)] ⟨congrArg Value.bool (decide_eq_false (by omega)), trivial⟩ ?_
      refine dF ?_
      try simp only [puts, Tk.put, Act.put, List.setIfInBounds_toArray, List.set_cons_zero, List.set_cons_succ]
      go_upto_region 10 with fail
      refine wp_region_fromM (fun W => Sep w [] [.own bdc 36 16 (u7) ((R.bs.take R.bs.length).filter (fitBd a (anyB))), .blk N2 34 (akc a)] W) hM ?_
      clear hM
      rintro Y20 hM
      refine tF 2 [.val 0 (some 36) (u7), .val 1 (some 6) (u7)] trivial ?_
      refine dF ?_
      try simp only [puts, Tk.put, Act.put, List.setIfInBounds_toArray, List.set_cons_zero, List.set_cons_succ]
      replace hM := hM.sub (l' := [.own bdc 36 16 (u7) ((R.bs.take R.bs.length).filter (fitBd a (anyB)))]) (.cons_cons _ (.cons _ .slnil))
      go_wp2_with fail
      go_ret
      rw [List.take_length] at hM
      exact ⟨_, rfl, hM⟩
set_option maxRecDepth 100000 in
set_option maxHeartbeats 4000000 in
theorem rmBids_any {B : Nat} {R : Rm} {va vb : Value} (a : Ak) (w : World) (hv : RmV w B R va vb) (hr : R.bs.length ≤ 1000) : Calls Tryz.prog 17 #[.pointer (some ⟨B, 0, none⟩), akv a] w (RowB (forB R.bs a anyB) w) := by
  have hmx : Tryz.prog.follows .mixedOrders = true := by kernel_rfl
  have hl := hv.l
  have ho := hv.o
  have hhl := Nat.le_refl w.heap.size
  have hho := Nat.le_refl w.heap.size
  have HEl := Lib.hid (fun k x (hx : R.ls[k]? = some x) => hl.elem ltc_len hx Tryz.underlying61 (fun W => by kernel_rfl))
  obtain ⟨pl, cl, rfl⟩ := hl.slice
  have HLl := Lib.hid hl
  have HHl := Lib.hid hhl
  have HLENl := Lib.hid (show R.ls.length ≤ 9223372036854775807 from by have h := hl.len; unfold maxLen at h; omega)
  clear hl hhl
  have HEo := Lib.hid (fun k x (hx : R.bs[k]? = some x) => ho.elem bdc_len hx Tryz.underlying43 (fun W => by kernel_rfl))
  obtain ⟨po, co, rfl⟩ := ho.slice
  have HLo := Lib.hid ho
  have HHo := Lib.hid hho
  have HLENo := Lib.hid (show R.bs.length ≤ 9223372036854775807 from by have h := ho.len; unfold maxLen at h; omega)
  clear ho hho
  have HV := Lib.hid hv
  have HR := Lib.hid hr
  clear hr
  clear hv
  have hM := Sep.start w
  go_enter Tryz.func17, Tryz.ntmps17
  go_upto_region 0 with fail
  refine wp_region_fromM (fun W => Sep w [] [] W) hM ?_
  clear hM
  rintro Y1 hM
  refine rF (some 3) (pt Y1.heap.size 0) (Y1.alloc (.cells (akc a).toArray 34)) ?_
  replace hM := hM.alloc 34 (akc a)
  generalize World.alloc _ _ = Y2 at *
  generalize hNe : Y1.heap.size = N2 at *
  clear hNe
  refine tF 2 [.val 1 (some 4) (.slice none 0 0)] trivial ?_
  refine dF ?_
  try simp only [puts, Tk.put, Act.put, List.setIfInBounds_toArray, List.set_cons_zero, List.set_cons_succ]
  go_upto_region 1 with fail
  refine wp_region_fromM (fun W => Sep w [] [.blk N2 34 (akc a)] W) hM ?_
  clear hM
  rintro Y3 hM
  refine tF 2 [.val 0 (some 5) (pt B 0), .load 1 (some 6) 34 (pt N2 0) (akv a)] ⟨load_part (hM.at 0 rfl) 0 (akc a) rfl _ _ Tryz.underlying34 rfl (by kernel_rfl), trivial⟩ ?_
  refine cF (some 7) 32 #[pt B 0, akv a, .func (.func 39) #[] #[]] ((whichB3_any  a _ (HV.out.below hM.b) HR.out).mono ?_)
  rintro e Y4 ⟨v4, rfl, hR⟩
  replace hM := hM.gain hR
  clear hR
  obtain ⟨pv4, cv4, rfl⟩ := (hM.oka 0 rfl).slice bdc_len
  refine tF 4 [.val 3 (some 4) (.slice pv4 (forB R.bs a (anyB)).length cv4)] trivial ?_
  refine dF ?_
  try simp only [puts, Tk.put, Act.put, List.setIfInBounds_toArray, List.set_cons_zero, List.set_cons_succ]
  replace hM := hM.sub (l' := [.own bdc 36 16 (.slice pv4 (forB R.bs a (anyB)).length cv4) (forB R.bs a (anyB))]) (.cons_cons _ (.cons _ .slnil))
  go_wp2_with fail
  go_ret
  exact ⟨_, rfl, hM⟩
set_option maxRecDepth 100000 in
set_option maxHeartbeats 4000000 in
theorem rmAsks_any {B : Nat} {R : Rm} {va vb : Value} (w : World) (hv : RmV w B R va vb) (hr : R.ls.length ≤ 1000) : Calls Tryz.prog 16 #[.pointer (some ⟨B, 0, none⟩)] w (RowK (R.ls.map askL) w) := by
  have hmx : Tryz.prog.follows .mixedOrders = true := by kernel_rfl
  have hl := hv.l
  have ho := hv.o
  have hhl := Nat.le_refl w.heap.size
  have hho := Nat.le_refl w.heap.size
  have HEl := Lib.hid (fun k x (hx : R.ls[k]? = some x) => hl.elem ltc_len hx Tryz.underlying61 (fun W => by kernel_rfl))
  obtain ⟨pl, cl, rfl⟩ := hl.slice
  have HLl := Lib.hid hl
  have HHl := Lib.hid hhl
  have HLENl := Lib.hid (show R.ls.length ≤ 9223372036854775807 from by have h := hl.len; unfold maxLen at h; omega)
  clear hl hhl
  have HEo := Lib.hid (fun k x (hx : R.bs[k]? = some x) => ho.elem bdc_len hx Tryz.underlying43 (fun W => by kernel_rfl))
  obtain ⟨po, co, rfl⟩ := ho.slice
  have HLo := Lib.hid ho
  have HHo := Lib.hid hho
  have HLENo := Lib.hid (show R.bs.length ≤ 9223372036854775807 from by have h := ho.len; unfold maxLen at h; omega)
  clear ho hho
  have HV := Lib.hid hv
  have HR := Lib.hid hr
  clear hr
  clear hv
  have hM := Sep.start w
  go_enter Tryz.func16, Tryz.ntmps16
  go_upto_region 0 with fail
  refine wp_region_fromM (fun W => Sep w [] [] W) hM ?_
  clear hM
  rintro Y1 hM
  refine tF 1 [.val 0 (some 2) (.slice none 0 0)] trivial ?_
  refine dF ?_
  try simp only [puts, Tk.put, Act.put, List.setIfInBounds_toArray, List.set_cons_zero, List.set_cons_succ]
  go_upto_region 1 with fail
  refine wp_region_fromM (fun W => Sep w [] [] W) hM ?_
  clear hM
  rintro Y2 hM
  refine tF 1 [.val 0 (some 6) (pt B 0)] trivial ?_
  refine cF (some 7) 21 #[pt B 0] ((rmThere_yes _ ((HV.out.below hM.b).b)).mono ?_)
  rintro e Y3 ⟨rfl, hb⟩
  replace hM := hM.below hb
  clear hb
  refine tF 3 [.val 2 (some 8) (.bool false)] trivial ?_
  refine dF ?_
  try simp only [puts, Tk.put, Act.put, List.setIfInBounds_toArray, List.set_cons_zero, List.set_cons_succ]
  go_upto_region 3 with fail
  refine wp_region_fromM (fun W => Sep w [] [] W) hM ?_
  clear hM
  rintro Y4 hM
  refine tF 1 [.val 0 (some 3) (.slice none 0 0)] trivial ?_
  refine dF ?_
  try simp only [puts, Tk.put, Act.put, List.setIfInBounds_toArray, List.set_cons_zero, List.set_cons_succ]
  go_upto_region 4 with fail
  refine wp_region_fromM (fun W => Sep w [] [] W) hM ?_
  clear hM
  rintro Y5 hM
  refine tF 6 [.val 0 (some 9) (pt B 0), .val 1 (some 10) (pt B 0), .val 2 (some 11) (pt B 3), .load 3 (some 12) 61 (pt B 3) (.slice pl R.ls.length cl), .val 4 (some 13) (.int .i64 (R.ls.length : Int)), .val 5 (some 14) (.int .i64 0)] ⟨ld_any _ _ Tryz.underlying61 rfl (HV.out.below hM.b).b 3 rfl, trivial⟩ ?_
  refine dF ?_
  try simp only [puts, Tk.put, Act.put, List.setIfInBounds_toArray, List.set_cons_zero, List.set_cons_succ]
  replace hM := hM.nil akc 34 9
  go_wp2_with fail
  go_loopw [3, 14] (fun u3 i wr => ∃ j : Nat, j ≤ R.ls.length ∧ i = .int .i64 (j : Int) ∧ Sep w [] [.own akc 34 9 (u3) ((R.ls.take j).map askL)] wr) (fun u3 i _ => R.ls.length - (intOf i).toNat)
  case atStart => exact ⟨0, Nat.zero_le _, rfl, hM⟩
  clear hM
  case round =>
    obtain ⟨j, hj, rfl, hM⟩ := hrel
    by_cases hlt : j < R.ls.length
    case pos =>
      obtain ⟨x, hx⟩ : ∃ x, R.ls[j]? = some x := ⟨_, List.getElem?_eq_getElem hlt⟩
      obtain ⟨bl, ol, _, _, hit, hct⟩ := HEl.out j x hx
      have HXl := Lib.hid hx
      have HIl := Lib.hid hit
      have HCl := Lib.hid hct
      clear hx hit hct
      have HJ := Lib.hid hlt
      have hlt' : (j : Int) < (R.ls.length : Int) := by omega
      clear hlt
      go_upto_region 5 with fail
      refine wp_region_fromM (fun W => Sep w [] [.own akc 34 9 (u3) ((R.ls.take j).map askL)] W) hM ?_
      clear hM
      rintro Y6 hM
      refine tF 1 [.alt 0 (some 15) (.bool (decide ((j : Int) < (R.ls.length : Int)))) (.bool true)] ⟨congrArg Value.bool (decide_eq_true hlt'), trivial⟩ ?_
      refine dF ?_
      try simp only [puts, Tk.put, Act.put, List.setIfInBounds_toArray, List.set_cons_zero, List.set_cons_succ]
      go_upto_region 6 with fail
      refine wp_region_fromM (fun W => Sep w [] [.own akc 34 9 (u3) ((R.ls.take j).map askL)] W) hM ?_
      clear hM
      rintro Y7 hM
      refine tF 2 [.idx 0 (some 16) 61 (.slice pl R.ls.length cl) (.int .i64 (j : Int)) (pt bl ol), .load 1 (some 17) 66 (pt bl ol) (ltv x)] ⟨HIl.out _, ld_cells (ltc x) _ _ Tryz.underlying66 rfl (by kernel_rfl) (HCl.out _ (HLl.out.below hM.b HHl.out)), trivial⟩ ?_
      refine rF (some 5) (pt Y7.heap.size 0) (Y7.alloc (.cells (ltc noL).toArray 66)) ?_
      replace hM := hM.alloc 66 (ltc noL)
      generalize World.alloc _ _ = Y8 at *
      generalize hNe : Y7.heap.size = N8 at *
      clear hNe
      have hst := sto_part (ltc x) (hM.at 0 rfl) 0 66 (ltv x) (ltc x) rfl (by kernel_rfl) (Nat.le_of_ble_eq_true rfl) rfl rfl
      refine sF 66 (pt N8 0) (ltv x) (hst) ?_
      clear hst
      replace hM := hM.set 0 (cs' := ltc x) rfl rfl
      generalize World.setRow _ _ _ = Y9 at *
      refine dF ?_
      try simp only [puts, Tk.put, Act.put, List.setIfInBounds_toArray, List.set_cons_zero, List.set_cons_succ]
      go_upto_region 7 with fail
      refine wp_region_fromM (fun W => Sep w [] [.blk N8 66 (ltc x), .own akc 34 9 (u3) ((R.ls.take j).map askL)] W) hM ?_
      clear hM
      rintro Y10 hM
      refine tF 3 [.val 0 (some 18) (u3), .val 1 (some 19) (pt N8 0), .load 2 (some 20) 34 (pt N8 0) (akv x.k)] ⟨load_part (hM.at 0 rfl) 0 (akc x.k) rfl _ _ Tryz.underlying34 rfl (by kernel_rfl), trivial⟩ ?_
      refine rF (some 21) (.slice (some ⟨Y10.heap.size, 0, none⟩) 1 1) (Y10.alloc (.cells (akc x.k).toArray 34)) ?_
      replace hM := hM.alloc 34 (akc x.k)
      generalize World.alloc _ _ = Y11 at *
      generalize hNe : Y10.heap.size = N11 at *
      clear hNe
      obtain ⟨v12, Y12, hrun, ht⟩ := own_app1 infoAk rfl (by decide) Tryz.underlying51 akc_len akc_one (hM.oka 2 rfl) x.k (hM.at 0 rfl) (by decide) ((by have h1 := HR.out; have h2 := map_len R.ls j; have h3 := HJ.out; omega)) 51
      replace hM := hM.turn 2 rfl ht rfl
      clear ht
      refine wpFrom_append (d := some 22) (t := 51) (t' := 51) (ty := 51) (v := u3) (x := .slice (some ⟨N11, 0, none⟩) 1 1) (by kernel_rfl) hrun ?_
      clear hrun
      refine tF 6 [.val 5 (some 3) (v12)] trivial ?_
      refine dF ?_
      try simp only [puts, Tk.put, Act.put, List.setIfInBounds_toArray, List.set_cons_zero, List.set_cons_succ]
      go_upto_region 8 with fail
      refine wp_region_fromM (fun W => Sep w [] [.blk N11 34 (akc x.k), .blk N8 66 (ltc x), .own akc 34 9 (v12) (((R.ls.take j).map askL) ++ [x.k])] W) hM ?_
      clear hM
      rintro Y13 hM
      refine tF 2 [.alt 0 (some 23) (.int .i64 (IntKind.i64.wrap ((j : Int) + 1))) (.int .i64 ((j + 1 : Nat) : Int)), .val 1 (some 14) (.int .i64 ((j + 1 : Nat) : Int))] ⟨congrArg (Value.int .i64) ((IntWalk.i64_in _ (by have := HLENl.out; have := HJ.out; omega)).trans (by omega)), trivial⟩ ?_
      refine dF ?_
      try simp only [puts, Tk.put, Act.put, List.setIfInBounds_toArray, List.set_cons_zero, List.set_cons_succ]
      have hM1 := hM.sub (l' := [.own akc 34 9 (v12) (((R.ls.take j).map askL) ++ [x.k])]) (.cons _ (.cons _ (.cons_cons _ .slnil)))
      have HM1 := Lib.hid hM1
      clear hM hM1
      go_wp2_with fail
      go_roundw
      case rel => exact ⟨j + 1, HJ.out, rfl, by rw [take_oneG HXl.out, List.map_append]; exact HM1.out⟩
      case measure => have := HJ.out; simp [intOf]; omega
    case neg =>
      obtain rfl : j = R.ls.length := by omega
      go_upto_region 5 with fail
      refine wp_region_fromM (fun W => Sep w [] [.own akc 34 9 (u3) ((R.ls.take R.ls.length).map askL)] W) hM ?_
      clear hM
      rintro Y14 hM
      refine tF 1 [.alt 0 (some 15) (.bool (decide ((R.ls.length : Int) < (R.ls.length : Int)))) (.bool false)] ⟨congrArg Value.bool (decide_eq_false (by omega)), trivial⟩ ?_
      refine dF ?_
      try simp only [puts, Tk.put, Act.put, List.setIfInBounds_toArray, List.set_cons_zero, List.set_cons_succ]
      go_upto_region 9 with fail
      refine wp_region_fromM (fun W => Sep w [] [.own akc 34 9 (u3) ((R.ls.take R.ls.length).map askL)] W) hM ?_
      clear hM
      rintro Y15 hM
      refine tF 2 [.val 0 (some 24) (u3), .val 1 (some 2) (u3)] trivial ?_
      refine dF ?_
      try simp only [puts, Tk.put, Act.put, List.setIfInBounds_toArray, List.set_cons_zero, List.set_cons_succ]
      go_wp2_with fail
      go_ret
      rw [List.take_length] at hM
      exact ⟨_, rfl, hM⟩
end Go.Proofs.YtbhfajnejibaoaaGreat
