/-
  Appending a slice of octets, nil or not; blob.Num hands back a row of its own; A range over a function whose body never leaves, where the iterator has a loop over an iterator of its own; A range over a function whose body never leaves: what is yielded is told by a relation of the place, the values and the world; slices.Values over slices of octets: each; blob.Cat: all, one behind the other; slices
-/
import Derived.Laws.OwnMore
import Derived.WalkSpells
import Derived.RangeFuncNested
import Derived.RangeFuncCalls
import Derived.RangeFuncIn
import Derived.WalkKit
import Derived.Test.YtbhfajnejibaoaaGreatProg
import Derived.Lib.ConvBytes
import Derived.Laws.AppendOwn
import Derived.Outline
import Derived.Test.YtbhfajnejibaoaaGreatK04
namespace Go.Proofs.YtbhfajnejibaoaaGreat
open Go.RowKit Go.Shelf
theorem run_append_b {P : Program} (w : World) (base : Nat) (t ty e : TypeId) (i : TypeInfo) (z : Value) (ht : P.underlying t = some (.slice e)) (hi : P.info? e = some i) (hz : i.zero = some z)
    (hsize : i.size = 1) (hby : i.bytes = 1) (hzs : z.cells.size = 1) (v : Value) (n : Nat) (xs : List Value) (hown : w.ownsRow base e 1 v n xs)
    {lo hi' : Nat} {sv : Value} {l : List UInt8} (hsv : BSl lo hi' w sv l) (h63 : n + l.length ≤ 140737488355328) (hbase : base ≤ w.heap.size) :
    ∃ v' w', (Builtin.append_ #[t, t] ty #[v, sv]).run P w = .ok v' w' ∧ w'.ownsRow base e 1 v' (n + l.length) (xs ++ l.map bv) ∧ w.grownBy w' v.ownBlock := by
  obtain ⟨a, cap, rfl, _, h0⟩ := hsv
  rcases a with _ | ad
  · have hl : l = [] := by
      rcases h0 with h0 | ⟨_, _, h, _⟩
      · exact h0
      · cases h
    subst hl
    refine ⟨v, w, ?_, by simpa using hown, World.grownBy.refl w _⟩
    rcases hown.2 with ⟨rfl, rfl⟩ | ⟨g, c, cur, rfl, _, _, hnc, _⟩
    · simp [Builtin.append_, run_underlying ht, sizeOf, typeInfo, hi, Builtin.lenOf, Builtin.firstCells]
    · simp [Builtin.append_, run_underlying ht, sizeOf, typeInfo, hi, Builtin.lenOf, Builtin.firstCells, hnc, storeCells]
  · obtain ⟨v', w', hr, h2, h3, _⟩ := run_append_own (P := P) w base t ty e i z 1 1 ht hi hz hsize hby hzs (by omega) v n xs hown ad l.length cap (l.map bv) (by simp)
      (fun j u hu => by
        rcases h0 with rfl | ⟨b, off, ha, _, _, ho⟩
        · simp at hu
        · cases ha
          rw [List.getElem?_map] at hu
          obtain ⟨x, hx, rfl⟩ := Option.map_eq_some_iff.1 hu
          have hp : (⟨b, off, none⟩ : Addr).add j = ⟨b, off + j, none⟩ := by cases j <;> simp [Addr.add]
          rw [hp]; exact ho j x hx)
      (by intro u hu; obtain ⟨x, _, rfl⟩ := List.mem_map.1 hu; rfl) (by unfold maxLen; omega) (by omega) hbase
    exact ⟨v', w', hr, h2, h3⟩
theorem wpList_append_b {P : Program} (w : World) {ops : Array Oper} {rest : List Oper} {o : Oper} {a : Act} {Q : Exit → Act → World → Prop}
    (hg : o.guard = none) (s x : Operand) (t : TypeId) (hop : o.op = Op.call { callee := Callee.builtin Builtin.append, args := #[s, x], argTypes := #[t, t] })
    (base : Nat) (e : TypeId) (i : TypeInfo) (z : Value) (ht : P.underlying t = some (.slice e)) (hi : P.info? e = some i) (hz : i.zero = some z)
    (hsize : i.size = 1) (hby : i.bytes = 1) (hzs : z.cells.size = 1) (v : Value) (n : Nat) (xs : List Value) (hs : a.eval s = v) (hown : w.ownsRow base e 1 v n xs)
    {lo hi' : Nat} (sv : Value) (l : List UInt8) (hx : a.eval x = sv) (hsv : BSl lo hi' w sv l) (h63 : n + l.length ≤ 140737488355328) (hbase : base ≤ w.heap.size)
    (hK : ∀ v' w', w'.ownsRow base e 1 v' (n + l.length) (xs ++ l.map bv) → w.grownBy w' v.ownBlock → wpList P ops Q rest (a.put o.dst v') w') :
    wpList P ops Q (o :: rest) a w := by
  refine wpList_plain hg fun K hK' => ?_
  obtain ⟨v', w', hrun, r1, r2⟩ := run_append_b (P := P) w base t o.type e i z ht hi hz hsize hby hzs v n xs hown hsv h63 hbase
  unfold Oper.wp
  simp [execOp, hop, resolve, invoke, builtin, hs, hx, hrun, Result.andThen]
  exact hK' _ _ (hK v' w' r1 r2)
theorem wpListIn_append_b {F : Fence} {m : Nat} {P : Program} (w : World) {ops : Array Oper} {rest : List Oper} {o : Oper} {a : Act} {Q : Exit → Act → World → Prop}
    (hg : o.guard = none) (s x : Operand) (t : TypeId) (hop : o.op = Op.call { callee := Callee.builtin Builtin.append, args := #[s, x], argTypes := #[t, t] })
    (base : Nat) (e : TypeId) (i : TypeInfo) (z : Value) (ht : P.underlying t = some (.slice e)) (hi : P.info? e = some i) (hz : i.zero = some z)
    (hsize : i.size = 1) (hby : i.bytes = 1) (hzs : z.cells.size = 1) (v : Value) (n : Nat) (xs : List Value) (hs : a.eval s = v) (hown : w.ownsRow base e 1 v n xs)
    {lo hi' : Nat} (sv : Value) (l : List UInt8) (hx : a.eval x = sv) (hsv : BSl lo hi' w sv l) (h63 : n + l.length ≤ 140737488355328) (hbase : base ≤ w.heap.size)
    (hK : ∀ v' w', w'.ownsRow base e 1 v' (n + l.length) (xs ++ l.map bv) → w.grownBy w' v.ownBlock → wpListIn F m P ops Q rest (a.put o.dst v') w') :
    wpListIn F m P ops Q (o :: rest) a w := by
  refine wpListIn_plain hg fun K hK' => ?_
  obtain ⟨v', w', hrun, r1, r2⟩ := run_append_b (P := P) w base t o.type e i z ht hi hz hsize hby hzs v n xs hown hsv h63 hbase
  unfold Oper.wpIn
  refine ⟨?_, ?_⟩
  · simp [Oper.about, hop, resolve, Target.leads, Sem.run_pure]
  · rw [Oper.semAt_plain F _ _ (by rw [hop]; intro c hc'; cases hc')]
    simp [execOp, hop, resolve, invoke, builtin, hs, hx, hrun, Result.andThen]
    exact hK' _ _ (hK v' w' r1 r2)
def ByO (l : List UInt8) (w : World) (e : Ending) (W' : World) : Prop := ∃ sv, e = .returned sv ∧ W'.ownsRow w.heap.size 5 1 sv l.length (l.map bv) ∧ Below w.heap.size w W'
end Go.Proofs.YtbhfajnejibaoaaGreat
namespace Go.Proofs.YtbhfajnejibaoaaGreat
open Go.RowKit Go.Shelf
attribute [local go_sem] Oper.semAt_some
set_option maxRecDepth 100000 in
set_option maxHeartbeats 4000000 in
theorem numO_in (m : Nat) (hm : 3 ≤ m) (n size : Int) (hs : -9223372036854775808 ≤ size) (hs' : size ≤ 9223372036854775807) (w : World) :
    CallsIn Fence.wide m Tryz.prog 20 #[.int .i64 n, .int .i64 size] w (ByO (octs (two n) (clamp size)) w) := by
  have h1 : 1 ≤ m := by omega
  refine callsIn_of_wp_marks Tryz.func20 rfl trivial ?_ rfl
  simp only [Tryz.ntmps20, List.size_toArray, List.length_cons, List.length_nil, Nat.reduceAdd, Nat.reduceSub, Array.replicate_succ, Array.replicate_zero, List.push_toArray, List.append_toArray, List.nil_append, List.cons_append]
  obtain ⟨i0, hi, hz0, hz1, hz2⟩ := info_parts Tryz.infoByte
  have hU : IntKind.u64.wrap n = (two n : Nat) := wrap_two n
  have hx : two n < M := by unfold two M; omega
  generalize two n = x at *
  have H8 := clamp_le size
  have hCC := clamp_cases size
  generalize clamp size = s at *
  rcases hCC with ⟨hc0, hC⟩ | ⟨hc0, hc8, hC⟩ | ⟨hc8, hC⟩
  all_goals
    have HC := Lib.hid hC
    clear hC
    gi_wp2_with (refine ⟨trivial, ?_⟩; gi_at_call 42; refine (octets_in Fence.wide (m - 1) trivial rfl _ _ _).mono ?_; rintro e w' ⟨rfl, rfl⟩)
    generalize hW5 : World.alloc _ _ = W5
    have k0 : Boxed W5 w.heap.size 58 (.slice none 0 0) := by rw [← hW5]; exact ((Boxed.new _ _ _).alloc _).alloc _
    have k1 : Boxed W5 (w.heap.size + 1) 30 (.int .u64 (x : Nat)) := by rw [← hW5]; exact (Blk.new' (vs := [.int .u64 (x : Nat)]) (by simp)).alloc _
    have k2 : Boxed W5 (w.heap.size + 1 + 1) 3 (.int .i64 (s : Nat)) := by rw [HC.out, ← hW5]; exact Blk.new' (vs := [.int .i64 _]) (by simp)
    have hB0 : Below w.heap.size w W5 := by rw [← hW5]; exact chainA (chainA (chain0 _ _) _) _
    have hz : W5.heap.size = w.heap.size + 3 := by rw [← hW5]; simp
    clear hW5
    refine wpIn_rangeFunc_ownF (S := fun ys => ys = octs x s) rfl h1 (gf := 63) (lb := #[.pointer (some ⟨w.heap.size + 1 + 1, 0, none⟩), .pointer (some ⟨w.heap.size + 1, 0, none⟩)]) rfl trivial (enters_of Tryz.func63 (by kernel_rfl) rfl)
      (octets1_stops Fence.wide (m - 1) trivial rfl (by omega) x s H8 (w.heap.size + 1) (w.heap.size + 1 + 1) W5 k1.lt k2.lt (k1.cell) k2.cell (KeepB (w.heap.size + 1)) (fun A B h => World.cell?_of_block h)) KeepB.t (KeepB.b k1.lt) (Below.refl _ _) (fun _ => rfl)
      (NumI w.heap.size (w.heap.size + 1) x w) (fun _ _ _ => False) (numI_own (Nat.le_refl _) (by omega)) (fun _ _ _ _ _ hs _ _ => hs)
      ⟨⟨⟨_, k0, World.ownsRow_nil _ _ _ _, trivial⟩, k1⟩, hB0⟩ ?_ ?_ ?_ ?_ ?_
    rotate_left
    · intro l x W K hK
      gi_wp2
      exact hK
    · rintro l pre o W ⟨⟨⟨v, kv, hown, _⟩, kn⟩, hB⟩ hlt
      have ko := kv.cell
      have kf := kv.frozen
      have hNW : w.heap.size ≤ W.heap.size := hB.size
      gi_wp2_with (gi_at_builtin; refine wpListIn_append_own _ rfl _ _ 58 rfl w.heap.size 5 i0 (.int .u8 0) 1 1 Tryz.underlying58 hi hz0 hz1 hz2 rfl (by decide) v pre.length (pre.map bv) rfl (hown.alloc _) ⟨W.heap.size, 0, none⟩ 1 1 [bv o] rfl rfl (cell_one_new _ _ _) (by simp [Value.oneCell']) (by unfold maxLen; omega) (by omega) (by simp; omega) ?_; intro v' w1 hown' hgrow _; obtain ⟨g, cap, rfl⟩ := ownsRow_succ hown'; obtain ⟨hv1, kv', hrow', hk3, hbw⟩ := kv.appended (by decide) hown hNW (Nat.le_refl _) hown' hgrow; have ko1 := hv1.cell; have kf1 := hv1.frozen)
      have hn1 : W.heap.size ≤ w1.heap.size := Nat.le_trans (by simp) hgrow.size
      have kn1 : Boxed w1 (w.heap.size + 1) 30 (.int .u64 (x : Nat)) := (kn.alloc _).kept hgrow (Boxed.not_row kn (by decide) hown)
      have kn3 := kn1.kept (grownBy_setCell' w1 w.heap.size (.slice (some ⟨g, 0, none⟩) (pre.length + 1) cap)) (by simp)
      exact ⟨hk3, kn3.trans kn.symm, ⟨⟨_, kv', by simpa using hrow', trivial⟩, kn3⟩, hB.trans hbw⟩
    · rintro D ys W hD rfl ⟨⟨⟨v, kv, hown, _⟩, kn⟩, hB⟩ hK
      have ko := kv.cell
      have HZ := Lib.hid hz
      clear hz
      gi_wp2
      have hB' := hB.trans (belowK_b (w := w) (Nat.le_refl _) _ D _ (.deferred none) (by have := HZ.out; omega) hK rfl rfl)
      have hown3 := ownsRow_putObj hown (.deferred none) hK rfl
      refine ⟨by simp, .inl ⟨_, _, rfl, run_takeDeferred hK, ?_⟩⟩
      refine ⟨v, ?_, ?_⟩
      · simp [results, Tryz.f20, go_sem]
      · exact ⟨v, rfl, hown3, hB'⟩
    · rintro D c pre W _ _ h _
      exact h.elim
theorem numO_any (n size : Int) (hs : -9223372036854775808 ≤ size) (hs' : size ≤ 9223372036854775807) (w : World) :
    Calls Tryz.prog 20 #[.int .i64 n, .int .i64 size] w (ByO (octs (two n) (clamp size)) w) := callsIn_wide.1 (numO_in 3 (by omega) n size hs hs' w)
end Go.Proofs.YtbhfajnejibaoaaGreat
namespace Go.Proofs.YtbhfajnejibaoaaGreat
open Go.RowKit
variable {F : Fence} {n : Nat} {P : Program}
def SeqAll {α : Type} (F : Fence) (n : Nat) (P : Program) (g : Nat) (lb : Array Value) (encs : α → Array Value) (Kp : Nat → World → World → Prop) (ys : List α) (w : World) : Prop :=
  ∀ (l : Nat) (J : Nat → World → Prop) (W : World), Below w.heap.size w W → w.heap.size ≤ l → l < W.heap.size → OwnFrom W.heap.size J →
    (∀ k x W1, ys[k]? = some x → J k W1 → YieldAt F (n - 1) P l (encs x) W1 fun e W' => e = .returned (.bool true) ∧ J (k + 1) W' ∧ Kp l W1 W') →
    J 0 W → CallsIn F n P g (#[.func (.yield l) #[] #[]] ++ lb) W fun e W' => (∃ v, e = .returned v) ∧ J ys.length W'
def goesOn (B : Nat) (Kp : World → World → Prop) (I : World → Prop) (W : World) : Exit → Act → World → Prop
  | .normal, _, W' => KeepsFrom B W W' ∧ Kp W W' ∧ I W'
  | _, _, _ => False
theorem wpIn_rangeFunc_all {α : Type} {g : Operand} {ps : Array Tmp} {assign body : Code} {Q : Exit → Act → World → Prop} {a : Act} {w : World}
    (hro : F.round = none) (h1 : 1 ≤ n) {gf : Nat} {lb : Array Value} (hg : a.eval g = .func (.func gf) #[] lb) (hFg : F.fn gf) (eg : ∀ args w, (callFunc gf args).run P w = .ok (.enter gf args) w)
    {encs : α → Array Value} {Kp : Nat → World → World → Prop} {ys : List α} {w0 : World} (hseq : SeqAll F (n - 1) P gf lb encs Kp ys w0)
    (hKt : ∀ {A B C : World}, Kp (w.heap.size + 1) A B → Kp (w.heap.size + 1) B C → Kp (w.heap.size + 1) A C) (hKb : ∀ (W : World) (o o' : Obj), W.heap[w.heap.size + 1]? = some o → o.isCells = false → o.isWalk = false → Kp (w.heap.size + 1) W (W.putObj (w.heap.size + 1) o')) (hb0 : Below w0.heap.size w0 w) (hps : ∀ x, (encs x).size = ps.size)
    (I : Nat → World → Prop) (hI : OwnFrom w.heap.size I) (h0 : I 0 w) (Ax : α → Act → World → Prop) (hAx : ∀ x a', OwnFrom w.heap.size (fun (_ : Unit) W => Ax x a' W))
    (hassign : ∀ (l k : Nat) (x : α) (W : World) (K : Act → World → Prop), I k W → (∀ a' W', KeepsFrom w.heap.size W W' → Kp (w.heap.size + 1) W W' → I k W' → Ax x a' W' → K a' W') →
      assign.wpIn (F.inRound l) (n - 1 - 1) P (Exit.then K (fun _ _ _ => False)) { tmps := (ps.zip (encs x)).foldl (fun t (p, v) => t.setIfInBounds p v) a.tmps, defers := [] } W)
    (hbody : ∀ (l k : Nat) (x : α) (a' : Act) (W : World), ys[k]? = some x → I k W → Ax x a' W → body.wpIn (F.inRound l) (n - 1 - 1) P (goesOn w.heap.size (Kp (w.heap.size + 1)) (I (k + 1)) W) a' W)
    (hdone : ∀ (D : Nat) (W : World), w.heap.size ≤ D → I ys.length W → W.heap[D]? = some (.deferred (some [])) → Q .normal { a with defers := { target := .collected D, args := #[] } :: a.defers } W) :
    (Code.rangeFunc g ps assign body).wpIn F n P Q a w := by
  refine wpIn_rangeFunc fun fn hfn => ?_
  rw [hro]
  have hZ : w.heap.size < w.heap.size + 1 := Nat.lt_succ_self _
  have R0 : { r : Loop // r.state = .ready ∧ r.pending = none ∧ r = { state := .ready, pending := none, fn, tmps := a.tmps, params := ps, assign, body, defers := w.heap.size } } := ⟨_, rfl, rfl, rfl⟩
  obtain ⟨r, hr1, hr2, hre⟩ := R0
  have hrun := run_enterLoop_outer (P := P) (w := w) fn a.tmps ps assign body
  rw [← hre] at hrun
  generalize hW1 : (w.alloc (.deferred (some []))).alloc (.loop r) = W1 at hrun
  have hsz : W1.heap.size = w.heap.size + 2 := by rw [← hW1]; simp
  have gw : w.grownBy (w.alloc (.deferred (some []))) none := World.grownBy_alloc _ _ _
  have hl1 : W1.heap[w.heap.size + 1]? = some (.loop r) := by
    rw [← hW1]; simpa using World.alloc_heap_new (w.alloc (.deferred (some []))) (.loop r)
  have hd1 : W1.heap[w.heap.size]? = some (.deferred (some [])) := by
    rw [← hW1]; exact (Below.heap_alloc _ _ _ (by simp)).trans (World.alloc_heap_new _ _)
  have hi1 : I 0 W1 := by rw [← hW1]; exact hI.alloc _ (hI.alloc _ h0)
  have hB1 : Below w0.heap.size w0 W1 := by
    rw [← hW1]; exact hb0.trans (((Below.refl w.heap.size w).alloc (Nat.le_refl _) _).alloc (by simp) _ |>.mono hb0.size)
  refine ⟨_, _, W1, { target := .fn (.func gf) lb, args := #[.func (.yield (w.heap.size + 1)) #[] #[]] }, W1, gf, #[.func (.yield (w.heap.size + 1)) #[] #[]] ++ lb, W1, hrun, by simp only [resolve, hg]; simp [go_sem], fun f' hf' => ?_, by simp [invoke, go_sem, eg], fun _ => h1, ?_⟩
  · simp [Target.leads] at hf'; subst hf'; exact hFg
  refine (hseq (w.heap.size + 1) (fun k W => I k W ∧ W.heap[w.heap.size + 1]? = some (.loop r) ∧ W.heap[w.heap.size]? = some (.deferred (some []))) W1 hB1 (by have := hb0.size; omega) (by omega)
    (fun s A B row ⟨hi, hl, hd⟩ hg' hrow => ⟨hI s A B row hi hg' (fun q e => ⟨by have := (hrow q e).1; omega, (hrow q e).2⟩),
      (hg'.block _ (Array.getElem?_eq_some_iff.1 hl).1 (fun e => by have := (hrow _ e.symm).1; omega)).trans hl,
      (hg'.block _ (Array.getElem?_eq_some_iff.1 hd).1 (fun e => by have := (hrow _ e.symm).1; omega)).trans hd⟩) ?_ ⟨hi1, hl1, hd1⟩).mono ?_
  · rintro k x W hx ⟨hi, hl, hd⟩
    have hy := run_yield (P := P) (args := encs x) hl (by rw [hre]; exact hps x)
    have hy' := hy
    rw [hre] at hy'
    refine ⟨_, _, _, _, hy', roundIn_of_wpIn hfn (hassign _ k x W _ hi fun a' Wa hkf hkp hia hax => ?_)⟩
    have hla := hkf.same _ _ (by omega) hl rfl
    have hda := hkf.same _ _ (Nat.le_refl _) hd rfl
    have hlt := (Array.getElem?_eq_some_iff.1 hla).1
    refine ⟨_, run_beginRound hla hr1, ?_⟩
    have hlb : (Wa.putObj (w.heap.size + 1) (.loop { r with state := .busy })).heap[w.heap.size + 1]? = some (.loop { r with state := .busy }) := World.putObj_heap_same hlt
    have hdb : (Wa.putObj (w.heap.size + 1) (.loop { r with state := .busy })).heap[w.heap.size]? = some (.deferred (some [])) := (World.putObj_heap_other (by omega)).trans hda
    have hkb := hKb Wa _ (.loop { r with state := .busy }) hla rfl rfl
    refine wpIn_mono (hbody _ k x a' _ hx (hI.putObj _ hia (by omega) hla rfl) ((hAx x a').putObj (s := ()) _ hax (by omega) hla rfl)) ?_
    rintro e a3 W3 hp
    cases e with
    | normal =>
      obtain ⟨hk3, hkp3, hi3⟩ := hp
      have hl3 := hk3.same _ _ (by omega) hlb rfl
      have hd3 := hk3.same _ _ (Nat.le_refl _) hdb rfl
      have hend := run_endRound (P := P) none hl3
      have hr' : ({ { r with state := .busy } with state := if (none : Option Code).isNone then .ready else .done, pending := none } : Loop) = r := by
        rw [hre]; simp
      rw [hr'] at hend
      refine ⟨_, _, hend, rfl, ⟨hI.putObj _ hi3 (by omega) hl3 rfl, World.putObj_heap_same (Array.getElem?_eq_some_iff.1 hl3).1, (World.putObj_heap_other (by omega)).trans hd3⟩, ?_⟩
      exact hKt hkp (hKt hkb (hKt hkp3 (hKb _ _ _ hl3 rfl rfl)))
    | ret => exact hp.elim
    | exit id => exact hp.elim
    | goto t => exact hp.elim
    | panic c => exact hp.elim
    | outgrown => exact hp.elim
  · rintro e W2 ⟨⟨v, rfl⟩, hi, hl, hd⟩
    have hend := run_endLoop (P := P) hl (by rw [hr1]; simp)
    rw [hr2] at hend
    exact ⟨none, _, hend, hdone _ _ (Nat.le_refl _) (hI.putObj _ hi (by omega) hl rfl) ((World.putObj_heap_other (by omega)).trans hd)⟩
theorem wpIn_rangeFunc_allA {α : Type} {g : Operand} {ps : Array Tmp} {assign body : Code} {Q : Exit → Act → World → Prop} {a : Act} {w : World}
    (hro : F.round = none) (h1 : 1 ≤ n) {gf : Nat} {lb : Array Value} (hg : a.eval g = .func (.func gf) #[] lb) (hFg : F.fn gf) (eg : ∀ args w, (callFunc gf args).run P w = .ok (.enter gf args) w)
    {encs : α → Array Value} {Kp : Nat → World → World → Prop} {ys : List α} {w0 : World} (hseq : SeqAll F (n - 1) P gf lb encs Kp ys w0)
    (hKt : ∀ {A B C : World}, Kp (w.heap.size + 1) A B → Kp (w.heap.size + 1) B C → Kp (w.heap.size + 1) A C) (hKb : ∀ (W : World) (o o' : Obj), W.heap[w.heap.size + 1]? = some o → o.isCells = false → o.isWalk = false → Kp (w.heap.size + 1) W (W.putObj (w.heap.size + 1) o')) (hKr : ∀ W, Kp (w.heap.size + 1) W W) (hb0 : Below w0.heap.size w0 w) (hps : ∀ x, (encs x).size = ps.size)
    (I : Nat → World → Prop) (hI : OwnFrom w.heap.size I) (h0 : I 0 w) (a₁ : α → Act)
    (hassign : ∀ (l : Nat) (x : α) (W : World) (K : Act → World → Prop), K (a₁ x) W →
      assign.wpIn (F.inRound l) (n - 1 - 1) P (Exit.then K (fun _ _ _ => False)) { tmps := (ps.zip (encs x)).foldl (fun t (p, v) => t.setIfInBounds p v) a.tmps, defers := [] } W)
    (hbody : ∀ (l k : Nat) (x : α) (W : World), ys[k]? = some x → I k W → body.wpIn (F.inRound l) (n - 1 - 1) P (goesOn w.heap.size (Kp (w.heap.size + 1)) (I (k + 1)) W) (a₁ x) W)
    (hdone : ∀ (D : Nat) (W : World), w.heap.size ≤ D → I ys.length W → W.heap[D]? = some (.deferred (some [])) → Q .normal { a with defers := { target := .collected D, args := #[] } :: a.defers } W) :
    (Code.rangeFunc g ps assign body).wpIn F n P Q a w :=
  wpIn_rangeFunc_all hro h1 hg hFg eg hseq (fun h k => hKt h k) hKb hb0 hps I hI h0 (fun x a' _ => a' = a₁ x) (fun _ _ _ _ _ _ hs _ _ => hs)
    (fun l k x W K hi hK => hassign l x W K (hK _ _ (KeepsFrom.refl _ _) (hKr W) hi rfl)) (fun l k x a' W hx hi e => by subst e; exact hbody l k x W hx hi) hdone
def AllBut (B l : Nat) (W W' : World) : Prop := W.heap.size ≤ W'.heap.size ∧ ∀ k, k < W.heap.size → k ≠ B → k ≠ l → W'.heap[k]? = W.heap[k]?
theorem AllBut.refl (B l : Nat) (W : World) : AllBut B l W W := ⟨Nat.le_refl _, fun _ _ _ _ => rfl⟩
theorem AllBut.t {B l : Nat} {X Y Z : World} (h : AllBut B l X Y) (k : AllBut B l Y Z) : AllBut B l X Z :=
  ⟨Nat.le_trans h.1 k.1, fun j hj h1 h2 => (k.2 j (Nat.lt_of_lt_of_le hj h.1) h1 h2).trans (h.2 j hj h1 h2)⟩
theorem AllBut.b (B l : Nat) (W : World) (o' : Obj) : AllBut B l W (W.putObj l o') := ⟨by simp, fun j _ _ h2 => World.putObj_heap_other h2⟩
theorem AllBut.of_below {B l : Nat} {W W' : World} (h : Below W.heap.size W W') : AllBut B l W W' := ⟨h.size, fun j hj _ _ => h.block j hj⟩
theorem AllBut.of_grown {B l : Nat} {W W' : World} (h : W.grownBy W' (some B)) : AllBut B l W W' := ⟨h.size, fun j hj h1 _ => h.block j hj (fun e => h1 (Option.some.inj e))⟩
theorem grown_of_below {W W' : World} (h : Below W.heap.size W W') : W.grownBy W' none := ⟨h.os, h.tape, h.output, h.size, fun j hj _ => h.block j hj⟩
theorem roundIn_any {l' m m' : Nat} {P : Program} {l : Nat} {f : FuncId} {tmps : Array Value} {assign body : Code} {w : World} {R : Ending → World → Prop} (h : RoundIn Fence.wide m P l f tmps assign body w R) : RoundIn (Fence.wide.inRound l') m' P l f tmps assign body w R :=
  ⟨h.1, fun c cs _ => h.2 c cs (room_wide _)⟩
end Go.Proofs.YtbhfajnejibaoaaGreat
namespace Go.Proofs.YtbhfajnejibaoaaGreat
open Go.RowKit
variable {F : Fence} {n : Nat} {P : Program}
def SeqRel (F : Fence) (n : Nat) (P : Program) (g : Nat) (lb : Array Value) (N : Nat) (R : Nat → Array Value → World → Prop) (Kp : Nat → World → World → Prop) (w : World) : Prop :=
  ∀ (l : Nat) (J : Nat → World → Prop) (W : World), Below w.heap.size w W → w.heap.size ≤ l → l < W.heap.size → OwnFrom W.heap.size J →
    (∀ k x W1, k < N → R k x W1 → J k W1 → YieldAt F (n - 1) P l x W1 fun e W' => e = .returned (.bool true) ∧ J (k + 1) W' ∧ Kp l W1 W') →
    J 0 W → CallsIn F n P g (#[.func (.yield l) #[] #[]] ++ lb) W fun e W' => (∃ v, e = .returned v) ∧ J N W'
theorem wpIn_rangeFunc_rel {g : Operand} {ps : Array Tmp} {assign body : Code} {Q : Exit → Act → World → Prop} {a : Act} {w : World}
    (hro : F.round = none) (h1 : 1 ≤ n) {gf : Nat} {lb : Array Value} (hg : a.eval g = .func (.func gf) #[] lb) (hFg : F.fn gf) (eg : ∀ args w, (callFunc gf args).run P w = .ok (.enter gf args) w)
    {N : Nat} {R : Nat → Array Value → World → Prop} {Kp : Nat → World → World → Prop} {w0 : World} (hseq : SeqRel F (n - 1) P gf lb N R Kp w0)
    (hKt : ∀ {A B C : World}, Kp (w.heap.size + 1) A B → Kp (w.heap.size + 1) B C → Kp (w.heap.size + 1) A C) (hKb : ∀ (W : World) (o o' : Obj), W.heap[w.heap.size + 1]? = some o → o.isCells = false → o.isWalk = false → Kp (w.heap.size + 1) W (W.putObj (w.heap.size + 1) o')) (hb0 : Below w0.heap.size w0 w) (hps : ∀ k x W, R k x W → x.size = ps.size)
    (I : Nat → World → Prop) (hI : OwnFrom w.heap.size I) (h0 : I 0 w) (Ax : Nat → Array Value → Act → World → Prop) (hAx : ∀ k x a', OwnFrom w.heap.size (fun (_ : Unit) W => Ax k x a' W))
    (hassign : ∀ (l k : Nat) (x : Array Value) (W : World) (K : Act → World → Prop), k < N → R k x W → I k W → (∀ a' W', KeepsFrom w.heap.size W W' → Kp (w.heap.size + 1) W W' → I k W' → Ax k x a' W' → K a' W') →
      assign.wpIn (F.inRound l) (n - 1 - 1) P (Exit.then K (fun _ _ _ => False)) { tmps := (ps.zip x).foldl (fun t (p, v) => t.setIfInBounds p v) a.tmps, defers := [] } W)
    (hbody : ∀ (l k : Nat) (x : Array Value) (a' : Act) (W : World), k < N → I k W → Ax k x a' W → body.wpIn (F.inRound l) (n - 1 - 1) P (goesOn w.heap.size (Kp (w.heap.size + 1)) (I (k + 1)) W) a' W)
    (hdone : ∀ (D : Nat) (W : World), w.heap.size ≤ D → I N W → W.heap[D]? = some (.deferred (some [])) → Q .normal { a with defers := { target := .collected D, args := #[] } :: a.defers } W) :
    (Code.rangeFunc g ps assign body).wpIn F n P Q a w := by
  refine wpIn_rangeFunc fun fn hfn => ?_
  rw [hro]
  have hZ : w.heap.size < w.heap.size + 1 := Nat.lt_succ_self _
  have R0 : { r : Loop // r.state = .ready ∧ r.pending = none ∧ r = { state := .ready, pending := none, fn, tmps := a.tmps, params := ps, assign, body, defers := w.heap.size } } := ⟨_, rfl, rfl, rfl⟩
  obtain ⟨r, hr1, hr2, hre⟩ := R0
  have hrun := run_enterLoop_outer (P := P) (w := w) fn a.tmps ps assign body
  rw [← hre] at hrun
  generalize hW1 : (w.alloc (.deferred (some []))).alloc (.loop r) = W1 at hrun
  have hsz : W1.heap.size = w.heap.size + 2 := by rw [← hW1]; simp
  have gw : w.grownBy (w.alloc (.deferred (some []))) none := World.grownBy_alloc _ _ _
  have hl1 : W1.heap[w.heap.size + 1]? = some (.loop r) := by
    rw [← hW1]; simpa using World.alloc_heap_new (w.alloc (.deferred (some []))) (.loop r)
  have hd1 : W1.heap[w.heap.size]? = some (.deferred (some [])) := by
    rw [← hW1]; exact (Below.heap_alloc _ _ _ (by simp)).trans (World.alloc_heap_new _ _)
  have hi1 : I 0 W1 := by rw [← hW1]; exact hI.alloc _ (hI.alloc _ h0)
  have hB1 : Below w0.heap.size w0 W1 := by
    rw [← hW1]; exact hb0.trans (((Below.refl w.heap.size w).alloc (Nat.le_refl _) _).alloc (by simp) _ |>.mono hb0.size)
  refine ⟨_, _, W1, { target := .fn (.func gf) lb, args := #[.func (.yield (w.heap.size + 1)) #[] #[]] }, W1, gf, #[.func (.yield (w.heap.size + 1)) #[] #[]] ++ lb, W1, hrun, by simp only [resolve, hg]; simp [go_sem], fun f' hf' => ?_, by simp [invoke, go_sem, eg], fun _ => h1, ?_⟩
  · simp [Target.leads] at hf'; subst hf'; exact hFg
  refine (hseq (w.heap.size + 1) (fun k W => I k W ∧ W.heap[w.heap.size + 1]? = some (.loop r) ∧ W.heap[w.heap.size]? = some (.deferred (some []))) W1 hB1 (by have := hb0.size; omega) (by omega)
    (fun s A B row ⟨hi, hl, hd⟩ hg' hrow => ⟨hI s A B row hi hg' (fun q e => ⟨by have := (hrow q e).1; omega, (hrow q e).2⟩),
      (hg'.block _ (Array.getElem?_eq_some_iff.1 hl).1 (fun e => by have := (hrow _ e.symm).1; omega)).trans hl,
      (hg'.block _ (Array.getElem?_eq_some_iff.1 hd).1 (fun e => by have := (hrow _ e.symm).1; omega)).trans hd⟩) ?_ ⟨hi1, hl1, hd1⟩).mono ?_
  · rintro k x W hx hR ⟨hi, hl, hd⟩
    have hy := run_yield (P := P) (args := x) hl (by rw [hre]; exact hps k x W hR)
    have hy' := hy
    rw [hre] at hy'
    refine ⟨_, _, _, _, hy', roundIn_of_wpIn hfn (hassign _ k x W _ hx hR hi fun a' Wa hkf hkp hia hax => ?_)⟩
    have hla := hkf.same _ _ (by omega) hl rfl
    have hda := hkf.same _ _ (Nat.le_refl _) hd rfl
    have hlt := (Array.getElem?_eq_some_iff.1 hla).1
    refine ⟨_, run_beginRound hla hr1, ?_⟩
    have hlb : (Wa.putObj (w.heap.size + 1) (.loop { r with state := .busy })).heap[w.heap.size + 1]? = some (.loop { r with state := .busy }) := World.putObj_heap_same hlt
    have hdb : (Wa.putObj (w.heap.size + 1) (.loop { r with state := .busy })).heap[w.heap.size]? = some (.deferred (some [])) := (World.putObj_heap_other (by omega)).trans hda
    have hkb := hKb Wa _ (.loop { r with state := .busy }) hla rfl rfl
    refine wpIn_mono (hbody _ k x a' _ hx (hI.putObj _ hia (by omega) hla rfl) ((hAx k x a').putObj (s := ()) _ hax (by omega) hla rfl)) ?_
    rintro e a3 W3 hp
    cases e with
    | normal =>
      obtain ⟨hk3, hkp3, hi3⟩ := hp
      have hl3 := hk3.same _ _ (by omega) hlb rfl
      have hd3 := hk3.same _ _ (Nat.le_refl _) hdb rfl
      have hend := run_endRound (P := P) none hl3
      have hr' : ({ { r with state := .busy } with state := if (none : Option Code).isNone then .ready else .done, pending := none } : Loop) = r := by
        rw [hre]; simp
      rw [hr'] at hend
      refine ⟨_, _, hend, rfl, ⟨hI.putObj _ hi3 (by omega) hl3 rfl, World.putObj_heap_same (Array.getElem?_eq_some_iff.1 hl3).1, (World.putObj_heap_other (by omega)).trans hd3⟩, ?_⟩
      exact hKt hkp (hKt hkb (hKt hkp3 (hKb _ _ _ hl3 rfl rfl)))
    | ret => exact hp.elim
    | exit id => exact hp.elim
    | goto t => exact hp.elim
    | panic c => exact hp.elim
    | outgrown => exact hp.elim
  · rintro e W2 ⟨⟨v, rfl⟩, hi, hl, hd⟩
    have hend := run_endLoop (P := P) hl (by rw [hr1]; simp)
    rw [hr2] at hend
    exact ⟨none, _, hend, hdone _ _ (Nat.le_refl _) (hI.putObj _ hi (by omega) hl rfl) ((World.putObj_heap_other (by omega)).trans hd)⟩
theorem wpIn_rangeFunc_relA {α : Type} {g : Operand} {ps : Array Tmp} {assign body : Code} {Q : Exit → Act → World → Prop} {a : Act} {w : World}
    (hro : F.round = none) (h1 : 1 ≤ n) {gf : Nat} {lb : Array Value} (hg : a.eval g = .func (.func gf) #[] lb) (hFg : F.fn gf) (eg : ∀ args w, (callFunc gf args).run P w = .ok (.enter gf args) w)
    {N : Nat} {encs : α → Array Value} {R : Nat → α → World → Prop} {Kp : Nat → World → World → Prop} {w0 : World} (hseq : SeqRel F (n - 1) P gf lb N (fun k x W => ∃ y, R k y W ∧ x = encs y) Kp w0)
    (hKt : ∀ {A B C : World}, Kp (w.heap.size + 1) A B → Kp (w.heap.size + 1) B C → Kp (w.heap.size + 1) A C) (hKb : ∀ (W : World) (o o' : Obj), W.heap[w.heap.size + 1]? = some o → o.isCells = false → o.isWalk = false → Kp (w.heap.size + 1) W (W.putObj (w.heap.size + 1) o')) (hKr : ∀ W, Kp (w.heap.size + 1) W W) (hb0 : Below w0.heap.size w0 w) (hps : ∀ y, (encs y).size = ps.size)
    (I : Nat → World → Prop) (hI : OwnFrom w.heap.size I) (h0 : I 0 w) (hR : ∀ k y, OwnFrom w.heap.size (fun (_ : Unit) W => R k y W)) (a₁ : α → Act)
    (hassign : ∀ (l k : Nat) (y : α) (W : World) (K : Act → World → Prop), R k y W → K (a₁ y) W →
      assign.wpIn (F.inRound l) (n - 1 - 1) P (Exit.then K (fun _ _ _ => False)) { tmps := (ps.zip (encs y)).foldl (fun t (p, v) => t.setIfInBounds p v) a.tmps, defers := [] } W)
    (hbody : ∀ (l k : Nat) (y : α) (W : World), k < N → I k W → R k y W → body.wpIn (F.inRound l) (n - 1 - 1) P (goesOn w.heap.size (Kp (w.heap.size + 1)) (I (k + 1)) W) (a₁ y) W)
    (hdone : ∀ (D : Nat) (W : World), w.heap.size ≤ D → I N W → W.heap[D]? = some (.deferred (some [])) → Q .normal { a with defers := { target := .collected D, args := #[] } :: a.defers } W) :
    (Code.rangeFunc g ps assign body).wpIn F n P Q a w :=
  wpIn_rangeFunc_rel hro h1 hg hFg eg hseq (fun h k => hKt h k) hKb hb0 (fun k x W ⟨y, _, e⟩ => by rw [e]; exact hps y) I hI h0 (fun k x a' W => ∃ y, a' = a₁ y ∧ R k y W) (fun k x a' s A B row ⟨y, e, h⟩ hg' hr => ⟨y, e, hR k y s A B row h hg' hr⟩)
    (fun l k x W K _ hr hi hK => by
      obtain ⟨y, hy, rfl⟩ := hr
      exact hassign l k y W K hy (hK _ _ (KeepsFrom.refl _ _) (hKr W) hi ⟨y, rfl, hy⟩))
    (fun l k x a' W hx hi e => by obtain ⟨y, rfl, hr⟩ := e; exact hbody l k y W hx hi hr) hdone
end Go.Proofs.YtbhfajnejibaoaaGreat
namespace Go.Proofs.YtbhfajnejibaoaaGreat
open Go.RowKit Go.Shelf
attribute [local go_sem] Oper.semAt_some
abbrev SX (m n : Nat) (w : World) := { x : Value × List UInt8 // BSl 0 n w x.1 x.2 ∧ x.2.length ≤ m }
abbrev sxEnc {o n : Nat} {w : World} (x : SX o n w) : Array Value := #[x.1.1]
def SRow {o n : Nat} {w : World} (W : World) (b off : Nat) (l : List (SX o n w)) : Prop := ∀ k x, l[k]? = some x → W.cell? ⟨b, off + k, none⟩ = some x.1.1
theorem SRow.below {o n : Nat} {w : World} {W W' : World} {m b off : Nat} {l : List (SX o n w)} (h : SRow W b off l) (hb : Below m W W') (hlt : b < m) : SRow W' b off l := fun k x hx => (hb.cell (p := ⟨b, _, none⟩) hlt).trans (h k x hx)
def SSl {o n : Nat} {w : World} (m : Nat) (W : World) (sv : Value) (zs : List (SX o n w)) : Prop :=
  ∃ a cap, sv = .slice a zs.length cap ∧ (zs = [] ∨ ∃ b off, a = some ⟨b, off, none⟩ ∧ b < m ∧ SRow W b off zs)
theorem SSl.below {o n : Nat} {w : World} {m k : Nat} {W W' : World} {sv : Value} {zs : List (SX o n w)} (h : SSl m W sv zs) (hb : Below k W W') (hm : m ≤ k) : SSl m W' sv zs := by
  obtain ⟨a, cap, e, h0 | ⟨b, off, ha, hl, ho⟩⟩ := h
  · exact ⟨a, cap, e, .inl h0⟩
  · exact ⟨a, cap, e, .inr ⟨b, off, ha, hl, ho.below hb (by omega)⟩⟩
def flat {o n : Nat} {w : World} (l : List (SX o n w)) : List UInt8 := (l.map fun x => x.1.2).flatten
theorem flat_snoc {o n : Nat} {w : World} (l : List (SX o n w)) (x : SX o n w) : flat (l ++ [x]) = flat l ++ x.1.2 := by simp [flat]
set_option maxRecDepth 100000 in
set_option maxHeartbeats 4000000 in
theorem valuesS1_in (F : Fence) (n : Nat) (h7 : F.fn 133) (hro : F.round = none) (hn : 1 ≤ n) (l Bs n₀ b off cap : Nat) {m₁ n₁ : Nat} {w₁ : World} (zs : List (SX m₁ n₁ w₁)) (hreach : zs.length ≤ 140737488351232) (hb : b < n₀) (J Jx : List (SX m₁ n₁ w₁) → World → Prop)
    (W : World)
    (hY : ∀ pre x W, J pre W → zs[pre.length]? = some x → YieldAt F (n - 1) Tryz.prog l (sxEnc x) W fun e W' =>
      (e = .returned (.bool true) ∧ J (pre ++ [x]) W' ∧ Below n₀ W W') ∨ (e = .returned (.bool false) ∧ Jx (pre ++ [x]) W'))
    (hBs : W.cell? ⟨Bs, 0, none⟩ = some (.slice (some ⟨b, off, none⟩) zs.length cap)) (hc : SRow W b off zs) (h0 : J [] W) :
    CallsIn F n Tryz.prog 133 #[.func (.yield l) #[] #[], .pointer (some ⟨Bs, 0, none⟩)] W fun e W' => (∃ v, e = .returned v) ∧
      ((∃ ys, ys = zs ∧ J ys W') ∨ (∃ pre, True ∧ Jx pre W')) := by
  refine callsIn_of_wp Tryz.func133 rfl h7 ?_ hro
  simp only [Tryz.ntmps133, List.size_toArray, List.length_cons, List.length_nil, Nat.reduceAdd, Nat.reduceSub, Array.replicate_succ, Array.replicate_zero, List.push_toArray, List.append_toArray, List.nil_append, List.cons_append]
  gi_wp2
  gi_loopw [7] (fun i wr => ∃ k : Nat, k ≤ zs.length ∧ i = .int .i64 k ∧ J (zs.take k) wr ∧ Below n₀ W wr) (fun i _ => zs.length - (intOf i).toNat)
  case atStart => exact ⟨0, Nat.zero_le _, rfl, h0, Below.refl _ _⟩
  case round =>
    obtain ⟨k, hk, rfl, hJs, hnx⟩ := hrel
    by_cases hlt : k < zs.length
    · obtain ⟨x, hx⟩ : ∃ x, zs[k]? = some x := ⟨_, List.getElem?_eq_getElem hlt⟩
      have c0 := (hc.below hnx hb) k x hx
      obtain ⟨⟨xa, xc, hxe, _⟩, _⟩ := x.2
      rw [hxe] at c0
      have hk0 : (k : Int) < (zs.length : Int) := by omega
      obtain ⟨fn, tmps, assign, body, hy, hR⟩ := hY (zs.take k) x wr hJs (by rw [List.length_take, Nat.min_eq_left (Nat.le_of_lt hlt)]; exact hx)
      have ht : zs.take (k + 1) = zs.take k ++ [x] := by rw [List.take_add_one, hx]; rfl
      rw [← ht] at hR
      have hE : sxEnc x = #[.slice xa x.1.2.length xc] := by show #[x.1.1] = _; rw [hxe]
      rw [hE] at hy
      clear ht hE hxe
      have HX := Lib.hid hx
      clear hx
      generalize hL : zs.length = len at *
      have HL := Lib.hid hL
      clear hL
      gi_wp2
      refine hR.mono ?_
      rintro e W3 (⟨rfl, hJ3, hk3⟩ | ⟨rfl, hJx3⟩)
      · gi_wp2
        go_roundw
        case rel => exact ⟨k + 1, by omega, by simp, hJ3, hnx.trans hk3⟩
        case measure => simp [intOf]; omega
      · gi_wp2
        refine bodyPost_ret (results_none rfl _ _ _) rfl ?_
        exact ⟨⟨_, rfl⟩, .inr ⟨_, trivial, hJx3⟩⟩
    · obtain rfl : k = zs.length := by omega
      gi_wp2
      go_end0
      rw [List.take_length] at hJs
      exact ⟨⟨_, rfl⟩, .inl ⟨_, rfl, hJs⟩⟩
set_option maxRecDepth 100000 in
set_option maxHeartbeats 1000000 in
theorem valuesS1_nil_in {m₁ n₁ : Nat} {w₁ : World} (F : Fence) (n : Nat) (h7 : F.fn 133) (hro : F.round = none) (l Bs : Nat) (a : Option Addr) (cap : Nat) (J : List (SX m₁ n₁ w₁) → World → Prop) (W : World) (hBs : W.cell? ⟨Bs, 0, none⟩ = some (.slice a 0 cap)) (h0 : J [] W) :
    CallsIn F n Tryz.prog 133 #[.func (.yield l) #[] #[], .pointer (some ⟨Bs, 0, none⟩)] W fun e W' => (∃ v, e = .returned v) ∧ J [] W' := by
  refine callsIn_of_wp Tryz.func133 rfl h7 ?_ hro
  simp only [Tryz.ntmps133, List.size_toArray, List.length_cons, List.length_nil, Nat.reduceAdd, Nat.reduceSub, Array.replicate_succ, Array.replicate_zero, List.push_toArray, List.append_toArray, List.nil_append, List.cons_append]
  gi_wp2
  gi_loopw [7] (fun i wr => i = .int .i64 0 ∧ J [] wr) (fun _ _ => 0)
  case atStart => exact ⟨rfl, h0⟩
  case round =>
    obtain ⟨rfl, hJs⟩ := hrel
    gi_wp2
    go_end0
    exact ⟨⟨_, rfl⟩, hJs⟩
set_option maxHeartbeats 1000000 in
theorem valuesS_in (F : Fence) (n : Nat) (h5 : F.fn 118) (hro : F.round = none) (a : Option Addr) (len cap : Nat) (w : World) :
    CallsIn F n Tryz.prog 118 #[.slice a len cap] w fun e w' => e = .returned (.func (.func 133) #[] #[.pointer (some ⟨w.heap.size, 0, none⟩)]) ∧ w' = w.alloc (.cells #[.slice a len cap] 129) := by
  refine callsIn_of_wp Tryz.func118 rfl h5 ?_ hro
  simp only [Tryz.ntmps118, List.size_toArray, List.length_cons, List.length_nil, Nat.reduceAdd, Nat.reduceSub, Array.replicate_succ, Array.replicate_zero, List.push_toArray, List.append_toArray, List.nil_append, List.cons_append]
  gi_wp2
  go_ret
  exact ⟨rfl, rfl⟩
theorem valuesS_rel (m : Nat) (hm : 1 ≤ m) (Bs n₀ : Nat) (sv : Value) {m₁ n₁ : Nat} {w₁ : World} (zs : List (SX m₁ n₁ w₁)) (hreach : zs.length ≤ 140737488351232) (w : World) (hn₀ : n₀ ≤ w.heap.size)
    (hk : Boxed w Bs 129 sv) (hI : SSl n₀ w sv zs) :
    SeqRel Fence.wide m Tryz.prog 133 #[.pointer (some ⟨Bs, 0, none⟩)] zs.length (fun k x _ => ∃ y, zs[k]? = some y ∧ x = sxEnc y) (fun _ => Below n₀) w := fun l J W hW _ _ _ hY h0 => by
  have hc' := (hW.cell (p := ⟨Bs, 0, none⟩) hk.lt).trans hk.cell
  obtain ⟨a, cap, rfl, rfl | ⟨b, off, rfl, hb, hcs⟩⟩ := hI.below hW hn₀
  · exact (valuesS1_nil_in (m₁ := m₁) (n₁ := n₁) (w₁ := w₁) Fence.wide m trivial rfl l Bs a cap (fun _ => J 0) W hc' h0).mono fun e W' ⟨he, hj⟩ => ⟨he, hj⟩
  · refine (valuesS1_in Fence.wide m trivial rfl hm l Bs n₀ b off cap zs hreach hb (fun pre X => pre = zs.take pre.length ∧ J pre.length X) (fun _ _ => False) W (fun pre x W1 hj hx => ?_) hc' hcs ⟨rfl, h0⟩).mono ?_
    · refine (hY pre.length (sxEnc x) W1 (List.getElem?_eq_some_iff.1 hx).1 ⟨x, hx, rfl⟩ hj.2).mono fun e W' h => .inl ⟨h.1, ⟨?_, by rw [List.length_append]; exact h.2.1⟩, h.2.2⟩
      rw [List.length_append, List.length_singleton, List.take_add_one, hx, ← hj.1]; rfl
    · rintro e W' ⟨he, ⟨ys, rfl, _, hj⟩ | ⟨_, _, h⟩⟩
      · exact ⟨he, hj⟩
      · exact h.elim
end Go.Proofs.YtbhfajnejibaoaaGreat
namespace Go.Proofs.YtbhfajnejibaoaaGreat
open Go.RowKit Go.Shelf
attribute [local go_sem] Oper.semAt_some
theorem flat_prefix {o n : Nat} {w : World} (zs : List (SX o n w)) (k : Nat) : (flat (zs.take k)).length ≤ (flat zs).length := by
  have h : flat zs = flat (zs.take k) ++ flat (zs.drop k) := by
    unfold flat
    rw [← List.flatten_append, ← List.map_append, List.take_append_drop]
  rw [h, List.length_append]
  omega
theorem flat_take {o n : Nat} {w : World} (zs : List (SX o n w)) {k : Nat} {x : SX o n w} (hx : zs[k]? = some x) : flat (zs.take (k + 1)) = flat (zs.take k) ++ x.1.2 := by
  rw [List.take_add_one, hx]
  exact flat_snoc _ _
def CatI {o n : Nat} {w₁ : World} (N : Nat) (w : World) (zs : List (SX o n w₁)) (k : Nat) (W : World) : Prop :=
  (∃ v, Boxed W N 58 v ∧ W.ownsRow N 5 1 v (flat (zs.take k)).length ((flat (zs.take k)).map bv) ∧ True) ∧ Below N w W
theorem catI_own {o n : Nat} {w₁ : World} {N : Nat} {w : World} {B : Nat} (zs : List (SX o n w₁)) (h : N ≤ w.heap.size) (hB : N ≤ B) : OwnFrom B (CatI (o := o) (n := n) (w₁ := w₁) N w zs) :=
  OwnFrom.and (Own.from (holdsRow_own N N 58 5 1 (fun k : Nat => (flat (zs.take k)).length) (fun k => (flat (zs.take k)).map bv) (fun _ _ => True)) _) (ownFrom_below h hB)
set_option maxRecDepth 100000 in
set_option maxHeartbeats 4000000 in
theorem cat_in (m : Nat) (hm : 3 ≤ m) {o : Nat} (sv : Value) (w : World) (zs : List (SX o w.heap.size w)) (hreach : zs.length ≤ 140737488351232) (ho : (flat zs).length ≤ 140737488355328) (hsv : SSl w.heap.size w sv zs) :
    CallsIn Fence.wide m Tryz.prog 97 #[sv] w (ByW (flat zs) w) := by
  have h1 : 1 ≤ m := by omega
  have hsv0 := hsv
  obtain ⟨a, cap, rfl, hcs⟩ := hsv
  clear hcs
  refine callsIn_of_wp_marks Tryz.func97 rfl trivial ?_ rfl
  simp only [Tryz.ntmps97, List.size_toArray, List.length_cons, List.length_nil, Nat.reduceAdd, Nat.reduceSub, Array.replicate_succ, Array.replicate_zero, List.push_toArray, List.append_toArray, List.nil_append, List.cons_append]
  obtain ⟨i0, hi, hz0, hz1, hz2⟩ := info_parts Tryz.infoByte
  gi_wp2_with (refine ⟨trivial, ?_⟩; gi_at_call 118; refine (valuesS_in Fence.wide (m - 1) trivial rfl _ _ _ _).mono ?_; rintro e w' ⟨rfl, rfl⟩)
  generalize hW5 : World.alloc _ _ = W5
  have k0 : Boxed W5 w.heap.size 58 (.slice none 0 0) := by rw [← hW5]; exact (Boxed.new _ _ _).alloc _
  have k2 : Boxed W5 (w.heap.size + 1) 129 (.slice a zs.length cap) := by rw [← hW5]; exact Blk.new' (vs := [_]) (by simp)
  have hB0 : Below w.heap.size w W5 := by rw [← hW5]; exact chainA (chain0 _ _) _
  have hz : W5.heap.size = w.heap.size + 2 := by rw [← hW5]; simp
  clear hW5
  refine wpIn_rangeFunc_relA rfl h1 (gf := 133) (lb := #[.pointer (some ⟨w.heap.size + 1, 0, none⟩)]) rfl trivial (enters_of Tryz.func133 (by kernel_rfl) rfl)
    (valuesS_rel (m - 1) (by omega) (w.heap.size + 1) w.heap.size _ zs hreach W5 (by omega) k2 (hsv0.below hB0 (Nat.le_refl _))) (fun h k => h.trans k) (fun X o o' h2 h3 h4 => belowK_b (w := w) (Nat.le_refl _) _ _ o o' (by omega) h2 h3 h4) (fun X => Below.refl _ X) (Below.refl _ _) (fun _ => rfl)
    (CatI w.heap.size w zs) (catI_own zs (Nat.le_refl _) (by omega))
    ⟨⟨_, k0, World.ownsRow_nil _ _ _ _, trivial⟩, hB0⟩ (fun _ _ _ _ _ _ h _ _ => h) ?_ ?_ ?_ ?_
  rotate_left
  · intro l k x W K _ hK
    gi_wp2
    exact hK
  · rintro r k x W hlt ⟨⟨v, kv, hown, _⟩, hB⟩ hx
    have ko := kv.cell
    have kf := kv.frozen
    have hNW : w.heap.size ≤ W.heap.size := hB.size
    have hxs := x.2.1.below hB (Nat.le_refl _)
    have hfs := flat_take zs hx
    have hle := flat_prefix zs (k + 1)
    rw [hfs, List.length_append] at hle
    have HF := Lib.hid hfs
    clear hfs hx
    obtain ⟨⟨sx, l⟩, _⟩ := x
    dsimp only at hxs hle HF
    generalize zs.take k = pre at *
    gi_wp2_with (gi_at_builtin; refine wpListIn_append_b _ rfl _ _ 58 rfl w.heap.size 5 i0 (.int .u8 0) Tryz.underlying58 hi hz0 hz1 hz2 rfl v (flat pre).length ((flat pre).map bv) rfl hown sx l rfl hxs (by omega) hNW ?_; intro v' w1 hown' hgrow; obtain ⟨a', c', rfl⟩ := ownsRow_slice hown'; have kv1 := kv.kept hgrow (kv.not_row (by decide) hown); have ko1 := kv1.cell; have kf1 := kv1.frozen)
    have kv3 := kv1.set (.slice a' ((flat pre).length + l.length) c')
    have hrow3 := hown'.kept (grownBy_setCell' w1 w.heap.size (.slice a' ((flat pre).length + l.length) c')) (.inr (kv1.not_row (by decide) hown').symm)
    have hsp : Spares 5 W w1 := (Spares.of_below (Below.refl _ W)).grown hgrow (fun r e => .inr (ownsRow_block hown r e))
    have hbw := ((Below.refl w.heap.size W).grown hgrow hNW (fun j hj => (World.ownsRow.lt hown j hj).1)).setCell (p := ⟨w.heap.size, 0, none⟩) (Nat.le_refl _) (.slice a' ((flat pre).length + l.length) c')
    refine ⟨(hsp.others.trans (KeepsOthers.setCell _ _ _)).from _, hbw, ⟨_, kv3, ?_, trivial⟩, hB.trans hbw⟩
    rw [HF.out, List.map_append, List.length_append]
    exact hrow3
  · rintro D W hD ⟨⟨v, kv, hown, _⟩, hB⟩ hK
    rw [List.take_length] at hown
    have ko := kv.cell
    have HZ := Lib.hid hz
    clear hz
    gi_wp2
    have hB' := hB.trans (belowK_b (w := w) (Nat.le_refl _) _ D _ (.deferred none) (by have := HZ.out; omega) hK rfl rfl)
    have hown3 := ownsRow_putObj hown (.deferred none) hK rfl
    refine ⟨by simp, .inl ⟨_, _, rfl, run_takeDeferred hK, ?_⟩⟩
    refine ⟨v, ?_, ?_⟩
    · simp [results, Tryz.f97, go_sem]
    · exact ⟨v, rfl, BSl.of_own hown3, hB'⟩
theorem cat_any {o : Nat} (sv : Value) (w : World) (zs : List (SX o w.heap.size w)) (hreach : zs.length ≤ 140737488351232) (ho : (flat zs).length ≤ 140737488355328) (hsv : SSl w.heap.size w sv zs) :
    Calls Tryz.prog 97 #[sv] w (ByW (flat zs) w) := callsIn_wide.1 (cat_in 3 (by omega) sv w zs hreach ho hsv)
end Go.Proofs.YtbhfajnejibaoaaGreat
namespace Go.Proofs.YtbhfajnejibaoaaGreat
open Go.RowKit Go.Shelf
set_option maxRecDepth 100000 in
set_option maxHeartbeats 1000000 in
theorem clone_any (l : List UInt8) (sv : Value) (w : World) {lo hi' : Nat} (hreach : l.length ≤ 140737488355328) (hsv : BSl lo hi' w sv l) (hhi : hi' ≤ w.heap.size) :
    Calls Tryz.prog 100 #[sv] w (ByO l w) := by
  obtain ⟨i0, hi, hz0, hz1, hz2⟩ := info_parts Tryz.infoByte
  have hsv0 := hsv
  obtain ⟨a, cap, rfl, hcap, h0⟩ := hsv
  rcases a with _ | ad
  · have hl : l = [] := by
      rcases h0 with h0 | ⟨_, _, h, _⟩
      · exact h0
      · cases h
    subst hl
    have hnil := fun w => Lib.run_eql_slice_nil (P := Tryz.prog) w 58 5 none 0 cap 0 0 Tryz.underlying58
    change Calls _ _ #[.slice none 0 cap] _ _
    go_enter Tryz.func100, Tryz.ntmps100
    go_wp2
    go_ret
    exact ⟨_, rfl, World.ownsRow_nil _ _ _ _, Below.refl _ _⟩
  · clear h0
    have hnil := fun w => Lib.run_eql_slice_nil (P := Tryz.prog) w 58 5 (some ad) l.length cap 0 0 Tryz.underlying58
    generalize hL : l.length = len at *
    have HL := Lib.hid hL
    clear hL
    go_enter Tryz.func100, Tryz.ntmps100
    go_wp2_with (at_builtin; refine wpList_append_b _ rfl _ _ 58 rfl w.heap.size 5 i0 (.int .u8 0) Tryz.underlying58 hi hz0 hz1 hz2 rfl _ 0 [] rfl (World.ownsRow_lit w #[] 0 (Nat.le_refl _) (by unfold maxLen; omega) rfl) _ l rfl (hsv0.below ((Below.refl hi' w).alloc hhi _) (Nat.le_refl _)) (by rw [HL.out]; omega) (by simp) ?_; intro v' w1 hown' hgrow)
    go_ret
    refine ⟨_, rfl, by simpa using hown', ((chain0 w _).grown hgrow (by simp) (fun k e => ?_))⟩
    have : w.heap.size = k := Option.some.inj e
    omega
end Go.Proofs.YtbhfajnejibaoaaGreat
namespace Go.Proofs.YtbhfajnejibaoaaGreat
open Go.RowKit Go.Shelf
theorem conv_bytes (w : World) (s : ByteArray) : ∃ c W', (convert 9 58 (.string s)).run Tryz.prog w = .ok (.slice (some ⟨w.heap.size, 0, none⟩) s.size c) W' ∧ s.size ≤ c ∧ Below w.heap.size w W' ∧ W'.heap.size = w.heap.size + 1 ∧ Octs W' w.heap.size 0 s.data.toList := by
  refine ⟨_, _, Lib.run_convert_string_bytes w 9 58 5 s Tryz.underlying9 Tryz.underlying58 Tryz.underlying5, grownCap_ge _ _ _ _, ?_, Lib.bytesWorld_size _ _ _, fun k x hx => ?_⟩
  · refine ⟨rfl, rfl, rfl, by rw [Lib.bytesWorld_size]; omega, fun k hk => Lib.bytesWorld_at_old _ _ _ k hk⟩
  · have hk : k < s.size := (List.getElem?_eq_some_iff.1 hx).1
    rw [Nat.zero_add, Lib.bytesWorld_cell w _ s k hk]
    simp only [List.getD, hx, Option.getD_some]
theorem conv_bsl {w W : World} {s : ByteArray} {c : Nat} (hc : s.size ≤ c) (hz : W.heap.size = w.heap.size + 1) (ho : Octs W w.heap.size 0 s.data.toList) : BSl w.heap.size W.heap.size W (.slice (some ⟨w.heap.size, 0, none⟩) s.size c) s.data.toList :=
  ⟨_, c, rfl, hc, .inr ⟨_, 0, rfl, Nat.le_refl _, by omega, ho⟩⟩
end Go.Proofs.YtbhfajnejibaoaaGreat
namespace Go.Proofs.YtbhfajnejibaoaaGreat
open Go.RowKit Go.Shelf
theorem fault_nil (w : World) :
    Calls Tryz.prog 99 #[.pointer none] w fun e W' => e = .returned (.int .i64 9) ∧ w = W' := by
  go_enter Tryz.func99, Tryz.ntmps99
  go_wp2
  go_ret
  exact ⟨rfl, rfl⟩
theorem fault_at {B : Nat} {m : Bool} {sv : Value} {x : Int} (w : World) (h : Blk w B 145 [.bool m, sv, .int .i64 x]) :
    Calls Tryz.prog 99 #[.pointer (some ⟨B, 0, none⟩)] w fun e W' => e = .returned (.int .i64 (if m then x else 9)) ∧ w = W' := by
  obtain ⟨c0, -, c2⟩ := h.c3
  cases m
  all_goals
    go_enter Tryz.func99, Tryz.ntmps99
    go_wp2
    go_ret
    exact ⟨rfl, rfl⟩
theorem fault_any {p : Option Addr} {s : St} (w : World) (h : ObjP 145 w p s) :
    Calls Tryz.prog 99 #[.pointer p] w fun e W' => e = .returned (.int .i64 s.2) ∧ w = W' := by
  rcases h with ⟨rfl, rfl⟩ | ⟨B, m, a, n, c, x, rfl, hb, ⟨rfl, rfl⟩ | ⟨rfl, rfl, _, _⟩⟩
  · exact fault_nil w
  · exact fault_at w hb
  · exact fault_at w hb
theorem outFail_any {p : Option Addr} {s : St} (x : Int) (w : World) (h : ObjP 145 w p s) :
    Calls Tryz.prog 95 #[.pointer p, .int .i64 x] w (DidS 145 p (errS s x) w) := by
  by_cases hf : s.2 = 0
  · have h' := h
    rcases h with ⟨rfl, rfl⟩ | ⟨B, m, a, n, c, x0, rfl, hb, ⟨rfl, rfl⟩ | ⟨rfl, hx, hok, hsl⟩⟩
    · simp at hf
    · simp at hf
    have e1 : errS s x = ([], x) := if_pos hf
    rw [e1]
    clear e1
    have HF := Lib.hid hf
    have HX := Lib.hid hx
    clear hf hx
    obtain ⟨-, c1, c2⟩ := hb.c3
    have f1 := hb.frozen 1
    have f2 := hb.frozen 2
    go_enter Tryz.func95, Tryz.ntmps95
    go_wp2_with (go_at_call 99; refine (fault_any _ h').mono ?_; rw [HF.out]; rintro e w' ⟨rfl, rfl⟩)
    go_end0
    refine ⟨rfl, .inr ⟨B, true, none, 0, 0, x, rfl, ?_, .inr ⟨rfl, rfl, ⟨fun _ => rfl, by simp⟩, BSl.nil _ _ _⟩⟩, ?_⟩
    · exact (hb.set 1 (.slice none 0 0)).set 2 (.int .i64 x)
    · exact (grownBy_setCell4 w B 1 _).trans (grownBy_setCell4 _ B 2 _)
  · rw [errS_bad hf]
    have hf1 : (s.2 == 0) = false := by simpa using hf
    go_enter Tryz.func95, Tryz.ntmps95
    go_wp2_with (go_at_call 99; refine (fault_any _ h).mono ?_; rintro e w' ⟨rfl, rfl⟩)
    go_end0
    exact ⟨rfl, h, World.grownBy.refl _ _⟩
theorem cat2_any (l1 l2 : List UInt8) (s1 s2 : Value) (w : World) (hl : l1.length + l2.length ≤ 140737488355328) (h1 : BSl 0 w.heap.size w s1 l1) (h2 : BSl 0 w.heap.size w s2 l2) :
    Calls Tryz.prog 97 #[.slice (some ⟨w.heap.size, 0, none⟩) 2 2] (w.alloc (.cells #[s1, s2] 58)) (ByW (l1 ++ l2) (w.alloc (.cells #[s1, s2] 58))) := by
  have hb := chain0 w (.cells #[s1, s2] 58)
  have hz : (w.alloc (.cells #[s1, s2] 58)).heap.size = w.heap.size + 1 := by simp
  have k : Blk (w.alloc (.cells #[s1, s2] 58)) w.heap.size 58 [s1, s2] := Blk.new w 58 [s1, s2]
  generalize w.alloc (.cells #[s1, s2] 58) = W at *
  let zs : List (SX 140737488355328 W.heap.size W) := [⟨(s1, l1), (h1.below hb (Nat.le_refl _)).mono (Nat.le_refl _) (by omega), by simp only; omega⟩, ⟨(s2, l2), (h2.below hb (Nat.le_refl _)).mono (Nat.le_refl _) (by omega), by simp only; omega⟩]
  have hfl : flat zs = l1 ++ l2 := by simp [flat, zs]
  have := cat_any (.slice (some ⟨w.heap.size, 0, none⟩) 2 2) W zs (by simp [zs]) (by rw [hfl, List.length_append]; exact hl)
    ⟨_, _, rfl, .inr ⟨w.heap.size, 0, rfl, by omega, fun i x hx => by
      rw [Nat.zero_add, k.cell i]
      match i, hx with
      | 0, hx => simp only [zs, List.getElem?_cons_zero, Option.some.injEq] at hx; rw [← hx]; rfl
      | 1, hx => simp only [zs, List.getElem?_cons_zero, List.getElem?_cons_succ, Option.some.injEq] at hx; rw [← hx]; rfl
      | i + 2, hx => simp [zs] at hx⟩⟩
  rw [hfl] at this
  exact this
theorem outPut_any {p : Option Addr} {s : St} (l : List UInt8) (sv : Value) (w : World) (h : ObjP 145 w p s) (hl : l.length ≤ 140737488345000) (hsv : BSl 0 w.heap.size w sv l) :
    Calls Tryz.prog 96 #[.pointer p, sv] w (DidS 145 p (addS s l) w) := by
  by_cases hf : s.2 = 0
  · have h' := h
    rcases h with ⟨rfl, rfl⟩ | ⟨B, m, a, n, c, x0, rfl, hb, ⟨rfl, rfl⟩ | ⟨rfl, hx, hok, hsl⟩⟩
    · simp at hf
    · simp at hf
    have hsv0 := hsv
    obtain ⟨a2, c2', rfl, _, _⟩ := hsv0
    have hsl0 := hsl
    obtain ⟨a', c', e', _, _⟩ := hsl0
    cases e'
    have h82 := hok.2
    have e1 : addS s l = if s.1.length + l.length ≤ 8192 then (s.1 ++ l, 0) else ([], 5) := if_pos hf
    rw [e1]
    clear e1
    have HF := Lib.hid hf
    have HX := Lib.hid hx
    clear hf hx
    obtain ⟨-, c1, -⟩ := hb.c3
    have f1 := hb.frozen 1
    generalize hn : s.1.length = n at *
    generalize hk : l.length = k at *
    have HN := Lib.hid hn
    have HK := Lib.hid hk
    clear hn hk
    have kp : ∀ {w1 : World}, Below (w.alloc (.cells #[Value.slice a n c, Value.slice a2 k c2'] 58)).heap.size (w.alloc (.cells #[Value.slice a n c, Value.slice a2 k c2'] 58)) w1 → Blk w1 B 145 [.bool true, .slice a n c, .int .i64 x0] := fun hb1 =>
      (hb.alloc _).below hb1 (Nat.lt_of_lt_of_le hb.lt (by simp))
    by_cases hfit : n + k ≤ 8192
    · rw [if_pos hfit]
      have hgt : ¬ ((8192 : Int) < (n : Int) + (k : Int)) := by omega
      go_enter Tryz.func96, Tryz.ntmps96
      go_wp2_with (first
        | (go_at_call 99; refine (fault_any _ h').mono ?_; rw [HF.out]; rintro e w' ⟨rfl, rfl⟩)
        | (go_at_call 97; (refine (cat2_any s.1 l (Value.slice a n c) (Value.slice a2 k c2') w (by have := HN.out; have := HK.out; omega) hsl hsv).mono ?_; rintro e w1 ⟨v, rfl, hv, hb1⟩; obtain ⟨va, vc, rfl, hvc⟩ := hv.shape; have c1' := (kp hb1).c3.2.1; have f1' := (kp hb1).frozen 1)))
      go_end0
      have K1 := kp hb1
      rw [List.length_append] at hv
      have G1 := grownBy_setCell4 w1 B 1 (.slice va (s.1.length + l.length) vc)
      refine ⟨rfl, .inr ⟨B, true, va, s.1.length + l.length, vc, x0, rfl, K1.set 1 _, .inr ⟨rfl, HF.out.symm.trans HX.out, ⟨fun k => absurd rfl k, ?_⟩, ?_⟩⟩, ((World.grownBy_alloc w _ (some B)).trans (grew hb1 _)).trans G1⟩
      · have := HN.out; have := HK.out
        simp only [List.length_append]; omega
      · exact (hv.to (Nat.le_refl _) G1 (fun r e => by cases e; exact noOct3 K1)).mono (Nat.zero_le _) G1.size
    · rw [if_neg hfit]
      have hgt : (8192 : Int) < (n : Int) + (k : Int) := by omega
      go_enter Tryz.func96, Tryz.ntmps96
      go_wp2_with (first
        | (go_at_call 99; refine (fault_any _ h').mono ?_; rw [HF.out]; rintro e w' ⟨rfl, rfl⟩)
        | (go_at_call 95; refine (outFail_any _ _ h').mono ?_; rintro e w' ⟨rfl, hO, hG⟩))
      go_end0
      exact ⟨rfl, (show errS s 5 = ([], 5) from if_pos HF.out) ▸ hO, hG⟩
  · rw [addS_bad hf]
    have hf1 : (s.2 == 0) = false := by simpa using hf
    have hf2 : (s.2 != 0) = true := by simpa using hf
    go_enter Tryz.func96, Tryz.ntmps96
    go_wp2_with (go_at_call 99; refine (fault_any _ h).mono ?_; rintro e w' ⟨rfl, rfl⟩)
    go_end0
    exact ⟨rfl, h, World.grownBy.refl _ _⟩
theorem clamp6 : clamp 6 = 6 := rfl
theorem clamp2 : clamp 2 = 2 := rfl
theorem two_nat {n : Nat} (h : n < 18446744073709551616) : two (n : Int) = n := by unfold two; omega
theorem outNum_any {p : Option Addr} {s : St} (n : Int) (w : World) (h : ObjP 145 w p s) :
    Calls Tryz.prog 78 #[.pointer p, .int .i64 n] w (DidS 145 p (numS s n) w) := by
  by_cases hn : 0 ≤ n ∧ n ≤ 1099511627776
  · have e1 : numS s n = addS s (octs (two n) 6) := if_pos hn
    rw [e1]
    clear e1
    obtain ⟨h0, h1⟩ := hn
    have g0 : ¬ n < 0 := by omega
    have g1 : ¬ 1099511627776 < n := by omega
    go_enter Tryz.func78, Tryz.ntmps78
    go_wp2_with (first
      | (go_at_call 20; refine (num_any n 6 (by omega) (by omega) w).mono ?_; rintro e w1 ⟨v, rfl, hv, hb1⟩; rw [clamp6] at hv)
      | (go_at_call 96; refine (outPut_any _ _ w1 (h.below hb1) (by rw [octs_length]; omega) (hv.mono (Nat.zero_le _) (Nat.le_refl _))).mono ?_; rintro e w' ⟨rfl, hO, hG⟩))
    go_end0
    exact ⟨rfl, hO, (grew hb1 _).trans hG⟩
  · have e1 : numS s n = errS s 4 := if_neg hn
    rw [e1]
    clear e1
    by_cases h0 : n < 0
    all_goals
      have HN := Lib.hid hn
      clear hn
      try (have g1 : 1099511627776 < n := by have := HN.out; omega)
      go_enter Tryz.func78, Tryz.ntmps78
      go_wp2_with (first
        | (go_at_call 95; refine (outFail_any _ _ h).mono ?_; rintro e w' ⟨rfl, hO, hG⟩))
      go_end0
      exact ⟨rfl, hO, hG⟩
set_option maxRecDepth 100000 in
set_option maxHeartbeats 1000000 in
theorem outText_any {p : Option Addr} {s : St} (t : ByteArray) (w : World) (h : ObjP 145 w p s) :
    Calls Tryz.prog 77 #[.pointer p, .string t] w (DidS 145 p (txtS s t) w) := by
  by_cases hn : t.size ≤ 1024
  · have e1 : txtS s t = addS s (octs t.size 2 ++ t.data.toList) := if_pos hn
    rw [e1]
    clear e1
    have htl : t.data.toList.length = t.size := by rw [Array.length_toList]; rfl
    have g1 : ¬ (1024 : Int) < (t.size : Int) := by omega
    have HL := Lib.hid htl
    clear htl
    go_enter Tryz.func77, Tryz.ntmps77
    go_wp2_with (first
      | (go_at_call 20; refine (num_any t.size 2 (by omega) (by omega) w).mono ?_; rintro e w1 ⟨v, rfl, hv, hb1⟩; rw [clamp2, two_nat (by omega)] at hv; obtain ⟨va, vm, vc, rfl⟩ := hv.shape3; obtain ⟨c2, w2, hcv, hc2, hb2, hz2, ho2⟩ := conv_bytes w1 t; have HZ2 := Lib.hid hz2; clear hz2; have hB2 := RowKit.Below.trans hb1 (hb2.mono hb1.size))
      | (go_at_call 97; refine (cat2_any (octs t.size 2) t.data.toList (.slice va vm vc) (.slice (some ⟨w1.heap.size, 0, none⟩) t.size c2) w2 (by rw [octs_length, HL.out]; omega) ((hv.below hb2 (Nat.le_refl _)).mono (Nat.zero_le _) hb2.size) ((conv_bsl hc2 HZ2.out ho2).mono (Nat.zero_le _) (Nat.le_refl _))).mono ?_; rintro e w3 ⟨v3, rfl, hv3, hb3⟩; have hB3 := RowKit.Below.trans (hB2.alloc hB2.size _) (hb3.mono (Nat.le_trans hB2.size (by simp))))
      | (go_at_call 96; refine (outPut_any (octs t.size 2 ++ t.data.toList) v3 w3 (h.below hB3) (by rw [List.length_append, octs_length, HL.out]; omega) (hv3.mono (Nat.zero_le _) (Nat.le_refl _))).mono ?_; rintro e w' ⟨rfl, hO, hG⟩))
    go_end0
    exact ⟨rfl, hO, (grew hB3 _).trans hG⟩
  · have e1 : txtS s t = errS s 5 := if_neg hn
    rw [e1]
    clear e1
    have g1 : (1024 : Int) < (t.size : Int) := by omega
    go_enter Tryz.func77, Tryz.ntmps77
    go_wp2_with (first
      | (go_at_call 95; refine (outFail_any _ _ h).mono ?_; rintro e w' ⟨rfl, hO, hG⟩))
    go_end0
    exact ⟨rfl, hO, hG⟩
set_option maxRecDepth 100000 in
theorem outWide_any {p : Option Addr} {s : St} {a0 a1 a2 a3 : Nat} (ha : Ok4 a0 a1 a2 a3) (w : World) (h : ObjP 145 w p s) :
    Calls Tryz.prog 80 #[.pointer p, wv a0 a1 a2 a3] w (DidS 145 p (wideS s a0 a1 a2 a3) w) := by
  have hl : (wide8 a0 a1 a2 a3).length = 32 := by unfold wide8; simp only [List.length_append, octs_length]
  have HL := Lib.hid hl
  clear hl
  go_enter Tryz.func80, Tryz.ntmps80
  go_wp2_with (first
    | (go_at_call 98; refine (blobWide_any ha _).mono ?_; rintro e w1 ⟨v, rfl, hv, hb1⟩; have hB1 := chain (chain0 w _) hb1)
    | (go_at_call 96; refine (outPut_any _ _ w1 (h.below hB1) (by rw [HL.out]; omega) (hv.mono (Nat.zero_le _) (Nat.le_refl _))).mono ?_; rintro e w' ⟨rfl, hO, hG⟩))
  go_end0
  exact ⟨rfl, hO, (grew hB1 _).trans hG⟩
def ToldS (s : St) (w : World) (e : Ending) (W' : World) : Prop := ∃ sv, e = .returned (.tuple #[sv, .int .i64 s.2]) ∧ BSl 0 W'.heap.size W' sv s.1 ∧ Below w.heap.size w W'
theorem outDone_any {p : Option Addr} {s : St} (w : World) (h : ObjP 145 w p s) :
    Calls Tryz.prog 81 #[.pointer p] w (ToldS s w) := by
  by_cases hf : s.2 = 0
  · have h' := h
    rcases h with ⟨rfl, rfl⟩ | ⟨B, m, a, n, c, x0, rfl, hb, ⟨rfl, rfl⟩ | ⟨rfl, hx, hok, hsl⟩⟩
    · simp at hf
    · simp at hf
    have h82 := hok.2
    obtain ⟨-, c1, -⟩ := hb.c3
    have HF := Lib.hid hf
    clear hf hx
    go_enter Tryz.func81, Tryz.ntmps81
    go_wp2_with (first
      | (go_at_call 99; refine (fault_any _ h').mono ?_; rw [HF.out]; rintro e w' ⟨rfl, rfl⟩)
      | (go_at_call 100; refine (clone_any s.1 _ _ (by omega) hsl (Nat.le_refl _)).mono ?_; rintro e w1 ⟨v, rfl, hv, hb1⟩))
    go_ret2
    exact ⟨v, by rw [HF.out]; rfl, (BSl.of_own hv).mono (Nat.zero_le _) (Nat.le_refl _), hb1⟩
  · have hs1 := h.ok.1 hf
    have hf1 : (s.2 == 0) = false := by simpa using hf
    have hf2 : (s.2 != 0) = true := by simpa using hf
    have HS := Lib.hid hs1
    clear hs1
    go_enter Tryz.func81, Tryz.ntmps81
    go_wp2_with (first
      | (go_at_call 99; refine (fault_any _ h).mono ?_; rintro e w' ⟨rfl, rfl⟩))
    go_ret2
    exact ⟨_, rfl, by rw [HS.out]; exact BSl.nil _ _ _, Below.refl _ _⟩
theorem outNew_any (w : World) :
    Calls Tryz.prog 76 #[] w fun e W' => e = .returned (.pointer (some ⟨w.heap.size, 0, none⟩)) ∧ W'.heap.size = w.heap.size + 1 ∧ ObjP 145 W' (some ⟨w.heap.size, 0, none⟩) ([], 0) ∧ Below w.heap.size w W' := by
  go_enter Tryz.func76, Tryz.ntmps76
  go_wp2
  go_ret
  exact ⟨rfl, by simp, .inr ⟨_, true, none, 0, 0, 0, rfl, Blk.new w _ [_, _, _], .inr ⟨rfl, rfl, ⟨fun _ => rfl, by simp⟩, BSl.nil _ _ _⟩⟩, chain0 _ _⟩
end Go.Proofs.YtbhfajnejibaoaaGreat
namespace Go.Proofs.YtbhfajnejibaoaaGreat
open Go.RowKit Go.Shelf
def nA (a : Ak) (k : Nat) : Int := match k with | 0 => a.us | 1 => a.se | 2 => a.re | _ => a.to
def numA (s : St) (a : Ak) (k : Nat) : St := match k with | 0 => s | k + 1 => numS (numA s a k) (nA a k)
set_option maxRecDepth 100000 in
theorem idx_ask4 (a : Ak) (w : World) {k : Nat} (hk : k < 4) :
    (Instr.index 149 (.agg #[.int .i64 a.us, .int .i64 a.se, .int .i64 a.re, .int .i64 a.to]) (.int .i64 k)).run Tryz.prog w = .ok (.int .i64 (nA a k)) w := by
  have hs : ∀ j : Nat, (sizeOf 3).run Tryz.prog w = .ok 1 w := fun _ => by kernel_rfl
  have h1 : (0 : Int) ≤ (k : Int) ∧ (k : Int) < 4 := ⟨by omega, by omega⟩
  obtain rfl | rfl | rfl | rfl : k = 0 ∨ k = 1 ∨ k = 2 ∨ k = 3 := by omega
  all_goals
    simp [Instr.index, run_underlying Tryz.underlying149, asIntOf, hs 0, go_sem, nA]
set_option maxRecDepth 100000 in
set_option maxHeartbeats 2000000 in
theorem bidPutAsk_any {p : Option Addr} {s : St} (a : Ak) (ha : Ok4 a.a0 a.a1 a.a2 a.a3) (w : World) (h : ObjP 145 w p s) :
    Calls Tryz.prog 79 #[.pointer p, akv a] w (DidS 145 p (putA s a) w) := by
  have HNE := Lib.hid (ptr_lt h (Nat.le_refl _))
  have HP : Hid (putA s a = txtS (wideS (numA s a 4) a.a0 a.a1 a.a2 a.a3) a.id) := Lib.hid rfl
  have kB := (Blk.new w 34 (akc a))
  have hG := World.grownBy_alloc w (.cells (akc a).toArray 34) (p.map (·.block))
  have hO := h.below (chain0 w (.cells (akc a).toArray 34))
  clear h
  go_enter Tryz.func79, Tryz.ntmps79
  go_wp2_with fail
  go_loopw [15] (fun n wr => ∃ k : Nat, k ≤ 4 ∧ n = .int .i64 k ∧ ObjP 145 wr p (numA s a k) ∧ w.grownBy wr (p.map (·.block)) ∧ Blk wr w.heap.size 34 (akc a)) (fun n _ => 4 - (intOf n).toNat)
  case atStart => exact ⟨0, by omega, rfl, hO, hG, kB⟩
  case round =>
    clear hO hG kB
    obtain ⟨k, hk, rfl, hO, hG, kB⟩ := hrel
    by_cases hlt : k < 4
    · have hlt' : (k : Int) < 4 := by omega
      have HI := Lib.hid (fun W => idx_ask4 a W hlt)
      have HS : Hid (numA s a (k + 1) = numS (numA s a k) (nA a k)) := Lib.hid rfl
      generalize numA s a k = st at *
      generalize nA a k = x at *
      go_wp2_with (first
        | (refine wpList_indexTo rfl 149 (.tmp 14) (.tmp 15) rfl (some 17) rfl _ (HI.out _) ?_)
        | (go_at_call 78; refine (outNum_any _ _ hO).mono ?_; rintro e W1 ⟨rfl, hO1, hG1⟩))
      go_roundw
      case rel => exact ⟨k + 1, by omega, by go_num, by rw [HS.out]; exact hO1, hG.trans hG1, kB.kept hG1 HNE.out⟩
      case measure => simp [intOf]; omega
    · obtain rfl : k = 4 := by omega
      generalize numA s a 4 = st at *
      obtain ⟨c0, c1, c2, c3, c4, c5, c6, c7, c8⟩ := Blk.c9 kB
      go_wp2_with (first
        | (go_at_call 80; refine (outWide_any ha _ hO).mono ?_; rintro e W1 ⟨rfl, hO1, hG1⟩; replace hO := hO1; replace hG := hG.trans hG1; replace kB := kB.kept hG1 HNE.out; clear c0 c1 c2 c3 c4 c5 c6 c7 c8 hO1 hG1; have c8 := (kB.cell 8).trans rfl)
        | (go_at_call 77; refine (outText_any _ _ hO).mono ?_; rintro e W1 ⟨rfl, hO1, hG1⟩))
      go_end0
      exact ⟨rfl, by rw [HP.out]; exact hO1, hG.trans hG1⟩
end Go.Proofs.YtbhfajnejibaoaaGreat
namespace Go.Proofs.YtbhfajnejibaoaaGreat
open Go.RowKit Go.Shelf
theorem load_bid {W : World} {B : Nat} {b : Bd} (h : Blk W B 36 (bdc b)) : (Instr.loadAt 36 (.pointer (some ⟨B, 0, none⟩))).run Tryz.prog W = .ok (bdv b) W := by
  simp only [Instr.loadAt, Instr.sureAddr, Sem.run_bind, Sem.run_pure, Result.andThen_ok, run_loadVar_row W B _ 36 (bdc b).toArray (0, 0) _ h Tryz.underlying36 rfl (by kernel_rfl)]
end Go.Proofs.YtbhfajnejibaoaaGreat
namespace Go.Proofs.YtbhfajnejibaoaaGreat
open Go.RowKit Go.Shelf
def NewO (w : World) (e : Ending) (W' : World) : Prop := ∃ NB, e = .returned (.pointer (some ⟨NB, 0, none⟩)) ∧ w.heap.size ≤ NB ∧ ObjP 145 W' (some ⟨NB, 0, none⟩) ([], 0) ∧ Below w.heap.size w W'
theorem outNewO_any (w : World) : Calls Tryz.prog 76 #[] w (NewO w) :=
  (outNew_any w).mono fun _ _ ⟨h1, _, h3, h4⟩ => ⟨_, h1, Nat.le_refl _, h3, h4⟩
theorem below_did {T : TypeId} {NB : Nat} {s : St} {w W : World} {e : Ending} {W' : World} (hB : Below w.heap.size w W) (hN : w.heap.size ≤ NB) (h : DidS T (some ⟨NB, 0, none⟩) s W e W') : Below w.heap.size w W' :=
  hB.grown h.2.2 hB.size (fun k e => by cases e; exact hN)
def OctsL (l : List UInt8) (w : World) (e : Ending) (W' : World) : Prop := ∃ sv, e = .returned sv ∧ BSl 0 W'.heap.size W' sv l ∧ Below w.heap.size w W'
end Go.Proofs.YtbhfajnejibaoaaGreat
