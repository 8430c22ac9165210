/-
  A range over a function whose body never leaves: what is yielded is told by a relation of the place, the values and the world; slices.Values over slices of octets: each; blob.Cat: all, one behind the other; '[]byte(s)'; field.Out: which error it has, and how it takes octets; A thing that is stored beside an object; A transfer, and a side's data, read of an In
-/
import Derived.Lib.ConvBytes
import Derived.Laws.AppendOwn
import Derived.Deep.Cut
import Derived.Test.YtechcdkakgpnkaaGreatK04
namespace Go.Proofs.YtechcdkakgpnkaaGreat
open Go.RowKit
variable {F : Fence} {n : Nat} {P : Program}
def SeqRel (F : Fence) (n : Nat) (P : Program) (g : Nat) (lb : Array Value) (N : Nat) (R : Nat → Array Value → World → Prop) (Kp : Nat → World → World → Prop) (w : World) : Prop :=
  ∀ (l : Nat) (J : Nat → World → Prop) (W : World), Below w.heap.size w W → w.heap.size ≤ l → l < W.heap.size → OwnFrom W.heap.size J →
    (∀ k x W1, k < N → R k x W1 → J k W1 → YieldAt F (n - 1) P l x W1 fun e W' => e = .returned (.bool true) ∧ J (k + 1) W' ∧ Kp l W1 W') →
    J 0 W → CallsIn F n P g (#[.func (.yield l) #[] #[]] ++ lb) W fun e W' => (∃ v, e = .returned v) ∧ J N W'
theorem wpIn_rangeFunc_rel {g : Operand} {ps : Array Tmp} {assign body : Code} {Q : Exit → Act → World → Prop} {a : Act} {w : World}
    (hro : F.round = none) (h1 : 1 ≤ n) {gf : Nat} {lb : Array Value} (hg : a.eval g = .func (.func gf) #[] lb) (hFg : F.fn gf) (eg : ∀ args w, (callFunc gf args).run P w = .ok (.enter gf args) w)
    {N : Nat} {R : Nat → Array Value → World → Prop} {Kp : Nat → World → World → Prop} {w0 : World} (hseq : SeqRel F (n - 1) P gf lb N R Kp w0)
    (hKt : ∀ {A B C : World}, Kp (w.heap.size + 1) A B → Kp (w.heap.size + 1) B C → Kp (w.heap.size + 1) A C) (hKb : ∀ (W : World) (o o' : Obj), W.heap[w.heap.size + 1]? = some o → o.isCells = false → o.isWalk = false → Kp (w.heap.size + 1) W (W.putObj (w.heap.size + 1) o')) (hb0 : Below w0.heap.size w0 w) (hps : ∀ k x W, R k x W → x.size = ps.size)
    (I : Nat → World → Prop) (hI : OwnFrom w.heap.size I) (h0 : I 0 w) (Ax : Nat → Array Value → Act → World → Prop) (hAx : ∀ k x a', OwnFrom w.heap.size (fun (_ : Unit) W => Ax k x a' W))
    (hassign : ∀ (l k : Nat) (x : Array Value) (W : World) (K : Act → World → Prop), k < N → R k x W → I k W → (∀ a' W', KeepsFrom w.heap.size W W' → Kp (w.heap.size + 1) W W' → I k W' → Ax k x a' W' → K a' W') →
      assign.wpIn (F.inRound l) (n - 1 - 1) P (Exit.then K (fun _ _ _ => False)) { tmps := (ps.zip x).foldl (fun t (p, v) => t.setIfInBounds p v) a.tmps, defers := [] } W)
    (hbody : ∀ (l k : Nat) (x : Array Value) (a' : Act) (W : World), k < N → I k W → Ax k x a' W → body.wpIn (F.inRound l) (n - 1 - 1) P (goesOn w.heap.size (Kp (w.heap.size + 1)) (I (k + 1)) W) a' W)
    (hdone : ∀ (D : Nat) (W : World), w.heap.size ≤ D → I N W → W.heap[D]? = some (.deferred (some [])) → Q .normal { a with defers := { target := .collected D, args := #[] } :: a.defers } W) :
    (Code.rangeFunc g ps assign body).wpIn F n P Q a w := by
  refine wpIn_rangeFunc fun fn hfn => ?_
  rw [hro]
  have hZ : w.heap.size < w.heap.size + 1 := Nat.lt_succ_self _
  have R0 : { r : Loop // r.state = .ready ∧ r.pending = none ∧ r = { state := .ready, pending := none, fn, tmps := a.tmps, params := ps, assign, body, defers := w.heap.size } } := ⟨_, rfl, rfl, rfl⟩
  obtain ⟨r, hr1, hr2, hre⟩ := R0
  have hrun := run_enterLoop_outer (P := P) (w := w) fn a.tmps ps assign body
  rw [← hre] at hrun
  generalize hW1 : (w.alloc (.deferred (some []))).alloc (.loop r) = W1 at hrun
  have hsz : W1.heap.size = w.heap.size + 2 := by rw [← hW1]; simp
  have gw : w.grownBy (w.alloc (.deferred (some []))) none := World.grownBy_alloc _ _ _
  have hl1 : W1.heap[w.heap.size + 1]? = some (.loop r) := by
    rw [← hW1]; simpa using World.alloc_heap_new (w.alloc (.deferred (some []))) (.loop r)
  have hd1 : W1.heap[w.heap.size]? = some (.deferred (some [])) := by
    rw [← hW1]; exact (Below.heap_alloc _ _ _ (by simp)).trans (World.alloc_heap_new _ _)
  have hi1 : I 0 W1 := by rw [← hW1]; exact hI.alloc _ (hI.alloc _ h0)
  have hB1 : Below w0.heap.size w0 W1 := by
    rw [← hW1]; exact hb0.trans (((Below.refl w.heap.size w).alloc (Nat.le_refl _) _).alloc (by simp) _ |>.mono hb0.size)
  refine ⟨_, _, W1, { target := .fn (.func gf) lb, args := #[.func (.yield (w.heap.size + 1)) #[] #[]] }, W1, gf, #[.func (.yield (w.heap.size + 1)) #[] #[]] ++ lb, W1, hrun, by simp only [resolve, hg]; simp [go_sem], fun f' hf' => ?_, by simp [invoke, go_sem, eg], fun _ => h1, ?_⟩
  · simp [Target.leads] at hf'; subst hf'; exact hFg
  refine (hseq (w.heap.size + 1) (fun k W => I k W ∧ W.heap[w.heap.size + 1]? = some (.loop r) ∧ W.heap[w.heap.size]? = some (.deferred (some []))) W1 hB1 (by have := hb0.size; omega) (by omega)
    (fun s A B row ⟨hi, hl, hd⟩ hg' hrow => ⟨hI s A B row hi hg' (fun q e => ⟨by have := (hrow q e).1; omega, (hrow q e).2⟩),
      (hg'.block _ (Array.getElem?_eq_some_iff.1 hl).1 (fun e => by have := (hrow _ e.symm).1; omega)).trans hl,
      (hg'.block _ (Array.getElem?_eq_some_iff.1 hd).1 (fun e => by have := (hrow _ e.symm).1; omega)).trans hd⟩) ?_ ⟨hi1, hl1, hd1⟩).mono ?_
  · rintro k x W hx hR ⟨hi, hl, hd⟩
    have hy := run_yield (P := P) (args := x) hl (by rw [hre]; exact hps k x W hR)
    have hy' := hy
    rw [hre] at hy'
    refine ⟨_, _, _, _, hy', roundIn_of_wpIn hfn (hassign _ k x W _ hx hR hi fun a' Wa hkf hkp hia hax => ?_)⟩
    have hla := hkf.same _ _ (by omega) hl rfl
    have hda := hkf.same _ _ (Nat.le_refl _) hd rfl
    have hlt := (Array.getElem?_eq_some_iff.1 hla).1
    refine ⟨_, run_beginRound hla hr1, ?_⟩
    have hlb : (Wa.putObj (w.heap.size + 1) (.loop { r with state := .busy })).heap[w.heap.size + 1]? = some (.loop { r with state := .busy }) := World.putObj_heap_same hlt
    have hdb : (Wa.putObj (w.heap.size + 1) (.loop { r with state := .busy })).heap[w.heap.size]? = some (.deferred (some [])) := (World.putObj_heap_other (by omega)).trans hda
    have hkb := hKb Wa _ (.loop { r with state := .busy }) hla rfl rfl
    refine wpIn_mono (hbody _ k x a' _ hx (hI.putObj _ hia (by omega) hla rfl) ((hAx k x a').putObj (s := ()) _ hax (by omega) hla rfl)) ?_
    rintro e a3 W3 hp
    cases e with
    | normal =>
      obtain ⟨hk3, hkp3, hi3⟩ := hp
      have hl3 := hk3.same _ _ (by omega) hlb rfl
      have hd3 := hk3.same _ _ (Nat.le_refl _) hdb rfl
      have hend := run_endRound (P := P) none hl3
      have hr' : ({ { r with state := .busy } with state := if (none : Option Code).isNone then .ready else .done, pending := none } : Loop) = r := by
        rw [hre]; simp
      rw [hr'] at hend
      refine ⟨_, _, hend, rfl, ⟨hI.putObj _ hi3 (by omega) hl3 rfl, World.putObj_heap_same (Array.getElem?_eq_some_iff.1 hl3).1, (World.putObj_heap_other (by omega)).trans hd3⟩, ?_⟩
      exact hKt hkp (hKt hkb (hKt hkp3 (hKb _ _ _ hl3 rfl rfl)))
    | ret => exact hp.elim
    | exit id => exact hp.elim
    | goto t => exact hp.elim
    | panic c => exact hp.elim
    | outgrown => exact hp.elim
  · rintro e W2 ⟨⟨v, rfl⟩, hi, hl, hd⟩
    have hend := run_endLoop (P := P) hl (by rw [hr1]; simp)
    rw [hr2] at hend
    exact ⟨none, _, hend, hdone _ _ (Nat.le_refl _) (hI.putObj _ hi (by omega) hl rfl) ((World.putObj_heap_other (by omega)).trans hd)⟩
theorem wpIn_rangeFunc_relA {α : Type} {g : Operand} {ps : Array Tmp} {assign body : Code} {Q : Exit → Act → World → Prop} {a : Act} {w : World}
    (hro : F.round = none) (h1 : 1 ≤ n) {gf : Nat} {lb : Array Value} (hg : a.eval g = .func (.func gf) #[] lb) (hFg : F.fn gf) (eg : ∀ args w, (callFunc gf args).run P w = .ok (.enter gf args) w)
    {N : Nat} {encs : α → Array Value} {R : Nat → α → World → Prop} {Kp : Nat → World → World → Prop} {w0 : World} (hseq : SeqRel F (n - 1) P gf lb N (fun k x W => ∃ y, R k y W ∧ x = encs y) Kp w0)
    (hKt : ∀ {A B C : World}, Kp (w.heap.size + 1) A B → Kp (w.heap.size + 1) B C → Kp (w.heap.size + 1) A C) (hKb : ∀ (W : World) (o o' : Obj), W.heap[w.heap.size + 1]? = some o → o.isCells = false → o.isWalk = false → Kp (w.heap.size + 1) W (W.putObj (w.heap.size + 1) o')) (hKr : ∀ W, Kp (w.heap.size + 1) W W) (hb0 : Below w0.heap.size w0 w) (hps : ∀ y, (encs y).size = ps.size)
    (I : Nat → World → Prop) (hI : OwnFrom w.heap.size I) (h0 : I 0 w) (hR : ∀ k y, OwnFrom w.heap.size (fun (_ : Unit) W => R k y W)) (a₁ : α → Act)
    (hassign : ∀ (l k : Nat) (y : α) (W : World) (K : Act → World → Prop), R k y W → K (a₁ y) W →
      assign.wpIn (F.inRound l) (n - 1 - 1) P (Exit.then K (fun _ _ _ => False)) { tmps := (ps.zip (encs y)).foldl (fun t (p, v) => t.setIfInBounds p v) a.tmps, defers := [] } W)
    (hbody : ∀ (l k : Nat) (y : α) (W : World), k < N → I k W → R k y W → body.wpIn (F.inRound l) (n - 1 - 1) P (goesOn w.heap.size (Kp (w.heap.size + 1)) (I (k + 1)) W) (a₁ y) W)
    (hdone : ∀ (D : Nat) (W : World), w.heap.size ≤ D → I N W → W.heap[D]? = some (.deferred (some [])) → Q .normal { a with defers := { target := .collected D, args := #[] } :: a.defers } W) :
    (Code.rangeFunc g ps assign body).wpIn F n P Q a w :=
  wpIn_rangeFunc_rel hro h1 hg hFg eg hseq (fun h k => hKt h k) hKb hb0 (fun k x W ⟨y, _, e⟩ => by rw [e]; exact hps y) I hI h0 (fun k x a' W => ∃ y, a' = a₁ y ∧ R k y W) (fun k x a' s A B row ⟨y, e, h⟩ hg' hr => ⟨y, e, hR k y s A B row h hg' hr⟩)
    (fun l k x W K _ hr hi hK => by
      obtain ⟨y, hy, rfl⟩ := hr
      exact hassign l k y W K hy (hK _ _ (KeepsFrom.refl _ _) (hKr W) hi ⟨y, rfl, hy⟩))
    (fun l k x a' W hx hi e => by obtain ⟨y, rfl, hr⟩ := e; exact hbody l k y W hx hi hr) hdone
end Go.Proofs.YtechcdkakgpnkaaGreat
namespace Go.Proofs.YtechcdkakgpnkaaGreat
open Go.RowKit Go.Shelf
attribute [local go_sem] Oper.semAt_some
abbrev SX (m n : Nat) (w : World) := { x : Value × List UInt8 // BSl 0 n w x.1 x.2 ∧ x.2.length ≤ m }
abbrev sxEnc {o n : Nat} {w : World} (x : SX o n w) : Array Value := #[x.1.1]
def SRow {o n : Nat} {w : World} (W : World) (b off : Nat) (l : List (SX o n w)) : Prop := ∀ k x, l[k]? = some x → W.cell? ⟨b, off + k, none⟩ = some x.1.1
theorem SRow.below {o n : Nat} {w : World} {W W' : World} {m b off : Nat} {l : List (SX o n w)} (h : SRow W b off l) (hb : Below m W W') (hlt : b < m) : SRow W' b off l := fun k x hx => (hb.cell (p := ⟨b, _, none⟩) hlt).trans (h k x hx)
def SSl {o n : Nat} {w : World} (m : Nat) (W : World) (sv : Value) (zs : List (SX o n w)) : Prop :=
  ∃ a cap, sv = .slice a zs.length cap ∧ (zs = [] ∨ ∃ b off, a = some ⟨b, off, none⟩ ∧ b < m ∧ SRow W b off zs)
theorem SSl.below {o n : Nat} {w : World} {m k : Nat} {W W' : World} {sv : Value} {zs : List (SX o n w)} (h : SSl m W sv zs) (hb : Below k W W') (hm : m ≤ k) : SSl m W' sv zs := by
  obtain ⟨a, cap, e, h0 | ⟨b, off, ha, hl, ho⟩⟩ := h
  · exact ⟨a, cap, e, .inl h0⟩
  · exact ⟨a, cap, e, .inr ⟨b, off, ha, hl, ho.below hb (by omega)⟩⟩
def flat {o n : Nat} {w : World} (l : List (SX o n w)) : List UInt8 := (l.map fun x => x.1.2).flatten
theorem flat_snoc {o n : Nat} {w : World} (l : List (SX o n w)) (x : SX o n w) : flat (l ++ [x]) = flat l ++ x.1.2 := by simp [flat]
set_option maxRecDepth 100000 in
set_option maxHeartbeats 4000000 in
theorem valuesS1_in (F : Fence) (n : Nat) (h7 : F.fn 165) (hro : F.round = none) (hn : 1 ≤ n) (l Bs n₀ b off cap : Nat) {m₁ n₁ : Nat} {w₁ : World} (zs : List (SX m₁ n₁ w₁)) (hreach : zs.length ≤ 140737488351232) (hb : b < n₀) (J Jx : List (SX m₁ n₁ w₁) → World → Prop)
    (W : World)
    (hY : ∀ pre x W, J pre W → zs[pre.length]? = some x → YieldAt F (n - 1) Tryz.prog l (sxEnc x) W fun e W' =>
      (e = .returned (.bool true) ∧ J (pre ++ [x]) W' ∧ Below n₀ W W') ∨ (e = .returned (.bool false) ∧ Jx (pre ++ [x]) W'))
    (hBs : W.cell? ⟨Bs, 0, none⟩ = some (.slice (some ⟨b, off, none⟩) zs.length cap)) (hc : SRow W b off zs) (h0 : J [] W) :
    CallsIn F n Tryz.prog 165 #[.func (.yield l) #[] #[], .pointer (some ⟨Bs, 0, none⟩)] W fun e W' => (∃ v, e = .returned v) ∧
      ((∃ ys, ys = zs ∧ J ys W') ∨ (∃ pre, True ∧ Jx pre W')) := by
  refine callsIn_of_wp Tryz.func165 rfl h7 ?_ hro
  simp only [Tryz.ntmps165, List.size_toArray, List.length_cons, List.length_nil, Nat.reduceAdd, Nat.reduceSub, Array.replicate_succ, Array.replicate_zero, List.push_toArray, List.append_toArray, List.nil_append, List.cons_append]
  gi_wp2
  gi_loopw [7] (fun i wr => ∃ k : Nat, k ≤ zs.length ∧ i = .int .i64 k ∧ J (zs.take k) wr ∧ Below n₀ W wr) (fun i _ => zs.length - (intOf i).toNat)
  case atStart => exact ⟨0, Nat.zero_le _, rfl, h0, Below.refl _ _⟩
  case round =>
    obtain ⟨k, hk, rfl, hJs, hnx⟩ := hrel
    by_cases hlt : k < zs.length
    · obtain ⟨x, hx⟩ : ∃ x, zs[k]? = some x := ⟨_, List.getElem?_eq_getElem hlt⟩
      have c0 := (hc.below hnx hb) k x hx
      obtain ⟨⟨xa, xc, hxe, _⟩, _⟩ := x.2
      rw [hxe] at c0
      have hk0 : (k : Int) < (zs.length : Int) := by omega
      obtain ⟨fn, tmps, assign, body, hy, hR⟩ := hY (zs.take k) x wr hJs (by rw [List.length_take, Nat.min_eq_left (Nat.le_of_lt hlt)]; exact hx)
      have ht : zs.take (k + 1) = zs.take k ++ [x] := by rw [List.take_add_one, hx]; rfl
      rw [← ht] at hR
      have hE : sxEnc x = #[.slice xa x.1.2.length xc] := by show #[x.1.1] = _; rw [hxe]
      rw [hE] at hy
      clear ht hE hxe
      have HX := Lib.hid hx
      clear hx
      generalize hL : zs.length = len at *
      have HL := Lib.hid hL
      clear hL
      gi_wp2
      refine hR.mono ?_
      rintro e W3 (⟨rfl, hJ3, hk3⟩ | ⟨rfl, hJx3⟩)
      · gi_wp2
        go_roundw
        case rel => exact ⟨k + 1, by omega, by simp, hJ3, hnx.trans hk3⟩
        case measure => simp [intOf]; omega
      · gi_wp2
        refine bodyPost_ret (results_none rfl _ _ _) rfl ?_
        exact ⟨⟨_, rfl⟩, .inr ⟨_, trivial, hJx3⟩⟩
    · obtain rfl : k = zs.length := by omega
      gi_wp2
      go_end0
      rw [List.take_length] at hJs
      exact ⟨⟨_, rfl⟩, .inl ⟨_, rfl, hJs⟩⟩
set_option maxRecDepth 100000 in
set_option maxHeartbeats 1000000 in
theorem valuesS1_nil_in {m₁ n₁ : Nat} {w₁ : World} (F : Fence) (n : Nat) (h7 : F.fn 165) (hro : F.round = none) (l Bs : Nat) (a : Option Addr) (cap : Nat) (J : List (SX m₁ n₁ w₁) → World → Prop) (W : World) (hBs : W.cell? ⟨Bs, 0, none⟩ = some (.slice a 0 cap)) (h0 : J [] W) :
    CallsIn F n Tryz.prog 165 #[.func (.yield l) #[] #[], .pointer (some ⟨Bs, 0, none⟩)] W fun e W' => (∃ v, e = .returned v) ∧ J [] W' := by
  refine callsIn_of_wp Tryz.func165 rfl h7 ?_ hro
  simp only [Tryz.ntmps165, List.size_toArray, List.length_cons, List.length_nil, Nat.reduceAdd, Nat.reduceSub, Array.replicate_succ, Array.replicate_zero, List.push_toArray, List.append_toArray, List.nil_append, List.cons_append]
  gi_wp2
  gi_loopw [7] (fun i wr => i = .int .i64 0 ∧ J [] wr) (fun _ _ => 0)
  case atStart => exact ⟨rfl, h0⟩
  case round =>
    obtain ⟨rfl, hJs⟩ := hrel
    gi_wp2
    go_end0
    exact ⟨⟨_, rfl⟩, hJs⟩
set_option maxHeartbeats 1000000 in
theorem valuesS_in (F : Fence) (n : Nat) (h5 : F.fn 119) (hro : F.round = none) (a : Option Addr) (len cap : Nat) (w : World) :
    CallsIn F n Tryz.prog 119 #[.slice a len cap] w fun e w' => e = .returned (.func (.func 165) #[] #[.pointer (some ⟨w.heap.size, 0, none⟩)]) ∧ w' = w.alloc (.cells #[.slice a len cap] 179) := by
  refine callsIn_of_wp Tryz.func119 rfl h5 ?_ hro
  simp only [Tryz.ntmps119, List.size_toArray, List.length_cons, List.length_nil, Nat.reduceAdd, Nat.reduceSub, Array.replicate_succ, Array.replicate_zero, List.push_toArray, List.append_toArray, List.nil_append, List.cons_append]
  gi_wp2
  go_ret
  exact ⟨rfl, rfl⟩
theorem valuesS_rel (m : Nat) (hm : 1 ≤ m) (Bs n₀ : Nat) (sv : Value) {m₁ n₁ : Nat} {w₁ : World} (zs : List (SX m₁ n₁ w₁)) (hreach : zs.length ≤ 140737488351232) (w : World) (hn₀ : n₀ ≤ w.heap.size)
    (hk : Boxed w Bs 179 sv) (hI : SSl n₀ w sv zs) :
    SeqRel Fence.wide m Tryz.prog 165 #[.pointer (some ⟨Bs, 0, none⟩)] zs.length (fun k x _ => ∃ y, zs[k]? = some y ∧ x = sxEnc y) (fun _ => Below n₀) w := fun l J W hW _ _ _ hY h0 => by
  have hc' := (hW.cell (p := ⟨Bs, 0, none⟩) hk.lt).trans hk.cell
  obtain ⟨a, cap, rfl, rfl | ⟨b, off, rfl, hb, hcs⟩⟩ := hI.below hW hn₀
  · exact (valuesS1_nil_in (m₁ := m₁) (n₁ := n₁) (w₁ := w₁) Fence.wide m trivial rfl l Bs a cap (fun _ => J 0) W hc' h0).mono fun e W' ⟨he, hj⟩ => ⟨he, hj⟩
  · refine (valuesS1_in Fence.wide m trivial rfl hm l Bs n₀ b off cap zs hreach hb (fun pre X => pre = zs.take pre.length ∧ J pre.length X) (fun _ _ => False) W (fun pre x W1 hj hx => ?_) hc' hcs ⟨rfl, h0⟩).mono ?_
    · refine (hY pre.length (sxEnc x) W1 (List.getElem?_eq_some_iff.1 hx).1 ⟨x, hx, rfl⟩ hj.2).mono fun e W' h => .inl ⟨h.1, ⟨?_, by rw [List.length_append]; exact h.2.1⟩, h.2.2⟩
      rw [List.length_append, List.length_singleton, List.take_add_one, hx, ← hj.1]; rfl
    · rintro e W' ⟨he, ⟨ys, rfl, _, hj⟩ | ⟨_, _, h⟩⟩
      · exact ⟨he, hj⟩
      · exact h.elim
end Go.Proofs.YtechcdkakgpnkaaGreat
namespace Go.Proofs.YtechcdkakgpnkaaGreat
open Go.RowKit Go.Shelf
attribute [local go_sem] Oper.semAt_some
theorem flat_prefix {o n : Nat} {w : World} (zs : List (SX o n w)) (k : Nat) : (flat (zs.take k)).length ≤ (flat zs).length := by
  have h : flat zs = flat (zs.take k) ++ flat (zs.drop k) := by
    unfold flat
    rw [← List.flatten_append, ← List.map_append, List.take_append_drop]
  rw [h, List.length_append]
  omega
theorem flat_take {o n : Nat} {w : World} (zs : List (SX o n w)) {k : Nat} {x : SX o n w} (hx : zs[k]? = some x) : flat (zs.take (k + 1)) = flat (zs.take k) ++ x.1.2 := by
  rw [List.take_add_one, hx]
  exact flat_snoc _ _
def CatI {o n : Nat} {w₁ : World} (N : Nat) (w : World) (zs : List (SX o n w₁)) (k : Nat) (W : World) : Prop :=
  (∃ v, Boxed W N 35 v ∧ W.ownsRow N 5 1 v (flat (zs.take k)).length ((flat (zs.take k)).map bv) ∧ True) ∧ Below N w W
theorem catI_own {o n : Nat} {w₁ : World} {N : Nat} {w : World} {B : Nat} (zs : List (SX o n w₁)) (h : N ≤ w.heap.size) (hB : N ≤ B) : OwnFrom B (CatI (o := o) (n := n) (w₁ := w₁) N w zs) :=
  OwnFrom.and (Own.from (holdsRow_own N N 35 5 1 (fun k : Nat => (flat (zs.take k)).length) (fun k => (flat (zs.take k)).map bv) (fun _ _ => True)) _) (ownFrom_below h hB)
set_option maxRecDepth 100000 in
set_option maxHeartbeats 4000000 in
theorem cat_in (m : Nat) (hm : 3 ≤ m) {o : Nat} (sv : Value) (w : World) (zs : List (SX o w.heap.size w)) (hreach : zs.length ≤ 140737488351232) (ho : (flat zs).length ≤ 140737488355328) (hsv : SSl w.heap.size w sv zs) :
    CallsIn Fence.wide m Tryz.prog 70 #[sv] w (ByW (flat zs) w) := by
  have h1 : 1 ≤ m := by omega
  have hsv0 := hsv
  obtain ⟨a, cap, rfl, hcs⟩ := hsv
  clear hcs
  refine callsIn_of_wp_marks Tryz.func70 rfl trivial ?_ rfl
  simp only [Tryz.ntmps70, List.size_toArray, List.length_cons, List.length_nil, Nat.reduceAdd, Nat.reduceSub, Array.replicate_succ, Array.replicate_zero, List.push_toArray, List.append_toArray, List.nil_append, List.cons_append]
  obtain ⟨i0, hi, hz0, hz1, hz2⟩ := info_parts Tryz.infoByte
  gi_wp2_with (refine ⟨trivial, ?_⟩; gi_at_call 119; refine (valuesS_in Fence.wide (m - 1) trivial rfl _ _ _ _).mono ?_; rintro e w' ⟨rfl, rfl⟩)
  generalize hW5 : World.alloc _ _ = W5
  have k0 : Boxed W5 w.heap.size 35 (.slice none 0 0) := by rw [← hW5]; exact (Boxed.new _ _ _).alloc _
  have k2 : Boxed W5 (w.heap.size + 1) 179 (.slice a zs.length cap) := by rw [← hW5]; exact Blk.new' (vs := [_]) (by simp)
  have hB0 : Below w.heap.size w W5 := by rw [← hW5]; exact chainA (chain0 _ _) _
  have hz : W5.heap.size = w.heap.size + 2 := by rw [← hW5]; simp
  clear hW5
  refine wpIn_rangeFunc_relA rfl h1 (gf := 165) (lb := #[.pointer (some ⟨w.heap.size + 1, 0, none⟩)]) rfl trivial (enters_of Tryz.func165 (by kernel_rfl) rfl)
    (valuesS_rel (m - 1) (by omega) (w.heap.size + 1) w.heap.size _ zs hreach W5 (by omega) k2 (hsv0.below hB0 (Nat.le_refl _))) (fun h k => h.trans k) (fun X o o' h2 h3 h4 => belowK_b (w := w) (Nat.le_refl _) _ _ o o' (by omega) h2 h3 h4) (fun X => Below.refl _ X) (Below.refl _ _) (fun _ => rfl)
    (CatI w.heap.size w zs) (catI_own zs (Nat.le_refl _) (by omega))
    ⟨⟨_, k0, World.ownsRow_nil _ _ _ _, trivial⟩, hB0⟩ (fun _ _ _ _ _ _ h _ _ => h) ?_ ?_ ?_ ?_
  rotate_left
  · intro l k x W K _ hK
    gi_wp2
    exact hK
  · rintro r k x W hlt ⟨⟨v, kv, hown, _⟩, hB⟩ hx
    have ko := kv.cell
    have kf := kv.frozen
    have hNW : w.heap.size ≤ W.heap.size := hB.size
    have hxs := x.2.1.below hB (Nat.le_refl _)
    have hfs := flat_take zs hx
    have hle := flat_prefix zs (k + 1)
    rw [hfs, List.length_append] at hle
    have HF := Lib.hid hfs
    clear hfs hx
    obtain ⟨⟨sx, l⟩, _⟩ := x
    dsimp only at hxs hle HF
    generalize zs.take k = pre at *
    gi_wp2_with (gi_at_builtin; refine wpListIn_append_b _ rfl _ _ 35 rfl w.heap.size 5 i0 (.int .u8 0) Tryz.underlying35 hi hz0 hz1 hz2 rfl v (flat pre).length ((flat pre).map bv) rfl hown sx l rfl hxs (by omega) hNW ?_; intro v' w1 hown' hgrow; obtain ⟨a', c', rfl⟩ := ownsRow_slice hown'; have kv1 := kv.kept hgrow (kv.not_row (by decide) hown); have ko1 := kv1.cell; have kf1 := kv1.frozen)
    have kv3 := kv1.set (.slice a' ((flat pre).length + l.length) c')
    have hrow3 := hown'.kept (grownBy_setCell' w1 w.heap.size (.slice a' ((flat pre).length + l.length) c')) (.inr (kv1.not_row (by decide) hown').symm)
    have hsp : Spares 5 W w1 := (Spares.of_below (Below.refl _ W)).grown hgrow (fun r e => .inr (ownsRow_block hown r e))
    have hbw := ((Below.refl w.heap.size W).grown hgrow hNW (fun j hj => (World.ownsRow.lt hown j hj).1)).setCell (p := ⟨w.heap.size, 0, none⟩) (Nat.le_refl _) (.slice a' ((flat pre).length + l.length) c')
    refine ⟨(hsp.others.trans (KeepsOthers.setCell _ _ _)).from _, hbw, ⟨_, kv3, ?_, trivial⟩, hB.trans hbw⟩
    rw [HF.out, List.map_append, List.length_append]
    exact hrow3
  · rintro D W hD ⟨⟨v, kv, hown, _⟩, hB⟩ hK
    rw [List.take_length] at hown
    have ko := kv.cell
    have HZ := Lib.hid hz
    clear hz
    gi_wp2
    have hB' := hB.trans (belowK_b (w := w) (Nat.le_refl _) _ D _ (.deferred none) (by have := HZ.out; omega) hK rfl rfl)
    have hown3 := ownsRow_putObj hown (.deferred none) hK rfl
    refine ⟨by simp, .inl ⟨_, _, rfl, run_takeDeferred hK, ?_⟩⟩
    refine ⟨v, ?_, ?_⟩
    · simp [results, Tryz.f70, go_sem]
    · exact ⟨v, rfl, BSl.of_own hown3, hB'⟩
theorem cat_any {o : Nat} (sv : Value) (w : World) (zs : List (SX o w.heap.size w)) (hreach : zs.length ≤ 140737488351232) (ho : (flat zs).length ≤ 140737488355328) (hsv : SSl w.heap.size w sv zs) :
    Calls Tryz.prog 70 #[sv] w (ByW (flat zs) w) := callsIn_wide.1 (cat_in 3 (by omega) sv w zs hreach ho hsv)
end Go.Proofs.YtechcdkakgpnkaaGreat
namespace Go.Proofs.YtechcdkakgpnkaaGreat
open Go.RowKit Go.Shelf
theorem conv_bytes (w : World) (s : ByteArray) : ∃ c W', (convert 9 35 (.string s)).run Tryz.prog w = .ok (.slice (some ⟨w.heap.size, 0, none⟩) s.size c) W' ∧ s.size ≤ c ∧ Below w.heap.size w W' ∧ W'.heap.size = w.heap.size + 1 ∧ Octs W' w.heap.size 0 s.data.toList := by
  refine ⟨_, _, Lib.run_convert_string_bytes w 9 35 5 s Tryz.underlying9 Tryz.underlying35 Tryz.underlying5, grownCap_ge _ _ _ _, ?_, Lib.bytesWorld_size _ _ _, fun k x hx => ?_⟩
  · refine ⟨rfl, rfl, rfl, by rw [Lib.bytesWorld_size]; omega, fun k hk => Lib.bytesWorld_at_old _ _ _ k hk⟩
  · have hk : k < s.size := (List.getElem?_eq_some_iff.1 hx).1
    rw [Nat.zero_add, Lib.bytesWorld_cell w _ s k hk]
    simp only [List.getD, hx, Option.getD_some]
theorem conv_bsl {w W : World} {s : ByteArray} {c : Nat} (hc : s.size ≤ c) (hz : W.heap.size = w.heap.size + 1) (ho : Octs W w.heap.size 0 s.data.toList) : BSl w.heap.size W.heap.size W (.slice (some ⟨w.heap.size, 0, none⟩) s.size c) s.data.toList :=
  ⟨_, c, rfl, hc, .inr ⟨_, 0, rfl, Nat.le_refl _, by omega, ho⟩⟩
end Go.Proofs.YtechcdkakgpnkaaGreat
namespace Go.Proofs.YtechcdkakgpnkaaGreat
open Go.RowKit Go.Shelf
theorem fault_nil (w : World) :
    Calls Tryz.prog 71 #[.pointer none] w fun e W' => e = .returned (.int .i64 9) ∧ w = W' := by
  go_enter Tryz.func71, Tryz.ntmps71
  go_wp2
  go_ret
  exact ⟨rfl, rfl⟩
theorem fault_at {B : Nat} {m : Bool} {sv : Value} {x : Int} (w : World) (h : Blk w B 134 [.bool m, sv, .int .i64 x]) :
    Calls Tryz.prog 71 #[.pointer (some ⟨B, 0, none⟩)] w fun e W' => e = .returned (.int .i64 (if m then x else 9)) ∧ w = W' := by
  obtain ⟨c0, -, c2⟩ := h.c3
  cases m
  all_goals
    go_enter Tryz.func71, Tryz.ntmps71
    go_wp2
    go_ret
    exact ⟨rfl, rfl⟩
theorem fault_any {p : Option Addr} {s : St} (w : World) (h : ObjP 134 w p s) :
    Calls Tryz.prog 71 #[.pointer p] w fun e W' => e = .returned (.int .i64 s.2) ∧ w = W' := by
  rcases h with ⟨rfl, rfl⟩ | ⟨B, m, a, n, c, x, rfl, hb, ⟨rfl, rfl⟩ | ⟨rfl, rfl, _, _⟩⟩
  · exact fault_nil w
  · exact fault_at w hb
  · exact fault_at w hb
theorem outFail_any {p : Option Addr} {s : St} (x : Int) (w : World) (h : ObjP 134 w p s) :
    Calls Tryz.prog 66 #[.pointer p, .int .i64 x] w (DidS 134 p (errS s x) w) := by
  by_cases hf : s.2 = 0
  · have h' := h
    rcases h with ⟨rfl, rfl⟩ | ⟨B, m, a, n, c, x0, rfl, hb, ⟨rfl, rfl⟩ | ⟨rfl, hx, hok, hsl⟩⟩
    · simp at hf
    · simp at hf
    have e1 : errS s x = ([], x) := if_pos hf
    rw [e1]
    clear e1
    have HF := Lib.hid hf
    have HX := Lib.hid hx
    clear hf hx
    obtain ⟨-, c1, c2⟩ := hb.c3
    have f1 := hb.frozen 1
    have f2 := hb.frozen 2
    go_enter Tryz.func66, Tryz.ntmps66
    go_wp2_with (go_at_call 71; refine (fault_any _ h').mono ?_; rw [HF.out]; rintro e w' ⟨rfl, rfl⟩)
    go_end0
    refine ⟨rfl, .inr ⟨B, true, none, 0, 0, x, rfl, ?_, .inr ⟨rfl, rfl, ⟨fun _ => rfl, by simp⟩, BSl.nil _ _ _⟩⟩, ?_⟩
    · exact (hb.set 1 (.slice none 0 0)).set 2 (.int .i64 x)
    · exact (grownBy_setCell4 w B 1 _).trans (grownBy_setCell4 _ B 2 _)
  · rw [errS_bad hf]
    have hf1 : (s.2 == 0) = false := by simpa using hf
    go_enter Tryz.func66, Tryz.ntmps66
    go_wp2_with (go_at_call 71; refine (fault_any _ h).mono ?_; rintro e w' ⟨rfl, rfl⟩)
    go_end0
    exact ⟨rfl, h, World.grownBy.refl _ _⟩
theorem cat2_any (l1 l2 : List UInt8) (s1 s2 : Value) (w : World) (hl : l1.length + l2.length ≤ 140737488355328) (h1 : BSl 0 w.heap.size w s1 l1) (h2 : BSl 0 w.heap.size w s2 l2) :
    Calls Tryz.prog 70 #[.slice (some ⟨w.heap.size, 0, none⟩) 2 2] (w.alloc (.cells #[s1, s2] 35)) (ByW (l1 ++ l2) (w.alloc (.cells #[s1, s2] 35))) := by
  have hb := chain0 w (.cells #[s1, s2] 35)
  have hz : (w.alloc (.cells #[s1, s2] 35)).heap.size = w.heap.size + 1 := by simp
  have k : Blk (w.alloc (.cells #[s1, s2] 35)) w.heap.size 35 [s1, s2] := Blk.new w 35 [s1, s2]
  generalize w.alloc (.cells #[s1, s2] 35) = W at *
  let zs : List (SX 140737488355328 W.heap.size W) := [⟨(s1, l1), (h1.below hb (Nat.le_refl _)).mono (Nat.le_refl _) (by omega), by simp only; omega⟩, ⟨(s2, l2), (h2.below hb (Nat.le_refl _)).mono (Nat.le_refl _) (by omega), by simp only; omega⟩]
  have hfl : flat zs = l1 ++ l2 := by simp [flat, zs]
  have := cat_any (.slice (some ⟨w.heap.size, 0, none⟩) 2 2) W zs (by simp [zs]) (by rw [hfl, List.length_append]; exact hl)
    ⟨_, _, rfl, .inr ⟨w.heap.size, 0, rfl, by omega, fun i x hx => by
      rw [Nat.zero_add, k.cell i]
      match i, hx with
      | 0, hx => simp only [zs, List.getElem?_cons_zero, Option.some.injEq] at hx; rw [← hx]; rfl
      | 1, hx => simp only [zs, List.getElem?_cons_zero, List.getElem?_cons_succ, Option.some.injEq] at hx; rw [← hx]; rfl
      | i + 2, hx => simp [zs] at hx⟩⟩
  rw [hfl] at this
  exact this
theorem outPut_any {p : Option Addr} {s : St} (l : List UInt8) (sv : Value) (w : World) (h : ObjP 134 w p s) (hl : l.length ≤ 140737488345000) (hsv : BSl 0 w.heap.size w sv l) :
    Calls Tryz.prog 67 #[.pointer p, sv] w (DidS 134 p (addS s l) w) := by
  by_cases hf : s.2 = 0
  · have h' := h
    rcases h with ⟨rfl, rfl⟩ | ⟨B, m, a, n, c, x0, rfl, hb, ⟨rfl, rfl⟩ | ⟨rfl, hx, hok, hsl⟩⟩
    · simp at hf
    · simp at hf
    have hsv0 := hsv
    obtain ⟨a2, c2', rfl, _, _⟩ := hsv0
    have hsl0 := hsl
    obtain ⟨a', c', e', _, _⟩ := hsl0
    cases e'
    have h82 := hok.2
    have e1 : addS s l = if s.1.length + l.length ≤ 8192 then (s.1 ++ l, 0) else ([], 5) := if_pos hf
    rw [e1]
    clear e1
    have HF := Lib.hid hf
    have HX := Lib.hid hx
    clear hf hx
    obtain ⟨-, c1, -⟩ := hb.c3
    have f1 := hb.frozen 1
    generalize hn : s.1.length = n at *
    generalize hk : l.length = k at *
    have HN := Lib.hid hn
    have HK := Lib.hid hk
    clear hn hk
    have kp : ∀ {w1 : World}, Below (w.alloc (.cells #[Value.slice a n c, Value.slice a2 k c2'] 35)).heap.size (w.alloc (.cells #[Value.slice a n c, Value.slice a2 k c2'] 35)) w1 → Blk w1 B 134 [.bool true, .slice a n c, .int .i64 x0] := fun hb1 =>
      (hb.alloc _).below hb1 (Nat.lt_of_lt_of_le hb.lt (by simp))
    by_cases hfit : n + k ≤ 8192
    · rw [if_pos hfit]
      have hgt : ¬ ((8192 : Int) < (n : Int) + (k : Int)) := by omega
      go_enter Tryz.func67, Tryz.ntmps67
      go_wp2_with (first
        | (go_at_call 71; refine (fault_any _ h').mono ?_; rw [HF.out]; rintro e w' ⟨rfl, rfl⟩)
        | (go_at_call 70; (refine (cat2_any s.1 l (Value.slice a n c) (Value.slice a2 k c2') w (by have := HN.out; have := HK.out; omega) hsl hsv).mono ?_; rintro e w1 ⟨v, rfl, hv, hb1⟩; obtain ⟨va, vc, rfl, hvc⟩ := hv.shape; have c1' := (kp hb1).c3.2.1; have f1' := (kp hb1).frozen 1)))
      go_end0
      have K1 := kp hb1
      rw [List.length_append] at hv
      have G1 := grownBy_setCell4 w1 B 1 (.slice va (s.1.length + l.length) vc)
      refine ⟨rfl, .inr ⟨B, true, va, s.1.length + l.length, vc, x0, rfl, K1.set 1 _, .inr ⟨rfl, HF.out.symm.trans HX.out, ⟨fun k => absurd rfl k, ?_⟩, ?_⟩⟩, ((World.grownBy_alloc w _ (some B)).trans (grew hb1 _)).trans G1⟩
      · have := HN.out; have := HK.out
        simp only [List.length_append]; omega
      · exact (hv.to (Nat.le_refl _) G1 (fun r e => by cases e; exact noOct3 K1)).mono (Nat.zero_le _) G1.size
    · rw [if_neg hfit]
      have hgt : (8192 : Int) < (n : Int) + (k : Int) := by omega
      go_enter Tryz.func67, Tryz.ntmps67
      go_wp2_with (first
        | (go_at_call 71; refine (fault_any _ h').mono ?_; rw [HF.out]; rintro e w' ⟨rfl, rfl⟩)
        | (go_at_call 66; refine (outFail_any _ _ h').mono ?_; rintro e w' ⟨rfl, hO, hG⟩))
      go_end0
      exact ⟨rfl, (show errS s 5 = ([], 5) from if_pos HF.out) ▸ hO, hG⟩
  · rw [addS_bad hf]
    have hf1 : (s.2 == 0) = false := by simpa using hf
    have hf2 : (s.2 != 0) = true := by simpa using hf
    go_enter Tryz.func67, Tryz.ntmps67
    go_wp2_with (go_at_call 71; refine (fault_any _ h).mono ?_; rintro e w' ⟨rfl, rfl⟩)
    go_end0
    exact ⟨rfl, h, World.grownBy.refl _ _⟩
theorem clamp6 : clamp 6 = 6 := rfl
theorem clamp2 : clamp 2 = 2 := rfl
theorem two_nat {n : Nat} (h : n < 18446744073709551616) : two (n : Int) = n := by unfold two; omega
theorem outNum_any {p : Option Addr} {s : St} (n : Int) (w : World) (h : ObjP 134 w p s) :
    Calls Tryz.prog 24 #[.pointer p, .int .i64 n] w (DidS 134 p (numS s n) w) := by
  by_cases hn : 0 ≤ n ∧ n ≤ 1099511627776
  · have e1 : numS s n = addS s (octs (two n) 6) := if_pos hn
    rw [e1]
    clear e1
    obtain ⟨h0, h1⟩ := hn
    have g0 : ¬ n < 0 := by omega
    have g1 : ¬ 1099511627776 < n := by omega
    go_enter Tryz.func24, Tryz.ntmps24
    go_wp2_with (first
      | (go_at_call 68; refine (num_any n 6 (by omega) (by omega) w).mono ?_; rintro e w1 ⟨v, rfl, hv, hb1⟩; rw [clamp6] at hv)
      | (go_at_call 67; refine (outPut_any _ _ w1 (h.below hb1) (by rw [octs_length]; omega) (hv.mono (Nat.zero_le _) (Nat.le_refl _))).mono ?_; rintro e w' ⟨rfl, hO, hG⟩))
    go_end0
    exact ⟨rfl, hO, (grew hb1 _).trans hG⟩
  · have e1 : numS s n = errS s 4 := if_neg hn
    rw [e1]
    clear e1
    by_cases h0 : n < 0
    all_goals
      have HN := Lib.hid hn
      clear hn
      try (have g1 : 1099511627776 < n := by have := HN.out; omega)
      go_enter Tryz.func24, Tryz.ntmps24
      go_wp2_with (first
        | (go_at_call 66; refine (outFail_any _ _ h).mono ?_; rintro e w' ⟨rfl, hO, hG⟩))
      go_end0
      exact ⟨rfl, hO, hG⟩
set_option maxRecDepth 100000 in
set_option maxHeartbeats 1000000 in
theorem outText_any {p : Option Addr} {s : St} (t : ByteArray) (w : World) (h : ObjP 134 w p s) :
    Calls Tryz.prog 30 #[.pointer p, .string t] w (DidS 134 p (txtS s t) w) := by
  by_cases hn : t.size ≤ 1024
  · have e1 : txtS s t = addS s (octs t.size 2 ++ t.data.toList) := if_pos hn
    rw [e1]
    clear e1
    have htl : t.data.toList.length = t.size := by rw [Array.length_toList]; rfl
    have g1 : ¬ (1024 : Int) < (t.size : Int) := by omega
    have HL := Lib.hid htl
    clear htl
    go_enter Tryz.func30, Tryz.ntmps30
    go_wp2_with (first
      | (go_at_call 68; refine (num_any t.size 2 (by omega) (by omega) w).mono ?_; rintro e w1 ⟨v, rfl, hv, hb1⟩; rw [clamp2, two_nat (by omega)] at hv; obtain ⟨va, vm, vc, rfl⟩ := hv.shape3; obtain ⟨c2, w2, hcv, hc2, hb2, hz2, ho2⟩ := conv_bytes w1 t; have HZ2 := Lib.hid hz2; clear hz2; have hB2 := RowKit.Below.trans hb1 (hb2.mono hb1.size))
      | (go_at_call 70; refine (cat2_any (octs t.size 2) t.data.toList (.slice va vm vc) (.slice (some ⟨w1.heap.size, 0, none⟩) t.size c2) w2 (by rw [octs_length, HL.out]; omega) ((hv.below hb2 (Nat.le_refl _)).mono (Nat.zero_le _) hb2.size) ((conv_bsl hc2 HZ2.out ho2).mono (Nat.zero_le _) (Nat.le_refl _))).mono ?_; rintro e w3 ⟨v3, rfl, hv3, hb3⟩; have hB3 := RowKit.Below.trans (hB2.alloc hB2.size _) (hb3.mono (Nat.le_trans hB2.size (by simp))))
      | (go_at_call 67; refine (outPut_any (octs t.size 2 ++ t.data.toList) v3 w3 (h.below hB3) (by rw [List.length_append, octs_length, HL.out]; omega) (hv3.mono (Nat.zero_le _) (Nat.le_refl _))).mono ?_; rintro e w' ⟨rfl, hO, hG⟩))
    go_end0
    exact ⟨rfl, hO, (grew hB3 _).trans hG⟩
  · have e1 : txtS s t = errS s 5 := if_neg hn
    rw [e1]
    clear e1
    have g1 : (1024 : Int) < (t.size : Int) := by omega
    go_enter Tryz.func30, Tryz.ntmps30
    go_wp2_with (first
      | (go_at_call 66; refine (outFail_any _ _ h).mono ?_; rintro e w' ⟨rfl, hO, hG⟩))
    go_end0
    exact ⟨rfl, hO, hG⟩
set_option maxRecDepth 100000 in
theorem outWide_any {p : Option Addr} {s : St} {a0 a1 a2 a3 : Nat} (ha : Ok4 a0 a1 a2 a3) (w : World) (h : ObjP 134 w p s) :
    Calls Tryz.prog 29 #[.pointer p, wv a0 a1 a2 a3] w (DidS 134 p (wideS s a0 a1 a2 a3) w) := by
  have hl : (wide8 a0 a1 a2 a3).length = 32 := by unfold wide8; simp only [List.length_append, octs_length]
  have HL := Lib.hid hl
  clear hl
  go_enter Tryz.func29, Tryz.ntmps29
  go_wp2_with (first
    | (go_at_call 69; refine (blobWide_any ha _).mono ?_; rintro e w1 ⟨v, rfl, hv, hb1⟩; have hB1 := chain (chain0 w _) hb1)
    | (go_at_call 67; refine (outPut_any _ _ w1 (h.below hB1) (by rw [HL.out]; omega) (hv.mono (Nat.zero_le _) (Nat.le_refl _))).mono ?_; rintro e w' ⟨rfl, hO, hG⟩))
  go_end0
  exact ⟨rfl, hO, (grew hB1 _).trans hG⟩
theorem outNew_any (w : World) :
    Calls Tryz.prog 23 #[] w fun e W' => e = .returned (.pointer (some ⟨w.heap.size, 0, none⟩)) ∧ W'.heap.size = w.heap.size + 1 ∧ ObjP 134 W' (some ⟨w.heap.size, 0, none⟩) ([], 0) ∧ Below w.heap.size w W' := by
  go_enter Tryz.func23, Tryz.ntmps23
  go_wp2
  go_ret
  exact ⟨rfl, by simp, .inr ⟨_, true, none, 0, 0, 0, rfl, Blk.new w _ [_, _, _], .inr ⟨rfl, rfl, ⟨fun _ => rfl, by simp⟩, BSl.nil _ _ _⟩⟩, chain0 _ _⟩
end Go.Proofs.YtechcdkakgpnkaaGreat
namespace Go.Proofs.YtechcdkakgpnkaaGreat
open Go.RowKit Go.Shelf
theorem grown_set {w W : World} {row : Option Nat} {B i : Nat} {v : Value} (h : w.grownBy W row) (hB : w.heap.size ≤ B) : w.grownBy (W.setCell ⟨B, i, none⟩ v) row := by
  have g := grownBy_setCell4 W B i v
  exact ⟨g.os.trans h.os, g.tape.trans h.tape, g.output.trans h.output, Nat.le_trans h.size g.size, fun k hk hr => (g.block k (Nat.lt_of_lt_of_le hk h.size) (by intro e; cases e; omega)).trans (h.block k hk hr)⟩
theorem objP_one {T : TypeId} {W : World} {p : Option Addr} {s : St} {B k : Nat} {v : Value} (h : ObjP T W p s) (hno : NoOct W B) (hne : some B ≠ p.map (·.block)) : ObjP T (W.setCell ⟨B, k, none⟩ v) p s :=
  h.to (grownBy_setCell4 W B k v) (fun r e => by cases e; exact ⟨hno, fun e => hne e.symm⟩)
theorem errS_ne (s : St) : (errS s 16).2 ≠ 0 := by
  unfold errS; split
  · simp
  · assumption
end Go.Proofs.YtechcdkakgpnkaaGreat
namespace Go.Proofs.YtechcdkakgpnkaaGreat
open Go.RowKit Go.Shelf
theorem noOct7 {W : World} {B : Nat} {T : TypeId} {i : Trf} (h : Blk W B T (ivc i)) : NoOct W B := noOct_blk h (by
  intro v hv y
  simp only [ivc, List.mem_cons, List.not_mem_nil, or_false] at hv
  rcases hv with rfl | rfl | rfl | rfl | rfl | rfl | rfl <;> simp [bv])
theorem noOct5 {W : World} {B : Nat} {T : TypeId} {i : Sid} (h : Blk W B T (svc i)) : NoOct W B := noOct_blk h (by
  intro v hv y
  simp only [svc, List.mem_cons, List.not_mem_nil, or_false] at hv
  rcases hv with rfl | rfl | rfl | rfl | rfl <;> simp [bv])
theorem stored7 {T : TypeId} {p : Option Addr} {s : St} {w Y : World} {R : Nat} {i : Trf} (hO : ObjP T Y p s) (hG : w.grownBy Y (p.map (·.block))) (kR : Blk Y R 30 (ivc i)) (hR : w.heap.size ≤ R) (hne : some R ≠ p.map (·.block)) (x : Trf) :
    Blk (((((((Y.setCell ⟨R, 0, none⟩ (.int .i64 x.us)).setCell ⟨R, 1, none⟩ (.string x.rt)).setCell ⟨R, 2, none⟩ (.int .i64 x.ro)).setCell ⟨R, 3, none⟩ (.int .i64 x.se)).setCell ⟨R, 4, none⟩ (.int .i64 x.re)).setCell ⟨R, 5, none⟩ (.int .i64 x.to)).setCell ⟨R, 6, none⟩ (.string x.id)) R 30 (ivc x) ∧ ObjP T (((((((Y.setCell ⟨R, 0, none⟩ (.int .i64 x.us)).setCell ⟨R, 1, none⟩ (.string x.rt)).setCell ⟨R, 2, none⟩ (.int .i64 x.ro)).setCell ⟨R, 3, none⟩ (.int .i64 x.se)).setCell ⟨R, 4, none⟩ (.int .i64 x.re)).setCell ⟨R, 5, none⟩ (.int .i64 x.to)).setCell ⟨R, 6, none⟩ (.string x.id)) p s ∧ w.grownBy (((((((Y.setCell ⟨R, 0, none⟩ (.int .i64 x.us)).setCell ⟨R, 1, none⟩ (.string x.rt)).setCell ⟨R, 2, none⟩ (.int .i64 x.ro)).setCell ⟨R, 3, none⟩ (.int .i64 x.se)).setCell ⟨R, 4, none⟩ (.int .i64 x.re)).setCell ⟨R, 5, none⟩ (.int .i64 x.to)).setCell ⟨R, 6, none⟩ (.string x.id)) (p.map (·.block)) := by
  have st : ∀ (vs : List Value) (W : World) (k : Nat) (v : Value), Blk W R 30 vs → (∀ u ∈ vs, ∀ y, u ≠ bv y) → (∀ y, v ≠ bv y) → ObjP T W p s → w.grownBy W (p.map (·.block)) →
      Blk (W.setCell ⟨R, k, none⟩ v) R 30 (vs.set k v) ∧ (∀ u ∈ vs.set k v, ∀ y, u ≠ bv y) ∧ ObjP T (W.setCell ⟨R, k, none⟩ v) p s ∧ w.grownBy (W.setCell ⟨R, k, none⟩ v) (p.map (·.block)) := by
    intro vs W k v kW hno hv h g
    refine ⟨kW.set k v, fun u hu => ?_, h.to (grownBy_setCell4 W R k v) (fun r e => by cases e; exact ⟨noOct_blk kW hno, fun e => hne e.symm⟩), grown_set g hR⟩
    rcases List.mem_or_eq_of_mem_set hu with h1 | rfl
    · exact hno u h1
    · exact hv
  have h0 : ∀ u ∈ ivc i, ∀ y, u ≠ bv y := by
    intro u hu y
    simp only [ivc, List.mem_cons, List.not_mem_nil, or_false] at hu
    rcases hu with rfl | rfl | rfl | rfl | rfl | rfl | rfl <;> simp [bv]
  obtain ⟨k0, n0, o0, g0⟩ := st _ _ 0 (.int .i64 x.us) kR h0 (by intro y; simp [bv]) hO hG
  obtain ⟨k1, n1, o1, g1⟩ := st _ _ 1 (.string x.rt) k0 n0 (by intro y; simp [bv]) o0 g0
  obtain ⟨k2, n2, o2, g2⟩ := st _ _ 2 (.int .i64 x.ro) k1 n1 (by intro y; simp [bv]) o1 g1
  obtain ⟨k3, n3, o3, g3⟩ := st _ _ 3 (.int .i64 x.se) k2 n2 (by intro y; simp [bv]) o2 g2
  obtain ⟨k4, n4, o4, g4⟩ := st _ _ 4 (.int .i64 x.re) k3 n3 (by intro y; simp [bv]) o3 g3
  obtain ⟨k5, n5, o5, g5⟩ := st _ _ 5 (.int .i64 x.to) k4 n4 (by intro y; simp [bv]) o4 g4
  obtain ⟨k6, n6, o6, g6⟩ := st _ _ 6 (.string x.id) k5 n5 (by intro y; simp [bv]) o5 g5
  exact ⟨k6, o6, g6⟩
theorem stored5 {T : TypeId} {p : Option Addr} {s : St} {w Y : World} {R : Nat} {i : Sid} (hO : ObjP T Y p s) (hG : w.grownBy Y (p.map (·.block))) (kR : Blk Y R 32 (svc i)) (hR : w.heap.size ≤ R) (hne : some R ≠ p.map (·.block)) (x : Sid) :
    Blk (((((Y.setCell ⟨R, 0, none⟩ (.int .u64 (x.a0 : Nat))).setCell ⟨R, 1, none⟩ (.int .u64 (x.a1 : Nat))).setCell ⟨R, 2, none⟩ (.int .u64 (x.a2 : Nat))).setCell ⟨R, 3, none⟩ (.int .u64 (x.a3 : Nat))).setCell ⟨R, 4, none⟩ (.int .i64 x.x)) R 32 (svc x) ∧ ObjP T (((((Y.setCell ⟨R, 0, none⟩ (.int .u64 (x.a0 : Nat))).setCell ⟨R, 1, none⟩ (.int .u64 (x.a1 : Nat))).setCell ⟨R, 2, none⟩ (.int .u64 (x.a2 : Nat))).setCell ⟨R, 3, none⟩ (.int .u64 (x.a3 : Nat))).setCell ⟨R, 4, none⟩ (.int .i64 x.x)) p s ∧ w.grownBy (((((Y.setCell ⟨R, 0, none⟩ (.int .u64 (x.a0 : Nat))).setCell ⟨R, 1, none⟩ (.int .u64 (x.a1 : Nat))).setCell ⟨R, 2, none⟩ (.int .u64 (x.a2 : Nat))).setCell ⟨R, 3, none⟩ (.int .u64 (x.a3 : Nat))).setCell ⟨R, 4, none⟩ (.int .i64 x.x)) (p.map (·.block)) := by
  have st : ∀ (vs : List Value) (W : World) (k : Nat) (v : Value), Blk W R 32 vs → (∀ u ∈ vs, ∀ y, u ≠ bv y) → (∀ y, v ≠ bv y) → ObjP T W p s → w.grownBy W (p.map (·.block)) →
      Blk (W.setCell ⟨R, k, none⟩ v) R 32 (vs.set k v) ∧ (∀ u ∈ vs.set k v, ∀ y, u ≠ bv y) ∧ ObjP T (W.setCell ⟨R, k, none⟩ v) p s ∧ w.grownBy (W.setCell ⟨R, k, none⟩ v) (p.map (·.block)) := by
    intro vs W k v kW hno hv h g
    refine ⟨kW.set k v, fun u hu => ?_, h.to (grownBy_setCell4 W R k v) (fun r e => by cases e; exact ⟨noOct_blk kW hno, fun e => hne e.symm⟩), grown_set g hR⟩
    rcases List.mem_or_eq_of_mem_set hu with h1 | rfl
    · exact hno u h1
    · exact hv
  have h0 : ∀ u ∈ svc i, ∀ y, u ≠ bv y := by
    intro u hu y
    simp only [svc, List.mem_cons, List.not_mem_nil, or_false] at hu
    rcases hu with rfl | rfl | rfl | rfl | rfl <;> simp [bv]
  obtain ⟨k0, n0, o0, g0⟩ := st _ _ 0 (.int .u64 (x.a0 : Nat)) kR h0 (by intro y; simp [bv]) hO hG
  obtain ⟨k1, n1, o1, g1⟩ := st _ _ 1 (.int .u64 (x.a1 : Nat)) k0 n0 (by intro y; simp [bv]) o0 g0
  obtain ⟨k2, n2, o2, g2⟩ := st _ _ 2 (.int .u64 (x.a2 : Nat)) k1 n1 (by intro y; simp [bv]) o1 g1
  obtain ⟨k3, n3, o3, g3⟩ := st _ _ 3 (.int .u64 (x.a3 : Nat)) k2 n2 (by intro y; simp [bv]) o2 g2
  obtain ⟨k4, n4, o4, g4⟩ := st _ _ 4 (.int .i64 x.x) k3 n3 (by intro y; simp [bv]) o3 g3
  exact ⟨k4, o4, g4⟩
theorem stored5z {T : TypeId} {p : Option Addr} {s : St} {w Y : World} {R : Nat} {i : Sid} (hO : ObjP T Y p s) (hG : w.grownBy Y (p.map (·.block))) (kR : Blk Y R 32 (svc i)) (hR : w.heap.size ≤ R) (hne : some R ≠ p.map (·.block)) :
    Blk (((((Y.setCell ⟨R, 0, none⟩ (.int .u64 0)).setCell ⟨R, 1, none⟩ (.int .u64 0)).setCell ⟨R, 2, none⟩ (.int .u64 0)).setCell ⟨R, 3, none⟩ (.int .u64 0)).setCell ⟨R, 4, none⟩ (.int .i64 0)) R 32 [.int .u64 0, .int .u64 0, .int .u64 0, .int .u64 0, .int .i64 0] ∧ ObjP T (((((Y.setCell ⟨R, 0, none⟩ (.int .u64 0)).setCell ⟨R, 1, none⟩ (.int .u64 0)).setCell ⟨R, 2, none⟩ (.int .u64 0)).setCell ⟨R, 3, none⟩ (.int .u64 0)).setCell ⟨R, 4, none⟩ (.int .i64 0)) p s ∧ w.grownBy (((((Y.setCell ⟨R, 0, none⟩ (.int .u64 0)).setCell ⟨R, 1, none⟩ (.int .u64 0)).setCell ⟨R, 2, none⟩ (.int .u64 0)).setCell ⟨R, 3, none⟩ (.int .u64 0)).setCell ⟨R, 4, none⟩ (.int .i64 0)) (p.map (·.block)) := stored5 hO hG kR hR hne ⟨0, 0, 0, 0, 0⟩
def GotI (T : TypeId) (p : Option Addr) (r : Trf × St) (w : World) (e : Ending) (W' : World) : Prop :=
  e = .returned (ivv r.1) ∧ ObjP T W' p r.2 ∧ w.grownBy W' (p.map (·.block))
def GotV (T : TypeId) (p : Option Addr) (r : Sid × St) (w : World) (e : Ending) (W' : World) : Prop :=
  e = .returned (svv r.1) ∧ ObjP T W' p r.2 ∧ w.grownBy W' (p.map (·.block))
theorem getI_yes {s : St} (h : (rd7 s).2.2 = 0) (g : goodI s) : getI s = (rawI s, (rd7 s).2) := if_pos ⟨h, g⟩
theorem getI_bad {s : St} (h : (rd7 s).2.2 ≠ 0) : getI s = (noI, (rd7 s).2) := by unfold getI; rw [if_neg (fun e => h e.1), errS_bad h]
theorem getI_no {s : St} (h : ¬ goodI s) : getI s = (noI, errS (rd7 s).2 16) := if_neg fun e => h e.2
theorem getV_yes {s : St} (h : (vd1 s).2.2 = 0) (g : maybeV (rawV s)) : getV s = (rawV s, (vd1 s).2) := if_pos ⟨h, g⟩
theorem getV_bad {s : St} (h : (vd1 s).2.2 ≠ 0) : getV s = (noV, (vd1 s).2) := by unfold getV; rw [if_neg (fun e => h e.1), errS_bad h]
theorem getV_no {s : St} (h : ¬ maybeV (rawV s)) : getV s = (noV, errS (vd1 s).2 16) := if_neg fun e => h e.2
set_option maxRecDepth 100000 in
set_option maxHeartbeats 4000000 in
theorem dealGet_any {p : Option Addr} {s : St} (w : World) (h : ObjP 143 w p s) :
    Calls Tryz.prog 76 #[.pointer p] w (GotI 143 p (getI s) w) := by
  have HT := fun (st : St) (W : World) (n : Int) (hn : n ≤ 1024) (hO : ObjP 143 W p st) => inTextP_any (p := p) n n (Or.inr ⟨by omega, rfl⟩) W hO
  have HN := fun (st : St) (W : World) (hO : ObjP 143 W p st) => inNumP_any (p := p) 1099511627776 1099511627776 (Or.inr ⟨by omega, rfl⟩) W hO
  have H0 : Hid (∀ W, ObjP 143 W p s → Calls Tryz.prog 79 #[.pointer p, .int .i64 16] W (TxtS 143 p (rd0 s) W)) := Lib.hid fun W hO => HT _ W 16 (by omega) hO
  have H1 : Hid (∀ W, ObjP 143 W p (rd0 s).2 → Calls Tryz.prog 73 #[.pointer p, .int .i64 1099511627776] W (NumS 143 p (rd1 s) W)) := Lib.hid fun W hO => HN _ W hO
  have H2 : Hid (∀ W, ObjP 143 W p (rd1 s).2 → Calls Tryz.prog 79 #[.pointer p, .int .i64 8] W (TxtS 143 p (rd2 s) W)) := Lib.hid fun W hO => HT _ W 8 (by omega) hO
  have H3 : Hid (∀ W, ObjP 143 W p (rd2 s).2 → Calls Tryz.prog 73 #[.pointer p, .int .i64 1099511627776] W (NumS 143 p (rd3 s) W)) := Lib.hid fun W hO => HN _ W hO
  have H4 : Hid (∀ W, ObjP 143 W p (rd3 s).2 → Calls Tryz.prog 73 #[.pointer p, .int .i64 1099511627776] W (NumS 143 p (rd4 s) W)) := Lib.hid fun W hO => HN _ W hO
  have H5 : Hid (∀ W, ObjP 143 W p (rd4 s).2 → Calls Tryz.prog 73 #[.pointer p, .int .i64 1099511627776] W (NumS 143 p (rd5 s) W)) := Lib.hid fun W hO => HN _ W hO
  have H6 : Hid (∀ W, ObjP 143 W p (rd5 s).2 → Calls Tryz.prog 73 #[.pointer p, .int .i64 1099511627776] W (NumS 143 p (rd6 s) W)) := Lib.hid fun W hO => HN _ W hO
  have H7 : Hid (∀ W, ObjP 143 W p (rd6 s).2 → Calls Tryz.prog 79 #[.pointer p, .int .i64 16] W (TxtS 143 p (rd7 s) W)) := Lib.hid fun W hO => HT _ W 16 (by omega) hO
  clear HT HN
  have HW1 : Hid ((str (rd0 s).1 = invB ∧ maybeI (rawI s)) ↔ goodI s) := Lib.hid Iff.rfl
  have HR : Hid (rawI s = ⟨(rd1 s).1, str (rd2 s).1, (rd3 s).1, (rd4 s).1, (rd5 s).1, (rd6 s).1, str (rd7 s).1⟩) := Lib.hid rfl
  have HNR := Lib.hid (ptr_lt h (Nat.le_refl w.heap.size))
  have HNL := Lib.hid (ptr_lt h (Nat.le_succ w.heap.size))
  have hz0 : (w.alloc (.cells (ivc noI).toArray 30)).heap.size = w.heap.size + 1 := by simp
  have kR := (Blk.new w 30 (ivc noI)).alloc (.cells (ivc noI).toArray 30)
  have kL : Blk ((w.alloc (.cells (ivc noI).toArray 30)).alloc (.cells (ivc noI).toArray 30)) (w.heap.size + 1) 30 (ivc noI) := Blk.new' hz0
  have hG := (World.grownBy_alloc w (.cells (ivc noI).toArray 30) (p.map (·.block))).trans (World.grownBy_alloc _ (.cells (ivc noI).toArray 30) (p.map (·.block)))
  have hO0 := (h.below (chain0 w (.cells (ivc noI).toArray 30))).below (chain0 _ (.cells (ivc noI).toArray 30))
  clear h hz0
  go_enter Tryz.func76, Tryz.ntmps76
  go_upto_region 10 with (first
    | (go_at_call 79; refine (H0.out _ hO0).mono ?_; rintro e W0 ⟨rfl, q, g⟩; replace hG := World.grownBy.trans hG g; replace kR := kR.kept g HNR.out; replace kL := kL.kept g HNL.out; (try clear z f); have hO1 := q; clear q g hO0)
    | (go_at_call 73; refine (H1.out _ hO1).mono ?_; rintro e W1 ⟨rfl, q, g⟩; replace hG := World.grownBy.trans hG g; replace kR := kR.kept g HNR.out; replace kL := kL.kept g HNL.out; (try clear z f); have z := (kL.cell 0).trans rfl; have f := kL.frozen 0; have hO2 := objP_one (B := w.heap.size + 1) (k := 0) (v := (.int .i64 ((rd1 s).1 : Nat))) q (noOct7 kL) HNL.out; replace kR := kR.other (B' := w.heap.size + 1) 0 (.int .i64 ((rd1 s).1 : Nat)) (by omega); replace kL : Blk _ (w.heap.size + 1) 30 (ivc ⟨(((rd1 s).1 : Nat) : Int), ⟨#[]⟩, (0 : Int), (0 : Int), (0 : Int), (0 : Int), ⟨#[]⟩⟩) := kL.set 0 (.int .i64 ((rd1 s).1 : Nat)); replace hG := grown_set (B := w.heap.size + 1) (i := 0) (v := (.int .i64 ((rd1 s).1 : Nat))) hG (Nat.le_succ _); clear q g hO1)
    | (go_at_call 79; refine (H2.out _ hO2).mono ?_; rintro e W2 ⟨rfl, q, g⟩; replace hG := World.grownBy.trans hG g; replace kR := kR.kept g HNR.out; replace kL := kL.kept g HNL.out; (try clear z f); have z := (kL.cell 1).trans rfl; have f := kL.frozen 1; have hO3 := objP_one (B := w.heap.size + 1) (k := 1) (v := (.string ⟨(rd2 s).1.toArray⟩)) q (noOct7 kL) HNL.out; replace kR := kR.other (B' := w.heap.size + 1) 1 (.string ⟨(rd2 s).1.toArray⟩) (by omega); replace kL : Blk _ (w.heap.size + 1) 30 (ivc ⟨(((rd1 s).1 : Nat) : Int), (str (rd2 s).1), (0 : Int), (0 : Int), (0 : Int), (0 : Int), ⟨#[]⟩⟩) := kL.set 1 (.string ⟨(rd2 s).1.toArray⟩); replace hG := grown_set (B := w.heap.size + 1) (i := 1) (v := (.string ⟨(rd2 s).1.toArray⟩)) hG (Nat.le_succ _); clear q g hO2)
    | (go_at_call 73; refine (H3.out _ hO3).mono ?_; rintro e W3 ⟨rfl, q, g⟩; replace hG := World.grownBy.trans hG g; replace kR := kR.kept g HNR.out; replace kL := kL.kept g HNL.out; (try clear z f); have z := (kL.cell 2).trans rfl; have f := kL.frozen 2; have hO4 := objP_one (B := w.heap.size + 1) (k := 2) (v := (.int .i64 ((rd3 s).1 : Nat))) q (noOct7 kL) HNL.out; replace kR := kR.other (B' := w.heap.size + 1) 2 (.int .i64 ((rd3 s).1 : Nat)) (by omega); replace kL : Blk _ (w.heap.size + 1) 30 (ivc ⟨(((rd1 s).1 : Nat) : Int), (str (rd2 s).1), (((rd3 s).1 : Nat) : Int), (0 : Int), (0 : Int), (0 : Int), ⟨#[]⟩⟩) := kL.set 2 (.int .i64 ((rd3 s).1 : Nat)); replace hG := grown_set (B := w.heap.size + 1) (i := 2) (v := (.int .i64 ((rd3 s).1 : Nat))) hG (Nat.le_succ _); clear q g hO3)
    | (go_at_call 73; refine (H4.out _ hO4).mono ?_; rintro e W4 ⟨rfl, q, g⟩; replace hG := World.grownBy.trans hG g; replace kR := kR.kept g HNR.out; replace kL := kL.kept g HNL.out; (try clear z f); have z := (kL.cell 3).trans rfl; have f := kL.frozen 3; have hO5 := objP_one (B := w.heap.size + 1) (k := 3) (v := (.int .i64 ((rd4 s).1 : Nat))) q (noOct7 kL) HNL.out; replace kR := kR.other (B' := w.heap.size + 1) 3 (.int .i64 ((rd4 s).1 : Nat)) (by omega); replace kL : Blk _ (w.heap.size + 1) 30 (ivc ⟨(((rd1 s).1 : Nat) : Int), (str (rd2 s).1), (((rd3 s).1 : Nat) : Int), (((rd4 s).1 : Nat) : Int), (0 : Int), (0 : Int), ⟨#[]⟩⟩) := kL.set 3 (.int .i64 ((rd4 s).1 : Nat)); replace hG := grown_set (B := w.heap.size + 1) (i := 3) (v := (.int .i64 ((rd4 s).1 : Nat))) hG (Nat.le_succ _); clear q g hO4)
    | (go_at_call 73; refine (H5.out _ hO5).mono ?_; rintro e W5 ⟨rfl, q, g⟩; replace hG := World.grownBy.trans hG g; replace kR := kR.kept g HNR.out; replace kL := kL.kept g HNL.out; (try clear z f); have z := (kL.cell 4).trans rfl; have f := kL.frozen 4; have hO6 := objP_one (B := w.heap.size + 1) (k := 4) (v := (.int .i64 ((rd5 s).1 : Nat))) q (noOct7 kL) HNL.out; replace kR := kR.other (B' := w.heap.size + 1) 4 (.int .i64 ((rd5 s).1 : Nat)) (by omega); replace kL : Blk _ (w.heap.size + 1) 30 (ivc ⟨(((rd1 s).1 : Nat) : Int), (str (rd2 s).1), (((rd3 s).1 : Nat) : Int), (((rd4 s).1 : Nat) : Int), (((rd5 s).1 : Nat) : Int), (0 : Int), ⟨#[]⟩⟩) := kL.set 4 (.int .i64 ((rd5 s).1 : Nat)); replace hG := grown_set (B := w.heap.size + 1) (i := 4) (v := (.int .i64 ((rd5 s).1 : Nat))) hG (Nat.le_succ _); clear q g hO5)
    | (go_at_call 73; refine (H6.out _ hO6).mono ?_; rintro e W6 ⟨rfl, q, g⟩; replace hG := World.grownBy.trans hG g; replace kR := kR.kept g HNR.out; replace kL := kL.kept g HNL.out; (try clear z f); have z := (kL.cell 5).trans rfl; have f := kL.frozen 5; have hO7 := objP_one (B := w.heap.size + 1) (k := 5) (v := (.int .i64 ((rd6 s).1 : Nat))) q (noOct7 kL) HNL.out; replace kR := kR.other (B' := w.heap.size + 1) 5 (.int .i64 ((rd6 s).1 : Nat)) (by omega); replace kL : Blk _ (w.heap.size + 1) 30 (ivc ⟨(((rd1 s).1 : Nat) : Int), (str (rd2 s).1), (((rd3 s).1 : Nat) : Int), (((rd4 s).1 : Nat) : Int), (((rd5 s).1 : Nat) : Int), (((rd6 s).1 : Nat) : Int), ⟨#[]⟩⟩) := kL.set 5 (.int .i64 ((rd6 s).1 : Nat)); replace hG := grown_set (B := w.heap.size + 1) (i := 5) (v := (.int .i64 ((rd6 s).1 : Nat))) hG (Nat.le_succ _); clear q g hO6)
    | (go_at_call 79; refine (H7.out _ hO7).mono ?_; rintro e W7 ⟨rfl, q, g⟩; replace hG := World.grownBy.trans hG g; replace kR := kR.kept g HNR.out; replace kL := kL.kept g HNL.out; (try clear z f); have z := (kL.cell 6).trans rfl; have f := kL.frozen 6; have hO8 := objP_one (B := w.heap.size + 1) (k := 6) (v := (.string ⟨(rd7 s).1.toArray⟩)) q (noOct7 kL) HNL.out; replace kR := kR.other (B' := w.heap.size + 1) 6 (.string ⟨(rd7 s).1.toArray⟩) (by omega); replace kL : Blk _ (w.heap.size + 1) 30 (ivc ⟨(((rd1 s).1 : Nat) : Int), (str (rd2 s).1), (((rd3 s).1 : Nat) : Int), (((rd4 s).1 : Nat) : Int), (((rd5 s).1 : Nat) : Int), (((rd6 s).1 : Nat) : Int), (str (rd7 s).1)⟩) := kL.set 6 (.string ⟨(rd7 s).1.toArray⟩); replace hG := grown_set (B := w.heap.size + 1) (i := 6) (v := (.string ⟨(rd7 s).1.toArray⟩)) hG (Nat.le_succ _); clear q g hO7))
  clear H0 H1 H2 H3 H4 H5 H6 H7 z f
  have hz : (w.heap.size + 1 = w.heap.size.succ) := rfl
  clear hz
  generalize hY : (World.setCell W7 _ _) = Y at *
  clear hY
  obtain ⟨c0, c1, c2, c3, c4, c5, c6⟩ := kL.c7
  have HC : Hid (∀ W, Calls Tryz.prog 59 #[ivv ⟨(rd1 s).1, str (rd2 s).1, (rd3 s).1, (rd4 s).1, (rd5 s).1, (rd6 s).1, str (rd7 s).1⟩] W fun e W' => e = .returned (.int .i64 (errI (rawI s))) ∧ Below W.heap.size W W') := Lib.hid (check_any (rawI s))
  have HGD : Hid (goodI s ↔ (rd0 s).1 = [105, 110, 118] ∧ maybeI (rawI s)) := Lib.hid (by
    have e : str (rd0 s).1 = invB ↔ (rd0 s).1 = [105, 110, 118] := ⟨fun e => by have := congrArg (fun b : ByteArray => b.data.toList) e; simpa [str, invB] using this, fun e => by rw [e]; rfl⟩
    rw [goodI, e])
  clear HR HW1
  have hes : ((errS (rd7 s).2 16).2 != 0) = true := by simpa using errS_ne (rd7 s).2
  have hes2 : ((errS (rd7 s).2 16).2 == 0) = false := by simpa using errS_ne (rd7 s).2
  by_cases hw : (rd0 s).1 = [105, 110, 118]
  · have hw2 : ((rd0 s).1 == [105, 110, 118]) = true := by simpa using hw
    by_cases hm : maybeI (rawI s)
    · have HE := Lib.hid (errI_zero hm)
      have HGG := Lib.hid (HGD.out.2 ⟨hw, hm⟩)
      clear hm hw HGD
      by_cases he : (rd7 s).2.2 = 0
      · have hq1 : ((rd7 s).2.2 == 0) = true := by simpa using he
        have hq2 : ((rd7 s).2.2 != 0) = false := by simpa using he
        have HX := Lib.hid (getI_yes he HGG.out)
        clear he HGG
        have HRW : Hid (rawI s = ⟨(rd1 s).1, str (rd2 s).1, (rd3 s).1, (rd4 s).1, (rd5 s).1, (rd6 s).1, str (rd7 s).1⟩) := Lib.hid rfl
        go_wp2_with (first
          | (go_at_call 59; refine (HC.out _).mono ?_; rw [HE.out]; rintro e V0 ⟨rfl, hb⟩; replace kR := kR.below hb kR.lt; replace kL := kL.below hb kL.lt; replace hG := World.grownBy.trans hG (grew hb _); replace hO8 := hO8.below hb; obtain ⟨r0, r1, r2, r3, r4, r5, r6⟩ := kR.c7; have fr := kR.frozen; obtain ⟨c0, c1, c2, c3, c4, c5, c6⟩ := kL.c7)
          | (go_at_call 39; refine (inErr_any _ hO8).mono ?_; rintro e V2 ⟨rfl, rfl⟩))
        obtain ⟨kZ, oZ, gZ⟩ := stored7 hO8 hG kR (Nat.le_refl _) HNR.out ⟨(rd1 s).1, str (rd2 s).1, (rd3 s).1, (rd4 s).1, (rd5 s).1, (rd6 s).1, str (rd7 s).1⟩
        dsimp only at kZ oZ gZ
        obtain ⟨q0, q1, q2, q3, q4, q5, q6⟩ := kZ.c7
        exact bodyPost_ret (v := ivv ⟨(rd1 s).1, str (rd2 s).1, (rd3 s).1, (rd4 s).1, (rd5 s).1, (rd6 s).1, str (rd7 s).1⟩) (by simp [results, Tryz.results76, go_sem, q0, q1, q2, q3, q4, q5, q6]) rfl ⟨by rw [HX.out]; rfl, by rw [HX.out]; exact oZ, gZ⟩
      · have hq1 : ((rd7 s).2.2 == 0) = false := by simpa using he
        have hq2 : ((rd7 s).2.2 != 0) = true := by simpa using he
        have HX := Lib.hid (getI_bad he)
        clear he HGG
        go_wp2_with (first
          | (go_at_call 59; refine (HC.out _).mono ?_; rw [HE.out]; rintro e V0 ⟨rfl, hb⟩; replace kR := kR.below hb kR.lt; replace kL := kL.below hb kL.lt; replace hG := World.grownBy.trans hG (grew hb _); replace hO8 := hO8.below hb; obtain ⟨r0, r1, r2, r3, r4, r5, r6⟩ := kR.c7; have fr := kR.frozen; obtain ⟨c0, c1, c2, c3, c4, c5, c6⟩ := kL.c7)
          | (go_at_call 39; refine (inErr_any _ hO8).mono ?_; rintro e V2 ⟨rfl, rfl⟩))
        obtain ⟨kZ, oZ, gZ⟩ := stored7 hO8 hG kR (Nat.le_refl _) HNR.out ⟨0, ⟨#[]⟩, 0, 0, 0, 0, ⟨#[]⟩⟩
        dsimp only at kZ oZ gZ
        obtain ⟨q0, q1, q2, q3, q4, q5, q6⟩ := kZ.c7
        exact bodyPost_ret (v := ivv ⟨0, ⟨#[]⟩, 0, 0, 0, 0, ⟨#[]⟩⟩) (by simp [results, Tryz.results76, go_sem, q0, q1, q2, q3, q4, q5, q6]) rfl ⟨by rw [HX.out]; rfl, by rw [HX.out]; exact oZ, gZ⟩
    · have HE := Lib.hid (errI_bad hm)
      have HX := Lib.hid (getI_no (s := s) (fun e => hm (HGD.out.1 e).2))
      clear hm hw HGD
      go_wp2_with (first
        | (go_at_call 59; refine (HC.out _).mono ?_; rw [HE.out]; rintro e V0 ⟨rfl, hb⟩; replace kR := kR.below hb kR.lt; replace kL := kL.below hb kL.lt; replace hG := World.grownBy.trans hG (grew hb _); replace hO8 := hO8.below hb; obtain ⟨r0, r1, r2, r3, r4, r5, r6⟩ := kR.c7; have fr := kR.frozen; obtain ⟨c0, c1, c2, c3, c4, c5, c6⟩ := kL.c7)
        | (go_at_call 38; refine (inSpoil_any _ hO8).mono ?_; rintro e V1 ⟨rfl, hO9, g⟩; replace kR := kR.kept g HNR.out; replace hG := World.grownBy.trans hG g; obtain ⟨r0, r1, r2, r3, r4, r5, r6⟩ := kR.c7; have fr := kR.frozen)
        | (go_at_call 39; refine (inErr_any _ hO9).mono ?_; rintro e V2 ⟨rfl, rfl⟩))
      obtain ⟨kZ, oZ, gZ⟩ := stored7 hO9 hG kR (Nat.le_refl _) HNR.out ⟨0, ⟨#[]⟩, 0, 0, 0, 0, ⟨#[]⟩⟩
      dsimp only at kZ oZ gZ
      obtain ⟨q0, q1, q2, q3, q4, q5, q6⟩ := kZ.c7
      exact bodyPost_ret (v := ivv ⟨0, ⟨#[]⟩, 0, 0, 0, 0, ⟨#[]⟩⟩) (by simp [results, Tryz.results76, go_sem, q0, q1, q2, q3, q4, q5, q6]) rfl ⟨by rw [HX.out]; rfl, by rw [HX.out]; exact oZ, gZ⟩
  · have hw2 : ((rd0 s).1 == [105, 110, 118]) = false := by simpa using hw
    have HX := Lib.hid (getI_no (s := s) (fun e => hw (HGD.out.1 e).1))
    clear hw HGD
    go_wp2_with (first
      | (go_at_call 38; refine (inSpoil_any _ hO8).mono ?_; rintro e V1 ⟨rfl, hO9, g⟩; replace kR := kR.kept g HNR.out; replace hG := World.grownBy.trans hG g; obtain ⟨r0, r1, r2, r3, r4, r5, r6⟩ := kR.c7; have fr := kR.frozen)
      | (go_at_call 39; refine (inErr_any _ hO9).mono ?_; rintro e V2 ⟨rfl, rfl⟩))
    obtain ⟨kZ, oZ, gZ⟩ := stored7 hO9 hG kR (Nat.le_refl _) HNR.out ⟨0, ⟨#[]⟩, 0, 0, 0, 0, ⟨#[]⟩⟩
    dsimp only at kZ oZ gZ
    obtain ⟨q0, q1, q2, q3, q4, q5, q6⟩ := kZ.c7
    exact bodyPost_ret (v := ivv ⟨0, ⟨#[]⟩, 0, 0, 0, 0, ⟨#[]⟩⟩) (by simp [results, Tryz.results76, go_sem, q0, q1, q2, q3, q4, q5, q6]) rfl ⟨by rw [HX.out]; rfl, by rw [HX.out]; exact oZ, gZ⟩
set_option maxRecDepth 100000 in
set_option maxHeartbeats 4000000 in
theorem dealGetVar_any {p : Option Addr} {s : St} (w : World) (h : ObjP 143 w p s) :
    Calls Tryz.prog 77 #[.pointer p] w (GotV 143 p (getV s) w) := by
  have H0 : Hid (∀ W, ObjP 143 W p s → Calls Tryz.prog 78 #[.pointer p] W (WidS 143 p (vd0 s) W)) := Lib.hid fun W hO => inWide_any W hO
  have H1 : Hid (∀ W, ObjP 143 W p (vd0 s).2 → Calls Tryz.prog 73 #[.pointer p, .int .i64 1099511627776] W (NumS 143 p (vd1 s) W)) := Lib.hid fun W hO => inNumP_any (p := p) 1099511627776 1099511627776 (Or.inr ⟨by omega, rfl⟩) W hO
  have HNR := Lib.hid (ptr_lt h (Nat.le_refl w.heap.size))
  have HNL := Lib.hid (ptr_lt h (Nat.le_succ w.heap.size))
  have hz0 : (w.alloc (.cells (svc noV).toArray 32)).heap.size = w.heap.size + 1 := by simp
  have kR := (Blk.new w 32 (svc noV)).alloc (.cells (svc noV).toArray 32)
  have kL : Blk ((w.alloc (.cells (svc noV).toArray 32)).alloc (.cells (svc noV).toArray 32)) (w.heap.size + 1) 32 (svc noV) := Blk.new' hz0
  have hG := (World.grownBy_alloc w (.cells (svc noV).toArray 32) (p.map (·.block))).trans (World.grownBy_alloc _ (.cells (svc noV).toArray 32) (p.map (·.block)))
  have hO0 := (h.below (chain0 w (.cells (svc noV).toArray 32))).below (chain0 _ (.cells (svc noV).toArray 32))
  clear h hz0
  generalize hu0 : wdS (vd0 s).1 0 = u0 at *
  generalize hu1 : wdS (vd0 s).1 1 = u1 at *
  generalize hu2 : wdS (vd0 s).1 2 = u2 at *
  generalize hu3 : wdS (vd0 s).1 3 = u3 at *
  have HU : Hid (wdS (vd0 s).1 0 = u0 ∧ wdS (vd0 s).1 1 = u1 ∧ wdS (vd0 s).1 2 = u2 ∧ wdS (vd0 s).1 3 = u3) := Lib.hid ⟨hu0, hu1, hu2, hu3⟩
  have HRW : Hid (rawV s = ⟨u0, u1, u2, u3, ((vd1 s).1 : Nat)⟩) := Lib.hid (by rw [rawV, hu0, hu1, hu2, hu3])
  have HQ0 : Hid (∀ W, ObjP 143 W p s → Calls Tryz.prog 78 #[.pointer p] W (fun e W' => e = .returned (wv u0 u1 u2 u3) ∧ ObjP 143 W' p (vd0 s).2 ∧ W.grownBy W' (p.map (·.block)))) := Lib.hid fun W hO => (H0.out W hO).mono (by rintro e W' ⟨rfl, a, b⟩; exact ⟨by rw [hu0, hu1, hu2, hu3], a, b⟩)
  clear hu0 hu1 hu2 hu3 H0
  go_enter Tryz.func77, Tryz.ntmps77
  go_upto_region 4 with (first
    | (go_at_call 78; refine (HQ0.out _ hO0).mono ?_; rintro e W0 ⟨rfl, q, g⟩; replace hG := World.grownBy.trans hG g; replace kR := kR.kept g HNR.out; replace kL := kL.kept g HNL.out; obtain ⟨z0, z1, z2, z3, z4⟩ := kL.c5; have f := kL.frozen; replace q := objP_one (B := w.heap.size + 1) (k := 0) (v := .int .u64 (u0 : Nat)) q (noOct5 kL) HNL.out; replace kR := kR.other (B' := w.heap.size + 1) 0 (.int .u64 (u0 : Nat)) (by omega); replace kL : Blk _ (w.heap.size + 1) 32 (svc ⟨u0, 0, 0, 0, 0⟩) := kL.set 0 (.int .u64 (u0 : Nat)); replace hG := grown_set (B := w.heap.size + 1) (i := 0) (v := .int .u64 (u0 : Nat)) hG (Nat.le_succ _); replace q := objP_one (B := w.heap.size + 1) (k := 1) (v := .int .u64 (u1 : Nat)) q (noOct5 kL) HNL.out; replace kR := kR.other (B' := w.heap.size + 1) 1 (.int .u64 (u1 : Nat)) (by omega); replace kL : Blk _ (w.heap.size + 1) 32 (svc ⟨u0, u1, 0, 0, 0⟩) := kL.set 1 (.int .u64 (u1 : Nat)); replace hG := grown_set (B := w.heap.size + 1) (i := 1) (v := .int .u64 (u1 : Nat)) hG (Nat.le_succ _); replace q := objP_one (B := w.heap.size + 1) (k := 2) (v := .int .u64 (u2 : Nat)) q (noOct5 kL) HNL.out; replace kR := kR.other (B' := w.heap.size + 1) 2 (.int .u64 (u2 : Nat)) (by omega); replace kL : Blk _ (w.heap.size + 1) 32 (svc ⟨u0, u1, u2, 0, 0⟩) := kL.set 2 (.int .u64 (u2 : Nat)); replace hG := grown_set (B := w.heap.size + 1) (i := 2) (v := .int .u64 (u2 : Nat)) hG (Nat.le_succ _); replace q := objP_one (B := w.heap.size + 1) (k := 3) (v := .int .u64 (u3 : Nat)) q (noOct5 kL) HNL.out; replace kR := kR.other (B' := w.heap.size + 1) 3 (.int .u64 (u3 : Nat)) (by omega); replace kL : Blk _ (w.heap.size + 1) 32 (svc ⟨u0, u1, u2, u3, 0⟩) := kL.set 3 (.int .u64 (u3 : Nat)); replace hG := grown_set (B := w.heap.size + 1) (i := 3) (v := .int .u64 (u3 : Nat)) hG (Nat.le_succ _); have hO1 := q; clear q g hO0)
    | (go_at_call 73; refine (H1.out _ hO1).mono ?_; rintro e W1 ⟨rfl, q, g⟩; replace hG := World.grownBy.trans hG g; replace kR := kR.kept g HNR.out; replace kL := kL.kept g HNL.out; clear z0 z1 z2 z3 z4 f; have z4 := (kL.cell 4).trans rfl; have f := kL.frozen 4; have hO2 := objP_one (B := w.heap.size + 1) (k := 4) (v := .int .i64 ((vd1 s).1 : Nat)) q (noOct5 kL) HNL.out; replace kR := kR.other (B' := w.heap.size + 1) 4 (.int .i64 ((vd1 s).1 : Nat)) (by omega); replace kL : Blk _ (w.heap.size + 1) 32 (svc ⟨u0, u1, u2, u3, ((vd1 s).1 : Nat)⟩) := kL.set 4 (.int .i64 ((vd1 s).1 : Nat)); replace hG := grown_set (B := w.heap.size + 1) (i := 4) (v := .int .i64 ((vd1 s).1 : Nat)) hG (Nat.le_succ _); clear q g hO1))
  clear H1 HQ0 z4 f
  generalize hY : (World.setCell W1 _ _) = Y at *
  clear hY
  obtain ⟨c0, c1, c2, c3, c4⟩ := kL.c5
  have HC : Hid (∀ W, Calls Tryz.prog 115 #[svv ⟨u0, u1, u2, u3, ((vd1 s).1 : Nat)⟩] W fun e W' => e = .returned (.int .i64 (errV (rawV s))) ∧ Below W.heap.size W W') := Lib.hid (by rw [HRW.out]; exact sound_any _)
  have hes : ((errS (vd1 s).2 16).2 != 0) = true := by simpa using errS_ne (vd1 s).2
  have hes2 : ((errS (vd1 s).2 16).2 == 0) = false := by simpa using errS_ne (vd1 s).2
  by_cases hm : maybeV (rawV s)
  · have HE := Lib.hid (errV_zero hm)
    by_cases he : (vd1 s).2.2 = 0
    · have hq1 : ((vd1 s).2.2 == 0) = true := by simpa using he
      have hq2 : ((vd1 s).2.2 != 0) = false := by simpa using he
      have HX := Lib.hid (getV_yes he hm)
      clear he hm
      go_wp2_with (first
        | (go_at_call 115; refine (HC.out _).mono ?_; rw [HE.out]; rintro e V0 ⟨rfl, hb⟩; replace kR := kR.below hb kR.lt; replace kL := kL.below hb kL.lt; replace hG := World.grownBy.trans hG (grew hb _); replace hO2 := hO2.below hb; clear c0 c1 c2 c3 c4; obtain ⟨r0, r1, r2, r3, r4⟩ := kR.c5; have fr := kR.frozen; obtain ⟨c0, c1, c2, c3, c4⟩ := kL.c5)
        | (go_at_call 39; refine (inErr_any _ hO2).mono ?_; rintro e V2 ⟨rfl, rfl⟩))
      obtain ⟨kZ, oZ, gZ⟩ := stored5 hO2 hG kR (Nat.le_refl _) HNR.out ⟨u0, u1, u2, u3, ((vd1 s).1 : Nat)⟩
      try dsimp only at kZ oZ gZ
      obtain ⟨q0, q1, q2, q3, q4⟩ := kZ.c5
      exact bodyPost_ret (v := svv ⟨u0, u1, u2, u3, ((vd1 s).1 : Nat)⟩) (by simp [results, Tryz.results77, go_sem, q0, q1, q2, q3, q4]) rfl ⟨by rw [HX.out, HRW.out], by rw [HX.out]; exact oZ, gZ⟩
    · have hq1 : ((vd1 s).2.2 == 0) = false := by simpa using he
      have hq2 : ((vd1 s).2.2 != 0) = true := by simpa using he
      have HX := Lib.hid (getV_bad he)
      clear he hm
      go_wp2_with (first
        | (go_at_call 115; refine (HC.out _).mono ?_; rw [HE.out]; rintro e V0 ⟨rfl, hb⟩; replace kR := kR.below hb kR.lt; replace kL := kL.below hb kL.lt; replace hG := World.grownBy.trans hG (grew hb _); replace hO2 := hO2.below hb; clear c0 c1 c2 c3 c4; obtain ⟨r0, r1, r2, r3, r4⟩ := kR.c5; have fr := kR.frozen; obtain ⟨c0, c1, c2, c3, c4⟩ := kL.c5)
        | (go_at_call 39; refine (inErr_any _ hO2).mono ?_; rintro e V2 ⟨rfl, rfl⟩))
      obtain ⟨kZ, oZ, gZ⟩ := stored5z hO2 hG kR (Nat.le_refl _) HNR.out
      try dsimp only at kZ oZ gZ
      obtain ⟨q0, q1, q2, q3, q4⟩ := kZ.c5
      exact bodyPost_ret (v := svv ⟨0, 0, 0, 0, 0⟩) (by simp [results, Tryz.results77, go_sem, q0, q1, q2, q3, q4]) rfl ⟨by rw [HX.out]; rfl, by rw [HX.out]; exact oZ, gZ⟩
  · have HE := Lib.hid (errV_bad hm)
    have HX := Lib.hid (getV_no hm)
    clear hm
    go_wp2_with (first
      | (go_at_call 115; refine (HC.out _).mono ?_; rw [HE.out]; rintro e V0 ⟨rfl, hb⟩; replace kR := kR.below hb kR.lt; replace kL := kL.below hb kL.lt; replace hG := World.grownBy.trans hG (grew hb _); replace hO2 := hO2.below hb; clear c0 c1 c2 c3 c4; obtain ⟨r0, r1, r2, r3, r4⟩ := kR.c5; have fr := kR.frozen; obtain ⟨c0, c1, c2, c3, c4⟩ := kL.c5)
      | (go_at_call 38; refine (inSpoil_any _ hO2).mono ?_; rintro e V1 ⟨rfl, hO9, g⟩; replace kR := kR.kept g HNR.out; replace hG := World.grownBy.trans hG g; clear r0 r1 r2 r3 r4 fr; obtain ⟨r0, r1, r2, r3, r4⟩ := kR.c5; have fr := kR.frozen)
      | (go_at_call 39; refine (inErr_any _ hO9).mono ?_; rintro e V2 ⟨rfl, rfl⟩))
    obtain ⟨kZ, oZ, gZ⟩ := stored5z hO9 hG kR (Nat.le_refl _) HNR.out
    try dsimp only at kZ oZ gZ
    obtain ⟨q0, q1, q2, q3, q4⟩ := kZ.c5
    exact bodyPost_ret (v := svv ⟨0, 0, 0, 0, 0⟩) (by simp [results, Tryz.results77, go_sem, q0, q1, q2, q3, q4]) rfl ⟨by rw [HX.out]; rfl, by rw [HX.out]; exact oZ, gZ⟩
end Go.Proofs.YtechcdkakgpnkaaGreat
