/-
  A range over a function whose body never leaves, where the iterator has a loop over an iterator of its own; A range over a function whose body never leaves: what is yielded is told by a relation of the place, the values and the world; slices.Values over slices of octets: each; blob.Cat: all, one behind the other; The reference's Cat; The reference's Num and Int
-/
import Derived.RangeFuncNested
import Derived.RangeFuncCalls
import Derived.RangeFuncIn
import Derived.WalkKit
import Derived.Test.YtbjpifcgnombaaaGreatProg
import Derived.Laws.OwnMore
import Derived.WalkSpells
import Derived.Outline
import Derived.Maps.AppendAt
import Derived.IntWalk
import Derived.Deep.QuietTactic
import Derived.Deep.RegionHeld3
import Derived.BigQuiet
import Derived.Test.YtbjpifcgnombaaaGreatN03
namespace Go.Proofs.YtbjpifcgnombaaaGreat
open Go.RowKit
variable {F : Fence} {n : Nat} {P : Program}
def SeqAll {α : Type} (F : Fence) (n : Nat) (P : Program) (g : Nat) (lb : Array Value) (encs : α → Array Value) (Kp : Nat → World → World → Prop) (ys : List α) (w : World) : Prop :=
  ∀ (l : Nat) (J : Nat → World → Prop) (W : World), Below w.heap.size w W → w.heap.size ≤ l → l < W.heap.size → OwnFrom W.heap.size J →
    (∀ k x W1, ys[k]? = some x → J k W1 → YieldAt F (n - 1) P l (encs x) W1 fun e W' => e = .returned (.bool true) ∧ J (k + 1) W' ∧ Kp l W1 W') →
    J 0 W → CallsIn F n P g (#[.func (.yield l) #[] #[]] ++ lb) W fun e W' => (∃ v, e = .returned v) ∧ J ys.length W'
def goesOn (B : Nat) (Kp : World → World → Prop) (I : World → Prop) (W : World) : Exit → Act → World → Prop
  | .normal, _, W' => KeepsFrom B W W' ∧ Kp W W' ∧ I W'
  | _, _, _ => False
theorem wpIn_rangeFunc_all {α : Type} {g : Operand} {ps : Array Tmp} {assign body : Code} {Q : Exit → Act → World → Prop} {a : Act} {w : World}
    (hro : F.round = none) (h1 : 1 ≤ n) {gf : Nat} {lb : Array Value} (hg : a.eval g = .func (.func gf) #[] lb) (hFg : F.fn gf) (eg : ∀ args w, (callFunc gf args).run P w = .ok (.enter gf args) w)
    {encs : α → Array Value} {Kp : Nat → World → World → Prop} {ys : List α} {w0 : World} (hseq : SeqAll F (n - 1) P gf lb encs Kp ys w0)
    (hKt : ∀ {A B C : World}, Kp (w.heap.size + 1) A B → Kp (w.heap.size + 1) B C → Kp (w.heap.size + 1) A C) (hKb : ∀ (W : World) (o o' : Obj), W.heap[w.heap.size + 1]? = some o → o.isCells = false → o.isWalk = false → Kp (w.heap.size + 1) W (W.putObj (w.heap.size + 1) o')) (hb0 : Below w0.heap.size w0 w) (hps : ∀ x, (encs x).size = ps.size)
    (I : Nat → World → Prop) (hI : OwnFrom w.heap.size I) (h0 : I 0 w) (Ax : α → Act → World → Prop) (hAx : ∀ x a', OwnFrom w.heap.size (fun (_ : Unit) W => Ax x a' W))
    (hassign : ∀ (l k : Nat) (x : α) (W : World) (K : Act → World → Prop), I k W → (∀ a' W', KeepsFrom w.heap.size W W' → Kp (w.heap.size + 1) W W' → I k W' → Ax x a' W' → K a' W') →
      assign.wpIn (F.inRound l) (n - 1 - 1) P (Exit.then K (fun _ _ _ => False)) { tmps := (ps.zip (encs x)).foldl (fun t (p, v) => t.setIfInBounds p v) a.tmps, defers := [] } W)
    (hbody : ∀ (l k : Nat) (x : α) (a' : Act) (W : World), ys[k]? = some x → I k W → Ax x a' W → body.wpIn (F.inRound l) (n - 1 - 1) P (goesOn w.heap.size (Kp (w.heap.size + 1)) (I (k + 1)) W) a' W)
    (hdone : ∀ (D : Nat) (W : World), w.heap.size ≤ D → I ys.length W → W.heap[D]? = some (.deferred (some [])) → Q .normal { a with defers := { target := .collected D, args := #[] } :: a.defers } W) :
    (Code.rangeFunc g ps assign body).wpIn F n P Q a w := by
  refine wpIn_rangeFunc fun fn hfn => ?_
  rw [hro]
  have hZ : w.heap.size < w.heap.size + 1 := Nat.lt_succ_self _
  have R0 : { r : Loop // r.state = .ready ∧ r.pending = none ∧ r = { state := .ready, pending := none, fn, tmps := a.tmps, params := ps, assign, body, defers := w.heap.size } } := ⟨_, rfl, rfl, rfl⟩
  obtain ⟨r, hr1, hr2, hre⟩ := R0
  have hrun := run_enterLoop_outer (P := P) (w := w) fn a.tmps ps assign body
  rw [← hre] at hrun
  generalize hW1 : (w.alloc (.deferred (some []))).alloc (.loop r) = W1 at hrun
  have hsz : W1.heap.size = w.heap.size + 2 := by rw [← hW1]; simp
  have gw : w.grownBy (w.alloc (.deferred (some []))) none := World.grownBy_alloc _ _ _
  have hl1 : W1.heap[w.heap.size + 1]? = some (.loop r) := by
    rw [← hW1]; simpa using World.alloc_heap_new (w.alloc (.deferred (some []))) (.loop r)
  have hd1 : W1.heap[w.heap.size]? = some (.deferred (some [])) := by
    rw [← hW1]; exact (Below.heap_alloc _ _ _ (by simp)).trans (World.alloc_heap_new _ _)
  have hi1 : I 0 W1 := by rw [← hW1]; exact hI.alloc _ (hI.alloc _ h0)
  have hB1 : Below w0.heap.size w0 W1 := by
    rw [← hW1]; exact hb0.trans (((Below.refl w.heap.size w).alloc (Nat.le_refl _) _).alloc (by simp) _ |>.mono hb0.size)
  refine ⟨_, _, W1, { target := .fn (.func gf) lb, args := #[.func (.yield (w.heap.size + 1)) #[] #[]] }, W1, gf, #[.func (.yield (w.heap.size + 1)) #[] #[]] ++ lb, W1, hrun, by simp only [resolve, hg]; simp [go_sem], fun f' hf' => ?_, by simp [invoke, go_sem, eg], fun _ => h1, ?_⟩
  · simp [Target.leads] at hf'; subst hf'; exact hFg
  refine (hseq (w.heap.size + 1) (fun k W => I k W ∧ W.heap[w.heap.size + 1]? = some (.loop r) ∧ W.heap[w.heap.size]? = some (.deferred (some []))) W1 hB1 (by have := hb0.size; omega) (by omega)
    (fun s A B row ⟨hi, hl, hd⟩ hg' hrow => ⟨hI s A B row hi hg' (fun q e => ⟨by have := (hrow q e).1; omega, (hrow q e).2⟩),
      (hg'.block _ (Array.getElem?_eq_some_iff.1 hl).1 (fun e => by have := (hrow _ e.symm).1; omega)).trans hl,
      (hg'.block _ (Array.getElem?_eq_some_iff.1 hd).1 (fun e => by have := (hrow _ e.symm).1; omega)).trans hd⟩) ?_ ⟨hi1, hl1, hd1⟩).mono ?_
  · rintro k x W hx ⟨hi, hl, hd⟩
    have hy := run_yield (P := P) (args := encs x) hl (by rw [hre]; exact hps x)
    have hy' := hy
    rw [hre] at hy'
    refine ⟨_, _, _, _, hy', roundIn_of_wpIn hfn (hassign _ k x W _ hi fun a' Wa hkf hkp hia hax => ?_)⟩
    have hla := hkf.same _ _ (by omega) hl rfl
    have hda := hkf.same _ _ (Nat.le_refl _) hd rfl
    have hlt := (Array.getElem?_eq_some_iff.1 hla).1
    refine ⟨_, run_beginRound hla hr1, ?_⟩
    have hlb : (Wa.putObj (w.heap.size + 1) (.loop { r with state := .busy })).heap[w.heap.size + 1]? = some (.loop { r with state := .busy }) := World.putObj_heap_same hlt
    have hdb : (Wa.putObj (w.heap.size + 1) (.loop { r with state := .busy })).heap[w.heap.size]? = some (.deferred (some [])) := (World.putObj_heap_other (by omega)).trans hda
    have hkb := hKb Wa _ (.loop { r with state := .busy }) hla rfl rfl
    refine wpIn_mono (hbody _ k x a' _ hx (hI.putObj _ hia (by omega) hla rfl) ((hAx x a').putObj (s := ()) _ hax (by omega) hla rfl)) ?_
    rintro e a3 W3 hp
    cases e with
    | normal =>
      obtain ⟨hk3, hkp3, hi3⟩ := hp
      have hl3 := hk3.same _ _ (by omega) hlb rfl
      have hd3 := hk3.same _ _ (Nat.le_refl _) hdb rfl
      have hend := run_endRound (P := P) none hl3
      have hr' : ({ { r with state := .busy } with state := if (none : Option Code).isNone then .ready else .done, pending := none } : Loop) = r := by
        rw [hre]; simp
      rw [hr'] at hend
      refine ⟨_, _, hend, rfl, ⟨hI.putObj _ hi3 (by omega) hl3 rfl, World.putObj_heap_same (Array.getElem?_eq_some_iff.1 hl3).1, (World.putObj_heap_other (by omega)).trans hd3⟩, ?_⟩
      exact hKt hkp (hKt hkb (hKt hkp3 (hKb _ _ _ hl3 rfl rfl)))
    | ret => exact hp.elim
    | exit id => exact hp.elim
    | goto t => exact hp.elim
    | panic c => exact hp.elim
    | outgrown => exact hp.elim
  · rintro e W2 ⟨⟨v, rfl⟩, hi, hl, hd⟩
    have hend := run_endLoop (P := P) hl (by rw [hr1]; simp)
    rw [hr2] at hend
    exact ⟨none, _, hend, hdone _ _ (Nat.le_refl _) (hI.putObj _ hi (by omega) hl rfl) ((World.putObj_heap_other (by omega)).trans hd)⟩
theorem wpIn_rangeFunc_allA {α : Type} {g : Operand} {ps : Array Tmp} {assign body : Code} {Q : Exit → Act → World → Prop} {a : Act} {w : World}
    (hro : F.round = none) (h1 : 1 ≤ n) {gf : Nat} {lb : Array Value} (hg : a.eval g = .func (.func gf) #[] lb) (hFg : F.fn gf) (eg : ∀ args w, (callFunc gf args).run P w = .ok (.enter gf args) w)
    {encs : α → Array Value} {Kp : Nat → World → World → Prop} {ys : List α} {w0 : World} (hseq : SeqAll F (n - 1) P gf lb encs Kp ys w0)
    (hKt : ∀ {A B C : World}, Kp (w.heap.size + 1) A B → Kp (w.heap.size + 1) B C → Kp (w.heap.size + 1) A C) (hKb : ∀ (W : World) (o o' : Obj), W.heap[w.heap.size + 1]? = some o → o.isCells = false → o.isWalk = false → Kp (w.heap.size + 1) W (W.putObj (w.heap.size + 1) o')) (hKr : ∀ W, Kp (w.heap.size + 1) W W) (hb0 : Below w0.heap.size w0 w) (hps : ∀ x, (encs x).size = ps.size)
    (I : Nat → World → Prop) (hI : OwnFrom w.heap.size I) (h0 : I 0 w) (a₁ : α → Act)
    (hassign : ∀ (l : Nat) (x : α) (W : World) (K : Act → World → Prop), K (a₁ x) W →
      assign.wpIn (F.inRound l) (n - 1 - 1) P (Exit.then K (fun _ _ _ => False)) { tmps := (ps.zip (encs x)).foldl (fun t (p, v) => t.setIfInBounds p v) a.tmps, defers := [] } W)
    (hbody : ∀ (l k : Nat) (x : α) (W : World), ys[k]? = some x → I k W → body.wpIn (F.inRound l) (n - 1 - 1) P (goesOn w.heap.size (Kp (w.heap.size + 1)) (I (k + 1)) W) (a₁ x) W)
    (hdone : ∀ (D : Nat) (W : World), w.heap.size ≤ D → I ys.length W → W.heap[D]? = some (.deferred (some [])) → Q .normal { a with defers := { target := .collected D, args := #[] } :: a.defers } W) :
    (Code.rangeFunc g ps assign body).wpIn F n P Q a w :=
  wpIn_rangeFunc_all hro h1 hg hFg eg hseq (fun h k => hKt h k) hKb hb0 hps I hI h0 (fun x a' _ => a' = a₁ x) (fun _ _ _ _ _ _ hs _ _ => hs)
    (fun l k x W K hi hK => hassign l x W K (hK _ _ (KeepsFrom.refl _ _) (hKr W) hi rfl)) (fun l k x a' W hx hi e => by subst e; exact hbody l k x W hx hi) hdone
def AllBut (B l : Nat) (W W' : World) : Prop := W.heap.size ≤ W'.heap.size ∧ ∀ k, k < W.heap.size → k ≠ B → k ≠ l → W'.heap[k]? = W.heap[k]?
theorem AllBut.refl (B l : Nat) (W : World) : AllBut B l W W := ⟨Nat.le_refl _, fun _ _ _ _ => rfl⟩
theorem AllBut.t {B l : Nat} {X Y Z : World} (h : AllBut B l X Y) (k : AllBut B l Y Z) : AllBut B l X Z :=
  ⟨Nat.le_trans h.1 k.1, fun j hj h1 h2 => (k.2 j (Nat.lt_of_lt_of_le hj h.1) h1 h2).trans (h.2 j hj h1 h2)⟩
theorem AllBut.b (B l : Nat) (W : World) (o' : Obj) : AllBut B l W (W.putObj l o') := ⟨by simp, fun j _ _ h2 => World.putObj_heap_other h2⟩
theorem AllBut.of_below {B l : Nat} {W W' : World} (h : Below W.heap.size W W') : AllBut B l W W' := ⟨h.size, fun j hj _ _ => h.block j hj⟩
theorem AllBut.of_grown {B l : Nat} {W W' : World} (h : W.grownBy W' (some B)) : AllBut B l W W' := ⟨h.size, fun j hj h1 _ => h.block j hj (fun e => h1 (Option.some.inj e))⟩
theorem grown_of_below {W W' : World} (h : Below W.heap.size W W') : W.grownBy W' none := ⟨h.os, h.tape, h.output, h.size, fun j hj _ => h.block j hj⟩
theorem roundIn_any {l' m m' : Nat} {P : Program} {l : Nat} {f : FuncId} {tmps : Array Value} {assign body : Code} {w : World} {R : Ending → World → Prop} (h : RoundIn Fence.wide m P l f tmps assign body w R) : RoundIn (Fence.wide.inRound l') m' P l f tmps assign body w R :=
  ⟨h.1, fun c cs _ => h.2 c cs (room_wide _)⟩
end Go.Proofs.YtbjpifcgnombaaaGreat
namespace Go.Proofs.YtbjpifcgnombaaaGreat
open Go.RowKit
variable {F : Fence} {n : Nat} {P : Program}
def SeqRel (F : Fence) (n : Nat) (P : Program) (g : Nat) (lb : Array Value) (N : Nat) (R : Nat → Array Value → World → Prop) (Kp : Nat → World → World → Prop) (w : World) : Prop :=
  ∀ (l : Nat) (J : Nat → World → Prop) (W : World), Below w.heap.size w W → w.heap.size ≤ l → l < W.heap.size → OwnFrom W.heap.size J →
    (∀ k x W1, k < N → R k x W1 → J k W1 → YieldAt F (n - 1) P l x W1 fun e W' => e = .returned (.bool true) ∧ J (k + 1) W' ∧ Kp l W1 W') →
    J 0 W → CallsIn F n P g (#[.func (.yield l) #[] #[]] ++ lb) W fun e W' => (∃ v, e = .returned v) ∧ J N W'
theorem wpIn_rangeFunc_rel {g : Operand} {ps : Array Tmp} {assign body : Code} {Q : Exit → Act → World → Prop} {a : Act} {w : World}
    (hro : F.round = none) (h1 : 1 ≤ n) {gf : Nat} {lb : Array Value} (hg : a.eval g = .func (.func gf) #[] lb) (hFg : F.fn gf) (eg : ∀ args w, (callFunc gf args).run P w = .ok (.enter gf args) w)
    {N : Nat} {R : Nat → Array Value → World → Prop} {Kp : Nat → World → World → Prop} {w0 : World} (hseq : SeqRel F (n - 1) P gf lb N R Kp w0)
    (hKt : ∀ {A B C : World}, Kp (w.heap.size + 1) A B → Kp (w.heap.size + 1) B C → Kp (w.heap.size + 1) A C) (hKb : ∀ (W : World) (o o' : Obj), W.heap[w.heap.size + 1]? = some o → o.isCells = false → o.isWalk = false → Kp (w.heap.size + 1) W (W.putObj (w.heap.size + 1) o')) (hb0 : Below w0.heap.size w0 w) (hps : ∀ k x W, R k x W → x.size = ps.size)
    (I : Nat → World → Prop) (hI : OwnFrom w.heap.size I) (h0 : I 0 w) (Ax : Nat → Array Value → Act → World → Prop) (hAx : ∀ k x a', OwnFrom w.heap.size (fun (_ : Unit) W => Ax k x a' W))
    (hassign : ∀ (l k : Nat) (x : Array Value) (W : World) (K : Act → World → Prop), k < N → R k x W → I k W → (∀ a' W', KeepsFrom w.heap.size W W' → Kp (w.heap.size + 1) W W' → I k W' → Ax k x a' W' → K a' W') →
      assign.wpIn (F.inRound l) (n - 1 - 1) P (Exit.then K (fun _ _ _ => False)) { tmps := (ps.zip x).foldl (fun t (p, v) => t.setIfInBounds p v) a.tmps, defers := [] } W)
    (hbody : ∀ (l k : Nat) (x : Array Value) (a' : Act) (W : World), k < N → I k W → Ax k x a' W → body.wpIn (F.inRound l) (n - 1 - 1) P (goesOn w.heap.size (Kp (w.heap.size + 1)) (I (k + 1)) W) a' W)
    (hdone : ∀ (D : Nat) (W : World), w.heap.size ≤ D → I N W → W.heap[D]? = some (.deferred (some [])) → Q .normal { a with defers := { target := .collected D, args := #[] } :: a.defers } W) :
    (Code.rangeFunc g ps assign body).wpIn F n P Q a w := by
  refine wpIn_rangeFunc fun fn hfn => ?_
  rw [hro]
  have hZ : w.heap.size < w.heap.size + 1 := Nat.lt_succ_self _
  have R0 : { r : Loop // r.state = .ready ∧ r.pending = none ∧ r = { state := .ready, pending := none, fn, tmps := a.tmps, params := ps, assign, body, defers := w.heap.size } } := ⟨_, rfl, rfl, rfl⟩
  obtain ⟨r, hr1, hr2, hre⟩ := R0
  have hrun := run_enterLoop_outer (P := P) (w := w) fn a.tmps ps assign body
  rw [← hre] at hrun
  generalize hW1 : (w.alloc (.deferred (some []))).alloc (.loop r) = W1 at hrun
  have hsz : W1.heap.size = w.heap.size + 2 := by rw [← hW1]; simp
  have gw : w.grownBy (w.alloc (.deferred (some []))) none := World.grownBy_alloc _ _ _
  have hl1 : W1.heap[w.heap.size + 1]? = some (.loop r) := by
    rw [← hW1]; simpa using World.alloc_heap_new (w.alloc (.deferred (some []))) (.loop r)
  have hd1 : W1.heap[w.heap.size]? = some (.deferred (some [])) := by
    rw [← hW1]; exact (Below.heap_alloc _ _ _ (by simp)).trans (World.alloc_heap_new _ _)
  have hi1 : I 0 W1 := by rw [← hW1]; exact hI.alloc _ (hI.alloc _ h0)
  have hB1 : Below w0.heap.size w0 W1 := by
    rw [← hW1]; exact hb0.trans (((Below.refl w.heap.size w).alloc (Nat.le_refl _) _).alloc (by simp) _ |>.mono hb0.size)
  refine ⟨_, _, W1, { target := .fn (.func gf) lb, args := #[.func (.yield (w.heap.size + 1)) #[] #[]] }, W1, gf, #[.func (.yield (w.heap.size + 1)) #[] #[]] ++ lb, W1, hrun, by simp only [resolve, hg]; simp [go_sem], fun f' hf' => ?_, by simp [invoke, go_sem, eg], fun _ => h1, ?_⟩
  · simp [Target.leads] at hf'; subst hf'; exact hFg
  refine (hseq (w.heap.size + 1) (fun k W => I k W ∧ W.heap[w.heap.size + 1]? = some (.loop r) ∧ W.heap[w.heap.size]? = some (.deferred (some []))) W1 hB1 (by have := hb0.size; omega) (by omega)
    (fun s A B row ⟨hi, hl, hd⟩ hg' hrow => ⟨hI s A B row hi hg' (fun q e => ⟨by have := (hrow q e).1; omega, (hrow q e).2⟩),
      (hg'.block _ (Array.getElem?_eq_some_iff.1 hl).1 (fun e => by have := (hrow _ e.symm).1; omega)).trans hl,
      (hg'.block _ (Array.getElem?_eq_some_iff.1 hd).1 (fun e => by have := (hrow _ e.symm).1; omega)).trans hd⟩) ?_ ⟨hi1, hl1, hd1⟩).mono ?_
  · rintro k x W hx hR ⟨hi, hl, hd⟩
    have hy := run_yield (P := P) (args := x) hl (by rw [hre]; exact hps k x W hR)
    have hy' := hy
    rw [hre] at hy'
    refine ⟨_, _, _, _, hy', roundIn_of_wpIn hfn (hassign _ k x W _ hx hR hi fun a' Wa hkf hkp hia hax => ?_)⟩
    have hla := hkf.same _ _ (by omega) hl rfl
    have hda := hkf.same _ _ (Nat.le_refl _) hd rfl
    have hlt := (Array.getElem?_eq_some_iff.1 hla).1
    refine ⟨_, run_beginRound hla hr1, ?_⟩
    have hlb : (Wa.putObj (w.heap.size + 1) (.loop { r with state := .busy })).heap[w.heap.size + 1]? = some (.loop { r with state := .busy }) := World.putObj_heap_same hlt
    have hdb : (Wa.putObj (w.heap.size + 1) (.loop { r with state := .busy })).heap[w.heap.size]? = some (.deferred (some [])) := (World.putObj_heap_other (by omega)).trans hda
    have hkb := hKb Wa _ (.loop { r with state := .busy }) hla rfl rfl
    refine wpIn_mono (hbody _ k x a' _ hx (hI.putObj _ hia (by omega) hla rfl) ((hAx k x a').putObj (s := ()) _ hax (by omega) hla rfl)) ?_
    rintro e a3 W3 hp
    cases e with
    | normal =>
      obtain ⟨hk3, hkp3, hi3⟩ := hp
      have hl3 := hk3.same _ _ (by omega) hlb rfl
      have hd3 := hk3.same _ _ (Nat.le_refl _) hdb rfl
      have hend := run_endRound (P := P) none hl3
      have hr' : ({ { r with state := .busy } with state := if (none : Option Code).isNone then .ready else .done, pending := none } : Loop) = r := by
        rw [hre]; simp
      rw [hr'] at hend
      refine ⟨_, _, hend, rfl, ⟨hI.putObj _ hi3 (by omega) hl3 rfl, World.putObj_heap_same (Array.getElem?_eq_some_iff.1 hl3).1, (World.putObj_heap_other (by omega)).trans hd3⟩, ?_⟩
      exact hKt hkp (hKt hkb (hKt hkp3 (hKb _ _ _ hl3 rfl rfl)))
    | ret => exact hp.elim
    | exit id => exact hp.elim
    | goto t => exact hp.elim
    | panic c => exact hp.elim
    | outgrown => exact hp.elim
  · rintro e W2 ⟨⟨v, rfl⟩, hi, hl, hd⟩
    have hend := run_endLoop (P := P) hl (by rw [hr1]; simp)
    rw [hr2] at hend
    exact ⟨none, _, hend, hdone _ _ (Nat.le_refl _) (hI.putObj _ hi (by omega) hl rfl) ((World.putObj_heap_other (by omega)).trans hd)⟩
theorem wpIn_rangeFunc_relA {α : Type} {g : Operand} {ps : Array Tmp} {assign body : Code} {Q : Exit → Act → World → Prop} {a : Act} {w : World}
    (hro : F.round = none) (h1 : 1 ≤ n) {gf : Nat} {lb : Array Value} (hg : a.eval g = .func (.func gf) #[] lb) (hFg : F.fn gf) (eg : ∀ args w, (callFunc gf args).run P w = .ok (.enter gf args) w)
    {N : Nat} {encs : α → Array Value} {R : Nat → α → World → Prop} {Kp : Nat → World → World → Prop} {w0 : World} (hseq : SeqRel F (n - 1) P gf lb N (fun k x W => ∃ y, R k y W ∧ x = encs y) Kp w0)
    (hKt : ∀ {A B C : World}, Kp (w.heap.size + 1) A B → Kp (w.heap.size + 1) B C → Kp (w.heap.size + 1) A C) (hKb : ∀ (W : World) (o o' : Obj), W.heap[w.heap.size + 1]? = some o → o.isCells = false → o.isWalk = false → Kp (w.heap.size + 1) W (W.putObj (w.heap.size + 1) o')) (hKr : ∀ W, Kp (w.heap.size + 1) W W) (hb0 : Below w0.heap.size w0 w) (hps : ∀ y, (encs y).size = ps.size)
    (I : Nat → World → Prop) (hI : OwnFrom w.heap.size I) (h0 : I 0 w) (hR : ∀ k y, OwnFrom w.heap.size (fun (_ : Unit) W => R k y W)) (a₁ : α → Act)
    (hassign : ∀ (l k : Nat) (y : α) (W : World) (K : Act → World → Prop), R k y W → K (a₁ y) W →
      assign.wpIn (F.inRound l) (n - 1 - 1) P (Exit.then K (fun _ _ _ => False)) { tmps := (ps.zip (encs y)).foldl (fun t (p, v) => t.setIfInBounds p v) a.tmps, defers := [] } W)
    (hbody : ∀ (l k : Nat) (y : α) (W : World), k < N → I k W → R k y W → body.wpIn (F.inRound l) (n - 1 - 1) P (goesOn w.heap.size (Kp (w.heap.size + 1)) (I (k + 1)) W) (a₁ y) W)
    (hdone : ∀ (D : Nat) (W : World), w.heap.size ≤ D → I N W → W.heap[D]? = some (.deferred (some [])) → Q .normal { a with defers := { target := .collected D, args := #[] } :: a.defers } W) :
    (Code.rangeFunc g ps assign body).wpIn F n P Q a w :=
  wpIn_rangeFunc_rel hro h1 hg hFg eg hseq (fun h k => hKt h k) hKb hb0 (fun k x W ⟨y, _, e⟩ => by rw [e]; exact hps y) I hI h0 (fun k x a' W => ∃ y, a' = a₁ y ∧ R k y W) (fun k x a' s A B row ⟨y, e, h⟩ hg' hr => ⟨y, e, hR k y s A B row h hg' hr⟩)
    (fun l k x W K _ hr hi hK => by
      obtain ⟨y, hy, rfl⟩ := hr
      exact hassign l k y W K hy (hK _ _ (KeepsFrom.refl _ _) (hKr W) hi ⟨y, rfl, hy⟩))
    (fun l k x a' W hx hi e => by obtain ⟨y, rfl, hr⟩ := e; exact hbody l k y W hx hi hr) hdone
end Go.Proofs.YtbjpifcgnombaaaGreat
namespace Go.Proofs.YtbjpifcgnombaaaGreat
open Go.RowKit Go.Shelf
attribute [local go_sem] Oper.semAt_some
abbrev SX (m n : Nat) (w : World) := { x : Value × List UInt8 // BSl 0 n w x.1 x.2 ∧ x.2.length ≤ m }
abbrev sxEnc {o n : Nat} {w : World} (x : SX o n w) : Array Value := #[x.1.1]
def SRow {o n : Nat} {w : World} (W : World) (b off : Nat) (l : List (SX o n w)) : Prop := ∀ k x, l[k]? = some x → W.cell? ⟨b, off + k, none⟩ = some x.1.1
theorem SRow.below {o n : Nat} {w : World} {W W' : World} {m b off : Nat} {l : List (SX o n w)} (h : SRow W b off l) (hb : Below m W W') (hlt : b < m) : SRow W' b off l := fun k x hx => (hb.cell (p := ⟨b, _, none⟩) hlt).trans (h k x hx)
def SSl {o n : Nat} {w : World} (m : Nat) (W : World) (sv : Value) (zs : List (SX o n w)) : Prop :=
  ∃ a cap, sv = .slice a zs.length cap ∧ (zs = [] ∨ ∃ b off, a = some ⟨b, off, none⟩ ∧ b < m ∧ SRow W b off zs)
theorem SSl.below {o n : Nat} {w : World} {m k : Nat} {W W' : World} {sv : Value} {zs : List (SX o n w)} (h : SSl m W sv zs) (hb : Below k W W') (hm : m ≤ k) : SSl m W' sv zs := by
  obtain ⟨a, cap, e, h0 | ⟨b, off, ha, hl, ho⟩⟩ := h
  · exact ⟨a, cap, e, .inl h0⟩
  · exact ⟨a, cap, e, .inr ⟨b, off, ha, hl, ho.below hb (by omega)⟩⟩
def flat {o n : Nat} {w : World} (l : List (SX o n w)) : List UInt8 := (l.map fun x => x.1.2).flatten
theorem flat_snoc {o n : Nat} {w : World} (l : List (SX o n w)) (x : SX o n w) : flat (l ++ [x]) = flat l ++ x.1.2 := by simp [flat]
set_option maxRecDepth 100000 in
set_option maxHeartbeats 4000000 in
theorem valuesS1_in (F : Fence) (n : Nat) (h7 : F.fn 245) (hro : F.round = none) (hn : 1 ≤ n) (l Bs n₀ b off cap : Nat) {m₁ n₁ : Nat} {w₁ : World} (zs : List (SX m₁ n₁ w₁)) (hreach : zs.length ≤ 140737488351232) (hb : b < n₀) (J Jx : List (SX m₁ n₁ w₁) → World → Prop)
    (W : World)
    (hY : ∀ pre x W, J pre W → zs[pre.length]? = some x → YieldAt F (n - 1) Tryz.prog l (sxEnc x) W fun e W' =>
      (e = .returned (.bool true) ∧ J (pre ++ [x]) W' ∧ Below n₀ W W') ∨ (e = .returned (.bool false) ∧ Jx (pre ++ [x]) W'))
    (hBs : W.cell? ⟨Bs, 0, none⟩ = some (.slice (some ⟨b, off, none⟩) zs.length cap)) (hc : SRow W b off zs) (h0 : J [] W) :
    CallsIn F n Tryz.prog 245 #[.func (.yield l) #[] #[], .pointer (some ⟨Bs, 0, none⟩)] W fun e W' => (∃ v, e = .returned v) ∧
      ((∃ ys, ys = zs ∧ J ys W') ∨ (∃ pre, True ∧ Jx pre W')) := by
  refine callsIn_of_wp Tryz.func245 rfl h7 ?_ hro
  simp only [Tryz.ntmps245, List.size_toArray, List.length_cons, List.length_nil, Nat.reduceAdd, Nat.reduceSub, Array.replicate_succ, Array.replicate_zero, List.push_toArray, List.append_toArray, List.nil_append, List.cons_append]
  gi_wp2
  gi_loopw [7] (fun i wr => ∃ k : Nat, k ≤ zs.length ∧ i = .int .i64 k ∧ J (zs.take k) wr ∧ Below n₀ W wr) (fun i _ => zs.length - (intOf i).toNat)
  case atStart => exact ⟨0, Nat.zero_le _, rfl, h0, Below.refl _ _⟩
  case round =>
    obtain ⟨k, hk, rfl, hJs, hnx⟩ := hrel
    by_cases hlt : k < zs.length
    · obtain ⟨x, hx⟩ : ∃ x, zs[k]? = some x := ⟨_, List.getElem?_eq_getElem hlt⟩
      have c0 := (hc.below hnx hb) k x hx
      obtain ⟨⟨xa, xc, hxe, _⟩, _⟩ := x.2
      rw [hxe] at c0
      have hk0 : (k : Int) < (zs.length : Int) := by omega
      obtain ⟨fn, tmps, assign, body, hy, hR⟩ := hY (zs.take k) x wr hJs (by rw [List.length_take, Nat.min_eq_left (Nat.le_of_lt hlt)]; exact hx)
      have ht : zs.take (k + 1) = zs.take k ++ [x] := by rw [List.take_add_one, hx]; rfl
      rw [← ht] at hR
      have hE : sxEnc x = #[.slice xa x.1.2.length xc] := by show #[x.1.1] = _; rw [hxe]
      rw [hE] at hy
      clear ht hE hxe
      have HX := Lib.hid hx
      clear hx
      generalize hL : zs.length = len at *
      have HL := Lib.hid hL
      clear hL
      gi_wp2
      refine hR.mono ?_
      rintro e W3 (⟨rfl, hJ3, hk3⟩ | ⟨rfl, hJx3⟩)
      · gi_wp2
        go_roundw
        case rel => exact ⟨k + 1, by omega, by simp, hJ3, hnx.trans hk3⟩
        case measure => simp [intOf]; omega
      · gi_wp2
        refine bodyPost_ret (results_none rfl _ _ _) rfl ?_
        exact ⟨⟨_, rfl⟩, .inr ⟨_, trivial, hJx3⟩⟩
    · obtain rfl : k = zs.length := by omega
      gi_wp2
      go_end0
      rw [List.take_length] at hJs
      exact ⟨⟨_, rfl⟩, .inl ⟨_, rfl, hJs⟩⟩
set_option maxRecDepth 100000 in
set_option maxHeartbeats 1000000 in
theorem valuesS1_nil_in {m₁ n₁ : Nat} {w₁ : World} (F : Fence) (n : Nat) (h7 : F.fn 245) (hro : F.round = none) (l Bs : Nat) (a : Option Addr) (cap : Nat) (J : List (SX m₁ n₁ w₁) → World → Prop) (W : World) (hBs : W.cell? ⟨Bs, 0, none⟩ = some (.slice a 0 cap)) (h0 : J [] W) :
    CallsIn F n Tryz.prog 245 #[.func (.yield l) #[] #[], .pointer (some ⟨Bs, 0, none⟩)] W fun e W' => (∃ v, e = .returned v) ∧ J [] W' := by
  refine callsIn_of_wp Tryz.func245 rfl h7 ?_ hro
  simp only [Tryz.ntmps245, List.size_toArray, List.length_cons, List.length_nil, Nat.reduceAdd, Nat.reduceSub, Array.replicate_succ, Array.replicate_zero, List.push_toArray, List.append_toArray, List.nil_append, List.cons_append]
  gi_wp2
  gi_loopw [7] (fun i wr => i = .int .i64 0 ∧ J [] wr) (fun _ _ => 0)
  case atStart => exact ⟨rfl, h0⟩
  case round =>
    obtain ⟨rfl, hJs⟩ := hrel
    gi_wp2
    go_end0
    exact ⟨⟨_, rfl⟩, hJs⟩
set_option maxHeartbeats 1000000 in
theorem valuesS_in (F : Fence) (n : Nat) (h5 : F.fn 168) (hro : F.round = none) (a : Option Addr) (len cap : Nat) (w : World) :
    CallsIn F n Tryz.prog 168 #[.slice a len cap] w fun e w' => e = .returned (.func (.func 245) #[] #[.pointer (some ⟨w.heap.size, 0, none⟩)]) ∧ w' = w.alloc (.cells #[.slice a len cap] 139) := by
  refine callsIn_of_wp Tryz.func168 rfl h5 ?_ hro
  simp only [Tryz.ntmps168, List.size_toArray, List.length_cons, List.length_nil, Nat.reduceAdd, Nat.reduceSub, Array.replicate_succ, Array.replicate_zero, List.push_toArray, List.append_toArray, List.nil_append, List.cons_append]
  gi_wp2
  go_ret
  exact ⟨rfl, rfl⟩
theorem valuesS_rel (m : Nat) (hm : 1 ≤ m) (Bs n₀ : Nat) (sv : Value) {m₁ n₁ : Nat} {w₁ : World} (zs : List (SX m₁ n₁ w₁)) (hreach : zs.length ≤ 140737488351232) (w : World) (hn₀ : n₀ ≤ w.heap.size)
    (hk : Boxed w Bs 139 sv) (hI : SSl n₀ w sv zs) :
    SeqRel Fence.wide m Tryz.prog 245 #[.pointer (some ⟨Bs, 0, none⟩)] zs.length (fun k x _ => ∃ y, zs[k]? = some y ∧ x = sxEnc y) (fun _ => Below n₀) w := fun l J W hW _ _ _ hY h0 => by
  have hc' := (hW.cell (p := ⟨Bs, 0, none⟩) hk.lt).trans hk.cell
  obtain ⟨a, cap, rfl, rfl | ⟨b, off, rfl, hb, hcs⟩⟩ := hI.below hW hn₀
  · exact (valuesS1_nil_in (m₁ := m₁) (n₁ := n₁) (w₁ := w₁) Fence.wide m trivial rfl l Bs a cap (fun _ => J 0) W hc' h0).mono fun e W' ⟨he, hj⟩ => ⟨he, hj⟩
  · refine (valuesS1_in Fence.wide m trivial rfl hm l Bs n₀ b off cap zs hreach hb (fun pre X => pre = zs.take pre.length ∧ J pre.length X) (fun _ _ => False) W (fun pre x W1 hj hx => ?_) hc' hcs ⟨rfl, h0⟩).mono ?_
    · refine (hY pre.length (sxEnc x) W1 (List.getElem?_eq_some_iff.1 hx).1 ⟨x, hx, rfl⟩ hj.2).mono fun e W' h => .inl ⟨h.1, ⟨?_, by rw [List.length_append]; exact h.2.1⟩, h.2.2⟩
      rw [List.length_append, List.length_singleton, List.take_add_one, hx, ← hj.1]; rfl
    · rintro e W' ⟨he, ⟨ys, rfl, _, hj⟩ | ⟨_, _, h⟩⟩
      · exact ⟨he, hj⟩
      · exact h.elim
end Go.Proofs.YtbjpifcgnombaaaGreat
namespace Go.Proofs.YtbjpifcgnombaaaGreat
open Go.RowKit Go.Shelf
attribute [local go_sem] Oper.semAt_some
theorem flat_prefix {o n : Nat} {w : World} (zs : List (SX o n w)) (k : Nat) : (flat (zs.take k)).length ≤ (flat zs).length := by
  have h : flat zs = flat (zs.take k) ++ flat (zs.drop k) := by
    unfold flat
    rw [← List.flatten_append, ← List.map_append, List.take_append_drop]
  rw [h, List.length_append]
  omega
theorem flat_take {o n : Nat} {w : World} (zs : List (SX o n w)) {k : Nat} {x : SX o n w} (hx : zs[k]? = some x) : flat (zs.take (k + 1)) = flat (zs.take k) ++ x.1.2 := by
  rw [List.take_add_one, hx]
  exact flat_snoc _ _
def CatI {o n : Nat} {w₁ : World} (N : Nat) (w : World) (zs : List (SX o n w₁)) (k : Nat) (W : World) : Prop :=
  (∃ v, Boxed W N 80 v ∧ W.ownsRow N 5 1 v (flat (zs.take k)).length ((flat (zs.take k)).map bv) ∧ True) ∧ Below N w W
theorem catI_own {o n : Nat} {w₁ : World} {N : Nat} {w : World} {B : Nat} (zs : List (SX o n w₁)) (h : N ≤ w.heap.size) (hB : N ≤ B) : OwnFrom B (CatI (o := o) (n := n) (w₁ := w₁) N w zs) :=
  OwnFrom.and (Own.from (holdsRow_own N N 80 5 1 (fun k : Nat => (flat (zs.take k)).length) (fun k => (flat (zs.take k)).map bv) (fun _ _ => True)) _) (ownFrom_below h hB)
set_option maxRecDepth 100000 in
set_option maxHeartbeats 4000000 in
theorem cat_in (m : Nat) (hm : 3 ≤ m) {o : Nat} (sv : Value) (w : World) (zs : List (SX o w.heap.size w)) (hreach : zs.length ≤ 140737488351232) (ho : (flat zs).length ≤ 140737488355328) (hsv : SSl w.heap.size w sv zs) :
    CallsIn Fence.wide m Tryz.prog 93 #[sv] w (ByW (flat zs) w) := by
  have h1 : 1 ≤ m := by omega
  have hsv0 := hsv
  obtain ⟨a, cap, rfl, hcs⟩ := hsv
  clear hcs
  refine callsIn_of_wp_marks Tryz.func93 rfl trivial ?_ rfl
  simp only [Tryz.ntmps93, List.size_toArray, List.length_cons, List.length_nil, Nat.reduceAdd, Nat.reduceSub, Array.replicate_succ, Array.replicate_zero, List.push_toArray, List.append_toArray, List.nil_append, List.cons_append]
  obtain ⟨i0, hi, hz0, hz1, hz2⟩ := info_parts Tryz.infoByte
  gi_wp2_with (refine ⟨trivial, ?_⟩; gi_at_call 168; refine (valuesS_in Fence.wide (m - 1) trivial rfl _ _ _ _).mono ?_; rintro e w' ⟨rfl, rfl⟩)
  generalize hW5 : World.alloc _ _ = W5
  have k0 : Boxed W5 w.heap.size 80 (.slice none 0 0) := by rw [← hW5]; exact (Boxed.new _ _ _).alloc _
  have k2 : Boxed W5 (w.heap.size + 1) 139 (.slice a zs.length cap) := by rw [← hW5]; exact Blk.new' (vs := [_]) (by simp)
  have hB0 : Below w.heap.size w W5 := by rw [← hW5]; exact chainA (chain0 _ _) _
  have hz : W5.heap.size = w.heap.size + 2 := by rw [← hW5]; simp
  clear hW5
  refine wpIn_rangeFunc_relA rfl h1 (gf := 245) (lb := #[.pointer (some ⟨w.heap.size + 1, 0, none⟩)]) rfl trivial (enters_of Tryz.func245 (by kernel_rfl) rfl)
    (valuesS_rel (m - 1) (by omega) (w.heap.size + 1) w.heap.size _ zs hreach W5 (by omega) k2 (hsv0.below hB0 (Nat.le_refl _))) (fun h k => h.trans k) (fun X o o' h2 h3 h4 => belowK_b (w := w) (Nat.le_refl _) _ _ o o' (by omega) h2 h3 h4) (fun X => Below.refl _ X) (Below.refl _ _) (fun _ => rfl)
    (CatI w.heap.size w zs) (catI_own zs (Nat.le_refl _) (by omega))
    ⟨⟨_, k0, World.ownsRow_nil _ _ _ _, trivial⟩, hB0⟩ (fun _ _ _ _ _ _ h _ _ => h) ?_ ?_ ?_ ?_
  rotate_left
  · intro l k x W K _ hK
    gi_wp2
    exact hK
  · rintro r k x W hlt ⟨⟨v, kv, hown, _⟩, hB⟩ hx
    have ko := kv.cell
    have kf := kv.frozen
    have hNW : w.heap.size ≤ W.heap.size := hB.size
    have hxs := x.2.1.below hB (Nat.le_refl _)
    have hfs := flat_take zs hx
    have hle := flat_prefix zs (k + 1)
    rw [hfs, List.length_append] at hle
    have HF := Lib.hid hfs
    clear hfs hx
    obtain ⟨⟨sx, l⟩, _⟩ := x
    dsimp only at hxs hle HF
    generalize zs.take k = pre at *
    gi_wp2_with (gi_at_builtin; refine wpListIn_append_b _ rfl _ _ 80 rfl w.heap.size 5 i0 (.int .u8 0) Tryz.underlying80 hi hz0 hz1 hz2 rfl v (flat pre).length ((flat pre).map bv) rfl hown sx l rfl hxs (by omega) hNW ?_; intro v' w1 hown' hgrow; obtain ⟨a', c', rfl⟩ := ownsRow_slice hown'; have kv1 := kv.kept hgrow (kv.not_row (by decide) hown); have ko1 := kv1.cell; have kf1 := kv1.frozen)
    have kv3 := kv1.set (.slice a' ((flat pre).length + l.length) c')
    have hrow3 := hown'.kept (grownBy_setCell' w1 w.heap.size (.slice a' ((flat pre).length + l.length) c')) (.inr (kv1.not_row (by decide) hown').symm)
    have hsp : Spares 5 W w1 := (Spares.of_below (Below.refl _ W)).grown hgrow (fun r e => .inr (ownsRow_block hown r e))
    have hbw := ((Below.refl w.heap.size W).grown hgrow hNW (fun j hj => (World.ownsRow.lt hown j hj).1)).setCell (p := ⟨w.heap.size, 0, none⟩) (Nat.le_refl _) (.slice a' ((flat pre).length + l.length) c')
    refine ⟨(hsp.others.trans (KeepsOthers.setCell _ _ _)).from _, hbw, ⟨_, kv3, ?_, trivial⟩, hB.trans hbw⟩
    rw [HF.out, List.map_append, List.length_append]
    exact hrow3
  · rintro D W hD ⟨⟨v, kv, hown, _⟩, hB⟩ hK
    rw [List.take_length] at hown
    have ko := kv.cell
    have HZ := Lib.hid hz
    clear hz
    gi_wp2
    have hB' := hB.trans (belowK_b (w := w) (Nat.le_refl _) _ D _ (.deferred none) (by have := HZ.out; omega) hK rfl rfl)
    have hown3 := ownsRow_putObj hown (.deferred none) hK rfl
    refine ⟨by simp, .inl ⟨_, _, rfl, run_takeDeferred hK, ?_⟩⟩
    refine ⟨v, ?_, ?_⟩
    · simp [results, Tryz.f93, go_sem]
    · exact ⟨v, rfl, BSl.of_own hown3, hB'⟩
theorem cat_any {o : Nat} (sv : Value) (w : World) (zs : List (SX o w.heap.size w)) (hreach : zs.length ≤ 140737488351232) (ho : (flat zs).length ≤ 140737488355328) (hsv : SSl w.heap.size w sv zs) :
    Calls Tryz.prog 93 #[sv] w (ByW (flat zs) w) := callsIn_wide.1 (cat_in 3 (by omega) sv w zs hreach ho hsv)
end Go.Proofs.YtbjpifcgnombaaaGreat
namespace Go.Proofs.YtbjpifcgnombaaaGreat
open Go.RowKit Go.Shelf
set_option maxRecDepth 100000 in
set_option maxHeartbeats 2000000 in
theorem refCat_any (l1 l2 : List UInt8) (s1 s2 : Value) (w : World) {lo1 lo2 : Nat} (hreach : l1.length + l2.length ≤ 140737488355328) (h1 : BSl lo1 w.heap.size w s1 l1) (h2 : BSl lo2 w.heap.size w s2 l2) :
    Calls Tryz.prog 319 #[s1, s2] w (ByO (l1 ++ l2) w) := by
  obtain ⟨i0, hi, hz0, hz1, hz2⟩ := info_parts Tryz.infoByte
  have h1' := h1
  have h2' := h2
  obtain ⟨a1, c1, rfl, _⟩ := h1'
  obtain ⟨a2, c2, rfl, _⟩ := h2'
  generalize hn1 : l1.length = n1 at *
  generalize hn2 : l2.length = n2 at *
  have HN1 := Lib.hid hn1
  have HN2 := Lib.hid hn2
  clear hn1 hn2
  go_enter Tryz.func319, Tryz.ntmps319
  go_wp2_with (first
    | (at_builtin; refine wpList_append_b _ rfl _ _ 80 rfl w.heap.size 5 i0 (.int .u8 0) Tryz.underlying80 hi hz0 hz1 hz2 rfl _ 0 [] rfl (World.ownsRow_lit w #[] 0 (Nat.le_refl _) (by unfold maxLen; omega) rfl) _ l1 rfl (h1.below ((Below.refl w.heap.size w).alloc (Nat.le_refl _) _) (Nat.le_refl _)) (by rw [HN1.out]; omega) (by simp) ?_; intro v' w1 hown' hgrow; (have hb1 : Below w.heap.size w w1 := (chain0 w _).grown hgrow (by simp) (fun k e => by have : w.heap.size = k := Option.some.inj e; omega)); have h21 := h2.below hb1 (Nat.le_refl _); rw [Nat.zero_add, List.nil_append] at hown')
    | (at_builtin; refine wpList_append_b _ rfl _ _ 80 rfl w.heap.size 5 i0 (.int .u8 0) Tryz.underlying80 hi hz0 hz1 hz2 rfl _ l1.length (l1.map bv) rfl hown' _ l2 rfl h21 (by rw [HN1.out, HN2.out]; omega) hb1.size ?_; intro v2 w2 hown2 hgrow2))
  go_ret
  refine ⟨_, rfl, ?_, hb1.grown hgrow2 hb1.size (fun j hj => (World.ownsRow.lt hown' j hj).1)⟩
  rw [List.length_append, List.map_append]
  exact hown2
end Go.Proofs.YtbjpifcgnombaaaGreat
namespace Go.Proofs.YtbjpifcgnombaaaGreat
open Go.RowKit
def numR (x s j : Nat) : List Value := List.replicate j (bv 0) ++ (octs x (s - j)).map bv
theorem numR_at (x s : Nat) {j p : Nat} (h : p < j) : (numR x s j)[p]? = some (bv 0) := by
  unfold numR; rw [List.getElem?_append_left (by simpa using h)]; simp [h]
theorem numR_step (x s : Nat) {p : Nat} (h : p < s) : (numR x s (p + 1)).set p (bv (oct (x / 256 ^ (s - (p + 1))) 0)) = numR x s p := by
  unfold numR
  have e : s - p = (s - (p + 1)) + 1 := by omega
  rw [e, octs]
  have e2 : oct (x / 256 ^ (s - (p + 1))) 0 = oct x (s - (p + 1)) := by
    unfold oct
    rw [show 2 ^ ((s - (p + 1)) * 8) = 256 ^ (s - (p + 1)) by rw [Nat.mul_comm, Nat.pow_mul]]
    simp
  rw [e2, List.replicate_succ', List.append_assoc, List.set_append_right _ _ (by simp)]
  simp
set_option maxRecDepth 100000 in
set_option maxHeartbeats 4000000 in
theorem refNum_any (n size : Int) (hs : -9223372036854775808 ≤ size) (hs' : size ≤ 9223372036854775807) (w : World) :
    Calls Tryz.prog 283 #[.int .i64 n, .int .i64 size] w (ByW (octs (two n) (clamp size)) w) := by
  obtain ⟨i0, hi, hz0, hz1, hz2⟩ := info_parts Tryz.infoByte
  have hU : IntKind.u64.wrap n = (two n : Nat) := wrap_two n
  have hx : two n < M := by unfold two M; omega
  generalize two n = x at *
  have H8 := clamp_le size
  have hCC := clamp_cases size
  generalize clamp size = s at *
  go_enter Tryz.func283, Tryz.ntmps283
  rcases hCC with ⟨hc0, hC⟩ | ⟨hc0, hc8, hC⟩ | ⟨hc8, hC⟩
  all_goals
    have HC := Lib.hid hC
    clear hC
    go_wp2_with (at_make; refine wpList_make_full _ rfl _ _ 80 rfl w.heap.size 5 i0 (.int .u8 0) 1 Tryz.underlying80 hi hz0 hz1 .i64 .i64 _ _ s rfl rfl HC.out.symm HC.out.symm (by rw [hz2]; omega) (by unfold maxLen; omega) (Nat.le_refl _) ?_; intro w1 hown hgrow)
    have hown0 : w1.ownsRow w.heap.size 5 1 (.slice (some ⟨w.heap.size, 0, none⟩) s s) s (numR x s s) := by
      have e : (madeCells (Value.int .u8 0).cells (s * 1)).toList = numR x s s := by
        rw [Nat.mul_one]
        refine (toList_madeCells_one (.int .u8 0) s).trans ?_
        unfold numR
        simp [octs]
      rw [← e]; exact hown
    have hB0 : Below w.heap.size w w1 := (Below.refl _ w).grown hgrow (Nat.le_refl _) (fun k e => by cases e)
    have hs8 : (s : Int) ≤ 8 := by omega
    clear hown hgrow
    go_loopw [6, 7] (fun u i wr => ∃ j : Nat, j ≤ s ∧ i = .int .i64 ((j : Int) - 1) ∧ u = .int .u64 (x / 256 ^ (s - j) : Nat) ∧ wr.ownsRow w.heap.size 5 1 (.slice (some ⟨w.heap.size, 0, none⟩) s s) s (numR x s j) ∧ Below w.heap.size w wr) (fun _ i _ => ((intOf i) + 1).toNat)
    case atStart => exact ⟨s, Nat.le_refl _, by have := HC.out; congr 1; omega, by rw [Nat.sub_self, Nat.pow_zero, Nat.div_one], hown0, hB0⟩
    case round =>
      obtain ⟨j, hj, rfl, rfl, hown, hB⟩ := hrel
      rcases j with _ | p
      · have e0 : ((0 : Nat) : Int) - 1 = -1 := by omega
        rw [e0]
        go_wp2
        go_ret
        refine ⟨_, rfl, BSl.of_own (e := 5) (l := octs x s) ?_, hB⟩
        rw [octs_length]
        exact hown
      · have hps : p < s := by omega
        have e1 : ((p + 1 : Nat) : Int) - 1 = (p : Int) := by omega
        have hst := numR_step x s hps
        have HS := Lib.hid hst
        clear hst
        have hc := hown.cellAt p (by omega)
        rw [numR_at x s (Nat.lt_succ_self p)] at hc
        have hf := hown.frozenAt p
        have hd : x / 256 ^ (s - (p + 1)) / 256 = x / 256 ^ (s - p) := by
          rw [Nat.div_div_eq_div_mul, ← Nat.pow_succ, show (s - (p + 1)).succ = s - p by omega]
        have HD := Lib.hid hd
        clear hd
        have hy : x / 256 ^ (s - (p + 1)) ≤ 18446744073709551615 := Nat.le_trans (Nat.div_le_self _ _) (by unfold M at hx; omega)
        have hp8 : (p : Int) < (s : Int) := by omega
        generalize x / 256 ^ (s - (p + 1)) = y at *
        have hy' : (y : Int) ≤ 18446744073709551615 := by omega
        rw [e1]
        clear e1
        go_wp2
        have hv : Value.int .u8 ((y : Int) % 256) = bv (oct y 0) := by rw [oct_bv]; simp
        have hown2 := (hown.stored p (bv (oct y 0))).1
        rw [HS.out] at hown2
        rw [hv]
        exact ⟨⟨p, by omega, rfl, by rw [← HD.out]; simp, hown2, hB.setCell (p := ⟨w.heap.size, p, none⟩) (Nat.le_refl _) _⟩, by simp [intOf]⟩
set_option maxRecDepth 100000 in
set_option maxHeartbeats 4000000 in
theorem refInt_any (l : List UInt8) (sv : Value) (w : World) (hreach : l.length ≤ 140737488351232) (hsv : BSl 0 w.heap.size w sv l) :
    Calls Tryz.prog 338 #[sv] w fun e W' => e = .returned (.int .i64 (be (l.take 7) : Nat)) ∧ W' = w := by
  obtain ⟨a, cap, rfl, hcap, hcs⟩ := hsv
  go_enter Tryz.func338, Tryz.ntmps338
  go_wp2
  go_loop [3, 4] (fun n i => ∃ k : Nat, k ≤ l.length ∧ k ≤ 7 ∧ i = .int .i64 k ∧ n = .int .i64 (be (l.take k) : Nat)) (fun _ i => l.length - (intOf i).toNat)
  case atStart => exact ⟨0, by omega, by omega, rfl, rfl⟩
  case round =>
    obtain ⟨k, hk, hk7, rfl, rfl⟩ := hrel
    have hbl := be_lt' (l := l.take k) (k := 7) (by rw [List.length_take]; omega)
    by_cases hlt : k < l.length
    · by_cases h7 : k < 7
      · obtain ⟨x, hx⟩ : ∃ x, l[k]? = some x := ⟨_, List.getElem?_eq_getElem hlt⟩
        obtain ⟨b, off, rfl, ho⟩ : ∃ b off, a = some ⟨b, off, none⟩ ∧ Octs w b off l := by
          rcases hcs with h0 | ⟨b, off, h1, _, _, h2⟩
          · rw [h0] at hlt; simp at hlt
          · exact ⟨b, off, h1, h2⟩
        have hc := ho k x hx
        have hs : be (l.take (k + 1)) = be (l.take k) * 256 + x.toNat := by
          rw [List.take_add_one, hx]; exact be_snoc _ _
        have HS := Lib.hid hs
        have HX := Lib.hid hx
        have hb6 := be_lt' (l := l.take k) (k := 6) (by rw [List.length_take]; omega)
        have hb6' : ((be (l.take k) : Nat) : Int) ≤ 281474976710655 := by omega
        clear hs hx ho hcs hbl hb6
        have hxl : (x.toNat : Int) ≤ 255 := by have := x.toNat_lt; omega
        have hlt' : (k : Int) < (l.length : Int) := by omega
        have h7' : (k : Int) < 7 := by omega
        have hd1 : decide ((k : Int) < (l.length : Int)) = true := by simpa using hlt
        generalize hL : l.length = len at *
        have HL := Lib.hid hL
        clear hL
        generalize be (l.take k) = y at *
        go_wp2
        go_round
        case rel => exact ⟨k + 1, by omega, by omega, by simp, by rw [HS.out]; simp⟩
        case measure => simp [intOf]; omega
      · obtain rfl : k = 7 := by omega
        have hlt' : (7 : Int) < (l.length : Int) := by omega
        go_wp2
        go_ret
        exact ⟨rfl, rfl⟩
    · obtain rfl : k = l.length := by omega
      have e7 : be (l.take l.length) = be (l.take 7) := by rw [List.take_of_length_le hk7, List.take_length]
      rw [e7]
      have HE := Lib.hid e7
      clear e7
      have hL : ((l.length : Nat) : Int) ≤ 7 := by omega
      clear hbl
      generalize hY : be (l.take 7) = y at *
      have HY := Lib.hid hY
      clear hY
      go_wp2
      go_ret
      exact ⟨congrArg (fun z : Nat => Ending.returned (.int .i64 (z : Int))) HY.out.symm, rfl⟩
end Go.Proofs.YtbjpifcgnombaaaGreat
