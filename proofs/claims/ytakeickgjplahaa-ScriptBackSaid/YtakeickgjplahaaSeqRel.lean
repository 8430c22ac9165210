/-
  A range over a function whose body never leaves: what is yielded is told by a relation of the place, the values and the world.
-/
import Derived.Test.YtakeickgjplahaaGoes
namespace Go.Proofs.Ytakeickgjplahaa
open Go.RowKit

variable {F : Fence} {n : Nat} {P : Program}

/-- An iterator that yields N times to rounds that go on: its k-th yield hands over x with R k x; J k holds behind k rounds. -/
def SeqRel (F : Fence) (n : Nat) (P : Program) (g : Nat) (lb : Array Value) (N : Nat) (R : Nat → Array Value → World → Prop) (Kp : Nat → World → World → Prop) (w : World) : Prop :=
  ∀ (l : Nat) (J : Nat → World → Prop) (W : World), Below w.heap.size w W → w.heap.size ≤ l → l < W.heap.size → OwnFrom W.heap.size J →
    (∀ k x W1, k < N → R k x W1 → J k W1 → YieldAt F (n - 1) P l x W1 fun e W' => e = .returned (.bool true) ∧ J (k + 1) W' ∧ Kp l W1 W') →
    J 0 W → CallsIn F n P g (#[.func (.yield l) #[] #[]] ++ lb) W fun e W' => (∃ v, e = .returned v) ∧ J N W'

theorem wpIn_rangeFunc_rel {g : Operand} {ps : Array Tmp} {assign body : Code} {Q : Exit → Act → World → Prop} {a : Act} {w : World}
    (hro : F.round = none) (h1 : 1 ≤ n) {gf : Nat} {lb : Array Value} (hg : a.eval g = .func (.func gf) #[] lb) (hFg : F.fn gf) (eg : ∀ args w, (callFunc gf args).run P w = .ok (.enter gf args) w)
    {N : Nat} {R : Nat → Array Value → World → Prop} {Kp : Nat → World → World → Prop} {w0 : World} (hseq : SeqRel F (n - 1) P gf lb N R Kp w0)
    (hKt : ∀ {A B C : World}, Kp (w.heap.size + 1) A B → Kp (w.heap.size + 1) B C → Kp (w.heap.size + 1) A C) (hKb : ∀ (W : World) (o o' : Obj), W.heap[w.heap.size + 1]? = some o → o.isCells = false → o.isWalk = false → Kp (w.heap.size + 1) W (W.putObj (w.heap.size + 1) o')) (hb0 : Below w0.heap.size w0 w) (hps : ∀ k x W, R k x W → x.size = ps.size)
    (I : Nat → World → Prop) (hI : OwnFrom w.heap.size I) (h0 : I 0 w) (Ax : Nat → Array Value → Act → World → Prop) (hAx : ∀ k x a', OwnFrom w.heap.size (fun (_ : Unit) W => Ax k x a' W))
    (hassign : ∀ (l k : Nat) (x : Array Value) (W : World) (K : Act → World → Prop), k < N → R k x W → I k W → (∀ a' W', KeepsFrom w.heap.size W W' → Kp (w.heap.size + 1) W W' → I k W' → Ax k x a' W' → K a' W') →
      assign.wpIn (F.inRound l) (n - 1 - 1) P (Exit.then K (fun _ _ _ => False)) { tmps := (ps.zip x).foldl (fun t (p, v) => t.setIfInBounds p v) a.tmps, defers := [] } W)
    (hbody : ∀ (l k : Nat) (x : Array Value) (a' : Act) (W : World), k < N → I k W → Ax k x a' W → body.wpIn (F.inRound l) (n - 1 - 1) P (goesOn w.heap.size (Kp (w.heap.size + 1)) (I (k + 1)) W) a' W)
    (hdone : ∀ (D : Nat) (W : World), w.heap.size ≤ D → I N W → W.heap[D]? = some (.deferred (some [])) → Q .normal { a with defers := { target := .collected D, args := #[] } :: a.defers } W) :
    (Code.rangeFunc g ps assign body).wpIn F n P Q a w := by
  refine wpIn_rangeFunc fun fn hfn => ?_
  rw [hro]
  have hZ : w.heap.size < w.heap.size + 1 := Nat.lt_succ_self _
  -- what the loop's record holds while no round runs
  have R0 : { r : Loop // r.state = .ready ∧ r.pending = none ∧ r = { state := .ready, pending := none, fn, tmps := a.tmps, params := ps, assign, body, defers := w.heap.size } } := ⟨_, rfl, rfl, rfl⟩
  obtain ⟨r, hr1, hr2, hre⟩ := R0
  have hrun := run_enterLoop_outer (P := P) (w := w) fn a.tmps ps assign body
  rw [← hre] at hrun
  generalize hW1 : (w.alloc (.deferred (some []))).alloc (.loop r) = W1 at hrun
  have hsz : W1.heap.size = w.heap.size + 2 := by rw [← hW1]; simp
  have gw : w.grownBy (w.alloc (.deferred (some []))) none := World.grownBy_alloc _ _ _
  have hl1 : W1.heap[w.heap.size + 1]? = some (.loop r) := by
    rw [← hW1]; simpa using World.alloc_heap_new (w.alloc (.deferred (some []))) (.loop r)
  have hd1 : W1.heap[w.heap.size]? = some (.deferred (some [])) := by
    rw [← hW1]; exact (Below.heap_alloc _ _ _ (by simp)).trans (World.alloc_heap_new _ _)
  have hi1 : I 0 W1 := by rw [← hW1]; exact hI.alloc _ (hI.alloc _ h0)
  have hB1 : Below w0.heap.size w0 W1 := by
    rw [← hW1]; exact hb0.trans (((Below.refl w.heap.size w).alloc (Nat.le_refl _) _).alloc (by simp) _ |>.mono hb0.size)
  refine ⟨_, _, W1, { target := .fn (.func gf) lb, args := #[.func (.yield (w.heap.size + 1)) #[] #[]] }, W1, gf, #[.func (.yield (w.heap.size + 1)) #[] #[]] ++ lb, W1, hrun, by simp only [resolve, hg]; simp [go_sem], fun f' hf' => ?_, by simp [invoke, go_sem, eg], fun _ => h1, ?_⟩
  · simp [Target.leads] at hf'; subst hf'; exact hFg
  refine (hseq (w.heap.size + 1) (fun k W => I k W ∧ W.heap[w.heap.size + 1]? = some (.loop r) ∧ W.heap[w.heap.size]? = some (.deferred (some []))) W1 hB1 (by have := hb0.size; omega) (by omega)
    (fun s A B row ⟨hi, hl, hd⟩ hg' hrow => ⟨hI s A B row hi hg' (fun q e => ⟨by have := (hrow q e).1; omega, (hrow q e).2⟩),
      (hg'.block _ (Array.getElem?_eq_some_iff.1 hl).1 (fun e => by have := (hrow _ e.symm).1; omega)).trans hl,
      (hg'.block _ (Array.getElem?_eq_some_iff.1 hd).1 (fun e => by have := (hrow _ e.symm).1; omega)).trans hd⟩) ?_ ⟨hi1, hl1, hd1⟩).mono ?_
  · rintro k x W hx hR ⟨hi, hl, hd⟩
    have hy := run_yield (P := P) (args := x) hl (by rw [hre]; exact hps k x W hR)
    have hy' := hy
    rw [hre] at hy'
    refine ⟨_, _, _, _, hy', roundIn_of_wpIn hfn (hassign _ k x W _ hx hR hi fun a' Wa hkf hkp hia hax => ?_)⟩
    have hla := hkf.same _ _ (by omega) hl rfl
    have hda := hkf.same _ _ (Nat.le_refl _) hd rfl
    have hlt := (Array.getElem?_eq_some_iff.1 hla).1
    refine ⟨_, run_beginRound hla hr1, ?_⟩
    have hlb : (Wa.putObj (w.heap.size + 1) (.loop { r with state := .busy })).heap[w.heap.size + 1]? = some (.loop { r with state := .busy }) := World.putObj_heap_same hlt
    have hdb : (Wa.putObj (w.heap.size + 1) (.loop { r with state := .busy })).heap[w.heap.size]? = some (.deferred (some [])) := (World.putObj_heap_other (by omega)).trans hda
    have hkb := hKb Wa _ (.loop { r with state := .busy }) hla rfl rfl
    refine wpIn_mono (hbody _ k x a' _ hx (hI.putObj _ hia (by omega) hla rfl) ((hAx k x a').putObj (s := ()) _ hax (by omega) hla rfl)) ?_
    rintro e a3 W3 hp
    cases e with
    | normal =>
      obtain ⟨hk3, hkp3, hi3⟩ := hp
      have hl3 := hk3.same _ _ (by omega) hlb rfl
      have hd3 := hk3.same _ _ (Nat.le_refl _) hdb rfl
      have hend := run_endRound (P := P) none hl3
      have hr' : ({ { r with state := .busy } with state := if (none : Option Code).isNone then .ready else .done, pending := none } : Loop) = r := by
        rw [hre]; simp
      rw [hr'] at hend
      refine ⟨_, _, hend, rfl, ⟨hI.putObj _ hi3 (by omega) hl3 rfl, World.putObj_heap_same (Array.getElem?_eq_some_iff.1 hl3).1, (World.putObj_heap_other (by omega)).trans hd3⟩, ?_⟩
      exact hKt hkp (hKt hkb (hKt hkp3 (hKb _ _ _ hl3 rfl rfl)))
    | ret => exact hp.elim
    | exit id => exact hp.elim
    | goto t => exact hp.elim
    | panic c => exact hp.elim
    | outgrown => exact hp.elim
  · rintro e W2 ⟨⟨v, rfl⟩, hi, hl, hd⟩
    have hend := run_endLoop (P := P) hl (by rw [hr1]; simp)
    rw [hr2] at hend
    exact ⟨none, _, hend, hdone _ _ (Nat.le_refl _) (hI.putObj _ hi (by omega) hl rfl) ((World.putObj_heap_other (by omega)).trans hd)⟩

/-- The same, where the assignment makes nothing; what R says of what is handed over lasts. -/
theorem wpIn_rangeFunc_relA {α : Type} {g : Operand} {ps : Array Tmp} {assign body : Code} {Q : Exit → Act → World → Prop} {a : Act} {w : World}
    (hro : F.round = none) (h1 : 1 ≤ n) {gf : Nat} {lb : Array Value} (hg : a.eval g = .func (.func gf) #[] lb) (hFg : F.fn gf) (eg : ∀ args w, (callFunc gf args).run P w = .ok (.enter gf args) w)
    {N : Nat} {encs : α → Array Value} {R : Nat → α → World → Prop} {Kp : Nat → World → World → Prop} {w0 : World} (hseq : SeqRel F (n - 1) P gf lb N (fun k x W => ∃ y, R k y W ∧ x = encs y) Kp w0)
    (hKt : ∀ {A B C : World}, Kp (w.heap.size + 1) A B → Kp (w.heap.size + 1) B C → Kp (w.heap.size + 1) A C) (hKb : ∀ (W : World) (o o' : Obj), W.heap[w.heap.size + 1]? = some o → o.isCells = false → o.isWalk = false → Kp (w.heap.size + 1) W (W.putObj (w.heap.size + 1) o')) (hKr : ∀ W, Kp (w.heap.size + 1) W W) (hb0 : Below w0.heap.size w0 w) (hps : ∀ y, (encs y).size = ps.size)
    (I : Nat → World → Prop) (hI : OwnFrom w.heap.size I) (h0 : I 0 w) (hR : ∀ k y, OwnFrom w.heap.size (fun (_ : Unit) W => R k y W)) (a₁ : α → Act)
    (hassign : ∀ (l k : Nat) (y : α) (W : World) (K : Act → World → Prop), R k y W → K (a₁ y) W →
      assign.wpIn (F.inRound l) (n - 1 - 1) P (Exit.then K (fun _ _ _ => False)) { tmps := (ps.zip (encs y)).foldl (fun t (p, v) => t.setIfInBounds p v) a.tmps, defers := [] } W)
    (hbody : ∀ (l k : Nat) (y : α) (W : World), k < N → I k W → R k y W → body.wpIn (F.inRound l) (n - 1 - 1) P (goesOn w.heap.size (Kp (w.heap.size + 1)) (I (k + 1)) W) (a₁ y) W)
    (hdone : ∀ (D : Nat) (W : World), w.heap.size ≤ D → I N W → W.heap[D]? = some (.deferred (some [])) → Q .normal { a with defers := { target := .collected D, args := #[] } :: a.defers } W) :
    (Code.rangeFunc g ps assign body).wpIn F n P Q a w :=
  wpIn_rangeFunc_rel hro h1 hg hFg eg hseq (fun h k => hKt h k) hKb hb0 (fun k x W ⟨y, _, e⟩ => by rw [e]; exact hps y) I hI h0 (fun k x a' W => ∃ y, a' = a₁ y ∧ R k y W) (fun k x a' s A B row ⟨y, e, h⟩ hg' hr => ⟨y, e, hR k y s A B row h hg' hr⟩)
    (fun l k x W K _ hr hi hK => by
      obtain ⟨y, hy, rfl⟩ := hr
      exact hassign l k y W K hy (hK _ _ (KeepsFrom.refl _ _) (hKr W) hi ⟨y, rfl, hy⟩))
    (fun l k x a' W hx hi e => by obtain ⟨y, rfl, hr⟩ := e; exact hbody l k y W hx hi hr) hdone
end Go.Proofs.Ytakeickgjplahaa
