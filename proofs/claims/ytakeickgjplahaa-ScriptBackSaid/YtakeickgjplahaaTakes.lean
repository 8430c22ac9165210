/-
  Operations of a region, many at once: what is reckoned is reckoned by the kernel in one equation; loads by facts on the world.
-/
import Derived.Deep.RegionHeld3
import Derived.Tactics
import Derived.KernelRfl
import Derived.Test.YtakeickgjplahaaHeldMono
namespace Go.Proofs.Ytakeickgjplahaa

/-- An operation by its place, its slot and its value: reckoned (val); loaded (load); reckoned as v, which is u (alt); not wanted (skip). -/
inductive Tk where
  | val (i : Nat) (d : Option Tmp) (v : Value)
  | load (i : Nat) (d : Option Tmp) (ty : TypeId) (p v : Value)
  | alt (i : Nat) (d : Option Tmp) (v u : Value)
  | skip (i : Nat) (d : Option Tmp)
  | idx (i : Nat) (d : Option Tmp) (ty : TypeId) (p x v : Value)
  | slc (i : Nat) (d : Option Tmp) (ty : TypeId) (x : Value) (lo hi mx : Option Value) (v : Value)
def Tk.place : Tk → Nat
  | .val i _ _ => i
  | .load i _ _ _ _ => i
  | .alt i _ _ _ => i
  | .skip i _ => i
  | .idx i _ _ _ _ _ => i
  | .slc i _ _ _ _ _ _ _ => i
def Tk.put (a : Act) : Tk → Act
  | .val _ d v => a.put d v
  | .load _ d _ _ v => a.put d v
  | .alt _ d _ u => a.put d u
  | .skip _ d => a.put d undef
  | .idx _ d _ _ _ v => a.put d v
  | .slc _ d _ _ _ _ _ v => a.put d v
def puts : List Tk → Act → Act
  | [], a => a
  | t :: L, a => puts L (t.put a)
inductive See where
  | run (b : Bool) (d : Option Tmp) (r : Result Next)
  | got (b : Bool) (d : Option Tmp) (t : Option (TypeId × Value))
  | no (b : Bool) (d : Option Tmp)
  | at (b : Bool) (d : Option Tmp) (t : Option (TypeId × Value × Value))
  | sl (b : Bool) (d : Option Tmp) (t : Option (TypeId × Value × Option Value × Option Value × Option Value))
def seeOp (P : Program) (ops : Array Oper) (w : World) (a : Act) (o : Oper) : Tk → See
  | .val _ _ _ => .run (Region.wanted o (yielded ops a.tmps)) o.dst ((execOp a.eval o).run P w)
  | .load _ _ _ _ _ => .got (Region.wanted o (yielded ops a.tmps)) o.dst (match o.op with | .load ty x => some (ty, a.eval x) | _ => none)
  | .alt _ _ _ _ => .run (Region.wanted o (yielded ops a.tmps)) o.dst ((execOp a.eval o).run P w)
  | .skip _ _ => .no (Region.wanted o (yielded ops a.tmps)) o.dst
  | .idx _ _ _ _ _ _ => .at (Region.wanted o (yielded ops a.tmps)) o.dst (match o.op with | .indexAddr ty x y => some (ty, a.eval x, a.eval y) | _ => none)
  | .slc _ _ _ _ _ _ _ _ => .sl (Region.wanted o (yielded ops a.tmps)) o.dst (match o.op with | .slice ty x lo hi mx => some (ty, a.eval x, lo.map a.eval, hi.map a.eval, mx.map a.eval) | _ => none)
def wantOp (w : World) : Tk → See
  | .val _ d v => .run true d (.ok (.value v) w)
  | .load _ d ty p _ => .got true d (some (ty, p))
  | .alt _ d v _ => .run true d (.ok (.value v) w)
  | .skip _ d => .no false d
  | .idx _ d ty p x _ => .at true d (some (ty, p, x))
  | .slc _ d ty x lo hi mx _ => .sl true d (some (ty, x, lo, hi, mx))
def sees (P : Program) (ops : Array Oper) (w : World) : List Tk → Act → List (Option See)
  | [], _ => []
  | t :: L, a => (ops[t.place]?).map (fun o => seeOp P ops w a o t) :: sees P ops w L (t.put a)
def wants (w : World) (L : List Tk) : List (Option See) := L.map fun t => some (wantOp w t)
/-- What the loads are, and the equations. -/
def Facts (P : Program) (S : World → Prop) : List Tk → Prop
  | [] => True
  | .load _ _ ty p v :: L => (∀ w, S w → (Instr.loadAt ty p).run P w = .ok v w) ∧ Facts P S L
  | .alt _ _ v u :: L => v = u ∧ Facts P S L
  | .idx _ _ ty p x v :: L => (∀ w, S w → (Instr.indexAt ty p x).run P w = .ok v w) ∧ Facts P S L
  | .slc _ _ ty x lo hi mx v :: L => (∀ w, S w → (Instr.sliceAt ty x lo hi mx).run P w = .ok v w) ∧ Facts P S L
  | .val _ _ _ :: L => Facts P S L
  | .skip _ _ :: L => Facts P S L
/-- The same of one world. -/
def FactsAt (P : Program) (w : World) : List Tk → Prop
  | [] => True
  | .load _ _ ty p v :: L => (Instr.loadAt ty p).run P w = .ok v w ∧ FactsAt P w L
  | .alt _ _ v u :: L => v = u ∧ FactsAt P w L
  | .idx _ _ ty p x v :: L => (Instr.indexAt ty p x).run P w = .ok v w ∧ FactsAt P w L
  | .slc _ _ ty x lo hi mx v :: L => (Instr.sliceAt ty x lo hi mx).run P w = .ok v w ∧ FactsAt P w L
  | .val _ _ _ :: L => FactsAt P w L
  | .skip _ _ :: L => FactsAt P w L
theorem factsAt {P : Program} {w : World} : ∀ {L : List Tk}, FactsAt P w L → Facts P (fun W => W = w) L
  | [], _ => trivial
  | .load _ _ _ _ _ :: _, h => ⟨fun W e => by cases e; exact h.1, factsAt h.2⟩
  | .alt _ _ _ _ :: _, h => ⟨h.1, factsAt h.2⟩
  | .idx _ _ _ _ _ _ :: _, h => ⟨fun W e => by cases e; exact h.1, factsAt h.2⟩
  | .slc _ _ _ _ _ _ _ _ :: _, h => ⟨fun W e => by cases e; exact h.1, factsAt h.2⟩
  | .val _ _ _ :: L, h => factsAt (L := L) h
  | .skip _ _ :: L, h => factsAt (L := L) h

section
variable {P : Program} {md : Region.Mode} {ops : Array Oper} {Q : Exit → Act → World → Prop} {S : World → Prop}
theorem one_of {t : Tk} {o : Oper} {a : Act} (ho : ops[t.place]? = some o) (hsee : ∀ w, (ops[t.place]?).map (fun o => seeOp P ops w a o t) = some (wantOp w t)) {L : List Tk} (hf : Facts P S (t :: L)) :
    (∃ v, t.put a = a.put o.dst v ∧ YieldsIf P ops S o v a) ∧ Facts P S L := by
  rw [ho] at hsee
  have hs : ∀ w, seeOp P ops w a o t = wantOp w t := fun w => Option.some.inj (hsee w)
  cases t with
  | val i d v =>
    have hd : o.dst = d := by have := hs default; simp only [seeOp, wantOp, See.run.injEq] at this; exact this.2.1
    exact ⟨⟨v, by rw [hd]; rfl, .inl ⟨by have := hs default; simp only [seeOp, wantOp, See.run.injEq] at this; exact this.1, fun w _ => by have := hs w; simp only [seeOp, wantOp, See.run.injEq] at this; exact this.2.2⟩⟩, hf⟩
  | load i d ty p v =>
    have hd : o.dst = d := by have := hs default; simp only [seeOp, wantOp, See.got.injEq] at this; exact this.2.1
    refine ⟨⟨v, by rw [hd]; rfl, .inl ⟨by have := hs default; simp only [seeOp, wantOp, See.got.injEq] at this; exact this.1, fun w hw => ?_⟩⟩, hf.2⟩
    have h := hs w
    simp only [seeOp, wantOp, See.got.injEq] at h
    have h3 := h.2.2
    have hl := hf.1 w hw
    unfold execOp
    split at h3
    · rename_i ty' x hop
      obtain ⟨rfl, rfl⟩ := by simpa using h3
      simp only [hop, Sem.run_bind, hl, Result.andThen_ok]
      rfl
    · cases h3
  | alt i d v u =>
    have hd : o.dst = d := by have := hs default; simp only [seeOp, wantOp, See.run.injEq] at this; exact this.2.1
    obtain ⟨rfl, hf2⟩ := hf
    exact ⟨⟨v, by rw [hd]; rfl, .inl ⟨by have := hs default; simp only [seeOp, wantOp, See.run.injEq] at this; exact this.1, fun w _ => by have := hs w; simp only [seeOp, wantOp, See.run.injEq] at this; exact this.2.2⟩⟩, hf2⟩
  | skip i d =>
    have hd : o.dst = d := by have := hs default; simp only [seeOp, wantOp, See.no.injEq] at this; exact this.2
    exact ⟨⟨undef, by rw [hd]; rfl, .inr ⟨by have := hs default; simp only [seeOp, wantOp, See.no.injEq] at this; exact this.1, rfl⟩⟩, hf⟩
  | idx i d ty p x v =>
    have hd : o.dst = d := by have := hs default; simp only [seeOp, wantOp, See.at.injEq] at this; exact this.2.1
    refine ⟨⟨v, by rw [hd]; rfl, .inl ⟨by have := hs default; simp only [seeOp, wantOp, See.at.injEq] at this; exact this.1, fun w hw => ?_⟩⟩, hf.2⟩
    have h := hs w
    simp only [seeOp, wantOp, See.at.injEq] at h
    have h3 := h.2.2
    have hl := hf.1 w hw
    unfold execOp
    split at h3
    · rename_i ty' x y hop
      obtain ⟨rfl, rfl, rfl⟩ := by simpa using h3
      simp only [hop, Sem.run_bind, hl, Result.andThen_ok]
      rfl
    · cases h3
  | slc i d ty x lo hi mx v =>
    have hd : o.dst = d := by have := hs default; simp only [seeOp, wantOp, See.sl.injEq] at this; exact this.2.1
    refine ⟨⟨v, by rw [hd]; rfl, .inl ⟨by have := hs default; simp only [seeOp, wantOp, See.sl.injEq] at this; exact this.1, fun w hw => ?_⟩⟩, hf.2⟩
    have h := hs w
    simp only [seeOp, wantOp, See.sl.injEq] at h
    have h3 := h.2.2
    have hl := hf.1 w hw
    unfold execOp
    split at h3
    · rename_i ty' x' lo' hi' mx' hop
      obtain ⟨rfl, rfl, rfl, rfl, rfl⟩ := by simpa using h3
      simp only [hop, Sem.run_bind, hl, Result.andThen_ok]
      rfl
    · cases h3
def listedBy : List Tk → Array Bool → Array Bool
  | [], l => l
  | t :: L, l => listedBy L (l.setIfInBounds t.place true)
/-- May they come in this order? -/
def orderOk (md : Region.Mode) (ops : Array Oper) : List Tk → Array Bool → Bool
  | [], _ => true
  | t :: L, l => (Region.free md ops l t.place && (Region.ready md ops l).contains t.place) && orderOk md ops L (l.setIfInBounds t.place true)
/-- In a region that draws: these are taken first. -/
theorem wpAnyH_takes (L : List Tk) (hs : Region.noSelect ops = true) (hQ : ∀ d v c a w, Q (.panic c) (Act.put a d v) w → Q (.panic c) a w) :
    ∀ {m n : Nat} {listed : Array Bool} {a : Act} {w : World}, n = m + L.length → orderOk md ops L listed = true → (∀ w, sees P ops w L a = wants w L) → Facts P S L → S w →
      wpAnyH P md ops Q S m (listedBy L listed) (puts L a) w → wpAnyH P md ops Q S n listed a w := by
  induction L with
  | nil => intro m n listed a w hn _ _ _ _ h; subst hn; exact h
  | cons t L ih =>
    intro m n listed a w hn ho hsee hf hS h
    simp only [orderOk, Bool.and_eq_true] at ho
    obtain ⟨⟨ho1, ho2⟩, ho3⟩ := ho
    have hsee1 : ∀ w, (ops[t.place]?).map (fun o => seeOp P ops w a o t) = some (wantOp w t) := fun w => (List.cons.inj (hsee w)).1
    have hsee2 : ∀ w, sees P ops w L (t.put a) = wants w L := fun w => (List.cons.inj (hsee w)).2
    obtain ⟨o, hop⟩ : ∃ o, ops[t.place]? = some o := by
      cases hx : ops[t.place]? with
      | none => have := hsee1 default; rw [hx] at this; cases this
      | some o => exact ⟨o, rfl⟩
    obtain ⟨⟨v, hv, hy⟩, hf2⟩ := one_of hop hsee1 hf
    subst hn
    exact wpAnyH_take hop hs ho1 ho2 (fun c a w h => hQ _ _ c a w h) hy hS (by rw [← hv]; exact ih (m := m) rfl ho3 hsee2 hf2 hS h)
/-- Its beginning: what is known of the world goes on. -/
theorem wp_region_M {id : Nat} {a : Act} {w : World} (S S0 : World → Prop) (hm : P.follows .mixedOrders = true) (h0 : S0 w.drew)
    (h : ∀ Y, S0 Y → wpAnyH P .any ops Q S ops.size (Array.replicate ops.size false) a Y) : (Code.region id ops true).wp P Q a w := wp_region_held hm (h _ h0)
/-- In a region that goes in order, from place k on. -/
def wpFrom (P : Program) (ops : Array Oper) (Q : Exit → Act → World → Prop) (k : Nat) (a : Act) (w : World) : Prop := wpList P ops Q (ops.toList.drop k) a w
theorem wp_region_from {id : Nat} {a : Act} {w : World} (h : wpFrom P ops Q 0 a w) : (Code.region id ops false).wp P Q a w := wp_region_list h
theorem wp_region_fromM {id : Nat} {a : Act} {w : World} (S0 : World → Prop) (h0 : S0 w) (h : ∀ Y, S0 Y → wpFrom P ops Q 0 a Y) : (Code.region id ops false).wp P Q a w := wp_region_from (h _ h0)
theorem wpFrom_step {k : Nat} {a : Act} {w : World} {o : Oper} (ho : ops[k]? = some o)
    (h : ∀ K : Act → World → Prop, (∀ a w, wpFrom P ops Q (k + 1) a w → K a w) → if Region.wanted o (yielded ops a.tmps) = true then o.wp P a w K Q else K (a.put o.dst undef) w) : wpFrom P ops Q k a w := by
  have hk : k < ops.toList.length := by simpa using (Array.getElem?_eq_some_iff.1 ho).1
  have e : ops.toList.drop k = o :: ops.toList.drop (k + 1) := by
    rw [List.drop_eq_getElem_cons hk]
    congr 1
    simpa using (Array.getElem?_eq_some_iff.1 ho).2
  unfold wpFrom
  rw [e]
  exact wpList_step fun K hK => h K hK
theorem wpFrom_takes (L : List Tk) : ∀ {k m : Nat} {a : Act} {w : World}, m = k + L.length → L.map Tk.place = List.range' k L.length → (∀ w, sees P ops w L a = wants w L) → FactsAt P w L →
      wpFrom P ops Q m (puts L a) w → wpFrom P ops Q k a w := by
  induction L with
  | nil => intro k m a w hm _ _ _ h; subst hm; exact h
  | cons t L ih =>
    intro k m a w hm hp hsee hf h
    have hsee1 : ∀ w, (ops[t.place]?).map (fun o => seeOp P ops w a o t) = some (wantOp w t) := fun w => (List.cons.inj (hsee w)).1
    have hsee2 : ∀ w, sees P ops w L (t.put a) = wants w L := fun w => (List.cons.inj (hsee w)).2
    rw [List.map_cons, List.length_cons, List.range'_succ] at hp
    obtain ⟨hp1, hp2⟩ := List.cons.inj hp
    obtain ⟨o, hop⟩ : ∃ o, ops[t.place]? = some o := by
      cases hx : ops[t.place]? with
      | none => have := hsee1 default; rw [hx] at this; cases this
      | some o => exact ⟨o, rfl⟩
    have hf2 : FactsAt P w L := by cases t <;> first | exact hf.2 | exact hf
    obtain ⟨⟨v, hv, hy⟩, _⟩ := one_of hop hsee1 (factsAt hf)
    refine wpFrom_step (by rw [← hp1]; exact hop) fun K hK => ?_
    have hgo : wpFrom P ops Q (k + 1) (a.put o.dst v) w := by rw [← hv]; exact ih (m := m) (by simpa [Nat.add_assoc, Nat.add_comm 1] using hm) hp2 hsee2 hf2 h
    rcases hy with ⟨hw, hr⟩ | ⟨hw, rfl⟩
    · rw [if_pos hw]
      unfold Oper.wp
      rw [hr w rfl]
      exact hK _ _ hgo
    · rw [if_neg (by rw [hw]; decide)]
      exact hK _ _ hgo
theorem wpFrom_done {k : Nat} {a : Act} {w : World} (hk : ops.size ≤ k) (h : Q .normal a w) : wpFrom P ops Q k a w := by
  unfold wpFrom
  rw [List.drop_of_length_le (by simpa using hk)]
  exact wpList_nil h
/-- What an operation comes to. -/
def runAt (P : Program) (ops : Array Oper) (i : Nat) (a : Act) (w : World) : Option (Bool × Option Tmp × Result Next) := (ops[i]?).map fun o => (Region.wanted o (yielded ops a.tmps), o.dst, (execOp a.eval o).run P w)
def Goes (Q : Exit → Act → World → Prop) (K : Act → World → Prop) (a : Act) (d : Option Tmp) : Ending → World → Prop
  | .returned v, w => K (a.put d v) w
  | .panicked c, w => Q (.panic c) a w
  | .outgrown, _ => LetsOut Q
theorem op_call {i : Nat} {o : Oper} {a : Act} {w : World} {d : Option Tmp} {f : FuncId} {args : Array Value} {K : Act → World → Prop} (ho : ops[i]? = some o) (hr : runAt P ops i a w = some (true, d, .ok (.enter f args) w)) (hc : Calls P f args w (Goes Q K a d)) :
    if Region.wanted o (yielded ops a.tmps) = true then o.wp P a w K Q else K (a.put o.dst undef) w := by
  unfold runAt at hr
  rw [ho] at hr
  have h := Option.some.inj hr
  have h1 : Region.wanted o (yielded ops a.tmps) = true := congrArg Prod.fst h
  have h2 : o.dst = d := congrArg (fun x => x.2.1) h
  have h3 : (execOp a.eval o).run P w = .ok (.enter f args) w := congrArg (fun x => x.2.2) h
  rw [if_pos h1]
  unfold Oper.wp
  rw [h3]
  refine hc.mono fun e w' he => ?_
  rw [h2]
  cases e <;> exact he
theorem op_run {i : Nat} {o : Oper} {a : Act} {w w' : World} {d : Option Tmp} {v : Value} {K : Act → World → Prop} (ho : ops[i]? = some o) (hr : runAt P ops i a w = some (true, d, .ok (.value v) w')) (hc : K (a.put d v) w') :
    if Region.wanted o (yielded ops a.tmps) = true then o.wp P a w K Q else K (a.put o.dst undef) w := by
  unfold runAt at hr
  rw [ho] at hr
  have h := Option.some.inj hr
  have h1 : Region.wanted o (yielded ops a.tmps) = true := congrArg Prod.fst h
  have h2 : o.dst = d := congrArg (fun x => x.2.1) h
  have h3 : (execOp a.eval o).run P w = .ok (.value v) w' := congrArg (fun x => x.2.2) h
  rw [if_pos h1]
  unfold Oper.wp
  rw [h3]
  have : K (a.put o.dst v) w' := by rw [h2]; exact hc
  exact this
/-- A store's operands. -/
def storeAt (ops : Array Oper) (i : Nat) (a : Act) : Option (Bool × Option Tmp × Option (TypeId × Value × Value)) := (ops[i]?).map fun o => (Region.wanted o (yielded ops a.tmps), o.dst, match o.op with | .store ty x y => some (ty, a.eval x, a.eval y) | _ => none)
theorem op_store {i : Nat} {o : Oper} {a : Act} {w w' : World} {ty : TypeId} {p v : Value} {K : Act → World → Prop} (ho : ops[i]? = some o) (hr : storeAt ops i a = some (true, none, some (ty, p, v))) (hst : (Instr.storeAt ty p v).run P w = .ok () w') (hc : K a w') :
    if Region.wanted o (yielded ops a.tmps) = true then o.wp P a w K Q else K (a.put o.dst undef) w := by
  unfold storeAt at hr
  rw [ho] at hr
  have h := Option.some.inj hr
  have h1 : Region.wanted o (yielded ops a.tmps) = true := congrArg Prod.fst h
  have h2 : o.dst = none := congrArg (fun x => x.2.1) h
  have h3 := congrArg (fun x => x.2.2) h
  rw [if_pos h1]
  dsimp only at h3
  split at h3
  · rename_i ty' x y hop
    obtain ⟨rfl, rfl, rfl⟩ := by simpa using h3
    unfold Oper.wp execOp
    simp only [hop, Sem.run_bind, hst, Result.andThen_ok]
    have : K (a.put o.dst undef) w' := by rw [h2]; exact hc
    exact this
  · cases h3
theorem op_load {i : Nat} {o : Oper} {a : Act} {w : World} {d : Option Tmp} {ty : TypeId} {p v : Value} {K : Act → World → Prop} (ho : ops[i]? = some o) (hr : (ops[i]?).map (fun o => seeOp P ops w a o (.load i d ty p v)) = some (.got true d (some (ty, p)))) (hl : (Instr.loadAt ty p).run P w = .ok v w) (hc : K (a.put d v) w) :
    if Region.wanted o (yielded ops a.tmps) = true then o.wp P a w K Q else K (a.put o.dst undef) w := by
  rw [ho] at hr
  have h := Option.some.inj hr
  simp only [seeOp, See.got.injEq] at h
  obtain ⟨h1, h2, h3⟩ := h
  rw [if_pos h1]
  split at h3
  · rename_i ty' x hop
    obtain ⟨rfl, rfl⟩ := by simpa using h3
    unfold Oper.wp execOp
    simp only [hop, Sem.run_bind, hl, Result.andThen_ok]
    have : K (a.put o.dst v) w := by rw [h2]; exact hc
    exact this
  · cases h3
/-- An append's operands. -/
def appAt (ops : Array Oper) (i : Nat) (a : Act) : Option (Bool × Option Tmp × Option (TypeId × TypeId × TypeId × Value × Value)) := (ops[i]?).map fun o => (Region.wanted o (yielded ops a.tmps), o.dst, match o.op with | .call ⟨.builtin .append, ⟨[s, x]⟩, ⟨[t, t']⟩⟩ => some (t, t', o.type, a.eval s, a.eval x) | _ => none)
theorem op_append {i : Nat} {o : Oper} {a : Act} {w w' : World} {d : Option Tmp} {t t' ty : TypeId} {v x u : Value} {K : Act → World → Prop} (ho : ops[i]? = some o) (hr : appAt ops i a = some (true, d, some (t, t', ty, v, x))) (hst : (Builtin.append_ #[t, t'] ty #[v, x]).run P w = .ok u w') (hc : K (a.put d u) w') :
    if Region.wanted o (yielded ops a.tmps) = true then o.wp P a w K Q else K (a.put o.dst undef) w := by
  unfold appAt at hr
  rw [ho] at hr
  have h := Option.some.inj hr
  have h1 : Region.wanted o (yielded ops a.tmps) = true := congrArg Prod.fst h
  have h2 : o.dst = d := congrArg (fun x => x.2.1) h
  have h3 := congrArg (fun x => x.2.2) h
  rw [if_pos h1]
  dsimp only at h3
  split at h3
  · rename_i s y t1 t2 hop
    obtain ⟨rfl, rfl, rfl, rfl, rfl⟩ := by simpa using h3
    unfold Oper.wp execOp
    simp only [hop, resolve, invoke, builtin, Sem.run_bind, Sem.run_pure, Result.andThen_ok, List.map_toArray, List.map_cons, List.map_nil, hst]
    have : K (a.put o.dst u) w' := by rw [h2]; exact hc
    exact this
  · cases h3
/-- One operation comes up, in a region that draws. -/
def StepH (P : Program) (md : Region.Mode) (ops : Array Oper) (Q : Exit → Act → World → Prop) (S : World → Prop) (m : Nat) (listed : Array Bool) (a : Act) (w : World) (i : Nat) : Prop :=
  wpOp P ops Q i (fun a' w' => S w' ∧ wpAnyH P md ops Q S m (listed.setIfInBounds i true) a' w') a w
theorem wpAnyH_one {i m n : Nat} {listed : Array Bool} {a : Act} {w : World} (hr : Region.ready md ops listed = [i]) (hn : n = m + 1) (h : StepH P md ops Q S m listed a w i) : wpAnyH P md ops Q S n listed a w := by
  subst hn
  exact wpAnyH_all hr (by simp) fun j hj => by obtain rfl := List.mem_singleton.1 hj; exact h
theorem wpAnyH_two {i j m n : Nat} {listed : Array Bool} {a : Act} {w : World} (hr : Region.ready md ops listed = [i, j]) (hn : n = m + 1) (h1 : StepH P md ops Q S m listed a w i) (h2 : StepH P md ops Q S m listed a w j) : wpAnyH P md ops Q S n listed a w := by
  subst hn
  refine wpAnyH_all hr (by simp) fun k hk => ?_
  rcases List.mem_cons.1 hk with rfl | hk
  · exact h1
  · obtain rfl := List.mem_singleton.1 hk; exact h2
theorem stepH_of {m i : Nat} {listed : Array Bool} {a : Act} {w : World} {o : Oper} (ho : ops[i]? = some o)
    (h : if Region.wanted o (yielded ops a.tmps) = true then o.wp P a w (fun a' w' => S w' ∧ wpAnyH P md ops Q S m (listed.setIfInBounds i true) a' w') Q else (fun a' w' => S w' ∧ wpAnyH P md ops Q S m (listed.setIfInBounds i true) a' w') (a.put o.dst undef) w) : StepH P md ops Q S m listed a w i := by
  refine wpOp_step ho fun K' hK => ?_
  split at h
  · rename_i hw
    rw [if_pos hw]
    exact Oper.wp_mono (fun a w h => hK a w h) h
  · rename_i hw
    rw [if_neg hw]
    exact hK _ _ h
theorem some_of {α β : Type} {x : Option α} {f : α → β} {y : β} (h : x.map f = some y) : ∃ o, x = some o := by
  cases x with
  | none => cases h
  | some o => exact ⟨o, rfl⟩
theorem stepH_call {m i : Nat} {listed : Array Bool} {a : Act} {w : World} {d : Option Tmp} {f : FuncId} {args : Array Value} (hr : runAt P ops i a w = some (true, d, .ok (.enter f args) w))
    (hc : Calls P f args w (Goes Q (fun a' w' => S w' ∧ wpAnyH P md ops Q S m (listed.setIfInBounds i true) a' w') a d)) : StepH P md ops Q S m listed a w i := by
  obtain ⟨o, ho⟩ := some_of hr
  exact stepH_of ho (op_call ho hr hc)
theorem stepH_run {m i : Nat} {listed : Array Bool} {a : Act} {w w' : World} {d : Option Tmp} {v : Value} (hr : runAt P ops i a w = some (true, d, .ok (.value v) w')) (hS : S w') (h : wpAnyH P md ops Q S m (listed.setIfInBounds i true) (a.put d v) w') : StepH P md ops Q S m listed a w i := by
  obtain ⟨o, ho⟩ := some_of hr
  exact stepH_of ho (op_run ho hr ⟨hS, h⟩)
theorem stepH_store {m i : Nat} {listed : Array Bool} {a : Act} {w w' : World} {ty : TypeId} {p v : Value} (hr : storeAt ops i a = some (true, none, some (ty, p, v))) (hst : (Instr.storeAt ty p v).run P w = .ok () w') (hS : S w') (h : wpAnyH P md ops Q S m (listed.setIfInBounds i true) a w') : StepH P md ops Q S m listed a w i := by
  obtain ⟨o, ho⟩ := some_of hr
  exact stepH_of ho (op_store ho hr hst ⟨hS, h⟩)
theorem stepH_load {m i : Nat} {listed : Array Bool} {a : Act} {w : World} {d : Option Tmp} {ty : TypeId} {p v : Value} (hr : (ops[i]?).map (fun o => seeOp P ops w a o (.load i d ty p v)) = some (.got true d (some (ty, p)))) (hl : (Instr.loadAt ty p).run P w = .ok v w) (hS : S w) (h : wpAnyH P md ops Q S m (listed.setIfInBounds i true) (a.put d v) w) : StepH P md ops Q S m listed a w i := by
  obtain ⟨o, ho⟩ := some_of hr
  exact stepH_of ho (op_load ho hr hl ⟨hS, h⟩)
theorem stepH_append {m i : Nat} {listed : Array Bool} {a : Act} {w w' : World} {d : Option Tmp} {t t' ty : TypeId} {v x u : Value} (hr : appAt ops i a = some (true, d, some (t, t', ty, v, x))) (hst : (Builtin.append_ #[t, t'] ty #[v, x]).run P w = .ok u w') (hS : S w') (h : wpAnyH P md ops Q S m (listed.setIfInBounds i true) (a.put d u) w') : StepH P md ops Q S m listed a w i := by
  obtain ⟨o, ho⟩ := some_of hr
  exact stepH_of ho (op_append ho hr hst ⟨hS, h⟩)
theorem wpFrom_append {k : Nat} {a : Act} {w w' : World} {d : Option Tmp} {t t' ty : TypeId} {v x u : Value} (hr : appAt ops k a = some (true, d, some (t, t', ty, v, x))) (hst : (Builtin.append_ #[t, t'] ty #[v, x]).run P w = .ok u w') (h : wpFrom P ops Q (k + 1) (a.put d u) w') : wpFrom P ops Q k a w := by
  obtain ⟨o, ho⟩ := some_of hr
  exact wpFrom_step ho fun K hK => op_append ho hr hst (hK _ _ h)
/-- The same in a region that goes in order. -/
theorem wpFrom_call {k : Nat} {a : Act} {w : World} {d : Option Tmp} {f : FuncId} {args : Array Value} (hr : runAt P ops k a w = some (true, d, .ok (.enter f args) w)) (hc : Calls P f args w (Goes Q (wpFrom P ops Q (k + 1)) a d)) : wpFrom P ops Q k a w := by
  obtain ⟨o, ho⟩ := some_of hr
  refine wpFrom_step ho fun K hK => op_call ho hr (hc.mono fun e w' he => ?_)
  cases e with
  | returned v => exact hK _ _ he
  | panicked c => exact he
  | outgrown => exact he
theorem wpFrom_run {k : Nat} {a : Act} {w w' : World} {d : Option Tmp} {v : Value} (hr : runAt P ops k a w = some (true, d, .ok (.value v) w')) (h : wpFrom P ops Q (k + 1) (a.put d v) w') : wpFrom P ops Q k a w := by
  obtain ⟨o, ho⟩ := some_of hr
  exact wpFrom_step ho fun K hK => op_run ho hr (hK _ _ h)
theorem wpFrom_store {k : Nat} {a : Act} {w w' : World} {ty : TypeId} {p v : Value} (hr : storeAt ops k a = some (true, none, some (ty, p, v))) (hst : (Instr.storeAt ty p v).run P w = .ok () w') (h : wpFrom P ops Q (k + 1) a w') : wpFrom P ops Q k a w := by
  obtain ⟨o, ho⟩ := some_of hr
  exact wpFrom_step ho fun K hK => op_store ho hr hst (hK _ _ h)
/-! The same words in short: what the kernel reckons is asked of it at once. -/
abbrev pt (b o : Nat) : Value := .pointer (some ⟨b, o, none⟩)
theorem tD (m : Nat) (L : List Tk) {n : Nat} {listed : Array Bool} {a : Act} {w : World} (hf : Facts P S L) (hS : S w) (h : wpAnyH P md ops Q S m (listedBy L listed) (puts L a) w) (hs : Region.noSelect ops = true := by kernel_rfl) (hQ : ∀ d v c a w, Q (.panic c) (Act.put a d v) w → Q (.panic c) a w := by rintro (_ | _) _ _ _ _ h <;> exact h)
    (hn : n = m + L.length := by kernel_rfl) (ho : orderOk md ops L listed = true := by kernel_rfl) (hsee : ∀ w, sees P ops w L a = wants w L := by intro _; kernel_rfl) : wpAnyH P md ops Q S n listed a w := wpAnyH_takes L hs hQ hn ho hsee hf hS h
theorem tF (m : Nat) (L : List Tk) {k : Nat} {a : Act} {w : World} (hf : FactsAt P w L) (h : wpFrom P ops Q m (puts L a) w) (hm : m = k + L.length := by kernel_rfl) (hp : L.map Tk.place = List.range' k L.length := by kernel_rfl) (hsee : ∀ w, sees P ops w L a = wants w L := by intro _; kernel_rfl) : wpFrom P ops Q k a w := wpFrom_takes L hm hp hsee hf h
theorem oD (i m : Nat) {n : Nat} {listed : Array Bool} {a : Act} {w : World} (h : StepH P md ops Q S m listed a w i) (hr : Region.ready md ops listed = [i] := by kernel_rfl) (hn : n = m + 1 := by kernel_rfl) : wpAnyH P md ops Q S n listed a w := wpAnyH_one hr hn h
theorem oT (i j m : Nat) {n : Nat} {listed : Array Bool} {a : Act} {w : World} (h1 : StepH P md ops Q S m listed a w i) (h2 : StepH P md ops Q S m listed a w j) (hr : Region.ready md ops listed = [i, j] := by kernel_rfl) (hn : n = m + 1 := by kernel_rfl) : wpAnyH P md ops Q S n listed a w := wpAnyH_two hr hn h1 h2
theorem cD (d : Option Tmp) (f : FuncId) (args : Array Value) {m i : Nat} {listed : Array Bool} {a : Act} {w : World} (hc : Calls P f args w (Goes Q (fun a' w' => S w' ∧ wpAnyH P md ops Q S m (listed.setIfInBounds i true) a' w') a d)) (hr : runAt P ops i a w = some (true, d, .ok (.enter f args) w) := by kernel_rfl) : StepH P md ops Q S m listed a w i := stepH_call hr hc
theorem cF (d : Option Tmp) (f : FuncId) (args : Array Value) {k : Nat} {a : Act} {w : World} (hc : Calls P f args w (Goes Q (wpFrom P ops Q (k + 1)) a d)) (hr : runAt P ops k a w = some (true, d, .ok (.enter f args) w) := by kernel_rfl) : wpFrom P ops Q k a w := wpFrom_call hr hc
theorem rD (d : Option Tmp) (v : Value) (w' : World) {m i : Nat} {listed : Array Bool} {a : Act} {w : World} (hS : S w') (h : wpAnyH P md ops Q S m (listed.setIfInBounds i true) (a.put d v) w') (hr : runAt P ops i a w = some (true, d, .ok (.value v) w') := by kernel_rfl) : StepH P md ops Q S m listed a w i := stepH_run hr hS h
theorem rF (d : Option Tmp) (v : Value) (w' : World) {k : Nat} {a : Act} {w : World} (h : wpFrom P ops Q (k + 1) (a.put d v) w') (hr : runAt P ops k a w = some (true, d, .ok (.value v) w') := by kernel_rfl) : wpFrom P ops Q k a w := wpFrom_run hr h
theorem sD (ty : TypeId) (p v : Value) {m i : Nat} {listed : Array Bool} {a : Act} {w w' : World} (hst : (Instr.storeAt ty p v).run P w = .ok () w') (hS : S w') (h : wpAnyH P md ops Q S m (listed.setIfInBounds i true) a w') (hr : storeAt ops i a = some (true, none, some (ty, p, v)) := by kernel_rfl) : StepH P md ops Q S m listed a w i := stepH_store hr hst hS h
theorem sF (ty : TypeId) (p v : Value) {k : Nat} {a : Act} {w w' : World} (hst : (Instr.storeAt ty p v).run P w = .ok () w') (h : wpFrom P ops Q (k + 1) a w') (hr : storeAt ops k a = some (true, none, some (ty, p, v)) := by kernel_rfl) : wpFrom P ops Q k a w := wpFrom_store hr hst h
theorem lD (d : Option Tmp) (ty : TypeId) (p v : Value) {m i : Nat} {listed : Array Bool} {a : Act} {w : World} (hl : (Instr.loadAt ty p).run P w = .ok v w) (hS : S w) (h : wpAnyH P md ops Q S m (listed.setIfInBounds i true) (a.put d v) w) (hr : (ops[i]?).map (fun o => seeOp P ops w a o (.load i d ty p v)) = some (.got true d (some (ty, p))) := by kernel_rfl) : StepH P md ops Q S m listed a w i := stepH_load hr hl hS h
theorem dF {k : Nat} {a : Act} {w : World} (h : Q .normal a w) (hk : Nat.ble ops.size k = true := by kernel_rfl) : wpFrom P ops Q k a w := wpFrom_done (Nat.le_of_ble_eq_true hk) h
theorem dD {n : Nat} {listed : Array Bool} {a : Act} {w : World} (h : Q .normal a w) (hr : Region.ready md ops listed = [] := by kernel_rfl) : wpAnyH P md ops Q S n listed a w := wpAnyH_done hr h n
end
end Go.Proofs.Ytakeickgjplahaa
