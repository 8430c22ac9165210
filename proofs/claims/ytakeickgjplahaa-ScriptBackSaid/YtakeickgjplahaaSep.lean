/-
  Parts of memory that stand beside one another: what is known of some blocks stays known, whatever is done to others.
-/
import Derived.Test.YtakeickgjplahaaRsl
import Derived.Deep.WholeRow
namespace Go.Proofs.Ytakeickgjplahaa
open Go.RowKit Go.Shelf

/-- Nothing has turned outside of some blocks. -/
structure Out (F : List Nat) (w W : World) : Prop where
  os : W.os = w.os
  tape : W.tape = w.tape
  output : W.output = w.output
  size : w.heap.size ≤ W.heap.size
  block : ∀ k, k < w.heap.size → k ∉ F → W.heap[k]? = w.heap[k]?
theorem Out.refl (F : List Nat) (w : World) : Out F w w := ⟨rfl, rfl, rfl, Nat.le_refl _, fun _ _ _ => rfl⟩
theorem Out.of_below {F : List Nat} {w W : World} (h : Below w.heap.size w W) : Out F w W := ⟨h.os, h.tape, h.output, h.size, fun k hk _ => h.block k hk⟩
theorem Out.below {w W : World} (h : Out [] w W) : Below w.heap.size w W := ⟨h.os, h.tape, h.output, h.size, fun k hk => h.block k hk (by simp)⟩
theorem Out.of_grown {F : List Nat} {row : Option Nat} {w W : World} (h : w.grownBy W row) (hr : ∀ k, row = some k → k ∈ F) : Out F w W :=
  ⟨h.os, h.tape, h.output, h.size, fun k hk hF => h.block k hk (fun e => hF (hr k e.symm))⟩
theorem Out.trans {F G : List Nat} {w W W' : World} (h : Out F w W) (h' : Out G W W') (hG : ∀ k ∈ G, k ∈ F ∨ w.heap.size ≤ k) : Out F w W' :=
  ⟨h'.os.trans h.os, h'.tape.trans h.tape, h'.output.trans h.output, Nat.le_trans h.size h'.size, fun k hk hF =>
    (h'.block k (Nat.lt_of_lt_of_le hk h.size) (fun e => (hG k e).elim hF (fun e => absurd hk (Nat.not_lt.2 e)))).trans (h.block k hk hF)⟩
theorem Out.drew {F : List Nat} {w W : World} (h : Out F w W) : Out F w W.drew := ⟨h.os, h.tape, h.output, h.size, h.block⟩
/-- What is known of some blocks, whatever the others are. -/
structure Res where
  foot : List Nat
  holds : World → Prop
  stab : ∀ {W W' : World}, (∀ k ∈ foot, W'.heap[k]? = W.heap[k]?) → holds W → holds W'
/-- A block that is known whole. -/
def Res.blk (B : Nat) (T : TypeId) (cs : List Value) : Res where
  foot := [B]
  holds := fun W => Blk W B T cs
  stab := fun h hB => (h B (List.mem_singleton.2 rfl)).trans hB
/-- A row of the call's own. -/
def Res.own {α : Type} (f : α → List Value) (e : TypeId) (n : Nat) (v : Value) (l : List α) : Res where
  foot := v.ownBlock.toList
  holds := fun W => W.ownsRow 0 e n v l.length (flatR f l)
  stab := fun {W W'} h hr => by
    refine ⟨hr.1, hr.2.elim .inl fun ⟨g, cap, cur, hv, hg, hb, hx⟩ => .inr ⟨g, cap, cur, hv, hg, ?_, hx⟩⟩
    subst hv
    exact (h g (by simp [Value.ownBlock])).trans hb
/-- It holds, and lies within memory. -/
structure ROk (r : Res) (W : World) : Prop where
  h : r.holds W
  lt : ∀ k ∈ r.foot, k < W.heap.size
/-- It becomes another one, and nothing else has turned. -/
structure RTurn (r r' : Res) (W W' : World) : Prop where
  ok : ROk r' W'
  out : Out r.foot W W'
  foot : ∀ k ∈ r'.foot, k ∈ r.foot ∨ W.heap.size ≤ k
abbrev Apart (r s : Res) : Prop := ∀ k ∈ r.foot, k ∉ s.foot
/-- Some of these side by side; what was there when the call began is as it was, but for the blocks F. -/
structure Sep (w : World) (F : List Nat) (l : List Res) (W : World) : Prop where
  ok : ∀ r ∈ l, ROk r W
  new : ∀ r ∈ l, ∀ k ∈ r.foot, k ∈ F ∨ w.heap.size ≤ k
  apart : l.Pairwise Apart
  out : Out F w W
section
variable {w W W' : World} {F : List Nat} {l : List Res} {r r' : Res}
theorem Sep.start (w : World) : Sep w [] [] w := ⟨fun _ h => (List.not_mem_nil h).elim, fun _ h => (List.not_mem_nil h).elim, List.Pairwise.nil, Out.refl _ _⟩
theorem Sep.b (h : Sep w [] l W) : Below w.heap.size w W := h.out.below
theorem Sep.size (h : Sep w F l W) : w.heap.size ≤ W.heap.size := h.out.size
theorem Sep.oka (h : Sep w F l W) (i : Nat) (hi : l[i]? = some r) : ROk r W := h.ok _ (List.mem_of_getElem? hi)
theorem Sep.at (h : Sep w F l W) (i : Nat) {B : Nat} {T : TypeId} {cs : List Value} (hi : l[i]? = some (.blk B T cs)) : Blk W B T cs := (h.oka i hi).h
theorem Sep.drew (h : Sep w F l W) : Sep w F l W.drew := ⟨fun r hr => ⟨r.stab (W := W) (W' := W.drew) (fun _ _ => rfl) (h.ok r hr).h, (h.ok r hr).lt⟩, h.new, h.apart, h.out.drew⟩
theorem Sep.sub (h : Sep w F l W) {l' : List Res} (hs : l'.Sublist l) : Sep w F l' W := ⟨fun r hr => h.ok r (hs.mem hr), fun r hr => h.new r (hs.mem hr), h.apart.sublist hs, h.out⟩
theorem Sep.tail (h : Sep w F (r :: l) W) : Sep w F l W := h.sub (List.sublist_cons_self _ _)
theorem ROk.stay (h : ROk r W) {G : List Nat} (ho : Out G W W') (hd : ∀ k ∈ G, k ∉ r.foot) : ROk r W' :=
  ⟨r.stab (fun k hk => ho.block k (h.lt k hk) (fun e => hd k e hk)) h.h, fun k hk => Nat.lt_of_lt_of_le (h.lt k hk) ho.size⟩
/-- A call that makes memory alone. -/
theorem Sep.below (h : Sep w F l W) (hb : Below W.heap.size W W') : Sep w F l W' :=
  ⟨fun r hr => (h.ok r hr).stay (G := []) (Out.of_below hb) (fun _ e => (List.not_mem_nil e).elim), h.new, h.apart, h.out.trans (Out.of_below (F := []) hb) (fun _ e => (List.not_mem_nil e).elim)⟩
/-- What has just been made. -/
theorem Sep.add (h : Sep w F l W) (hb : Below W.heap.size W W') (hr : ROk r W') (hf : ∀ k ∈ r.foot, W.heap.size ≤ k) : Sep w F (r :: l) W' := by
  have h' := h.below hb
  refine ⟨fun s hs => ?_, fun s hs k hk => ?_, List.pairwise_cons.2 ⟨fun s hs k hk e => ?_, h'.apart⟩, h'.out⟩
  · rcases List.mem_cons.1 hs with rfl | hs
    · exact hr
    · exact h'.ok s hs
  · rcases List.mem_cons.1 hs with rfl | hs
    · exact .inr (Nat.le_trans h.size (hf k hk))
    · exact h.new s hs k hk
  · exact absurd ((h.ok s hs).lt k e) (Nat.not_lt.2 (hf k hk))
theorem Sep.alloc (h : Sep w F l W) (T : TypeId) (cs : List Value) : Sep w F (.blk W.heap.size T cs :: l) (W.alloc (.cells cs.toArray T)) :=
  h.add ((Below.refl _ W).alloc (Nat.le_refl _) _) ⟨Blk.new W T cs, fun k hk => by obtain rfl := List.mem_singleton.1 hk; exact (Blk.new W T cs).lt⟩ (fun _ hk => by obtain rfl := List.mem_singleton.1 hk; exact Nat.le_refl _)
theorem Sep.other (h : Sep w F l W) (o : Obj) : Sep w F l (W.alloc o) := h.below ((Below.refl _ W).alloc (Nat.le_refl _) _)
theorem Sep.row {α : Type} {f : α → List Value} {e : TypeId} {n : Nat} {v : Value} {x : List α} (h : Sep w F l W) (hO : W'.ownsRow W.heap.size e n v x.length (flatR f x)) (hb : Below W.heap.size W W') : Sep w F (.own f e n v x :: l) W' := by
  have hl := World.ownsRow.lt hO
  have hm : ∀ k ∈ v.ownBlock.toList, v.ownBlock = some k := fun k hk => by simpa using hk
  refine h.add hb ⟨⟨hO.1, hO.2.elim .inl fun ⟨g, cap, cur, hv, _, hx⟩ => .inr ⟨g, cap, cur, hv, Nat.zero_le _, hx⟩⟩, fun k hk => (hl k (hm k hk)).2⟩ (fun k hk => (hl k (hm k hk)).1)
/-- An empty row. -/
theorem Sep.nil {α : Type} (f : α → List Value) (e : TypeId) (n : Nat) (h : Sep w F l W) : Sep w F (.own f e n (.slice none 0 0) [] :: l) W :=
  h.add (Below.refl _ W) ⟨World.ownsRow_nil _ _ _ _, fun _ hk => (List.not_mem_nil hk).elim⟩ (fun _ hk => (List.not_mem_nil hk).elim)
theorem out_turn (h : Sep w F l W) (hi : r ∈ l) (ht : RTurn r r' W W') : Out F w W' := h.out.trans ht.out (h.new r hi)
/-- One of them turns. -/
theorem Sep.turn (h : Sep w F l W) (i : Nat) (hi : l[i]? = some r) (ht : RTurn r r' W W') {l' : List Res} (hl : l.set i r' = l') : Sep w F l' W' := by
  subst hl
  have hlt : i < l.length := (List.getElem?_eq_some_iff.1 hi).1
  have hmem := List.mem_of_getElem? hi
  have ap : ∀ j s, l[j]? = some s → j ≠ i → ∀ k ∈ r.foot, k ∉ s.foot := fun j s hs hji k hk hks => by
    obtain ⟨hj, hs'⟩ := List.getElem?_eq_some_iff.1 hs
    obtain ⟨_, hi'⟩ := List.getElem?_eq_some_iff.1 hi
    rcases Nat.lt_or_gt_of_ne hji with hl | hl
    · have := List.pairwise_iff_getElem.1 h.apart j i hj hlt hl
      rw [hs', hi'] at this
      exact this k hks hk
    · have := List.pairwise_iff_getElem.1 h.apart i j hlt hj hl
      rw [hs', hi'] at this
      exact this k hk hks
  have ok' : ∀ j s, l[j]? = some s → j ≠ i → ROk s W' := fun j s hs hji => (h.oka j hs).stay ht.out (ap j s hs hji)
  have far : ∀ j s, l[j]? = some s → j ≠ i → ∀ k ∈ r'.foot, k ∉ s.foot := fun j s hs hji k hk hks => by
    rcases ht.foot k hk with e | e
    · exact ap j s hs hji k e hks
    · exact absurd ((h.oka j hs).lt k hks) (Nat.not_lt.2 e)
  have get : ∀ j s, (l.set i r')[j]? = some s → (j = i ∧ s = r') ∨ (j ≠ i ∧ l[j]? = some s) := fun j s hs => by
    rw [List.getElem?_set] at hs
    by_cases e : i = j
    · subst e
      rw [if_pos rfl, if_pos hlt] at hs
      exact .inl ⟨rfl, (Option.some.inj hs).symm⟩
    · rw [if_neg e] at hs
      exact .inr ⟨fun x => e x.symm, hs⟩
  refine ⟨fun s hs => ?_, fun s hs k hk => ?_, List.pairwise_iff_getElem.2 fun a b ha hb hab k hk hkb => ?_, out_turn h hmem ht⟩
  · obtain ⟨j, hj⟩ := List.mem_iff_getElem?.1 hs
    rcases get j s hj with ⟨_, rfl⟩ | ⟨hne, hj⟩
    · exact ht.ok
    · exact ok' j s hj hne
  · obtain ⟨j, hj⟩ := List.mem_iff_getElem?.1 hs
    rcases get j s hj with ⟨_, rfl⟩ | ⟨hne, hj⟩
    · rcases ht.foot k hk with e | e
      · exact h.new r hmem k e
      · exact .inr (Nat.le_trans h.size e)
    · exact h.new s (List.mem_of_getElem? hj) k hk
  · have ea := get a _ (List.getElem?_eq_getElem ha)
    have eb := get b _ (List.getElem?_eq_getElem hb)
    rcases ea with ⟨ha1, ha2⟩ | ⟨ha1, ha2⟩ <;> rcases eb with ⟨hb1, hb2⟩ | ⟨hb1, hb2⟩
    · omega
    · rw [ha2] at hk
      exact far b _ hb2 hb1 k hk hkb
    · rw [hb2] at hkb
      exact far a _ ha2 ha1 k hkb hk
    · obtain ⟨hal, ha'⟩ := List.getElem?_eq_some_iff.1 ha2
      obtain ⟨hbl, hb'⟩ := List.getElem?_eq_some_iff.1 hb2
      have := List.pairwise_iff_getElem.1 h.apart a b hal hbl hab
      rw [ha', hb'] at this
      exact this k hk hkb
theorem turn_blk {B : Nat} {T : TypeId} {cs cs' : List Value} (h : W.grownBy W' (some B)) (hB : Blk W' B T cs') : RTurn (.blk B T cs) (.blk B T cs') W W' :=
  ⟨⟨hB, fun k hk => by obtain rfl := List.mem_singleton.1 hk; exact hB.lt⟩, Out.of_grown h (fun _ e => by obtain rfl := Option.some.inj e; exact List.mem_singleton.2 rfl), fun _ hk => .inl hk⟩
/-- A store into a block that is known whole. -/
theorem Sep.set (h : Sep w F l W) (i : Nat) {B : Nat} {T : TypeId} {cs cs' : List Value} (hi : l[i]? = some (.blk B T cs)) {l' : List Res} (hl : l.set i (.blk B T cs') = l') : Sep w F l' (W.setRow B cs'.toArray) :=
  h.turn i hi (turn_blk (grownBy_row W B _) (Blk.row (show Blk W B T cs from (h.oka i hi).h) cs')) hl
/-- A row turns (an append, a store into it). -/
theorem turn_own {α : Type} {f : α → List Value} {e : TypeId} {n : Nat} {v v' : Value} {x x' : List α} (hO : W'.ownsRow 0 e n v' x'.length (flatR f x')) (hg : W.grownBy W' v.ownBlock) (hv : ∀ k, v'.ownBlock = some k → v.ownBlock = some k ∨ W.heap.size ≤ k) : RTurn (.own f e n v x) (.own f e n v' x') W W' :=
  ⟨⟨hO, fun k hk => (World.ownsRow.lt hO k (by simpa [Res.own] using hk)).2⟩, Out.of_grown hg (fun k e => by show k ∈ v.ownBlock.toList; rw [e]; exact List.mem_singleton.2 rfl), fun k hk => (hv k (by simpa [Res.own] using hk)).imp (fun e => by show k ∈ v.ownBlock.toList; rw [e]; exact List.mem_singleton.2 rfl) id⟩
/-- A row, as what is read. -/
theorem ROk.rsl {α : Type} {f : α → List Value} {e : TypeId} {n : Nat} {v : Value} {x : List α} (h : ROk (.own f e n v x) W) (hn : ∀ y, (f y).length = n) : RSl f 0 W.heap.size W v x := RSl.of_own hn h.h
end
/-- Some of them as one. -/
def Res.join (l : List Res) : Res where
  foot := l.flatMap (·.foot)
  holds := fun W => (∀ r ∈ l, r.holds W) ∧ l.Pairwise Apart
  stab := fun h hl => ⟨fun r hr => r.stab (fun k hk => h k (List.mem_flatMap.2 ⟨r, hr, hk⟩)) (hl.1 r hr), hl.2⟩
section
variable {w W W' : World} {F : List Nat} {l ps qs : List Res} {r r' : Res}
theorem join_mem {k : Nat} (h : r ∈ ps) (hk : k ∈ r.foot) : k ∈ (Res.join ps).foot := List.mem_flatMap.2 ⟨r, h, hk⟩
/-- A call to which something is given begins. -/
theorem Sep.begin (h : ROk (.join ps) w) : Sep w (Res.join ps).foot ps w :=
  ⟨fun r hr => ⟨h.h.1 r hr, fun k hk => h.lt k (join_mem hr hk)⟩, fun _ hr _ hk => .inl (join_mem hr hk), h.h.2, Out.refl _ _⟩
/-- It ends. -/
theorem Sep.fin (h : Sep w (Res.join ps).foot l W) (hs : qs.Sublist l) : RTurn (.join ps) (.join qs) w W :=
  ⟨⟨⟨fun r hr => (h.ok r (hs.mem hr)).h, h.apart.sublist hs⟩, fun k hk => by obtain ⟨r, hr, hk⟩ := List.mem_flatMap.1 hk; exact (h.ok r (hs.mem hr)).lt k hk⟩, h.out,
    fun k hk => by obtain ⟨r, hr, hk⟩ := List.mem_flatMap.1 hk; exact h.new r (hs.mem hr) k hk⟩
/-- What was made within is handed on as one. -/
theorem Sep.close (h : Sep w F (ps ++ l) W) : Sep w F (.join ps :: l) W := by
  refine ⟨fun r hr => ?_, fun r hr k hk => ?_, List.pairwise_cons.2 ⟨fun s hs k hk e => ?_, (List.pairwise_append.1 h.apart).2.1⟩, h.out⟩
  · rcases List.mem_cons.1 hr with rfl | hr
    · exact ⟨⟨fun r hr => (h.ok r (List.mem_append_left _ hr)).h, (List.pairwise_append.1 h.apart).1⟩, fun k hk => by obtain ⟨r, hr, hk⟩ := List.mem_flatMap.1 hk; exact (h.ok r (List.mem_append_left _ hr)).lt k hk⟩
    · exact h.ok r (List.mem_append_right _ hr)
  · rcases List.mem_cons.1 hr with rfl | hr
    · obtain ⟨r, hr, hk⟩ := List.mem_flatMap.1 hk
      exact h.new r (List.mem_append_left _ hr) k hk
    · exact h.new r (List.mem_append_right _ hr) k hk
  · obtain ⟨r, hr, hk⟩ := List.mem_flatMap.1 hk
    exact (List.pairwise_append.1 h.apart).2.2 r hr s hs k hk e
/-- One is parted. -/
theorem Sep.part (h : Sep w F (.join ps :: l) W) : Sep w F (ps ++ l) W := by
  have hj := h.ok _ (List.mem_cons_self ..)
  refine ⟨fun r hr => ?_, fun r hr k hk => ?_, List.pairwise_append.2 ⟨hj.h.2, (List.pairwise_cons.1 h.apart).2, fun r hr s hs k hk e => ?_⟩, h.out⟩
  · rcases List.mem_append.1 hr with hr | hr
    · exact ⟨hj.h.1 r hr, fun k hk => hj.lt k (join_mem hr hk)⟩
    · exact h.ok r (List.mem_cons_of_mem _ hr)
  · rcases List.mem_append.1 hr with hr | hr
    · exact h.new _ (List.mem_cons_self ..) k (join_mem hr hk)
    · exact h.new r (List.mem_cons_of_mem _ hr) k hk
  · exact (List.pairwise_cons.1 h.apart).1 s hs k (join_mem hr hk) e
/-- Another order. -/
theorem Sep.perm (h : Sep w F l W) {l' : List Res} (hp : l.Perm l') : Sep w F l' W :=
  ⟨fun r hr => h.ok r (hp.mem_iff.2 hr), fun r hr => h.new r (hp.mem_iff.2 hr), hp.pairwise h.apart (fun hab k hk e => hab k e hk), h.out⟩
theorem turn_below (h : ROk r W) (hb : Below W.heap.size W W') : RTurn r r W W' :=
  ⟨h.stay (G := []) (Out.of_below hb) (fun _ e => (List.not_mem_nil e).elim), Out.of_below hb, fun _ hk => .inl hk⟩
theorem RTurn.trans {r1 r2 r3 : Res} {W1 W2 W3 : World} (h : RTurn r1 r2 W1 W2) (h' : RTurn r2 r3 W2 W3) : RTurn r1 r3 W1 W3 :=
  ⟨h'.ok, h.out.trans h'.out h.foot, fun k hk => (h'.foot k hk).elim (h.foot k) (fun e => .inr (Nat.le_trans h.out.size e))⟩
end
end Go.Proofs.Ytakeickgjplahaa
