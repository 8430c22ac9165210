/-
  Parts of memory that stand beside one another: what is known of some blocks stays known, whatever is done to others; A row of the call's own grows: by one element, by all of another row; Operations of a region, many at once: what is reckoned is reckoned by the kernel in one equation; loads by facts on the world
-/
import Derived.Deep.WholeRow
import Derived.Maps.AppendAt
import Derived.OwnWalk
import Derived.Deep.RegionHeld3
import Derived.Test.YtemknjnljciioaaGreatProg
import Derived.Tactics
import Derived.KernelRfl
import Derived.Test.YtemknjnljciioaaGreatK01
namespace Go.Proofs.YtemknjnljciioaaGreat
open Go.RowKit Go.Shelf
structure Out (F : List Nat) (w W : World) : Prop where
  os : W.os = w.os
  tape : W.tape = w.tape
  output : W.output = w.output
  size : w.heap.size ≤ W.heap.size
  block : ∀ k, k < w.heap.size → k ∉ F → W.heap[k]? = w.heap[k]?
theorem Out.refl (F : List Nat) (w : World) : Out F w w := ⟨rfl, rfl, rfl, Nat.le_refl _, fun _ _ _ => rfl⟩
theorem Out.of_below {F : List Nat} {w W : World} (h : Below w.heap.size w W) : Out F w W := ⟨h.os, h.tape, h.output, h.size, fun k hk _ => h.block k hk⟩
theorem Out.below {w W : World} (h : Out [] w W) : Below w.heap.size w W := ⟨h.os, h.tape, h.output, h.size, fun k hk => h.block k hk (by simp)⟩
theorem Out.of_grown {F : List Nat} {row : Option Nat} {w W : World} (h : w.grownBy W row) (hr : ∀ k, row = some k → k ∈ F) : Out F w W :=
  ⟨h.os, h.tape, h.output, h.size, fun k hk hF => h.block k hk (fun e => hF (hr k e.symm))⟩
theorem Out.trans {F G : List Nat} {w W W' : World} (h : Out F w W) (h' : Out G W W') (hG : ∀ k ∈ G, k ∈ F ∨ w.heap.size ≤ k) : Out F w W' :=
  ⟨h'.os.trans h.os, h'.tape.trans h.tape, h'.output.trans h.output, Nat.le_trans h.size h'.size, fun k hk hF =>
    (h'.block k (Nat.lt_of_lt_of_le hk h.size) (fun e => (hG k e).elim hF (fun e => absurd hk (Nat.not_lt.2 e)))).trans (h.block k hk hF)⟩
theorem Out.drew {F : List Nat} {w W : World} (h : Out F w W) : Out F w W.drew := ⟨h.os, h.tape, h.output, h.size, h.block⟩
structure Res where
  foot : List Nat
  holds : World → Prop
  stab : ∀ {W W' : World}, (∀ k ∈ foot, W'.heap[k]? = W.heap[k]?) → holds W → holds W'
def Res.blk (B : Nat) (T : TypeId) (cs : List Value) : Res where
  foot := [B]
  holds := fun W => Blk W B T cs
  stab := fun h hB => (h B (List.mem_singleton.2 rfl)).trans hB
def Res.own {α : Type} (f : α → List Value) (e : TypeId) (n : Nat) (v : Value) (l : List α) : Res where
  foot := v.ownBlock.toList
  holds := fun W => W.ownsRow 0 e n v l.length (flatR f l)
  stab := fun {W W'} h hr => by
    refine ⟨hr.1, hr.2.elim .inl fun ⟨g, cap, cur, hv, hg, hb, hx⟩ => .inr ⟨g, cap, cur, hv, hg, ?_, hx⟩⟩
    subst hv
    exact (h g (by simp [Value.ownBlock])).trans hb
structure ROk (r : Res) (W : World) : Prop where
  h : r.holds W
  lt : ∀ k ∈ r.foot, k < W.heap.size
structure RTurn (r r' : Res) (W W' : World) : Prop where
  ok : ROk r' W'
  out : Out r.foot W W'
  foot : ∀ k ∈ r'.foot, k ∈ r.foot ∨ W.heap.size ≤ k
abbrev Apart (r s : Res) : Prop := ∀ k ∈ r.foot, k ∉ s.foot
structure Sep (w : World) (F : List Nat) (l : List Res) (W : World) : Prop where
  ok : ∀ r ∈ l, ROk r W
  new : ∀ r ∈ l, ∀ k ∈ r.foot, k ∈ F ∨ w.heap.size ≤ k
  apart : l.Pairwise Apart
  out : Out F w W
section
variable {w W W' : World} {F : List Nat} {l : List Res} {r r' : Res}
theorem Sep.start (w : World) : Sep w [] [] w := ⟨fun _ h => (List.not_mem_nil h).elim, fun _ h => (List.not_mem_nil h).elim, List.Pairwise.nil, Out.refl _ _⟩
theorem Sep.b (h : Sep w [] l W) : Below w.heap.size w W := h.out.below
theorem Sep.size (h : Sep w F l W) : w.heap.size ≤ W.heap.size := h.out.size
theorem Sep.oka (h : Sep w F l W) (i : Nat) (hi : l[i]? = some r) : ROk r W := h.ok _ (List.mem_of_getElem? hi)
theorem Sep.at (h : Sep w F l W) (i : Nat) {B : Nat} {T : TypeId} {cs : List Value} (hi : l[i]? = some (.blk B T cs)) : Blk W B T cs := (h.oka i hi).h
theorem Sep.drew (h : Sep w F l W) : Sep w F l W.drew := ⟨fun r hr => ⟨r.stab (W := W) (W' := W.drew) (fun _ _ => rfl) (h.ok r hr).h, (h.ok r hr).lt⟩, h.new, h.apart, h.out.drew⟩
theorem Sep.sub (h : Sep w F l W) {l' : List Res} (hs : l'.Sublist l) : Sep w F l' W := ⟨fun r hr => h.ok r (hs.mem hr), fun r hr => h.new r (hs.mem hr), h.apart.sublist hs, h.out⟩
theorem ROk.stay (h : ROk r W) {G : List Nat} (ho : Out G W W') (hd : ∀ k ∈ G, k ∉ r.foot) : ROk r W' :=
  ⟨r.stab (fun k hk => ho.block k (h.lt k hk) (fun e => hd k e hk)) h.h, fun k hk => Nat.lt_of_lt_of_le (h.lt k hk) ho.size⟩
theorem Sep.below (h : Sep w F l W) (hb : Below W.heap.size W W') : Sep w F l W' :=
  ⟨fun r hr => (h.ok r hr).stay (G := []) (Out.of_below hb) (fun _ e => (List.not_mem_nil e).elim), h.new, h.apart, h.out.trans (Out.of_below (F := []) hb) (fun _ e => (List.not_mem_nil e).elim)⟩
theorem Sep.add (h : Sep w F l W) (hb : Below W.heap.size W W') (hr : ROk r W') (hf : ∀ k ∈ r.foot, W.heap.size ≤ k) : Sep w F (r :: l) W' := by
  have h' := h.below hb
  refine ⟨fun s hs => ?_, fun s hs k hk => ?_, List.pairwise_cons.2 ⟨fun s hs k hk e => ?_, h'.apart⟩, h'.out⟩
  · rcases List.mem_cons.1 hs with rfl | hs
    · exact hr
    · exact h'.ok s hs
  · rcases List.mem_cons.1 hs with rfl | hs
    · exact .inr (Nat.le_trans h.size (hf k hk))
    · exact h.new s hs k hk
  · exact absurd ((h.ok s hs).lt k e) (Nat.not_lt.2 (hf k hk))
theorem Sep.alloc (h : Sep w F l W) (T : TypeId) (cs : List Value) : Sep w F (.blk W.heap.size T cs :: l) (W.alloc (.cells cs.toArray T)) :=
  h.add ((Below.refl _ W).alloc (Nat.le_refl _) _) ⟨Blk.new W T cs, fun k hk => by obtain rfl := List.mem_singleton.1 hk; exact (Blk.new W T cs).lt⟩ (fun _ hk => by obtain rfl := List.mem_singleton.1 hk; exact Nat.le_refl _)
theorem Sep.other (h : Sep w F l W) (o : Obj) : Sep w F l (W.alloc o) := h.below ((Below.refl _ W).alloc (Nat.le_refl _) _)
theorem Sep.row {α : Type} {f : α → List Value} {e : TypeId} {n : Nat} {v : Value} {x : List α} (h : Sep w F l W) (hO : W'.ownsRow W.heap.size e n v x.length (flatR f x)) (hb : Below W.heap.size W W') : Sep w F (.own f e n v x :: l) W' := by
  have hl := World.ownsRow.lt hO
  have hm : ∀ k ∈ v.ownBlock.toList, v.ownBlock = some k := fun k hk => by simpa using hk
  refine h.add hb ⟨⟨hO.1, hO.2.elim .inl fun ⟨g, cap, cur, hv, _, hx⟩ => .inr ⟨g, cap, cur, hv, Nat.zero_le _, hx⟩⟩, fun k hk => (hl k (hm k hk)).2⟩ (fun k hk => (hl k (hm k hk)).1)
theorem Sep.nil {α : Type} (f : α → List Value) (e : TypeId) (n : Nat) (h : Sep w F l W) : Sep w F (.own f e n (.slice none 0 0) [] :: l) W :=
  h.add (Below.refl _ W) ⟨World.ownsRow_nil _ _ _ _, fun _ hk => (List.not_mem_nil hk).elim⟩ (fun _ hk => (List.not_mem_nil hk).elim)
theorem out_turn (h : Sep w F l W) (hi : r ∈ l) (ht : RTurn r r' W W') : Out F w W' := h.out.trans ht.out (h.new r hi)
theorem Sep.turn (h : Sep w F l W) (i : Nat) (hi : l[i]? = some r) (ht : RTurn r r' W W') {l' : List Res} (hl : l.set i r' = l') : Sep w F l' W' := by
  subst hl
  have hlt : i < l.length := (List.getElem?_eq_some_iff.1 hi).1
  have hmem := List.mem_of_getElem? hi
  have ap : ∀ j s, l[j]? = some s → j ≠ i → ∀ k ∈ r.foot, k ∉ s.foot := fun j s hs hji k hk hks => by
    obtain ⟨hj, hs'⟩ := List.getElem?_eq_some_iff.1 hs
    obtain ⟨_, hi'⟩ := List.getElem?_eq_some_iff.1 hi
    rcases Nat.lt_or_gt_of_ne hji with hl | hl
    · have := List.pairwise_iff_getElem.1 h.apart j i hj hlt hl
      rw [hs', hi'] at this
      exact this k hks hk
    · have := List.pairwise_iff_getElem.1 h.apart i j hlt hj hl
      rw [hs', hi'] at this
      exact this k hk hks
  have ok' : ∀ j s, l[j]? = some s → j ≠ i → ROk s W' := fun j s hs hji => (h.oka j hs).stay ht.out (ap j s hs hji)
  have far : ∀ j s, l[j]? = some s → j ≠ i → ∀ k ∈ r'.foot, k ∉ s.foot := fun j s hs hji k hk hks => by
    rcases ht.foot k hk with e | e
    · exact ap j s hs hji k e hks
    · exact absurd ((h.oka j hs).lt k hks) (Nat.not_lt.2 e)
  have get : ∀ j s, (l.set i r')[j]? = some s → (j = i ∧ s = r') ∨ (j ≠ i ∧ l[j]? = some s) := fun j s hs => by
    rw [List.getElem?_set] at hs
    by_cases e : i = j
    · subst e
      rw [if_pos rfl, if_pos hlt] at hs
      exact .inl ⟨rfl, (Option.some.inj hs).symm⟩
    · rw [if_neg e] at hs
      exact .inr ⟨fun x => e x.symm, hs⟩
  refine ⟨fun s hs => ?_, fun s hs k hk => ?_, List.pairwise_iff_getElem.2 fun a b ha hb hab k hk hkb => ?_, out_turn h hmem ht⟩
  · obtain ⟨j, hj⟩ := List.mem_iff_getElem?.1 hs
    rcases get j s hj with ⟨_, rfl⟩ | ⟨hne, hj⟩
    · exact ht.ok
    · exact ok' j s hj hne
  · obtain ⟨j, hj⟩ := List.mem_iff_getElem?.1 hs
    rcases get j s hj with ⟨_, rfl⟩ | ⟨hne, hj⟩
    · rcases ht.foot k hk with e | e
      · exact h.new r hmem k e
      · exact .inr (Nat.le_trans h.size e)
    · exact h.new s (List.mem_of_getElem? hj) k hk
  · have ea := get a _ (List.getElem?_eq_getElem ha)
    have eb := get b _ (List.getElem?_eq_getElem hb)
    rcases ea with ⟨ha1, ha2⟩ | ⟨ha1, ha2⟩ <;> rcases eb with ⟨hb1, hb2⟩ | ⟨hb1, hb2⟩
    · omega
    · rw [ha2] at hk
      exact far b _ hb2 hb1 k hk hkb
    · rw [hb2] at hkb
      exact far a _ ha2 ha1 k hkb hk
    · obtain ⟨hal, ha'⟩ := List.getElem?_eq_some_iff.1 ha2
      obtain ⟨hbl, hb'⟩ := List.getElem?_eq_some_iff.1 hb2
      have := List.pairwise_iff_getElem.1 h.apart a b hal hbl hab
      rw [ha', hb'] at this
      exact this k hk hkb
theorem turn_blk {B : Nat} {T : TypeId} {cs cs' : List Value} (h : W.grownBy W' (some B)) (hB : Blk W' B T cs') : RTurn (.blk B T cs) (.blk B T cs') W W' :=
  ⟨⟨hB, fun k hk => by obtain rfl := List.mem_singleton.1 hk; exact hB.lt⟩, Out.of_grown h (fun _ e => by obtain rfl := Option.some.inj e; exact List.mem_singleton.2 rfl), fun _ hk => .inl hk⟩
theorem Sep.set (h : Sep w F l W) (i : Nat) {B : Nat} {T : TypeId} {cs cs' : List Value} (hi : l[i]? = some (.blk B T cs)) {l' : List Res} (hl : l.set i (.blk B T cs') = l') : Sep w F l' (W.setRow B cs'.toArray) :=
  h.turn i hi (turn_blk (grownBy_row W B _) (Blk.row (show Blk W B T cs from (h.oka i hi).h) cs')) hl
theorem turn_own {α : Type} {f : α → List Value} {e : TypeId} {n : Nat} {v v' : Value} {x x' : List α} (hO : W'.ownsRow 0 e n v' x'.length (flatR f x')) (hg : W.grownBy W' v.ownBlock) (hv : ∀ k, v'.ownBlock = some k → v.ownBlock = some k ∨ W.heap.size ≤ k) : RTurn (.own f e n v x) (.own f e n v' x') W W' :=
  ⟨⟨hO, fun k hk => (World.ownsRow.lt hO k (by simpa [Res.own] using hk)).2⟩, Out.of_grown hg (fun k e => by show k ∈ v.ownBlock.toList; rw [e]; exact List.mem_singleton.2 rfl), fun k hk => (hv k (by simpa [Res.own] using hk)).imp (fun e => by show k ∈ v.ownBlock.toList; rw [e]; exact List.mem_singleton.2 rfl) id⟩
theorem ROk.rsl {α : Type} {f : α → List Value} {e : TypeId} {n : Nat} {v : Value} {x : List α} (h : ROk (.own f e n v x) W) (hn : ∀ y, (f y).length = n) : RSl f 0 W.heap.size W v x := RSl.of_own hn h.h
end
def Res.join (l : List Res) : Res where
  foot := l.flatMap (·.foot)
  holds := fun W => (∀ r ∈ l, r.holds W) ∧ l.Pairwise Apart
  stab := fun h hl => ⟨fun r hr => r.stab (fun k hk => h k (List.mem_flatMap.2 ⟨r, hr, hk⟩)) (hl.1 r hr), hl.2⟩
section
variable {w W W' : World} {F : List Nat} {l ps qs : List Res} {r r' : Res}
theorem join_mem {k : Nat} (h : r ∈ ps) (hk : k ∈ r.foot) : k ∈ (Res.join ps).foot := List.mem_flatMap.2 ⟨r, h, hk⟩
theorem Sep.begin (h : ROk (.join ps) w) : Sep w (Res.join ps).foot ps w :=
  ⟨fun r hr => ⟨h.h.1 r hr, fun k hk => h.lt k (join_mem hr hk)⟩, fun _ hr _ hk => .inl (join_mem hr hk), h.h.2, Out.refl _ _⟩
theorem Sep.fin (h : Sep w (Res.join ps).foot l W) (hs : qs.Sublist l) : RTurn (.join ps) (.join qs) w W :=
  ⟨⟨⟨fun r hr => (h.ok r (hs.mem hr)).h, h.apart.sublist hs⟩, fun k hk => by obtain ⟨r, hr, hk⟩ := List.mem_flatMap.1 hk; exact (h.ok r (hs.mem hr)).lt k hk⟩, h.out,
    fun k hk => by obtain ⟨r, hr, hk⟩ := List.mem_flatMap.1 hk; exact h.new r (hs.mem hr) k hk⟩
theorem Sep.close (h : Sep w F (ps ++ l) W) : Sep w F (.join ps :: l) W := by
  refine ⟨fun r hr => ?_, fun r hr k hk => ?_, List.pairwise_cons.2 ⟨fun s hs k hk e => ?_, (List.pairwise_append.1 h.apart).2.1⟩, h.out⟩
  · rcases List.mem_cons.1 hr with rfl | hr
    · exact ⟨⟨fun r hr => (h.ok r (List.mem_append_left _ hr)).h, (List.pairwise_append.1 h.apart).1⟩, fun k hk => by obtain ⟨r, hr, hk⟩ := List.mem_flatMap.1 hk; exact (h.ok r (List.mem_append_left _ hr)).lt k hk⟩
    · exact h.ok r (List.mem_append_right _ hr)
  · rcases List.mem_cons.1 hr with rfl | hr
    · obtain ⟨r, hr, hk⟩ := List.mem_flatMap.1 hk
      exact h.new r (List.mem_append_left _ hr) k hk
    · exact h.new r (List.mem_append_right _ hr) k hk
  · obtain ⟨r, hr, hk⟩ := List.mem_flatMap.1 hk
    exact (List.pairwise_append.1 h.apart).2.2 r hr s hs k hk e
theorem Sep.part (h : Sep w F (.join ps :: l) W) : Sep w F (ps ++ l) W := by
  have hj := h.ok _ (List.mem_cons_self ..)
  refine ⟨fun r hr => ?_, fun r hr k hk => ?_, List.pairwise_append.2 ⟨hj.h.2, (List.pairwise_cons.1 h.apart).2, fun r hr s hs k hk e => ?_⟩, h.out⟩
  · rcases List.mem_append.1 hr with hr | hr
    · exact ⟨hj.h.1 r hr, fun k hk => hj.lt k (join_mem hr hk)⟩
    · exact h.ok r (List.mem_cons_of_mem _ hr)
  · rcases List.mem_append.1 hr with hr | hr
    · exact h.new _ (List.mem_cons_self ..) k (join_mem hr hk)
    · exact h.new r (List.mem_cons_of_mem _ hr) k hk
  · exact (List.pairwise_cons.1 h.apart).1 s hs k (join_mem hr hk) e
theorem turn_below (h : ROk r W) (hb : Below W.heap.size W W') : RTurn r r W W' :=
  ⟨h.stay (G := []) (Out.of_below hb) (fun _ e => (List.not_mem_nil e).elim), Out.of_below hb, fun _ hk => .inl hk⟩
theorem RTurn.trans {r1 r2 r3 : Res} {W1 W2 W3 : World} (h : RTurn r1 r2 W1 W2) (h' : RTurn r2 r3 W2 W3) : RTurn r1 r3 W1 W3 :=
  ⟨h'.ok, h.out.trans h'.out h.foot, fun k hk => (h'.foot k hk).elim (h.foot k) (fun e => .inr (Nat.le_trans h.out.size e))⟩
end
end Go.Proofs.YtemknjnljciioaaGreat
namespace Go.Proofs.YtemknjnljciioaaGreat
open Go.RowKit Go.Shelf
section
variable {α : Type} {f : α → List Value} {e S : TypeId} {n bytes : Nat} {z : Value} {v : Value} {l : List α} {W : World}
theorem turn_refl {r : Res} (h : ROk r W) : RTurn r r W W := turn_below h (Below.refl _ W)
theorem own_apps (hi0 : (Tryz.prog.info? e).map (fun i => (i.zero, i.size, i.bytes)) = some (some z, n, bytes)) (hzs : z.cells.size = n) (h0 : 0 < n) (hu : Tryz.prog.underlying S = some (.slice e)) (hn : ∀ x, (f x).length = n) (h1 : ∀ x, ∀ u ∈ f x, u.oneCell' = true)
    (h : ROk (.own f e n v l) W) (ys : List α) (a : Addr) (c : Nat) (hnews : ∀ j u, (flatR f ys)[j]? = some u → W.cell? (a.add j) = some u) (hb0 : 0 < bytes) (hr : (l.length + ys.length) * bytes ≤ 140737488355328) (ty : TypeId) :
    ∃ v' W', (Builtin.append_ #[S, S] ty #[v, .slice (some a) ys.length c]).run Tryz.prog W = .ok v' W' ∧ RTurn (.own f e n v l) (.own f e n v' (l ++ ys)) W W' := by
  obtain ⟨i0, hi, hz0, hz1, hz2⟩ := info_parts hi0
  have hlen : l.length + ys.length ≤ 140737488355328 := Nat.le_trans (Nat.le_mul_of_pos_right _ hb0) hr
  obtain ⟨v', W', hrun, h2, h3, _, h4⟩ := run_append_own_at (P := Tryz.prog) W 0 S ty e i0 z n bytes hu hi hz0 hz1 hz2 hzs h0 v l.length (flatR f l) h.h a ys.length c (flatR f ys) (flat_len hn ys) hnews
    (fun u hu' => by obtain ⟨x, _, hx⟩ := List.mem_flatMap.1 hu'; exact h1 x u hx) (by unfold maxLen; omega) hr (Nat.zero_le _)
  refine ⟨v', W', hrun, turn_own (by rw [List.length_append, flat_app]; exact h2) h3 (fun k hk => ?_)⟩
  rcases h4 with h4 | h4
  · exact .inl (h4 ▸ hk)
  · rw [h4] at hk
    exact .inr (Nat.le_of_eq (Option.some.inj hk))
theorem own_app1 (hi0 : (Tryz.prog.info? e).map (fun i => (i.zero, i.size, i.bytes)) = some (some z, n, bytes)) (hzs : z.cells.size = n) (h0 : 0 < n) (hu : Tryz.prog.underlying S = some (.slice e)) (hn : ∀ x, (f x).length = n) (h1 : ∀ x, ∀ u ∈ f x, u.oneCell' = true)
    (h : ROk (.own f e n v l) W) (x : α) {N : Nat} {T : TypeId} (hN : Blk W N T (f x)) (hb0 : 0 < bytes) (hr : (l.length + 1) * bytes ≤ 140737488355328) (ty : TypeId) :
    ∃ v' W', (Builtin.append_ #[S, S] ty #[v, .slice (some ⟨N, 0, none⟩) 1 1]).run Tryz.prog W = .ok v' W' ∧ RTurn (.own f e n v l) (.own f e n v' (l ++ [x])) W W' :=
  own_apps hi0 hzs h0 hu hn h1 h [x] ⟨N, 0, none⟩ 1 (fun j u hj => by rw [flat_one] at hj; rw [addr_add, Nat.zero_add]; exact (hN.cell j).trans hj) hb0 hr ty
theorem own_appR (hi0 : (Tryz.prog.info? e).map (fun i => (i.zero, i.size, i.bytes)) = some (some z, n, bytes)) (hzs : z.cells.size = n) (h0 : 0 < n) (hu : Tryz.prog.underlying S = some (.slice e)) (hn : ∀ x, (f x).length = n) (h1 : ∀ x, ∀ u ∈ f x, u.oneCell' = true)
    (h : ROk (.own f e n v l) W) {x : Value} {ys : List α} {lo hi : Nat} (hx : RSl f lo hi W x ys) (hb0 : 0 < bytes) (hr : (l.length + ys.length) * bytes ≤ 140737488355328) (ty : TypeId) :
    ∃ v' W', (Builtin.append_ #[S, S] ty #[v, x]).run Tryz.prog W = .ok v' W' ∧ RTurn (.own f e n v l) (.own f e n v' (l ++ ys)) W W' := by
  obtain ⟨a, c, rfl⟩ := hx.slice
  cases a with
  | some a => exact own_apps hi0 hzs h0 hu hn h1 h ys a c hx.cells hb0 hr ty
  | none =>
    obtain ⟨a', c', e', _, _, h0' | ⟨b, off, ha, _⟩⟩ := hx
    · subst h0'
      obtain ⟨i0, hi, hz0, hz1, hz2⟩ := info_parts hi0
      refine ⟨v, W, ?_, by rw [List.append_nil]; exact turn_refl h⟩
      rcases h.h.2 with ⟨rfl, hl0⟩ | ⟨g, cap, cur, rfl, _, hg, hnc, hcm, hcs, _⟩
      · simp [Builtin.append_, run_underlying hu, sizeOf, typeInfo, hi, Builtin.lenOf, Builtin.firstCells]
      · simp [Builtin.append_, run_underlying hu, sizeOf, typeInfo, hi, Builtin.lenOf, Builtin.firstCells, loadCells, hnc, storeCells]
    · cases e'
      cases ha
end
end Go.Proofs.YtemknjnljciioaaGreat
namespace Go.Proofs.YtemknjnljciioaaGreat
inductive Tk where
  | val (i : Nat) (d : Option Tmp) (v : Value)
  | load (i : Nat) (d : Option Tmp) (ty : TypeId) (p v : Value)
  | alt (i : Nat) (d : Option Tmp) (v u : Value)
  | skip (i : Nat) (d : Option Tmp)
  | idx (i : Nat) (d : Option Tmp) (ty : TypeId) (p x v : Value)
  | slc (i : Nat) (d : Option Tmp) (ty : TypeId) (x : Value) (lo hi mx : Option Value) (v : Value)
def Tk.place : Tk → Nat
  | .val i _ _ => i
  | .load i _ _ _ _ => i
  | .alt i _ _ _ => i
  | .skip i _ => i
  | .idx i _ _ _ _ _ => i
  | .slc i _ _ _ _ _ _ _ => i
def Tk.put (a : Act) : Tk → Act
  | .val _ d v => a.put d v
  | .load _ d _ _ v => a.put d v
  | .alt _ d _ u => a.put d u
  | .skip _ d => a.put d undef
  | .idx _ d _ _ _ v => a.put d v
  | .slc _ d _ _ _ _ _ v => a.put d v
def puts : List Tk → Act → Act
  | [], a => a
  | t :: L, a => puts L (t.put a)
inductive See where
  | run (b : Bool) (d : Option Tmp) (r : Result Next)
  | got (b : Bool) (d : Option Tmp) (t : Option (TypeId × Value))
  | no (b : Bool) (d : Option Tmp)
  | at (b : Bool) (d : Option Tmp) (t : Option (TypeId × Value × Value))
  | sl (b : Bool) (d : Option Tmp) (t : Option (TypeId × Value × Option Value × Option Value × Option Value))
def seeOp (P : Program) (ops : Array Oper) (w : World) (a : Act) (o : Oper) : Tk → See
  | .val _ _ _ => .run (Region.wanted o (yielded ops a.tmps)) o.dst ((execOp a.eval o).run P w)
  | .load _ _ _ _ _ => .got (Region.wanted o (yielded ops a.tmps)) o.dst (match o.op with | .load ty x => some (ty, a.eval x) | _ => none)
  | .alt _ _ _ _ => .run (Region.wanted o (yielded ops a.tmps)) o.dst ((execOp a.eval o).run P w)
  | .skip _ _ => .no (Region.wanted o (yielded ops a.tmps)) o.dst
  | .idx _ _ _ _ _ _ => .at (Region.wanted o (yielded ops a.tmps)) o.dst (match o.op with | .indexAddr ty x y => some (ty, a.eval x, a.eval y) | _ => none)
  | .slc _ _ _ _ _ _ _ _ => .sl (Region.wanted o (yielded ops a.tmps)) o.dst (match o.op with | .slice ty x lo hi mx => some (ty, a.eval x, lo.map a.eval, hi.map a.eval, mx.map a.eval) | _ => none)
def wantOp (w : World) : Tk → See
  | .val _ d v => .run true d (.ok (.value v) w)
  | .load _ d ty p _ => .got true d (some (ty, p))
  | .alt _ d v _ => .run true d (.ok (.value v) w)
  | .skip _ d => .no false d
  | .idx _ d ty p x _ => .at true d (some (ty, p, x))
  | .slc _ d ty x lo hi mx _ => .sl true d (some (ty, x, lo, hi, mx))
def sees (P : Program) (ops : Array Oper) (w : World) : List Tk → Act → List (Option See)
  | [], _ => []
  | t :: L, a => (ops[t.place]?).map (fun o => seeOp P ops w a o t) :: sees P ops w L (t.put a)
def wants (w : World) (L : List Tk) : List (Option See) := L.map fun t => some (wantOp w t)
def Facts (P : Program) (S : World → Prop) : List Tk → Prop
  | [] => True
  | .load _ _ ty p v :: L => (∀ w, S w → (Instr.loadAt ty p).run P w = .ok v w) ∧ Facts P S L
  | .alt _ _ v u :: L => v = u ∧ Facts P S L
  | .idx _ _ ty p x v :: L => (∀ w, S w → (Instr.indexAt ty p x).run P w = .ok v w) ∧ Facts P S L
  | .slc _ _ ty x lo hi mx v :: L => (∀ w, S w → (Instr.sliceAt ty x lo hi mx).run P w = .ok v w) ∧ Facts P S L
  | .val _ _ _ :: L => Facts P S L
  | .skip _ _ :: L => Facts P S L
def FactsAt (P : Program) (w : World) : List Tk → Prop
  | [] => True
  | .load _ _ ty p v :: L => (Instr.loadAt ty p).run P w = .ok v w ∧ FactsAt P w L
  | .alt _ _ v u :: L => v = u ∧ FactsAt P w L
  | .idx _ _ ty p x v :: L => (Instr.indexAt ty p x).run P w = .ok v w ∧ FactsAt P w L
  | .slc _ _ ty x lo hi mx v :: L => (Instr.sliceAt ty x lo hi mx).run P w = .ok v w ∧ FactsAt P w L
  | .val _ _ _ :: L => FactsAt P w L
  | .skip _ _ :: L => FactsAt P w L
theorem factsAt {P : Program} {w : World} : ∀ {L : List Tk}, FactsAt P w L → Facts P (fun W => W = w) L
  | [], _ => trivial
  | .load _ _ _ _ _ :: _, h => ⟨fun W e => by cases e; exact h.1, factsAt h.2⟩
  | .alt _ _ _ _ :: _, h => ⟨h.1, factsAt h.2⟩
  | .idx _ _ _ _ _ _ :: _, h => ⟨fun W e => by cases e; exact h.1, factsAt h.2⟩
  | .slc _ _ _ _ _ _ _ _ :: _, h => ⟨fun W e => by cases e; exact h.1, factsAt h.2⟩
  | .val _ _ _ :: L, h => factsAt (L := L) h
  | .skip _ _ :: L, h => factsAt (L := L) h
section
variable {P : Program} {md : Region.Mode} {ops : Array Oper} {Q : Exit → Act → World → Prop} {S : World → Prop}
theorem one_of {t : Tk} {o : Oper} {a : Act} (ho : ops[t.place]? = some o) (hsee : ∀ w, (ops[t.place]?).map (fun o => seeOp P ops w a o t) = some (wantOp w t)) {L : List Tk} (hf : Facts P S (t :: L)) :
    (∃ v, t.put a = a.put o.dst v ∧ YieldsIf P ops S o v a) ∧ Facts P S L := by
  rw [ho] at hsee
  have hs : ∀ w, seeOp P ops w a o t = wantOp w t := fun w => Option.some.inj (hsee w)
  cases t with
  | val i d v =>
    have hd : o.dst = d := by have := hs default; simp only [seeOp, wantOp, See.run.injEq] at this; exact this.2.1
    exact ⟨⟨v, by rw [hd]; rfl, .inl ⟨by have := hs default; simp only [seeOp, wantOp, See.run.injEq] at this; exact this.1, fun w _ => by have := hs w; simp only [seeOp, wantOp, See.run.injEq] at this; exact this.2.2⟩⟩, hf⟩
  | load i d ty p v =>
    have hd : o.dst = d := by have := hs default; simp only [seeOp, wantOp, See.got.injEq] at this; exact this.2.1
    refine ⟨⟨v, by rw [hd]; rfl, .inl ⟨by have := hs default; simp only [seeOp, wantOp, See.got.injEq] at this; exact this.1, fun w hw => ?_⟩⟩, hf.2⟩
    have h := hs w
    simp only [seeOp, wantOp, See.got.injEq] at h
    have h3 := h.2.2
    have hl := hf.1 w hw
    unfold execOp
    split at h3
    · rename_i ty' x hop
      obtain ⟨rfl, rfl⟩ := by simpa using h3
      simp only [hop, Sem.run_bind, hl, Result.andThen_ok]
      rfl
    · cases h3
  | alt i d v u =>
    have hd : o.dst = d := by have := hs default; simp only [seeOp, wantOp, See.run.injEq] at this; exact this.2.1
    obtain ⟨rfl, hf2⟩ := hf
    exact ⟨⟨v, by rw [hd]; rfl, .inl ⟨by have := hs default; simp only [seeOp, wantOp, See.run.injEq] at this; exact this.1, fun w _ => by have := hs w; simp only [seeOp, wantOp, See.run.injEq] at this; exact this.2.2⟩⟩, hf2⟩
  | skip i d =>
    have hd : o.dst = d := by have := hs default; simp only [seeOp, wantOp, See.no.injEq] at this; exact this.2
    exact ⟨⟨undef, by rw [hd]; rfl, .inr ⟨by have := hs default; simp only [seeOp, wantOp, See.no.injEq] at this; exact this.1, rfl⟩⟩, hf⟩
  | idx i d ty p x v =>
    have hd : o.dst = d := by have := hs default; simp only [seeOp, wantOp, See.at.injEq] at this; exact this.2.1
    refine ⟨⟨v, by rw [hd]; rfl, .inl ⟨by have := hs default; simp only [seeOp, wantOp, See.at.injEq] at this; exact this.1, fun w hw => ?_⟩⟩, hf.2⟩
    have h := hs w
    simp only [seeOp, wantOp, See.at.injEq] at h
    have h3 := h.2.2
    have hl := hf.1 w hw
    unfold execOp
    split at h3
    · rename_i ty' x y hop
      obtain ⟨rfl, rfl, rfl⟩ := by simpa using h3
      simp only [hop, Sem.run_bind, hl, Result.andThen_ok]
      rfl
    · cases h3
  | slc i d ty x lo hi mx v =>
    have hd : o.dst = d := by have := hs default; simp only [seeOp, wantOp, See.sl.injEq] at this; exact this.2.1
    refine ⟨⟨v, by rw [hd]; rfl, .inl ⟨by have := hs default; simp only [seeOp, wantOp, See.sl.injEq] at this; exact this.1, fun w hw => ?_⟩⟩, hf.2⟩
    have h := hs w
    simp only [seeOp, wantOp, See.sl.injEq] at h
    have h3 := h.2.2
    have hl := hf.1 w hw
    unfold execOp
    split at h3
    · rename_i ty' x' lo' hi' mx' hop
      obtain ⟨rfl, rfl, rfl, rfl, rfl⟩ := by simpa using h3
      simp only [hop, Sem.run_bind, hl, Result.andThen_ok]
      rfl
    · cases h3
def listedBy : List Tk → Array Bool → Array Bool
  | [], l => l
  | t :: L, l => listedBy L (l.setIfInBounds t.place true)
def orderOk (md : Region.Mode) (ops : Array Oper) : List Tk → Array Bool → Bool
  | [], _ => true
  | t :: L, l => (Region.free md ops l t.place && (Region.ready md ops l).contains t.place) && orderOk md ops L (l.setIfInBounds t.place true)
theorem wpAnyH_takes (L : List Tk) (hs : Region.noSelect ops = true) (hQ : ∀ d v c a w, Q (.panic c) (Act.put a d v) w → Q (.panic c) a w) :
    ∀ {m n : Nat} {listed : Array Bool} {a : Act} {w : World}, n = m + L.length → orderOk md ops L listed = true → (∀ w, sees P ops w L a = wants w L) → Facts P S L → S w →
      wpAnyH P md ops Q S m (listedBy L listed) (puts L a) w → wpAnyH P md ops Q S n listed a w := by
  induction L with
  | nil => intro m n listed a w hn _ _ _ _ h; subst hn; exact h
  | cons t L ih =>
    intro m n listed a w hn ho hsee hf hS h
    simp only [orderOk, Bool.and_eq_true] at ho
    obtain ⟨⟨ho1, ho2⟩, ho3⟩ := ho
    have hsee1 : ∀ w, (ops[t.place]?).map (fun o => seeOp P ops w a o t) = some (wantOp w t) := fun w => (List.cons.inj (hsee w)).1
    have hsee2 : ∀ w, sees P ops w L (t.put a) = wants w L := fun w => (List.cons.inj (hsee w)).2
    obtain ⟨o, hop⟩ : ∃ o, ops[t.place]? = some o := by
      cases hx : ops[t.place]? with
      | none => have := hsee1 default; rw [hx] at this; cases this
      | some o => exact ⟨o, rfl⟩
    obtain ⟨⟨v, hv, hy⟩, hf2⟩ := one_of hop hsee1 hf
    subst hn
    exact wpAnyH_take hop hs ho1 ho2 (fun c a w h => hQ _ _ c a w h) hy hS (by rw [← hv]; exact ih (m := m) rfl ho3 hsee2 hf2 hS h)
theorem wp_region_M {id : Nat} {a : Act} {w : World} (S S0 : World → Prop) (hm : P.follows .mixedOrders = true) (h0 : S0 w.drew)
    (h : ∀ Y, S0 Y → wpAnyH P .any ops Q S ops.size (Array.replicate ops.size false) a Y) : (Code.region id ops true).wp P Q a w := wp_region_held hm (h _ h0)
def wpFrom (P : Program) (ops : Array Oper) (Q : Exit → Act → World → Prop) (k : Nat) (a : Act) (w : World) : Prop := wpList P ops Q (ops.toList.drop k) a w
theorem wp_region_from {id : Nat} {a : Act} {w : World} (h : wpFrom P ops Q 0 a w) : (Code.region id ops false).wp P Q a w := wp_region_list h
theorem wp_region_fromM {id : Nat} {a : Act} {w : World} (S0 : World → Prop) (h0 : S0 w) (h : ∀ Y, S0 Y → wpFrom P ops Q 0 a Y) : (Code.region id ops false).wp P Q a w := wp_region_from (h _ h0)
theorem wpFrom_step {k : Nat} {a : Act} {w : World} {o : Oper} (ho : ops[k]? = some o)
    (h : ∀ K : Act → World → Prop, (∀ a w, wpFrom P ops Q (k + 1) a w → K a w) → if Region.wanted o (yielded ops a.tmps) = true then o.wp P a w K Q else K (a.put o.dst undef) w) : wpFrom P ops Q k a w := by
  have hk : k < ops.toList.length := by simpa using (Array.getElem?_eq_some_iff.1 ho).1
  have e : ops.toList.drop k = o :: ops.toList.drop (k + 1) := by
    rw [List.drop_eq_getElem_cons hk]
    congr 1
    simpa using (Array.getElem?_eq_some_iff.1 ho).2
  unfold wpFrom
  rw [e]
  exact wpList_step fun K hK => h K hK
theorem wpFrom_takes (L : List Tk) : ∀ {k m : Nat} {a : Act} {w : World}, m = k + L.length → L.map Tk.place = List.range' k L.length → (∀ w, sees P ops w L a = wants w L) → FactsAt P w L →
      wpFrom P ops Q m (puts L a) w → wpFrom P ops Q k a w := by
  induction L with
  | nil => intro k m a w hm _ _ _ h; subst hm; exact h
  | cons t L ih =>
    intro k m a w hm hp hsee hf h
    have hsee1 : ∀ w, (ops[t.place]?).map (fun o => seeOp P ops w a o t) = some (wantOp w t) := fun w => (List.cons.inj (hsee w)).1
    have hsee2 : ∀ w, sees P ops w L (t.put a) = wants w L := fun w => (List.cons.inj (hsee w)).2
    rw [List.map_cons, List.length_cons, List.range'_succ] at hp
    obtain ⟨hp1, hp2⟩ := List.cons.inj hp
    obtain ⟨o, hop⟩ : ∃ o, ops[t.place]? = some o := by
      cases hx : ops[t.place]? with
      | none => have := hsee1 default; rw [hx] at this; cases this
      | some o => exact ⟨o, rfl⟩
    have hf2 : FactsAt P w L := by cases t <;> first | exact hf.2 | exact hf
    obtain ⟨⟨v, hv, hy⟩, _⟩ := one_of hop hsee1 (factsAt hf)
    refine wpFrom_step (by rw [← hp1]; exact hop) fun K hK => ?_
    have hgo : wpFrom P ops Q (k + 1) (a.put o.dst v) w := by rw [← hv]; exact ih (m := m) (by simpa [Nat.add_assoc, Nat.add_comm 1] using hm) hp2 hsee2 hf2 h
    rcases hy with ⟨hw, hr⟩ | ⟨hw, rfl⟩
    · rw [if_pos hw]
      unfold Oper.wp
      rw [hr w rfl]
      exact hK _ _ hgo
    · rw [if_neg (by rw [hw]; decide)]
      exact hK _ _ hgo
theorem wpFrom_done {k : Nat} {a : Act} {w : World} (hk : ops.size ≤ k) (h : Q .normal a w) : wpFrom P ops Q k a w := by
  unfold wpFrom
  rw [List.drop_of_length_le (by simpa using hk)]
  exact wpList_nil h
def runAt (P : Program) (ops : Array Oper) (i : Nat) (a : Act) (w : World) : Option (Bool × Option Tmp × Result Next) := (ops[i]?).map fun o => (Region.wanted o (yielded ops a.tmps), o.dst, (execOp a.eval o).run P w)
def Goes (Q : Exit → Act → World → Prop) (K : Act → World → Prop) (a : Act) (d : Option Tmp) : Ending → World → Prop
  | .returned v, w => K (a.put d v) w
  | .panicked c, w => Q (.panic c) a w
  | .outgrown, _ => LetsOut Q
theorem op_call {i : Nat} {o : Oper} {a : Act} {w : World} {d : Option Tmp} {f : FuncId} {args : Array Value} {K : Act → World → Prop} (ho : ops[i]? = some o) (hr : runAt P ops i a w = some (true, d, .ok (.enter f args) w)) (hc : Calls P f args w (Goes Q K a d)) :
    if Region.wanted o (yielded ops a.tmps) = true then o.wp P a w K Q else K (a.put o.dst undef) w := by
  unfold runAt at hr
  rw [ho] at hr
  have h := Option.some.inj hr
  have h1 : Region.wanted o (yielded ops a.tmps) = true := congrArg Prod.fst h
  have h2 : o.dst = d := congrArg (fun x => x.2.1) h
  have h3 : (execOp a.eval o).run P w = .ok (.enter f args) w := congrArg (fun x => x.2.2) h
  rw [if_pos h1]
  unfold Oper.wp
  rw [h3]
  refine hc.mono fun e w' he => ?_
  rw [h2]
  cases e <;> exact he
theorem op_run {i : Nat} {o : Oper} {a : Act} {w w' : World} {d : Option Tmp} {v : Value} {K : Act → World → Prop} (ho : ops[i]? = some o) (hr : runAt P ops i a w = some (true, d, .ok (.value v) w')) (hc : K (a.put d v) w') :
    if Region.wanted o (yielded ops a.tmps) = true then o.wp P a w K Q else K (a.put o.dst undef) w := by
  unfold runAt at hr
  rw [ho] at hr
  have h := Option.some.inj hr
  have h1 : Region.wanted o (yielded ops a.tmps) = true := congrArg Prod.fst h
  have h2 : o.dst = d := congrArg (fun x => x.2.1) h
  have h3 : (execOp a.eval o).run P w = .ok (.value v) w' := congrArg (fun x => x.2.2) h
  rw [if_pos h1]
  unfold Oper.wp
  rw [h3]
  have : K (a.put o.dst v) w' := by rw [h2]; exact hc
  exact this
def storeAt (ops : Array Oper) (i : Nat) (a : Act) : Option (Bool × Option Tmp × Option (TypeId × Value × Value)) := (ops[i]?).map fun o => (Region.wanted o (yielded ops a.tmps), o.dst, match o.op with | .store ty x y => some (ty, a.eval x, a.eval y) | _ => none)
theorem op_store {i : Nat} {o : Oper} {a : Act} {w w' : World} {ty : TypeId} {p v : Value} {K : Act → World → Prop} (ho : ops[i]? = some o) (hr : storeAt ops i a = some (true, none, some (ty, p, v))) (hst : (Instr.storeAt ty p v).run P w = .ok () w') (hc : K a w') :
    if Region.wanted o (yielded ops a.tmps) = true then o.wp P a w K Q else K (a.put o.dst undef) w := by
  unfold storeAt at hr
  rw [ho] at hr
  have h := Option.some.inj hr
  have h1 : Region.wanted o (yielded ops a.tmps) = true := congrArg Prod.fst h
  have h2 : o.dst = none := congrArg (fun x => x.2.1) h
  have h3 := congrArg (fun x => x.2.2) h
  rw [if_pos h1]
  dsimp only at h3
  split at h3
  · rename_i ty' x y hop
    obtain ⟨rfl, rfl, rfl⟩ := by simpa using h3
    unfold Oper.wp execOp
    simp only [hop, Sem.run_bind, hst, Result.andThen_ok]
    have : K (a.put o.dst undef) w' := by rw [h2]; exact hc
    exact this
  · cases h3
def appAt (ops : Array Oper) (i : Nat) (a : Act) : Option (Bool × Option Tmp × Option (TypeId × TypeId × TypeId × Value × Value)) := (ops[i]?).map fun o => (Region.wanted o (yielded ops a.tmps), o.dst, match o.op with | .call ⟨.builtin .append, ⟨[s, x]⟩, ⟨[t, t']⟩⟩ => some (t, t', o.type, a.eval s, a.eval x) | _ => none)
theorem op_append {i : Nat} {o : Oper} {a : Act} {w w' : World} {d : Option Tmp} {t t' ty : TypeId} {v x u : Value} {K : Act → World → Prop} (ho : ops[i]? = some o) (hr : appAt ops i a = some (true, d, some (t, t', ty, v, x))) (hst : (Builtin.append_ #[t, t'] ty #[v, x]).run P w = .ok u w') (hc : K (a.put d u) w') :
    if Region.wanted o (yielded ops a.tmps) = true then o.wp P a w K Q else K (a.put o.dst undef) w := by
  unfold appAt at hr
  rw [ho] at hr
  have h := Option.some.inj hr
  have h1 : Region.wanted o (yielded ops a.tmps) = true := congrArg Prod.fst h
  have h2 : o.dst = d := congrArg (fun x => x.2.1) h
  have h3 := congrArg (fun x => x.2.2) h
  rw [if_pos h1]
  dsimp only at h3
  split at h3
  · rename_i s y t1 t2 hop
    obtain ⟨rfl, rfl, rfl, rfl, rfl⟩ := by simpa using h3
    unfold Oper.wp execOp
    simp only [hop, resolve, invoke, builtin, Sem.run_bind, Sem.run_pure, Result.andThen_ok, List.map_toArray, List.map_cons, List.map_nil, hst]
    have : K (a.put o.dst u) w' := by rw [h2]; exact hc
    exact this
  · cases h3
def StepH (P : Program) (md : Region.Mode) (ops : Array Oper) (Q : Exit → Act → World → Prop) (S : World → Prop) (m : Nat) (listed : Array Bool) (a : Act) (w : World) (i : Nat) : Prop :=
  wpOp P ops Q i (fun a' w' => S w' ∧ wpAnyH P md ops Q S m (listed.setIfInBounds i true) a' w') a w
theorem wpAnyH_one {i m n : Nat} {listed : Array Bool} {a : Act} {w : World} (hr : Region.ready md ops listed = [i]) (hn : n = m + 1) (h : StepH P md ops Q S m listed a w i) : wpAnyH P md ops Q S n listed a w := by
  subst hn
  exact wpAnyH_all hr (by simp) fun j hj => by obtain rfl := List.mem_singleton.1 hj; exact h
theorem stepH_of {m i : Nat} {listed : Array Bool} {a : Act} {w : World} {o : Oper} (ho : ops[i]? = some o)
    (h : if Region.wanted o (yielded ops a.tmps) = true then o.wp P a w (fun a' w' => S w' ∧ wpAnyH P md ops Q S m (listed.setIfInBounds i true) a' w') Q else (fun a' w' => S w' ∧ wpAnyH P md ops Q S m (listed.setIfInBounds i true) a' w') (a.put o.dst undef) w) : StepH P md ops Q S m listed a w i := by
  refine wpOp_step ho fun K' hK => ?_
  split at h
  · rename_i hw
    rw [if_pos hw]
    exact Oper.wp_mono (fun a w h => hK a w h) h
  · rename_i hw
    rw [if_neg hw]
    exact hK _ _ h
theorem some_of {α β : Type} {x : Option α} {f : α → β} {y : β} (h : x.map f = some y) : ∃ o, x = some o := by
  cases x with
  | none => cases h
  | some o => exact ⟨o, rfl⟩
theorem stepH_call {m i : Nat} {listed : Array Bool} {a : Act} {w : World} {d : Option Tmp} {f : FuncId} {args : Array Value} (hr : runAt P ops i a w = some (true, d, .ok (.enter f args) w))
    (hc : Calls P f args w (Goes Q (fun a' w' => S w' ∧ wpAnyH P md ops Q S m (listed.setIfInBounds i true) a' w') a d)) : StepH P md ops Q S m listed a w i := by
  obtain ⟨o, ho⟩ := some_of hr
  exact stepH_of ho (op_call ho hr hc)
theorem stepH_run {m i : Nat} {listed : Array Bool} {a : Act} {w w' : World} {d : Option Tmp} {v : Value} (hr : runAt P ops i a w = some (true, d, .ok (.value v) w')) (hS : S w') (h : wpAnyH P md ops Q S m (listed.setIfInBounds i true) (a.put d v) w') : StepH P md ops Q S m listed a w i := by
  obtain ⟨o, ho⟩ := some_of hr
  exact stepH_of ho (op_run ho hr ⟨hS, h⟩)
theorem stepH_store {m i : Nat} {listed : Array Bool} {a : Act} {w w' : World} {ty : TypeId} {p v : Value} (hr : storeAt ops i a = some (true, none, some (ty, p, v))) (hst : (Instr.storeAt ty p v).run P w = .ok () w') (hS : S w') (h : wpAnyH P md ops Q S m (listed.setIfInBounds i true) a w') : StepH P md ops Q S m listed a w i := by
  obtain ⟨o, ho⟩ := some_of hr
  exact stepH_of ho (op_store ho hr hst ⟨hS, h⟩)
theorem stepH_append {m i : Nat} {listed : Array Bool} {a : Act} {w w' : World} {d : Option Tmp} {t t' ty : TypeId} {v x u : Value} (hr : appAt ops i a = some (true, d, some (t, t', ty, v, x))) (hst : (Builtin.append_ #[t, t'] ty #[v, x]).run P w = .ok u w') (hS : S w') (h : wpAnyH P md ops Q S m (listed.setIfInBounds i true) (a.put d u) w') : StepH P md ops Q S m listed a w i := by
  obtain ⟨o, ho⟩ := some_of hr
  exact stepH_of ho (op_append ho hr hst ⟨hS, h⟩)
theorem wpFrom_append {k : Nat} {a : Act} {w w' : World} {d : Option Tmp} {t t' ty : TypeId} {v x u : Value} (hr : appAt ops k a = some (true, d, some (t, t', ty, v, x))) (hst : (Builtin.append_ #[t, t'] ty #[v, x]).run P w = .ok u w') (h : wpFrom P ops Q (k + 1) (a.put d u) w') : wpFrom P ops Q k a w := by
  obtain ⟨o, ho⟩ := some_of hr
  exact wpFrom_step ho fun K hK => op_append ho hr hst (hK _ _ h)
theorem wpFrom_call {k : Nat} {a : Act} {w : World} {d : Option Tmp} {f : FuncId} {args : Array Value} (hr : runAt P ops k a w = some (true, d, .ok (.enter f args) w)) (hc : Calls P f args w (Goes Q (wpFrom P ops Q (k + 1)) a d)) : wpFrom P ops Q k a w := by
  obtain ⟨o, ho⟩ := some_of hr
  refine wpFrom_step ho fun K hK => op_call ho hr (hc.mono fun e w' he => ?_)
  cases e with
  | returned v => exact hK _ _ he
  | panicked c => exact he
  | outgrown => exact he
theorem wpFrom_run {k : Nat} {a : Act} {w w' : World} {d : Option Tmp} {v : Value} (hr : runAt P ops k a w = some (true, d, .ok (.value v) w')) (h : wpFrom P ops Q (k + 1) (a.put d v) w') : wpFrom P ops Q k a w := by
  obtain ⟨o, ho⟩ := some_of hr
  exact wpFrom_step ho fun K hK => op_run ho hr (hK _ _ h)
theorem wpFrom_store {k : Nat} {a : Act} {w w' : World} {ty : TypeId} {p v : Value} (hr : storeAt ops k a = some (true, none, some (ty, p, v))) (hst : (Instr.storeAt ty p v).run P w = .ok () w') (h : wpFrom P ops Q (k + 1) a w') : wpFrom P ops Q k a w := by
  obtain ⟨o, ho⟩ := some_of hr
  exact wpFrom_step ho fun K hK => op_store ho hr hst (hK _ _ h)
abbrev pt (b o : Nat) : Value := .pointer (some ⟨b, o, none⟩)
theorem tD (m : Nat) (L : List Tk) {n : Nat} {listed : Array Bool} {a : Act} {w : World} (hf : Facts P S L) (hS : S w) (h : wpAnyH P md ops Q S m (listedBy L listed) (puts L a) w) (hs : Region.noSelect ops = true := by kernel_rfl) (hQ : ∀ d v c a w, Q (.panic c) (Act.put a d v) w → Q (.panic c) a w := by rintro (_ | _) _ _ _ _ h <;> exact h)
    (hn : n = m + L.length := by kernel_rfl) (ho : orderOk md ops L listed = true := by kernel_rfl) (hsee : ∀ w, sees P ops w L a = wants w L := by intro _; kernel_rfl) : wpAnyH P md ops Q S n listed a w := wpAnyH_takes L hs hQ hn ho hsee hf hS h
theorem tF (m : Nat) (L : List Tk) {k : Nat} {a : Act} {w : World} (hf : FactsAt P w L) (h : wpFrom P ops Q m (puts L a) w) (hm : m = k + L.length := by kernel_rfl) (hp : L.map Tk.place = List.range' k L.length := by kernel_rfl) (hsee : ∀ w, sees P ops w L a = wants w L := by intro _; kernel_rfl) : wpFrom P ops Q k a w := wpFrom_takes L hm hp hsee hf h
theorem oD (i m : Nat) {n : Nat} {listed : Array Bool} {a : Act} {w : World} (h : StepH P md ops Q S m listed a w i) (hr : Region.ready md ops listed = [i] := by kernel_rfl) (hn : n = m + 1 := by kernel_rfl) : wpAnyH P md ops Q S n listed a w := wpAnyH_one hr hn h
theorem cD (d : Option Tmp) (f : FuncId) (args : Array Value) {m i : Nat} {listed : Array Bool} {a : Act} {w : World} (hc : Calls P f args w (Goes Q (fun a' w' => S w' ∧ wpAnyH P md ops Q S m (listed.setIfInBounds i true) a' w') a d)) (hr : runAt P ops i a w = some (true, d, .ok (.enter f args) w) := by kernel_rfl) : StepH P md ops Q S m listed a w i := stepH_call hr hc
theorem cF (d : Option Tmp) (f : FuncId) (args : Array Value) {k : Nat} {a : Act} {w : World} (hc : Calls P f args w (Goes Q (wpFrom P ops Q (k + 1)) a d)) (hr : runAt P ops k a w = some (true, d, .ok (.enter f args) w) := by kernel_rfl) : wpFrom P ops Q k a w := wpFrom_call hr hc
theorem rD (d : Option Tmp) (v : Value) (w' : World) {m i : Nat} {listed : Array Bool} {a : Act} {w : World} (hS : S w') (h : wpAnyH P md ops Q S m (listed.setIfInBounds i true) (a.put d v) w') (hr : runAt P ops i a w = some (true, d, .ok (.value v) w') := by kernel_rfl) : StepH P md ops Q S m listed a w i := stepH_run hr hS h
theorem rF (d : Option Tmp) (v : Value) (w' : World) {k : Nat} {a : Act} {w : World} (h : wpFrom P ops Q (k + 1) (a.put d v) w') (hr : runAt P ops k a w = some (true, d, .ok (.value v) w') := by kernel_rfl) : wpFrom P ops Q k a w := wpFrom_run hr h
theorem sD (ty : TypeId) (p v : Value) {m i : Nat} {listed : Array Bool} {a : Act} {w w' : World} (hst : (Instr.storeAt ty p v).run P w = .ok () w') (hS : S w') (h : wpAnyH P md ops Q S m (listed.setIfInBounds i true) a w') (hr : storeAt ops i a = some (true, none, some (ty, p, v)) := by kernel_rfl) : StepH P md ops Q S m listed a w i := stepH_store hr hst hS h
theorem sF (ty : TypeId) (p v : Value) {k : Nat} {a : Act} {w w' : World} (hst : (Instr.storeAt ty p v).run P w = .ok () w') (h : wpFrom P ops Q (k + 1) a w') (hr : storeAt ops k a = some (true, none, some (ty, p, v)) := by kernel_rfl) : wpFrom P ops Q k a w := wpFrom_store hr hst h
theorem dF {k : Nat} {a : Act} {w : World} (h : Q .normal a w) (hk : Nat.ble ops.size k = true := by kernel_rfl) : wpFrom P ops Q k a w := wpFrom_done (Nat.le_of_ble_eq_true hk) h
theorem dD {n : Nat} {listed : Array Bool} {a : Act} {w : World} (h : Q .normal a w) (hr : Region.ready md ops listed = [] := by kernel_rfl) : wpAnyH P md ops Q S n listed a w := wpAnyH_done hr h n
end
end Go.Proofs.YtemknjnljciioaaGreat
