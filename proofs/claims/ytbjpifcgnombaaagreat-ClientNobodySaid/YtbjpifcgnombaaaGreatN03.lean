/-
  Parts of memory that stand beside one another: what is known of some blocks stays known, whatever is done to others; An element of a row of the call's own; Words for parts of memory: what came back is one's own, parts in any order; builtins of two numbers, remainders, the first place that is looked for; A room as a plain thing: asks that are open, and what was bid for them; '==' of asks and of bid
-/
import Derived.Deep.WholeRow
import Derived.Maps.AppendAt
import Derived.OwnWalk
import Derived.IntWalk
import Derived.Lib.Hide
import Derived.ArgAppend
import Derived.Deep.Slices
import Derived.Lib.ConvBytes
import Derived.Laws.AppendOwn
import Derived.Laws.OwnMore
import Derived.WalkSpells
import Derived.Deep.Upon
import Derived.Lib.SlBytesConst
import Derived.Laws.Concat
import Derived.Outline
import Derived.Laws.IdiomCopy
import Derived.Deep.Cut
import Derived.Test.YtbjpifcgnombaaaGreatN02
namespace Go.Proofs.YtbjpifcgnombaaaGreat
open Go.RowKit Go.Shelf
structure Out (F : List Nat) (w W : World) : Prop where
  os : W.os = w.os
  tape : W.tape = w.tape
  output : W.output = w.output
  size : w.heap.size ≤ W.heap.size
  block : ∀ k, k < w.heap.size → k ∉ F → W.heap[k]? = w.heap[k]?
theorem Out.refl (F : List Nat) (w : World) : Out F w w := ⟨rfl, rfl, rfl, Nat.le_refl _, fun _ _ _ => rfl⟩
theorem Out.of_below {F : List Nat} {w W : World} (h : Below w.heap.size w W) : Out F w W := ⟨h.os, h.tape, h.output, h.size, fun k hk _ => h.block k hk⟩
theorem Out.below {w W : World} (h : Out [] w W) : Below w.heap.size w W := ⟨h.os, h.tape, h.output, h.size, fun k hk => h.block k hk (by simp)⟩
theorem Out.of_grown {F : List Nat} {row : Option Nat} {w W : World} (h : w.grownBy W row) (hr : ∀ k, row = some k → k ∈ F) : Out F w W :=
  ⟨h.os, h.tape, h.output, h.size, fun k hk hF => h.block k hk (fun e => hF (hr k e.symm))⟩
theorem Out.trans {F G : List Nat} {w W W' : World} (h : Out F w W) (h' : Out G W W') (hG : ∀ k ∈ G, k ∈ F ∨ w.heap.size ≤ k) : Out F w W' :=
  ⟨h'.os.trans h.os, h'.tape.trans h.tape, h'.output.trans h.output, Nat.le_trans h.size h'.size, fun k hk hF =>
    (h'.block k (Nat.lt_of_lt_of_le hk h.size) (fun e => (hG k e).elim hF (fun e => absurd hk (Nat.not_lt.2 e)))).trans (h.block k hk hF)⟩
theorem Out.drew {F : List Nat} {w W : World} (h : Out F w W) : Out F w W.drew := ⟨h.os, h.tape, h.output, h.size, h.block⟩
structure Res where
  foot : List Nat
  holds : World → Prop
  stab : ∀ {W W' : World}, (∀ k ∈ foot, W'.heap[k]? = W.heap[k]?) → holds W → holds W'
def Res.blk (B : Nat) (T : TypeId) (cs : List Value) : Res where
  foot := [B]
  holds := fun W => Blk W B T cs
  stab := fun h hB => (h B (List.mem_singleton.2 rfl)).trans hB
def Res.own {α : Type} (f : α → List Value) (e : TypeId) (n : Nat) (v : Value) (l : List α) : Res where
  foot := v.ownBlock.toList
  holds := fun W => W.ownsRow 0 e n v l.length (flatR f l)
  stab := fun {W W'} h hr => by
    refine ⟨hr.1, hr.2.elim .inl fun ⟨g, cap, cur, hv, hg, hb, hx⟩ => .inr ⟨g, cap, cur, hv, hg, ?_, hx⟩⟩
    subst hv
    exact (h g (by simp [Value.ownBlock])).trans hb
structure ROk (r : Res) (W : World) : Prop where
  h : r.holds W
  lt : ∀ k ∈ r.foot, k < W.heap.size
structure RTurn (r r' : Res) (W W' : World) : Prop where
  ok : ROk r' W'
  out : Out r.foot W W'
  foot : ∀ k ∈ r'.foot, k ∈ r.foot ∨ W.heap.size ≤ k
abbrev Apart (r s : Res) : Prop := ∀ k ∈ r.foot, k ∉ s.foot
structure Sep (w : World) (F : List Nat) (l : List Res) (W : World) : Prop where
  ok : ∀ r ∈ l, ROk r W
  new : ∀ r ∈ l, ∀ k ∈ r.foot, k ∈ F ∨ w.heap.size ≤ k
  apart : l.Pairwise Apart
  out : Out F w W
section
variable {w W W' : World} {F : List Nat} {l : List Res} {r r' : Res}
theorem Sep.start (w : World) : Sep w [] [] w := ⟨fun _ h => (List.not_mem_nil h).elim, fun _ h => (List.not_mem_nil h).elim, List.Pairwise.nil, Out.refl _ _⟩
theorem Sep.b (h : Sep w [] l W) : Below w.heap.size w W := h.out.below
theorem Sep.size (h : Sep w F l W) : w.heap.size ≤ W.heap.size := h.out.size
theorem Sep.oka (h : Sep w F l W) (i : Nat) (hi : l[i]? = some r) : ROk r W := h.ok _ (List.mem_of_getElem? hi)
theorem Sep.at (h : Sep w F l W) (i : Nat) {B : Nat} {T : TypeId} {cs : List Value} (hi : l[i]? = some (.blk B T cs)) : Blk W B T cs := (h.oka i hi).h
theorem Sep.drew (h : Sep w F l W) : Sep w F l W.drew := ⟨fun r hr => ⟨r.stab (W := W) (W' := W.drew) (fun _ _ => rfl) (h.ok r hr).h, (h.ok r hr).lt⟩, h.new, h.apart, h.out.drew⟩
theorem Sep.sub (h : Sep w F l W) {l' : List Res} (hs : l'.Sublist l) : Sep w F l' W := ⟨fun r hr => h.ok r (hs.mem hr), fun r hr => h.new r (hs.mem hr), h.apart.sublist hs, h.out⟩
theorem ROk.stay (h : ROk r W) {G : List Nat} (ho : Out G W W') (hd : ∀ k ∈ G, k ∉ r.foot) : ROk r W' :=
  ⟨r.stab (fun k hk => ho.block k (h.lt k hk) (fun e => hd k e hk)) h.h, fun k hk => Nat.lt_of_lt_of_le (h.lt k hk) ho.size⟩
theorem Sep.below (h : Sep w F l W) (hb : Below W.heap.size W W') : Sep w F l W' :=
  ⟨fun r hr => (h.ok r hr).stay (G := []) (Out.of_below hb) (fun _ e => (List.not_mem_nil e).elim), h.new, h.apart, h.out.trans (Out.of_below (F := []) hb) (fun _ e => (List.not_mem_nil e).elim)⟩
theorem Sep.add (h : Sep w F l W) (hb : Below W.heap.size W W') (hr : ROk r W') (hf : ∀ k ∈ r.foot, W.heap.size ≤ k) : Sep w F (r :: l) W' := by
  have h' := h.below hb
  refine ⟨fun s hs => ?_, fun s hs k hk => ?_, List.pairwise_cons.2 ⟨fun s hs k hk e => ?_, h'.apart⟩, h'.out⟩
  · rcases List.mem_cons.1 hs with rfl | hs
    · exact hr
    · exact h'.ok s hs
  · rcases List.mem_cons.1 hs with rfl | hs
    · exact .inr (Nat.le_trans h.size (hf k hk))
    · exact h.new s hs k hk
  · exact absurd ((h.ok s hs).lt k e) (Nat.not_lt.2 (hf k hk))
theorem Sep.alloc (h : Sep w F l W) (T : TypeId) (cs : List Value) : Sep w F (.blk W.heap.size T cs :: l) (W.alloc (.cells cs.toArray T)) :=
  h.add ((Below.refl _ W).alloc (Nat.le_refl _) _) ⟨Blk.new W T cs, fun k hk => by obtain rfl := List.mem_singleton.1 hk; exact (Blk.new W T cs).lt⟩ (fun _ hk => by obtain rfl := List.mem_singleton.1 hk; exact Nat.le_refl _)
theorem Sep.other (h : Sep w F l W) (o : Obj) : Sep w F l (W.alloc o) := h.below ((Below.refl _ W).alloc (Nat.le_refl _) _)
theorem Sep.row {α : Type} {f : α → List Value} {e : TypeId} {n : Nat} {v : Value} {x : List α} (h : Sep w F l W) (hO : W'.ownsRow W.heap.size e n v x.length (flatR f x)) (hb : Below W.heap.size W W') : Sep w F (.own f e n v x :: l) W' := by
  have hl := World.ownsRow.lt hO
  have hm : ∀ k ∈ v.ownBlock.toList, v.ownBlock = some k := fun k hk => by simpa using hk
  refine h.add hb ⟨⟨hO.1, hO.2.elim .inl fun ⟨g, cap, cur, hv, _, hx⟩ => .inr ⟨g, cap, cur, hv, Nat.zero_le _, hx⟩⟩, fun k hk => (hl k (hm k hk)).2⟩ (fun k hk => (hl k (hm k hk)).1)
theorem Sep.nil {α : Type} (f : α → List Value) (e : TypeId) (n : Nat) (h : Sep w F l W) : Sep w F (.own f e n (.slice none 0 0) [] :: l) W :=
  h.add (Below.refl _ W) ⟨World.ownsRow_nil _ _ _ _, fun _ hk => (List.not_mem_nil hk).elim⟩ (fun _ hk => (List.not_mem_nil hk).elim)
theorem out_turn (h : Sep w F l W) (hi : r ∈ l) (ht : RTurn r r' W W') : Out F w W' := h.out.trans ht.out (h.new r hi)
theorem Sep.turn (h : Sep w F l W) (i : Nat) (hi : l[i]? = some r) (ht : RTurn r r' W W') {l' : List Res} (hl : l.set i r' = l') : Sep w F l' W' := by
  subst hl
  have hlt : i < l.length := (List.getElem?_eq_some_iff.1 hi).1
  have hmem := List.mem_of_getElem? hi
  have ap : ∀ j s, l[j]? = some s → j ≠ i → ∀ k ∈ r.foot, k ∉ s.foot := fun j s hs hji k hk hks => by
    obtain ⟨hj, hs'⟩ := List.getElem?_eq_some_iff.1 hs
    obtain ⟨_, hi'⟩ := List.getElem?_eq_some_iff.1 hi
    rcases Nat.lt_or_gt_of_ne hji with hl | hl
    · have := List.pairwise_iff_getElem.1 h.apart j i hj hlt hl
      rw [hs', hi'] at this
      exact this k hks hk
    · have := List.pairwise_iff_getElem.1 h.apart i j hlt hj hl
      rw [hs', hi'] at this
      exact this k hk hks
  have ok' : ∀ j s, l[j]? = some s → j ≠ i → ROk s W' := fun j s hs hji => (h.oka j hs).stay ht.out (ap j s hs hji)
  have far : ∀ j s, l[j]? = some s → j ≠ i → ∀ k ∈ r'.foot, k ∉ s.foot := fun j s hs hji k hk hks => by
    rcases ht.foot k hk with e | e
    · exact ap j s hs hji k e hks
    · exact absurd ((h.oka j hs).lt k hks) (Nat.not_lt.2 e)
  have get : ∀ j s, (l.set i r')[j]? = some s → (j = i ∧ s = r') ∨ (j ≠ i ∧ l[j]? = some s) := fun j s hs => by
    rw [List.getElem?_set] at hs
    by_cases e : i = j
    · subst e
      rw [if_pos rfl, if_pos hlt] at hs
      exact .inl ⟨rfl, (Option.some.inj hs).symm⟩
    · rw [if_neg e] at hs
      exact .inr ⟨fun x => e x.symm, hs⟩
  refine ⟨fun s hs => ?_, fun s hs k hk => ?_, List.pairwise_iff_getElem.2 fun a b ha hb hab k hk hkb => ?_, out_turn h hmem ht⟩
  · obtain ⟨j, hj⟩ := List.mem_iff_getElem?.1 hs
    rcases get j s hj with ⟨_, rfl⟩ | ⟨hne, hj⟩
    · exact ht.ok
    · exact ok' j s hj hne
  · obtain ⟨j, hj⟩ := List.mem_iff_getElem?.1 hs
    rcases get j s hj with ⟨_, rfl⟩ | ⟨hne, hj⟩
    · rcases ht.foot k hk with e | e
      · exact h.new r hmem k e
      · exact .inr (Nat.le_trans h.size e)
    · exact h.new s (List.mem_of_getElem? hj) k hk
  · have ea := get a _ (List.getElem?_eq_getElem ha)
    have eb := get b _ (List.getElem?_eq_getElem hb)
    rcases ea with ⟨ha1, ha2⟩ | ⟨ha1, ha2⟩ <;> rcases eb with ⟨hb1, hb2⟩ | ⟨hb1, hb2⟩
    · omega
    · rw [ha2] at hk
      exact far b _ hb2 hb1 k hk hkb
    · rw [hb2] at hkb
      exact far a _ ha2 ha1 k hkb hk
    · obtain ⟨hal, ha'⟩ := List.getElem?_eq_some_iff.1 ha2
      obtain ⟨hbl, hb'⟩ := List.getElem?_eq_some_iff.1 hb2
      have := List.pairwise_iff_getElem.1 h.apart a b hal hbl hab
      rw [ha', hb'] at this
      exact this k hk hkb
theorem turn_blk {B : Nat} {T : TypeId} {cs cs' : List Value} (h : W.grownBy W' (some B)) (hB : Blk W' B T cs') : RTurn (.blk B T cs) (.blk B T cs') W W' :=
  ⟨⟨hB, fun k hk => by obtain rfl := List.mem_singleton.1 hk; exact hB.lt⟩, Out.of_grown h (fun _ e => by obtain rfl := Option.some.inj e; exact List.mem_singleton.2 rfl), fun _ hk => .inl hk⟩
theorem Sep.set (h : Sep w F l W) (i : Nat) {B : Nat} {T : TypeId} {cs cs' : List Value} (hi : l[i]? = some (.blk B T cs)) {l' : List Res} (hl : l.set i (.blk B T cs') = l') : Sep w F l' (W.setRow B cs'.toArray) :=
  h.turn i hi (turn_blk (grownBy_row W B _) (Blk.row (show Blk W B T cs from (h.oka i hi).h) cs')) hl
theorem ROk.rsl {α : Type} {f : α → List Value} {e : TypeId} {n : Nat} {v : Value} {x : List α} (h : ROk (.own f e n v x) W) (hn : ∀ y, (f y).length = n) : RSl f 0 W.heap.size W v x := RSl.of_own hn h.h
end
def Res.join (l : List Res) : Res where
  foot := l.flatMap (·.foot)
  holds := fun W => (∀ r ∈ l, r.holds W) ∧ l.Pairwise Apart
  stab := fun h hl => ⟨fun r hr => r.stab (fun k hk => h k (List.mem_flatMap.2 ⟨r, hr, hk⟩)) (hl.1 r hr), hl.2⟩
section
variable {w W W' : World} {F : List Nat} {l ps qs : List Res} {r r' : Res}
theorem join_mem {k : Nat} (h : r ∈ ps) (hk : k ∈ r.foot) : k ∈ (Res.join ps).foot := List.mem_flatMap.2 ⟨r, h, hk⟩
theorem Sep.begin (h : ROk (.join ps) w) : Sep w (Res.join ps).foot ps w :=
  ⟨fun r hr => ⟨h.h.1 r hr, fun k hk => h.lt k (join_mem hr hk)⟩, fun _ hr _ hk => .inl (join_mem hr hk), h.h.2, Out.refl _ _⟩
theorem Sep.close (h : Sep w F (ps ++ l) W) : Sep w F (.join ps :: l) W := by
  refine ⟨fun r hr => ?_, fun r hr k hk => ?_, List.pairwise_cons.2 ⟨fun s hs k hk e => ?_, (List.pairwise_append.1 h.apart).2.1⟩, h.out⟩
  · rcases List.mem_cons.1 hr with rfl | hr
    · exact ⟨⟨fun r hr => (h.ok r (List.mem_append_left _ hr)).h, (List.pairwise_append.1 h.apart).1⟩, fun k hk => by obtain ⟨r, hr, hk⟩ := List.mem_flatMap.1 hk; exact (h.ok r (List.mem_append_left _ hr)).lt k hk⟩
    · exact h.ok r (List.mem_append_right _ hr)
  · rcases List.mem_cons.1 hr with rfl | hr
    · obtain ⟨r, hr, hk⟩ := List.mem_flatMap.1 hk
      exact h.new r (List.mem_append_left _ hr) k hk
    · exact h.new r (List.mem_append_right _ hr) k hk
  · obtain ⟨r, hr, hk⟩ := List.mem_flatMap.1 hk
    exact (List.pairwise_append.1 h.apart).2.2 r hr s hs k hk e
theorem RTurn.trans {r1 r2 r3 : Res} {W1 W2 W3 : World} (h : RTurn r1 r2 W1 W2) (h' : RTurn r2 r3 W2 W3) : RTurn r1 r3 W1 W3 :=
  ⟨h'.ok, h.out.trans h'.out h.foot, fun k hk => (h'.foot k hk).elim (h.foot k) (fun e => .inr (Nat.le_trans h.out.size e))⟩
end
end Go.Proofs.YtbjpifcgnombaaaGreat
namespace Go.Proofs.YtbjpifcgnombaaaGreat
open Go.RowKit Go.Shelf
theorem ROk.slice {α : Type} {f : α → List Value} {n : Nat} {W : World} {v : Value} {l : List α} {e : TypeId} (h : ROk (.own f e n v l) W) (hn : ∀ x, (f x).length = n) : ∃ a c, v = .slice a l.length c := (h.rsl hn).slice
end Go.Proofs.YtbjpifcgnombaaaGreat
namespace Go.Proofs.YtbjpifcgnombaaaGreat
open Go.RowKit Go.Shelf
theorem Sep.gain {w W W' : World} {F : List Nat} {l : List Res} {r : Res} (h : Sep w F l W) (h' : Sep W [] [r] W') : Sep w F (r :: l) W' :=
  h.add h'.b (h'.ok r (List.mem_singleton.2 rfl)) (fun k hk => (h'.new r (List.mem_singleton.2 rfl) k hk).elim (fun e => (List.not_mem_nil e).elim) id)
def max2I (x y : Int) : Int := if y > x then y else x
def min2I (x y : Int) : Int := if y < x then y else x
theorem max2I_eq (x y : Int) : max2I x y = max x y := by unfold max2I; split <;> omega
theorem min2I_eq (x y : Int) : min2I x y = min x y := by unfold min2I; split <;> omega
section
variable {w W : World} {F : List Nat} {l : List Res}
theorem apart_symm {r s : Res} (h : Apart r s) : Apart s r := fun k hk e => h k e hk
theorem Sep.pick (h : Sep w F l W) (is : List Nat) {l' : List Res} (hn : is.Nodup) (hl : is.map (fun i => l[i]?) = l'.map some) : Sep w F l' W := by
  have hlen : is.length = l'.length := by have := congrArg List.length hl; rwa [List.length_map, List.length_map] at this
  have get : ∀ j (hj : j < l'.length), l[is[j]'(by omega)]? = some l'[j] := fun j hj => by
    have := congrArg (fun x => x[j]?) hl
    simp only [List.getElem?_map, List.getElem?_eq_getElem hj, List.getElem?_eq_getElem (show j < is.length by omega), Option.map_some, Option.some.injEq] at this
    exact this
  have mem : ∀ r ∈ l', r ∈ l := fun r hr => by
    obtain ⟨j, hj, rfl⟩ := List.mem_iff_getElem.1 hr
    exact List.mem_of_getElem? (get j hj)
  refine ⟨fun r hr => h.ok r (mem r hr), fun r hr => h.new r (mem r hr), List.pairwise_iff_getElem.2 fun i j hi hj hij => ?_, h.out⟩
  obtain ⟨hi1, hi2⟩ := List.getElem?_eq_some_iff.1 (get i hi)
  obtain ⟨hj1, hj2⟩ := List.getElem?_eq_some_iff.1 (get j hj)
  have hne : is[i]'(by omega) ≠ is[j]'(by omega) := fun e => by
    have := (List.nodup_iff_pairwise_ne.1 hn)
    exact List.pairwise_iff_getElem.1 this i j (by omega) (by omega) hij e
  rw [← hi2, ← hj2]
  rcases Nat.lt_or_gt_of_ne hne with k | k
  · exact List.pairwise_iff_getElem.1 h.apart _ _ hi1 hj1 k
  · exact apart_symm (List.pairwise_iff_getElem.1 h.apart _ _ hj1 hi1 k)
end
-- HERE
end Go.Proofs.YtbjpifcgnombaaaGreat
namespace Go.Proofs.YtbjpifcgnombaaaGreat
open Go.RowKit Go.Shelf
deriving instance DecidableEq for Ak
deriving instance DecidableEq for Bd
structure Lt where
  k : Ak
  si : Int
abbrev ltc (x : Lt) : List Value := [.int .i64 x.k.us, .int .i64 x.k.se, .int .i64 x.k.re, .int .i64 x.k.to, .int .u64 (x.k.a0 : Nat), .int .u64 (x.k.a1 : Nat), .int .u64 (x.k.a2 : Nat), .int .u64 (x.k.a3 : Nat), .string x.k.id, .int .i64 x.si]
structure Rm where
  r0 : ByteArray
  r1 : ByteArray
  ls : List Lt
  bs : List Bd
abbrev rmc (m : Bool) (r0 r1 : ByteArray) (va vb : Value) : List Value := [.bool m, .string r0, .string r1, va, vb]
def RMR (B : Nat) (R : Rm) (va vb : Value) : List Res := [.blk B 220 (rmc true R.r0 R.r1 va vb), .own ltc 210 10 va R.ls, .own bdc 64 16 vb R.bs]
structure RmV (W : World) (B : Nat) (R : Rm) (va vb : Value) : Prop where
  b : Blk W B 220 (rmc true R.r0 R.r1 va vb)
  l : RSl ltc 0 W.heap.size W va R.ls
  o : RSl bdc 0 W.heap.size W vb R.bs
section
variable {W W' : World} {B : Nat} {R : Rm} {va vb : Value}
theorem RmV.below (h : RmV W B R va vb) (hb : Below W.heap.size W W') : RmV W' B R va vb := ⟨h.b.below hb h.b.lt, h.l.up hb, h.o.up hb⟩
end
def NoR (W : World) (p : Value) : Prop := p = .pointer none ∨ ∃ B, p = .pointer (some ⟨B, 0, none⟩) ∧ Blk W B 220 (rmc false ⟨#[]⟩ ⟨#[]⟩ (.slice none 0 0) (.slice none 0 0))
theorem NoR.below {W W' : World} {p : Value} (h : NoR W p) (hb : Below W.heap.size W W') : NoR W' p := by
  rcases h with h | ⟨B, h1, h2⟩
  · exact .inl h
  · exact .inr ⟨B, h1, h2.below hb h2.lt⟩
def RowB (l : List Bd) (w : World) (e : Ending) (W' : World) : Prop := ∃ v, e = .returned v ∧ Sep w [] [.own bdc 64 16 v l] W'
theorem RowB.b {l : List Bd} {w W' : World} {e : Ending} (h : RowB l w e W') : Below w.heap.size w W' := by obtain ⟨_, _, h⟩ := h; exact h.b
-- what its methods do
end Go.Proofs.YtbjpifcgnombaaaGreat
namespace Go.Proofs.YtbjpifcgnombaaaGreat
open Go.RowKit Go.Shelf
theorem conv_bytes (w : World) (s : ByteArray) : ∃ c W', (convert 9 80 (.string s)).run Tryz.prog w = .ok (.slice (some ⟨w.heap.size, 0, none⟩) s.size c) W' ∧ s.size ≤ c ∧ Below w.heap.size w W' ∧ W'.heap.size = w.heap.size + 1 ∧ Octs W' w.heap.size 0 s.data.toList := by
  refine ⟨_, _, Lib.run_convert_string_bytes w 9 80 5 s Tryz.underlying9 Tryz.underlying80 Tryz.underlying5, grownCap_ge _ _ _ _, ?_, Lib.bytesWorld_size _ _ _, fun k x hx => ?_⟩
  · refine ⟨rfl, rfl, rfl, by rw [Lib.bytesWorld_size]; omega, fun k hk => Lib.bytesWorld_at_old _ _ _ k hk⟩
  · have hk : k < s.size := (List.getElem?_eq_some_iff.1 hx).1
    rw [Nat.zero_add, Lib.bytesWorld_cell w _ s k hk]
    simp only [List.getD, hx, Option.getD_some]
theorem conv_bsl {w W : World} {s : ByteArray} {c : Nat} (hc : s.size ≤ c) (hz : W.heap.size = w.heap.size + 1) (ho : Octs W w.heap.size 0 s.data.toList) : BSl w.heap.size W.heap.size W (.slice (some ⟨w.heap.size, 0, none⟩) s.size c) s.data.toList :=
  ⟨_, c, rfl, hc, .inr ⟨_, 0, rfl, Nat.le_refl _, by omega, ho⟩⟩
end Go.Proofs.YtbjpifcgnombaaaGreat
namespace Go.Proofs.YtbjpifcgnombaaaGreat
open Go.RowKit Go.Shelf
theorem run_append_b {P : Program} (w : World) (base : Nat) (t ty e : TypeId) (i : TypeInfo) (z : Value) (ht : P.underlying t = some (.slice e)) (hi : P.info? e = some i) (hz : i.zero = some z)
    (hsize : i.size = 1) (hby : i.bytes = 1) (hzs : z.cells.size = 1) (v : Value) (n : Nat) (xs : List Value) (hown : w.ownsRow base e 1 v n xs)
    {lo hi' : Nat} {sv : Value} {l : List UInt8} (hsv : BSl lo hi' w sv l) (h63 : n + l.length ≤ 140737488355328) (hbase : base ≤ w.heap.size) :
    ∃ v' w', (Builtin.append_ #[t, t] ty #[v, sv]).run P w = .ok v' w' ∧ w'.ownsRow base e 1 v' (n + l.length) (xs ++ l.map bv) ∧ w.grownBy w' v.ownBlock := by
  obtain ⟨a, cap, rfl, _, h0⟩ := hsv
  rcases a with _ | ad
  · have hl : l = [] := by
      rcases h0 with h0 | ⟨_, _, h, _⟩
      · exact h0
      · cases h
    subst hl
    refine ⟨v, w, ?_, by simpa using hown, World.grownBy.refl w _⟩
    rcases hown.2 with ⟨rfl, rfl⟩ | ⟨g, c, cur, rfl, _, _, hnc, _⟩
    · simp [Builtin.append_, run_underlying ht, sizeOf, typeInfo, hi, Builtin.lenOf, Builtin.firstCells]
    · simp [Builtin.append_, run_underlying ht, sizeOf, typeInfo, hi, Builtin.lenOf, Builtin.firstCells, hnc, storeCells]
  · obtain ⟨v', w', hr, h2, h3, _⟩ := run_append_own (P := P) w base t ty e i z 1 1 ht hi hz hsize hby hzs (by omega) v n xs hown ad l.length cap (l.map bv) (by simp)
      (fun j u hu => by
        rcases h0 with rfl | ⟨b, off, ha, _, _, ho⟩
        · simp at hu
        · cases ha
          rw [List.getElem?_map] at hu
          obtain ⟨x, hx, rfl⟩ := Option.map_eq_some_iff.1 hu
          have hp : (⟨b, off, none⟩ : Addr).add j = ⟨b, off + j, none⟩ := by cases j <;> simp [Addr.add]
          rw [hp]; exact ho j x hx)
      (by intro u hu; obtain ⟨x, _, rfl⟩ := List.mem_map.1 hu; rfl) (by unfold maxLen; omega) (by omega) hbase
    exact ⟨v', w', hr, h2, h3⟩
theorem wpList_append_b {P : Program} (w : World) {ops : Array Oper} {rest : List Oper} {o : Oper} {a : Act} {Q : Exit → Act → World → Prop}
    (hg : o.guard = none) (s x : Operand) (t : TypeId) (hop : o.op = Op.call { callee := Callee.builtin Builtin.append, args := #[s, x], argTypes := #[t, t] })
    (base : Nat) (e : TypeId) (i : TypeInfo) (z : Value) (ht : P.underlying t = some (.slice e)) (hi : P.info? e = some i) (hz : i.zero = some z)
    (hsize : i.size = 1) (hby : i.bytes = 1) (hzs : z.cells.size = 1) (v : Value) (n : Nat) (xs : List Value) (hs : a.eval s = v) (hown : w.ownsRow base e 1 v n xs)
    {lo hi' : Nat} (sv : Value) (l : List UInt8) (hx : a.eval x = sv) (hsv : BSl lo hi' w sv l) (h63 : n + l.length ≤ 140737488355328) (hbase : base ≤ w.heap.size)
    (hK : ∀ v' w', w'.ownsRow base e 1 v' (n + l.length) (xs ++ l.map bv) → w.grownBy w' v.ownBlock → wpList P ops Q rest (a.put o.dst v') w') :
    wpList P ops Q (o :: rest) a w := by
  refine wpList_plain hg fun K hK' => ?_
  obtain ⟨v', w', hrun, r1, r2⟩ := run_append_b (P := P) w base t o.type e i z ht hi hz hsize hby hzs v n xs hown hsv h63 hbase
  unfold Oper.wp
  simp [execOp, hop, resolve, invoke, builtin, hs, hx, hrun, Result.andThen]
  exact hK' _ _ (hK v' w' r1 r2)
theorem wpListIn_append_b {F : Fence} {m : Nat} {P : Program} (w : World) {ops : Array Oper} {rest : List Oper} {o : Oper} {a : Act} {Q : Exit → Act → World → Prop}
    (hg : o.guard = none) (s x : Operand) (t : TypeId) (hop : o.op = Op.call { callee := Callee.builtin Builtin.append, args := #[s, x], argTypes := #[t, t] })
    (base : Nat) (e : TypeId) (i : TypeInfo) (z : Value) (ht : P.underlying t = some (.slice e)) (hi : P.info? e = some i) (hz : i.zero = some z)
    (hsize : i.size = 1) (hby : i.bytes = 1) (hzs : z.cells.size = 1) (v : Value) (n : Nat) (xs : List Value) (hs : a.eval s = v) (hown : w.ownsRow base e 1 v n xs)
    {lo hi' : Nat} (sv : Value) (l : List UInt8) (hx : a.eval x = sv) (hsv : BSl lo hi' w sv l) (h63 : n + l.length ≤ 140737488355328) (hbase : base ≤ w.heap.size)
    (hK : ∀ v' w', w'.ownsRow base e 1 v' (n + l.length) (xs ++ l.map bv) → w.grownBy w' v.ownBlock → wpListIn F m P ops Q rest (a.put o.dst v') w') :
    wpListIn F m P ops Q (o :: rest) a w := by
  refine wpListIn_plain hg fun K hK' => ?_
  obtain ⟨v', w', hrun, r1, r2⟩ := run_append_b (P := P) w base t o.type e i z ht hi hz hsize hby hzs v n xs hown hsv h63 hbase
  unfold Oper.wpIn
  refine ⟨?_, ?_⟩
  · simp [Oper.about, hop, resolve, Target.leads, Sem.run_pure]
  · rw [Oper.semAt_plain F _ _ (by rw [hop]; intro c hc'; cases hc')]
    simp [execOp, hop, resolve, invoke, builtin, hs, hx, hrun, Result.andThen]
    exact hK' _ _ (hK v' w' r1 r2)
def ByO (l : List UInt8) (w : World) (e : Ending) (W' : World) : Prop := ∃ sv, e = .returned sv ∧ W'.ownsRow w.heap.size 5 1 sv l.length (l.map bv) ∧ Below w.heap.size w W'
end Go.Proofs.YtbjpifcgnombaaaGreat
namespace Go.Proofs.YtbjpifcgnombaaaGreat
open Go.RowKit Go.Shelf
def Res.oct (v : Value) (l : List UInt8) : Res where
  foot := if l.isEmpty then [] else v.ownBlock.toList
  holds := fun W => ∃ hi, BSl 0 hi W v l
  stab := fun {W W'} h ⟨hi, a, cap, e, hc, h0⟩ => by
    refine ⟨hi, a, cap, e, hc, ?_⟩
    rcases h0 with h0 | ⟨b, off, ha, hl, hh, ho⟩
    · exact .inl h0
    · subst e ha
      cases l with
      | nil => exact .inl rfl
      | cons x l => exact .inr ⟨b, off, rfl, hl, hh, fun k x hx => (World.cell?_of_block (a := ⟨b, _, none⟩) (h b (by simp [Value.ownBlock]))).trans (ho k x hx)⟩
theorem ROk.octs {W : World} {v : Value} {l : List UInt8} (h : ROk (.oct v l) W) : BSl 0 W.heap.size W v l := by
  obtain ⟨hi, a, cap, e, hc, h0 | ⟨b, off, ha, hl, hh, ho⟩⟩ := h.h
  · exact ⟨a, cap, e, hc, .inl h0⟩
  · subst e ha
    cases l with
    | nil => exact ⟨_, cap, rfl, hc, .inl rfl⟩
    | cons x l => exact ⟨_, cap, rfl, hc, .inr ⟨b, off, rfl, hl, h.lt b (by simp [Res.oct, Value.ownBlock]), ho⟩⟩
theorem BSl.wide {W : World} {lo hi lo' : Nat} {v : Value} {l : List UInt8} (h : BSl lo hi W v l) (h1 : lo' ≤ lo) : BSl lo' hi W v l := h.mono h1 (Nat.le_refl _)
theorem oct_foot {W : World} {lo hi : Nat} {v : Value} {l : List UInt8} (h : BSl lo hi W v l) : ∀ k ∈ (Res.oct v l).foot, lo ≤ k ∧ k < hi := by
  obtain ⟨a, cap, e, hc, h0 | ⟨b, off, ha, hl, hh, ho⟩⟩ := h
  · subst h0
    exact fun k hk => (List.not_mem_nil hk).elim
  · subst e ha
    intro k hk
    cases l with
    | nil => exact (List.not_mem_nil hk).elim
    | cons x l =>
      obtain rfl : k = b := by simpa [Res.oct, Value.ownBlock] using hk
      exact ⟨hl, hh⟩
theorem ROk.of_bsl {W : World} {lo hi : Nat} {v : Value} {l : List UInt8} (h : BSl lo hi W v l) (hh : hi ≤ W.heap.size) : ROk (.oct v l) W :=
  ⟨⟨hi, h.wide (Nat.zero_le _)⟩, fun k hk => Nat.lt_of_lt_of_le (oct_foot h k hk).2 hh⟩
theorem Sep.octN {w W W' : World} {F : List Nat} {l : List Res} (h : Sep w F l W) {v : Value} {x : List UInt8} (hs : BSl W.heap.size W'.heap.size W' v x) (hb : Below W.heap.size W W') : Sep w F (.oct v x :: l) W' :=
  h.add hb (.of_bsl hs (Nat.le_refl _)) (fun k hk => (oct_foot hs k hk).1)
def BF (F : List Nat) (W : World) (v : Value) (l : List UInt8) : Prop := ∃ lo hi, BSl lo hi W v l ∧ hi ≤ W.heap.size ∧ ∀ k ∈ F, k < lo ∨ hi ≤ k
theorem BF.bsl {F : List Nat} {W : World} {v : Value} {l : List UInt8} (h : BF F W v l) : BSl 0 W.heap.size W v l := by
  obtain ⟨lo, hi, h1, h2, _⟩ := h
  exact h1.mono (Nat.zero_le _) h2
theorem BF.out {F : List Nat} {w W : World} {v : Value} {l : List UInt8} (h : BF F w v l) (ho : Out F w W) : BF F W v l := by
  obtain ⟨lo, hi, ⟨a, cap, e, hc, h0⟩, h2, h3⟩ := h
  refine ⟨lo, hi, ⟨a, cap, e, hc, h0.imp id fun ⟨b, off, ha, hl, hh, hx⟩ => ⟨b, off, ha, hl, hh, fun k x hk => ?_⟩⟩, Nat.le_trans h2 ho.size, h3⟩
  refine (World.cell?_of_block (a := ⟨b, _, none⟩) (ho.block b (by omega) fun hF => ?_)).trans (hx k x hk)
  have := h3 b hF
  omega
theorem BF.new {W W' : World} {r : Res} {v : Value} {l : List UInt8} (h : ROk r W) (hs : BSl W.heap.size W'.heap.size W' v l) : BF r.foot W' v l := ⟨_, _, hs, Nat.le_refl _, fun k hk => .inl (h.lt k hk)⟩
theorem BSl.slice {W : World} {lo hi : Nat} {v : Value} {l : List UInt8} (h : BSl lo hi W v l) : ∃ a c, v = .slice a l.length c ∧ l.length ≤ c := by
  obtain ⟨a, cap, e, hc, _⟩ := h
  exact ⟨a, cap, e, hc⟩
def txB (l : List UInt8) : ByteArray := ⟨l.toArray⟩
theorem txB_app (a b : List UInt8) : txB a ++ txB b = txB (a ++ b) := ByteArray.mk_append_mk a b
theorem txB_size (l : List UInt8) : (txB l).size = l.length := by simp [txB, ByteArray.size]
theorem cvT {W : World} {lo hi : Nat} {v : Value} {l : List UInt8} (h : BSl lo hi W v l) : (convert 80 9 v).run Tryz.prog W = .ok (.string (txB l)) W := run_string _ 5 _ Tryz.underlying80 Tryz.underlying5 Tryz.underlying9 W h
section
variable {ops : Array Oper} {Q : Exit → Act → World → Prop}
theorem cvF {s t : TypeId} (x : Operand) (d : Option Tmp) (v u : Value) {k : Nat} {a : Act} {w w' : World} (he : (convert s t v).run Tryz.prog w = .ok u w') (h : wpFrom Tryz.prog ops Q (k + 1) (a.put d u) w')
    (hk : (ops[k]?).map (fun o => (Region.wanted o (yielded ops a.tmps), o.dst, o.op)) = some (true, d, .convert s t x) := by kernel_rfl) (hx : a.eval x = v := by kernel_rfl) : wpFrom Tryz.prog ops Q k a w := by
  obtain ⟨o, _, _, _, hop, hr⟩ := op_at (P := Tryz.prog) hk
  refine wpFrom_run ((hr w).trans ?_) h
  unfold execOp
  simp only [hop, hx, Sem.run_bind, he, Result.andThen_ok]
  rfl
end
theorem catF {ops : Array Oper} {Q : Exit → Act → World → Prop} (x y : Operand) (T z : TypeId) (d : Option Tmp) (a b : List UInt8) {k : Nat} {A : Act} {w : World} (hn : a.length + b.length ≤ 9223372036854775807) (h : wpFrom Tryz.prog ops Q (k + 1) (A.put d (.string (txB (a ++ b)))) w)
    (hk : (ops[k]?).map (fun o => (Region.wanted o (yielded ops A.tmps), o.dst, o.op)) = some (true, d, .binOp .add T x y z) := by kernel_rfl) (hx : A.eval x = .string (txB a) := by kernel_rfl) (hy : A.eval y = .string (txB b) := by kernel_rfl) : wpFrom Tryz.prog ops Q k A w := by
  obtain ⟨o, _, _, _, hop, hr⟩ := op_at (P := Tryz.prog) hk
  refine wpFrom_run ((hr w).trans ?_) h
  unfold execOp
  simp only [hop, hx, hy, Sem.run_bind, eqGuard_add, binOp_string_add, run_string_add_sum w (txB a) (txB b) (by rw [txB_size, txB_size]; exact hn), txB_app, Sem.run_pure, Result.andThen_ok]
-- HERE
end Go.Proofs.YtbjpifcgnombaaaGreat
namespace Go.Proofs.YtbjpifcgnombaaaGreat
open Go.RowKit Go.Shelf
structure Dk where
  rm : Nat
  o : List UInt8
  su : Nat
def dkc (b : Bool) (r : Int) (v : Value) (s : Int) : List Value := [.bool b, .int .i64 r, v, .int .i64 s]
def DKR (B : Nat) (D : Dk) (v : Value) : List Res := [.blk B 205 (dkc true (D.rm : Int) v (D.su : Int)), .oct v D.o]
structure DkV (W : World) (B : Nat) (D : Dk) (v : Value) : Prop where
  b : Blk W B 205 (dkc true (D.rm : Int) v (D.su : Int))
  o : BSl 0 W.heap.size W v D.o
theorem DkV.below {W W' : World} {B : Nat} {D : Dk} {v : Value} (h : DkV W B D v) (hb : Below W.heap.size W W') : DkV W' B D v := ⟨h.b.below hb h.b.lt, (h.o.below hb (Nat.le_refl _)).mono (Nat.le_refl _) hb.size⟩
def NoD (W : World) (p : Value) : Prop := p = .pointer none ∨ ∃ B, p = .pointer (some ⟨B, 0, none⟩) ∧ Blk W B 205 (dkc false 0 (.slice none 0 0) 0)
theorem NoD.below {W W' : World} {p : Value} (h : NoD W p) (hb : Below W.heap.size W W') : NoD W' p := by
  rcases h with h | ⟨B, h1, h2⟩
  · exact .inl h
  · exact .inr ⟨B, h1, h2.below hb h2.lt⟩
def roomN (n : Int) : Nat := (max 0 (min n 65536)).toNat
def newD (n : Int) : Dk := ⟨roomN n, [], 0⟩
-- HERE
end Go.Proofs.YtbjpifcgnombaaaGreat
namespace Go.Proofs.YtbjpifcgnombaaaGreat
open Go.RowKit Go.Shelf
def nw (n : Nat) : Nat → Nat := fun k => n / M ^ k % M
abbrev Bk := Nat → Nat
def atS (a s : Int) : Prop := (0 ≤ a ∧ a < 8) ∧ 0 ≤ s ∧ s < 2
instance (a s : Int) : Decidable (atS a s) := by unfold atS; infer_instance
end Go.Proofs.YtbjpifcgnombaaaGreat
namespace Go.Proofs.YtbjpifcgnombaaaGreat
open Go.RowKit Go.Shelf
structure Me where
  us : Int
  rt : ByteArray
  r0 : ByteArray
  r1 : ByteArray
  d : Int
abbrev mec (m : Me) : List Value := [.int .i64 m.us, .string m.rt, .string m.r0, .string m.r1, .int .i64 m.d]
abbrev mev (m : Me) : Value := .agg #[.int .i64 m.us, .string m.rt, .string m.r0, .string m.r1, .int .i64 m.d]
structure Dl where
  k : Ak
  o : Nat
  iv : Trf
  vr : Sid
  ac : Int
  lf : Int
structure Pg where
  dl : Dl
  sn : Int
  td : Bool
abbrev pgc (x : Pg) : List Value := [.int .i64 x.dl.k.us, .int .i64 x.dl.k.se, .int .i64 x.dl.k.re, .int .i64 x.dl.k.to, .int .u64 (x.dl.k.a0 : Nat), .int .u64 (x.dl.k.a1 : Nat), .int .u64 (x.dl.k.a2 : Nat), .int .u64 (x.dl.k.a3 : Nat), .string x.dl.k.id, .int .u64 (nw x.dl.o 0 : Nat), .int .u64 (nw x.dl.o 1 : Nat), .int .u64 (nw x.dl.o 2 : Nat), .int .u64 (nw x.dl.o 3 : Nat), .int .i64 x.dl.iv.us, .string x.dl.iv.rt, .int .i64 x.dl.iv.ro, .int .i64 x.dl.iv.se, .int .i64 x.dl.iv.re, .int .i64 x.dl.iv.to, .string x.dl.iv.id, .int .u64 (x.dl.vr.a0 : Nat), .int .u64 (x.dl.vr.a1 : Nat), .int .u64 (x.dl.vr.a2 : Nat), .int .u64 (x.dl.vr.a3 : Nat), .int .i64 x.dl.vr.x, .int .i64 x.dl.ac, .int .i64 x.dl.lf, .int .i64 x.sn, .bool x.td]
structure Cl where
  me : Me
  dk : Dk
  pg : List Pg
  rm : Rm
  dn : Bool
abbrev clc (m : Me) (p v q : Value) (dn : Bool) : List Value := [.int .i64 m.us, .string m.rt, .string m.r0, .string m.r1, .int .i64 m.d, p, v, q, .bool dn]
def CLR (C D R : Nat) (c : Cl) (vo vp va vb : Value) : List Res := [.blk C 90 (clc c.me (.pointer (some ⟨D, 0, none⟩)) vp (.pointer (some ⟨R, 0, none⟩)) c.dn), .join (DKR D c.dk vo), .own pgc 108 29 vp c.pg, .join (RMR R c.rm va vb)]
def NoU (W : World) (p : Value) : Prop := p = .pointer none ∨ ∃ B, p = .pointer (some ⟨B, 0, none⟩) ∧ Blk W B 90 (clc ⟨0, ⟨#[]⟩, ⟨#[]⟩, ⟨#[]⟩, 0⟩ (.pointer none) (.slice none 0 0) (.pointer none) false)
theorem NoU.below {W W' : World} {p : Value} (h : NoU W p) (hb : Below W.heap.size W W') : NoU W' p := by
  rcases h with h | ⟨B, h1, h2⟩
  · exact .inl h
  · exact .inr ⟨B, h1, h2.below hb h2.lt⟩
def seedB (u : Int) : ByteArray := txB ([117, 115, 101, 114] ++ octs (two u) 1)
theorem seedB_size (u : Int) : (seedB u).size = 5 := by unfold seedB; rw [txB_size]; rfl
theorem seed_0 : seedB 0 = ⟨#[117, 115, 101, 114, 0]⟩ := by decide
theorem seed_1 : seedB 1 = ⟨#[117, 115, 101, 114, 1]⟩ := by decide
end Go.Proofs.YtbjpifcgnombaaaGreat
namespace Go.Proofs.YtbjpifcgnombaaaGreat
open Go.RowKit Go.Shelf
section
variable {P : Program} {ops : Array Oper} {Q : Exit → Act → World → Prop}
def cpAt (ops : Array Oper) (i : Nat) (a : Act) : Option (Bool × Option Tmp × Option (TypeId × TypeId × TypeId × Value × Value)) := (ops[i]?).map fun o => (Region.wanted o (yielded ops a.tmps), o.dst, match o.op with | .call ⟨.builtin .copy, ⟨[s, x]⟩, ⟨[t, t']⟩⟩ => some (t, t', o.type, a.eval s, a.eval x) | _ => none)
theorem op_copy {i : Nat} {o : Oper} {a : Act} {w w' : World} {d : Option Tmp} {t t' ty : TypeId} {v x u : Value} {K : Act → World → Prop} (ho : ops[i]? = some o) (hr : cpAt ops i a = some (true, d, some (t, t', ty, v, x))) (hst : (Builtin.copy_ #[t, t'] ty #[v, x]).run P w = .ok u w') (hc : K (a.put d u) w') :
    if Region.wanted o (yielded ops a.tmps) = true then o.wp P a w K Q else K (a.put o.dst undef) w := by
  unfold cpAt at hr
  rw [ho] at hr
  have h := Option.some.inj hr
  have h1 : Region.wanted o (yielded ops a.tmps) = true := congrArg Prod.fst h
  have h2 : o.dst = d := congrArg (fun x => x.2.1) h
  have h3 := congrArg (fun x => x.2.2) h
  rw [if_pos h1]
  dsimp only at h3
  split at h3
  · rename_i s y t1 t2 hop
    obtain ⟨rfl, rfl, rfl, rfl, rfl⟩ := by simpa using h3
    unfold Oper.wp execOp
    simp only [hop, resolve, invoke, builtin, Sem.run_bind, Sem.run_pure, Result.andThen_ok, List.map_toArray, List.map_cons, List.map_nil, hst]
    have : K (a.put o.dst u) w' := by rw [h2]; exact hc
    exact this
  · cases h3
theorem cpF (t t' ty : TypeId) (d : Option Tmp) (v x u : Value) {k : Nat} {a : Act} {w w' : World} (hst : (Builtin.copy_ #[t, t'] ty #[v, x]).run P w = .ok u w') (h : wpFrom P ops Q (k + 1) (a.put d u) w') (hr : cpAt ops k a = some (true, d, some (t, t', ty, v, x)) := by kernel_rfl) : wpFrom P ops Q k a w := by
  obtain ⟨o, ho⟩ := some_of hr
  exact wpFrom_step ho fun K hK => op_copy ho hr hst (hK _ _ h)
end
section
variable {α : Type} {f : α → List Value} {e S : TypeId} {n bytes : Nat} {z : Value} {l : List α} {W : World} {pa : Option Addr} {pc : Nat}
end
theorem slice_arr2 {ty e c : TypeId} (hu : Tryz.prog.underlying ty = some (.array 2 e)) (hs : ∀ W, (sizeOf e).run Tryz.prog W = .ok c W) (b o : Nat) (W : World) : (Instr.sliceAt ty (.pointer (some ⟨b, o, none⟩)) none none none).run Tryz.prog W = .ok (.slice (some ⟨b, o, none⟩) 2 2) W := by
  simp [Instr.sliceAt, Instr.sliceBounds, Instr.sureAddr, run_underlying hu, hs W, go_sem]
-- HERE
end Go.Proofs.YtbjpifcgnombaaaGreat
namespace Go.Proofs.YtbjpifcgnombaaaGreat
open Go.RowKit Go.Shelf
attribute [local go_sem] Oper.semAt_some
set_option maxRecDepth 100000 in
set_option maxHeartbeats 4000000 in
theorem numO_in (m : Nat) (hm : 3 ≤ m) (n size : Int) (hs : -9223372036854775808 ≤ size) (hs' : size ≤ 9223372036854775807) (w : World) :
    CallsIn Fence.wide m Tryz.prog 72 #[.int .i64 n, .int .i64 size] w (ByO (octs (two n) (clamp size)) w) := by
  have h1 : 1 ≤ m := by omega
  refine callsIn_of_wp_marks Tryz.func72 rfl trivial ?_ rfl
  simp only [Tryz.ntmps72, List.size_toArray, List.length_cons, List.length_nil, Nat.reduceAdd, Nat.reduceSub, Array.replicate_succ, Array.replicate_zero, List.push_toArray, List.append_toArray, List.nil_append, List.cons_append]
  obtain ⟨i0, hi, hz0, hz1, hz2⟩ := info_parts Tryz.infoByte
  have hU : IntKind.u64.wrap n = (two n : Nat) := wrap_two n
  have hx : two n < M := by unfold two M; omega
  generalize two n = x at *
  have H8 := clamp_le size
  have hCC := clamp_cases size
  generalize clamp size = s at *
  rcases hCC with ⟨hc0, hC⟩ | ⟨hc0, hc8, hC⟩ | ⟨hc8, hC⟩
  all_goals
    have HC := Lib.hid hC
    clear hC
    gi_wp2_with (refine ⟨trivial, ?_⟩; gi_at_call 144; refine (octets_in Fence.wide (m - 1) trivial rfl _ _ _).mono ?_; rintro e w' ⟨rfl, rfl⟩)
    generalize hW5 : World.alloc _ _ = W5
    have k0 : Boxed W5 w.heap.size 80 (.slice none 0 0) := by rw [← hW5]; exact ((Boxed.new _ _ _).alloc _).alloc _
    have k1 : Boxed W5 (w.heap.size + 1) 24 (.int .u64 (x : Nat)) := by rw [← hW5]; exact (Blk.new' (vs := [.int .u64 (x : Nat)]) (by simp)).alloc _
    have k2 : Boxed W5 (w.heap.size + 1 + 1) 3 (.int .i64 (s : Nat)) := by rw [HC.out, ← hW5]; exact Blk.new' (vs := [.int .i64 _]) (by simp)
    have hB0 : Below w.heap.size w W5 := by rw [← hW5]; exact chainA (chainA (chain0 _ _) _) _
    have hz : W5.heap.size = w.heap.size + 3 := by rw [← hW5]; simp
    clear hW5
    refine wpIn_rangeFunc_ownF (S := fun ys => ys = octs x s) rfl h1 (gf := 223) (lb := #[.pointer (some ⟨w.heap.size + 1 + 1, 0, none⟩), .pointer (some ⟨w.heap.size + 1, 0, none⟩)]) rfl trivial (enters_of Tryz.func223 (by kernel_rfl) rfl)
      (octets1_stops Fence.wide (m - 1) trivial rfl (by omega) x s H8 (w.heap.size + 1) (w.heap.size + 1 + 1) W5 k1.lt k2.lt (k1.cell) k2.cell (KeepB (w.heap.size + 1)) (fun A B h => World.cell?_of_block h)) KeepB.t (KeepB.b k1.lt) (Below.refl _ _) (fun _ => rfl)
      (NumI w.heap.size (w.heap.size + 1) x w) (fun _ _ _ => False) (numI_own (Nat.le_refl _) (by omega)) (fun _ _ _ _ _ hs _ _ => hs)
      ⟨⟨⟨_, k0, World.ownsRow_nil _ _ _ _, trivial⟩, k1⟩, hB0⟩ ?_ ?_ ?_ ?_ ?_
    rotate_left
    · intro l x W K hK
      gi_wp2
      exact hK
    · rintro l pre o W ⟨⟨⟨v, kv, hown, _⟩, kn⟩, hB⟩ hlt
      have ko := kv.cell
      have kf := kv.frozen
      have hNW : w.heap.size ≤ W.heap.size := hB.size
      gi_wp2_with (gi_at_builtin; refine wpListIn_append_own _ rfl _ _ 80 rfl w.heap.size 5 i0 (.int .u8 0) 1 1 Tryz.underlying80 hi hz0 hz1 hz2 rfl (by decide) v pre.length (pre.map bv) rfl (hown.alloc _) ⟨W.heap.size, 0, none⟩ 1 1 [bv o] rfl rfl (cell_one_new _ _ _) (by simp [Value.oneCell']) (by unfold maxLen; omega) (by omega) (by simp; omega) ?_; intro v' w1 hown' hgrow _; obtain ⟨g, cap, rfl⟩ := ownsRow_succ hown'; obtain ⟨hv1, kv', hrow', hk3, hbw⟩ := kv.appended (by decide) hown hNW (Nat.le_refl _) hown' hgrow; have ko1 := hv1.cell; have kf1 := hv1.frozen)
      have hn1 : W.heap.size ≤ w1.heap.size := Nat.le_trans (by simp) hgrow.size
      have kn1 : Boxed w1 (w.heap.size + 1) 24 (.int .u64 (x : Nat)) := (kn.alloc _).kept hgrow (Boxed.not_row kn (by decide) hown)
      have kn3 := kn1.kept (grownBy_setCell' w1 w.heap.size (.slice (some ⟨g, 0, none⟩) (pre.length + 1) cap)) (by simp)
      exact ⟨hk3, kn3.trans kn.symm, ⟨⟨_, kv', by simpa using hrow', trivial⟩, kn3⟩, hB.trans hbw⟩
    · rintro D ys W hD rfl ⟨⟨⟨v, kv, hown, _⟩, kn⟩, hB⟩ hK
      have ko := kv.cell
      have HZ := Lib.hid hz
      clear hz
      gi_wp2
      have hB' := hB.trans (belowK_b (w := w) (Nat.le_refl _) _ D _ (.deferred none) (by have := HZ.out; omega) hK rfl rfl)
      have hown3 := ownsRow_putObj hown (.deferred none) hK rfl
      refine ⟨by simp, .inl ⟨_, _, rfl, run_takeDeferred hK, ?_⟩⟩
      refine ⟨v, ?_, ?_⟩
      · simp [results, Tryz.f72, go_sem]
      · exact ⟨v, rfl, hown3, hB'⟩
    · rintro D c pre W _ _ h _
      exact h.elim
theorem numO_any (n size : Int) (hs : -9223372036854775808 ≤ size) (hs' : size ≤ 9223372036854775807) (w : World) :
    Calls Tryz.prog 72 #[.int .i64 n, .int .i64 size] w (ByO (octs (two n) (clamp size)) w) := callsIn_wide.1 (numO_in 3 (by omega) n size hs hs' w)
end Go.Proofs.YtbjpifcgnombaaaGreat
