/-
  Octets that are read alone, as parts of memory; slices of them that are lent; what is appended behind such a slice; octets and texts.
-/
import Derived.Test.YtakeickgjplahaaSepK
import Derived.Test.YtakeickgjplahaaConv
import Derived.Test.YtakeickgjplahaaAppendB
import Derived.Deep.Upon
import Derived.Lib.SlBytesConst
import Derived.Laws.Concat
namespace Go.Proofs.Ytakeickgjplahaa
open Go.RowKit Go.Shelf

/-- Octets that are read alone. -/
def Res.oct (v : Value) (l : List UInt8) : Res where
  foot := if l.isEmpty then [] else v.ownBlock.toList
  holds := fun W => ∃ hi, BSl 0 hi W v l
  stab := fun {W W'} h ⟨hi, a, cap, e, hc, h0⟩ => by
    refine ⟨hi, a, cap, e, hc, ?_⟩
    rcases h0 with h0 | ⟨b, off, ha, hl, hh, ho⟩
    · exact .inl h0
    · subst e ha
      cases l with
      | nil => exact .inl rfl
      | cons x l => exact .inr ⟨b, off, rfl, hl, hh, fun k x hx => (World.cell?_of_block (a := ⟨b, _, none⟩) (h b (by simp [Value.ownBlock]))).trans (ho k x hx)⟩
theorem ROk.octs {W : World} {v : Value} {l : List UInt8} (h : ROk (.oct v l) W) : BSl 0 W.heap.size W v l := by
  obtain ⟨hi, a, cap, e, hc, h0 | ⟨b, off, ha, hl, hh, ho⟩⟩ := h.h
  · exact ⟨a, cap, e, hc, .inl h0⟩
  · subst e ha
    cases l with
    | nil => exact ⟨_, cap, rfl, hc, .inl rfl⟩
    | cons x l => exact ⟨_, cap, rfl, hc, .inr ⟨b, off, rfl, hl, h.lt b (by simp [Res.oct, Value.ownBlock]), ho⟩⟩
theorem BSl.wide {W : World} {lo hi lo' : Nat} {v : Value} {l : List UInt8} (h : BSl lo hi W v l) (h1 : lo' ≤ lo) : BSl lo' hi W v l := h.mono h1 (Nat.le_refl _)
theorem oct_foot {W : World} {lo hi : Nat} {v : Value} {l : List UInt8} (h : BSl lo hi W v l) : ∀ k ∈ (Res.oct v l).foot, lo ≤ k ∧ k < hi := by
  obtain ⟨a, cap, e, hc, h0 | ⟨b, off, ha, hl, hh, ho⟩⟩ := h
  · subst h0
    exact fun k hk => (List.not_mem_nil hk).elim
  · subst e ha
    intro k hk
    cases l with
    | nil => exact (List.not_mem_nil hk).elim
    | cons x l =>
      obtain rfl : k = b := by simpa [Res.oct, Value.ownBlock] using hk
      exact ⟨hl, hh⟩
theorem ROk.of_bsl {W : World} {lo hi : Nat} {v : Value} {l : List UInt8} (h : BSl lo hi W v l) (hh : hi ≤ W.heap.size) : ROk (.oct v l) W :=
  ⟨⟨hi, h.wide (Nat.zero_le _)⟩, fun k hk => Nat.lt_of_lt_of_le (oct_foot h k hk).2 hh⟩
/-- What was made anew is one's own to read. -/
theorem Sep.octN {w W W' : World} {F : List Nat} {l : List Res} (h : Sep w F l W) {v : Value} {x : List UInt8} (hs : BSl W.heap.size W'.heap.size W' v x) (hb : Below W.heap.size W W') : Sep w F (.oct v x :: l) W' :=
  h.add hb (.of_bsl hs (Nat.le_refl _)) (fun k hk => (oct_foot hs k hk).1)
/-- A part becomes octets that were made anew. -/
theorem turn_oct {W W' : World} {r : Res} {v : Value} {l : List UInt8} (hb : Below W.heap.size W W') (hs : BSl W.heap.size W'.heap.size W' v l) : RTurn r (.oct v l) W W' :=
  ⟨.of_bsl hs (Nat.le_refl _), Out.of_below hb, fun k hk => .inr (oct_foot hs k hk).1⟩
/-- Octets that lie apart from some blocks. -/
def BF (F : List Nat) (W : World) (v : Value) (l : List UInt8) : Prop := ∃ lo hi, BSl lo hi W v l ∧ hi ≤ W.heap.size ∧ ∀ k ∈ F, k < lo ∨ hi ≤ k
theorem BF.bsl {F : List Nat} {W : World} {v : Value} {l : List UInt8} (h : BF F W v l) : BSl 0 W.heap.size W v l := by
  obtain ⟨lo, hi, h1, h2, _⟩ := h
  exact h1.mono (Nat.zero_le _) h2
theorem BF.out {F : List Nat} {w W : World} {v : Value} {l : List UInt8} (h : BF F w v l) (ho : Out F w W) : BF F W v l := by
  obtain ⟨lo, hi, ⟨a, cap, e, hc, h0⟩, h2, h3⟩ := h
  refine ⟨lo, hi, ⟨a, cap, e, hc, h0.imp id fun ⟨b, off, ha, hl, hh, hx⟩ => ⟨b, off, ha, hl, hh, fun k x hk => ?_⟩⟩, Nat.le_trans h2 ho.size, h3⟩
  refine (World.cell?_of_block (a := ⟨b, _, none⟩) (ho.block b (by omega) fun hF => ?_)).trans (hx k x hk)
  have := h3 b hF
  omega
theorem BF.new {W W' : World} {r : Res} {v : Value} {l : List UInt8} (h : ROk r W) (hs : BSl W.heap.size W'.heap.size W' v l) : BF r.foot W' v l := ⟨_, _, hs, Nat.le_refl _, fun k hk => .inl (h.lt k hk)⟩
theorem BF.arg {w W : World} {r : Res} {L : List Res} {lo hi : Nat} {v : Value} {l : List UInt8} (h : Sep w [] L W) (hr : r ∈ L) (hs : BSl lo hi w v l) (hh : hi ≤ w.heap.size) : BF r.foot W v l :=
  ⟨lo, hi, hs.below h.b hh, Nat.le_trans hh h.size, fun k hk => .inr (Nat.le_trans hh ((h.new r hr k hk).elim (fun e => (List.not_mem_nil e).elim) id))⟩
theorem BSl.slice {W : World} {lo hi : Nat} {v : Value} {l : List UInt8} (h : BSl lo hi W v l) : ∃ a c, v = .slice a l.length c ∧ l.length ≤ c := by
  obtain ⟨a, cap, e, hc, _⟩ := h
  exact ⟨a, cap, e, hc⟩
/-- The first k of them, and no room. -/
theorem BSl.lend {W : World} {lo hi : Nat} {a : Option Addr} {c : Nat} {l : List UInt8} (h : BSl lo hi W (.slice a l.length c) l) {k : Nat} (hk : k ≤ l.length) : BSl lo hi W (.slice a k k) (l.take k) := by
  obtain ⟨a', c', e', hc, h0⟩ := h
  cases e'
  have hl : (l.take k).length = k := List.length_take_of_le hk
  refine ⟨a, k, by rw [hl], by omega, ?_⟩
  rcases h0 with rfl | ⟨b, off, ha, h1, h2, h3⟩
  · exact .inl List.take_nil
  · exact .inr ⟨b, off, ha, h1, h2, fun j x hj => h3 j x (by have hlt := (List.getElem?_eq_some_iff.1 hj).1; rw [List.getElem?_take_of_lt (by omega)] at hj; exact hj)⟩
theorem BSl.cap {W : World} {lo hi : Nat} {a : Option Addr} {c : Nat} {l : List UInt8} (h : BSl lo hi W (.slice a l.length c) l) : BSl lo hi W (.slice a l.length l.length) l := by
  obtain ⟨a', c', e', hc, h0⟩ := h
  cases e'
  exact ⟨a, _, rfl, Nat.le_refl _, h0⟩
theorem slice_hm {W0 : World} {lo hi : Nat} {a : Option Addr} {c : Nat} {l : List UInt8} (h : BSl lo hi W0 (.slice a l.length c) l) {k : Nat} (hk : k ≤ l.length) (W : World) :
    (Instr.sliceAt 23 (.slice a l.length c) none (some (.int .i64 (k : Int))) (some (.int .i64 (k : Int)))).run Try.prog W = .ok (.slice a k k) W := by
  obtain ⟨a', c', e', hc, h0⟩ := h
  cases e'
  have he : Try.prog.elem 23 = 5 := by kernel_rfl
  have hu : Try.prog.underlying 23 = some (.slice (Try.prog.elem 23)) := by rw [he]; exact Try.underlying23
  have hs : (sizeOf (Try.prog.elem 23)).run Try.prog W = .ok 1 W := by rw [he]; kernel_rfl
  rw [run_sliceAt_slice W 23 _ _ _ _ hu, run_slice_hm W 23 a l.length c hu .i64 .i64 (k : Int) (k : Int) (by omega) (by omega) (by omega), hs]
  show Result.ok (sliced a 0 k k 1) W = _
  unfold sliced
  rw [Nat.sub_zero]
  split
  · rfl
  · next hne =>
    rcases h0 with rfl | ⟨b, off, rfl, _⟩
    · exact absurd (Nat.le_zero.1 hk) hne
    · simp [Addr.add]
theorem addr_add' (b o j : Nat) : (⟨b, o, none⟩ : Addr).add j = ⟨b, o + j, none⟩ := by cases j <;> simp [Addr.add]
theorem firstB {W : World} {lo hi : Nat} {a : Option Addr} {c : Nat} {l : List UInt8} (h : BSl lo hi W (.slice a l.length c) l) : (Builtin.firstCells 1 l.length (.slice a l.length c)).run Try.prog W = .ok (l.map bv).toArray W := by
  obtain ⟨a', c', e', _, h0⟩ := h
  cases e'
  cases a with
  | none =>
    obtain rfl : l = [] := by
      rcases h0 with h0 | ⟨_, _, ha, _⟩
      · exact h0
      · cases ha
    exact run_firstCells_none W 1 0 0 c
  | some ad =>
    refine run_firstCells_some W 1 l.length ad l.length c (l.map bv) (by simp) fun j v hj => ?_
    rcases h0 with rfl | ⟨b, off, ha, _, _, ho⟩
    · simp at hj
    · cases ha
      rw [List.getElem?_map] at hj
      obtain ⟨y, hy, rfl⟩ := Option.map_eq_some_iff.1 hj
      rw [addr_add']
      exact ho j y hy
theorem srcB {W : World} {lo hi : Nat} {a : Option Addr} {c : Nat} {l : List UInt8} (h : BSl lo hi W (.slice a l.length c) l) : Src Try.prog 1 23 (.slice a l.length c) l.length (l.map bv) W :=
  ⟨.inl ⟨_, Try.underlying23⟩, fun _ => rfl, firstB h, firstB (W := W.drew) h, by simp, fun u hu => by obtain ⟨_, _, rfl⟩ := List.mem_map.1 hu; rfl⟩
theorem infoOct1 : (Try.prog.info? 5).map (fun i => (i.zero, i.size, i.bytes)) = some (some (.int .u8 0), 1, 1) := by kernel_rfl
/-- What is appended behind a slice without room goes into new memory; nothing is behind it as it was. -/
theorem app_cap {W : World} {lo hi lo' hi' : Nat} {a : Option Addr} {c : Nat} {l : List UInt8} (h0 : BSl lo hi W (.slice a l.length c) l) {x : Value} {ys : List UInt8} (hx : BSl lo' hi' W x ys) (hh : hi ≤ W.heap.size) (hr : l.length + ys.length ≤ 140737488355328) (ty : TypeId) :
    ∃ v' W', (Builtin.append_ #[23, 23] ty #[.slice a l.length l.length, x]).run Try.prog W = .ok v' W' ∧ RTurn (.oct (.slice a l.length c) l) (.oct v' (l ++ ys)) W W' := by
  have h := h0.cap
  obtain ⟨i0, hi0, hz0, hz1, hz2⟩ := info_parts infoOct1
  obtain ⟨b, c', rfl, hc⟩ := hx.slice
  have hsr := srcB hx
  cases ys with
  | nil =>
    refine ⟨_, W, run_append_nothing W 23 23 ty 5 i0 Try.underlying23 hi0 a _ _ (Nat.le_refl _) _ (by rw [hz1]; exact hsr), ?_⟩
    rw [List.append_nil]
    exact ⟨.of_bsl h hh, Out.refl _ _, fun k hk => .inl (by cases a <;> exact hk)⟩
  | cons y ys =>
    have hrun := run_append_grow_src (P := Try.prog) W 23 23 ty 5 i0 (.int .u8 0) Try.underlying23 hi0 hz0 a l.length l.length (l.map bv) (by rw [hz1]; exact firstB (W := W.drew) h) _ _ _ (by rw [hz1]; exact hsr) (by simp) (by simp only [List.length_cons] at hr ⊢; omega)
      (growslice_fits (by simp) (by rw [hz2]; simp only [List.length_cons] at hr ⊢; omega))
    refine ⟨_, _, hrun, turn_oct ((Below.refl _ W).drew.alloc (Nat.le_refl _) _) ⟨_, _, by rw [List.length_append], by rw [List.length_append]; exact grownCap_ge _ _ _ _, .inr ⟨W.heap.size, 0, rfl, Nat.le_refl _, (by show W.heap.size < (W.heap.push _).size; rw [Array.size_push]; exact Nat.lt_succ_self _), fun k z hz => ?_⟩⟩⟩
    rw [Nat.zero_add]
    refine (cell_of_row _ W.heap.size k _ 5 (0, 0) (heap_alloc_new W.drew _)).trans ?_
    rw [← List.map_append, ← Array.getElem?_toList, Array.toList_append, List.getElem?_append_left (by simpa using (List.getElem?_eq_some_iff.1 hz).1)]
    simp only [List.getElem?_map, hz, Option.map_some]
/-- Octets as a text. -/
def txB (l : List UInt8) : ByteArray := ⟨l.toArray⟩
theorem txB_app (a b : List UInt8) : txB a ++ txB b = txB (a ++ b) := ByteArray.mk_append_mk a b
theorem txB_data (l : List UInt8) : (txB l).data.toList = l := rfl
theorem txB_size (l : List UInt8) : (txB l).size = l.length := by simp [txB, ByteArray.size]
theorem cvT {W : World} {lo hi : Nat} {v : Value} {l : List UInt8} (h : BSl lo hi W v l) : (convert 23 9 v).run Try.prog W = .ok (.string (txB l)) W := run_string _ 5 _ Try.underlying23 Try.underlying5 Try.underlying9 W h
section
variable {ops : Array Oper} {Q : Exit → Act → World → Prop}
/-- A conversion. -/
theorem cvF {s t : TypeId} (x : Operand) (d : Option Tmp) (v u : Value) {k : Nat} {a : Act} {w w' : World} (he : (convert s t v).run Try.prog w = .ok u w') (h : wpFrom Try.prog ops Q (k + 1) (a.put d u) w')
    (hk : (ops[k]?).map (fun o => (Region.wanted o (yielded ops a.tmps), o.dst, o.op)) = some (true, d, .convert s t x) := by kernel_rfl) (hx : a.eval x = v := by kernel_rfl) : wpFrom Try.prog ops Q k a w := by
  obtain ⟨o, _, _, _, hop, hr⟩ := op_at (P := Try.prog) hk
  refine wpFrom_run ((hr w).trans ?_) h
  unfold execOp
  simp only [hop, hx, Sem.run_bind, he, Result.andThen_ok]
  rfl
theorem cvD {md : Region.Mode} {S : World → Prop} {s t : TypeId} (x : Operand) (d : Option Tmp) (v u : Value) {m i : Nat} {listed : Array Bool} {a : Act} {w w' : World} (he : (convert s t v).run Try.prog w = .ok u w') (hS : S w') (h : wpAnyH Try.prog md ops Q S m (listed.setIfInBounds i true) (a.put d u) w')
    (hk : (ops[i]?).map (fun o => (Region.wanted o (yielded ops a.tmps), o.dst, o.op)) = some (true, d, .convert s t x) := by kernel_rfl) (hx : a.eval x = v := by kernel_rfl) : StepH Try.prog md ops Q S m listed a w i := by
  obtain ⟨o, _, _, _, hop, hr⟩ := op_at (P := Try.prog) hk
  refine stepH_run ((hr w).trans ?_) hS h
  unfold execOp
  simp only [hop, hx, Sem.run_bind, he, Result.andThen_ok]
  rfl
end
/-- Two texts, one behind the other. -/
theorem catF {ops : Array Oper} {Q : Exit → Act → World → Prop} (x y : Operand) (T z : TypeId) (d : Option Tmp) (a b : List UInt8) {k : Nat} {A : Act} {w : World} (hn : a.length + b.length ≤ 9223372036854775807) (h : wpFrom Try.prog ops Q (k + 1) (A.put d (.string (txB (a ++ b)))) w)
    (hk : (ops[k]?).map (fun o => (Region.wanted o (yielded ops A.tmps), o.dst, o.op)) = some (true, d, .binOp .add T x y z) := by kernel_rfl) (hx : A.eval x = .string (txB a) := by kernel_rfl) (hy : A.eval y = .string (txB b) := by kernel_rfl) : wpFrom Try.prog ops Q k A w := by
  obtain ⟨o, _, _, _, hop, hr⟩ := op_at (P := Try.prog) hk
  refine wpFrom_run ((hr w).trans ?_) h
  unfold execOp
  simp only [hop, hx, hy, Sem.run_bind, eqGuard_add, binOp_string_add, run_string_add_sum w (txB a) (txB b) (by rw [txB_size, txB_size]; exact hn), txB_app, Sem.run_pure, Result.andThen_ok]
/-- A literal's octets. -/
theorem cvL (W : World) (l : List UInt8) : ∃ W', (convert 23 23 (.slice (some ⟨W.heap.size, 0, none⟩) l.length l.length)).run Try.prog (W.alloc (.cells (l.map bv).toArray 5)) = .ok (.slice (some ⟨W.heap.size, 0, none⟩) l.length l.length) W' ∧
    Below W.heap.size W W' ∧ BSl W.heap.size W'.heap.size W' (.slice (some ⟨W.heap.size, 0, none⟩) l.length l.length) l := by
  refine ⟨_, Lib.run_convert_bytes_const (P := Try.prog) W 23 5 (l.map bv).toArray l.length l.length Try.underlying23 Try.underlying5, (Below.refl _ W).alloc (Nat.le_refl _) _, ⟨_, l.length, rfl, Nat.le_refl _, .inr ⟨W.heap.size, 0, rfl, Nat.le_refl _, (by show W.heap.size < (W.heap.push _).size; rw [Array.size_push]; exact Nat.lt_succ_self _), fun k x hx => ?_⟩⟩⟩
  rw [Nat.zero_add]
  refine (cell_of_row _ W.heap.size k _ 5 _ (heap_alloc_new W _)).trans ?_
  simp [hx]
-- HERE
end Go.Proofs.Ytakeickgjplahaa
