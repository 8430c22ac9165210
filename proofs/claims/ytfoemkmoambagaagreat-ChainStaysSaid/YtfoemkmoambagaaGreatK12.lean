/-
  A store into an element of a row of the call's own; A ledger in memory: its cells, the events that stand one ahead of the other, and all of it as one; Rows of transactions: parts of a slice; slices.Clone, slices.Grow of the nil slice, slices.Concat; A ledger that somebody made, or nobody; which one of so many; whether one waits that is looked for; A ledger is made; its time; its state; what waits;
-/
import Derived.Lib.AppendZeros
import Derived.LoopTactic
import Derived.Test.YtfoemkmoambagaaGreatK11
namespace Go.Proofs.YtfoemkmoambagaaGreat
open Go.RowKit Go.Shelf
theorem flat_laid {α : Type} {f : α → List Value} {n : Nat} (hn : ∀ x, (f x).length = n) {l : List α} {k j : Nat} {x y : α} {ns : List Value} (hx : l[k]? = some x) (hle : j + ns.length ≤ n) (hy : laid (f x) j ns = f y) : laid (flatR f l) (k * n + j) ns = flatR f (l.set k y) := by
  obtain ⟨hk, rfl⟩ := List.getElem?_eq_some_iff.1 hx
  have e1 : flatR f l = flatR f (l.take k) ++ (f l[k] ++ flatR f (l.drop (k + 1))) := by
    rw [← flat_cons, List.getElem_cons_drop, ← flat_app, List.take_append_drop]
  have e2 : flatR f (l.set k y) = flatR f (l.take k) ++ (f y ++ flatR f (l.drop (k + 1))) := by
    rw [List.set_eq_take_append_cons_drop, if_pos hk, flat_app, flat_cons]
  rw [e1, e2, laid_in (by rw [flat_len hn, List.length_take, Nat.min_eq_left (Nat.le_of_lt hk)]) ns j (by rw [hn]; exact hle), hy]
theorem laid_take {vs : List Value} {o m : Nat} {ns : List Value} (h : o + ns.length ≤ m) (hm : m ≤ vs.length) : (laid vs o ns).take m = laid (vs.take m) o ns := by
  obtain ⟨d, rfl⟩ : ∃ d, m = o + ns.length + d := ⟨m - (o + ns.length), by omega⟩
  have hA : (vs.take o ++ ns).length = o + ns.length := by rw [List.length_append, List.length_take]; omega
  have e1 : ∀ C : List Value, (vs.take o ++ ns ++ C).take (o + ns.length + d) = vs.take o ++ ns ++ C.take d := fun C => by
    rw [← hA]
    exact List.take_length_add_append _
  unfold laid
  rw [e1, List.take_take, Nat.min_eq_left (by omega), List.drop_take, Nat.add_sub_cancel_left]
theorem own_store {α : Type} {f : α → List Value} {e : TypeId} {n : Nat} {v : Value} {l : List α} {W W0 : World} (h : ROk (.own f e n v l) W) (hn : ∀ x, (f x).length = n) {k : Nat} {x : α} (hx : l[k]? = some x) {ty e' : TypeId} (hu : Tryz.prog.underlying ty = some (.slice e')) (hs : ∀ W, (sizeOf e').run Tryz.prog W = .ok n W)
    {b o : Nat} (hi : (Instr.indexAt ty v (.int .i64 (k : Int))).run Tryz.prog W0 = .ok (.pointer (some ⟨b, o, none⟩)) W0) (y : α) (j : Nat) (tv : TypeId) (val : Value) (hinf : (Tryz.prog.info? tv).map (·.size) = some val.cells.size) (hle : j + val.cells.size ≤ n) (h1 : val.cells.all (·.oneCell') = true) (hy : laid (f x) j val.cells.toList = f y) :
    ∃ W', (Instr.storeAt tv (.pointer (some ⟨b, o + j, none⟩)) val).run Tryz.prog W = .ok () W' ∧ RTurn (.own f e n v l) (.own f e n v (l.set k y)) W W' := by
  have hk : k < l.length := (List.getElem?_eq_some_iff.1 hx).1
  rcases h.h.2 with ⟨_, h0⟩ | ⟨g, cap, cur, rfl, hg, hc, hnc, hm, hsz, ht⟩
  · omega
  · have hB : Blk W g e cur.toList := hc
    have hi2 := idx_sl (W := W0) (b := g) (off := 0) (len := l.length) (cap := cap) (c := n) hu (hs W0) hk
    rw [Nat.zero_add] at hi2
    obtain ⟨rfl, rfl⟩ : g = b ∧ k * n = o := by simpa using hi2.symm.trans hi
    have hkn : (k + 1) * n ≤ l.length * n := Nat.mul_le_mul_right _ hk
    have hcn : l.length * n ≤ cap * n := Nat.mul_le_mul_right _ hnc
    rw [Nat.succ_mul] at hkn
    have hcl : cur.toList.length = cap * n := (Array.length_toList).trans hsz
    have hvl : val.cells.toList.length = val.cells.size := Array.length_toList
    have hlen : k * n + j + val.cells.size ≤ cur.toList.length := by omega
    refine ⟨_, run_store_part hB (k * n + j) val tv hinf hlen h1, turn_own ⟨?_, .inr ⟨g, cap, (laid cur.toList (k * n + j) val.cells.toList).toArray, by rw [List.length_set], hg, hB.row _, by rw [List.length_set]; exact hnc, hm, ?_, ?_⟩⟩ (by exact grownBy_row W g _) (fun q hq => .inl hq)⟩
    · rw [flat_len hn]
    · rw [List.size_toArray]
      unfold laid
      rw [List.length_append, List.length_append, List.length_take, List.length_drop]
      omega
    · rw [List.toList_toArray, List.length_set, laid_take (by omega) (by omega), ht]
      exact flat_laid hn hx (by omega) hy
end Go.Proofs.YtfoemkmoambagaaGreat
namespace Go.Proofs.YtfoemkmoambagaaGreat
open Go.RowKit Go.Shelf
def lgc (b : Bool) (s : Es) (v pv : Value) (n : Int) (q : Value) : List Value := [.bool b] ++ (stc s v ++ [pv, .int .i64 n, q])
theorem lgc_st (b : Bool) (s : Es) (v pv : Value) (n : Int) (q : Value) : lgc b s v pv n q = [.bool b] ++ (stc s v ++ [pv, .int .i64 n, q]) := rfl
theorem lgc_hi (b : Bool) (s : Es) (v pv : Value) (n : Int) (q : Value) : lgc b s v pv n q = ([.bool b] ++ stc s v) ++ ([pv, .int .i64 n, q] ++ []) := by unfold lgc; simp only [List.append_assoc, List.append_nil]
theorem lgc_1 (b : Bool) : ([.bool b] : List Value).length = 1 := rfl
theorem lgc_152 (b : Bool) (s : Es) (v : Value) : ([.bool b] ++ stc s v : List Value).length = 152 := by rw [List.length_append, stc_len]; rfl
theorem lgc_len (b : Bool) (s : Es) (v pv : Value) (n : Int) (q : Value) : (lgc b s v pv n q).length = 155 := by
  unfold lgc
  simp only [List.length_append, stc_len, List.length_cons, List.length_nil]
theorem lgc_cell (b : Bool) (s : Es) (v pv : Value) (n : Int) (q : Value) {k : Nat} (hk : k < 151) : (lgc b s v pv n q)[1 + k]? = (stc s v)[k]? := by
  rw [lgc_st]
  exact cell_in (lgc_1 b) k (by rw [stc_len]; exact hk)
theorem lgc_top (b : Bool) (s : Es) (v pv : Value) (n : Int) (q : Value) {k : Nat} (hk : k < 3) : (lgc b s v pv n q)[152 + k]? = ([pv, .int .i64 n, q] : List Value)[k]? := by
  rw [lgc_hi]
  exact cell_in (lgc_152 b s v) k hk
section
variable {W : World} {B : Nat} {T : TypeId} {b : Bool} {s : Es} {v pv q : Value} {n : Int}
theorem ld_made (h : Blk W B T (lgc b s v pv n q)) : (Instr.loadAt 4 (.pointer (some ⟨B, 0, none⟩))).run Tryz.prog W = .ok (.bool b) W := ld_any _ _ Tryz.underlying4 rfl h 0 rfl
theorem ld_chst (h : Blk W B T (lgc b s v pv n q)) : (Instr.loadAt 35 (.pointer (some ⟨B, 1, none⟩))).run Tryz.prog W = .ok (stv s v) W :=
  load_part h 1 (stc s v) (by rw [stc_len]; exact part_at (lgc_1 b) (stc_len s v)) _ _ Tryz.underlying35 rfl (by rw [stc_len]; exact info_st)
theorem ld_chtm (h : Blk W B T (lgc b s v pv n q)) : (Instr.loadAt 3 (.pointer (some ⟨B, 2, none⟩))).run Tryz.prog W = .ok (.int .i64 s.tm) W := ld_int h 2 ((lgc_cell b s v pv n q (k := 1) (by decide)).trans (st_tm s v))
theorem ld_chno (h : Blk W B T (lgc b s v pv n q)) {i : Nat} (hi : i < 8) : (Instr.loadAt 3 (.pointer (some ⟨B, 131 + i, none⟩))).run Tryz.prog W = .ok (.int .i64 (s.no i)) W :=
  ld_int h (131 + i) (by rw [show 131 + i = 1 + (130 + i) by omega]; exact (lgc_cell b s v pv n q (by omega)).trans (st_noS s v hi))
theorem ld_chpo (h : Blk W B T (lgc b s v pv n q)) : (Instr.loadAt 37 (.pointer (some ⟨B, 152, none⟩))).run Tryz.prog W = .ok pv W := ld_any _ _ Tryz.underlying37 rfl h 152 (lgc_top b s v pv n q (k := 0) (by decide))
theorem ld_chn (h : Blk W B T (lgc b s v pv n q)) : (Instr.loadAt 3 (.pointer (some ⟨B, 153, none⟩))).run Tryz.prog W = .ok (.int .i64 n) W := ld_int h 153 (lgc_top b s v pv n q (k := 1) (by decide))
theorem ld_chq (h : Blk W B T (lgc b s v pv n q)) : (Instr.loadAt 69 (.pointer (some ⟨B, 154, none⟩))).run Tryz.prog W = .ok q W := ld_any _ _ Tryz.underlying69 rfl h 154 (lgc_top b s v pv n q (k := 2) (by decide))
theorem sto_chst (h : Blk W B T (lgc b s v pv n q)) (S : Es) {u : Value} (hu : u.oneCell' = true) : (Instr.storeAt 35 (.pointer (some ⟨B, 1, none⟩)) (stv S u)).run Tryz.prog W = .ok () (W.setRow B (lgc b S u pv n q).toArray) :=
  sto_part _ h 1 _ _ (stc S u) rfl (by rw [stc_len]; exact info_st) (by rw [stc_len, lgc_len]; omega) (stc_one S u hu) (by rw [lgc_st, lgc_st]; exact laid_at (lgc_1 b) (by rw [stc_len, stc_len]))
theorem sto_chpo (h : Blk W B T (lgc b s v pv n q)) {u : Value} (hu : u.oneCell' = true) (hc : u.cells.toList = [u]) : (Instr.storeAt 37 (.pointer (some ⟨B, 152, none⟩)) u).run Tryz.prog W = .ok () (W.setRow B (lgc b s v u n q).toArray) :=
  sto_part _ h 152 _ _ [u] hc (by kernel_rfl) (by rw [lgc_len]; simp) (by simp [hu]) (by rw [laid_one _ _ _ (by rw [lgc_len]; omega), lgc_hi, lgc_hi]; exact set_in (lgc_152 b s v) 0 u (by simp))
theorem sto_chn (h : Blk W B T (lgc b s v pv n q)) (m : Int) : (Instr.storeAt 3 (.pointer (some ⟨B, 153, none⟩)) (.int .i64 m)).run Tryz.prog W = .ok () (W.setRow B (lgc b s v pv m q).toArray) :=
  sto_part _ h 153 _ _ [.int .i64 m] rfl (by kernel_rfl) (by rw [lgc_len]; simp) rfl (by rw [laid_one _ _ _ (by rw [lgc_len]; omega), lgc_hi, lgc_hi]; exact set_in (lgc_152 b s v) 1 _ (by simp))
theorem sto_chq (h : Blk W B T (lgc b s v pv n q)) {u : Value} (hu : u.oneCell' = true) (hc : u.cells.toList = [u]) : (Instr.storeAt 69 (.pointer (some ⟨B, 154, none⟩)) u).run Tryz.prog W = .ok () (W.setRow B (lgc b s v pv n u).toArray) :=
  sto_part _ h 154 _ _ [u] hc (by kernel_rfl) (by rw [lgc_len]; simp) (by simp [hu]) (by rw [laid_one _ _ _ (by rw [lgc_len]; omega), lgc_hi, lgc_hi]; exact set_in (lgc_152 b s v) 2 u (by simp))
end
def EvL (W : World) : Value → List Nat → List Ev → Prop
  | q, [], [] => q = .pointer none
  | q, b :: bs, x :: xs => ∃ q', q = .pointer (some ⟨b, 0, none⟩) ∧ Blk W b 88 (evc x ++ [q']) ∧ EvL W q' bs xs
  | _, [], _ :: _ => False
  | _, _ :: _, [] => False
theorem EvL.stab {W W' : World} : ∀ {q : Value} {bs : List Nat} {xs : List Ev}, (∀ k ∈ bs, W'.heap[k]? = W.heap[k]?) → EvL W q bs xs → EvL W' q bs xs
  | _, [], [], _, h => h
  | _, b :: _, _ :: _, hk, ⟨q', h1, h2, h3⟩ => ⟨q', h1, (hk b (List.mem_cons_self ..)).trans h2, EvL.stab (fun k h => hk k (List.mem_cons_of_mem _ h)) h3⟩
  | _, [], _ :: _, _, h => h.elim
  | _, _ :: _, [], _, h => h.elim
theorem EvL.below {W W' : World} : ∀ {q : Value} {bs : List Nat} {xs : List Ev}, EvL W q bs xs → Below W.heap.size W W' → EvL W' q bs xs
  | _, [], [], h, _ => h
  | _, _ :: _, _ :: _, ⟨q', h1, h2, h3⟩, hb => ⟨q', h1, h2.below hb h2.lt, h3.below hb⟩
  | _, [], _ :: _, h, _ => h.elim
  | _, _ :: _, [], h, _ => h.elim
theorem EvL.one {W : World} : ∀ {q : Value} {bs : List Nat} {xs : List Ev}, EvL W q bs xs → q.oneCell' = true ∧ q.cells.toList = [q]
  | _, [], [], h => by obtain rfl : _ = Value.pointer none := h; exact ⟨rfl, rfl⟩
  | _, _ :: _, _ :: _, ⟨_, h1, _, _⟩ => by subst h1; exact ⟨rfl, rfl⟩
  | _, [], _ :: _, h => h.elim
  | _, _ :: _, [], h => h.elim
theorem EvL.step {W : World} {q : Value} {bs : List Nat} {x : Ev} {xs : List Ev} (h : EvL W q bs (x :: xs)) : ∃ b bs' q', q = .pointer (some ⟨b, 0, none⟩) ∧ Blk W b 88 (evc x ++ [q']) ∧ EvL W q' bs' xs := by
  cases bs with
  | nil => exact h.elim
  | cons b bs => obtain ⟨q', h1, h2, h3⟩ := h; exact ⟨b, bs, q', h1, h2, h3⟩
def Res.evs (q : Value) (bs : List Nat) (l : List Ev) : Res where
  foot := bs
  holds := fun W => EvL W q bs l.reverse
  stab := EvL.stab
def CHR (B : Nat) (c : Ch) (v pv q : Value) (bs : List Nat) : List Res :=
  [.blk B 71 (lgc true c.st v pv (c.ev.length : Int) q), .own lkc 91 3 v c.st.lk, .own (fun t => txc t) 44 25 pv c.po, .evs q bs c.ev]
structure ChV (W : World) (B : Nat) (c : Ch) (v pv q : Value) (bs : List Nat) : Prop where
  b : Blk W B 71 (lgc true c.st v pv (c.ev.length : Int) q)
  lk : RSl lkc 0 W.heap.size W v c.st.lk
  po : RSl (fun t => txc t) 0 W.heap.size W pv c.po
  ev : EvL W q bs c.ev.reverse
section
variable {W W' : World} {B : Nat} {c : Ch} {v pv q : Value} {bs : List Nat}
theorem ChV.below (h : ChV W B c v pv q bs) (hb : Below W.heap.size W W') : ChV W' B c v pv q bs := ⟨h.b.below hb h.b.lt, h.lk.up hb, h.po.up hb, h.ev.below hb⟩
theorem ChV.of (h : ROk (.join (CHR B c v pv q bs)) W) : ChV W B c v pv q bs := by
  have hs := Sep.begin h
  exact ⟨hs.at 0 rfl, (hs.oka 1 rfl).rsl lkc_len, (hs.oka 2 rfl).rsl txc_25, (hs.oka 3 rfl).h⟩
end
section
variable {w W : World} {F : List Nat} {l : List Res}
theorem apart_symm {r s : Res} (h : Apart r s) : Apart s r := fun k hk e => h k e hk
theorem Sep.pick (h : Sep w F l W) (is : List Nat) {l' : List Res} (hn : is.Nodup) (hl : is.map (fun i => l[i]?) = l'.map some) : Sep w F l' W := by
  have hlen : is.length = l'.length := by have := congrArg List.length hl; rwa [List.length_map, List.length_map] at this
  have get : ∀ j (hj : j < l'.length), l[is[j]'(by omega)]? = some l'[j] := fun j hj => by
    have := congrArg (fun x => x[j]?) hl
    simp only [List.getElem?_map, List.getElem?_eq_getElem hj, List.getElem?_eq_getElem (show j < is.length by omega), Option.map_some, Option.some.injEq] at this
    exact this
  have mem : ∀ r ∈ l', r ∈ l := fun r hr => by
    obtain ⟨j, hj, rfl⟩ := List.mem_iff_getElem.1 hr
    exact List.mem_of_getElem? (get j hj)
  refine ⟨fun r hr => h.ok r (mem r hr), fun r hr => h.new r (mem r hr), List.pairwise_iff_getElem.2 fun i j hi hj hij => ?_, h.out⟩
  obtain ⟨hi1, hi2⟩ := List.getElem?_eq_some_iff.1 (get i hi)
  obtain ⟨hj1, hj2⟩ := List.getElem?_eq_some_iff.1 (get j hj)
  have hne : is[i]'(by omega) ≠ is[j]'(by omega) := fun e => by
    have := (List.nodup_iff_pairwise_ne.1 hn)
    exact List.pairwise_iff_getElem.1 this i j (by omega) (by omega) hij e
  rw [← hi2, ← hj2]
  rcases Nat.lt_or_gt_of_ne hne with k | k
  · exact List.pairwise_iff_getElem.1 h.apart _ _ hi1 hj1 k
  · exact apart_symm (List.pairwise_iff_getElem.1 h.apart _ _ hj1 hi1 k)
theorem Sep.conv {r r' : Res} (h : Sep w F (r :: l) W) (hh : r.holds W → r'.holds W) (hf : ∀ k ∈ r'.foot, k ∈ r.foot) : Sep w F (r' :: l) W := by
  have hr := h.ok r (List.mem_cons_self ..)
  refine ⟨fun s hs => ?_, fun s hs k hk => ?_, List.pairwise_cons.2 ⟨fun s hs k hk e => ?_, (List.pairwise_cons.1 h.apart).2⟩, h.out⟩
  · rcases List.mem_cons.1 hs with rfl | hs
    · exact ⟨hh hr.h, fun k hk => hr.lt k (hf k hk)⟩
    · exact h.ok s (List.mem_cons_of_mem _ hs)
  · rcases List.mem_cons.1 hs with rfl | hs
    · exact h.new r (List.mem_cons_self ..) k (hf k hk)
    · exact h.new s (List.mem_cons_of_mem _ hs) k hk
  · exact (List.pairwise_cons.1 h.apart).1 s hs k (hf k hk) e
theorem Sep.push {N : Nat} {x : Ev} {q : Value} {bs : List Nat} {ev : List Ev} (h : Sep w F (.blk N 88 (evc x ++ [q]) :: .evs q bs ev :: l) W) : Sep w F (.evs (.pointer (some ⟨N, 0, none⟩)) (N :: bs) (ev ++ [x]) :: l) W :=
  (Sep.close (ps := [.blk N 88 (evc x ++ [q]), .evs q bs ev]) h).conv (r' := .evs (.pointer (some ⟨N, 0, none⟩)) (N :: bs) (ev ++ [x])) (fun hh => by
    show EvL W _ _ (ev ++ [x]).reverse
    rw [List.reverse_append]
    exact ⟨q, rfl, hh.1 _ (List.mem_cons_self ..), hh.1 (.evs q bs ev) (List.mem_cons_of_mem _ (List.mem_singleton.2 rfl))⟩) (fun k hk => by
    rcases List.mem_cons.1 hk with rfl | hk
    · exact join_mem (r := .blk k 88 (evc x ++ [q])) (List.mem_cons_self ..) (List.mem_singleton.2 rfl)
    · exact join_mem (r := .evs q bs ev) (List.mem_cons_of_mem _ (List.mem_singleton.2 rfl)) hk)
end
def ChR (B : Nat) (r : Res) (c : Ch) (a : Value) (W : World) (e : Ending) (W' : World) : Prop := e = .returned a ∧ ∃ v pv q bs, RTurn r (.join (CHR B c v pv q bs)) W W'
def NoC (W : World) (p : Value) : Prop := p = .pointer none ∨ ∃ B, p = .pointer (some ⟨B, 0, none⟩) ∧ Blk W B 71 (lgc false zS (.slice none 0 0) (.slice none 0 0) 0 (.pointer none))
theorem NoC.below {W W' : World} {p : Value} (h : NoC W p) (hb : Below W.heap.size W W') : NoC W' p := by
  rcases h with h | ⟨B, h1, h2⟩
  · exact .inl h
  · exact .inr ⟨B, h1, h2.below hb h2.lt⟩
end Go.Proofs.YtfoemkmoambagaaGreat
namespace Go.Proofs.YtfoemkmoambagaaGreat
open Go.RowKit Go.Shelf
section
variable {α : Type} {f : α → List Value} {n : Nat}
theorem flatR_take' (l : List α) (k : Nat) : ∃ r, flatR f l = flatR f (l.take k) ++ r := ⟨flatR f (l.drop k), by rw [← flat_app, List.take_append_drop]⟩
theorem RSl.low {lo hi : Nat} {W : World} {a : Option Addr} {cap : Nat} {l : List α} (h : RSl f lo hi W (.slice a l.length cap) l) {k : Nat} (hk : k ≤ l.length) {ty e : TypeId} (hu : Tryz.prog.underlying ty = some (.slice e)) (he : Tryz.prog.elem ty = e) (hs : ∀ W, (sizeOf e).run Tryz.prog W = .ok n W) :
    ∃ v, (∀ W', (Instr.sliceAt ty (.slice a l.length cap) none (some (.int .i64 (k : Int))) none).run Tryz.prog W' = .ok v W') ∧ RSl f lo hi W v (l.take k) := by
  subst he
  obtain ⟨a', cap', e', hc, hm, h0⟩ := h
  cases e'
  refine ⟨sliced a 0 k cap n, fun W' => ?_, ?_⟩
  · rw [run_sliceAt_slice W' ty _ _ _ _ hu, run_slice_h W' ty a l.length cap hu .i64 (k : Int) (by omega) (by omega), hs W']
    rfl
  · have hl : (l.take k).length = k := List.length_take_of_le hk
    refine ⟨_, cap, by unfold sliced; rw [hl, Nat.sub_zero, Nat.sub_zero], by omega, hm, ?_⟩
    rcases h0 with h0 | ⟨b, off, ha, h1, h2, h3⟩
    · exact .inl (by rw [h0, List.take_nil])
    · subst ha
      refine .inr ⟨b, off, ?_, h1, h2, ?_⟩
      · split
        · rfl
        · simp [Addr.add]
      · obtain ⟨r, hr⟩ := flatR_take' (f := f) l k
        intro j u hj
        exact h3 j u (by rw [hr, List.getElem?_append_left (List.getElem?_eq_some_iff.1 hj).1]; exact hj)
theorem RSl.high {lo hi : Nat} {W : World} {a : Option Addr} {cap : Nat} {l : List α} (h : RSl f lo hi W (.slice a l.length cap) l) (hn : ∀ x, (f x).length = n) {k : Nat} (hk : k ≤ l.length) {ty e : TypeId} (hu : Tryz.prog.underlying ty = some (.slice e)) (he : Tryz.prog.elem ty = e) (hs : ∀ W, (sizeOf e).run Tryz.prog W = .ok n W) :
    ∃ v, (∀ W', (Instr.sliceAt ty (.slice a l.length cap) (some (.int .i64 (k : Int))) none none).run Tryz.prog W' = .ok v W') ∧ RSl f lo hi W v (l.drop k) := by
  subst he
  obtain ⟨a', cap', e', hc, hm, h0⟩ := h
  cases e'
  refine ⟨sliced a k l.length cap n, fun W' => ?_, ?_⟩
  · rw [run_sliceAt_slice W' ty _ _ _ _ hu, run_slice_l W' ty a l.length cap hu .i64 (k : Int) (by omega) (by omega), hs W']
    rfl
  · have hl : (l.drop k).length = l.length - k := List.length_drop
    refine ⟨_, cap - k, by unfold sliced; rw [hl], by omega, by omega, ?_⟩
    by_cases hd : l.drop k = []
    · exact .inl hd
    · rcases h0 with h0 | ⟨b, off, ha, h1, h2, h3⟩
      · exact .inl (by rw [h0, List.drop_nil])
      · subst ha
        have hne : cap ≠ k := fun e => hd (List.drop_eq_nil_of_le (by omega))
        refine .inr ⟨b, off + k * n, by rw [if_neg hne]; simp [Addr.add], h1, h2, ?_⟩
        rw [← flat_drop hn]
        intro j u hj
        rw [List.getElem?_drop] at hj
        rw [Nat.add_assoc]
        exact h3 _ u hj
end
theorem infoTx : (Tryz.prog.info? 44).map (fun i => (i.zero, i.size, i.bytes)) = some (some (txv noT), 25, 224) := by kernel_rfl
theorem elemTx : Tryz.prog.elem 37 = 44 := by kernel_rfl
def CloneT (l : List Tr) (w : World) (e : Ending) (W' : World) : Prop := ∃ v', e = .returned v' ∧ W'.ownsRow w.heap.size 44 25 v' l.length (flatR (fun t => txc t) l) ∧ Below w.heap.size w W'
set_option maxRecDepth 100000 in
set_option maxHeartbeats 4000000 in
theorem cloneT_any (l : List Tr) (v : Value) (w : World) {lo hi : Nat} (hl : RSl (fun t => txc t) lo hi w v l) (hhi : hi ≤ w.heap.size) (hr : l.length * 224 ≤ 140737488355328) :
    Calls Tryz.prog 44 #[v] w (CloneT l w) := by
  have hl0 := Lib.hid hl
  obtain ⟨hi', rfl⟩ : ∃ h, h = hi := ⟨_, rfl⟩
  obtain ⟨a, cap, rfl, _, _, h0⟩ := hl
  rcases a with _ | ad
  · have hn : l = [] := by
      rcases h0 with h0 | ⟨_, _, h, _⟩
      · exact h0
      · cases h
    subst hn
    change Calls _ _ #[.slice none 0 cap] _ _
    go_enter Tryz.func44, Tryz.ntmps44
    go_upto_region 1 with fail
    refine wp_region_from ?_
    refine tF 2 [.val 0 (some 3) (.slice none 0 cap), .val 1 (some 4) (.bool true)] trivial ?_
    refine dF ?_
    try simp only [puts, Tk.put, Act.put, List.setIfInBounds_toArray, List.set_cons_zero, List.set_cons_succ]
    go_wp2_with fail
    go_ret
    exact ⟨_, rfl, World.ownsRow_nil _ _ _ _, Below.refl _ _⟩
  · go_enter Tryz.func44, Tryz.ntmps44
    go_upto_region 1 with fail
    refine wp_region_from ?_
    refine tF 2 [.val 0 (some 3) (.slice (some ad) l.length cap), .val 1 (some 4) (.bool false)] trivial ?_
    refine dF ?_
    try simp only [puts, Tk.put, Act.put, List.setIfInBounds_toArray, List.set_cons_zero, List.set_cons_succ]
    go_upto_region 3 with fail
    refine wp_region_from ?_
    refine rF (some 5) (.slice (some ⟨w.heap.size, 0, none⟩) 0 0) (w.alloc (.cells #[] 44)) ?_
    refine tF 2 [.val 1 (some 6) (.slice (some ad) l.length cap)] trivial ?_
    have hown : (w.alloc (.cells #[] 44)).ownsRow w.heap.size 44 25 (.slice (some ⟨w.heap.size, 0, none⟩) 0 0) 0 [] := World.ownsRow_lit w #[] 0 (Nat.le_refl _) (by unfold maxLen; omega) rfl
    have hb1 := chain0 w (.cells #[] 44)
    have hi0 : (Tryz.prog.info? 44).map (fun i => (i.zero, i.size, i.bytes)) = some (some (txv noT), 25, 224) := by kernel_rfl
    obtain ⟨i0, hi, hz0, hz1, hz2⟩ := info_parts hi0
    have hlm := hl0.out.len
    obtain ⟨v', W', hrun, hO, hg, _⟩ := run_append_own (P := Tryz.prog) (w.alloc (.cells #[] 44)) w.heap.size 37 37 44 i0 _ 25 224 Tryz.underlying37 hi hz0 hz1 hz2 rfl (by decide) _ 0 [] hown ad l.length cap (flatR (fun t => txc t) l) (flat_len txc_25 l)
      (hl0.out.below ((Below.refl hi' w).alloc hhi _) (Nat.le_refl _)).cells (by
        intro u hu
        obtain ⟨y, _, hy⟩ := List.mem_flatMap.1 hu
        exact txc_one y u hy) (by rw [Nat.zero_add]; exact hlm) (by rw [Nat.zero_add]; exact hr) hb1.size
    refine wpFrom_append (d := some 7) (t := 37) (t' := 37) (ty := 37) (v := .slice (some ⟨w.heap.size, 0, none⟩) 0 0) (x := .slice (some ad) l.length cap) (by kernel_rfl) hrun ?_
    refine tF 4 [.val 3 (some 2) (v')] trivial ?_
    refine dF ?_
    try simp only [puts, Tk.put, Act.put, List.setIfInBounds_toArray, List.set_cons_zero, List.set_cons_succ]
    go_wp2_with fail
    go_ret
    refine ⟨_, rfl, ?_, hb1.grown hg hb1.size (fun k e => by have : w.heap.size = k := Option.some.inj e; omega)⟩
    rw [Nat.zero_add, List.nil_append] at hO
    exact hO
def CatR (l : List Tr) (w : World) (e : Ending) (W' : World) : Prop := ∃ v, e = .returned v ∧ W'.ownsRow w.heap.size 44 25 v l.length (flatR (fun t => txc t) l) ∧ Below w.heap.size w W'
set_option maxRecDepth 100000 in
set_option maxHeartbeats 1000000 in
theorem growX_any (n : Nat) (hn : n ≤ 16384) (w : World) : Calls Tryz.prog 67 #[.slice none 0 0, .int .i64 (n : Int)] w (CatR [] w) := by
  obtain ⟨i0, hi, hz0, hz1, hz2⟩ := info_parts infoTx
  have hn' : (n : Int) ≤ 16384 := by omega
  by_cases h0 : n = 0
  · subst h0
    go_enter Tryz.func67, Tryz.ntmps67
    go_wp2
    go_ret
    exact ⟨_, rfl, World.ownsRow_nil _ _ _ _, Below.refl _ _⟩
  · have h1 : 0 < n := by omega
    have h2 : 0 < (n : Int) := by omega
    have hr := Lib.run_append_nil_zeros (P := Tryz.prog) w 37 3 37 44 i0 (txv noT) .i64 .i64 Tryz.underlying37 Tryz.underlying3 hi hz0 n h1 (by omega) (by omega) (by rw [hz2]; omega)
    have hg : n ≤ grownCap w n 0 44 ∧ grownCap w n 0 44 ≤ maxLen := ⟨grownCap_ge _ _ _ _, grownCap_le_maxLen _ _ _ _ (by unfold maxLen; omega)⟩
    obtain ⟨hg1, hg2⟩ := hg
    generalize grownCap w n 0 44 = c at *
    have hz : ∀ n, (Builtin.zeroCells (txv noT).cells n).size = n * 25 := fun n => by rw [size_zeroCells]; rfl
    have HZ := Lib.hid hz
    clear hz
    have HO : ∀ Y : World, Y = w.drew.alloc (.cells (Builtin.zeroCells (txv noT).cells n ++ Builtin.zeroCells (txv noT).cells (c - n)) 44) → CatR [] w (.returned (.slice (some ⟨w.heap.size, 0, none⟩) 0 c)) Y := fun Y e => by
      subst e
      refine ⟨_, rfl, ⟨rfl, .inr ⟨w.heap.size, c, _, rfl, Nat.le_refl _, World.alloc_heap_new _ _, Nat.zero_le _, hg2, by rw [Array.size_append, HZ.out, HZ.out, ← Nat.add_mul]; congr 1; omega, by simp [flatR]⟩⟩, ?_⟩
      exact ((Below.refl _ w).drew).alloc (by simp) _
    have HO1 := Lib.hid HO
    clear HO
    go_enter Tryz.func67, Tryz.ntmps67
    go_wp2_with (at_builtin; refine Lib.wpList_append_run w rfl _ _ 37 3 rfl _ _ rfl rfl _ _ hr ?_)
    go_ret
    exact HO1.out _ rfl
def catTx (zs : List (Value × List Tr)) : List Tr := zs.flatMap (·.2)
theorem flat_snd {zs : List (Value × List Tr)} {k : Nat} {x : Value × List Tr} (hx : zs[k]? = some x) : catTx (zs.take (k + 1)) = catTx (zs.take k) ++ x.2 := by
  obtain ⟨hk, rfl⟩ := List.getElem?_eq_some_iff.1 hx
  unfold catTx
  rw [List.take_succ_eq_append_getElem hk, List.flatMap_append, List.flatMap_singleton]
theorem flat_snd_le (zs : List (Value × List Tr)) (k : Nat) : (catTx (zs.take k)).length ≤ (catTx zs).length := by
  have : (catTx zs).length = (catTx (zs.take k)).length + (catTx (zs.drop k)).length := by unfold catTx; rw [← List.length_append, ← List.flatMap_append, List.take_append_drop]
  omega
set_option maxRecDepth 100000 in
set_option maxHeartbeats 4000000 in
theorem concatX_any {b off cap : Nat} (zs : List (Value × List Tr)) (w : World) (hb : b < w.heap.size) (hcell : ∀ (k : Nat) (x : Value × List Tr), zs[k]? = some x → w.cell? ⟨b, off + k, none⟩ = some x.1) (hrow : ∀ (k : Nat) (x : Value × List Tr), zs[k]? = some x → RSl (fun t => txc t) 0 w.heap.size w x.1 x.2) (hz : zs.length ≤ 16) (ho : (catTx zs).length ≤ 16384) :
    Calls Tryz.prog 42 #[.slice (some ⟨b, off, none⟩) zs.length cap] w (CatR (catTx zs) w) := by
  obtain ⟨i0, hi, hz0, hz1, hz2⟩ := info_parts infoTx
  have HF := Lib.hid (fun k => Nat.le_trans (flat_snd_le zs k) ho)
  have HR := Lib.hid hrow
  have HC := Lib.hid hcell
  have HZ := Lib.hid hz
  have HB0 := Lib.hid hb
  clear hrow hcell ho
  go_enter Tryz.func42, Tryz.ntmps42
  go_wp2
  go_loop [3, 11] (fun s i => ∃ k : Nat, k ≤ zs.length ∧ i = .int .i64 k ∧ s = .int .i64 ((catTx (zs.take k)).length : Nat)) (fun _ i => zs.length - (intOf i).toNat)
  case atStart => exact ⟨0, by omega, rfl, rfl⟩
  case round =>
    obtain ⟨k, hk, rfl, rfl⟩ := hrel
    by_cases hlt : k < zs.length
    · obtain ⟨⟨vx, lx⟩, hx⟩ : ∃ x, zs[k]? = some x := ⟨_, List.getElem?_eq_getElem hlt⟩
      have c0 := HC.out k _ hx
      obtain ⟨xa, xc, hxe⟩ := (HR.out k _ hx).slice
      dsimp only at hxe c0
      subst hxe
      have HS := Lib.hid (flat_snd hx)
      have h1 := HF.out k
      have h2 := HF.out (k + 1)
      rw [HS.out, List.length_append] at h2
      dsimp only at h2
      have hk0 : (k : Int) < (zs.length : Int) := by omega
      have HL : Hid ((catTx (zs.take (k + 1))).length = (catTx (zs.take k)).length + lx.length) := Lib.hid (by rw [HS.out, List.length_append])
      clear hx
      generalize hq : (catTx (zs.take k)).length = q at *
      generalize lx.length = xl at *
      generalize hLn : zs.length = len at *
      have HLn := Lib.hid hLn
      have HQ := Lib.hid hq
      clear hLn hq
      have h2' : (q : Int) + (xl : Int) ≤ 16384 := by omega
      go_wp2
      exact ⟨⟨k + 1, by omega, by simp, by rw [HL.out]; simp⟩, by simp [intOf]; omega⟩
    · obtain rfl : k = zs.length := by omega
      have hall : zs.take zs.length = zs := List.take_length
      have hq := HF.out zs.length
      rw [hall] at hq ⊢
      clear hlt hk hall
      go_wp2_with (go_at_call 67; refine (growX_any _ hq _).mono ?_; rintro e w1 ⟨v, rfl, hown, hb1⟩)
      have HQ0 := Lib.hid hq
      clear hq
      go_loopw [6, 27] (fun v i wr => ∃ k : Nat, k ≤ zs.length ∧ i = .int .i64 k ∧ wr.ownsRow w.heap.size 44 25 v (catTx (zs.take k)).length (flatR (fun t => txc t) (catTx (zs.take k))) ∧ Below w.heap.size w wr) (fun _ i _ => zs.length - (intOf i).toNat)
      case atStart => exact ⟨0, by omega, rfl, hown, hb1⟩
      clear hown hb1
      case round =>
        obtain ⟨k, hk, rfl, hown, hB⟩ := hrel
        have HO := Lib.hid hown
        have HB := Lib.hid hB
        clear hown hB
        by_cases hlt : k < zs.length
        · obtain ⟨⟨vx, lx⟩, hx⟩ : ∃ x, zs[k]? = some x := ⟨_, List.getElem?_eq_getElem hlt⟩
          have c0 := (HB.out.cell (p := ⟨b, off + k, none⟩) HB0.out).trans (HC.out k _ hx)
          have hr0 := HR.out k _ hx
          obtain ⟨xa, xc, hxe⟩ := hr0.slice
          dsimp only at hxe c0 hr0
          subst hxe
          have HS := Lib.hid (flat_snd hx)
          have h2 := HF.out (k + 1)
          rw [HS.out, List.length_append] at h2
          dsimp only at h2
          have hk0 : (k : Int) < (zs.length : Int) := by omega
          have hap : ∃ v' W', (Builtin.append_ #[37, 37] 37 #[u6, .slice xa lx.length xc]).run Tryz.prog wr = .ok v' W' ∧ W'.ownsRow w.heap.size 44 25 v' ((catTx (zs.take k)).length + lx.length) (flatR (fun t => txc t) (catTx (zs.take k)) ++ flatR (fun t => txc t) lx) ∧ wr.grownBy W' u6.ownBlock := by
            have hr1 := hr0.below HB.out (Nat.le_refl _)
            cases xa with
            | some ad =>
              obtain ⟨v', W', e1, e2, e3, _⟩ := run_append_own (P := Tryz.prog) wr w.heap.size 37 37 44 i0 _ 25 224 Tryz.underlying37 hi hz0 hz1 hz2 rfl (by decide) u6 _ _ HO.out ad lx.length xc (flatR (fun t => txc t) lx) (flat_len txc_25 lx) hr1.cells (fun u hu => by obtain ⟨y, _, hy⟩ := List.mem_flatMap.1 hu; exact txc_one y u hy) (by unfold maxLen; omega) (by omega) HB.out.size
              exact ⟨v', W', e1, e2, e3⟩
            | none =>
              have hl0 : lx = [] := by
                obtain ⟨_, _, e', _, _, h0' | ⟨_, _, ha, _⟩⟩ := hr1
                · exact h0'
                · cases e'; cases ha
              subst hl0
              refine ⟨u6, wr, ?_, by simpa [flatR] using HO.out, grownBy_refl _ _⟩
              rcases HO.out.2 with ⟨rfl, hl0⟩ | ⟨g, cp, cur, rfl, _, hg, hnc, hcm, hcs, _⟩
              · simp [Builtin.append_, run_underlying Tryz.underlying37, sizeOf, typeInfo, hi, Builtin.lenOf, Builtin.firstCells]
              · simp [Builtin.append_, run_underlying Tryz.underlying37, sizeOf, typeInfo, hi, Builtin.lenOf, Builtin.firstCells, loadCells, hnc, storeCells]
          obtain ⟨v', W', hrun, hO', hg'⟩ := hap
          have HI : Hid ((Instr.indexAt 112 (.slice (some ⟨b, off, none⟩) zs.length cap) (.int .i64 (k : Int))).run Tryz.prog wr = .ok (.pointer (some ⟨b, off + k * 1, none⟩)) wr) := Lib.hid (idx_sl Tryz.underlying112 (by kernel_rfl) hlt)
          rw [Nat.mul_one] at HI
          have HD : Hid ((Instr.loadAt 37 (.pointer (some ⟨b, off + k, none⟩))).run Tryz.prog wr = .ok (.slice xa lx.length xc) wr) := Lib.hid (ld_cell _ _ Tryz.underlying37 rfl c0)
          have HN : Hid (W'.ownsRow w.heap.size 44 25 v' (catTx (zs.take (k + 1))).length (flatR (fun t => txc t) (catTx (zs.take (k + 1)))) ∧ Below w.heap.size w W') := Lib.hid (by
            rw [HS.out, List.length_append, flat_app]
            exact ⟨hO', HB.out.grown hg' HB.out.size (fun j hj => (World.ownsRow.lt HO.out j hj).1)⟩)
          clear hO' hg' hr0 c0 hx
          go_upto_region 12 with fail
          refine wp_region_from ?_
          refine tF 3 [.idx 0 (some 29) 112 (.slice (some ⟨b, off, none⟩) zs.length cap) (.int .i64 (k : Int)) (pt b (off + k)), .load 1 (some 30) 37 (pt b (off + k)) (.slice xa lx.length xc), .val 2 (some 8) (.slice xa lx.length xc)] ⟨HI.out, HD.out, trivial⟩ ?_
          refine dF ?_
          try simp only [puts, Tk.put, Act.put, List.setIfInBounds_toArray, List.set_cons_zero, List.set_cons_succ]
          go_upto_region 13 with fail
          refine wp_region_from ?_
          refine tF 2 [.val 0 (some 31) (u6), .val 1 (some 32) (.slice xa lx.length xc)] trivial ?_
          refine wpFrom_append (d := some 33) (t := 37) (t' := 37) (ty := 37) (v := u6) (x := .slice xa lx.length xc) (by kernel_rfl) hrun ?_
          refine tF 4 [.val 3 (some 6) (v')] trivial ?_
          refine dF ?_
          try simp only [puts, Tk.put, Act.put, List.setIfInBounds_toArray, List.set_cons_zero, List.set_cons_succ]
          have hzz := HZ.out
          clear hrun
          have hwr : IntKind.i64.wrap ((k : Int) + 1) = ((k + 1 : Nat) : Int) := (IntWalk.i64_in _ (by omega)).trans (by omega)
          go_wp2_with fail
          go_roundw
          case rel => exact ⟨k + 1, hlt, by go_num, HN.out⟩
          case measure => simp [intOf]; omega
        · obtain rfl : k = zs.length := by omega
          have HN := HO.out
          rw [List.take_length] at HN
          have HN1 := Lib.hid HN
          clear HN
          go_wp2
          go_ret
          exact ⟨_, rfl, HN1.out, HB.out⟩
end Go.Proofs.YtfoemkmoambagaaGreat
namespace Go.Proofs.YtfoemkmoambagaaGreat
open Go.RowKit Go.Shelf
attribute [local irreducible] wpFrom wpAnyH StepH
theorem mod_any (i : Int) (n : Nat) (h0 : 0 < n) (h1 : n ≤ 16384) (w : World) : Calls Tryz.prog 41 #[.int .i64 i, .int .i64 (n : Int)] w fun e W' => e = .returned (.int .i64 (atC i n : Nat)) ∧ W' = w := by
  have hn : (0 : Int) < n := by omega
  have hn1 : (n : Int) ≤ 16384 := by omega
  have h2 := Int.lt_tmod_of_pos i hn
  have h3 := Int.tmod_lt_of_pos i hn
  have h4 : ((Int.tmod (Int.tmod i n + n) n).toNat : Int) = Int.tmod (Int.tmod i n + n) n := Int.toNat_of_nonneg (Int.tmod_nonneg (a := Int.tmod i n + n) n (by omega))
  have HC : Hid ((atC i n : Int) = Int.tmod (Int.tmod i n + n) n) := Lib.hid h4
  clear h4
  rw [HC.out]
  generalize hN : (n : Int) = N at *
  clear hN
  generalize ht : Int.tmod i N = t at *
  have h5 : 0 ≤ t + N := by omega
  have h6 : t + N ≤ 32768 := by omega
  generalize hc : Int.tmod (t + N) N = c at *
  have hn0 : ¬ N = 0 := by omega
  go_enter Tryz.func41, Tryz.ntmps41
  go_wp2
  go_ret
  exact ⟨rfl, rfl⟩
theorem there_yes {B : Nat} {T : TypeId} {s : Es} {v pv q : Value} {n : Int} (w : World) (hB : Blk w B T (lgc true s v pv n q)) : Calls Tryz.prog 31 #[.pointer (some ⟨B, 0, none⟩)] w fun e W' => e = .returned (.bool true) ∧ W' = w := by
  go_enter Tryz.func31, Tryz.ntmps31
  go_upto_region 1 with fail
  refine wp_region_from ?_
  refine tF 9 [.val 0 (some 3) (pt B 0), .val 1 (some 4) (.bool true), .val 2 (some 5) (.bool true), .val 3 (some 6) (pt B 0), .val 4 (some 7) (pt B 0), .val 5 (some 8) (pt B 0), .load 6 (some 9) 4 (pt B 0) (.bool true), .val 7 (some 10) (.bool true), .val 8 (some 2) (.bool true)] ⟨ld_made hB, trivial⟩ ?_
  refine dF ?_
  try simp only [puts, Tk.put, Act.put, List.setIfInBounds_toArray, List.set_cons_zero, List.set_cons_succ]
  go_wp2_with fail
  go_ret
  exact ⟨rfl, rfl⟩
theorem there_no {p : Value} (w : World) (h : NoC w p) : Calls Tryz.prog 31 #[p] w fun e W' => e = .returned (.bool false) ∧ W' = w := by
  rcases h with rfl | ⟨B, rfl, hB⟩
  · go_enter Tryz.func31, Tryz.ntmps31
    go_wp2
    go_ret
    exact ⟨rfl, rfl⟩
  · go_enter Tryz.func31, Tryz.ntmps31
    go_upto_region 1 with fail
    refine wp_region_from ?_
    refine tF 9 [.val 0 (some 3) (pt B 0), .val 1 (some 4) (.bool true), .val 2 (some 5) (.bool true), .val 3 (some 6) (pt B 0), .val 4 (some 7) (pt B 0), .val 5 (some 8) (pt B 0), .load 6 (some 9) 4 (pt B 0) (.bool false), .val 7 (some 10) (.bool false), .val 8 (some 2) (.bool false)] ⟨ld_made hB, trivial⟩ ?_
    refine dF ?_
    try simp only [puts, Tk.put, Act.put, List.setIfInBounds_toArray, List.set_cons_zero, List.set_cons_succ]
    go_wp2_with fail
    go_ret
    exact ⟨rfl, rfl⟩
theorem clip_any {lo hi : Nat} {a : Option Addr} {cap : Nat} {l : List Tr} (w : World) (hl : RSl (fun t => txc t) lo hi w (.slice a l.length cap) l) : Calls Tryz.prog 35 #[.slice a l.length cap] w fun e W' => e = .returned (.slice a l.length l.length) ∧ W' = w := by
  have hcap : l.length ≤ cap := by obtain ⟨_, _, e, h, _⟩ := hl; cases e; exact h
  have hmax := hl.len
  unfold maxLen at hmax
  clear hl
  generalize l.length = n at *
  go_enter Tryz.func35, Tryz.ntmps35
  go_wp2
  go_ret
  exact ⟨rfl, rfl⟩
def idxP (p : Tr → Bool) (l : List Tr) : Int := match l.findIdx? p with | none => -1 | some i => i
theorem idxP_ge (p : Tr → Bool) (l : List Tr) : decide (0 ≤ idxP p l) = l.any p := by
  unfold idxP
  cases h : l.findIdx? p with
  | none =>
    have := List.findIdx?_eq_none_iff.1 h
    have h2 : l.any p = false := by
      rw [List.any_eq_false]
      intro x hx
      rw [this x hx]
      decide
    rw [h2]
    decide
  | some i =>
    obtain ⟨x, hx, hp⟩ := List.findIdx?_isSome (p := p) (xs := l) ▸ (by rw [h]; rfl : (l.findIdx? p).isSome = true) |> List.any_eq_true.1
    rw [List.any_eq_true.2 ⟨x, hx, hp⟩]
    exact decide_eq_true (Int.natCast_nonneg i)
theorem idxP_at {p : Tr → Bool} {l : List Tr} {j : Nat} {x : Tr} (hx : l[j]? = some x) (hp : p x = true) (hno : ∀ (n : Nat) (y : Tr), n < j → l[n]? = some y → p y = false) : idxP p l = j := by
  obtain ⟨hj, rfl⟩ := List.getElem?_eq_some_iff.1 hx
  have : l.findIdx? p = some j := List.findIdx?_eq_some_iff_getElem.2 ⟨hj, hp, fun n hn => by rw [hno n _ hn (List.getElem?_eq_getElem (by omega))]; decide⟩
  unfold idxP
  rw [this]
theorem idxP_not {p : Tr → Bool} {l : List Tr} (hno : ∀ (n : Nat) (y : Tr), n < l.length → l[n]? = some y → p y = false) : idxP p l = -1 := by
  have : l.findIdx? p = none := List.findIdx?_eq_none_iff.2 fun x hx => by
    obtain ⟨n, hn, rfl⟩ := List.mem_iff_getElem.1 hx
    exact hno n _ hn (List.getElem?_eq_getElem hn)
  unfold idxP
  rw [this]
theorem beqI (a b : Int) : (a == b) = decide (a = b) := rfl
theorem stepH_not {P : Program} {md : Region.Mode} {ops : Array Oper} {Q : Exit → Act → World → Prop} {S : World → Prop} {m i : Nat} {listed : Array Bool} {a : Act} {w : World} {d : Option Tmp} (hr : (ops[i]?).map (fun o => (Region.wanted o (yielded ops a.tmps), o.dst)) = some (false, d)) (h : S w ∧ wpAnyH P md ops Q S m (listed.setIfInBounds i true) (a.put d undef) w) : StepH P md ops Q S m listed a w i := by
  obtain ⟨o, ho⟩ := some_of hr
  rw [ho] at hr
  have h0 := Option.some.inj hr
  have h1 : Region.wanted o (yielded ops a.tmps) = false := congrArg Prod.fst h0
  have h2 : o.dst = d := congrArg Prod.snd h0
  refine stepH_of ho ?_
  rw [if_neg (by rw [h1]; decide), h2]
  exact h
set_option maxRecDepth 100000 in
set_option maxHeartbeats 4000000 in
theorem same1_any {T : Nat} (t : Tr) (x : Tr) (w : World) (hk0 : Blk w T 44 (txc t)) : Calls Tryz.prog 33 #[txv x, .pointer (some ⟨T, 0, none⟩)] w fun e W' => e = .returned (.bool (eqT x t)) ∧ Below w.heap.size w W' := by
  have hmx : Tryz.prog.follows .mixedOrders = true := by kernel_rfl
  have HK0 := Lib.hid hk0
  clear hk0
  have hM := Sep.start w
  go_enter Tryz.func33, Tryz.ntmps33
  go_upto_region 0 with fail
  refine wp_region_fromM (fun W => Sep w [] [] W) hM ?_
  clear hM
  rintro Y1 hM
  refine rF (some 2) (pt Y1.heap.size 0) (Y1.alloc (.cells (txc x).toArray 44)) ?_
  replace hM := hM.alloc 44 (txc x)
  generalize World.alloc _ _ = Y2 at *
  generalize hNe : Y1.heap.size = X at *
  clear hNe
  refine tF 2 [.val 1 (some 3) (.bool false)] trivial ?_
  refine dF ?_
  try simp only [puts, Tk.put, Act.put, List.setIfInBounds_toArray, List.set_cons_zero, List.set_cons_succ]
  go_upto_region 1 with fail
  refine wp_region_fromM (fun W => Sep w [] [.blk X 44 (txc x)] W) hM ?_
  clear hM
  rintro Y3 hM
  refine tF 2 [.load 0 (some 4) 44 (pt X 0) (txv x), .load 1 (some 5) 44 (pt T 0) (txv t)] ⟨ld_tx (hM.at 0 rfl), ld_tx (HK0.out.below hM.b HK0.out.lt), trivial⟩ ?_
  refine cF (some 6) 34 #[txv x, txv t] ((txsSame_any x t _).mono ?_)
  rintro e W1 ⟨rfl, hb⟩
  replace hM := hM.below hb
  clear hb
  refine tF 4 [.val 3 (some 3) (.bool (eqT x t))] trivial ?_
  refine dF ?_
  try simp only [puts, Tk.put, Act.put, List.setIfInBounds_toArray, List.set_cons_zero, List.set_cons_succ]
  go_wp2_with fail
  go_ret
  exact ⟨rfl, hM.b⟩
set_option maxRecDepth 100000 in
set_option maxHeartbeats 4000000 in
theorem next1_any {A N : Nat} (a n : Int) (x : Tr) (w : World) (hk0 : Blk w A 3 [.int .i64 a]) (hk1 : Blk w N 3 [.int .i64 n]) : Calls Tryz.prog 46 #[txv x, .pointer (some ⟨A, 0, none⟩), .pointer (some ⟨N, 0, none⟩)] w fun e W' => e = .returned (.bool (decide (x.fr = a) && decide (x.no = n))) ∧ Below w.heap.size w W' := by
  have hmx : Tryz.prog.follows .mixedOrders = true := by kernel_rfl
  have HK0 := Lib.hid hk0
  clear hk0
  have HK1 := Lib.hid hk1
  clear hk1
  have hM := Sep.start w
  go_enter Tryz.func46, Tryz.ntmps46
  go_upto_region 0 with fail
  refine wp_region_fromM (fun W => Sep w [] [] W) hM ?_
  clear hM
  rintro Y1 hM
  refine rF (some 3) (pt Y1.heap.size 0) (Y1.alloc (.cells (txc x).toArray 44)) ?_
  replace hM := hM.alloc 44 (txc x)
  generalize World.alloc _ _ = Y2 at *
  generalize hNe : Y1.heap.size = X at *
  clear hNe
  refine tF 2 [.val 1 (some 4) (.bool false)] trivial ?_
  refine dF ?_
  try simp only [puts, Tk.put, Act.put, List.setIfInBounds_toArray, List.set_cons_zero, List.set_cons_succ]
  go_upto_region 1 with fail
  refine wp_region_fromM (fun W => Sep w [] [.blk X 44 (txc x)] W) hM ?_
  clear hM
  rintro Y3 hM
  by_cases hq : x.fr = a
  · have HQ := Lib.hid hq
    clear hq
    refine tF 11 [.val 0 (some 5) (pt X 0), .load 1 (some 6) 3 (pt X 0) (.int .i64 x.fr), .load 2 (some 7) 3 (pt A 0) (.int .i64 a), .alt 3 (some 8) (.bool (x.fr == a)) (.bool true), .val 4 (some 9) (.bool true), .val 5 (some 10) (pt X 1), .load 6 (some 11) 3 (pt X 1) (.int .i64 x.no), .load 7 (some 12) 3 (pt N 0) (.int .i64 n), .alt 8 (some 13) (.bool (x.no == n)) (.bool (decide (x.no = n))), .val 9 (some 14) (.bool (decide (x.no = n))), .val 10 (some 4) (.bool (decide (x.no = n)))] ⟨ld_int (hM.at 0 rfl) 0 rfl, ld_int (HK0.out.below hM.b HK0.out.lt) 0 rfl, congrArg Value.bool (beq_iff_eq.2 HQ.out), ld_int (hM.at 0 rfl) 1 rfl, ld_int (HK1.out.below hM.b HK1.out.lt) 0 rfl, congrArg Value.bool (beqI _ _), trivial⟩ ?_
    refine dF ?_
    try simp only [puts, Tk.put, Act.put, List.setIfInBounds_toArray, List.set_cons_zero, List.set_cons_succ]
    go_wp2_with fail
    go_ret
    exact ⟨by rw [decide_eq_true HQ.out, Bool.true_and]; rfl, hM.b⟩
  · have HQ := Lib.hid hq
    clear hq
    refine tF 11 [.val 0 (some 5) (pt X 0), .load 1 (some 6) 3 (pt X 0) (.int .i64 x.fr), .load 2 (some 7) 3 (pt A 0) (.int .i64 a), .alt 3 (some 8) (.bool (x.fr == a)) (.bool false), .val 4 (some 9) (.bool false), .skip 5 (some 10), .skip 6 (some 11), .skip 7 (some 12), .skip 8 (some 13), .val 9 (some 14) (.bool false), .val 10 (some 4) (.bool false)] ⟨ld_int (hM.at 0 rfl) 0 rfl, ld_int (HK0.out.below hM.b HK0.out.lt) 0 rfl, congrArg Value.bool (beq_eq_false_iff_ne.2 HQ.out), trivial⟩ ?_
    refine dF ?_
    try simp only [puts, Tk.put, Act.put, List.setIfInBounds_toArray, List.set_cons_zero, List.set_cons_succ]
    go_wp2_with fail
    go_ret
    exact ⟨by rw [decide_eq_false HQ.out, Bool.false_and]; rfl, hM.b⟩
set_option maxRecDepth 100000 in
set_option maxHeartbeats 4000000 in
theorem waits1_any {A K S : Nat} (a k : Int) (s : ByteArray) (x : Tr) (w : World) (hk0 : Blk w A 3 [.int .i64 a]) (hk1 : Blk w K 3 [.int .i64 k]) (hk2 : Blk w S 9 [.string s]) : Calls Tryz.prog 52 #[txv x, .pointer (some ⟨A, 0, none⟩), .pointer (some ⟨K, 0, none⟩), .pointer (some ⟨S, 0, none⟩)] w fun e W' => e = .returned (.bool (decide (x.fr = a) && (decide (x.kd = k) && decide (keyB x.iv = s)))) ∧ Below w.heap.size w W' := by
  have hmx : Tryz.prog.follows .mixedOrders = true := by kernel_rfl
  have HK0 := Lib.hid hk0
  clear hk0
  have HK1 := Lib.hid hk1
  clear hk1
  have HK2 := Lib.hid hk2
  clear hk2
  have hM := Sep.start w
  go_enter Tryz.func52, Tryz.ntmps52
  go_upto_region 0 with fail
  refine wp_region_fromM (fun W => Sep w [] [] W) hM ?_
  clear hM
  rintro Y1 hM
  refine rF (some 4) (pt Y1.heap.size 0) (Y1.alloc (.cells (txc x).toArray 44)) ?_
  replace hM := hM.alloc 44 (txc x)
  generalize World.alloc _ _ = Y2 at *
  generalize hNe : Y1.heap.size = X at *
  clear hNe
  refine tF 2 [.val 1 (some 5) (.bool false)] trivial ?_
  refine dF ?_
  try simp only [puts, Tk.put, Act.put, List.setIfInBounds_toArray, List.set_cons_zero, List.set_cons_succ]
  go_upto_region 1 with fail
  by_cases hq : x.fr = a
  · have HQ := Lib.hid hq
    clear hq
    by_cases hq2 : x.kd = k
    · have HQ2 := Lib.hid hq2
      clear hq2
      refine wp_region_M (fun W => Sep w [] [.blk X 44 (txc x)] W) (fun W => Sep w [] [.blk X 44 (txc x)] W) hmx hM.drew ?_
      clear hM
      rintro Y3 hM
      have hS := hM.sub (.cons_cons _ .slnil)
      refine tD 4 [.val 0 (some 6) (pt X 0), .load 1 (some 7) 3 (pt X 0) (.int .i64 x.fr), .load 2 (some 8) 3 (pt A 0) (.int .i64 a), .alt 3 (some 9) (.bool (x.fr == a)) (.bool true), .val 4 (some 10) (.bool true), .val 5 (some 11) (pt X 2), .load 6 (some 12) 3 (pt X 2) (.int .i64 x.kd), .load 7 (some 13) 3 (pt K 0) (.int .i64 k), .alt 8 (some 14) (.bool (x.kd == k)) (.bool true), .val 9 (some 15) (.bool true), .val 10 (some 16) (.bool true), .val 11 (some 17) (pt X 8), .load 12 (some 18) 40 (pt X 8) (ivv x.iv), .load 14 (some 20) 9 (pt S 0) (.string s)] ⟨fun W h => ld_int (h.at 0 rfl) 0 rfl, fun W h => ld_int (HK0.out.below h.b HK0.out.lt) 0 rfl, congrArg Value.bool (beq_iff_eq.2 HQ.out), fun W h => ld_int (h.at 0 rfl) 2 rfl, fun W h => ld_int (HK1.out.below h.b HK1.out.lt) 0 rfl, congrArg Value.bool (beq_iff_eq.2 HQ2.out), fun W h => ld_iv (h.at 0 rfl), fun W h => ld_str (HK2.out.below h.b HK2.out.lt) 0 rfl, trivial⟩ hS ?_
      refine oD 13 3 (cD (some 19) 24 #[ivv x.iv] ((key_any x.iv _).mono ?_))
      rintro e W1 ⟨rfl, hb⟩
      refine And.intro (hS.below hb) ?_
      replace hS := hS.below hb
      replace hM := hM.below hb
      clear hb
      refine tD 0 [.alt 15 (some 21) (.bool ((keyB x.iv).toList == s.toList)) (.bool (decide (keyB x.iv = s))), .val 16 (some 22) (.bool (decide (keyB x.iv = s))), .val 17 (some 5) (.bool (decide (keyB x.iv = s)))] ⟨congrArg Value.bool (beqB _ _), trivial⟩ hS ?_
      refine dD ?_
      try simp only [puts, Tk.put, Act.put, List.setIfInBounds_toArray, List.set_cons_zero, List.set_cons_succ]
      clear hS
      go_wp2_with fail
      go_ret
      exact ⟨by rw [decide_eq_true HQ.out, decide_eq_true HQ2.out, Bool.true_and, Bool.true_and]; rfl, hM.b⟩
    · have HQ2 := Lib.hid hq2
      clear hq2
      refine wp_region_M (fun W => Sep w [] [.blk X 44 (txc x)] W) (fun W => Sep w [] [.blk X 44 (txc x)] W) hmx hM.drew ?_
      clear hM
      rintro Y4 hM
      have hS := hM.sub (.cons_cons _ .slnil)
      refine tD 4 [.val 0 (some 6) (pt X 0), .load 1 (some 7) 3 (pt X 0) (.int .i64 x.fr), .load 2 (some 8) 3 (pt A 0) (.int .i64 a), .alt 3 (some 9) (.bool (x.fr == a)) (.bool true), .val 4 (some 10) (.bool true), .val 5 (some 11) (pt X 2), .load 6 (some 12) 3 (pt X 2) (.int .i64 x.kd), .load 7 (some 13) 3 (pt K 0) (.int .i64 k), .alt 8 (some 14) (.bool (x.kd == k)) (.bool false), .val 9 (some 15) (.bool false), .val 10 (some 16) (.bool false), .skip 11 (some 17), .skip 12 (some 18), .skip 14 (some 20)] ⟨fun W h => ld_int (h.at 0 rfl) 0 rfl, fun W h => ld_int (HK0.out.below h.b HK0.out.lt) 0 rfl, congrArg Value.bool (beq_iff_eq.2 HQ.out), fun W h => ld_int (h.at 0 rfl) 2 rfl, fun W h => ld_int (HK1.out.below h.b HK1.out.lt) 0 rfl, congrArg Value.bool (beq_eq_false_iff_ne.2 HQ2.out), trivial⟩ hS ?_
      refine oD 13 3 (stepH_not (d := some 19) (by kernel_rfl) (And.intro hS ?_))
      refine tD 0 [.skip 15 (some 21), .val 16 (some 22) (.bool false), .val 17 (some 5) (.bool false)] trivial hS ?_
      refine dD ?_
      try simp only [puts, Tk.put, Act.put, List.setIfInBounds_toArray, List.set_cons_zero, List.set_cons_succ]
      clear hS
      go_wp2_with fail
      go_ret
      exact ⟨by rw [decide_eq_true HQ.out, decide_eq_false HQ2.out, Bool.false_and, Bool.true_and]; rfl, hM.b⟩
  · have HQ := Lib.hid hq
    clear hq
    refine wp_region_M (fun W => Sep w [] [.blk X 44 (txc x)] W) (fun W => Sep w [] [.blk X 44 (txc x)] W) hmx hM.drew ?_
    clear hM
    rintro Y5 hM
    have hS := hM.sub (.cons_cons _ .slnil)
    refine tD 4 [.val 0 (some 6) (pt X 0), .load 1 (some 7) 3 (pt X 0) (.int .i64 x.fr), .load 2 (some 8) 3 (pt A 0) (.int .i64 a), .alt 3 (some 9) (.bool (x.fr == a)) (.bool false), .val 4 (some 10) (.bool false), .skip 5 (some 11), .skip 6 (some 12), .skip 7 (some 13), .skip 8 (some 14), .val 9 (some 15) (.bool false), .val 10 (some 16) (.bool false), .skip 11 (some 17), .skip 12 (some 18), .skip 14 (some 20)] ⟨fun W h => ld_int (h.at 0 rfl) 0 rfl, fun W h => ld_int (HK0.out.below h.b HK0.out.lt) 0 rfl, congrArg Value.bool (beq_eq_false_iff_ne.2 HQ.out), trivial⟩ hS ?_
    refine oD 13 3 (stepH_not (d := some 19) (by kernel_rfl) (And.intro hS ?_))
    refine tD 0 [.skip 15 (some 21), .val 16 (some 22) (.bool false), .val 17 (some 5) (.bool false)] trivial hS ?_
    refine dD ?_
    try simp only [puts, Tk.put, Act.put, List.setIfInBounds_toArray, List.set_cons_zero, List.set_cons_succ]
    clear hS
    go_wp2_with fail
    go_ret
    exact ⟨by rw [decide_eq_false HQ.out, Bool.false_and]; rfl, hM.b⟩
set_option maxRecDepth 100000 in
set_option maxHeartbeats 4000000 in
theorem same1_idx {T : Nat} (t : Tr) (l : List Tr) (v : Value) (w : World) {lo hi : Nat} (hl : RSl (fun t => txc t) lo hi w v l) (hhi : hi ≤ w.heap.size) (hk0 : Blk w T 44 (txc t)) :
    Calls Tryz.prog 75 #[v, .func (.func 33) #[] #[.pointer (some ⟨T, 0, none⟩)]] w fun e W' => e = .returned (.int .i64 (idxP (fun y => (eqT y t)) l)) ∧ Below w.heap.size w W' := by
  have HE := Lib.hid (fun k x (hx : l[k]? = some x) => hl.elem txc_25 hx Tryz.underlying37 (fun W => by kernel_rfl))
  have hmax := hl.len
  obtain ⟨a0, c0, rfl⟩ := hl.slice
  have HL := Lib.hid hl
  have HHI := Lib.hid hhi
  clear hl hhi
  have HK0 := Lib.hid hk0
  clear hk0
  unfold maxLen at hmax
  go_enter Tryz.func75, Tryz.ntmps75
  go_wp2
  go_loopw [5, 8] (fun _ i wr => ∃ j : Nat, j ≤ l.length ∧ i = .int .i64 (j : Nat) ∧ (∀ (j0 : Nat) (y : Tr), j0 < j → l[j0]? = some y → (eqT y t) = false) ∧ Below w.heap.size w wr) (fun _ i _ => l.length - (intOf i).toNat)
  case atStart => exact ⟨0, Nat.zero_le _, rfl, fun j0 y h => absurd h (Nat.not_lt_zero j0), Below.refl _ _⟩
  case round =>
    obtain ⟨j, hj, rfl, hno, hb⟩ := hrel
    have HN := Lib.hid hno
    have HB := Lib.hid hb
    clear hno hb
    by_cases hlt : j < l.length
    · obtain ⟨x, hx⟩ : ∃ x, l[j]? = some x := ⟨_, List.getElem?_eq_getElem hlt⟩
      obtain ⟨b, o, _, hbh, hi', hc⟩ := HE.out j x hx
      have HX := Lib.hid hx
      have hlw := Lib.hid (HL.out.below HB.out HHI.out)
      have HI := Lib.hid (hi' wr)
      have HD : Hid ((Instr.loadAt 44 (.pointer (some ⟨b, o, none⟩))).run Tryz.prog wr = .ok (txv x) wr) := Lib.hid (ld_txS (hc wr hlw.out))
      have HC := Lib.hid (same1_any t x wr (HK0.out.below HB.out HK0.out.lt))
      clear hx hi' hc hbh hlw
      have hlt' : (j : Int) < (l.length : Int) := by omega
      go_upto_region 4 with fail
      refine wp_region_from ?_
      refine tF 5 [.val 0 (some 11) (.func (.func 33) #[] #[.pointer (some ⟨T, 0, none⟩)]), .val 1 (some 12) (.slice a0 l.length c0), .val 2 (some 13) (.int .i64 (j : Int)), .idx 3 (some 14) 37 (.slice a0 l.length c0) (.int .i64 (j : Int)) (pt b o), .load 4 (some 15) 44 (pt b o) (txv x)] ⟨HI.out, HD.out, trivial⟩ ?_
      refine cF (some 16) 33 #[txv x, .pointer (some ⟨T, 0, none⟩)] ((HC.out).mono ?_)
      rintro e W1 ⟨rfl, hb⟩
      refine dF ?_
      try simp only [puts, Tk.put, Act.put, List.setIfInBounds_toArray, List.set_cons_zero, List.set_cons_succ]
      have HB1 := Lib.hid (chain HB.out hb)
      clear hb
      cases hp : (eqT x t) with
      | true =>
        have HP := Lib.hid hp
        clear hp
        go_wp2_with fail
        go_ret
        refine ⟨?_, HB1.out⟩
        rw [idxP_at (p := (fun y => (eqT y t))) HX.out HP.out HN.out]
        rfl
      | false =>
        have HP := Lib.hid hp
        clear hp
        go_wp2_with fail
        go_roundw
        case rel =>
          refine ⟨j + 1, by omega, by go_num, fun j0 y hn hy => ?_, HB1.out⟩
          rcases Nat.lt_succ_iff_lt_or_eq.1 hn with h | rfl
          · exact HN.out j0 y h hy
          · obtain rfl : x = y := by have := HX.out; rw [hy] at this; exact (Option.some.inj this).symm
            exact HP.out
        case measure => simp [intOf]; omega
    · obtain rfl : j = l.length := by omega
      go_wp2
      go_ret
      refine ⟨?_, HB.out⟩
      rw [idxP_not (p := (fun y => (eqT y t))) HN.out]
      rfl
set_option maxRecDepth 100000 in
set_option maxHeartbeats 4000000 in
theorem same1_con {T : Nat} (t : Tr) (l : List Tr) (v : Value) (w : World) {lo hi : Nat} (hl : RSl (fun t => txc t) lo hi w v l) (hhi : hi ≤ w.heap.size) (hk0 : Blk w T 44 (txc t)) :
    Calls Tryz.prog 55 #[v, .func (.func 33) #[] #[.pointer (some ⟨T, 0, none⟩)]] w fun e W' => e = .returned (.bool (l.any (fun y => (eqT y t)))) ∧ Below w.heap.size w W' := by
  have HI := Lib.hid (same1_idx t l v w hl hhi hk0)
  have HG := Lib.hid (idxP_ge (fun y => (eqT y t)) l)
  clear hl hhi hk0
  go_enter Tryz.func55, Tryz.ntmps55
  go_upto_region 1 with fail
  refine wp_region_from ?_
  refine tF 2 [.val 0 (some 5) (v), .val 1 (some 6) (.func (.func 33) #[] #[.pointer (some ⟨T, 0, none⟩)])] trivial ?_
  refine cF (some 7) 75 #[v, .func (.func 33) #[] #[.pointer (some ⟨T, 0, none⟩)]] (HI.out.mono ?_)
  rintro e W1 ⟨rfl, hb⟩
  refine tF 5 [.alt 3 (some 8) (.bool (decide (0 ≤ idxP (fun y => (eqT y t)) l))) (.bool (l.any (fun y => (eqT y t)))), .val 4 (some 4) (.bool (l.any (fun y => (eqT y t))))] ⟨congrArg Value.bool HG.out, trivial⟩ ?_
  refine dF ?_
  try simp only [puts, Tk.put, Act.put, List.setIfInBounds_toArray, List.set_cons_zero, List.set_cons_succ]
  go_wp2_with fail
  go_ret
  exact ⟨rfl, hb⟩
set_option maxRecDepth 100000 in
set_option maxHeartbeats 4000000 in
theorem same1_some {T : Nat} (t : Tr) {B : Nat} {c : Ch} {v pv q : Value} {bs : List Nat} (w : World) (hv : ChV w B c v pv q bs) (hk0 : Blk w T 44 (txc t)) :
    Calls Tryz.prog 32 #[.pointer (some ⟨B, 0, none⟩), .func (.func 33) #[] #[.pointer (some ⟨T, 0, none⟩)]] w fun e W' => e = .returned (.bool (c.po.any (fun y => (eqT y t)))) ∧ Below w.heap.size w W' := by
  have HC := Lib.hid (same1_con t c.po pv w hv.po (Nat.le_refl _) hk0)
  have HV := Lib.hid hv
  clear hv hk0
  go_enter Tryz.func32, Tryz.ntmps32
  go_upto_region 1 with fail
  refine wp_region_from ?_
  refine tF 1 [.val 0 (some 5) (pt B 0)] trivial ?_
  refine cF (some 6) 31 #[pt B 0] ((there_yes w HV.out.b).mono ?_)
  rintro e W1 ⟨rfl, rfl⟩
  refine tF 8 [.val 2 (some 7) (.bool true), .val 3 (some 8) (pt B 0), .val 4 (some 9) (pt B 0), .val 5 (some 10) (pt B 152), .load 6 (some 11) 37 (pt B 152) (pv), .val 7 (some 12) (.func (.func 33) #[] #[.pointer (some ⟨T, 0, none⟩)])] ⟨ld_chpo HV.out.b, trivial⟩ ?_
  refine cF (some 13) 55 #[pv, .func (.func 33) #[] #[.pointer (some ⟨T, 0, none⟩)]] (HC.out.mono ?_)
  rintro e W2 ⟨rfl, hb⟩
  refine tF 11 [.val 9 (some 14) (.bool (c.po.any (fun y => (eqT y t)))), .val 10 (some 4) (.bool (c.po.any (fun y => (eqT y t))))] trivial ?_
  refine dF ?_
  try simp only [puts, Tk.put, Act.put, List.setIfInBounds_toArray, List.set_cons_zero, List.set_cons_succ]
  go_wp2_with fail
  go_ret
  exact ⟨rfl, hb⟩
set_option maxRecDepth 100000 in
set_option maxHeartbeats 4000000 in
theorem next1_idx {A N : Nat} (a n : Int) (l : List Tr) (v : Value) (w : World) {lo hi : Nat} (hl : RSl (fun t => txc t) lo hi w v l) (hhi : hi ≤ w.heap.size) (hk0 : Blk w A 3 [.int .i64 a]) (hk1 : Blk w N 3 [.int .i64 n]) :
    Calls Tryz.prog 75 #[v, .func (.func 46) #[] #[.pointer (some ⟨A, 0, none⟩), .pointer (some ⟨N, 0, none⟩)]] w fun e W' => e = .returned (.int .i64 (idxP (fun y => (decide (y.fr = a) && decide (y.no = n))) l)) ∧ Below w.heap.size w W' := by
  have HE := Lib.hid (fun k x (hx : l[k]? = some x) => hl.elem txc_25 hx Tryz.underlying37 (fun W => by kernel_rfl))
  have hmax := hl.len
  obtain ⟨a0, c0, rfl⟩ := hl.slice
  have HL := Lib.hid hl
  have HHI := Lib.hid hhi
  clear hl hhi
  have HK0 := Lib.hid hk0
  clear hk0
  have HK1 := Lib.hid hk1
  clear hk1
  unfold maxLen at hmax
  go_enter Tryz.func75, Tryz.ntmps75
  go_wp2
  go_loopw [5, 8] (fun _ i wr => ∃ j : Nat, j ≤ l.length ∧ i = .int .i64 (j : Nat) ∧ (∀ (j0 : Nat) (y : Tr), j0 < j → l[j0]? = some y → (decide (y.fr = a) && decide (y.no = n)) = false) ∧ Below w.heap.size w wr) (fun _ i _ => l.length - (intOf i).toNat)
  case atStart => exact ⟨0, Nat.zero_le _, rfl, fun j0 y h => absurd h (Nat.not_lt_zero j0), Below.refl _ _⟩
  case round =>
    obtain ⟨j, hj, rfl, hno, hb⟩ := hrel
    have HN := Lib.hid hno
    have HB := Lib.hid hb
    clear hno hb
    by_cases hlt : j < l.length
    · obtain ⟨x, hx⟩ : ∃ x, l[j]? = some x := ⟨_, List.getElem?_eq_getElem hlt⟩
      obtain ⟨b, o, _, hbh, hi', hc⟩ := HE.out j x hx
      have HX := Lib.hid hx
      have hlw := Lib.hid (HL.out.below HB.out HHI.out)
      have HI := Lib.hid (hi' wr)
      have HD : Hid ((Instr.loadAt 44 (.pointer (some ⟨b, o, none⟩))).run Tryz.prog wr = .ok (txv x) wr) := Lib.hid (ld_txS (hc wr hlw.out))
      have HC := Lib.hid (next1_any a n x wr (HK0.out.below HB.out HK0.out.lt) (HK1.out.below HB.out HK1.out.lt))
      clear hx hi' hc hbh hlw
      have hlt' : (j : Int) < (l.length : Int) := by omega
      go_upto_region 4 with fail
      refine wp_region_from ?_
      refine tF 5 [.val 0 (some 11) (.func (.func 46) #[] #[.pointer (some ⟨A, 0, none⟩), .pointer (some ⟨N, 0, none⟩)]), .val 1 (some 12) (.slice a0 l.length c0), .val 2 (some 13) (.int .i64 (j : Int)), .idx 3 (some 14) 37 (.slice a0 l.length c0) (.int .i64 (j : Int)) (pt b o), .load 4 (some 15) 44 (pt b o) (txv x)] ⟨HI.out, HD.out, trivial⟩ ?_
      refine cF (some 16) 46 #[txv x, .pointer (some ⟨A, 0, none⟩), .pointer (some ⟨N, 0, none⟩)] ((HC.out).mono ?_)
      rintro e W1 ⟨rfl, hb⟩
      refine dF ?_
      try simp only [puts, Tk.put, Act.put, List.setIfInBounds_toArray, List.set_cons_zero, List.set_cons_succ]
      have HB1 := Lib.hid (chain HB.out hb)
      clear hb
      cases hp : (decide (x.fr = a) && decide (x.no = n)) with
      | true =>
        have HP := Lib.hid hp
        clear hp
        go_wp2_with fail
        go_ret
        refine ⟨?_, HB1.out⟩
        rw [idxP_at (p := (fun y => (decide (y.fr = a) && decide (y.no = n)))) HX.out HP.out HN.out]
        rfl
      | false =>
        have HP := Lib.hid hp
        clear hp
        go_wp2_with fail
        go_roundw
        case rel =>
          refine ⟨j + 1, by omega, by go_num, fun j0 y hn hy => ?_, HB1.out⟩
          rcases Nat.lt_succ_iff_lt_or_eq.1 hn with h | rfl
          · exact HN.out j0 y h hy
          · obtain rfl : x = y := by have := HX.out; rw [hy] at this; exact (Option.some.inj this).symm
            exact HP.out
        case measure => simp [intOf]; omega
    · obtain rfl : j = l.length := by omega
      go_wp2
      go_ret
      refine ⟨?_, HB.out⟩
      rw [idxP_not (p := (fun y => (decide (y.fr = a) && decide (y.no = n)))) HN.out]
      rfl
set_option maxRecDepth 100000 in
set_option maxHeartbeats 4000000 in
theorem next1_con {A N : Nat} (a n : Int) (l : List Tr) (v : Value) (w : World) {lo hi : Nat} (hl : RSl (fun t => txc t) lo hi w v l) (hhi : hi ≤ w.heap.size) (hk0 : Blk w A 3 [.int .i64 a]) (hk1 : Blk w N 3 [.int .i64 n]) :
    Calls Tryz.prog 55 #[v, .func (.func 46) #[] #[.pointer (some ⟨A, 0, none⟩), .pointer (some ⟨N, 0, none⟩)]] w fun e W' => e = .returned (.bool (l.any (fun y => (decide (y.fr = a) && decide (y.no = n))))) ∧ Below w.heap.size w W' := by
  have HI := Lib.hid (next1_idx a n l v w hl hhi hk0 hk1)
  have HG := Lib.hid (idxP_ge (fun y => (decide (y.fr = a) && decide (y.no = n))) l)
  clear hl hhi hk0 hk1
  go_enter Tryz.func55, Tryz.ntmps55
  go_upto_region 1 with fail
  refine wp_region_from ?_
  refine tF 2 [.val 0 (some 5) (v), .val 1 (some 6) (.func (.func 46) #[] #[.pointer (some ⟨A, 0, none⟩), .pointer (some ⟨N, 0, none⟩)])] trivial ?_
  refine cF (some 7) 75 #[v, .func (.func 46) #[] #[.pointer (some ⟨A, 0, none⟩), .pointer (some ⟨N, 0, none⟩)]] (HI.out.mono ?_)
  rintro e W1 ⟨rfl, hb⟩
  refine tF 5 [.alt 3 (some 8) (.bool (decide (0 ≤ idxP (fun y => (decide (y.fr = a) && decide (y.no = n))) l))) (.bool (l.any (fun y => (decide (y.fr = a) && decide (y.no = n))))), .val 4 (some 4) (.bool (l.any (fun y => (decide (y.fr = a) && decide (y.no = n)))))] ⟨congrArg Value.bool HG.out, trivial⟩ ?_
  refine dF ?_
  try simp only [puts, Tk.put, Act.put, List.setIfInBounds_toArray, List.set_cons_zero, List.set_cons_succ]
  go_wp2_with fail
  go_ret
  exact ⟨rfl, hb⟩
set_option maxRecDepth 100000 in
set_option maxHeartbeats 4000000 in
theorem next1_some {A N : Nat} (a n : Int) {B : Nat} {c : Ch} {v pv q : Value} {bs : List Nat} (w : World) (hv : ChV w B c v pv q bs) (hk0 : Blk w A 3 [.int .i64 a]) (hk1 : Blk w N 3 [.int .i64 n]) :
    Calls Tryz.prog 32 #[.pointer (some ⟨B, 0, none⟩), .func (.func 46) #[] #[.pointer (some ⟨A, 0, none⟩), .pointer (some ⟨N, 0, none⟩)]] w fun e W' => e = .returned (.bool (c.po.any (fun y => (decide (y.fr = a) && decide (y.no = n))))) ∧ Below w.heap.size w W' := by
  have HC := Lib.hid (next1_con a n c.po pv w hv.po (Nat.le_refl _) hk0 hk1)
  have HV := Lib.hid hv
  clear hv hk0 hk1
  go_enter Tryz.func32, Tryz.ntmps32
  go_upto_region 1 with fail
  refine wp_region_from ?_
  refine tF 1 [.val 0 (some 5) (pt B 0)] trivial ?_
  refine cF (some 6) 31 #[pt B 0] ((there_yes w HV.out.b).mono ?_)
  rintro e W1 ⟨rfl, rfl⟩
  refine tF 8 [.val 2 (some 7) (.bool true), .val 3 (some 8) (pt B 0), .val 4 (some 9) (pt B 0), .val 5 (some 10) (pt B 152), .load 6 (some 11) 37 (pt B 152) (pv), .val 7 (some 12) (.func (.func 46) #[] #[.pointer (some ⟨A, 0, none⟩), .pointer (some ⟨N, 0, none⟩)])] ⟨ld_chpo HV.out.b, trivial⟩ ?_
  refine cF (some 13) 55 #[pv, .func (.func 46) #[] #[.pointer (some ⟨A, 0, none⟩), .pointer (some ⟨N, 0, none⟩)]] (HC.out.mono ?_)
  rintro e W2 ⟨rfl, hb⟩
  refine tF 11 [.val 9 (some 14) (.bool (c.po.any (fun y => (decide (y.fr = a) && decide (y.no = n))))), .val 10 (some 4) (.bool (c.po.any (fun y => (decide (y.fr = a) && decide (y.no = n)))))] trivial ?_
  refine dF ?_
  try simp only [puts, Tk.put, Act.put, List.setIfInBounds_toArray, List.set_cons_zero, List.set_cons_succ]
  go_wp2_with fail
  go_ret
  exact ⟨rfl, hb⟩
set_option maxRecDepth 100000 in
set_option maxHeartbeats 4000000 in
theorem waits1_idx {A K S : Nat} (a k : Int) (s : ByteArray) (l : List Tr) (v : Value) (w : World) {lo hi : Nat} (hl : RSl (fun t => txc t) lo hi w v l) (hhi : hi ≤ w.heap.size) (hk0 : Blk w A 3 [.int .i64 a]) (hk1 : Blk w K 3 [.int .i64 k]) (hk2 : Blk w S 9 [.string s]) :
    Calls Tryz.prog 75 #[v, .func (.func 52) #[] #[.pointer (some ⟨A, 0, none⟩), .pointer (some ⟨K, 0, none⟩), .pointer (some ⟨S, 0, none⟩)]] w fun e W' => e = .returned (.int .i64 (idxP (fun y => (decide (y.fr = a) && (decide (y.kd = k) && decide (keyB y.iv = s)))) l)) ∧ Below w.heap.size w W' := by
  have HE := Lib.hid (fun k x (hx : l[k]? = some x) => hl.elem txc_25 hx Tryz.underlying37 (fun W => by kernel_rfl))
  have hmax := hl.len
  obtain ⟨a0, c0, rfl⟩ := hl.slice
  have HL := Lib.hid hl
  have HHI := Lib.hid hhi
  clear hl hhi
  have HK0 := Lib.hid hk0
  clear hk0
  have HK1 := Lib.hid hk1
  clear hk1
  have HK2 := Lib.hid hk2
  clear hk2
  unfold maxLen at hmax
  go_enter Tryz.func75, Tryz.ntmps75
  go_wp2
  go_loopw [5, 8] (fun _ i wr => ∃ j : Nat, j ≤ l.length ∧ i = .int .i64 (j : Nat) ∧ (∀ (j0 : Nat) (y : Tr), j0 < j → l[j0]? = some y → (decide (y.fr = a) && (decide (y.kd = k) && decide (keyB y.iv = s))) = false) ∧ Below w.heap.size w wr) (fun _ i _ => l.length - (intOf i).toNat)
  case atStart => exact ⟨0, Nat.zero_le _, rfl, fun j0 y h => absurd h (Nat.not_lt_zero j0), Below.refl _ _⟩
  case round =>
    obtain ⟨j, hj, rfl, hno, hb⟩ := hrel
    have HN := Lib.hid hno
    have HB := Lib.hid hb
    clear hno hb
    by_cases hlt : j < l.length
    · obtain ⟨x, hx⟩ : ∃ x, l[j]? = some x := ⟨_, List.getElem?_eq_getElem hlt⟩
      obtain ⟨b, o, _, hbh, hi', hc⟩ := HE.out j x hx
      have HX := Lib.hid hx
      have hlw := Lib.hid (HL.out.below HB.out HHI.out)
      have HI := Lib.hid (hi' wr)
      have HD : Hid ((Instr.loadAt 44 (.pointer (some ⟨b, o, none⟩))).run Tryz.prog wr = .ok (txv x) wr) := Lib.hid (ld_txS (hc wr hlw.out))
      have HC := Lib.hid (waits1_any a k s x wr (HK0.out.below HB.out HK0.out.lt) (HK1.out.below HB.out HK1.out.lt) (HK2.out.below HB.out HK2.out.lt))
      clear hx hi' hc hbh hlw
      have hlt' : (j : Int) < (l.length : Int) := by omega
      go_upto_region 4 with fail
      refine wp_region_from ?_
      refine tF 5 [.val 0 (some 11) (.func (.func 52) #[] #[.pointer (some ⟨A, 0, none⟩), .pointer (some ⟨K, 0, none⟩), .pointer (some ⟨S, 0, none⟩)]), .val 1 (some 12) (.slice a0 l.length c0), .val 2 (some 13) (.int .i64 (j : Int)), .idx 3 (some 14) 37 (.slice a0 l.length c0) (.int .i64 (j : Int)) (pt b o), .load 4 (some 15) 44 (pt b o) (txv x)] ⟨HI.out, HD.out, trivial⟩ ?_
      refine cF (some 16) 52 #[txv x, .pointer (some ⟨A, 0, none⟩), .pointer (some ⟨K, 0, none⟩), .pointer (some ⟨S, 0, none⟩)] ((HC.out).mono ?_)
      rintro e W1 ⟨rfl, hb⟩
      refine dF ?_
      try simp only [puts, Tk.put, Act.put, List.setIfInBounds_toArray, List.set_cons_zero, List.set_cons_succ]
      have HB1 := Lib.hid (chain HB.out hb)
      clear hb
      cases hp : (decide (x.fr = a) && (decide (x.kd = k) && decide (keyB x.iv = s))) with
      | true =>
        have HP := Lib.hid hp
        clear hp
        go_wp2_with fail
        go_ret
        refine ⟨?_, HB1.out⟩
        rw [idxP_at (p := (fun y => (decide (y.fr = a) && (decide (y.kd = k) && decide (keyB y.iv = s))))) HX.out HP.out HN.out]
        rfl
      | false =>
        have HP := Lib.hid hp
        clear hp
        go_wp2_with fail
        go_roundw
        case rel =>
          refine ⟨j + 1, by omega, by go_num, fun j0 y hn hy => ?_, HB1.out⟩
          rcases Nat.lt_succ_iff_lt_or_eq.1 hn with h | rfl
          · exact HN.out j0 y h hy
          · obtain rfl : x = y := by have := HX.out; rw [hy] at this; exact (Option.some.inj this).symm
            exact HP.out
        case measure => simp [intOf]; omega
    · obtain rfl : j = l.length := by omega
      go_wp2
      go_ret
      refine ⟨?_, HB.out⟩
      rw [idxP_not (p := (fun y => (decide (y.fr = a) && (decide (y.kd = k) && decide (keyB y.iv = s))))) HN.out]
      rfl
set_option maxRecDepth 100000 in
set_option maxHeartbeats 4000000 in
theorem waits1_con {A K S : Nat} (a k : Int) (s : ByteArray) (l : List Tr) (v : Value) (w : World) {lo hi : Nat} (hl : RSl (fun t => txc t) lo hi w v l) (hhi : hi ≤ w.heap.size) (hk0 : Blk w A 3 [.int .i64 a]) (hk1 : Blk w K 3 [.int .i64 k]) (hk2 : Blk w S 9 [.string s]) :
    Calls Tryz.prog 55 #[v, .func (.func 52) #[] #[.pointer (some ⟨A, 0, none⟩), .pointer (some ⟨K, 0, none⟩), .pointer (some ⟨S, 0, none⟩)]] w fun e W' => e = .returned (.bool (l.any (fun y => (decide (y.fr = a) && (decide (y.kd = k) && decide (keyB y.iv = s)))))) ∧ Below w.heap.size w W' := by
  have HI := Lib.hid (waits1_idx a k s l v w hl hhi hk0 hk1 hk2)
  have HG := Lib.hid (idxP_ge (fun y => (decide (y.fr = a) && (decide (y.kd = k) && decide (keyB y.iv = s)))) l)
  clear hl hhi hk0 hk1 hk2
  go_enter Tryz.func55, Tryz.ntmps55
  go_upto_region 1 with fail
  refine wp_region_from ?_
  refine tF 2 [.val 0 (some 5) (v), .val 1 (some 6) (.func (.func 52) #[] #[.pointer (some ⟨A, 0, none⟩), .pointer (some ⟨K, 0, none⟩), .pointer (some ⟨S, 0, none⟩)])] trivial ?_
  refine cF (some 7) 75 #[v, .func (.func 52) #[] #[.pointer (some ⟨A, 0, none⟩), .pointer (some ⟨K, 0, none⟩), .pointer (some ⟨S, 0, none⟩)]] (HI.out.mono ?_)
  rintro e W1 ⟨rfl, hb⟩
  refine tF 5 [.alt 3 (some 8) (.bool (decide (0 ≤ idxP (fun y => (decide (y.fr = a) && (decide (y.kd = k) && decide (keyB y.iv = s)))) l))) (.bool (l.any (fun y => (decide (y.fr = a) && (decide (y.kd = k) && decide (keyB y.iv = s)))))), .val 4 (some 4) (.bool (l.any (fun y => (decide (y.fr = a) && (decide (y.kd = k) && decide (keyB y.iv = s))))))] ⟨congrArg Value.bool HG.out, trivial⟩ ?_
  refine dF ?_
  try simp only [puts, Tk.put, Act.put, List.setIfInBounds_toArray, List.set_cons_zero, List.set_cons_succ]
  go_wp2_with fail
  go_ret
  exact ⟨rfl, hb⟩
set_option maxRecDepth 100000 in
set_option maxHeartbeats 4000000 in
theorem waits1_some {A K S : Nat} (a k : Int) (s : ByteArray) {B : Nat} {c : Ch} {v pv q : Value} {bs : List Nat} (w : World) (hv : ChV w B c v pv q bs) (hk0 : Blk w A 3 [.int .i64 a]) (hk1 : Blk w K 3 [.int .i64 k]) (hk2 : Blk w S 9 [.string s]) :
    Calls Tryz.prog 32 #[.pointer (some ⟨B, 0, none⟩), .func (.func 52) #[] #[.pointer (some ⟨A, 0, none⟩), .pointer (some ⟨K, 0, none⟩), .pointer (some ⟨S, 0, none⟩)]] w fun e W' => e = .returned (.bool (c.po.any (fun y => (decide (y.fr = a) && (decide (y.kd = k) && decide (keyB y.iv = s)))))) ∧ Below w.heap.size w W' := by
  have HC := Lib.hid (waits1_con a k s c.po pv w hv.po (Nat.le_refl _) hk0 hk1 hk2)
  have HV := Lib.hid hv
  clear hv hk0 hk1 hk2
  go_enter Tryz.func32, Tryz.ntmps32
  go_upto_region 1 with fail
  refine wp_region_from ?_
  refine tF 1 [.val 0 (some 5) (pt B 0)] trivial ?_
  refine cF (some 6) 31 #[pt B 0] ((there_yes w HV.out.b).mono ?_)
  rintro e W1 ⟨rfl, rfl⟩
  refine tF 8 [.val 2 (some 7) (.bool true), .val 3 (some 8) (pt B 0), .val 4 (some 9) (pt B 0), .val 5 (some 10) (pt B 152), .load 6 (some 11) 37 (pt B 152) (pv), .val 7 (some 12) (.func (.func 52) #[] #[.pointer (some ⟨A, 0, none⟩), .pointer (some ⟨K, 0, none⟩), .pointer (some ⟨S, 0, none⟩)])] ⟨ld_chpo HV.out.b, trivial⟩ ?_
  refine cF (some 13) 55 #[pv, .func (.func 52) #[] #[.pointer (some ⟨A, 0, none⟩), .pointer (some ⟨K, 0, none⟩), .pointer (some ⟨S, 0, none⟩)]] (HC.out.mono ?_)
  rintro e W2 ⟨rfl, hb⟩
  refine tF 11 [.val 9 (some 14) (.bool (c.po.any (fun y => (decide (y.fr = a) && (decide (y.kd = k) && decide (keyB y.iv = s)))))), .val 10 (some 4) (.bool (c.po.any (fun y => (decide (y.fr = a) && (decide (y.kd = k) && decide (keyB y.iv = s))))))] trivial ?_
  refine dF ?_
  try simp only [puts, Tk.put, Act.put, List.setIfInBounds_toArray, List.set_cons_zero, List.set_cons_succ]
  go_wp2_with fail
  go_ret
  exact ⟨rfl, hb⟩
theorem waits1_none {p : Value} {K : Array Value} (w : World) (h : NoC w p) :
    Calls Tryz.prog 32 #[p, .func (.func 52) #[] K] w fun e W' => e = .returned (.bool false) ∧ W' = w := by
  have HN := Lib.hid h
  clear h
  go_enter Tryz.func32, Tryz.ntmps32
  go_wp2_with (go_at_call 31; refine (there_no _ HN.out).mono ?_; rintro e w' ⟨rfl, rfl⟩)
  go_ret
  exact ⟨rfl, rfl⟩
end Go.Proofs.YtfoemkmoambagaaGreat
namespace Go.Proofs.YtfoemkmoambagaaGreat
open Go.RowKit Go.Shelf
attribute [local irreducible] wpFrom wpAnyH StepH
theorem Sep.addE {w W : World} {F : List Nat} {l : List Res} (h : Sep w F l W) : Sep w F (.evs (.pointer none) [] [] :: l) W :=
  h.add (Below.refl _ W) ⟨rfl, fun _ hk => (List.not_mem_nil hk).elim⟩ (fun _ hk => (List.not_mem_nil hk).elim)
def NewR (c : Ch) (w : World) (e : Ending) (W' : World) : Prop := ∃ B v pv q bs, e = .returned (.pointer (some ⟨B, 0, none⟩)) ∧ Sep w [] (CHR B c v pv q bs) W'
set_option maxRecDepth 100000 in
set_option maxHeartbeats 4000000 in
theorem chnNew_any (a z : Int) (w : World) : Calls Tryz.prog 8 #[.int .i64 a, .int .i64 z] w (NewR (newC a z) w) := by
  have hM := Sep.start w
  go_enter Tryz.func8, Tryz.ntmps8
  go_upto_region 1 with fail
  refine wp_region_fromM (fun W => Sep w [] [] W) hM ?_
  clear hM
  rintro Y1 hM
  refine tF 2 [.val 0 (some 5) (.int .i64 a), .val 1 (some 6) (.int .i64 z)] trivial ?_
  refine cF (some 7) 9 #[.int .i64 a, .int .i64 z] ((genesis_any a z _).mono ?_)
  rintro e W1 ⟨rfl, hb⟩
  replace hM := hM.below hb
  clear hb
  refine tF 4 [.val 3 (some 8) (.agg (lgc true (genP a z) nilV nilV 0 (.pointer none)).toArray)] trivial ?_
  refine rF (some 9) (pt W1.heap.size 0) (W1.alloc (.cells (lgc true (genP a z) nilV nilV 0 (.pointer none)).toArray 71)) ?_
  replace hM := hM.alloc 71 (lgc true (genP a z) nilV nilV 0 (.pointer none))
  generalize World.alloc _ _ = Y2 at *
  generalize hNe : W1.heap.size = B at *
  clear hNe
  refine tF 6 [.val 5 (some 4) (pt B 0)] trivial ?_
  refine dF ?_
  try simp only [puts, Tk.put, Act.put, List.setIfInBounds_toArray, List.set_cons_zero, List.set_cons_succ]
  replace hM := ((hM.nil (fun t => txc t) 44 25).nil lkc 91 3)
  have hM2 : Sep w [] (CHR B (newC a z) nilV nilV (.pointer none) []) _ := ((hM.addE).pick [3, 1, 2, 0] (by decide) rfl)
  go_wp2_with fail
  go_ret
  exact ⟨B, nilV, nilV, .pointer none, [], rfl, hM2⟩
set_option maxRecDepth 100000 in
set_option maxHeartbeats 4000000 in
theorem chnTime_any {B : Nat} {c : Ch} {v pv q : Value} {bs : List Nat} (w : World) (hv : ChV w B c v pv q bs) : Calls Tryz.prog 21 #[.pointer (some ⟨B, 0, none⟩)] w fun e W' => e = .returned (.int .i64 c.st.tm) ∧ Below w.heap.size w W' := by
  have hmx : Tryz.prog.follows .mixedOrders = true := by kernel_rfl
  have HV := Lib.hid hv
  clear hv
  have hM := Sep.start w
  go_enter Tryz.func21, Tryz.ntmps21
  go_upto_region 1 with fail
  refine wp_region_fromM (fun W => Sep w [] [] W) hM ?_
  clear hM
  rintro Y1 hM
  refine tF 1 [.val 0 (some 3) (pt B 0)] trivial ?_
  refine cF (some 4) 31 #[pt B 0] ((there_yes _ (HV.out.below hM.b).b).mono ?_)
  rintro e W1 ⟨rfl, rfl⟩
  refine tF 3 [.val 2 (some 5) (.bool false)] trivial ?_
  refine dF ?_
  try simp only [puts, Tk.put, Act.put, List.setIfInBounds_toArray, List.set_cons_zero, List.set_cons_succ]
  go_upto_region 3 with fail
  refine wp_region_fromM (fun W => Sep w [] [] W) hM ?_
  clear hM
  rintro Y2 hM
  refine tF 6 [.val 0 (some 6) (pt B 0), .val 1 (some 7) (pt B 0), .val 2 (some 8) (pt B 1), .val 3 (some 9) (pt B 2), .load 4 (some 10) 3 (pt B 2) (.int .i64 (c.st).tm), .val 5 (some 2) (.int .i64 (c.st).tm)] ⟨ld_chtm (HV.out.below hM.b).b, trivial⟩ ?_
  refine dF ?_
  try simp only [puts, Tk.put, Act.put, List.setIfInBounds_toArray, List.set_cons_zero, List.set_cons_succ]
  go_wp2_with fail
  go_ret
  exact ⟨rfl, hM.b⟩
set_option maxRecDepth 100000 in
set_option maxHeartbeats 4000000 in
theorem chnTime_no {p : Value} (w : World) (h : NoC w p) : Calls Tryz.prog 21 #[p] w fun e W' => e = .returned (.int .i64 0) ∧ Below w.heap.size w W' := by
  have HN := Lib.hid h
  clear h
  go_enter Tryz.func21, Tryz.ntmps21
  go_wp2_with (go_at_call 31; refine (there_no _ HN.out).mono ?_; rintro e w' ⟨rfl, rfl⟩)
  go_ret
  exact ⟨rfl, Below.refl _ _⟩
set_option maxRecDepth 100000 in
set_option maxHeartbeats 4000000 in
theorem chnPool_no {p : Value} (w : World) (h : NoC w p) : Calls Tryz.prog 17 #[p] w fun e W' => e = .returned (nilV) ∧ Below w.heap.size w W' := by
  have HN := Lib.hid h
  clear h
  go_enter Tryz.func17, Tryz.ntmps17
  go_wp2_with (go_at_call 31; refine (there_no _ HN.out).mono ?_; rintro e w' ⟨rfl, rfl⟩)
  go_ret
  exact ⟨rfl, Below.refl _ _⟩
set_option maxRecDepth 100000 in
set_option maxHeartbeats 4000000 in
theorem chnEvents_no {p : Value} (n : Int) (w : World) (h : NoC w p) : Calls Tryz.prog 18 #[p, .int .i64 n] w fun e W' => e = .returned (nilV) ∧ Below w.heap.size w W' := by
  have HN := Lib.hid h
  clear h
  go_enter Tryz.func18, Tryz.ntmps18
  go_wp2_with (go_at_call 31; refine (there_no _ HN.out).mono ?_; rintro e w' ⟨rfl, rfl⟩)
  go_ret
  exact ⟨rfl, Below.refl _ _⟩
set_option maxRecDepth 100000 in
set_option maxHeartbeats 4000000 in
theorem chnInclude_no {p : Value} (n : Int) (w : World) (h : NoC w p) : Calls Tryz.prog 14 #[p, .int .i64 n] w fun e W' => e = .returned (.bool false) ∧ Below w.heap.size w W' := by
  have HN := Lib.hid h
  clear h
  go_enter Tryz.func14, Tryz.ntmps14
  go_wp2_with (go_at_call 31; refine (there_no _ HN.out).mono ?_; rintro e w' ⟨rfl, rfl⟩)
  go_ret
  exact ⟨rfl, Below.refl _ _⟩
def RowT (l : List Tr) (w : World) (e : Ending) (W' : World) : Prop := ∃ v, e = .returned v ∧ Sep w [] [.own (fun t => txc t) 44 25 v l] W'
set_option maxRecDepth 100000 in
set_option maxHeartbeats 4000000 in
theorem chnPool_any {B : Nat} {c : Ch} {v pv q : Value} {bs : List Nat} (w : World) (hv : ChV w B c v pv q bs) (hr : c.po.length * 224 ≤ 140737488355328) : Calls Tryz.prog 17 #[.pointer (some ⟨B, 0, none⟩)] w (RowT c.po w) := by
  have hmx : Tryz.prog.follows .mixedOrders = true := by kernel_rfl
  have HV := Lib.hid hv
  clear hv
  have hlen := hr
  have hM := Sep.start w
  go_enter Tryz.func17, Tryz.ntmps17
  go_upto_region 1 with fail
  refine wp_region_fromM (fun W => Sep w [] [] W) hM ?_
  clear hM
  rintro Y1 hM
  refine tF 1 [.val 0 (some 3) (pt B 0)] trivial ?_
  refine cF (some 4) 31 #[pt B 0] ((there_yes _ (HV.out.below hM.b).b).mono ?_)
  rintro e W1 ⟨rfl, rfl⟩
  refine tF 3 [.val 2 (some 5) (.bool false)] trivial ?_
  refine dF ?_
  try simp only [puts, Tk.put, Act.put, List.setIfInBounds_toArray, List.set_cons_zero, List.set_cons_succ]
  go_upto_region 3 with fail
  refine wp_region_fromM (fun W => Sep w [] [] W) hM ?_
  clear hM
  rintro Y2 hM
  refine tF 4 [.val 0 (some 6) (pt B 0), .val 1 (some 7) (pt B 0), .val 2 (some 8) (pt B 152), .load 3 (some 9) 37 (pt B 152) (pv)] ⟨ld_chpo (HV.out.below hM.b).b, trivial⟩ ?_
  refine cF (some 10) 44 #[pv] ((cloneT_any c.po pv _ (HV.out.below hM.b).po (Nat.le_refl _) hlen).mono ?_)
  rintro e W1 ⟨v', rfl, hO, hb⟩
  replace hM := hM.row hO hb
  refine tF 6 [.val 5 (some 2) (v')] trivial ?_
  refine dF ?_
  try simp only [puts, Tk.put, Act.put, List.setIfInBounds_toArray, List.set_cons_zero, List.set_cons_succ]
  go_wp2_with fail
  go_ret
  exact ⟨_, rfl, hM⟩
def OwnS (s : Es) (w : World) (e : Ending) (W' : World) : Prop := ∃ v, e = .returned (stv s v) ∧ Sep w [] [.own lkc 91 3 v s.lk] W'
set_option maxRecDepth 100000 in
set_option maxHeartbeats 4000000 in
theorem chnState_any {B : Nat} {c : Ch} {v pv q : Value} {bs : List Nat} (w : World) (hv : ChV w B c v pv q bs) (hr : c.st.lk.length * 40 ≤ 140737488355328) : Calls Tryz.prog 20 #[.pointer (some ⟨B, 0, none⟩)] w (OwnS c.st w) := by
  have hmx : Tryz.prog.follows .mixedOrders = true := by kernel_rfl
  have HV := Lib.hid hv
  clear hv
  have hlen := hr
  have hM := Sep.start w
  go_enter Tryz.func20, Tryz.ntmps20
  go_upto_region 0 with fail
  refine wp_region_fromM (fun W => Sep w [] [] W) hM ?_
  clear hM
  rintro Y1 hM
  refine rF (some 2) (pt Y1.heap.size 0) (Y1.alloc (.cells (stc zS nilV).toArray 35)) ?_
  replace hM := hM.alloc 35 (stc zS nilV)
  generalize World.alloc _ _ = Y2 at *
  generalize hNe : Y1.heap.size = R at *
  clear hNe
  refine dF ?_
  try simp only [Act.put, List.setIfInBounds_toArray, List.set_cons_zero, List.set_cons_succ]
  go_upto_region 1 with fail
  refine wp_region_fromM (fun W => Sep w [] [.blk R 35 (stc zS nilV)] W) hM ?_
  clear hM
  rintro Y3 hM
  refine tF 1 [.val 0 (some 4) (pt B 0)] trivial ?_
  refine cF (some 5) 31 #[pt B 0] ((there_yes _ (HV.out.below hM.b).b).mono ?_)
  rintro e W1 ⟨rfl, rfl⟩
  refine tF 3 [.val 2 (some 6) (.bool false)] trivial ?_
  refine dF ?_
  try simp only [puts, Tk.put, Act.put, List.setIfInBounds_toArray, List.set_cons_zero, List.set_cons_succ]
  go_upto_region 3 with fail
  refine wp_region_fromM (fun W => Sep w [] [.blk R 35 (stc zS nilV)] W) hM ?_
  clear hM
  rintro Y4 hM
  refine tF 4 [.val 0 (some 8) (pt B 0), .val 1 (some 9) (pt B 0), .val 2 (some 10) (pt B 1), .load 3 (some 11) 35 (pt B 1) (stv c.st v)] ⟨ld_chst (HV.out.below hM.b).b, trivial⟩ ?_
  have hone := (HV.out.below hM.b).lk.one
  refine rF (some 3) (pt Y4.heap.size 0) (Y4.alloc (.cells (stc zS nilV).toArray 35)) ?_
  replace hM := hM.alloc 35 (stc zS nilV)
  generalize World.alloc _ _ = Y5 at *
  generalize hNe : Y4.heap.size = S at *
  clear hNe
  refine sF 35 (pt S 0) (stv c.st v) (sto_st (hM.at 0 rfl) (stc_len _ _) c.st hone) ?_
  replace hM := hM.set 0 (cs' := stc c.st v) rfl rfl
  generalize World.setRow _ _ _ = Y6 at *
  refine dF ?_
  try simp only [puts, Tk.put, Act.put, List.setIfInBounds_toArray, List.set_cons_zero, List.set_cons_succ]
  go_upto_region 4 with fail
  refine wp_region_fromM (fun W => Sep w [] [.blk S 35 (stc c.st v), .blk R 35 (stc zS nilV)] W) hM ?_
  clear hM
  rintro Y7 hM
  refine tF 2 [.val 0 (some 12) (pt S 150), .load 1 (some 13) 33 (pt S 150) (v)] ⟨ld_lk (s := c.st) (hM.at 0 rfl), trivial⟩ ?_
  refine cF (some 14) 45 #[v] ((cloneL_any c.st.lk v _ (HV.out.below hM.b).lk (Nat.le_refl _) hlen).mono ?_)
  rintro e W1 ⟨v', rfl, hO, hb⟩
  replace hM := hM.row (f := lkc) hO hb
  clear hb hO
  refine tF 4 [.val 3 (some 15) (pt S 150)] trivial ?_
  have hv1 := (hM.oka 0 rfl).one lkc_len
  have hv2 : v'.cells.toList = [v'] := by obtain ⟨_, _, rfl⟩ := (hM.oka 0 rfl).slice lkc_len; rfl
  refine sF 33 (pt S 150) (v') (sto_lk (hM.at 1 rfl) hv1 hv2) ?_
  replace hM := hM.set 1 (cs' := stc c.st v') rfl rfl
  generalize World.setRow _ _ _ = Y8 at *
  refine dF ?_
  try simp only [puts, Tk.put, Act.put, List.setIfInBounds_toArray, List.set_cons_zero, List.set_cons_succ]
  go_upto_region 5 with fail
  refine wp_region_fromM (fun W => Sep w [] [.own lkc 91 3 (v') (c.st.lk), .blk S 35 (stc c.st v'), .blk R 35 (stc zS nilV)] W) hM ?_
  clear hM
  rintro Y9 hM
  refine tF 1 [.load 0 (some 16) 35 (pt S 0) (stv (c.st) (v'))] ⟨ld_st (hM.at 1 rfl), trivial⟩ ?_
  refine sF 35 (pt R 0) (stv (c.st) (v')) (sto_st (hM.at 2 rfl) (stc_len _ _) c.st hv1) ?_
  replace hM := hM.set 2 (cs' := stc c.st v') rfl rfl
  generalize World.setRow _ _ _ = Y10 at *
  refine dF ?_
  try simp only [puts, Tk.put, Act.put, List.setIfInBounds_toArray, List.set_cons_zero, List.set_cons_succ]
  go_wp2_with fail
  exact bodyPost_ret (v := stv c.st v') (res_st rfl _ rfl (hM.at 2 rfl)) rfl ⟨v', rfl, hM.pick [0] (by decide) rfl⟩
set_option maxRecDepth 100000 in
set_option maxHeartbeats 4000000 in
theorem chnState_no {p : Value} (w : World) (h : NoC w p) : Calls Tryz.prog 20 #[p] w fun e W' => e = .returned (stv zS nilV) ∧ Below w.heap.size w W' := by
  have HN := Lib.hid h
  clear h
  have hM := Sep.start w
  go_enter Tryz.func20, Tryz.ntmps20
  go_upto_region 0 with fail
  refine wp_region_fromM (fun W => Sep w [] [] W) hM ?_
  clear hM
  rintro Y1 hM
  refine rF (some 2) (pt Y1.heap.size 0) (Y1.alloc (.cells (stc zS nilV).toArray 35)) ?_
  replace hM := hM.alloc 35 (stc zS nilV)
  generalize World.alloc _ _ = Y2 at *
  generalize hNe : Y1.heap.size = R at *
  clear hNe
  refine dF ?_
  try simp only [Act.put, List.setIfInBounds_toArray, List.set_cons_zero, List.set_cons_succ]
  go_upto_region 1 with fail
  refine wp_region_fromM (fun W => Sep w [] [.blk R 35 (stc zS nilV)] W) hM ?_
  clear hM
  rintro Y3 hM
  refine tF 1 [.val 0 (some 4) (p)] trivial ?_
  refine cF (some 5) 31 #[p] ((there_no _ (HN.out.below hM.b)).mono ?_)
  rintro e W1 ⟨rfl, rfl⟩
  refine tF 3 [.val 2 (some 6) (.bool true)] trivial ?_
  refine dF ?_
  try simp only [puts, Tk.put, Act.put, List.setIfInBounds_toArray, List.set_cons_zero, List.set_cons_succ]
  go_upto_region 2 with fail
  refine wp_region_fromM (fun W => Sep w [] [.blk R 35 (stc zS nilV)] W) hM ?_
  clear hM
  rintro Y4 hM
  refine tF 1 [.val 0 (some 7) (stv zS nilV)] trivial ?_
  refine sF 35 (pt R 0) (stv zS nilV) (sto_st (hM.at 0 rfl) (stc_len _ _) zS rfl) ?_
  replace hM := hM.set 0 (cs' := stc zS nilV) rfl rfl
  generalize World.setRow _ _ _ = Y5 at *
  refine dF ?_
  try simp only [puts, Tk.put, Act.put, List.setIfInBounds_toArray, List.set_cons_zero, List.set_cons_succ]
  go_wp2_with fail
  exact bodyPost_ret (v := stv zS nilV) (res_st rfl _ rfl (hM.at 0 rfl)) rfl ⟨rfl, hM.b⟩
set_option maxRecDepth 100000 in
set_option maxHeartbeats 4000000 in
theorem chnRise_any {B : Nat} {c : Ch} {v pv q : Value} {bs : List Nat} (n : Int) (w : World) (h : ROk (.join (CHR B c v pv q bs)) w) (ht : 0 ≤ c.st.tm ∧ c.st.tm ≤ 1099511627776) (hr : c.st.lk.length * 40 ≤ 140737488355328) : Calls Tryz.prog 15 #[.pointer (some ⟨B, 0, none⟩), .int .i64 n] w (ChR B (.join (CHR B c v pv q bs)) (riseC c n) (.tuple #[]) w) := by
  have hmx : Tryz.prog.follows .mixedOrders = true := by kernel_rfl
  have hM := Sep.begin h
  have HT := Lib.hid ht
  clear ht
  clear h
  replace hM : Sep w (Res.join (CHR B c v pv q bs)).foot [.blk B 71 (lgc true c.st v pv (c.ev.length : Int) q), .own lkc 91 3 (v) (c.st.lk), .own (fun t => txc t) 44 25 (pv) (c.po), .evs q bs c.ev] w := hM
  go_enter Tryz.func15, Tryz.ntmps15
  go_upto_region 0 with fail
  refine wp_region_fromM (fun W => Sep w (Res.join (CHR B c v pv q bs)).foot [.blk B 71 (lgc true c.st v pv (c.ev.length : Int) q), .own lkc 91 3 (v) (c.st.lk), .own (fun t => txc t) 44 25 (pv) (c.po), .evs q bs c.ev] W) hM ?_
  clear hM
  rintro Y1 hM
  refine tF 1 [.val 0 (some 4) (pt B 0)] trivial ?_
  refine cF (some 5) 31 #[pt B 0] ((there_yes _ (hM.at 0 rfl)).mono ?_)
  rintro e W1 ⟨rfl, rfl⟩
  refine dF ?_
  try simp only [puts, Tk.put, Act.put, List.setIfInBounds_toArray, List.set_cons_zero, List.set_cons_succ]
  go_upto_region 1 with fail
  refine wp_region_fromM (fun W => Sep w (Res.join (CHR B c v pv q bs)).foot [.blk B 71 (lgc true c.st v pv (c.ev.length : Int) q), .own lkc 91 3 (v) (c.st.lk), .own (fun t => txc t) 44 25 (pv) (c.po), .evs q bs c.ev] W) hM ?_
  clear hM
  rintro Y2 hM
  refine tF 6 [.val 0 (some 6) (pt B 0), .val 1 (some 7) (pt B 0), .val 2 (some 8) (pt B 0), .val 3 (some 9) (pt B 1), .load 4 (some 10) 35 (pt B 1) (stv c.st v), .val 5 (some 11) (.int .i64 n)] ⟨ld_chst (hM.at 0 rfl), trivial⟩ ?_
  refine cF (some 12) 16 #[stv c.st v, .int .i64 n] ((esc_rise_any c.st v n _ HT.out ((hM.oka 1 rfl).rsl lkc_len) (Nat.le_refl _) hr).mono ?_)
  rintro e W1 ⟨v', rfl, hO, hb⟩
  replace hM := hM.row (f := lkc) hO hb
  clear hb hO
  refine tF 9 [.val 7 (some 13) (pt B 0), .val 8 (some 14) (pt B 1)] trivial ?_
  have hv1 := (hM.oka 0 rfl).one lkc_len
  refine sF 35 (pt B 1) (stv (riseP c.st n) v') (sto_chst (hM.at 1 rfl) (riseP c.st n) hv1) ?_
  replace hM := hM.set 1 (cs' := lgc true (riseP c.st n) v' pv (c.ev.length : Int) q) rfl rfl
  generalize World.setRow _ _ _ = Y3 at *
  refine dF ?_
  try simp only [puts, Tk.put, Act.put, List.setIfInBounds_toArray, List.set_cons_zero, List.set_cons_succ]
  have hM2 : RTurn (.join (CHR B c v pv q bs)) (.join (CHR B (riseC c n) v' pv q bs)) _ _ := Sep.fin (hM.pick [1, 0, 3, 4] (by decide) rfl) (List.Sublist.refl _)
  go_wp2_with fail
  go_end0
  exact ⟨rfl, v', pv, q, bs, hM2⟩
set_option maxRecDepth 100000 in
set_option maxHeartbeats 4000000 in
theorem chnRise_no {p : Value} (n : Int) (w : World) (h : NoC w p) : Calls Tryz.prog 15 #[p, .int .i64 n] w fun e W' => e = .returned (.tuple #[]) ∧ Below w.heap.size w W' := by
  have HN := Lib.hid h
  clear h
  go_enter Tryz.func15, Tryz.ntmps15
  go_wp2_with (go_at_call 31; refine (there_no _ HN.out).mono ?_; rintro e w' ⟨rfl, rfl⟩)
  go_end0
  exact ⟨rfl, Below.refl _ _⟩
end Go.Proofs.YtfoemkmoambagaaGreat
