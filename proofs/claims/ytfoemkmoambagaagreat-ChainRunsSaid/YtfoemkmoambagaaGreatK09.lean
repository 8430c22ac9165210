/-
  Locks of the call's own: kept, one more, one that is ended; how a part ends that turns them; escrow: a lock is prepared; escrow: a lock is paid out; it is given back
-/
import Derived.Test.YtfoemkmoambagaaGreatK08
namespace Go.Proofs.YtfoemkmoambagaaGreat
open Go.RowKit Go.Shelf
abbrev OwnL (b0 : Nat) (W : World) (v : Value) (l : List Lk) : Prop := W.ownsRow b0 91 3 v l.length (flatR lkc l)
theorem OwnL.rsl {b0 : Nat} {W : World} {v : Value} {l : List Lk} (h : OwnL b0 W v l) : RSl lkc b0 W.heap.size W v l := RSl.of_own lkc_len h
theorem OwnL.grown {b0 B : Nat} {w W : World} {v : Value} {l : List Lk} (h : OwnL b0 w v l) (hB : B < b0) (hg : w.grownBy W (some B)) : OwnL b0 W v l := by
  refine h.kept hg ?_
  cases hv : v.ownBlock with
  | none => exact .inl rfl
  | some k =>
    refine .inr fun e => ?_
    cases e
    have := (h.lt _ hv).1
    omega
theorem OwnL.one {b0 : Nat} {W : World} {v : Value} {l : List Lk} (h : OwnL b0 W v l) : v.oneCell' = true ∧ v.cells.toList = [v] := by
  rcases h.2 with ⟨rfl, _⟩ | ⟨g, cap, cur, rfl, _⟩ <;> exact ⟨rfl, rfl⟩
def Turn (b0 B : Nat) (w W : World) : Prop := W.os = w.os ∧ W.tape = w.tape ∧ W.output = w.output ∧ w.heap.size ≤ W.heap.size ∧ ∀ k, k < b0 → k ≠ B → W.heap[k]? = w.heap[k]?
theorem Turn.of {b0 B : Nat} {w W : World} (h : w.grownBy W (some B)) (hb : b0 ≤ w.heap.size) : Turn b0 B w W :=
  ⟨h.os, h.tape, h.output, h.size, fun k hk hne => h.block k (Nat.lt_of_lt_of_le hk hb) (fun e => hne (Option.some.inj e))⟩
theorem Turn.trans {b0 B : Nat} {w W W' : World} (h : Turn b0 B w W) (h' : Turn b0 B W W') : Turn b0 B w W' :=
  ⟨h'.1.trans h.1, h'.2.1.trans h.2.1, h'.2.2.1.trans h.2.2.1, Nat.le_trans h.2.2.2.1 h'.2.2.2.1, fun k hk hne => (h'.2.2.2.2 k hk hne).trans (h.2.2.2.2 k hk hne)⟩
theorem Turn.own {b0 B : Nat} {w W : World} {row : Option Nat} (h : w.grownBy W row) (hb : b0 ≤ w.heap.size) (hr : ∀ k, row = some k → b0 ≤ k) : Turn b0 B w W :=
  ⟨h.os, h.tape, h.output, h.size, fun k hk _ => h.block k (Nat.lt_of_lt_of_le hk hb) (fun e => by have := hr k e.symm; omega)⟩
theorem Turn.blk {b0 B k : Nat} {w W : World} {T : TypeId} {vs : List Value} (h : Turn b0 B w W) (hk : k < b0) (hne : k ≠ B) (hB : Blk w k T vs) : Blk W k T vs := (h.2.2.2.2 k hk hne).trans hB
def EndL (w : World) (B b0 : Nat) (p : Es × Int) (e : Ending) (W' : World) : Prop :=
  Turn b0 B w W' ∧ ((p.2 = 0 ∧ e = .returned (.tuple #[]) ∧ ∃ v', Blk W' B 35 (stc p.1 v') ∧ OwnL b0 W' v' p.1.lk) ∨ (p.2 ≠ 0 ∧ Pan p.2 e ∧ BlkN W' B))
theorem EndL.two {w W : World} {B b0 : Nat} {p : Es × Int} {e : Ending} (h : EndL w B b0 p e W) : (p.2 = 0 ∧ e = .returned (.tuple #[]) ∧ Turn b0 B w W ∧ ∃ v', Blk W B 35 (stc p.1 v') ∧ OwnL b0 W v' p.1.lk) ∨ (p.2 ≠ 0 ∧ e = .panicked [{ v := .iface 103 (.int .i64 p.2), recovered := false }] ∧ Turn b0 B w W ∧ BlkN W B) := by
  rcases h.2 with ⟨h0, he, hB⟩ | ⟨h0, he, hB⟩
  · exact .inl ⟨h0, he, h.1, hB⟩
  · exact .inr ⟨h0, he, h.1, hB⟩
theorem EndL.pan {w W : World} {B b0 : Nat} {p : Es × Int} {e : Ending} {c : Int} (hg : w.grownBy W (some B)) (hb : b0 ≤ w.heap.size) (hc : c ≠ 0) (hp : p.2 = c) (he : Pan c e) (hB : BlkN W B) : EndL w B b0 p e W := ⟨Turn.of hg hb, .inr ⟨by rw [hp]; exact hc, by rw [hp]; exact he, hB⟩⟩
theorem EndL.of {w w0 W : World} {B b0 : Nat} {v : Value} {p q : Es × Int} {e : Ending} (hg : w.grownBy w0 (some B)) (hb : b0 ≤ w.heap.size) (hB : B < b0) (ho : OwnL b0 w v p.1.lk) (h : EndE w0 B v q e W) (hp : p = q) : EndL w B b0 p e W := by
  subst hp
  have hg' := grownBy_trans hg h.1
  refine ⟨Turn.of hg' hb, ?_⟩
  rcases h.2 with ⟨h0, he, h1⟩ | ⟨h0, he, h1⟩
  · exact .inl ⟨h0, he, v, h1, ho.grown hB hg'⟩
  · exact .inr ⟨h0, he, h1⟩
theorem EndL.fail {w w0 W : World} {B b0 : Nat} {v : Value} {p q : Es × Int} {e : Ending} (hg : w.grownBy w0 (some B)) (hb : b0 ≤ w.heap.size) (h : EndE w0 B v q e W) (hq : q.2 ≠ 0) (hp : p.2 = q.2) : EndL w B b0 p e W := by
  have hg' := grownBy_trans hg h.1
  refine ⟨Turn.of hg' hb, .inr ?_⟩
  rw [hp]
  rcases h.2 with ⟨h0, _⟩ | h2
  · exact absurd h0 hq
  · exact h2
theorem own_append {b0 : Nat} {W : World} {v : Value} {l : List Lk} (h : OwnL b0 W v l) (hb : b0 ≤ W.heap.size) (x : Lk) {N : Nat} {T : TypeId} (hN : Blk W N T (lkc x)) (hr : (l.length + 1) * 40 ≤ 140737488355328) (ty : TypeId) :
    ∃ v' W', (Builtin.append_ #[33, 33] ty #[v, .slice (some ⟨N, 0, none⟩) 1 1]).run Tryz.prog W = .ok v' W' ∧ OwnL b0 W' v' (l ++ [x]) ∧ W.grownBy W' v.ownBlock := by
  have hi0 : (Tryz.prog.info? 91).map (fun i => (i.zero, i.size, i.bytes)) = some (some (.agg #[.string ⟨#[]⟩, .string ⟨#[]⟩, .int .i64 0]), 3, 40) := by kernel_rfl
  obtain ⟨i0, hi, hz0, hz1, hz2⟩ := info_parts hi0
  obtain ⟨v', W', hrun, h1, h2, _⟩ := run_append_own (P := Tryz.prog) W b0 33 ty 91 i0 _ 3 40 Tryz.underlying33 hi hz0 hz1 hz2 rfl (by decide) v l.length (flatR lkc l) h ⟨N, 0, none⟩ 1 1 (lkc x) rfl
    (fun j u hu => by rw [addr_add, Nat.zero_add]; exact (hN.cell j).trans hu) (by unfold lkc; simp [Value.oneCell']) (by unfold maxLen; omega) hr hb
  refine ⟨v', W', hrun, ?_, h2⟩
  unfold OwnL
  rw [List.length_append, flat_app, flat_one]
  exact h1
theorem own_end {b0 : Nat} {W : World} {v : Value} {l : List Lk} (h : OwnL b0 W v l) {i : Nat} {x : Lk} (hx : l[i]? = some x) (st : Int) :
    ∃ g o W', (∀ W', (Instr.indexAt 33 v (.int .i64 (i : Int))).run Tryz.prog W' = .ok (.pointer (some ⟨g, o, none⟩)) W') ∧ (Instr.storeAt 3 (.pointer (some ⟨g, o + 2, none⟩)) (.int .i64 st)).run Tryz.prog W = .ok () W' ∧ b0 ≤ g ∧ W.grownBy W' (some g) ∧ OwnL b0 W' v (endE l i st) := by
  have hk : i < l.length := (List.getElem?_eq_some_iff.1 hx).1
  obtain ⟨hlen, ⟨_, h0⟩ | ⟨g, cap, cur, rfl, hg, hc, hn, hm, hsz, ht⟩⟩ := h
  · omega
  · have hB : Blk W g 91 cur.toList := hc
    have hlc : i * 3 + 2 < cur.toList.length := by rw [Array.length_toList, hsz]; omega
    have hset := laid_one cur.toList (i * 3 + 2) (.int .i64 st) hlc
    refine ⟨g, i * 3, W.setRow g (cur.toList.set (i * 3 + 2) (.int .i64 st)).toArray, fun W' => ?_, sto_part _ hB (i * 3 + 2) _ _ [.int .i64 st] rfl (by kernel_rfl) (Nat.succ_le_of_lt hlc) rfl hset, hg, grownBy_row W g _, ?_⟩
    · have := idx_sl (W := W') (b := g) (off := 0) (len := l.length) (cap := cap) (c := 3) Tryz.underlying33 (by kernel_rfl) hk
      rw [Nat.zero_add] at this
      exact this
    · have hB' := hB.row (cur.toList.set (i * 3 + 2) (.int .i64 st))
      have hfs := flat_set lkc_len (v := .int .i64 st) (y := { x with st := st }) hx (show 2 < 3 by decide) rfl
      unfold OwnL
      rw [end_len, end_at hx, ← hfs, ← ht]
      refine ⟨by rw [List.length_set, ht, hlen], .inr ⟨g, cap, (cur.toList.set (i * 3 + 2) (.int .i64 st)).toArray, rfl, hg, hB', hn, hm, by simp [hsz], ?_⟩⟩
      rw [List.toList_toArray, List.take_set]
end Go.Proofs.YtfoemkmoambagaaGreat
namespace Go.Proofs.YtfoemkmoambagaaGreat
open Go.RowKit Go.Shelf
theorem growE_ok {s : Es} {a n : Nat} (h : (growE s a n).2 = 0) : (growE s a n).1 = { s with he := updB s.he a (s.he a + n) } := by
  unfold growE at h ⊢
  by_cases e : s.he a + n < M4
  · rw [if_pos e]
  · rw [if_neg e] at h; exact absurd h (show ¬ (38 : Int) = 0 by decide)
theorem shrinkE_ok {s : Es} {a n : Nat} (h : (shrinkE s a n).2 = 0) : (shrinkE s a n).1 = { s with he := updB s.he a (s.he a - n) } := by
  unfold shrinkE at h ⊢
  by_cases e : n ≤ s.he a
  · rw [if_pos e]
  · rw [if_neg e] at h; exact absurd h (show ¬ (38 : Int) = 0 by decide)
theorem receives_yes {s : Es} (h : s.sd > 0) (v : Value) {B : Nat} (w : World) (hB : Blk w B 35 (stc s v)) : Calls Tryz.prog 85 #[.pointer (some ⟨B, 0, none⟩)] w fun e W' => e = .returned (.bool true) ∧ W' = w := by
  have := receives_any s v w hB
  rw [decide_eq_true h] at this; exact this
theorem receives_not {s : Es} (h : ¬ s.sd > 0) (v : Value) {B : Nat} (w : World) (hB : Blk w B 35 (stc s v)) : Calls Tryz.prog 85 #[.pointer (some ⟨B, 0, none⟩)] w fun e W' => e = .returned (.bool false) ∧ W' = w := by
  have := receives_any s v w hB
  rw [decide_eq_false h] at this; exact this
def prepP (s : Es) (t : Tr) : Es × Int :=
  if (placeE s.lk (keyB t.iv)).isSome then (s, 32) else if ¬ (t.vr.x > s.tm ∧ t.vr.x ≤ s.tm + 1024) then (s, 34)
  else if s.sd > 0 then
    (if t.fr ≠ t.iv.ro then (s, 37) else if (unvE s t.iv.ro t.iv.re (amV t)).2 ≠ 0 then (s, (unvE s t.iv.ro t.iv.re (amV t)).2) else ({ s with va := (takeB s.va t.iv.ro t.iv.re (amV t)).1, lk := s.lk ++ [⟨keyB t.iv, digB t.iv t.vr, 1⟩] }, 0))
  else
    (if t.fr ≠ t.iv.us then (s, 37) else if (takeB s.pu t.iv.us t.iv.se (amV t)).2 ≠ 0 then (s, (takeB s.pu t.iv.us t.iv.se (amV t)).2) else if (growE { s with pu := (takeB s.pu t.iv.us t.iv.se (amV t)).1 } t.iv.se.toNat (amV t)).2 ≠ 0 then (s, (growE { s with pu := (takeB s.pu t.iv.us t.iv.se (amV t)).1 } t.iv.se.toNat (amV t)).2)
     else ({ s with pu := (takeB s.pu t.iv.us t.iv.se (amV t)).1, he := updB s.he t.iv.se.toNat (s.he t.iv.se.toNat + amV t), lk := s.lk ++ [⟨keyB t.iv, digB t.iv t.vr, 1⟩] }, 0))
set_option maxRecDepth 100000 in
set_option maxHeartbeats 4000000 in
theorem prepare_any (s : Es) (v : Value) (hs : OkE s) (t : Tr) (ht : OkT t) (hz : 0 ≤ t.iv.se ∧ t.iv.se ≤ 1) {B b0 : Nat} (w : World) (hBb : B < b0) (hb0 : b0 ≤ w.heap.size) (hB : Blk w B 35 (stc s v)) (ho : OwnL b0 w v s.lk) (hr : (s.lk.length + 1) * 40 ≤ 140737488355328) :
    Calls Tryz.prog 64 #[.pointer (some ⟨B, 0, none⟩), txv t] w (EndL w B b0 (prepP s t)) := by
  have hmx : Tryz.prog.follows .mixedOrders = true := by kernel_rfl
  have hM := (Mem.startB hB).allocN rfl 44 (txc t)
  have hn : amV t < M4 := val_lt ht.v
  have HA := Lib.hid (fun W => bookTake_any s.pu hs.p t.iv.us t.iv.se (amV t) hn W)
  have HH := Lib.hid (okE_he hs hz.1 hz.2)
  have HT := Lib.hid (And.intro hs.t0 hs.t1)
  have HO := Lib.hid ho
  clear hB ho
  go_enter Tryz.func64, Tryz.ntmps64
  go_upto_region 1 with fail
  refine wp_region_fromM (fun W => Mem w (some B) [(w.heap.size, 44, txc t), (B, 35, stc s v)] W) hM ?_
  clear hM
  rintro Y1 hM
  refine tF 2 [.val 0 (some 5) (pt w.heap.size 8), .load 1 (some 6) 40 (pt w.heap.size 8) (ivv t.iv)] ⟨ld_iv (hM.at 0 rfl), trivial⟩ ?_
  refine cF (some 7) 24 #[ivv t.iv] ((key_any _ _).mono ?_)
  rintro e W1 ⟨rfl, hb⟩
  replace hM := hM.below hb
  clear hb
  refine tF 4 [.val 3 (some 4) (.string (keyB t.iv))] trivial ?_
  refine dF ?_
  try simp only [puts, Tk.put, Act.put, List.setIfInBounds_toArray, List.set_cons_zero, List.set_cons_succ]
  go_upto_region 2 with fail
  refine wp_region_fromM (fun W => Mem w (some B) [(w.heap.size, 44, txc t), (B, 35, stc s v)] W) hM ?_
  clear hM
  rintro Y2 hM
  refine tF 2 [.val 0 (some 8) (pt B 0), .val 1 (some 9) (.string (keyB t.iv))] trivial ?_
  refine cF (some 10) 84 #[pt B 0, .string (keyB t.iv)] ((find_any s v (keyB t.iv) _ (hM.at 1 rfl) (HO.out.grown hBb hM.g).rsl).mono ?_)
  rintro e W1 ⟨rfl, hb⟩
  replace hM := hM.below hb
  clear hb
  refine tF 4 [.val 3 (some 11) (.bool (decide (placeI s.lk (keyB t.iv) < 0)))] trivial ?_
  refine cF (some 12) 57 #[.bool (decide (placeI s.lk (keyB t.iv) < 0)), .int .i64 32] ((demand_any _ _ _).mono ?_)
  rintro e W1 (⟨h, rfl, rfl⟩ | ⟨h, rfl, rfl⟩)
  case inr =>
    have h := of_decide_eq_false h
    have hn : (placeE s.lk (keyB t.iv)).isSome = true := by
      cases hp : placeE s.lk (keyB t.iv) with
      | none => rw [placeI_none hp] at h; omega
      | some i => rfl
    exact And.intro rfl (EndL.pan hM.g hb0 (by decide) (by unfold prepP; rw [if_pos hn]) rfl (BlkN.of (hM.at 1 rfl)))
  have h := of_decide_eq_true h
  have h1 : Hid (¬ (placeE s.lk (keyB t.iv)).isSome = true) := Lib.hid (by
    cases hp : placeE s.lk (keyB t.iv) with
    | none => exact fun e => by cases e
    | some i => rw [placeI_some hp] at h; omega)
  clear h
  refine dF ?_
  try simp only [puts, Tk.put, Act.put, List.setIfInBounds_toArray, List.set_cons_zero, List.set_cons_succ]
  by_cases hx : t.vr.x > s.tm
  case neg =>
    go_upto_region 3 with fail
    refine wp_region_M (fun W => Mem w (some B) [(w.heap.size, 44, txc t), (B, 35, stc s v)] W) (fun W => Mem w (some B) [(w.heap.size, 44, txc t), (B, 35, stc s v)] W) hmx hM.drew ?_
    clear hM
    rintro Y3 hM
    have hS := hM.sub (.cons_cons _ (.cons_cons _ .slnil))
    refine tD 1 [.val 0 (some 13) (pt w.heap.size 15), .val 1 (some 14) (pt w.heap.size 19), .load 2 (some 15) 3 (pt w.heap.size 19) (.int .i64 t.vr.x), .val 3 (some 16) (pt B 0), .val 4 (some 17) (pt B 0), .val 5 (some 18) (pt B 1), .load 6 (some 19) 3 (pt B 1) (.int .i64 s.tm), .alt 7 (some 20) (.bool (decide (t.vr.x > s.tm))) (.bool false), .val 8 (some 21) (.bool false), .skip 9 (some 22), .skip 10 (some 23), .skip 11 (some 24), .skip 12 (some 25), .skip 13 (some 26), .skip 14 (some 27), .skip 15 (some 28), .skip 16 (some 29), .skip 17 (some 30), .val 18 (some 31) (.bool false)] ⟨fun W h => ld_int (h.at 0 rfl) 19 rfl, fun W h => ld_int (h.at 1 rfl) 1 rfl, congrArg Value.bool (decide_eq_false hx), trivial⟩ hS ?_
    refine oD 19 0 (cD (some 32) 57 #[.bool false, .int .i64 34] ((demand_any _ _ _).mono ?_))
    rintro e W1 (⟨h, rfl, rfl⟩ | ⟨h, rfl, rfl⟩)
    case inl => exact absurd h (by decide)
    exact And.intro rfl (EndL.pan hM.g hb0 (by decide) (by unfold prepP; rw [if_neg h1.out, if_pos (fun e => hx e.1)]) rfl (BlkN.of (hM.at 1 rfl)))
  go_upto_region 3 with fail
  refine wp_region_M (fun W => Mem w (some B) [(w.heap.size, 44, txc t), (B, 35, stc s v)] W) (fun W => Mem w (some B) [(w.heap.size, 44, txc t), (B, 35, stc s v)] W) hmx hM.drew ?_
  clear hM
  rintro Y4 hM
  have hS := hM.sub (.cons_cons _ (.cons_cons _ .slnil))
  refine tD 1 [.val 0 (some 13) (pt w.heap.size 15), .val 1 (some 14) (pt w.heap.size 19), .load 2 (some 15) 3 (pt w.heap.size 19) (.int .i64 t.vr.x), .val 3 (some 16) (pt B 0), .val 4 (some 17) (pt B 0), .val 5 (some 18) (pt B 1), .load 6 (some 19) 3 (pt B 1) (.int .i64 s.tm), .alt 7 (some 20) (.bool (decide (t.vr.x > s.tm))) (.bool true), .val 8 (some 21) (.bool true), .val 9 (some 22) (pt w.heap.size 15), .val 10 (some 23) (pt w.heap.size 19), .load 11 (some 24) 3 (pt w.heap.size 19) (.int .i64 t.vr.x), .val 12 (some 25) (pt B 0), .val 13 (some 26) (pt B 0), .val 14 (some 27) (pt B 1), .load 15 (some 28) 3 (pt B 1) (.int .i64 s.tm), .alt 16 (some 29) (.int .i64 (IntKind.i64.wrap (s.tm + 1024))) (.int .i64 (s.tm + 1024)), .val 17 (some 30) (.bool (decide (t.vr.x ≤ s.tm + 1024))), .val 18 (some 31) (.bool (decide (t.vr.x ≤ s.tm + 1024)))] ⟨fun W h => ld_int (h.at 0 rfl) 19 rfl, fun W h => ld_int (h.at 1 rfl) 1 rfl, congrArg Value.bool (decide_eq_true hx), fun W h => ld_int (h.at 0 rfl) 19 rfl, fun W h => ld_int (h.at 1 rfl) 1 rfl, congrArg (Value.int .i64) (IntWalk.i64_in _ (by have := HT.out; omega)), trivial⟩ hS ?_
  refine oD 19 0 (cD (some 32) 57 #[.bool (decide (t.vr.x ≤ s.tm + 1024)), .int .i64 34] ((demand_any _ _ _).mono ?_))
  rintro e W1 (⟨h, rfl, rfl⟩ | ⟨h, rfl, rfl⟩)
  case inr => exact And.intro rfl (EndL.pan hM.g hb0 (by decide) (by unfold prepP; rw [if_neg h1.out, if_pos (fun e => absurd e.2 (of_decide_eq_false h))]) rfl (BlkN.of (hM.at 1 rfl)))
  refine And.intro hS ?_
  have h2 := Lib.hid (not_not_intro (And.intro hx (of_decide_eq_true h)))
  clear h hx
  refine dD ?_
  try simp only [puts, Tk.put, Act.put, List.setIfInBounds_toArray, List.set_cons_zero, List.set_cons_succ]
  clear hS
  by_cases hsd : s.sd > 0
  case pos =>
    have hs0 : Hid ((s.sd > 0)) := Lib.hid (by omega)
    clear hsd
    go_upto_region 4 with fail
    refine wp_region_fromM (fun W => Mem w (some B) [(w.heap.size, 44, txc t), (B, 35, stc s v)] W) hM ?_
    clear hM
    rintro Y5 hM
    refine tF 1 [.val 0 (some 33) (pt B 0)] trivial ?_
    refine cF (some 34) 85 #[pt B 0] ((receives_yes hs0.out v _ (hM.at 1 rfl)).mono ?_)
    rintro e W1 ⟨rfl, rfl⟩
    refine dF ?_
    try simp only [puts, Tk.put, Act.put, List.setIfInBounds_toArray, List.set_cons_zero, List.set_cons_succ]
    go_upto_region 5 with fail
    refine wp_region_fromM (fun W => Mem w (some B) [(w.heap.size, 44, txc t), (B, 35, stc s v)] W) hM ?_
    clear hM
    rintro Y6 hM
    refine tF 6 [.val 0 (some 35) (pt w.heap.size 0), .load 1 (some 36) 3 (pt w.heap.size 0) (.int .i64 t.fr), .val 2 (some 37) (pt w.heap.size 8), .val 3 (some 38) (pt w.heap.size 10), .load 4 (some 39) 3 (pt w.heap.size 10) (.int .i64 t.iv.ro), .val 5 (some 40) (.bool (t.fr == t.iv.ro))] ⟨ld_int (hM.at 0 rfl) 0 rfl, ld_int (hM.at 0 rfl) 10 rfl, trivial⟩ ?_
    refine cF (some 41) 57 #[.bool (t.fr == t.iv.ro), .int .i64 37] ((demand_any _ _ _).mono ?_)
    rintro e W1 (⟨h, rfl, rfl⟩ | ⟨h, rfl, rfl⟩)
    case inr => exact And.intro rfl (EndL.pan hM.g hb0 (by decide) (by unfold prepP; rw [if_neg h1.out, if_neg h2.out, if_pos hs0.out, if_pos (ne_of_beq_false h)]) rfl (BlkN.of (hM.at 1 rfl)))
    have h3 := Lib.hid (not_not_intro (eq_of_beq h))
    clear h
    refine dF ?_
    try simp only [puts, Tk.put, Act.put, List.setIfInBounds_toArray, List.set_cons_zero, List.set_cons_succ]
    go_upto_region 6 with fail
    refine wp_region_fromM (fun W => Mem w (some B) [(w.heap.size, 44, txc t), (B, 35, stc s v)] W) hM ?_
    clear hM
    rintro Y7 hM
    refine tF 10 [.val 0 (some 42) (pt B 0), .val 1 (some 43) (pt w.heap.size 8), .val 2 (some 44) (pt w.heap.size 10), .load 3 (some 45) 3 (pt w.heap.size 10) (.int .i64 t.iv.ro), .val 4 (some 46) (pt w.heap.size 8), .val 5 (some 47) (pt w.heap.size 12), .load 6 (some 48) 3 (pt w.heap.size 12) (.int .i64 t.iv.re), .val 7 (some 49) (pt w.heap.size 15), .val 8 (some 50) (pt w.heap.size 15), .load 9 (some 51) 28 (pt w.heap.size 15) (wn (amV t))] ⟨ld_int (hM.at 0 rfl) 10 rfl, ld_int (hM.at 0 rfl) 12 rfl, ld_av (hM.at 0 rfl) ht, trivial⟩ ?_
    refine cF (some 52) 82 #[pt B 0, .int .i64 t.iv.ro, .int .i64 t.iv.re, wn (amV t)] ((unvault_any s v hs.v _ _ hn _ (hM.at 1 rfl)).mono ?_)
    rintro e W1 h
    rcases h.two with ⟨h0, rfl, hg, hN⟩ | ⟨h0, rfl, _⟩
    case inr => exact And.intro rfl (EndL.fail hM.g hb0 h h0 (by unfold prepP; rw [if_neg h1.out, if_neg h2.out, if_pos hs0.out, if_neg h3.out, if_pos h0]))
    rw [unvE_ok h0] at hN
    replace hM := hM.call 1 rfl rfl hg hN
    have h4 := Lib.hid (not_not_intro h0)
    clear h h0 hg hN
    refine dF ?_
    try simp only [puts, Tk.put, Act.put, List.setIfInBounds_toArray, List.set_cons_zero, List.set_cons_succ]
    go_upto_region 10 with fail
    refine wp_region_M (fun W => Blk W w.heap.size 44 (txc t)) (fun W => Mem w (some B) [(w.heap.size, 44, txc t), (B, 35, stc { s with va := (takeB s.va t.iv.ro t.iv.re (amV t)).1 } v)] W) hmx hM.drew ?_
    clear hM
    rintro Y8 hM
    have hS := hM.at 0 rfl
    refine tD 8 [.val 0 (some 88) (pt B 0), .val 1 (some 89) (pt B 0), .val 2 (some 90) (pt B 0), .val 3 (some 91) (pt B 150), .val 5 (some 93) (.string (keyB t.iv)), .val 6 (some 94) (pt w.heap.size 8), .load 7 (some 95) 40 (pt w.heap.size 8) (ivv t.iv), .val 8 (some 96) (pt w.heap.size 15), .load 9 (some 97) 42 (pt w.heap.size 15) (svv t.vr)] ⟨fun W h => ld_iv h, fun W h => ld_vr h, trivial⟩ hS ?_
    refine oT 4 10 7 ?_ ?_
    · refine lD (some 92) 33 (pt B 150) (v) (ld_lk (s := { s with va := (takeB s.va t.iv.ro t.iv.re (amV t)).1 }) (hM.at 1 rfl)) (hS) ?_
      refine oD 10 6 (cD (some 98) 86 #[ivv t.iv, svv t.vr] ((digest_any _ _ ht.v _).mono ?_))
      rintro e Y9 ⟨rfl, hb⟩
      refine And.intro (hS.below hb hS.lt) ?_
      replace hS := hS.below hb hS.lt
      replace hM := hM.below hb
      clear hb
      refine tD 5 [.val 11 (some 99) (lkv ⟨keyB t.iv, digB t.iv t.vr, 1⟩)] trivial hS ?_
      refine oD 12 4 (rD (some 100) (.slice (some ⟨Y9.heap.size, 0, none⟩) 1 1) (Y9.alloc (.cells (lkc ⟨keyB t.iv, digB t.iv t.vr, 1⟩).toArray 91)) (hS.alloc _) ?_)
      replace hS := hS.alloc (.cells (lkc ⟨keyB t.iv, digB t.iv t.vr, 1⟩).toArray 91)
      replace hM := hM.alloc 91 (lkc ⟨keyB t.iv, digB t.iv t.vr, 1⟩)
      generalize World.alloc _ _ = Y10 at *
      generalize hNe : Y9.heap.size = N at *
      clear hNe
      have hO := HO.out.grown hBb hM.g
      obtain ⟨v', W2, hrun, hO2, hg2⟩ := own_append hO (Nat.le_trans hb0 hM.size) ⟨keyB t.iv, digB t.iv t.vr, 1⟩ (hM.at 0 rfl) hr 33
      have hlo : ∀ k, v.ownBlock = some k → b0 ≤ k ∧ k < w.heap.size := fun k hk => HO.out.lt k hk
      have hS2 : Blk W2 w.heap.size 44 (txc t) := hS.kept hg2 (fun e => by have := (hlo _ e.symm).2; omega)
      have hB2 := (hM.at 2 rfl).kept hg2 (fun e => by have := (hlo _ e.symm).1; omega)
      have hT2 := (Turn.of hM.g hb0).trans (Turn.own hg2 (Nat.le_trans hb0 hM.size) (fun k hk => (hlo k hk).1))
      refine oD 13 3 (stepH_append (d := some 101) (t := 33) (t' := 33) (ty := 33) (v := v) (x := .slice (some ⟨N, 0, none⟩) 1 1) (by kernel_rfl) hrun hS2 ?_)
      replace hS := hS2
      refine tD 1 [.val 14 (some 102) (pt B 0), .val 15 (some 103) (pt B 150)] trivial hS ?_
      have hg3 := grownBy_row W2 B (stc ({ s with va := (takeB s.va t.iv.ro t.iv.re (amV t)).1 }) v').toArray
      have hS3 := hS.kept hg3 (fun e => by have := Option.some.inj e; omega)
      refine oD 16 0 (stepH_store (ty := 33) (p := .pointer (some ⟨B, 150, none⟩)) (v := v') (by kernel_rfl) (sto_lk hB2 hO2.one.1 hO2.one.2) hS3 ?_)
      replace hS := hS3
      refine dD ?_
      try simp only [puts, Tk.put, Act.put, List.setIfInBounds_toArray, List.set_cons_zero, List.set_cons_succ]
      clear hS
      have fin : EndL w B b0 (prepP s t) (.returned (.tuple #[])) (W2.setRow B (stc ({ s with va := (takeB s.va t.iv.ro t.iv.re (amV t)).1 }) v').toArray) := ⟨hT2.trans (Turn.of hg3 (Nat.le_trans hb0 hT2.2.2.2.1)), .inl ⟨by unfold prepP; rw [if_neg h1.out, if_neg h2.out, if_pos hs0.out, if_neg h3.out, if_neg h4.out], rfl, v', by unfold prepP; rw [if_neg h1.out, if_neg h2.out, if_pos hs0.out, if_neg h3.out, if_neg h4.out]; exact hB2.row _, by unfold prepP; rw [if_neg h1.out, if_neg h2.out, if_pos hs0.out, if_neg h3.out, if_neg h4.out]; exact hO2.grown hBb hg3⟩⟩
      clear hs0 h1 h2 h3 h4
      go_wp2_with fail
      go_end0
      exact fin
    · refine cD (some 98) 86 #[ivv t.iv, svv t.vr] ((digest_any _ _ ht.v _).mono ?_)
      rintro e Y11 ⟨rfl, hb⟩
      refine And.intro (hS.below hb hS.lt) ?_
      replace hS := hS.below hb hS.lt
      replace hM := hM.below hb
      clear hb
      refine tD 6 [.val 11 (some 99) (lkv ⟨keyB t.iv, digB t.iv t.vr, 1⟩)] trivial hS ?_
      refine oT 4 12 5 ?_ ?_
      · refine lD (some 92) 33 (pt B 150) (v) (ld_lk (s := { s with va := (takeB s.va t.iv.ro t.iv.re (amV t)).1 }) (hM.at 1 rfl)) (hS) ?_
        refine oD 12 4 (rD (some 100) (.slice (some ⟨Y11.heap.size, 0, none⟩) 1 1) (Y11.alloc (.cells (lkc ⟨keyB t.iv, digB t.iv t.vr, 1⟩).toArray 91)) (hS.alloc _) ?_)
        replace hS := hS.alloc (.cells (lkc ⟨keyB t.iv, digB t.iv t.vr, 1⟩).toArray 91)
        replace hM := hM.alloc 91 (lkc ⟨keyB t.iv, digB t.iv t.vr, 1⟩)
        generalize World.alloc _ _ = Y12 at *
        generalize hNe : Y11.heap.size = N at *
        clear hNe
        have hO := HO.out.grown hBb hM.g
        obtain ⟨v', W2, hrun, hO2, hg2⟩ := own_append hO (Nat.le_trans hb0 hM.size) ⟨keyB t.iv, digB t.iv t.vr, 1⟩ (hM.at 0 rfl) hr 33
        have hlo : ∀ k, v.ownBlock = some k → b0 ≤ k ∧ k < w.heap.size := fun k hk => HO.out.lt k hk
        have hS2 : Blk W2 w.heap.size 44 (txc t) := hS.kept hg2 (fun e => by have := (hlo _ e.symm).2; omega)
        have hB2 := (hM.at 2 rfl).kept hg2 (fun e => by have := (hlo _ e.symm).1; omega)
        have hT2 := (Turn.of hM.g hb0).trans (Turn.own hg2 (Nat.le_trans hb0 hM.size) (fun k hk => (hlo k hk).1))
        refine oD 13 3 (stepH_append (d := some 101) (t := 33) (t' := 33) (ty := 33) (v := v) (x := .slice (some ⟨N, 0, none⟩) 1 1) (by kernel_rfl) hrun hS2 ?_)
        replace hS := hS2
        refine tD 1 [.val 14 (some 102) (pt B 0), .val 15 (some 103) (pt B 150)] trivial hS ?_
        have hg3 := grownBy_row W2 B (stc ({ s with va := (takeB s.va t.iv.ro t.iv.re (amV t)).1 }) v').toArray
        have hS3 := hS.kept hg3 (fun e => by have := Option.some.inj e; omega)
        refine oD 16 0 (stepH_store (ty := 33) (p := .pointer (some ⟨B, 150, none⟩)) (v := v') (by kernel_rfl) (sto_lk hB2 hO2.one.1 hO2.one.2) hS3 ?_)
        replace hS := hS3
        refine dD ?_
        try simp only [puts, Tk.put, Act.put, List.setIfInBounds_toArray, List.set_cons_zero, List.set_cons_succ]
        clear hS
        have fin : EndL w B b0 (prepP s t) (.returned (.tuple #[])) (W2.setRow B (stc ({ s with va := (takeB s.va t.iv.ro t.iv.re (amV t)).1 }) v').toArray) := ⟨hT2.trans (Turn.of hg3 (Nat.le_trans hb0 hT2.2.2.2.1)), .inl ⟨by unfold prepP; rw [if_neg h1.out, if_neg h2.out, if_pos hs0.out, if_neg h3.out, if_neg h4.out], rfl, v', by unfold prepP; rw [if_neg h1.out, if_neg h2.out, if_pos hs0.out, if_neg h3.out, if_neg h4.out]; exact hB2.row _, by unfold prepP; rw [if_neg h1.out, if_neg h2.out, if_pos hs0.out, if_neg h3.out, if_neg h4.out]; exact hO2.grown hBb hg3⟩⟩
        clear hs0 h1 h2 h3 h4
        go_wp2_with fail
        go_end0
        exact fin
      · refine rD (some 100) (.slice (some ⟨Y11.heap.size, 0, none⟩) 1 1) (Y11.alloc (.cells (lkc ⟨keyB t.iv, digB t.iv t.vr, 1⟩).toArray 91)) (hS.alloc _) ?_
        replace hS := hS.alloc (.cells (lkc ⟨keyB t.iv, digB t.iv t.vr, 1⟩).toArray 91)
        replace hM := hM.alloc 91 (lkc ⟨keyB t.iv, digB t.iv t.vr, 1⟩)
        generalize World.alloc _ _ = Y13 at *
        generalize hNe : Y11.heap.size = N at *
        clear hNe
        refine oD 4 4 (lD (some 92) 33 (pt B 150) (v) (ld_lk (s := { s with va := (takeB s.va t.iv.ro t.iv.re (amV t)).1 }) (hM.at 2 rfl)) (hS) ?_)
        have hO := HO.out.grown hBb hM.g
        obtain ⟨v', W2, hrun, hO2, hg2⟩ := own_append hO (Nat.le_trans hb0 hM.size) ⟨keyB t.iv, digB t.iv t.vr, 1⟩ (hM.at 0 rfl) hr 33
        have hlo : ∀ k, v.ownBlock = some k → b0 ≤ k ∧ k < w.heap.size := fun k hk => HO.out.lt k hk
        have hS2 : Blk W2 w.heap.size 44 (txc t) := hS.kept hg2 (fun e => by have := (hlo _ e.symm).2; omega)
        have hB2 := (hM.at 2 rfl).kept hg2 (fun e => by have := (hlo _ e.symm).1; omega)
        have hT2 := (Turn.of hM.g hb0).trans (Turn.own hg2 (Nat.le_trans hb0 hM.size) (fun k hk => (hlo k hk).1))
        refine oD 13 3 (stepH_append (d := some 101) (t := 33) (t' := 33) (ty := 33) (v := v) (x := .slice (some ⟨N, 0, none⟩) 1 1) (by kernel_rfl) hrun hS2 ?_)
        replace hS := hS2
        refine tD 1 [.val 14 (some 102) (pt B 0), .val 15 (some 103) (pt B 150)] trivial hS ?_
        have hg3 := grownBy_row W2 B (stc ({ s with va := (takeB s.va t.iv.ro t.iv.re (amV t)).1 }) v').toArray
        have hS3 := hS.kept hg3 (fun e => by have := Option.some.inj e; omega)
        refine oD 16 0 (stepH_store (ty := 33) (p := .pointer (some ⟨B, 150, none⟩)) (v := v') (by kernel_rfl) (sto_lk hB2 hO2.one.1 hO2.one.2) hS3 ?_)
        replace hS := hS3
        refine dD ?_
        try simp only [puts, Tk.put, Act.put, List.setIfInBounds_toArray, List.set_cons_zero, List.set_cons_succ]
        clear hS
        have fin : EndL w B b0 (prepP s t) (.returned (.tuple #[])) (W2.setRow B (stc ({ s with va := (takeB s.va t.iv.ro t.iv.re (amV t)).1 }) v').toArray) := ⟨hT2.trans (Turn.of hg3 (Nat.le_trans hb0 hT2.2.2.2.1)), .inl ⟨by unfold prepP; rw [if_neg h1.out, if_neg h2.out, if_pos hs0.out, if_neg h3.out, if_neg h4.out], rfl, v', by unfold prepP; rw [if_neg h1.out, if_neg h2.out, if_pos hs0.out, if_neg h3.out, if_neg h4.out]; exact hB2.row _, by unfold prepP; rw [if_neg h1.out, if_neg h2.out, if_pos hs0.out, if_neg h3.out, if_neg h4.out]; exact hO2.grown hBb hg3⟩⟩
        clear hs0 h1 h2 h3 h4
        go_wp2_with fail
        go_end0
        exact fin
  have hs0 : Hid (¬ (s.sd > 0)) := Lib.hid (by omega)
  clear hsd
  go_upto_region 4 with fail
  refine wp_region_fromM (fun W => Mem w (some B) [(w.heap.size, 44, txc t), (B, 35, stc s v)] W) hM ?_
  clear hM
  rintro Y14 hM
  refine tF 1 [.val 0 (some 33) (pt B 0)] trivial ?_
  refine cF (some 34) 85 #[pt B 0] ((receives_not hs0.out v _ (hM.at 1 rfl)).mono ?_)
  rintro e W1 ⟨rfl, rfl⟩
  refine dF ?_
  try simp only [puts, Tk.put, Act.put, List.setIfInBounds_toArray, List.set_cons_zero, List.set_cons_succ]
  go_upto_region 7 with fail
  refine wp_region_fromM (fun W => Mem w (some B) [(w.heap.size, 44, txc t), (B, 35, stc s v)] W) hM ?_
  clear hM
  rintro Y15 hM
  refine tF 6 [.val 0 (some 53) (pt w.heap.size 0), .load 1 (some 54) 3 (pt w.heap.size 0) (.int .i64 t.fr), .val 2 (some 55) (pt w.heap.size 8), .val 3 (some 56) (pt w.heap.size 8), .load 4 (some 57) 3 (pt w.heap.size 8) (.int .i64 t.iv.us), .val 5 (some 58) (.bool (t.fr == t.iv.us))] ⟨ld_int (hM.at 0 rfl) 0 rfl, ld_int (hM.at 0 rfl) 8 rfl, trivial⟩ ?_
  refine cF (some 59) 57 #[.bool (t.fr == t.iv.us), .int .i64 37] ((demand_any _ _ _).mono ?_)
  rintro e W1 (⟨h, rfl, rfl⟩ | ⟨h, rfl, rfl⟩)
  case inr => exact And.intro rfl (EndL.pan hM.g hb0 (by decide) (by unfold prepP; rw [if_neg h1.out, if_neg h2.out, if_neg hs0.out, if_pos (ne_of_beq_false h)]) rfl (BlkN.of (hM.at 1 rfl)))
  have h3 := Lib.hid (not_not_intro (eq_of_beq h))
  clear h
  refine dF ?_
  try simp only [puts, Tk.put, Act.put, List.setIfInBounds_toArray, List.set_cons_zero, List.set_cons_succ]
  go_upto_region 8 with fail
  refine wp_region_M (fun W => Mem w (some B) [(w.heap.size, 44, txc t)] W) (fun W => Mem w (some B) [(w.heap.size, 44, txc t), (B, 35, stc s v)] W) hmx hM.drew ?_
  clear hM
  rintro Y16 hM
  have hS := hM.sub (.cons_cons _ (.cons _ .slnil))
  refine tD 8 [.val 0 (some 60) (pt B 0), .val 1 (some 61) (pt B 0), .val 2 (some 62) (pt B 0), .val 3 (some 63) (pt B 2), .val 5 (some 65) (pt w.heap.size 8), .val 6 (some 66) (pt w.heap.size 8), .load 7 (some 67) 3 (pt w.heap.size 8) (.int .i64 t.iv.us), .val 8 (some 68) (pt w.heap.size 8), .val 9 (some 69) (pt w.heap.size 11), .load 10 (some 70) 3 (pt w.heap.size 11) (.int .i64 t.iv.se), .val 11 (some 71) (pt w.heap.size 15), .val 12 (some 72) (pt w.heap.size 15), .load 13 (some 73) 28 (pt w.heap.size 15) (wn (amV t))] ⟨fun W h => ld_int (h.at 0 rfl) 8 rfl, fun W h => ld_int (h.at 0 rfl) 11 rfl, fun W h => ld_av (h.at 0 rfl) ht, trivial⟩ hS ?_
  refine oD 4 7 (lD (some 64) 31 (pt B 2) (bkv s.pu) (ld_pu (s := s) (hM.at 1 rfl)) (hS) ?_)
  refine oD 14 6 (cD (some 74) 58 #[bkv s.pu, .int .i64 t.iv.us, .int .i64 t.iv.se, wn (amV t)] ((HA.out _).mono ?_))
  rintro e W1 ⟨rfl, hb⟩
  refine And.intro (hS.below hb) ?_
  replace hS := hS.below hb
  replace hM := hM.below hb
  clear hb
  refine tD 4 [.val 15 (some 75) (bkv ((takeB s.pu t.iv.us t.iv.se (amV t)).1)), .val 16 (some 76) (.int .i64 ((takeB s.pu t.iv.us t.iv.se (amV t)).2))] trivial hS ?_
  refine oD 17 3 (cD (some 77) 60 #[bkv ((takeB s.pu t.iv.us t.iv.se (amV t)).1), .int .i64 ((takeB s.pu t.iv.us t.iv.se (amV t)).2)] ((must_two _ _ _).mono ?_))
  rintro e W2 (⟨hc, rfl, hb⟩ | ⟨hc, rfl, hb⟩)
  case inr =>
    replace hM := hM.below hb
    exact And.intro rfl (EndL.pan hM.g hb0 hc (by unfold prepP; rw [if_neg h1.out, if_neg h2.out, if_neg hs0.out, if_neg h3.out, if_pos hc]) rfl (BlkN.of (hM.at 1 rfl)))
  refine And.intro (hS.below hb) ?_
  replace hS := hS.below hb
  replace hM := hM.below hb
  clear hb
  refine tD 1 [.val 18 (some 78) (pt B 0), .val 19 (some 79) (pt B 2)] trivial hS ?_
  have hM1 := hM.set 1 (cs' := stc ({ s with pu := (takeB s.pu t.iv.us t.iv.se (amV t)).1 }) v) rfl rfl
  refine oD 20 0 (sD 31 (pt B 2) (bkv ((takeB s.pu t.iv.us t.iv.se (amV t)).1)) (sto_pu (hM.at 1 rfl) _) (hM1.sub (.cons_cons _ (.cons _ .slnil))) ?_)
  replace hS := hM1.sub (.cons_cons _ (.cons _ .slnil))
  replace hM := hM1
  clear hM1
  generalize World.setRow _ _ _ = Y17 at *
  refine dD ?_
  try simp only [puts, Tk.put, Act.put, List.setIfInBounds_toArray, List.set_cons_zero, List.set_cons_succ]
  clear hS
  have h4 := Lib.hid (not_not_intro hc)
  clear hc
  go_upto_region 9 with fail
  refine wp_region_fromM (fun W => Mem w (some B) [(w.heap.size, 44, txc t), (B, 35, stc ({ s with pu := (takeB s.pu t.iv.us t.iv.se (amV t)).1 }) v)] W) hM ?_
  clear hM
  rintro Y18 hM
  refine tF 7 [.val 0 (some 80) (pt B 0), .val 1 (some 81) (pt w.heap.size 8), .val 2 (some 82) (pt w.heap.size 11), .load 3 (some 83) 3 (pt w.heap.size 11) (.int .i64 t.iv.se), .val 4 (some 84) (pt w.heap.size 15), .val 5 (some 85) (pt w.heap.size 15), .load 6 (some 86) 28 (pt w.heap.size 15) (wn (amV t))] ⟨ld_int (hM.at 0 rfl) 11 rfl, ld_av (hM.at 0 rfl) ht, trivial⟩ ?_
  refine cF (some 87) 81 #[pt B 0, .int .i64 t.iv.se, wn (amV t)] ((growI_any ({ s with pu := (takeB s.pu t.iv.us t.iv.se (amV t)).1 }) _ hz HH.out hn _ (hM.at 1 rfl)).mono ?_)
  rintro e W1 h
  rcases h.two with ⟨h0, rfl, hg, hN⟩ | ⟨h0, rfl, _⟩
  case inr => exact And.intro rfl (EndL.fail hM.g hb0 h h0 (by unfold prepP; rw [if_neg h1.out, if_neg h2.out, if_neg hs0.out, if_neg h3.out, if_neg h4.out, if_pos h0]))
  rw [growE_ok h0] at hN
  replace hM := hM.call 1 (cs' := stc { s with pu := (takeB s.pu t.iv.us t.iv.se (amV t)).1, he := updB s.he t.iv.se.toNat (s.he t.iv.se.toNat + amV t) } v) rfl rfl hg hN
  have h5 := Lib.hid (not_not_intro h0)
  clear h h0 hg hN
  refine dF ?_
  try simp only [puts, Tk.put, Act.put, List.setIfInBounds_toArray, List.set_cons_zero, List.set_cons_succ]
  go_upto_region 10 with fail
  refine wp_region_M (fun W => Blk W w.heap.size 44 (txc t)) (fun W => Mem w (some B) [(w.heap.size, 44, txc t), (B, 35, stc { s with pu := (takeB s.pu t.iv.us t.iv.se (amV t)).1, he := updB s.he t.iv.se.toNat (s.he t.iv.se.toNat + amV t) } v)] W) hmx hM.drew ?_
  clear hM
  rintro Y19 hM
  have hS := hM.at 0 rfl
  refine tD 8 [.val 0 (some 88) (pt B 0), .val 1 (some 89) (pt B 0), .val 2 (some 90) (pt B 0), .val 3 (some 91) (pt B 150), .val 5 (some 93) (.string (keyB t.iv)), .val 6 (some 94) (pt w.heap.size 8), .load 7 (some 95) 40 (pt w.heap.size 8) (ivv t.iv), .val 8 (some 96) (pt w.heap.size 15), .load 9 (some 97) 42 (pt w.heap.size 15) (svv t.vr)] ⟨fun W h => ld_iv h, fun W h => ld_vr h, trivial⟩ hS ?_
  refine oT 4 10 7 ?_ ?_
  · refine lD (some 92) 33 (pt B 150) (v) (ld_lk (s := { s with pu := (takeB s.pu t.iv.us t.iv.se (amV t)).1, he := updB s.he t.iv.se.toNat (s.he t.iv.se.toNat + amV t) }) (hM.at 1 rfl)) (hS) ?_
    refine oD 10 6 (cD (some 98) 86 #[ivv t.iv, svv t.vr] ((digest_any _ _ ht.v _).mono ?_))
    rintro e Y20 ⟨rfl, hb⟩
    refine And.intro (hS.below hb hS.lt) ?_
    replace hS := hS.below hb hS.lt
    replace hM := hM.below hb
    clear hb
    refine tD 5 [.val 11 (some 99) (lkv ⟨keyB t.iv, digB t.iv t.vr, 1⟩)] trivial hS ?_
    refine oD 12 4 (rD (some 100) (.slice (some ⟨Y20.heap.size, 0, none⟩) 1 1) (Y20.alloc (.cells (lkc ⟨keyB t.iv, digB t.iv t.vr, 1⟩).toArray 91)) (hS.alloc _) ?_)
    replace hS := hS.alloc (.cells (lkc ⟨keyB t.iv, digB t.iv t.vr, 1⟩).toArray 91)
    replace hM := hM.alloc 91 (lkc ⟨keyB t.iv, digB t.iv t.vr, 1⟩)
    generalize World.alloc _ _ = Y21 at *
    generalize hNe : Y20.heap.size = N at *
    clear hNe
    have hO := HO.out.grown hBb hM.g
    obtain ⟨v', W2, hrun, hO2, hg2⟩ := own_append hO (Nat.le_trans hb0 hM.size) ⟨keyB t.iv, digB t.iv t.vr, 1⟩ (hM.at 0 rfl) hr 33
    have hlo : ∀ k, v.ownBlock = some k → b0 ≤ k ∧ k < w.heap.size := fun k hk => HO.out.lt k hk
    have hS2 : Blk W2 w.heap.size 44 (txc t) := hS.kept hg2 (fun e => by have := (hlo _ e.symm).2; omega)
    have hB2 := (hM.at 2 rfl).kept hg2 (fun e => by have := (hlo _ e.symm).1; omega)
    have hT2 := (Turn.of hM.g hb0).trans (Turn.own hg2 (Nat.le_trans hb0 hM.size) (fun k hk => (hlo k hk).1))
    refine oD 13 3 (stepH_append (d := some 101) (t := 33) (t' := 33) (ty := 33) (v := v) (x := .slice (some ⟨N, 0, none⟩) 1 1) (by kernel_rfl) hrun hS2 ?_)
    replace hS := hS2
    refine tD 1 [.val 14 (some 102) (pt B 0), .val 15 (some 103) (pt B 150)] trivial hS ?_
    have hg3 := grownBy_row W2 B (stc ({ s with pu := (takeB s.pu t.iv.us t.iv.se (amV t)).1, he := updB s.he t.iv.se.toNat (s.he t.iv.se.toNat + amV t) }) v').toArray
    have hS3 := hS.kept hg3 (fun e => by have := Option.some.inj e; omega)
    refine oD 16 0 (stepH_store (ty := 33) (p := .pointer (some ⟨B, 150, none⟩)) (v := v') (by kernel_rfl) (sto_lk hB2 hO2.one.1 hO2.one.2) hS3 ?_)
    replace hS := hS3
    refine dD ?_
    try simp only [puts, Tk.put, Act.put, List.setIfInBounds_toArray, List.set_cons_zero, List.set_cons_succ]
    clear hS
    have fin : EndL w B b0 (prepP s t) (.returned (.tuple #[])) (W2.setRow B (stc ({ s with pu := (takeB s.pu t.iv.us t.iv.se (amV t)).1, he := updB s.he t.iv.se.toNat (s.he t.iv.se.toNat + amV t) }) v').toArray) := ⟨hT2.trans (Turn.of hg3 (Nat.le_trans hb0 hT2.2.2.2.1)), .inl ⟨by unfold prepP; rw [if_neg h1.out, if_neg h2.out, if_neg hs0.out, if_neg h3.out, if_neg h4.out, if_neg h5.out], rfl, v', by unfold prepP; rw [if_neg h1.out, if_neg h2.out, if_neg hs0.out, if_neg h3.out, if_neg h4.out, if_neg h5.out]; exact hB2.row _, by unfold prepP; rw [if_neg h1.out, if_neg h2.out, if_neg hs0.out, if_neg h3.out, if_neg h4.out, if_neg h5.out]; exact hO2.grown hBb hg3⟩⟩
    clear hs0 h1 h2 h3 h4
    go_wp2_with fail
    go_end0
    exact fin
  · refine cD (some 98) 86 #[ivv t.iv, svv t.vr] ((digest_any _ _ ht.v _).mono ?_)
    rintro e Y22 ⟨rfl, hb⟩
    refine And.intro (hS.below hb hS.lt) ?_
    replace hS := hS.below hb hS.lt
    replace hM := hM.below hb
    clear hb
    refine tD 6 [.val 11 (some 99) (lkv ⟨keyB t.iv, digB t.iv t.vr, 1⟩)] trivial hS ?_
    refine oT 4 12 5 ?_ ?_
    · refine lD (some 92) 33 (pt B 150) (v) (ld_lk (s := { s with pu := (takeB s.pu t.iv.us t.iv.se (amV t)).1, he := updB s.he t.iv.se.toNat (s.he t.iv.se.toNat + amV t) }) (hM.at 1 rfl)) (hS) ?_
      refine oD 12 4 (rD (some 100) (.slice (some ⟨Y22.heap.size, 0, none⟩) 1 1) (Y22.alloc (.cells (lkc ⟨keyB t.iv, digB t.iv t.vr, 1⟩).toArray 91)) (hS.alloc _) ?_)
      replace hS := hS.alloc (.cells (lkc ⟨keyB t.iv, digB t.iv t.vr, 1⟩).toArray 91)
      replace hM := hM.alloc 91 (lkc ⟨keyB t.iv, digB t.iv t.vr, 1⟩)
      generalize World.alloc _ _ = Y23 at *
      generalize hNe : Y22.heap.size = N at *
      clear hNe
      have hO := HO.out.grown hBb hM.g
      obtain ⟨v', W2, hrun, hO2, hg2⟩ := own_append hO (Nat.le_trans hb0 hM.size) ⟨keyB t.iv, digB t.iv t.vr, 1⟩ (hM.at 0 rfl) hr 33
      have hlo : ∀ k, v.ownBlock = some k → b0 ≤ k ∧ k < w.heap.size := fun k hk => HO.out.lt k hk
      have hS2 : Blk W2 w.heap.size 44 (txc t) := hS.kept hg2 (fun e => by have := (hlo _ e.symm).2; omega)
      have hB2 := (hM.at 2 rfl).kept hg2 (fun e => by have := (hlo _ e.symm).1; omega)
      have hT2 := (Turn.of hM.g hb0).trans (Turn.own hg2 (Nat.le_trans hb0 hM.size) (fun k hk => (hlo k hk).1))
      refine oD 13 3 (stepH_append (d := some 101) (t := 33) (t' := 33) (ty := 33) (v := v) (x := .slice (some ⟨N, 0, none⟩) 1 1) (by kernel_rfl) hrun hS2 ?_)
      replace hS := hS2
      refine tD 1 [.val 14 (some 102) (pt B 0), .val 15 (some 103) (pt B 150)] trivial hS ?_
      have hg3 := grownBy_row W2 B (stc ({ s with pu := (takeB s.pu t.iv.us t.iv.se (amV t)).1, he := updB s.he t.iv.se.toNat (s.he t.iv.se.toNat + amV t) }) v').toArray
      have hS3 := hS.kept hg3 (fun e => by have := Option.some.inj e; omega)
      refine oD 16 0 (stepH_store (ty := 33) (p := .pointer (some ⟨B, 150, none⟩)) (v := v') (by kernel_rfl) (sto_lk hB2 hO2.one.1 hO2.one.2) hS3 ?_)
      replace hS := hS3
      refine dD ?_
      try simp only [puts, Tk.put, Act.put, List.setIfInBounds_toArray, List.set_cons_zero, List.set_cons_succ]
      clear hS
      have fin : EndL w B b0 (prepP s t) (.returned (.tuple #[])) (W2.setRow B (stc ({ s with pu := (takeB s.pu t.iv.us t.iv.se (amV t)).1, he := updB s.he t.iv.se.toNat (s.he t.iv.se.toNat + amV t) }) v').toArray) := ⟨hT2.trans (Turn.of hg3 (Nat.le_trans hb0 hT2.2.2.2.1)), .inl ⟨by unfold prepP; rw [if_neg h1.out, if_neg h2.out, if_neg hs0.out, if_neg h3.out, if_neg h4.out, if_neg h5.out], rfl, v', by unfold prepP; rw [if_neg h1.out, if_neg h2.out, if_neg hs0.out, if_neg h3.out, if_neg h4.out, if_neg h5.out]; exact hB2.row _, by unfold prepP; rw [if_neg h1.out, if_neg h2.out, if_neg hs0.out, if_neg h3.out, if_neg h4.out, if_neg h5.out]; exact hO2.grown hBb hg3⟩⟩
      clear hs0 h1 h2 h3 h4
      go_wp2_with fail
      go_end0
      exact fin
    · refine rD (some 100) (.slice (some ⟨Y22.heap.size, 0, none⟩) 1 1) (Y22.alloc (.cells (lkc ⟨keyB t.iv, digB t.iv t.vr, 1⟩).toArray 91)) (hS.alloc _) ?_
      replace hS := hS.alloc (.cells (lkc ⟨keyB t.iv, digB t.iv t.vr, 1⟩).toArray 91)
      replace hM := hM.alloc 91 (lkc ⟨keyB t.iv, digB t.iv t.vr, 1⟩)
      generalize World.alloc _ _ = Y24 at *
      generalize hNe : Y22.heap.size = N at *
      clear hNe
      refine oD 4 4 (lD (some 92) 33 (pt B 150) (v) (ld_lk (s := { s with pu := (takeB s.pu t.iv.us t.iv.se (amV t)).1, he := updB s.he t.iv.se.toNat (s.he t.iv.se.toNat + amV t) }) (hM.at 2 rfl)) (hS) ?_)
      have hO := HO.out.grown hBb hM.g
      obtain ⟨v', W2, hrun, hO2, hg2⟩ := own_append hO (Nat.le_trans hb0 hM.size) ⟨keyB t.iv, digB t.iv t.vr, 1⟩ (hM.at 0 rfl) hr 33
      have hlo : ∀ k, v.ownBlock = some k → b0 ≤ k ∧ k < w.heap.size := fun k hk => HO.out.lt k hk
      have hS2 : Blk W2 w.heap.size 44 (txc t) := hS.kept hg2 (fun e => by have := (hlo _ e.symm).2; omega)
      have hB2 := (hM.at 2 rfl).kept hg2 (fun e => by have := (hlo _ e.symm).1; omega)
      have hT2 := (Turn.of hM.g hb0).trans (Turn.own hg2 (Nat.le_trans hb0 hM.size) (fun k hk => (hlo k hk).1))
      refine oD 13 3 (stepH_append (d := some 101) (t := 33) (t' := 33) (ty := 33) (v := v) (x := .slice (some ⟨N, 0, none⟩) 1 1) (by kernel_rfl) hrun hS2 ?_)
      replace hS := hS2
      refine tD 1 [.val 14 (some 102) (pt B 0), .val 15 (some 103) (pt B 150)] trivial hS ?_
      have hg3 := grownBy_row W2 B (stc ({ s with pu := (takeB s.pu t.iv.us t.iv.se (amV t)).1, he := updB s.he t.iv.se.toNat (s.he t.iv.se.toNat + amV t) }) v').toArray
      have hS3 := hS.kept hg3 (fun e => by have := Option.some.inj e; omega)
      refine oD 16 0 (stepH_store (ty := 33) (p := .pointer (some ⟨B, 150, none⟩)) (v := v') (by kernel_rfl) (sto_lk hB2 hO2.one.1 hO2.one.2) hS3 ?_)
      replace hS := hS3
      refine dD ?_
      try simp only [puts, Tk.put, Act.put, List.setIfInBounds_toArray, List.set_cons_zero, List.set_cons_succ]
      clear hS
      have fin : EndL w B b0 (prepP s t) (.returned (.tuple #[])) (W2.setRow B (stc ({ s with pu := (takeB s.pu t.iv.us t.iv.se (amV t)).1, he := updB s.he t.iv.se.toNat (s.he t.iv.se.toNat + amV t) }) v').toArray) := ⟨hT2.trans (Turn.of hg3 (Nat.le_trans hb0 hT2.2.2.2.1)), .inl ⟨by unfold prepP; rw [if_neg h1.out, if_neg h2.out, if_neg hs0.out, if_neg h3.out, if_neg h4.out, if_neg h5.out], rfl, v', by unfold prepP; rw [if_neg h1.out, if_neg h2.out, if_neg hs0.out, if_neg h3.out, if_neg h4.out, if_neg h5.out]; exact hB2.row _, by unfold prepP; rw [if_neg h1.out, if_neg h2.out, if_neg hs0.out, if_neg h3.out, if_neg h4.out, if_neg h5.out]; exact hO2.grown hBb hg3⟩⟩
      clear hs0 h1 h2 h3 h4
      go_wp2_with fail
      go_end0
      exact fin
end Go.Proofs.YtfoemkmoambagaaGreat
namespace Go.Proofs.YtfoemkmoambagaaGreat
open Go.RowKit Go.Shelf
theorem open_some {s : Es} {t : Tr} (h : (openE orcB s t).2 = 0) : ∃ x : Lk, s.lk[(openE orcB s t).1]? = some x ∧ x.st = 1 := open_at h
def fulP (s : Es) (t : Tr) : Es × Int :=
  if (openE orcB s t).2 ≠ 0 then (s, (openE orcB s t).2) else if ¬ s.tm < t.vr.x then (s, 34) else if ¬ feT t ≤ amV t then (s, 36) else if ¬ signB t 1 = true then (s, 35)
  else if s.sd > 0 then
    (if (giveB s.pu t.iv.to t.iv.re (amV t - feT t)).2 ≠ 0 then (s, (giveB s.pu t.iv.to t.iv.re (amV t - feT t)).2) else if (giveB (giveB s.pu t.iv.to t.iv.re (amV t - feT t)).1 t.fr t.iv.re (feT t)).2 ≠ 0 then (s, (giveB (giveB s.pu t.iv.to t.iv.re (amV t - feT t)).1 t.fr t.iv.re (feT t)).2) else if (shrinkE { s with pu := (giveB (giveB s.pu t.iv.to t.iv.re (amV t - feT t)).1 t.fr t.iv.re (feT t)).1 } t.iv.re.toNat (amV t)).2 ≠ 0 then (s, (shrinkE { s with pu := (giveB (giveB s.pu t.iv.to t.iv.re (amV t - feT t)).1 t.fr t.iv.re (feT t)).1 } t.iv.re.toNat (amV t)).2)
     else ({ s with pu := (giveB (giveB s.pu t.iv.to t.iv.re (amV t - feT t)).1 t.fr t.iv.re (feT t)).1, he := updB s.he t.iv.re.toNat (s.he t.iv.re.toNat - amV t), lk := endE s.lk (openE orcB s t).1 2 }, 0))
  else (if (giveB s.va t.iv.ro t.iv.se (amV t)).2 ≠ 0 then (s, (giveB s.va t.iv.ro t.iv.se (amV t)).2) else ({ s with va := (giveB s.va t.iv.ro t.iv.se (amV t)).1, lk := endE s.lk (openE orcB s t).1 2 }, 0))
def canP (s : Es) (t : Tr) : Es × Int :=
  if (openE orcB s t).2 ≠ 0 then (s, (openE orcB s t).2)
  else if s.sd > 0 then
    (if s.tm < t.vr.x ∧ ¬ signB t 2 = true then (s, 35) else if (giveB s.va t.iv.ro t.iv.re (amV t)).2 ≠ 0 then (s, (giveB s.va t.iv.ro t.iv.re (amV t)).2) else ({ s with va := (giveB s.va t.iv.ro t.iv.re (amV t)).1, lk := endE s.lk (openE orcB s t).1 3 }, 0))
  else
    (if s.tm < t.vr.x ∧ ¬ t.fr = t.iv.ro then (s, 37) else if (giveB s.pu t.iv.us t.iv.se (amV t)).2 ≠ 0 then (s, (giveB s.pu t.iv.us t.iv.se (amV t)).2) else if (shrinkE { s with pu := (giveB s.pu t.iv.us t.iv.se (amV t)).1 } t.iv.se.toNat (amV t)).2 ≠ 0 then (s, (shrinkE { s with pu := (giveB s.pu t.iv.us t.iv.se (amV t)).1 } t.iv.se.toNat (amV t)).2)
     else ({ s with pu := (giveB s.pu t.iv.us t.iv.se (amV t)).1, he := updB s.he t.iv.se.toNat (s.he t.iv.se.toNat - amV t), lk := endE s.lk (openE orcB s t).1 3 }, 0))
theorem end_fin {w Y W' : World} {B b0 : Nat} {s s' : Es} {v : Value} {l : List MB} {g : Nat} {p : Es × Int} (hBb : B < b0) (hb0 : b0 ≤ w.heap.size) (hM : Mem w (some B) l Y) (hB : Blk Y B 35 (stc s v)) (hg : b0 ≤ g) (hgr : Y.grownBy W' (some g)) (hp : p = (s', 0)) (hss : ∀ u, stc s' u = stc s u) (ho : OwnL b0 W' v s'.lk) :
    EndL w B b0 p (.returned (.tuple #[])) W' := by
  subst hp
  exact ⟨(Turn.of hM.g hb0).trans (Turn.own hgr (Nat.le_trans hb0 hM.size) (fun k hk => by cases hk; exact hg)), .inl ⟨rfl, rfl, v, by rw [hss]; exact hB.kept hgr (fun e => by have := Option.some.inj e; omega), ho⟩⟩
set_option maxRecDepth 100000 in
set_option maxHeartbeats 4000000 in
theorem fulfil_any (s : Es) (v : Value) (hs : OkE s) (t : Tr) (ht : OkT t) (hz : (0 ≤ t.iv.se ∧ t.iv.se ≤ 1) ∧ 0 ≤ t.iv.re ∧ t.iv.re ≤ 1) {B b0 : Nat} (w : World) (hBb : B < b0) (hb0 : b0 ≤ w.heap.size) (hB : Blk w B 35 (stc s v)) (ho : OwnL b0 w v s.lk) :
    Calls Tryz.prog 65 #[.pointer (some ⟨B, 0, none⟩), txv t] w (EndL w B b0 (fulP s t)) := by
  have hmx : Tryz.prog.follows .mixedOrders = true := by kernel_rfl
  have hM := (Mem.startB hB).allocN rfl 44 (txc t)
  have hn : amV t < M4 := val_lt ht.v
  have hf : feT t < M4 := val_lt ht.f
  have hd : (amV t - feT t) < M4 := Nat.lt_of_le_of_lt (Nat.sub_le _ _) hn
  have HA := Lib.hid (fun W => bookGive_any s.pu hs.p t.iv.to t.iv.re (amV t - feT t) hd W)
  have HB := Lib.hid (fun W => bookGive_any (giveB s.pu t.iv.to t.iv.re (amV t - feT t)).1 (okK_give hs.p _ _ _) t.fr t.iv.re (feT t) hf W)
  have HC := Lib.hid (fun W => bookGive_any s.va hs.v t.iv.ro t.iv.se (amV t) hn W)
  have HD := Lib.hid (fun W => subN_any hn hf W)
  have HS := Lib.hid (okE_he hs hz.1.1 hz.1.2)
  have HR := Lib.hid (okE_he hs hz.2.1 hz.2.2)
  have HO := Lib.hid ho
  clear hB ho
  go_enter Tryz.func65, Tryz.ntmps65
  go_upto_region 1 with fail
  refine wp_region_fromM (fun W => Mem w (some B) [(w.heap.size, 44, txc t), (B, 35, stc s v)] W) hM ?_
  clear hM
  rintro Y1 hM
  refine tF 2 [.val 0 (some 7) (pt B 0), .load 1 (some 8) 44 (pt w.heap.size 0) (txv t)] ⟨ld_tx (hM.at 0 rfl), trivial⟩ ?_
  refine cF (some 9) 87 #[pt B 0, txv t] ((esc_open_any s v t ht _ (hM.at 1 rfl) (HO.out.grown hBb hM.g).rsl).mono ?_)
  rintro e W1 h
  rcases h.two with ⟨h0, rfl, hb⟩ | ⟨h0, rfl, hb⟩
  case inr =>
    replace hM := hM.below hb
    exact And.intro rfl (EndL.pan hM.g hb0 h0 (by unfold fulP; rw [if_pos h0]) rfl (BlkN.of (hM.at 1 rfl)))
  replace hM := hM.below hb
  obtain ⟨x, hx, _⟩ := open_some h0
  have h1 := Lib.hid (not_not_intro h0)
  have HX := Lib.hid hx
  clear h h0 hb hx
  refine tF 4 [.val 3 (some 4) (.int .i64 ((openE orcB s t).1 : Int))] trivial ?_
  refine dF ?_
  try simp only [puts, Tk.put, Act.put, List.setIfInBounds_toArray, List.set_cons_zero, List.set_cons_succ]
  go_upto_region 2 with fail
  refine wp_region_M (fun W => Mem w (some B) [(w.heap.size, 44, txc t), (B, 35, stc s v)] W) (fun W => Mem w (some B) [(w.heap.size, 44, txc t), (B, 35, stc s v)] W) hmx hM.drew ?_
  clear hM
  rintro Y2 hM
  have hS := hM.sub (.cons_cons _ (.cons_cons _ .slnil))
  refine tD 1 [.val 0 (some 10) (pt B 0), .val 1 (some 11) (pt B 0), .val 2 (some 12) (pt B 1), .load 3 (some 13) 3 (pt B 1) (.int .i64 s.tm), .val 4 (some 14) (pt w.heap.size 15), .val 5 (some 15) (pt w.heap.size 19), .load 6 (some 16) 3 (pt w.heap.size 19) (.int .i64 t.vr.x), .val 7 (some 17) (.bool (decide (s.tm < t.vr.x)))] ⟨fun W h => ld_int (h.at 1 rfl) 1 rfl, fun W h => ld_int (h.at 0 rfl) 19 rfl, trivial⟩ hS ?_
  refine oD 8 0 (cD (some 18) 57 #[.bool (decide (s.tm < t.vr.x)), .int .i64 34] ((demand_any _ _ _).mono ?_))
  rintro e W1 (⟨h, rfl, rfl⟩ | ⟨h, rfl, rfl⟩)
  case inr => exact And.intro rfl (EndL.pan hM.g hb0 (by decide) (by unfold fulP; rw [if_neg h1.out, if_pos (of_decide_eq_false h)]) rfl (BlkN.of (hM.at 1 rfl)))
  refine And.intro hS ?_
  have h2 := Lib.hid (not_not_intro (of_decide_eq_true h))
  clear h
  refine dD ?_
  try simp only [puts, Tk.put, Act.put, List.setIfInBounds_toArray, List.set_cons_zero, List.set_cons_succ]
  clear hS
  go_upto_region 3 with fail
  refine wp_region_fromM (fun W => Mem w (some B) [(w.heap.size, 44, txc t), (B, 35, stc s v)] W) hM ?_
  clear hM
  rintro Y3 hM
  refine tF 5 [.val 0 (some 20) (pt w.heap.size 15), .val 1 (some 21) (pt w.heap.size 15), .load 2 (some 22) 28 (pt w.heap.size 15) (wn (amV t)), .val 3 (some 23) (pt w.heap.size 20), .load 4 (some 24) 28 (pt w.heap.size 20) (wn (feT t))] ⟨ld_av (hM.at 0 rfl) ht, ld_fe (hM.at 0 rfl) ht, trivial⟩ ?_
  refine cF (some 25) 77 #[wn (amV t), wn (feT t)] ((HD.out _).mono ?_)
  rintro e W1 ⟨rfl, hb⟩
  replace hM := hM.below hb
  clear hb
  refine tF 9 [.val 6 (some 19) (.tuple #[wn (amV t - feT t), .bool (lessB (amV t) (feT t))]), .val 7 (some 26) (wn (amV t - feT t)), .val 8 (some 27) (.bool (lessB (amV t) (feT t)))] trivial ?_
  refine rF (some 5) (pt W1.heap.size 0) (W1.alloc (.cells (ws (nw 0)).toArray 28)) ?_
  replace hM := hM.alloc 28 (ws (nw 0))
  generalize World.alloc _ _ = Z1 at *
  generalize hNe : W1.heap.size = N at *
  clear hNe
  refine sF 28 (pt N 0) (wn (amV t - feT t)) (sto_wn (hM.at 0 rfl) _) ?_
  replace hM := hM.set 0 (cs' := ws (nw (amV t - feT t))) rfl rfl
  generalize World.setRow _ _ _ = Y4 at *
  refine tF 12 [.val 11 (some 6) (.bool (lessB (amV t) (feT t)))] trivial ?_
  refine dF ?_
  try simp only [puts, Tk.put, Act.put, List.setIfInBounds_toArray, List.set_cons_zero, List.set_cons_succ]
  go_upto_region 4 with fail
  refine wp_region_fromM (fun W => Mem w (some B) [(N, 28, ws (nw (amV t - feT t))), (w.heap.size, 44, txc t), (B, 35, stc s v)] W) hM ?_
  clear hM
  rintro Y5 hM
  refine tF 1 [.val 0 (some 28) (.bool (lessB (amV t) (feT t)))] trivial ?_
  refine cF (some 29) 57 #[.bool (lessB (amV t) (feT t)), .int .i64 36] ((demand_any _ _ _).mono ?_)
  rintro e W1 (⟨h, rfl, rfl⟩ | ⟨h, rfl, rfl⟩)
  case inr => exact And.intro rfl (EndL.pan hM.g hb0 (by decide) (by unfold fulP; rw [if_neg h1.out, if_neg h2.out, if_pos (of_decide_eq_false h)]) rfl (BlkN.of (hM.at 2 rfl)))
  have h3 := Lib.hid (not_not_intro (of_decide_eq_true h))
  clear h
  refine dF ?_
  try simp only [puts, Tk.put, Act.put, List.setIfInBounds_toArray, List.set_cons_zero, List.set_cons_succ]
  go_upto_region 5 with fail
  refine wp_region_fromM (fun W => Mem w (some B) [(N, 28, ws (nw (amV t - feT t))), (w.heap.size, 44, txc t), (B, 35, stc s v)] W) hM ?_
  clear hM
  rintro Y6 hM
  refine tF 1 [.load 0 (some 30) 44 (pt w.heap.size 0) (txv t)] ⟨ld_tx (hM.at 1 rfl), trivial⟩ ?_
  refine cF (some 31) 88 #[txv t, .int .i64 1] ((signed_any t ht 1 _).mono ?_)
  rintro e W1 ⟨rfl, hb⟩
  replace hM := hM.below hb
  clear hb
  refine cF (some 32) 57 #[.bool (signB t 1), .int .i64 35] ((demand_any _ _ _).mono ?_)
  rintro e W1 (⟨h, rfl, rfl⟩ | ⟨h, rfl, rfl⟩)
  case inr => exact And.intro rfl (EndL.pan hM.g hb0 (by decide) (by unfold fulP; rw [if_neg h1.out, if_neg h2.out, if_neg h3.out, if_pos (by rw [h]; decide)]) rfl (BlkN.of (hM.at 2 rfl)))
  have h4 := Lib.hid (not_not_intro h)
  clear h
  refine dF ?_
  try simp only [puts, Tk.put, Act.put, List.setIfInBounds_toArray, List.set_cons_zero, List.set_cons_succ]
  by_cases hsd : s.sd > 0
  case pos =>
    have hs0 : Hid (s.sd > 0) := Lib.hid (by omega)
    clear hsd
    go_upto_region 6 with fail
    refine wp_region_fromM (fun W => Mem w (some B) [(N, 28, ws (nw (amV t - feT t))), (w.heap.size, 44, txc t), (B, 35, stc s v)] W) hM ?_
    clear hM
    rintro Y7 hM
    refine tF 1 [.val 0 (some 33) (pt B 0)] trivial ?_
    refine cF (some 34) 85 #[pt B 0] ((receives_yes hs0.out v _ (hM.at 2 rfl)).mono ?_)
    rintro e W1 ⟨rfl, rfl⟩
    refine dF ?_
    try simp only [puts, Tk.put, Act.put, List.setIfInBounds_toArray, List.set_cons_zero, List.set_cons_succ]
    go_upto_region 7 with fail
    refine wp_region_M (fun W => Mem w (some B) [(N, 28, ws (nw (amV t - feT t))), (w.heap.size, 44, txc t)] W) (fun W => Mem w (some B) [(N, 28, ws (nw (amV t - feT t))), (w.heap.size, 44, txc t), (B, 35, stc s v)] W) hmx hM.drew ?_
    clear hM
    rintro Y8 hM
    have hS := hM.sub (.cons_cons _ (.cons_cons _ (.cons _ .slnil)))
    refine tD 8 [.val 0 (some 35) (pt B 0), .val 1 (some 36) (pt B 0), .val 2 (some 37) (pt B 0), .val 3 (some 38) (pt B 2), .val 5 (some 40) (pt w.heap.size 8), .val 6 (some 41) (pt w.heap.size 13), .load 7 (some 42) 3 (pt w.heap.size 13) (.int .i64 t.iv.to), .val 8 (some 43) (pt w.heap.size 8), .val 9 (some 44) (pt w.heap.size 12), .load 10 (some 45) 3 (pt w.heap.size 12) (.int .i64 t.iv.re), .load 11 (some 46) 28 (pt N 0) (wn ((amV t - feT t)))] ⟨fun W h => ld_int (h.at 1 rfl) 13 rfl, fun W h => ld_int (h.at 1 rfl) 12 rfl, fun W h => load_wn (h.at 0 rfl), trivial⟩ hS ?_
    refine oD 4 7 (lD (some 39) 31 (pt B 2) (bkv s.pu) (ld_pu (s := s) (hM.at 2 rfl)) (hS) ?_)
    refine oD 12 6 (cD (some 47) 80 #[bkv s.pu, .int .i64 t.iv.to, .int .i64 t.iv.re, wn ((amV t - feT t))] ((HA.out _).mono ?_))
    rintro e W1 ⟨rfl, hb⟩
    refine And.intro (hS.below hb) ?_
    replace hS := hS.below hb
    replace hM := hM.below hb
    clear hb
    refine tD 4 [.val 13 (some 48) (bkv ((giveB s.pu t.iv.to t.iv.re (amV t - feT t)).1)), .val 14 (some 49) (.int .i64 ((giveB s.pu t.iv.to t.iv.re (amV t - feT t)).2))] trivial hS ?_
    refine oD 15 3 (cD (some 50) 60 #[bkv ((giveB s.pu t.iv.to t.iv.re (amV t - feT t)).1), .int .i64 ((giveB s.pu t.iv.to t.iv.re (amV t - feT t)).2)] ((must_two _ _ _).mono ?_))
    rintro e W2 (⟨hc, rfl, hb⟩ | ⟨hc, rfl, hb⟩)
    case inr =>
      replace hM := hM.below hb
      exact And.intro rfl (EndL.pan hM.g hb0 hc (by unfold fulP; rw [if_neg h1.out, if_neg h2.out, if_neg h3.out, if_neg h4.out, if_pos hs0.out, if_pos hc]) rfl (BlkN.of (hM.at 2 rfl)))
    refine And.intro (hS.below hb) ?_
    replace hS := hS.below hb
    replace hM := hM.below hb
    clear hb
    refine tD 1 [.val 16 (some 51) (pt B 0), .val 17 (some 52) (pt B 2)] trivial hS ?_
    have hM1 := hM.set 2 (cs' := stc ({ s with pu := (giveB s.pu t.iv.to t.iv.re (amV t - feT t)).1 }) v) rfl rfl
    refine oD 18 0 (sD 31 (pt B 2) (bkv ((giveB s.pu t.iv.to t.iv.re (amV t - feT t)).1)) (sto_pu (hM.at 2 rfl) _) (hM1.sub (.cons_cons _ (.cons_cons _ (.cons _ .slnil)))) ?_)
    replace hS := hM1.sub (.cons_cons _ (.cons_cons _ (.cons _ .slnil)))
    replace hM := hM1
    clear hM1
    generalize World.setRow _ _ _ = Y9 at *
    refine dD ?_
    try simp only [puts, Tk.put, Act.put, List.setIfInBounds_toArray, List.set_cons_zero, List.set_cons_succ]
    clear hS
    have h5 := Lib.hid (not_not_intro hc)
    clear hc
    go_upto_region 8 with fail
    refine wp_region_M (fun W => Mem w (some B) [(N, 28, ws (nw (amV t - feT t))), (w.heap.size, 44, txc t)] W) (fun W => Mem w (some B) [(N, 28, ws (nw (amV t - feT t))), (w.heap.size, 44, txc t), (B, 35, stc ({ s with pu := (giveB s.pu t.iv.to t.iv.re (amV t - feT t)).1 }) v)] W) hmx hM.drew ?_
    clear hM
    rintro Y10 hM
    have hS := hM.sub (.cons_cons _ (.cons_cons _ (.cons _ .slnil)))
    refine tD 8 [.val 0 (some 53) (pt B 0), .val 1 (some 54) (pt B 0), .val 2 (some 55) (pt B 0), .val 3 (some 56) (pt B 2), .val 5 (some 58) (pt w.heap.size 0), .load 6 (some 59) 3 (pt w.heap.size 0) (.int .i64 t.fr), .val 7 (some 60) (pt w.heap.size 8), .val 8 (some 61) (pt w.heap.size 12), .load 9 (some 62) 3 (pt w.heap.size 12) (.int .i64 t.iv.re), .val 10 (some 63) (pt w.heap.size 20), .load 11 (some 64) 28 (pt w.heap.size 20) (wn (feT t))] ⟨fun W h => ld_int (h.at 1 rfl) 0 rfl, fun W h => ld_int (h.at 1 rfl) 12 rfl, fun W h => ld_fe (h.at 1 rfl) ht, trivial⟩ hS ?_
    refine oD 4 7 (lD (some 57) 31 (pt B 2) (bkv ((giveB s.pu t.iv.to t.iv.re (amV t - feT t)).1)) (ld_pu (s := { s with pu := (giveB s.pu t.iv.to t.iv.re (amV t - feT t)).1 }) (hM.at 2 rfl)) (hS) ?_)
    refine oD 12 6 (cD (some 65) 80 #[bkv ((giveB s.pu t.iv.to t.iv.re (amV t - feT t)).1), .int .i64 t.fr, .int .i64 t.iv.re, wn (feT t)] ((HB.out _).mono ?_))
    rintro e W1 ⟨rfl, hb⟩
    refine And.intro (hS.below hb) ?_
    replace hS := hS.below hb
    replace hM := hM.below hb
    clear hb
    refine tD 4 [.val 13 (some 66) (bkv ((giveB (giveB s.pu t.iv.to t.iv.re (amV t - feT t)).1 t.fr t.iv.re (feT t)).1)), .val 14 (some 67) (.int .i64 ((giveB (giveB s.pu t.iv.to t.iv.re (amV t - feT t)).1 t.fr t.iv.re (feT t)).2))] trivial hS ?_
    refine oD 15 3 (cD (some 68) 60 #[bkv ((giveB (giveB s.pu t.iv.to t.iv.re (amV t - feT t)).1 t.fr t.iv.re (feT t)).1), .int .i64 ((giveB (giveB s.pu t.iv.to t.iv.re (amV t - feT t)).1 t.fr t.iv.re (feT t)).2)] ((must_two _ _ _).mono ?_))
    rintro e W2 (⟨hc, rfl, hb⟩ | ⟨hc, rfl, hb⟩)
    case inr =>
      replace hM := hM.below hb
      exact And.intro rfl (EndL.pan hM.g hb0 hc (by unfold fulP; rw [if_neg h1.out, if_neg h2.out, if_neg h3.out, if_neg h4.out, if_pos hs0.out, if_neg h5.out, if_pos hc]) rfl (BlkN.of (hM.at 2 rfl)))
    refine And.intro (hS.below hb) ?_
    replace hS := hS.below hb
    replace hM := hM.below hb
    clear hb
    refine tD 1 [.val 16 (some 69) (pt B 0), .val 17 (some 70) (pt B 2)] trivial hS ?_
    have hM1 := hM.set 2 (cs' := stc ({ s with pu := (giveB (giveB s.pu t.iv.to t.iv.re (amV t - feT t)).1 t.fr t.iv.re (feT t)).1 }) v) rfl rfl
    refine oD 18 0 (sD 31 (pt B 2) (bkv ((giveB (giveB s.pu t.iv.to t.iv.re (amV t - feT t)).1 t.fr t.iv.re (feT t)).1)) (sto_pu (hM.at 2 rfl) _) (hM1.sub (.cons_cons _ (.cons_cons _ (.cons _ .slnil)))) ?_)
    replace hS := hM1.sub (.cons_cons _ (.cons_cons _ (.cons _ .slnil)))
    replace hM := hM1
    clear hM1
    generalize World.setRow _ _ _ = Y11 at *
    refine dD ?_
    try simp only [puts, Tk.put, Act.put, List.setIfInBounds_toArray, List.set_cons_zero, List.set_cons_succ]
    clear hS
    have h6 := Lib.hid (not_not_intro hc)
    clear hc
    go_upto_region 9 with fail
    refine wp_region_fromM (fun W => Mem w (some B) [(N, 28, ws (nw (amV t - feT t))), (w.heap.size, 44, txc t), (B, 35, stc ({ s with pu := (giveB (giveB s.pu t.iv.to t.iv.re (amV t - feT t)).1 t.fr t.iv.re (feT t)).1 }) v)] W) hM ?_
    clear hM
    rintro Y12 hM
    refine tF 7 [.val 0 (some 71) (pt B 0), .val 1 (some 72) (pt w.heap.size 8), .val 2 (some 73) (pt w.heap.size 12), .load 3 (some 74) 3 (pt w.heap.size 12) (.int .i64 t.iv.re), .val 4 (some 75) (pt w.heap.size 15), .val 5 (some 76) (pt w.heap.size 15), .load 6 (some 77) 28 (pt w.heap.size 15) (wn (amV t))] ⟨ld_int (hM.at 1 rfl) 12 rfl, ld_av (hM.at 1 rfl) ht, trivial⟩ ?_
    refine cF (some 78) 83 #[pt B 0, .int .i64 t.iv.re, wn (amV t)] ((shrinkI_any ({ s with pu := (giveB (giveB s.pu t.iv.to t.iv.re (amV t - feT t)).1 t.fr t.iv.re (feT t)).1 }) _ hz.2 HR.out hn _ (hM.at 2 rfl)).mono ?_)
    rintro e W1 h
    rcases h.two with ⟨h0, rfl, hg, hN⟩ | ⟨h0, rfl, _⟩
    case inr => exact And.intro rfl (EndL.fail hM.g hb0 h h0 (by unfold fulP; rw [if_neg h1.out, if_neg h2.out, if_neg h3.out, if_neg h4.out, if_pos hs0.out, if_neg h5.out, if_neg h6.out, if_pos h0]))
    rw [shrinkE_ok h0] at hN
    replace hM := hM.call 2 (cs' := stc { s with pu := (giveB (giveB s.pu t.iv.to t.iv.re (amV t - feT t)).1 t.fr t.iv.re (feT t)).1, he := updB s.he t.iv.re.toNat (s.he t.iv.re.toNat - amV t) } v) rfl rfl hg hN
    have h7 := Lib.hid (not_not_intro h0)
    clear h h0 hg hN
    refine dF ?_
    try simp only [puts, Tk.put, Act.put, List.setIfInBounds_toArray, List.set_cons_zero, List.set_cons_succ]
    go_upto_region 11 with fail
    refine wp_region_fromM (fun W => Mem w (some B) [(N, 28, ws (nw (amV t - feT t))), (w.heap.size, 44, txc t), (B, 35, stc { s with pu := (giveB (giveB s.pu t.iv.to t.iv.re (amV t - feT t)).1 t.fr t.iv.re (feT t)).1, he := updB s.he t.iv.re.toNat (s.he t.iv.re.toNat - amV t) } v)] W) hM ?_
    clear hM
    rintro Y13 hM
    have hO := HO.out.grown hBb hM.g
    obtain ⟨g, o, W2, hi, hst, hg, hgr, hO2⟩ := own_end hO HX.out 2
    have HI := Lib.hid hi
    clear hi
    refine tF 7 [.val 0 (some 99) (pt B 0), .val 1 (some 100) (pt B 0), .val 2 (some 101) (pt B 150), .load 3 (some 102) 33 (pt B 150) (v), .val 4 (some 103) (.int .i64 ((openE orcB s t).1 : Int)), .idx 5 (some 104) 33 (v) (.int .i64 ((openE orcB s t).1 : Int)) (pt g o), .val 6 (some 105) (pt g (o + 2))] ⟨ld_lk (s := { s with pu := (giveB (giveB s.pu t.iv.to t.iv.re (amV t - feT t)).1 t.fr t.iv.re (feT t)).1, he := updB s.he t.iv.re.toNat (s.he t.iv.re.toNat - amV t) }) (hM.at 2 rfl), HI.out _, trivial⟩ ?_
    refine sF 3 (pt g (o + 2)) (.int .i64 2) (hst) ?_
    refine dF ?_
    try simp only [puts, Tk.put, Act.put, List.setIfInBounds_toArray, List.set_cons_zero, List.set_cons_succ]
    have fin : EndL w B b0 (fulP s t) (.returned (.tuple #[])) W2 := end_fin (s' := { s with pu := (giveB (giveB s.pu t.iv.to t.iv.re (amV t - feT t)).1 t.fr t.iv.re (feT t)).1, he := updB s.he t.iv.re.toNat (s.he t.iv.re.toNat - amV t), lk := endE s.lk (openE orcB s t).1 2 }) hBb hb0 hM (hM.at 2 rfl) hg hgr (by unfold fulP; rw [if_neg h1.out, if_neg h2.out, if_neg h3.out, if_neg h4.out, if_pos hs0.out, if_neg h5.out, if_neg h6.out, if_neg h7.out]) (fun u => rfl) hO2
    clear hs0 h1
    go_wp2_with fail
    go_end0
    exact fin
  have hs0 : Hid (¬ s.sd > 0) := Lib.hid hsd
  clear hsd
  go_upto_region 6 with fail
  refine wp_region_fromM (fun W => Mem w (some B) [(N, 28, ws (nw (amV t - feT t))), (w.heap.size, 44, txc t), (B, 35, stc s v)] W) hM ?_
  clear hM
  rintro Y14 hM
  refine tF 1 [.val 0 (some 33) (pt B 0)] trivial ?_
  refine cF (some 34) 85 #[pt B 0] ((receives_not hs0.out v _ (hM.at 2 rfl)).mono ?_)
  rintro e W1 ⟨rfl, rfl⟩
  refine dF ?_
  try simp only [puts, Tk.put, Act.put, List.setIfInBounds_toArray, List.set_cons_zero, List.set_cons_succ]
  go_upto_region 10 with fail
  refine wp_region_M (fun W => Mem w (some B) [(N, 28, ws (nw (amV t - feT t))), (w.heap.size, 44, txc t)] W) (fun W => Mem w (some B) [(N, 28, ws (nw (amV t - feT t))), (w.heap.size, 44, txc t), (B, 35, stc s v)] W) hmx hM.drew ?_
  clear hM
  rintro Y15 hM
  have hS := hM.sub (.cons_cons _ (.cons_cons _ (.cons _ .slnil)))
  refine tD 8 [.val 0 (some 79) (pt B 0), .val 1 (some 80) (pt B 0), .val 2 (some 81) (pt B 0), .val 3 (some 82) (pt B 66), .val 5 (some 84) (pt w.heap.size 8), .val 6 (some 85) (pt w.heap.size 10), .load 7 (some 86) 3 (pt w.heap.size 10) (.int .i64 t.iv.ro), .val 8 (some 87) (pt w.heap.size 8), .val 9 (some 88) (pt w.heap.size 11), .load 10 (some 89) 3 (pt w.heap.size 11) (.int .i64 t.iv.se), .val 11 (some 90) (pt w.heap.size 15), .val 12 (some 91) (pt w.heap.size 15), .load 13 (some 92) 28 (pt w.heap.size 15) (wn (amV t))] ⟨fun W h => ld_int (h.at 1 rfl) 10 rfl, fun W h => ld_int (h.at 1 rfl) 11 rfl, fun W h => ld_av (h.at 1 rfl) ht, trivial⟩ hS ?_
  refine oD 4 7 (lD (some 83) 31 (pt B 66) (bkv s.va) (ld_va (s := s) (hM.at 2 rfl)) (hS) ?_)
  refine oD 14 6 (cD (some 93) 80 #[bkv s.va, .int .i64 t.iv.ro, .int .i64 t.iv.se, wn (amV t)] ((HC.out _).mono ?_))
  rintro e W1 ⟨rfl, hb⟩
  refine And.intro (hS.below hb) ?_
  replace hS := hS.below hb
  replace hM := hM.below hb
  clear hb
  refine tD 4 [.val 15 (some 94) (bkv ((giveB s.va t.iv.ro t.iv.se (amV t)).1)), .val 16 (some 95) (.int .i64 ((giveB s.va t.iv.ro t.iv.se (amV t)).2))] trivial hS ?_
  refine oD 17 3 (cD (some 96) 60 #[bkv ((giveB s.va t.iv.ro t.iv.se (amV t)).1), .int .i64 ((giveB s.va t.iv.ro t.iv.se (amV t)).2)] ((must_two _ _ _).mono ?_))
  rintro e W2 (⟨hc, rfl, hb⟩ | ⟨hc, rfl, hb⟩)
  case inr =>
    replace hM := hM.below hb
    exact And.intro rfl (EndL.pan hM.g hb0 hc (by unfold fulP; rw [if_neg h1.out, if_neg h2.out, if_neg h3.out, if_neg h4.out, if_neg hs0.out, if_pos hc]) rfl (BlkN.of (hM.at 2 rfl)))
  refine And.intro (hS.below hb) ?_
  replace hS := hS.below hb
  replace hM := hM.below hb
  clear hb
  refine tD 1 [.val 18 (some 97) (pt B 0), .val 19 (some 98) (pt B 66)] trivial hS ?_
  have hM1 := hM.set 2 (cs' := stc ({ s with va := (giveB s.va t.iv.ro t.iv.se (amV t)).1 }) v) rfl rfl
  refine oD 20 0 (sD 31 (pt B 66) (bkv ((giveB s.va t.iv.ro t.iv.se (amV t)).1)) (sto_va (hM.at 2 rfl) _) (hM1.sub (.cons_cons _ (.cons_cons _ (.cons _ .slnil)))) ?_)
  replace hS := hM1.sub (.cons_cons _ (.cons_cons _ (.cons _ .slnil)))
  replace hM := hM1
  clear hM1
  generalize World.setRow _ _ _ = Y16 at *
  refine dD ?_
  try simp only [puts, Tk.put, Act.put, List.setIfInBounds_toArray, List.set_cons_zero, List.set_cons_succ]
  clear hS
  have h5 := Lib.hid (not_not_intro hc)
  clear hc
  go_upto_region 11 with fail
  refine wp_region_fromM (fun W => Mem w (some B) [(N, 28, ws (nw (amV t - feT t))), (w.heap.size, 44, txc t), (B, 35, stc ({ s with va := (giveB s.va t.iv.ro t.iv.se (amV t)).1 }) v)] W) hM ?_
  clear hM
  rintro Y17 hM
  have hO := HO.out.grown hBb hM.g
  obtain ⟨g, o, W2, hi, hst, hg, hgr, hO2⟩ := own_end hO HX.out 2
  have HI := Lib.hid hi
  clear hi
  refine tF 7 [.val 0 (some 99) (pt B 0), .val 1 (some 100) (pt B 0), .val 2 (some 101) (pt B 150), .load 3 (some 102) 33 (pt B 150) (v), .val 4 (some 103) (.int .i64 ((openE orcB s t).1 : Int)), .idx 5 (some 104) 33 (v) (.int .i64 ((openE orcB s t).1 : Int)) (pt g o), .val 6 (some 105) (pt g (o + 2))] ⟨ld_lk (s := { s with va := (giveB s.va t.iv.ro t.iv.se (amV t)).1 }) (hM.at 2 rfl), HI.out _, trivial⟩ ?_
  refine sF 3 (pt g (o + 2)) (.int .i64 2) (hst) ?_
  refine dF ?_
  try simp only [puts, Tk.put, Act.put, List.setIfInBounds_toArray, List.set_cons_zero, List.set_cons_succ]
  have fin : EndL w B b0 (fulP s t) (.returned (.tuple #[])) W2 := end_fin (s' := { s with va := (giveB s.va t.iv.ro t.iv.se (amV t)).1, lk := endE s.lk (openE orcB s t).1 2 }) hBb hb0 hM (hM.at 2 rfl) hg hgr (by unfold fulP; rw [if_neg h1.out, if_neg h2.out, if_neg h3.out, if_neg h4.out, if_neg hs0.out, if_neg h5.out]) (fun u => rfl) hO2
  clear hs0 h1
  go_wp2_with fail
  go_end0
  exact fin
set_option maxRecDepth 100000 in
set_option maxHeartbeats 4000000 in
theorem cancel_any (s : Es) (v : Value) (hs : OkE s) (t : Tr) (ht : OkT t) (hz : (0 ≤ t.iv.se ∧ t.iv.se ≤ 1) ∧ 0 ≤ t.iv.re ∧ t.iv.re ≤ 1) {B b0 : Nat} (w : World) (hBb : B < b0) (hb0 : b0 ≤ w.heap.size) (hB : Blk w B 35 (stc s v)) (ho : OwnL b0 w v s.lk) :
    Calls Tryz.prog 66 #[.pointer (some ⟨B, 0, none⟩), txv t] w (EndL w B b0 (canP s t)) := by
  have hmx : Tryz.prog.follows .mixedOrders = true := by kernel_rfl
  have hM := (Mem.startB hB).allocN rfl 44 (txc t)
  have hn : amV t < M4 := val_lt ht.v
  have HA := Lib.hid (fun W => bookGive_any s.va hs.v t.iv.ro t.iv.re (amV t) hn W)
  have HB := Lib.hid (fun W => bookGive_any s.pu hs.p t.iv.us t.iv.se (amV t) hn W)
  have HS := Lib.hid (okE_he hs hz.1.1 hz.1.2)
  have HR := Lib.hid (okE_he hs hz.2.1 hz.2.2)
  have HO := Lib.hid ho
  clear hB ho
  go_enter Tryz.func66, Tryz.ntmps66
  go_upto_region 1 with fail
  refine wp_region_fromM (fun W => Mem w (some B) [(w.heap.size, 44, txc t), (B, 35, stc s v)] W) hM ?_
  clear hM
  rintro Y1 hM
  refine tF 2 [.val 0 (some 6) (pt B 0), .load 1 (some 7) 44 (pt w.heap.size 0) (txv t)] ⟨ld_tx (hM.at 0 rfl), trivial⟩ ?_
  refine cF (some 8) 87 #[pt B 0, txv t] ((esc_open_any s v t ht _ (hM.at 1 rfl) (HO.out.grown hBb hM.g).rsl).mono ?_)
  rintro e W1 h
  rcases h.two with ⟨h0, rfl, hb⟩ | ⟨h0, rfl, hb⟩
  case inr =>
    replace hM := hM.below hb
    exact And.intro rfl (EndL.pan hM.g hb0 h0 (by unfold canP; rw [if_pos h0]) rfl (BlkN.of (hM.at 1 rfl)))
  replace hM := hM.below hb
  obtain ⟨x, hx, _⟩ := open_some h0
  have h1 := Lib.hid (not_not_intro h0)
  have HX := Lib.hid hx
  clear h h0 hb hx
  refine tF 4 [.val 3 (some 4) (.int .i64 ((openE orcB s t).1 : Int))] trivial ?_
  refine dF ?_
  try simp only [puts, Tk.put, Act.put, List.setIfInBounds_toArray, List.set_cons_zero, List.set_cons_succ]
  go_upto_region 2 with fail
  refine wp_region_M (fun W => Mem w (some B) [(w.heap.size, 44, txc t), (B, 35, stc s v)] W) (fun W => Mem w (some B) [(w.heap.size, 44, txc t), (B, 35, stc s v)] W) hmx hM.drew ?_
  clear hM
  rintro Y2 hM
  have hS := hM.sub (.cons_cons _ (.cons_cons _ .slnil))
  refine tD 0 [.val 0 (some 9) (pt B 0), .val 1 (some 10) (pt B 0), .val 2 (some 11) (pt B 1), .load 3 (some 12) 3 (pt B 1) (.int .i64 s.tm), .val 4 (some 13) (pt w.heap.size 15), .val 5 (some 14) (pt w.heap.size 19), .load 6 (some 15) 3 (pt w.heap.size 19) (.int .i64 t.vr.x), .val 7 (some 16) (.bool (decide (s.tm < t.vr.x))), .val 8 (some 5) (.bool (decide (s.tm < t.vr.x)))] ⟨fun W h => ld_int (h.at 1 rfl) 1 rfl, fun W h => ld_int (h.at 0 rfl) 19 rfl, trivial⟩ hS ?_
  refine dD ?_
  try simp only [puts, Tk.put, Act.put, List.setIfInBounds_toArray, List.set_cons_zero, List.set_cons_succ]
  clear hS
  by_cases hsd : s.sd > 0
  case pos =>
    have hs0 : Hid ((s.sd > 0)) := Lib.hid (by omega)
    clear hsd
    go_upto_region 3 with fail
    refine wp_region_fromM (fun W => Mem w (some B) [(w.heap.size, 44, txc t), (B, 35, stc s v)] W) hM ?_
    clear hM
    rintro Y3 hM
    refine tF 1 [.val 0 (some 17) (pt B 0)] trivial ?_
    refine cF (some 18) 85 #[pt B 0] ((receives_yes hs0.out v _ (hM.at 1 rfl)).mono ?_)
    rintro e W1 ⟨rfl, rfl⟩
    refine dF ?_
    try simp only [puts, Tk.put, Act.put, List.setIfInBounds_toArray, List.set_cons_zero, List.set_cons_succ]
    by_cases hl : s.tm < t.vr.x
    case pos =>
      go_upto_region 4 with fail
      refine wp_region_fromM (fun W => Mem w (some B) [(w.heap.size, 44, txc t), (B, 35, stc s v)] W) hM ?_
      clear hM
      rintro Y4 hM
      refine tF 4 [.alt 0 (some 19) (.bool (decide (s.tm < t.vr.x))) (.bool true), .val 1 (some 20) (.bool false), .val 2 (some 21) (.bool false), .load 3 (some 22) 44 (pt w.heap.size 0) (txv t)] ⟨congrArg Value.bool (decide_eq_true hl), ld_tx (hM.at 0 rfl), trivial⟩ ?_
      refine cF (some 23) 88 #[txv t, .int .i64 2] ((signed_any t ht 2 _).mono ?_)
      rintro e W1 ⟨rfl, hb⟩
      replace hM := hM.below hb
      clear hb
      refine tF 6 [.val 5 (some 24) (.bool (signB t 2))] trivial ?_
      refine cF (some 25) 57 #[.bool (signB t 2), .int .i64 35] ((demand_any _ _ _).mono ?_)
      rintro e W1 (⟨h, rfl, rfl⟩ | ⟨h, rfl, rfl⟩)
      case inr => exact And.intro rfl (EndL.pan hM.g hb0 (by decide) (by unfold canP; rw [if_neg h1.out, if_pos hs0.out, if_pos (And.intro hl (by rw [h]; decide))]) rfl (BlkN.of (hM.at 1 rfl)))
      have h2 : Hid (¬ (s.tm < t.vr.x ∧ ¬ signB t 2 = true)) := Lib.hid (fun e => e.2 h)
      clear h
      refine dF ?_
      try simp only [puts, Tk.put, Act.put, List.setIfInBounds_toArray, List.set_cons_zero, List.set_cons_succ]
      go_upto_region 5 with fail
      refine wp_region_M (fun W => Mem w (some B) [(w.heap.size, 44, txc t)] W) (fun W => Mem w (some B) [(w.heap.size, 44, txc t), (B, 35, stc s v)] W) hmx hM.drew ?_
      clear hM
      rintro Y5 hM
      have hS := hM.sub (.cons_cons _ (.cons _ .slnil))
      refine tD 8 [.val 0 (some 26) (pt B 0), .val 1 (some 27) (pt B 0), .val 2 (some 28) (pt B 0), .val 3 (some 29) (pt B 66), .val 5 (some 31) (pt w.heap.size 8), .val 6 (some 32) (pt w.heap.size 10), .load 7 (some 33) 3 (pt w.heap.size 10) (.int .i64 t.iv.ro), .val 8 (some 34) (pt w.heap.size 8), .val 9 (some 35) (pt w.heap.size 12), .load 10 (some 36) 3 (pt w.heap.size 12) (.int .i64 t.iv.re), .val 11 (some 37) (pt w.heap.size 15), .val 12 (some 38) (pt w.heap.size 15), .load 13 (some 39) 28 (pt w.heap.size 15) (wn (amV t))] ⟨fun W h => ld_int (h.at 0 rfl) 10 rfl, fun W h => ld_int (h.at 0 rfl) 12 rfl, fun W h => ld_av (h.at 0 rfl) ht, trivial⟩ hS ?_
      refine oD 4 7 (lD (some 30) 31 (pt B 66) (bkv s.va) (ld_va (s := s) (hM.at 1 rfl)) (hS) ?_)
      refine oD 14 6 (cD (some 40) 80 #[bkv s.va, .int .i64 t.iv.ro, .int .i64 t.iv.re, wn (amV t)] ((HA.out _).mono ?_))
      rintro e W1 ⟨rfl, hb⟩
      refine And.intro (hS.below hb) ?_
      replace hS := hS.below hb
      replace hM := hM.below hb
      clear hb
      refine tD 4 [.val 15 (some 41) (bkv ((giveB s.va t.iv.ro t.iv.re (amV t)).1)), .val 16 (some 42) (.int .i64 ((giveB s.va t.iv.ro t.iv.re (amV t)).2))] trivial hS ?_
      refine oD 17 3 (cD (some 43) 60 #[bkv ((giveB s.va t.iv.ro t.iv.re (amV t)).1), .int .i64 ((giveB s.va t.iv.ro t.iv.re (amV t)).2)] ((must_two _ _ _).mono ?_))
      rintro e W2 (⟨hc, rfl, hb⟩ | ⟨hc, rfl, hb⟩)
      case inr =>
        replace hM := hM.below hb
        exact And.intro rfl (EndL.pan hM.g hb0 hc (by unfold canP; rw [if_neg h1.out, if_pos hs0.out, if_neg h2.out, if_pos hc]) rfl (BlkN.of (hM.at 1 rfl)))
      refine And.intro (hS.below hb) ?_
      replace hS := hS.below hb
      replace hM := hM.below hb
      clear hb
      refine tD 1 [.val 18 (some 44) (pt B 0), .val 19 (some 45) (pt B 66)] trivial hS ?_
      have hM1 := hM.set 1 (cs' := stc ({ s with va := (giveB s.va t.iv.ro t.iv.re (amV t)).1 }) v) rfl rfl
      refine oD 20 0 (sD 31 (pt B 66) (bkv ((giveB s.va t.iv.ro t.iv.re (amV t)).1)) (sto_va (hM.at 1 rfl) _) (hM1.sub (.cons_cons _ (.cons _ .slnil))) ?_)
      replace hS := hM1.sub (.cons_cons _ (.cons _ .slnil))
      replace hM := hM1
      clear hM1
      generalize World.setRow _ _ _ = Y6 at *
      refine dD ?_
      try simp only [puts, Tk.put, Act.put, List.setIfInBounds_toArray, List.set_cons_zero, List.set_cons_succ]
      clear hS
      have h3 := Lib.hid (not_not_intro hc)
      clear hc
      go_upto_region 9 with fail
      refine wp_region_fromM (fun W => Mem w (some B) [(w.heap.size, 44, txc t), (B, 35, stc ({ s with va := (giveB s.va t.iv.ro t.iv.re (amV t)).1 }) v)] W) hM ?_
      clear hM
      rintro Y7 hM
      have hO := HO.out.grown hBb hM.g
      obtain ⟨g, o, W2, hi, hst, hg, hgr, hO2⟩ := own_end hO HX.out 3
      have HI := Lib.hid hi
      clear hi
      refine tF 7 [.val 0 (some 85) (pt B 0), .val 1 (some 86) (pt B 0), .val 2 (some 87) (pt B 150), .load 3 (some 88) 33 (pt B 150) (v), .val 4 (some 89) (.int .i64 ((openE orcB s t).1 : Int)), .idx 5 (some 90) 33 (v) (.int .i64 ((openE orcB s t).1 : Int)) (pt g o), .val 6 (some 91) (pt g (o + 2))] ⟨ld_lk (s := { s with va := (giveB s.va t.iv.ro t.iv.re (amV t)).1 }) (hM.at 1 rfl), HI.out _, trivial⟩ ?_
      refine sF 3 (pt g (o + 2)) (.int .i64 3) (hst) ?_
      refine dF ?_
      try simp only [puts, Tk.put, Act.put, List.setIfInBounds_toArray, List.set_cons_zero, List.set_cons_succ]
      have fin : EndL w B b0 (canP s t) (.returned (.tuple #[])) W2 := end_fin (s' := { s with va := (giveB s.va t.iv.ro t.iv.re (amV t)).1, lk := endE s.lk (openE orcB s t).1 3 }) hBb hb0 hM (hM.at 1 rfl) hg hgr (by unfold canP; rw [if_neg h1.out, if_pos hs0.out, if_neg h2.out, if_neg h3.out]) (fun u => rfl) hO2
      clear hs0 h1
      go_wp2_with fail
      go_end0
      exact fin
    go_upto_region 4 with fail
    refine wp_region_fromM (fun W => Mem w (some B) [(w.heap.size, 44, txc t), (B, 35, stc s v)] W) hM ?_
    clear hM
    rintro Y8 hM
    refine tF 4 [.alt 0 (some 19) (.bool (decide (s.tm < t.vr.x))) (.bool false), .val 1 (some 20) (.bool true), .val 2 (some 21) (.bool true), .skip 3 (some 22)] ⟨congrArg Value.bool (decide_eq_false hl), trivial⟩ ?_
    refine wpFrom_takes (m := 6) [.skip 4 (some 23), .val 5 (some 24) (.bool true)] (by kernel_rfl) (by kernel_rfl) (fun _ => by kernel_rfl) trivial ?_
    refine cF (some 25) 57 #[.bool true, .int .i64 35] ((demand_any _ _ _).mono ?_)
    rintro e W1 (⟨h, rfl, rfl⟩ | ⟨h, rfl, rfl⟩)
    case inr => exact absurd h (by decide)
    have h2 : Hid (¬ (s.tm < t.vr.x ∧ ¬ signB t 2 = true)) := Lib.hid (fun e => hl e.1)
    clear h
    refine dF ?_
    try simp only [puts, Tk.put, Act.put, List.setIfInBounds_toArray, List.set_cons_zero, List.set_cons_succ]
    go_upto_region 5 with fail
    refine wp_region_M (fun W => Mem w (some B) [(w.heap.size, 44, txc t)] W) (fun W => Mem w (some B) [(w.heap.size, 44, txc t), (B, 35, stc s v)] W) hmx hM.drew ?_
    clear hM
    rintro Y9 hM
    have hS := hM.sub (.cons_cons _ (.cons _ .slnil))
    refine tD 8 [.val 0 (some 26) (pt B 0), .val 1 (some 27) (pt B 0), .val 2 (some 28) (pt B 0), .val 3 (some 29) (pt B 66), .val 5 (some 31) (pt w.heap.size 8), .val 6 (some 32) (pt w.heap.size 10), .load 7 (some 33) 3 (pt w.heap.size 10) (.int .i64 t.iv.ro), .val 8 (some 34) (pt w.heap.size 8), .val 9 (some 35) (pt w.heap.size 12), .load 10 (some 36) 3 (pt w.heap.size 12) (.int .i64 t.iv.re), .val 11 (some 37) (pt w.heap.size 15), .val 12 (some 38) (pt w.heap.size 15), .load 13 (some 39) 28 (pt w.heap.size 15) (wn (amV t))] ⟨fun W h => ld_int (h.at 0 rfl) 10 rfl, fun W h => ld_int (h.at 0 rfl) 12 rfl, fun W h => ld_av (h.at 0 rfl) ht, trivial⟩ hS ?_
    refine oD 4 7 (lD (some 30) 31 (pt B 66) (bkv s.va) (ld_va (s := s) (hM.at 1 rfl)) (hS) ?_)
    refine oD 14 6 (cD (some 40) 80 #[bkv s.va, .int .i64 t.iv.ro, .int .i64 t.iv.re, wn (amV t)] ((HA.out _).mono ?_))
    rintro e W1 ⟨rfl, hb⟩
    refine And.intro (hS.below hb) ?_
    replace hS := hS.below hb
    replace hM := hM.below hb
    clear hb
    refine tD 4 [.val 15 (some 41) (bkv ((giveB s.va t.iv.ro t.iv.re (amV t)).1)), .val 16 (some 42) (.int .i64 ((giveB s.va t.iv.ro t.iv.re (amV t)).2))] trivial hS ?_
    refine oD 17 3 (cD (some 43) 60 #[bkv ((giveB s.va t.iv.ro t.iv.re (amV t)).1), .int .i64 ((giveB s.va t.iv.ro t.iv.re (amV t)).2)] ((must_two _ _ _).mono ?_))
    rintro e W2 (⟨hc, rfl, hb⟩ | ⟨hc, rfl, hb⟩)
    case inr =>
      replace hM := hM.below hb
      exact And.intro rfl (EndL.pan hM.g hb0 hc (by unfold canP; rw [if_neg h1.out, if_pos hs0.out, if_neg h2.out, if_pos hc]) rfl (BlkN.of (hM.at 1 rfl)))
    refine And.intro (hS.below hb) ?_
    replace hS := hS.below hb
    replace hM := hM.below hb
    clear hb
    refine tD 1 [.val 18 (some 44) (pt B 0), .val 19 (some 45) (pt B 66)] trivial hS ?_
    have hM1 := hM.set 1 (cs' := stc ({ s with va := (giveB s.va t.iv.ro t.iv.re (amV t)).1 }) v) rfl rfl
    refine oD 20 0 (sD 31 (pt B 66) (bkv ((giveB s.va t.iv.ro t.iv.re (amV t)).1)) (sto_va (hM.at 1 rfl) _) (hM1.sub (.cons_cons _ (.cons _ .slnil))) ?_)
    replace hS := hM1.sub (.cons_cons _ (.cons _ .slnil))
    replace hM := hM1
    clear hM1
    generalize World.setRow _ _ _ = Y10 at *
    refine dD ?_
    try simp only [puts, Tk.put, Act.put, List.setIfInBounds_toArray, List.set_cons_zero, List.set_cons_succ]
    clear hS
    have h3 := Lib.hid (not_not_intro hc)
    clear hc
    go_upto_region 9 with fail
    refine wp_region_fromM (fun W => Mem w (some B) [(w.heap.size, 44, txc t), (B, 35, stc ({ s with va := (giveB s.va t.iv.ro t.iv.re (amV t)).1 }) v)] W) hM ?_
    clear hM
    rintro Y11 hM
    have hO := HO.out.grown hBb hM.g
    obtain ⟨g, o, W2, hi, hst, hg, hgr, hO2⟩ := own_end hO HX.out 3
    have HI := Lib.hid hi
    clear hi
    refine tF 7 [.val 0 (some 85) (pt B 0), .val 1 (some 86) (pt B 0), .val 2 (some 87) (pt B 150), .load 3 (some 88) 33 (pt B 150) (v), .val 4 (some 89) (.int .i64 ((openE orcB s t).1 : Int)), .idx 5 (some 90) 33 (v) (.int .i64 ((openE orcB s t).1 : Int)) (pt g o), .val 6 (some 91) (pt g (o + 2))] ⟨ld_lk (s := { s with va := (giveB s.va t.iv.ro t.iv.re (amV t)).1 }) (hM.at 1 rfl), HI.out _, trivial⟩ ?_
    refine sF 3 (pt g (o + 2)) (.int .i64 3) (hst) ?_
    refine dF ?_
    try simp only [puts, Tk.put, Act.put, List.setIfInBounds_toArray, List.set_cons_zero, List.set_cons_succ]
    have fin : EndL w B b0 (canP s t) (.returned (.tuple #[])) W2 := end_fin (s' := { s with va := (giveB s.va t.iv.ro t.iv.re (amV t)).1, lk := endE s.lk (openE orcB s t).1 3 }) hBb hb0 hM (hM.at 1 rfl) hg hgr (by unfold canP; rw [if_neg h1.out, if_pos hs0.out, if_neg h2.out, if_neg h3.out]) (fun u => rfl) hO2
    clear hs0 h1
    go_wp2_with fail
    go_end0
    exact fin
  have hs0 : Hid (¬ (s.sd > 0)) := Lib.hid (by omega)
  clear hsd
  go_upto_region 3 with fail
  refine wp_region_fromM (fun W => Mem w (some B) [(w.heap.size, 44, txc t), (B, 35, stc s v)] W) hM ?_
  clear hM
  rintro Y12 hM
  refine tF 1 [.val 0 (some 17) (pt B 0)] trivial ?_
  refine cF (some 18) 85 #[pt B 0] ((receives_not hs0.out v _ (hM.at 1 rfl)).mono ?_)
  rintro e W1 ⟨rfl, rfl⟩
  refine dF ?_
  try simp only [puts, Tk.put, Act.put, List.setIfInBounds_toArray, List.set_cons_zero, List.set_cons_succ]
  by_cases hl : s.tm < t.vr.x
  case pos =>
    go_upto_region 6 with fail
    refine wp_region_fromM (fun W => Mem w (some B) [(w.heap.size, 44, txc t), (B, 35, stc s v)] W) hM ?_
    clear hM
    rintro Y13 hM
    refine tF 10 [.alt 0 (some 46) (.bool (decide (s.tm < t.vr.x))) (.bool true), .val 1 (some 47) (.bool false), .val 2 (some 48) (.bool false), .val 3 (some 49) (pt w.heap.size 0), .load 4 (some 50) 3 (pt w.heap.size 0) (.int .i64 t.fr), .val 5 (some 51) (pt w.heap.size 8), .val 6 (some 52) (pt w.heap.size 10), .load 7 (some 53) 3 (pt w.heap.size 10) (.int .i64 t.iv.ro), .val 8 (some 54) (.bool (t.fr == t.iv.ro)), .val 9 (some 55) (.bool (t.fr == t.iv.ro))] ⟨congrArg Value.bool (decide_eq_true hl), ld_int (hM.at 0 rfl) 0 rfl, ld_int (hM.at 0 rfl) 10 rfl, trivial⟩ ?_
    refine cF (some 56) 57 #[.bool (t.fr == t.iv.ro), .int .i64 37] ((demand_any _ _ _).mono ?_)
    rintro e W1 (⟨h, rfl, rfl⟩ | ⟨h, rfl, rfl⟩)
    case inr => exact And.intro rfl (EndL.pan hM.g hb0 (by decide) (by unfold canP; rw [if_neg h1.out, if_neg hs0.out, if_pos (And.intro hl (ne_of_beq_false h))]) rfl (BlkN.of (hM.at 1 rfl)))
    have h2 : Hid (¬ (s.tm < t.vr.x ∧ ¬ t.fr = t.iv.ro)) := Lib.hid (fun e => e.2 (eq_of_beq h))
    clear h
    refine dF ?_
    try simp only [puts, Tk.put, Act.put, List.setIfInBounds_toArray, List.set_cons_zero, List.set_cons_succ]
    go_upto_region 7 with fail
    refine wp_region_M (fun W => Mem w (some B) [(w.heap.size, 44, txc t)] W) (fun W => Mem w (some B) [(w.heap.size, 44, txc t), (B, 35, stc s v)] W) hmx hM.drew ?_
    clear hM
    rintro Y14 hM
    have hS := hM.sub (.cons_cons _ (.cons _ .slnil))
    refine tD 8 [.val 0 (some 57) (pt B 0), .val 1 (some 58) (pt B 0), .val 2 (some 59) (pt B 0), .val 3 (some 60) (pt B 2), .val 5 (some 62) (pt w.heap.size 8), .val 6 (some 63) (pt w.heap.size 8), .load 7 (some 64) 3 (pt w.heap.size 8) (.int .i64 t.iv.us), .val 8 (some 65) (pt w.heap.size 8), .val 9 (some 66) (pt w.heap.size 11), .load 10 (some 67) 3 (pt w.heap.size 11) (.int .i64 t.iv.se), .val 11 (some 68) (pt w.heap.size 15), .val 12 (some 69) (pt w.heap.size 15), .load 13 (some 70) 28 (pt w.heap.size 15) (wn (amV t))] ⟨fun W h => ld_int (h.at 0 rfl) 8 rfl, fun W h => ld_int (h.at 0 rfl) 11 rfl, fun W h => ld_av (h.at 0 rfl) ht, trivial⟩ hS ?_
    refine oD 4 7 (lD (some 61) 31 (pt B 2) (bkv s.pu) (ld_pu (s := s) (hM.at 1 rfl)) (hS) ?_)
    refine oD 14 6 (cD (some 71) 80 #[bkv s.pu, .int .i64 t.iv.us, .int .i64 t.iv.se, wn (amV t)] ((HB.out _).mono ?_))
    rintro e W1 ⟨rfl, hb⟩
    refine And.intro (hS.below hb) ?_
    replace hS := hS.below hb
    replace hM := hM.below hb
    clear hb
    refine tD 4 [.val 15 (some 72) (bkv ((giveB s.pu t.iv.us t.iv.se (amV t)).1)), .val 16 (some 73) (.int .i64 ((giveB s.pu t.iv.us t.iv.se (amV t)).2))] trivial hS ?_
    refine oD 17 3 (cD (some 74) 60 #[bkv ((giveB s.pu t.iv.us t.iv.se (amV t)).1), .int .i64 ((giveB s.pu t.iv.us t.iv.se (amV t)).2)] ((must_two _ _ _).mono ?_))
    rintro e W2 (⟨hc, rfl, hb⟩ | ⟨hc, rfl, hb⟩)
    case inr =>
      replace hM := hM.below hb
      exact And.intro rfl (EndL.pan hM.g hb0 hc (by unfold canP; rw [if_neg h1.out, if_neg hs0.out, if_neg h2.out, if_pos hc]) rfl (BlkN.of (hM.at 1 rfl)))
    refine And.intro (hS.below hb) ?_
    replace hS := hS.below hb
    replace hM := hM.below hb
    clear hb
    refine tD 1 [.val 18 (some 75) (pt B 0), .val 19 (some 76) (pt B 2)] trivial hS ?_
    have hM1 := hM.set 1 (cs' := stc ({ s with pu := (giveB s.pu t.iv.us t.iv.se (amV t)).1 }) v) rfl rfl
    refine oD 20 0 (sD 31 (pt B 2) (bkv ((giveB s.pu t.iv.us t.iv.se (amV t)).1)) (sto_pu (hM.at 1 rfl) _) (hM1.sub (.cons_cons _ (.cons _ .slnil))) ?_)
    replace hS := hM1.sub (.cons_cons _ (.cons _ .slnil))
    replace hM := hM1
    clear hM1
    generalize World.setRow _ _ _ = Y15 at *
    refine dD ?_
    try simp only [puts, Tk.put, Act.put, List.setIfInBounds_toArray, List.set_cons_zero, List.set_cons_succ]
    clear hS
    have h3 := Lib.hid (not_not_intro hc)
    clear hc
    go_upto_region 8 with fail
    refine wp_region_fromM (fun W => Mem w (some B) [(w.heap.size, 44, txc t), (B, 35, stc ({ s with pu := (giveB s.pu t.iv.us t.iv.se (amV t)).1 }) v)] W) hM ?_
    clear hM
    rintro Y16 hM
    refine tF 7 [.val 0 (some 77) (pt B 0), .val 1 (some 78) (pt w.heap.size 8), .val 2 (some 79) (pt w.heap.size 11), .load 3 (some 80) 3 (pt w.heap.size 11) (.int .i64 t.iv.se), .val 4 (some 81) (pt w.heap.size 15), .val 5 (some 82) (pt w.heap.size 15), .load 6 (some 83) 28 (pt w.heap.size 15) (wn (amV t))] ⟨ld_int (hM.at 0 rfl) 11 rfl, ld_av (hM.at 0 rfl) ht, trivial⟩ ?_
    refine cF (some 84) 83 #[pt B 0, .int .i64 t.iv.se, wn (amV t)] ((shrinkI_any ({ s with pu := (giveB s.pu t.iv.us t.iv.se (amV t)).1 }) _ hz.1 HS.out hn _ (hM.at 1 rfl)).mono ?_)
    rintro e W1 h
    rcases h.two with ⟨h0, rfl, hg, hN⟩ | ⟨h0, rfl, _⟩
    case inr => exact And.intro rfl (EndL.fail hM.g hb0 h h0 (by unfold canP; rw [if_neg h1.out, if_neg hs0.out, if_neg h2.out, if_neg h3.out, if_pos h0]))
    rw [shrinkE_ok h0] at hN
    replace hM := hM.call 1 (cs' := stc { s with pu := (giveB s.pu t.iv.us t.iv.se (amV t)).1, he := updB s.he t.iv.se.toNat (s.he t.iv.se.toNat - amV t) } v) rfl rfl hg hN
    have h7 := Lib.hid (not_not_intro h0)
    clear h h0 hg hN
    refine dF ?_
    try simp only [puts, Tk.put, Act.put, List.setIfInBounds_toArray, List.set_cons_zero, List.set_cons_succ]
    go_upto_region 9 with fail
    refine wp_region_fromM (fun W => Mem w (some B) [(w.heap.size, 44, txc t), (B, 35, stc { s with pu := (giveB s.pu t.iv.us t.iv.se (amV t)).1, he := updB s.he t.iv.se.toNat (s.he t.iv.se.toNat - amV t) } v)] W) hM ?_
    clear hM
    rintro Y17 hM
    have hO := HO.out.grown hBb hM.g
    obtain ⟨g, o, W2, hi, hst, hg, hgr, hO2⟩ := own_end hO HX.out 3
    have HI := Lib.hid hi
    clear hi
    refine tF 7 [.val 0 (some 85) (pt B 0), .val 1 (some 86) (pt B 0), .val 2 (some 87) (pt B 150), .load 3 (some 88) 33 (pt B 150) (v), .val 4 (some 89) (.int .i64 ((openE orcB s t).1 : Int)), .idx 5 (some 90) 33 (v) (.int .i64 ((openE orcB s t).1 : Int)) (pt g o), .val 6 (some 91) (pt g (o + 2))] ⟨ld_lk (s := { s with pu := (giveB s.pu t.iv.us t.iv.se (amV t)).1, he := updB s.he t.iv.se.toNat (s.he t.iv.se.toNat - amV t) }) (hM.at 1 rfl), HI.out _, trivial⟩ ?_
    refine sF 3 (pt g (o + 2)) (.int .i64 3) (hst) ?_
    refine dF ?_
    try simp only [puts, Tk.put, Act.put, List.setIfInBounds_toArray, List.set_cons_zero, List.set_cons_succ]
    have fin : EndL w B b0 (canP s t) (.returned (.tuple #[])) W2 := end_fin (s' := { s with pu := (giveB s.pu t.iv.us t.iv.se (amV t)).1, he := updB s.he t.iv.se.toNat (s.he t.iv.se.toNat - amV t), lk := endE s.lk (openE orcB s t).1 3 }) hBb hb0 hM (hM.at 1 rfl) hg hgr (by unfold canP; rw [if_neg h1.out, if_neg hs0.out, if_neg h2.out, if_neg h3.out, if_neg h7.out]) (fun u => rfl) hO2
    clear hs0 h1
    go_wp2_with fail
    go_end0
    exact fin
  go_upto_region 6 with fail
  refine wp_region_fromM (fun W => Mem w (some B) [(w.heap.size, 44, txc t), (B, 35, stc s v)] W) hM ?_
  clear hM
  rintro Y18 hM
  refine tF 10 [.alt 0 (some 46) (.bool (decide (s.tm < t.vr.x))) (.bool false), .val 1 (some 47) (.bool true), .val 2 (some 48) (.bool true), .skip 3 (some 49), .skip 4 (some 50), .skip 5 (some 51), .skip 6 (some 52), .skip 7 (some 53), .skip 8 (some 54), .val 9 (some 55) (.bool true)] ⟨congrArg Value.bool (decide_eq_false hl), trivial⟩ ?_
  refine cF (some 56) 57 #[.bool true, .int .i64 37] ((demand_any _ _ _).mono ?_)
  rintro e W1 (⟨h, rfl, rfl⟩ | ⟨h, rfl, rfl⟩)
  case inr => exact absurd h (by decide)
  have h2 : Hid (¬ (s.tm < t.vr.x ∧ ¬ t.fr = t.iv.ro)) := Lib.hid (fun e => hl e.1)
  clear h
  refine dF ?_
  try simp only [puts, Tk.put, Act.put, List.setIfInBounds_toArray, List.set_cons_zero, List.set_cons_succ]
  go_upto_region 7 with fail
  refine wp_region_M (fun W => Mem w (some B) [(w.heap.size, 44, txc t)] W) (fun W => Mem w (some B) [(w.heap.size, 44, txc t), (B, 35, stc s v)] W) hmx hM.drew ?_
  clear hM
  rintro Y19 hM
  have hS := hM.sub (.cons_cons _ (.cons _ .slnil))
  refine tD 8 [.val 0 (some 57) (pt B 0), .val 1 (some 58) (pt B 0), .val 2 (some 59) (pt B 0), .val 3 (some 60) (pt B 2), .val 5 (some 62) (pt w.heap.size 8), .val 6 (some 63) (pt w.heap.size 8), .load 7 (some 64) 3 (pt w.heap.size 8) (.int .i64 t.iv.us), .val 8 (some 65) (pt w.heap.size 8), .val 9 (some 66) (pt w.heap.size 11), .load 10 (some 67) 3 (pt w.heap.size 11) (.int .i64 t.iv.se), .val 11 (some 68) (pt w.heap.size 15), .val 12 (some 69) (pt w.heap.size 15), .load 13 (some 70) 28 (pt w.heap.size 15) (wn (amV t))] ⟨fun W h => ld_int (h.at 0 rfl) 8 rfl, fun W h => ld_int (h.at 0 rfl) 11 rfl, fun W h => ld_av (h.at 0 rfl) ht, trivial⟩ hS ?_
  refine oD 4 7 (lD (some 61) 31 (pt B 2) (bkv s.pu) (ld_pu (s := s) (hM.at 1 rfl)) (hS) ?_)
  refine oD 14 6 (cD (some 71) 80 #[bkv s.pu, .int .i64 t.iv.us, .int .i64 t.iv.se, wn (amV t)] ((HB.out _).mono ?_))
  rintro e W1 ⟨rfl, hb⟩
  refine And.intro (hS.below hb) ?_
  replace hS := hS.below hb
  replace hM := hM.below hb
  clear hb
  refine tD 4 [.val 15 (some 72) (bkv ((giveB s.pu t.iv.us t.iv.se (amV t)).1)), .val 16 (some 73) (.int .i64 ((giveB s.pu t.iv.us t.iv.se (amV t)).2))] trivial hS ?_
  refine oD 17 3 (cD (some 74) 60 #[bkv ((giveB s.pu t.iv.us t.iv.se (amV t)).1), .int .i64 ((giveB s.pu t.iv.us t.iv.se (amV t)).2)] ((must_two _ _ _).mono ?_))
  rintro e W2 (⟨hc, rfl, hb⟩ | ⟨hc, rfl, hb⟩)
  case inr =>
    replace hM := hM.below hb
    exact And.intro rfl (EndL.pan hM.g hb0 hc (by unfold canP; rw [if_neg h1.out, if_neg hs0.out, if_neg h2.out, if_pos hc]) rfl (BlkN.of (hM.at 1 rfl)))
  refine And.intro (hS.below hb) ?_
  replace hS := hS.below hb
  replace hM := hM.below hb
  clear hb
  refine tD 1 [.val 18 (some 75) (pt B 0), .val 19 (some 76) (pt B 2)] trivial hS ?_
  have hM1 := hM.set 1 (cs' := stc ({ s with pu := (giveB s.pu t.iv.us t.iv.se (amV t)).1 }) v) rfl rfl
  refine oD 20 0 (sD 31 (pt B 2) (bkv ((giveB s.pu t.iv.us t.iv.se (amV t)).1)) (sto_pu (hM.at 1 rfl) _) (hM1.sub (.cons_cons _ (.cons _ .slnil))) ?_)
  replace hS := hM1.sub (.cons_cons _ (.cons _ .slnil))
  replace hM := hM1
  clear hM1
  generalize World.setRow _ _ _ = Y20 at *
  refine dD ?_
  try simp only [puts, Tk.put, Act.put, List.setIfInBounds_toArray, List.set_cons_zero, List.set_cons_succ]
  clear hS
  have h3 := Lib.hid (not_not_intro hc)
  clear hc
  go_upto_region 8 with fail
  refine wp_region_fromM (fun W => Mem w (some B) [(w.heap.size, 44, txc t), (B, 35, stc ({ s with pu := (giveB s.pu t.iv.us t.iv.se (amV t)).1 }) v)] W) hM ?_
  clear hM
  rintro Y21 hM
  refine tF 7 [.val 0 (some 77) (pt B 0), .val 1 (some 78) (pt w.heap.size 8), .val 2 (some 79) (pt w.heap.size 11), .load 3 (some 80) 3 (pt w.heap.size 11) (.int .i64 t.iv.se), .val 4 (some 81) (pt w.heap.size 15), .val 5 (some 82) (pt w.heap.size 15), .load 6 (some 83) 28 (pt w.heap.size 15) (wn (amV t))] ⟨ld_int (hM.at 0 rfl) 11 rfl, ld_av (hM.at 0 rfl) ht, trivial⟩ ?_
  refine cF (some 84) 83 #[pt B 0, .int .i64 t.iv.se, wn (amV t)] ((shrinkI_any ({ s with pu := (giveB s.pu t.iv.us t.iv.se (amV t)).1 }) _ hz.1 HS.out hn _ (hM.at 1 rfl)).mono ?_)
  rintro e W1 h
  rcases h.two with ⟨h0, rfl, hg, hN⟩ | ⟨h0, rfl, _⟩
  case inr => exact And.intro rfl (EndL.fail hM.g hb0 h h0 (by unfold canP; rw [if_neg h1.out, if_neg hs0.out, if_neg h2.out, if_neg h3.out, if_pos h0]))
  rw [shrinkE_ok h0] at hN
  replace hM := hM.call 1 (cs' := stc { s with pu := (giveB s.pu t.iv.us t.iv.se (amV t)).1, he := updB s.he t.iv.se.toNat (s.he t.iv.se.toNat - amV t) } v) rfl rfl hg hN
  have h7 := Lib.hid (not_not_intro h0)
  clear h h0 hg hN
  refine dF ?_
  try simp only [puts, Tk.put, Act.put, List.setIfInBounds_toArray, List.set_cons_zero, List.set_cons_succ]
  go_upto_region 9 with fail
  refine wp_region_fromM (fun W => Mem w (some B) [(w.heap.size, 44, txc t), (B, 35, stc { s with pu := (giveB s.pu t.iv.us t.iv.se (amV t)).1, he := updB s.he t.iv.se.toNat (s.he t.iv.se.toNat - amV t) } v)] W) hM ?_
  clear hM
  rintro Y22 hM
  have hO := HO.out.grown hBb hM.g
  obtain ⟨g, o, W2, hi, hst, hg, hgr, hO2⟩ := own_end hO HX.out 3
  have HI := Lib.hid hi
  clear hi
  refine tF 7 [.val 0 (some 85) (pt B 0), .val 1 (some 86) (pt B 0), .val 2 (some 87) (pt B 150), .load 3 (some 88) 33 (pt B 150) (v), .val 4 (some 89) (.int .i64 ((openE orcB s t).1 : Int)), .idx 5 (some 90) 33 (v) (.int .i64 ((openE orcB s t).1 : Int)) (pt g o), .val 6 (some 91) (pt g (o + 2))] ⟨ld_lk (s := { s with pu := (giveB s.pu t.iv.us t.iv.se (amV t)).1, he := updB s.he t.iv.se.toNat (s.he t.iv.se.toNat - amV t) }) (hM.at 1 rfl), HI.out _, trivial⟩ ?_
  refine sF 3 (pt g (o + 2)) (.int .i64 3) (hst) ?_
  refine dF ?_
  try simp only [puts, Tk.put, Act.put, List.setIfInBounds_toArray, List.set_cons_zero, List.set_cons_succ]
  have fin : EndL w B b0 (canP s t) (.returned (.tuple #[])) W2 := end_fin (s' := { s with pu := (giveB s.pu t.iv.us t.iv.se (amV t)).1, he := updB s.he t.iv.se.toNat (s.he t.iv.se.toNat - amV t), lk := endE s.lk (openE orcB s t).1 3 }) hBb hb0 hM (hM.at 1 rfl) hg hgr (by unfold canP; rw [if_neg h1.out, if_neg hs0.out, if_neg h2.out, if_neg h3.out, if_neg h7.out]) (fun u => rfl) hO2
  clear hs0 h1
  go_wp2_with fail
  go_end0
  exact fin
end Go.Proofs.YtfoemkmoambagaaGreat
