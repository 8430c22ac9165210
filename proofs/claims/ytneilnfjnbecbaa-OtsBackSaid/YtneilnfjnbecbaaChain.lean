/-
  ots.chain: a text's chain, link by link; ots.Walk.
-/
import Derived.Test.YtneilnfjnbecbaaConvB
import Derived.Test.YtneilnfjnbecbaaSeqRel
import Derived.Outline
namespace Go.Proofs.Ytneilnfjnbecbaa
open Go.RowKit Go.Shelf
attribute [local go_sem] Oper.semAt_some

theorem bsl_allBut {lo hi B l : Nat} {W W' : World} {sv : Value} {zs : List UInt8} (h : BSl lo hi W sv zs) (hk : AllBut B l W W') (hh : hi ≤ W.heap.size) (hB : B < lo ∨ hi ≤ B) (hl : l < lo ∨ hi ≤ l) : BSl lo hi W' sv zs := by
  obtain ⟨a, cap, e, hc, h0 | ⟨b, off, ha, h1, h2, ho⟩⟩ := h
  · exact ⟨a, cap, e, hc, .inl h0⟩
  · exact ⟨a, cap, e, hc, .inr ⟨b, off, ha, h1, h2, fun k x hx => (World.cell?_of_block (a := ⟨b, _, none⟩) (hk.2 b (by omega) (by omega) (by omega))).trans (ho k x hx)⟩⟩
theorem bsl_own {lo hi : Nat} {W W' : World} {row : Option Nat} {sv : Value} {zs : List UInt8} (h : BSl lo hi W sv zs) (hh : hi ≤ W.heap.size) (hg : W.grownBy W' row) (hr : ∀ r, row = some r → ∃ o : Obj, W.heap[r]? = some o ∧ o.isCells = false) : BSl lo hi W' sv zs := by
  obtain ⟨a, cap, e, hc, h0 | ⟨b, off, ha, h1, h2, ho⟩⟩ := h
  · exact ⟨a, cap, e, hc, .inl h0⟩
  · refine ⟨a, cap, e, hc, .inr ⟨b, off, ha, h1, h2, fun k x hx => ?_⟩⟩
    have hc := ho k x hx
    refine (World.cell?_of_block (a := ⟨b, _, none⟩) (hg.block b (by omega) (fun e => ?_))).trans hc
    obtain ⟨o, ho', hoc⟩ := hr b e.symm
    simp only [World.cell?, ho'] at hc
    cases o <;> first | (cases hoc; done) | (simp at hc)

/-- The link at hand: below the iterator's own blocks, or behind them. -/
def LinkAt (lo hi n : Nat) (W : World) (v : Value) (l : List UInt8) : Prop := BSl lo hi W v l ∨ BSl n W.heap.size W v l
theorem LinkAt.bsl {lo hi n : Nat} {W : World} {v : Value} {l : List UInt8} (h : LinkAt lo hi n W v l) (h1 : lo ≤ n) (h2 : hi ≤ W.heap.size) : BSl lo W.heap.size W v l := by
  rcases h with h | h
  · exact h.mono (Nat.le_refl _) h2
  · exact h.mono h1 (Nat.le_refl _)
theorem LinkAt.allBut {lo hi n B l : Nat} {W W' : World} {v : Value} {zs : List UInt8} (h : LinkAt lo hi n W v zs) (hk : AllBut B l W W') (h2 : hi ≤ W.heap.size) (hlo : lo ≤ n) (hB : B < lo) (hl : hi ≤ l) (hln : l < n) : LinkAt lo hi n W' v zs := by
  rcases h with h | h
  · exact .inl (bsl_allBut h hk h2 (.inl hB) (.inr hl))
  · exact .inr ((bsl_allBut h hk (Nat.le_refl _) (.inl (by omega)) (.inl hln)).mono (Nat.le_refl _) hk.1)

set_option maxRecDepth 100000 in
set_option maxHeartbeats 4000000 in
theorem chain1_rel (m : Nat) (hm : 1 ≤ m) (s : ByteArray) (hs : s.size ≤ 140737488353000) (N : Nat) (hN : N ≤ 3) (B Bl Bk : Nat) (lv : Value) (w : World) (hB : B < w.heap.size) (kl : Boxed w Bl 22 lv) (kk : Boxed w Bk 3 (.int .i64 (N : Nat))) (hl : BSl (B + 1) w.heap.size w lv s.data.toList) :
    SeqRel Fence.wide m Try.prog 51 #[.pointer (some ⟨Bl, 0, none⟩), .pointer (some ⟨Bk, 0, none⟩)] (N + 1) (fun k r W => ∃ y : Value, BSl (B + 1) W.heap.size W y (linkB s k).data.toList ∧ r = #[y]) (AllBut B) w := fun l J W hW hl0 hlW hJ hY h0 => by
  have hcl : Boxed W Bl 22 lv := (hW.block Bl kl.lt).trans kl
  have hck : Boxed W Bk 3 (.int .i64 (N : Nat)) := (hW.block Bk kk.lt).trans kk
  replace hl := hl.below hW (Nat.le_refl _)
  have h1 : 1 ≤ m := hm
  have cl := hcl.cell
  have ck := hck.cell
  have hwW := hW.size
  obtain ⟨la, lc, hle⟩ := bsl_slice hl
  subst hle
  refine callsIn_of_wp Try.func51 rfl trivial ?_ rfl
  simp only [Try.ntmps51, List.size_toArray, List.length_cons, List.length_nil, Nat.reduceAdd, Nat.reduceSub, Array.replicate_succ, Array.replicate_zero, List.push_toArray, List.append_toArray, List.nil_append, List.cons_append]
  have HL : LinkAt (B + 1) w.heap.size W.heap.size W (.slice la s.data.toList.length lc) (linkB s 0).data.toList := .inl hl
  clear hl
  generalize s.data.toList.length = sl at *
  gi_wp2
  clear cl ck
  gi_loopw [4, 7] (fun v i wr => ∃ k : Nat, k ≤ N ∧ i = .int .i64 (k : Nat) ∧ LinkAt (B + 1) w.heap.size W.heap.size wr v (linkB s k).data.toList ∧ J k wr ∧ W.heap.size ≤ wr.heap.size) (fun _ i _ => N - (intOf i).toNat)
  case atStart => exact ⟨0, by omega, rfl, HL, h0, Nat.le_refl _⟩
  clear HL h0 hcl hck
  case round =>
    obtain ⟨k, hk, rfl, hlk, hJk, hsz⟩ := hrel
    have hbs := hlk.bsl (by omega) (by omega)
    obtain ⟨va, vc, hve⟩ := bsl_slice hbs
    subst hve
    obtain ⟨fn, tmps, assign, body, hy, hR⟩ := hY k #[.slice va (linkB s k).data.toList.length vc] wr (by omega) ⟨_, hbs, rfl⟩ hJk
    have hLk : (linkB s k).data.toList.length ≤ 140737488353000 := by
      have := linkB_size s k
      rw [show (linkB s k).data.toList.length = (linkB s k).size from rfl]
      omega
    generalize hL : (linkB s k).data.toList.length = len at *
    have HLn := Lib.hid hL
    clear hL
    by_cases hlt : k < N
    · have hlt' : (k : Int) < (N : Int) := by omega
      gi_wp2
      clear hy
      refine hR.mono ?_
      rintro e W3 ⟨rfl, hJ3, hk3⟩
      replace hlk := hlk.allBut hk3 (by omega) (by omega) (by omega) hl0 hlW
      have hsz3 := Nat.le_trans hsz hk3.1
      replace hbs := hlk.bsl (by omega) (by omega)
      gi_wp2_with fail
      refine ⟨trivial, ?_⟩
      refine (callsIn_wide.2 (short_one W3 _ _ (hbs.mono (Nat.zero_le _) (Nat.le_refl _)) (by rw [HLn.out]; exact hLk))).mono ?_
      rintro e W4 ⟨rfl, hb4⟩
      obtain ⟨c5, W5, hcv, hc5, hb5, hz5, ho5⟩ := conv_bytes W4 (shortB (linkB s k).data.toList)
      have hnew := conv_bsl hc5 hz5 ho5
      have hb35 : Below W3.heap.size W3 W5 := chain hb4 hb5
      have hJ5 := hJ (k + 1) W3 W5 none hJ3 (grown_of_below hb35) (by simp)
      have hsz5 := Nat.le_trans hsz3 hb35.size
      have hsz4 := Nat.le_trans hsz3 hb4.size
      have HN : LinkAt (B + 1) w.heap.size W.heap.size W5 (.slice (some ⟨W4.heap.size, 0, none⟩) (shortB (linkB s k).data.toList).size c5) (linkB s (k + 1)).data.toList := .inr (hnew.mono hsz4 (Nat.le_refl _))
      clear hbs hlk hc5 hz5 ho5 hnew
      generalize hq : (shortB (linkB s k).data.toList).size = q5 at *
      have HQ := Lib.hid hq
      clear hq
      gi_wp2_with fail
      go_roundw
      case rel => exact ⟨k + 1, by omega, by simp, HN, hJ5, hsz5⟩
      case measure => simp [intOf]; omega
    · obtain rfl : k = N := by omega
      gi_wp2
      clear hy
      refine hR.mono ?_
      rintro e W3 ⟨rfl, hJ3, hk3⟩
      gi_wp2
      go_end0
      exact ⟨⟨_, rfl⟩, hJ3⟩

set_option maxHeartbeats 1000000 in
theorem chain_in (F : Fence) (m : Nat) (h : F.fn 29) (hro : F.round = none) (a : Option Addr) (len cap : Nat) (N : Int) (w : World) :
    CallsIn F m Try.prog 29 #[.slice a len cap, .int .i64 N] w fun e w' => e = .returned (.func (.func 51) #[] #[.pointer (some ⟨w.heap.size, 0, none⟩), .pointer (some ⟨w.heap.size + 1, 0, none⟩)]) ∧ w' = (w.alloc (.cells #[.slice a len cap] 22)).alloc (.cells #[.int .i64 N] 3) := by
  refine callsIn_of_wp Try.func29 rfl h ?_ hro
  simp only [Try.ntmps29, List.size_toArray, List.length_cons, List.length_nil, Nat.reduceAdd, Nat.reduceSub, Array.replicate_succ, Array.replicate_zero, List.push_toArray, List.append_toArray, List.nil_append, List.cons_append]
  gi_wp2
  go_ret
  exact ⟨rfl, rfl⟩

/-- How many steps are gone. -/
def stp (n : Int) : Nat := if n ≤ 0 then 0 else if 3 ≤ n then 3 else n.toNat
theorem stp_le (n : Int) : stp n ≤ 3 := by unfold stp; split <;> (try split) <;> omega
theorem stp_cases (z : Int) : (z < 0 ∧ (stp z : Int) = 0) ∨ (0 ≤ z ∧ z ≤ 3 ∧ (stp z : Int) = z) ∨ (3 < z ∧ (stp z : Int) = 3) := by
  unfold stp
  by_cases h1 : z < 0
  · left; rw [if_pos (by omega)]; exact ⟨h1, rfl⟩
  · by_cases h2 : z ≤ 3
    · right; left
      refine ⟨by omega, h2, ?_⟩
      split <;> (try split) <;> omega
    · right; right
      rw [if_neg (by omega), if_pos (by omega)]; exact ⟨by omega, rfl⟩
theorem stp_of {k : Nat} (h : k ≤ 3) : stp (k : Int) = k := by unfold stp; split <;> (try split) <;> omega

/-- Between two rounds. -/
def WalkI (B : Nat) (s : ByteArray) (w : World) (k : Nat) (W : World) : Prop := (∃ v, Boxed W B 22 v ∧ (1 ≤ k → BSl (B + 1) W.heap.size W v (linkB s (k - 1)).data.toList)) ∧ Below w.heap.size w W
theorem walkI_own {B : Nat} {s : ByteArray} {w : World} {C : Nat} (hC : w.heap.size ≤ C) : OwnFrom C (WalkI B s w) :=
  OwnFrom.and (fun _ X Y row ⟨v, hv, hb⟩ hg hr => ⟨v, blk_own B 22 (fun _ : Unit => [v]) () X Y row hv hg (fun r e => (hr r e).2), fun hk => (bsl_own (hb hk) (Nat.le_refl _) hg (fun r e => (hr r e).2)).mono (Nat.le_refl _) hg.size⟩) (ownFrom_below (Nat.le_refl _) hC)

set_option maxRecDepth 100000 in
set_option maxHeartbeats 4000000 in
theorem links_in (m : Nat) (hm : 3 ≤ m) (s : ByteArray) (hs : s.size ≤ 140737488353000) (n : Int) (w : World) :
    CallsIn Fence.wide m Try.prog 11 #[.string s, .int .i64 n] w fun e W' => e = .returned (.string (linkB s (stp n))) ∧ Below w.heap.size w W' := by
  have h1 : 1 ≤ m := by omega
  refine callsIn_of_wp_marks Try.func11 rfl trivial ?_ rfl
  simp only [Try.ntmps11, List.size_toArray, List.length_cons, List.length_nil, Nat.reduceAdd, Nat.reduceSub, Array.replicate_succ, Array.replicate_zero, List.push_toArray, List.append_toArray, List.nil_append, List.cons_append]
  obtain ⟨c1, W1, hcv, hc1, hb1, hz1, ho1⟩ := conv_bytes (w.alloc (.cells #[.slice none 0 0] 22)) s
  have hb1' : Below w.heap.size w W1 := chain (chain0 _ _) hb1
  have hz1' : W1.heap.size = w.heap.size + 2 := by rw [hz1]; simp
  have hnew := conv_bsl hc1 hz1 ho1
  have kb : Boxed W1 w.heap.size 22 (.slice none 0 0) := (hb1.block w.heap.size (by simp)).trans (Boxed.new _ _ _)
  have hze : (w.alloc (.cells #[.slice none 0 0] 22)).heap.size = w.heap.size + 1 := by simp
  rw [hze] at hnew hcv
  have h3 := stp_le n
  have hCC := stp_cases n
  have HZ1 := Lib.hid hz1'
  clear hz1 hz1' ho1 hb1 hze
  generalize stp n = N at *
  rcases hCC with ⟨hc0, hC⟩ | ⟨hc0, hc8, hC⟩ | ⟨hc8, hC⟩
  all_goals
    have HC := Lib.hid hC
    clear hC
    gi_wp2_with (refine ⟨trivial, ?_⟩; gi_at_call 29; refine (chain_in Fence.wide (m - 1) trivial rfl _ _ _ _ _).mono ?_; rintro e w' ⟨rfl, rfl⟩)
    generalize hW5 : World.alloc _ _ = W5
    have k0 : Boxed W5 w.heap.size 22 (.slice none 0 0) := by rw [← hW5]; exact (kb.alloc _).alloc _
    have k1 : Boxed W5 W1.heap.size 22 (.slice (some ⟨w.heap.size + 1, 0, none⟩) s.size c1) := by rw [← hW5]; exact (Boxed.new _ _ _).alloc _
    have k2 : Boxed W5 (W1.heap.size + 1) 3 (.int .i64 (N : Nat)) := by rw [HC.out, ← hW5]; exact Blk.new' (vs := [.int .i64 _]) (by simp)
    have hB1 : Below W1.heap.size W1 W5 := by rw [← hW5]; exact chainA (chain0 _ _) _
    have hz : W5.heap.size = W1.heap.size + 2 := by rw [← hW5]; simp
    have hB0 : Below w.heap.size w W5 := chain hb1' hB1
    clear hW5
    refine wpIn_rangeFunc_relA (encs := fun y : Value => #[y]) (R := fun k y W => BSl (w.heap.size + 1) W.heap.size W y (linkB s k).data.toList) rfl h1 (gf := 51) (lb := #[.pointer (some ⟨W1.heap.size, 0, none⟩), .pointer (some ⟨W1.heap.size + 1, 0, none⟩)]) rfl trivial (enters_of Try.func51 (by kernel_rfl) rfl)
      (chain1_rel (m - 1) (by omega) s hs N h3 w.heap.size W1.heap.size (W1.heap.size + 1) _ W5 (by have := HZ1.out; omega) k1 k2 ((hnew.below hB1 (Nat.le_refl _)).mono (Nat.le_refl _) hB1.size)) AllBut.t (fun X o o' _ _ _ => AllBut.b _ _ X o') (fun X => AllBut.refl _ _ X) (Below.refl _ _) (fun _ => rfl)
      (WalkI w.heap.size s w) (walkI_own hB0.size) ⟨⟨_, k0, fun h => by omega⟩, hB0⟩ (fun k y _ X Y row h hg hr => (bsl_own h (Nat.le_refl _) hg (fun r e => (hr r e).2)).mono (Nat.le_refl _) hg.size) ?_ ?_ ?_ ?_
    rotate_left
    · intro l k y W K _ hK
      gi_wp2
      exact hK
    · rintro r k y W hlt ⟨⟨v, kv, _⟩, hB⟩ hy
      obtain ⟨ya, yc, hye⟩ := bsl_slice hy
      have ko := kv.cell
      have kf := kv.frozen
      subst hye
      generalize hL : (linkB s k).data.toList.length = len at *
      have HLn := Lib.hid hL
      clear hL
      gi_wp2
      have hA : AllBut w.heap.size (W5.heap.size + 1) W (W.setCell ⟨w.heap.size, 0, none⟩ (.slice ya len yc)) := AllBut.of_grown (grownBy_setCell' W w.heap.size _)
      refine ⟨(KeepsOthers.setCell _ _ _).from _, hA, ⟨_, kv.set _, fun _ => ?_⟩, hB.setCell (p := ⟨w.heap.size, 0, none⟩) (Nat.le_refl _) _⟩
      have := (hy.kept (Nat.le_refl _) (grownBy_setCell' W w.heap.size (.slice ya len yc)) (fun r e => by cases e; omega)).mono (Nat.le_refl _) hA.1
      exact this
    · rintro D W hD ⟨⟨v, kv, hv⟩, hB⟩ hK
      replace hv := hv (by omega)
      rw [show N + 1 - 1 = N from rfl] at hv
      have ko := kv.cell
      have hcs := run_string (P := Try.prog) 22 5 9 Try.underlying22 Try.underlying5 Try.underlying9 W hv
      obtain ⟨va, vc, hve⟩ := bsl_slice hv
      subst hve
      generalize hL : (linkB s N).data.toList.length = len at *
      have HLn := Lib.hid hL
      have HZ := Lib.hid hz
      clear hL hz
      gi_wp2_with fail
      have hB' := hB.trans (belowK_b (w := w) (Nat.le_refl _) _ D _ (.deferred none) (by have := HZ.out; have := hb1'.size; omega) hK rfl rfl)
      refine ⟨by simp, .inl ⟨_, _, rfl, run_takeDeferred hK, ?_⟩⟩
      refine ⟨.string (linkB s N), ?_, ?_⟩
      · simp [results, Try.f11, go_sem]
      · exact ⟨rfl, hB'⟩

theorem walk_any (s : ByteArray) (hs : s.size ≤ 140737488353000) (n : Int) (w : World) :
    Calls Try.prog 11 #[.string s, .int .i64 n] w fun e W' => e = .returned (.string (linkB s (stp n))) ∧ Below w.heap.size w W' := callsIn_wide.1 (links_in 3 (by omega) s hs n w)

end Go.Proofs.Ytneilnfjnbecbaa
