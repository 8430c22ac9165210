/-
  slices.AppendSeq of digits onto a row of ints of the call's own; slices.Collect of digits.
-/
import Derived.Test.YtneilnfjnbecbaaDigits
import Derived.Test.YtneilnfjnbecbaaNum
namespace Go.Proofs.Ytneilnfjnbecbaa
open Go.RowKit Go.Shelf
attribute [local go_sem] Oper.semAt_some

theorem Try.infoInt : (Try.prog.info? 3).map (fun i => (i.zero, i.size, i.bytes)) = some (some (.int .i64 0), 1, 8) := by kernel_rfl

/-- Between two rounds. -/
def SeqII (n₀ B Bn Bm x N k : Nat) (xs ys : List Value) (w : World) (j : Nat) (W : World) : Prop :=
  (((∃ v, Boxed W B 25 v ∧ W.ownsRow n₀ 3 1 v (k + j) (xs ++ ys.take j) ∧ True) ∧ (Boxed W Bn 3 (.int .i64 (x : Nat)) ∧ Boxed W Bm 3 (.int .i64 (N : Nat)))) ∧ Below n₀ w W) ∧ Spares 3 w W
theorem seqII_own {n₀ Bb Bn Bm x N k : Nat} {xs ys : List Value} {w : World} {B : Nat} (h : n₀ ≤ w.heap.size) (hB : w.heap.size ≤ B) : OwnFrom B (SeqII n₀ Bb Bn Bm x N k xs ys w) :=
  OwnFrom.and (OwnFrom.and (OwnFrom.and (Own.from (holdsRow_own n₀ Bb 25 3 1 (fun j : Nat => k + j) (fun j => xs ++ ys.take j) (fun _ _ => True)) _)
    (OwnFrom.and (Own.from (fun _ X Y row hs hg hr => blk_own Bn 3 (fun (_ : Unit) => [.int .i64 (x : Nat)]) () X Y row hs hg hr) _)
      (Own.from (fun _ X Y row hs hg hr => blk_own Bm 3 (fun (_ : Unit) => [.int .i64 (N : Nat)]) () X Y row hs hg hr) _))) (ownFrom_below h (Nat.le_trans h hB))) (ownFrom_spares hB)
/-- What is handed back: the row. -/
def RowW (n₀ : Nat) (e : TypeId) (k : Nat) (xs : List Value) (w : World) (en : Ending) (W' : World) : Prop :=
  ∃ v', en = .returned v' ∧ W'.ownsRow n₀ e 1 v' k xs ∧ Below n₀ w W'

/-- .. and all but rows of e lies as it lay. -/
def RowSW (n₀ : Nat) (e : TypeId) (k : Nat) (xs : List Value) (w : World) (en : Ending) (W' : World) : Prop :=
  ∃ v', en = .returned v' ∧ W'.ownsRow n₀ e 1 v' k xs ∧ Below n₀ w W' ∧ Spares e w W'

set_option maxRecDepth 100000 in
set_option maxHeartbeats 4000000 in
theorem appendSeqI_in (m : Nat) (hm : 3 ≤ m) (n₀ k x N : Nat) (hk : k ≤ 1000000) (hx : x ≤ 16777215) (hN : N ≤ 16) (sv : Value) (xs : List Value) (Bn Bm : Nat) (w : World) (hn₀ : n₀ ≤ w.heap.size) (hrow : w.ownsRow n₀ 3 1 sv k xs)
    (kn : Boxed w Bn 3 (.int .i64 (x : Nat))) (km : Boxed w Bm 3 (.int .i64 (N : Nat))) (hne : (Bn < n₀ ∧ Bm < n₀) ∨ 2 ≤ k) :
    CallsIn Fence.wide m Try.prog 27 #[sv, .func (.func 47) #[] #[.pointer (some ⟨Bm, 0, none⟩), .pointer (some ⟨Bn, 0, none⟩)]] w (RowSW n₀ 3 (k + N) (xs ++ (digs x N).map iv) w) := by
  have h1 : 1 ≤ m := by omega
  obtain ⟨a, c, rfl⟩ := ownsRow_slice hrow
  refine callsIn_of_wp_marks Try.func27 rfl trivial ?_ rfl
  simp only [Try.ntmps27, List.size_toArray, List.length_cons, List.length_nil, Nat.reduceAdd, Nat.reduceSub, Array.replicate_succ, Array.replicate_zero, List.push_toArray, List.append_toArray, List.nil_append, List.cons_append]
  obtain ⟨i0, hi, hz0, hz1, hz2⟩ := info_parts Try.infoInt
  gi_wp2
  generalize hW5 : World.alloc _ _ = W5
  have k0 : Boxed W5 w.heap.size 25 (.slice a k c) := by rw [← hW5]; exact Boxed.new _ _ _
  have k1 : Boxed W5 Bn 3 (.int .i64 (x : Nat)) := by rw [← hW5]; exact kn.alloc _
  have k2 : Boxed W5 Bm 3 (.int .i64 (N : Nat)) := by rw [← hW5]; exact km.alloc _
  have hB0 : Below w.heap.size w W5 := by rw [← hW5]; exact chain0 _ _
  have hrow5 : W5.ownsRow n₀ 3 1 (.slice a k c) k xs := by rw [← hW5]; exact hrow.alloc _
  have hz : W5.heap.size = w.heap.size + 1 := by rw [← hW5]; simp
  have hBnw : Bn < w.heap.size := kn.lt
  have hBmw : Bm < w.heap.size := km.lt
  clear hW5
  refine wpIn_rangeFunc_relA rfl h1 (gf := 47) (lb := #[.pointer (some ⟨Bm, 0, none⟩), .pointer (some ⟨Bn, 0, none⟩)]) rfl trivial (enters_of Try.func47 (by kernel_rfl) rfl)
    (digits1_rel (m - 1) (by omega) x N hx hN Bn Bm W5 k1 k2) KeepB2.t (fun X o o' h2 h3 h4 => ⟨World.putObj_heap_other (by omega), World.putObj_heap_other (by omega)⟩) (fun X => ⟨rfl, rfl⟩) (Below.refl _ _) (fun _ => rfl)
    (SeqII n₀ w.heap.size Bn Bm x N k xs ((digs x N).map iv) w) (seqII_own hn₀ (by omega))
    ⟨⟨⟨⟨_, k0, by simpa using hrow5, trivial⟩, k1, k2⟩, hB0.mono hn₀⟩, Spares.of_below hB0⟩ (fun _ _ _ _ _ _ h _ _ => h) ?_ ?_ ?_ ?_
  rotate_left
  · intro l k x W K _ hK
    gi_wp2
    exact hK
  · rintro l j y W hlt ⟨⟨⟨⟨v, kv, hown, _⟩, kn, km⟩, hB⟩, hsp⟩ hy
    have ht : ((digs x N).map iv).take (j + 1) = ((digs x N).map iv).take j ++ [iv y] := by rw [List.take_add_one, List.getElem?_map, hy]; rfl
    have HT := Lib.hid ht
    clear ht hy
    have ko := kv.cell
    have kf := kv.frozen
    have hNW : n₀ ≤ W.heap.size := Nat.le_trans hn₀ hB.size
    have hn1 := own_ne (B := Bn) hown kn (by omega)
    have hn2 := own_ne (B := Bm) hown km (by omega)
    generalize ((digs x N).map iv).take j = zs at *
    gi_wp2_with (gi_at_builtin; refine wpListIn_append_own _ rfl _ _ 25 rfl n₀ 3 i0 (.int .i64 0) 1 8 Try.underlying25 hi hz0 hz1 hz2 rfl (by decide) v (k + j) (xs ++ zs) rfl (hown.alloc _) ⟨W.heap.size, 0, none⟩ 1 1 [iv y] rfl rfl (cell_one_new _ _ _) (by simp [Value.oneCell']) (by unfold maxLen; omega) (by omega) (by simp; omega) ?_; intro v' w1 hown' hgrow _; obtain ⟨g, cap, rfl⟩ := ownsRow_succ hown'; obtain ⟨hv1, kv', hrow', hk3, hbw⟩ := kv.appended (by decide) hown hNW hn₀ hown' hgrow; have ko1 := hv1.cell; have kf1 := hv1.frozen)
    have kn1 : Boxed w1 Bn 3 (.int .i64 (x : Nat)) := (kn.alloc _).kept hgrow hn1
    have kn3 := kn1.kept (grownBy_setCell' w1 w.heap.size (.slice (some ⟨g, 0, none⟩) (k + j + 1) cap)) (fun e => by cases e; omega)
    have km1 : Boxed w1 Bm 3 (.int .i64 (N : Nat)) := (km.alloc _).kept hgrow hn2
    have km3 := km1.kept (grownBy_setCell' w1 w.heap.size (.slice (some ⟨g, 0, none⟩) (k + j + 1) cap)) (fun e => by cases e; omega)
    have hsp1 := ((hsp.grown (World.grownBy_alloc W (.cells #[iv y] 3) none) (fun r e => by cases e)).grown hgrow (fun r e => .inr (ownsRow_block (hown.alloc _) r e))).grown (grownBy_setCell' w1 w.heap.size (.slice (some ⟨g, 0, none⟩) (k + j + 1) cap)) (fun r e => by cases e; exact .inl (Nat.le_refl _))
    exact ⟨hk3.from _, ⟨kn3.trans kn.symm, km3.trans km.symm⟩, ⟨⟨⟨_, kv', by rw [HT.out]; simpa [Nat.add_assoc] using hrow', trivial⟩, kn3, km3⟩, hB.trans hbw⟩, hsp1⟩
  · rintro D W hD ⟨⟨⟨⟨v, kv, hown, _⟩, _⟩, hB⟩, hsp⟩ hK
    have ko := kv.cell
    have HZ := Lib.hid hz
    clear hz
    gi_wp2
    have hD' : w.heap.size ≤ D := by have := HZ.out; omega
    have hB' := hB.trans (belowK_b (w := w) hn₀ _ D _ (.deferred none) hD' hK rfl rfl)
    have hown3 := ownsRow_putObj hown (.deferred none) hK rfl
    rw [List.take_of_length_le (by simp [digs_length])] at hown3
    refine ⟨by simp, .inl ⟨_, _, rfl, run_takeDeferred hK, ?_⟩⟩
    refine ⟨v, ?_, ?_⟩
    · simp [results, Try.f27, go_sem]
    · exact ⟨v, rfl, hown3, hB', hsp.grown (grownBy_putObj' _ D (.deferred none)) (fun r e => by cases e; exact .inl hD')⟩

theorem collectI_in (m : Nat) (hm : 4 ≤ m) (x N : Nat) (hx : x ≤ 16777215) (hN : N ≤ 16) (Bn Bm : Nat) (w : World)
    (kn : Boxed w Bn 3 (.int .i64 (x : Nat))) (km : Boxed w Bm 3 (.int .i64 (N : Nat))) :
    CallsIn Fence.wide m Try.prog 24 #[.func (.func 47) #[] #[.pointer (some ⟨Bm, 0, none⟩), .pointer (some ⟨Bn, 0, none⟩)]] w (RowW w.heap.size 3 N ((digs x N).map iv) w) := by
  have h1 : 1 ≤ m := by omega
  refine callsIn_of_wp Try.func24 rfl trivial ?_ rfl
  simp only [Try.ntmps24, List.size_toArray, List.length_cons, List.length_nil, Nat.reduceAdd, Nat.reduceSub, Array.replicate_succ, Array.replicate_zero, List.push_toArray, List.append_toArray, List.nil_append, List.cons_append]
  gi_wp2_with (refine ⟨trivial, ?_⟩; gi_at_call 27; refine (appendSeqI_in (m - 1) (by omega) w.heap.size 0 x N (by omega) hx hN _ [] Bn Bm w (Nat.le_refl _) (World.ownsRow_nil _ _ _ _) kn km (.inl ⟨kn.lt, km.lt⟩)).mono ?_; rintro e w' ⟨v, rfl, hown, hb, _⟩; obtain ⟨a, c, rfl⟩ := ownsRow_slice hown)
  go_ret
  exact ⟨_, rfl, by simpa using hown, hb⟩

end Go.Proofs.Ytneilnfjnbecbaa
