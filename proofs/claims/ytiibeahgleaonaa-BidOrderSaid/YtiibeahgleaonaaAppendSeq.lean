/-
  slices.AppendSeq of a number's octets onto a row of the caller's own.
-/
import Derived.Test.YtiibeahgleaonaaNum
import Derived.Test.YtiibeahgleaonaaSpares
namespace Go.Proofs.Ytiibeahgleaonaa
open Go.RowKit Go.Shelf
attribute [local go_sem] Oper.semAt_some

/-- Between two rounds. -/
def SeqI (n₀ B Bn x k : Nat) (xs : List Value) (w : World) (pre : List UInt8) (W : World) : Prop :=
  (((∃ v, Boxed W B 27 v ∧ W.ownsRow n₀ 5 1 v (k + pre.length) (xs ++ pre.map bv) ∧ True) ∧ Boxed W Bn 22 (.int .u64 (x : Nat))) ∧ Below n₀ w W) ∧ Spares 5 w W
theorem seqI_own {n₀ Bb Bn x k : Nat} {xs : List Value} {w : World} {B : Nat} (h : n₀ ≤ w.heap.size) (hB : w.heap.size ≤ B) : OwnFrom B (SeqI n₀ Bb Bn x k xs w) :=
  OwnFrom.and (OwnFrom.and (OwnFrom.and (Own.from (holdsRow_own n₀ Bb 27 5 1 (fun pre : List UInt8 => k + pre.length) (fun pre => xs ++ pre.map bv) (fun _ _ => True)) _)
    (Own.from (fun _ X Y row hs hg hr => blk_own Bn 22 (fun (_ : Unit) => [.int .u64 (x : Nat)]) () X Y row hs hg hr) _)) (ownFrom_below h (Nat.le_trans h hB))) (ownFrom_spares hB)
/-- What AppendSeq hands back: the longer row. -/
def SeqW (n₀ k : Nat) (xs : List Value) (w : World) (e : Ending) (W' : World) : Prop :=
  ∃ v', e = .returned v' ∧ W'.ownsRow n₀ 5 1 v' k xs ∧ Below n₀ w W' ∧ Spares 5 w W'

set_option maxRecDepth 100000 in
set_option maxHeartbeats 4000000 in
theorem appendSeq_in (m : Nat) (hm : 3 ≤ m) (n₀ k x s : Nat) (hk : k ≤ 1000000) (hs : s ≤ 8) (sv : Value) (xs : List Value) (Bn Bs : Nat) (w : World) (hn₀ : n₀ ≤ w.heap.size) (hrow : w.ownsRow n₀ 5 1 sv k xs)
    (kn : Boxed w Bn 22 (.int .u64 (x : Nat))) (ks : Boxed w Bs 3 (.int .i64 (s : Nat))) :
    CallsIn Fence.wide m Try.prog 62 #[sv, .func (.func 70) #[] #[.pointer (some ⟨Bs, 0, none⟩), .pointer (some ⟨Bn, 0, none⟩)]] w (SeqW n₀ (k + s) (xs ++ (octs x s).map bv) w) := by
  have h1 : 1 ≤ m := by omega
  obtain ⟨a, c, rfl⟩ := ownsRow_slice hrow
  refine callsIn_of_wp_marks Try.func62 rfl trivial ?_ rfl
  simp only [Try.ntmps62, List.size_toArray, List.length_cons, List.length_nil, Nat.reduceAdd, Nat.reduceSub, Array.replicate_succ, Array.replicate_zero, List.push_toArray, List.append_toArray, List.nil_append, List.cons_append]
  obtain ⟨i0, hi, hz0, hz1, hz2⟩ := info_parts Try.infoByte
  gi_wp2
  generalize hW5 : World.alloc _ _ = W5
  have k0 : Boxed W5 w.heap.size 27 (.slice a k c) := by rw [← hW5]; exact Boxed.new _ _ _
  have k1 : Boxed W5 Bn 22 (.int .u64 (x : Nat)) := by rw [← hW5]; exact kn.alloc _
  have k2 : Boxed W5 Bs 3 (.int .i64 (s : Nat)) := by rw [← hW5]; exact ks.alloc _
  have hB0 : Below w.heap.size w W5 := by rw [← hW5]; exact chain0 _ _
  have hrow5 : W5.ownsRow n₀ 5 1 (.slice a k c) k xs := by rw [← hW5]; exact hrow.alloc _
  have hz : W5.heap.size = w.heap.size + 1 := by rw [← hW5]; simp
  have hBnw : Bn < w.heap.size := kn.lt
  clear hW5
  refine wpIn_rangeFunc_ownF (S := fun ys => ys = octs x s) rfl h1 (gf := 70) (lb := #[.pointer (some ⟨Bs, 0, none⟩), .pointer (some ⟨Bn, 0, none⟩)]) rfl trivial (enters_of Try.func70 (by kernel_rfl) rfl)
    (octets1_stops Fence.wide (m - 1) trivial rfl (by omega) x s hs Bn Bs W5 k1.lt k2.lt k1.cell k2.cell (KeepB Bn) (fun A B h => World.cell?_of_block h)) KeepB.t (KeepB.b k1.lt) (Below.refl _ _) (fun _ => rfl)
    (SeqI n₀ w.heap.size Bn x k xs w) (fun _ _ _ => False) (seqI_own hn₀ (by omega)) (fun _ _ _ _ _ hs _ _ => hs)
    ⟨⟨⟨⟨_, k0, by simpa using hrow5, trivial⟩, k1⟩, hB0.mono hn₀⟩, Spares.of_below hB0⟩ ?_ ?_ ?_ ?_ ?_
  rotate_left
  · intro l x W K hK
    gi_wp2
    exact hK
  · rintro l pre o W ⟨⟨⟨⟨v, kv, hown, _⟩, kn⟩, hB⟩, hsp⟩ hlt
    have ko := kv.cell
    have kf := kv.frozen
    have hNW : n₀ ≤ W.heap.size := Nat.le_trans hn₀ hB.size
    gi_wp2_with (gi_at_builtin; refine wpListIn_append_own _ rfl _ _ 27 rfl n₀ 5 i0 (.int .u8 0) 1 1 Try.underlying27 hi hz0 hz1 hz2 rfl (by decide) v (k + pre.length) (xs ++ pre.map bv) rfl (hown.alloc _) ⟨W.heap.size, 0, none⟩ 1 1 [bv o] rfl rfl (cell_one_new _ _ _) (by simp [Value.oneCell']) (by unfold maxLen; omega) (by omega) (by simp; omega) ?_; intro v' w1 hown' hgrow _; obtain ⟨g, cap, rfl⟩ := ownsRow_succ hown'; obtain ⟨hv1, kv', hrow', hk3, hbw⟩ := kv.appended (by decide) hown hNW hn₀ hown' hgrow; have ko1 := hv1.cell; have kf1 := hv1.frozen)
    have kn1 : Boxed w1 Bn 22 (.int .u64 (x : Nat)) := (kn.alloc _).kept hgrow (Boxed.not_row kn (by decide) hown)
    have kn3 := kn1.kept (grownBy_setCell' w1 w.heap.size (.slice (some ⟨g, 0, none⟩) (k + pre.length + 1) cap)) (fun e => by cases e; omega)
    have hsp1 := ((hsp.grown (World.grownBy_alloc W (.cells #[bv o] 5) none) (fun r e => by cases e)).grown hgrow (fun r e => .inr (ownsRow_block (hown.alloc _) r e))).grown (grownBy_setCell' w1 w.heap.size (.slice (some ⟨g, 0, none⟩) (k + pre.length + 1) cap)) (fun r e => by cases e; exact .inl (Nat.le_refl _))
    exact ⟨hk3, kn3.trans kn.symm, ⟨⟨⟨_, kv', by simpa [Nat.add_assoc] using hrow', trivial⟩, kn3⟩, hB.trans hbw⟩, hsp1⟩
  · rintro D ys W hD rfl ⟨⟨⟨⟨v, kv, hown, _⟩, kn⟩, hB⟩, hsp⟩ hK
    have ko := kv.cell
    have HZ := Lib.hid hz
    clear hz
    gi_wp2
    have hD' : w.heap.size ≤ D := by have := HZ.out; omega
    have hB' := hB.trans (belowK_b (w := w) hn₀ _ D _ (.deferred none) hD' hK rfl rfl)
    have hown3 := ownsRow_putObj hown (.deferred none) hK rfl
    have hsp3 := hsp.grown (grownBy_putObj' _ D (.deferred none)) (fun r e => by cases e; exact .inl hD')
    rw [octs_length] at hown3
    refine ⟨by simp, .inl ⟨_, _, rfl, run_takeDeferred hK, ?_⟩⟩
    refine ⟨v, ?_, ?_⟩
    · simp [results, Try.f62, go_sem]
    · exact ⟨v, rfl, hown3, hB', hsp3⟩
  · rintro D c pre W _ _ h _
    exact h.elim

end Go.Proofs.Ytiibeahgleaonaa
