/-
  blob.Num hands back a row of its own.
-/
import Derived.Test.YtakeickgjplahaaAppendB
namespace Go.Proofs.Ytakeickgjplahaa
open Go.RowKit Go.Shelf
attribute [local go_sem] Oper.semAt_some

set_option maxRecDepth 100000 in
set_option maxHeartbeats 4000000 in
theorem numO_in (m : Nat) (hm : 3 ≤ m) (n size : Int) (hs : -9223372036854775808 ≤ size) (hs' : size ≤ 9223372036854775807) (w : World) :
    CallsIn Fence.wide m Try.prog 16 #[.int .i64 n, .int .i64 size] w (ByO (octs (two n) (clamp size)) w) := by
  have h1 : 1 ≤ m := by omega
  refine callsIn_of_wp_marks Try.func16 rfl trivial ?_ rfl
  simp only [Try.ntmps16, List.size_toArray, List.length_cons, List.length_nil, Nat.reduceAdd, Nat.reduceSub, Array.replicate_succ, Array.replicate_zero, List.push_toArray, List.append_toArray, List.nil_append, List.cons_append]
  obtain ⟨i0, hi, hz0, hz1, hz2⟩ := info_parts Try.infoByte
  have hU : IntKind.u64.wrap n = (two n : Nat) := wrap_two n
  have hx : two n < M := by unfold two M; omega
  generalize two n = x at *
  have H8 := clamp_le size
  have hCC := clamp_cases size
  generalize clamp size = s at *
  rcases hCC with ⟨hc0, hC⟩ | ⟨hc0, hc8, hC⟩ | ⟨hc8, hC⟩
  all_goals
    have HC := Lib.hid hC
    clear hC
    gi_wp2_with (refine ⟨trivial, ?_⟩; gi_at_call 22; refine (octets_in Fence.wide (m - 1) trivial rfl _ _ _).mono ?_; rintro e w' ⟨rfl, rfl⟩)
    generalize hW5 : World.alloc _ _ = W5
    have k0 : Boxed W5 w.heap.size 23 (.slice none 0 0) := by rw [← hW5]; exact ((Boxed.new _ _ _).alloc _).alloc _
    have k1 : Boxed W5 (w.heap.size + 1) 54 (.int .u64 (x : Nat)) := by rw [← hW5]; exact (Blk.new' (vs := [.int .u64 (x : Nat)]) (by simp)).alloc _
    have k2 : Boxed W5 (w.heap.size + 1 + 1) 3 (.int .i64 (s : Nat)) := by rw [HC.out, ← hW5]; exact Blk.new' (vs := [.int .i64 _]) (by simp)
    have hB0 : Below w.heap.size w W5 := by rw [← hW5]; exact chainA (chainA (chain0 _ _) _) _
    have hz : W5.heap.size = w.heap.size + 3 := by rw [← hW5]; simp
    clear hW5
    refine wpIn_rangeFunc_ownF (S := fun ys => ys = octs x s) rfl h1 (gf := 25) (lb := #[.pointer (some ⟨w.heap.size + 1 + 1, 0, none⟩), .pointer (some ⟨w.heap.size + 1, 0, none⟩)]) rfl trivial (enters_of Try.func25 (by kernel_rfl) rfl)
      (octets1_stops Fence.wide (m - 1) trivial rfl (by omega) x s H8 (w.heap.size + 1) (w.heap.size + 1 + 1) W5 k1.lt k2.lt (k1.cell) k2.cell (KeepB (w.heap.size + 1)) (fun A B h => World.cell?_of_block h)) KeepB.t (KeepB.b k1.lt) (Below.refl _ _) (fun _ => rfl)
      (NumI w.heap.size (w.heap.size + 1) x w) (fun _ _ _ => False) (numI_own (Nat.le_refl _) (by omega)) (fun _ _ _ _ _ hs _ _ => hs)
      ⟨⟨⟨_, k0, World.ownsRow_nil _ _ _ _, trivial⟩, k1⟩, hB0⟩ ?_ ?_ ?_ ?_ ?_
    rotate_left
    · intro l x W K hK
      gi_wp2
      exact hK
    · rintro l pre o W ⟨⟨⟨v, kv, hown, _⟩, kn⟩, hB⟩ hlt
      have ko := kv.cell
      have kf := kv.frozen
      have hNW : w.heap.size ≤ W.heap.size := hB.size
      gi_wp2_with (gi_at_builtin; refine wpListIn_append_own _ rfl _ _ 23 rfl w.heap.size 5 i0 (.int .u8 0) 1 1 Try.underlying23 hi hz0 hz1 hz2 rfl (by decide) v pre.length (pre.map bv) rfl (hown.alloc _) ⟨W.heap.size, 0, none⟩ 1 1 [bv o] rfl rfl (cell_one_new _ _ _) (by simp [Value.oneCell']) (by unfold maxLen; omega) (by omega) (by simp; omega) ?_; intro v' w1 hown' hgrow _; obtain ⟨g, cap, rfl⟩ := ownsRow_succ hown'; obtain ⟨hv1, kv', hrow', hk3, hbw⟩ := kv.appended (by decide) hown hNW (Nat.le_refl _) hown' hgrow; have ko1 := hv1.cell; have kf1 := hv1.frozen)
      have hn1 : W.heap.size ≤ w1.heap.size := Nat.le_trans (by simp) hgrow.size
      have kn1 : Boxed w1 (w.heap.size + 1) 54 (.int .u64 (x : Nat)) := (kn.alloc _).kept hgrow (Boxed.not_row kn (by decide) hown)
      have kn3 := kn1.kept (grownBy_setCell' w1 w.heap.size (.slice (some ⟨g, 0, none⟩) (pre.length + 1) cap)) (by simp)
      exact ⟨hk3, kn3.trans kn.symm, ⟨⟨_, kv', by simpa using hrow', trivial⟩, kn3⟩, hB.trans hbw⟩
    · rintro D ys W hD rfl ⟨⟨⟨v, kv, hown, _⟩, kn⟩, hB⟩ hK
      have ko := kv.cell
      have HZ := Lib.hid hz
      clear hz
      gi_wp2
      have hB' := hB.trans (belowK_b (w := w) (Nat.le_refl _) _ D _ (.deferred none) (by have := HZ.out; omega) hK rfl rfl)
      have hown3 := ownsRow_putObj hown (.deferred none) hK rfl
      refine ⟨by simp, .inl ⟨_, _, rfl, run_takeDeferred hK, ?_⟩⟩
      refine ⟨v, ?_, ?_⟩
      · simp [results, Try.f16, go_sem]
      · exact ⟨v, rfl, hown3, hB'⟩
    · rintro D c pre W _ _ h _
      exact h.elim

theorem numO_any (n size : Int) (hs : -9223372036854775808 ≤ size) (hs' : size ≤ 9223372036854775807) (w : World) :
    Calls Try.prog 16 #[.int .i64 n, .int .i64 size] w (ByO (octs (two n) (clamp size)) w) := callsIn_wide.1 (numO_in 3 (by omega) n size hs hs' w)
end Go.Proofs.Ytakeickgjplahaa
